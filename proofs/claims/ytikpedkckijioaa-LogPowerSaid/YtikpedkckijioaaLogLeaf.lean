/- How a leaf is laid: the page that says it. (Written by gen/loglay.py.) -/
import Derived.Test.YtikpedkckijioaaLogSmall
import Derived.Test.YtikpedkckijioaaPhaseFree
namespace Go.Proofs.Ytikpedkckijioaa.Log
open Go.RowKit Disk
open PhaseG (wp_region_free)
open Phase (stepsL_cons stepsL_nil)

/-- A slice that reads as these bytes. -/
def SlAt (b : List UInt8) (x : Value) (W : World) : Prop := ∃ A n c, x = .slice A n c ∧ n = b.length ∧ n ≤ c ∧ Rd W A n b
theorem SlAt.below {b : List UInt8} {x : Value} {W W' : World} (h : SlAt b x W) (hb : Below W.heap.size W W') : SlAt b x W' := by
  obtain ⟨A, n, c, h1, h2, h3, h4⟩ := h
  exact ⟨A, n, c, h1, h2, h3, h4.below hb⟩
theorem _root_.Go.Proofs.Ytikpedkckijioaa.Put.sl {w w' : World} {b : List UInt8} {x : Value} (h : Put w b (.returned x) w') : SlAt b x w' ∧ Below w.heap.size w w' := by
  obtain ⟨A, n, c, h1, h2, h3, h4, h5⟩ := h
  injection h1 with h1
  exact ⟨⟨A, n, c, h1, h2, h3, (Rd.of_own h4).1⟩, h5⟩
theorem _root_.Go.Proofs.Ytikpedkckijioaa.Put.from {w w1 w' : World} {b : List UInt8} {e : Ending} (h : Put w1 b e w') (hb : Below w.heap.size w w1) : Put w b e w' := by
  obtain ⟨A, n, c, h1, h2, h3, h4, h5⟩ := h
  exact ⟨A, n, c, h1, h2, h3, own_base h4 hb.size, hb.trans (h5.mono hb.size)⟩
theorem _root_.Go.Proofs.Ytikpedkckijioaa.Put.val {w w' : World} {b : List UInt8} {e : Ending} (h : Put w b e w') : ∃ x, e = .returned x ∧ Put w b (.returned x) w' := by
  obtain ⟨A, n, c, rfl, h⟩ := h
  exact ⟨_, rfl, A, n, c, rfl, h⟩
/-- A row that was just built. -/
theorem rows_lit (w : World) (t : TypeId) (vs : List Value) : RdV (w.alloc (.cells vs.toArray t)) (some ⟨w.heap.size, 0, none⟩) vs.length vs :=
  ⟨rfl, fun _ => ⟨_, rfl, fun j u hu => by
    have hadd : ((⟨w.heap.size, 0, none⟩ : Addr).add j) = ⟨w.heap.size, j, none⟩ := by unfold Addr.add; split <;> simp_all
    rw [hadd, (Bk.new w t vs.toArray).cell j]
    simpa using hu⟩⟩
theorem Many.sl {W : World} {b : List UInt8} {x : Value} {vs : List Value} {bs : List (List UInt8)} (h1 : SlAt b x W) (h : Many W vs bs) : Many W (x :: vs) (b :: bs) := by
  obtain ⟨A, n, c, rfl, _, h3, h4⟩ := h1
  exact Many.cons_ h4 h3 h
/-- A leaf in a box. -/
structure LfAt (W : World) (g : Nat) (s a o : Nat) (A : Option Addr) (n c : Nat) : Prop where
  c0 : W.cell? ⟨g, 0, none⟩ = some (.int .u64 (s : Int))
  c1 : W.cell? ⟨g, 1, none⟩ = some (.int .u16 (a : Int))
  c2 : W.cell? ⟨g, 2, none⟩ = some (.int .u16 (o : Int))
  c3 : W.cell? ⟨g, 3, none⟩ = some (.slice A n c)
theorem LfAt.keep {W W' : World} {g s a o : Nat} {A : Option Addr} {n c : Nat} (h : LfAt W g s a o A n c) (hk : W'.heap[g]? = W.heap[g]?) : LfAt W' g s a o A n c :=
  have e : ∀ i, W'.cell? ⟨g, i, none⟩ = W.cell? ⟨g, i, none⟩ := fun i => World.cell?_of_block (w := W) (by exact hk)
  ⟨(e 0).trans h.c0, (e 1).trans h.c1, (e 2).trans h.c2, (e 3).trans h.c3⟩
theorem LfAt.new (w : World) (t : TypeId) (s a o : Nat) (A : Option Addr) (n c : Nat) : LfAt (w.alloc (.cells #[.int .u64 (s : Int), .int .u16 (a : Int), .int .u16 (o : Int), .slice A n c] t)) w.heap.size s a o A n c :=
  have h := Bk.new w t #[.int .u64 (s : Int), .int .u16 (a : Int), .int .u16 (o : Int), .slice A n c]
  ⟨h.cell 0, h.cell 1, h.cell 2, h.cell 3⟩
def RL1 (w : World) (s _p _o n c : Nat) (A : Option Addr) (_b : List UInt8) : Nat → Value → World → Prop
  | 0, x, _ => x = .pointer (some ⟨w.heap.size, 0, none⟩)
  | 1, x, _ => x = .int .u64 (s : Int)
  | 2, x, W => SlAt (be 8 s) x W
  | 3, x, _ => x = .pointer (some ⟨w.heap.size, 3, none⟩)
  | 4, x, _ => x = .slice A n c
  | 5, x, _ => x = .int .i64 (n : Int)
  | 6, x, _ => x = .int .i64 ((480 - n : Nat) : Int)
  | 7, x, W => SlAt (List.replicate (480 - n) 0) x W
  | 8, x, W => SlAt (be 8 s) x W
  | 9, x, W => SlAt (List.replicate (480 - n) 0) x W
  | _, _, _ => True
theorem RL1.below (w : World) (s p o n c : Nat) (A : Option Addr) (b : List UInt8) {k : Nat} {x : Value} {W W' : World} (h : RL1 w s p o n c A b k x W) (hb : Below W.heap.size W W') : RL1 w s p o n c A b k x W' := by
  match k, h with
  | 0, h => exact h
  | 1, h => exact h
  | 2, h => exact SlAt.below h hb
  | 3, h => exact h
  | 4, h => exact h
  | 5, h => exact h
  | 6, h => exact h
  | 7, h => exact SlAt.below h hb
  | 8, h => exact SlAt.below h hb
  | 9, h => exact SlAt.below h hb
  | _ + 10, _ => trivial
def RL2 (w : World) (s p o n c : Nat) (A : Option Addr) (b : List UInt8) : Nat → Value → World → Prop
  | 0, x, W => SlAt (be 8 s) x W
  | 1, x, _ => x = .pointer (some ⟨w.heap.size, 1, none⟩)
  | 2, x, _ => x = .int .u16 (p : Int)
  | 3, x, W => SlAt (be 2 p) x W
  | 4, x, _ => x = .pointer (some ⟨w.heap.size, 2, none⟩)
  | 5, x, _ => x = .int .u16 (o : Int)
  | 6, x, W => SlAt (be 2 o) x W
  | 7, x, _ => x = .pointer (some ⟨w.heap.size, 3, none⟩)
  | 8, x, _ => x = .slice A n c
  | 9, x, W => SlAt (be 4 n ++ b) x W
  | 10, x, W => SlAt (List.replicate (480 - n) 0) x W
  | 11, x, W => ∃ g vs, x = .slice (some ⟨g, 0, none⟩) 5 5 ∧ RdV W (some ⟨g, 0, none⟩) 5 vs ∧ Many W vs [be 8 s, be 2 p, be 2 o, be 4 n ++ b, List.replicate (480 - n) 0]
  | 12, x, W => SlAt (bodyP s p o b) x W
  | 13, x, W => SlAt (bodyP s p o b) x W
  | _, _, _ => True
theorem RL2.below (w : World) (s p o n c : Nat) (A : Option Addr) (b : List UInt8) {k : Nat} {x : Value} {W W' : World} (h : RL2 w s p o n c A b k x W) (hb : Below W.heap.size W W') : RL2 w s p o n c A b k x W' := by
  match k, h with
  | 0, h => exact SlAt.below h hb
  | 1, h => exact h
  | 2, h => exact h
  | 3, h => exact SlAt.below h hb
  | 4, h => exact h
  | 5, h => exact h
  | 6, h => exact SlAt.below h hb
  | 7, h => exact h
  | 8, h => exact h
  | 9, h => exact SlAt.below h hb
  | 10, h => exact SlAt.below h hb
  | 11, h => obtain ⟨g, vs, h1, h2, h3⟩ := h; exact ⟨g, vs, h1, h2.below hb, h3.below hb⟩
  | 12, h => exact SlAt.below h hb
  | 13, h => exact SlAt.below h hb
  | _ + 14, _ => trivial
theorem zeros_new (w : World) (z : Nat) : Rd (w.alloc (.cells (List.replicate z (U 0)).toArray 5)) (some ⟨w.heap.size, 0, none⟩) z (List.replicate z 0) := by
  have := rd_lit w 5 (0, 0) (List.replicate z 0)
  simpa using this
set_option maxRecDepth 100000 in
set_option maxHeartbeats 2000000 in
theorem leaf_lay (s p o n c : Nat) (A : Option Addr) (b : List UInt8) (w : World) (hs : s < 18446744073709551616) (hp : p < 65536) (ho : o < 65536) (h : Rd w A n b) (hn : n ≤ 480) :
    Calls Try.prog 54 #[.agg #[.int .u64 (s : Int), .int .u16 (p : Int), .int .u16 (o : Int), .slice A n c]] w (Put w (leafP s p o b)) := by
  obtain ⟨i0, hi, hz0, hz1, hz2⟩ := info_parts info_byte
  have HI := Lib.hid hi
  have HZ0 := Lib.hid hz0
  have HZ1 := Lib.hid hz1
  have HZ2 := Lib.hid hz2
  clear hi hz0 hz1 hz2
  have HS := Lib.hid hs
  have HP16 := Lib.hid hp
  have HO16 := Lib.hid ho
  have HN4 := Lib.hid hn
  have HBL : Hid (b.length = n) := h.len
  have HB0 : Hid (Below w.heap.size w (w.alloc (.cells #[.int .u64 (s : Int), .int .u16 (p : Int), .int .u16 (o : Int), .slice A n c] 79))) := (Below.refl _ _).alloc (Nat.le_refl _) _
  have HBODY : Hid ([be 8 s, be 2 p, be 2 o, be 4 n ++ b, List.replicate (480 - n) 0].flatten = bodyP s p o b) := by
    show _ = _
    unfold bodyP
    rw [h.len]
    simp
  have hlf : LfAt (w.alloc (.cells #[.int .u64 (s : Int), .int .u16 (p : Int), .int .u16 (o : Int), .slice A n c] 79)) w.heap.size s p o A n c := LfAt.new w _ s p o A n c
  obtain ⟨w0, hw0⟩ : ∃ w0, w0 = w.alloc (.cells #[.int .u64 (s : Int), .int .u16 (p : Int), .int .u16 (o : Int), .slice A n c] 79) := ⟨_, rfl⟩
  have hsz : w.heap.size < w0.heap.size := by rw [hw0, size_new]; omega
  rw [← hw0] at HB0 hlf
  have HL1 : Hid (∀ W, Below w0.heap.size w0 W → LfAt W w.heap.size s p o A n c) := fun W hW => hlf.keep (hW.block _ hsz)
  have HRB0 : Hid (∀ W, Below w0.heap.size w0 W → Rd W A n b) := fun W hW => (h.below HB0.out).below hW
  have HW0 := Lib.hid hw0
  have HSZ := Lib.hid hsz
  have HSUM : Hid (Crc.sum (bodyP s p o b) < 18446744073709551616) := Crc.sum_lt _
  clear hs hp ho hn h hlf hw0 hsz
  go_enter Try.func54, Try.ntmps54
  go_wp2_with fail
  rw [← HW0.out]
  refine wp_region_free (RL1 w s p o n c A b) (by kernel_rfl) (by kernel_rfl) (by kernel_rfl) ?_ ?_ (fun v => { tmps := #[.agg #[.int .u64 (s : Int), .int .u16 (p : Int), .int .u16 (o : Int), .slice A n c], .pointer (some ⟨w.heap.size, 0, none⟩), .slice none 0 0, v 8, v 9, undef, undef, v 0, v 1, v 2, v 3, v 4, v 5, v 6, v 7, undef, undef, undef, undef, undef, undef, undef, undef, undef, undef, undef, undef, undef, undef, undef, undef, undef, undef, undef, undef, undef, undef], defers := [] }) (fun v => by kernel_rfl) ?_
  · intro k x W W' hx h1 h2
    exact RL1.below _ _ _ _ _ _ _ _ hx h2
  · refine stepsL_cons ?_ (stepsL_cons ?_ (stepsL_cons ?_ (stepsL_cons ?_ (stepsL_cons ?_ (stepsL_cons ?_ (stepsL_cons ?_ (stepsL_cons ?_ (stepsL_cons ?_ (stepsL_cons ?_ (stepsL_nil))))))))))
    · intro a v W hd hb K hK
      have k1 : a.tmps.getD 1 undef = .pointer (some ⟨w.heap.size, 0, none⟩) := hd.kept 1 (by kernel_rfl)
      have hk := hK (.pointer (some ⟨w.heap.size, 0, none⟩)) W (Below.refl _ _) rfl
      clear hK
      unfold Oper.wp
      go_simp
      exact hk
    · intro a v W hd hb K hK
      obtain ⟨h7, r7⟩ := hd.done_ 0 _ 7 (by kernel_rfl) rfl rfl
      have r7 : v 0 = .pointer (some ⟨w.heap.size, 0, none⟩) := r7
      rw [r7] at h7
      have c0 := (HL1.out W hb).c0
      have hk := hK (.int .u64 (s : Int)) W (Below.refl _ _) rfl
      clear hK
      unfold Oper.wp
      go_simp
      exact hk
    · intro a v W hd hb K hK
      obtain ⟨h8, r8⟩ := hd.done_ 1 _ 8 (by kernel_rfl) rfl rfl
      have r8 : v 1 = .int .u64 (s : Int) := r8
      rw [r8] at h8
      have cw := Uint_any none 0 0 s (s : Int) [] W (Rd.nil_ _ _) rfl HS.out (by omega)
      unfold Oper.wp
      go_simp
      refine cw.mono ?_
      intro e W' hp
      obtain ⟨x, rfl, hp⟩ := hp.val
      obtain ⟨h1, h2⟩ := hp.sl
      exact hK x W' h2 h1
    · intro a v W hd hb K hK
      have k1 : a.tmps.getD 1 undef = .pointer (some ⟨w.heap.size, 0, none⟩) := hd.kept 1 (by kernel_rfl)
      have hk := hK (.pointer (some ⟨w.heap.size, 3, none⟩)) W (Below.refl _ _) rfl
      clear hK
      unfold Oper.wp
      go_simp
      exact hk
    · intro a v W hd hb K hK
      obtain ⟨h10, r10⟩ := hd.done_ 3 _ 10 (by kernel_rfl) rfl rfl
      have r10 : v 3 = .pointer (some ⟨w.heap.size, 3, none⟩) := r10
      rw [r10] at h10
      have c3 := (HL1.out W hb).c3
      have hk := hK (.slice A n c) W (Below.refl _ _) rfl
      clear hK
      unfold Oper.wp
      go_simp
      exact hk
    · intro a v W hd hb K hK
      obtain ⟨h11, r11⟩ := hd.done_ 4 _ 11 (by kernel_rfl) rfl rfl
      have r11 : v 4 = .slice A n c := r11
      rw [r11] at h11
      have hk := hK (.int .i64 (n : Int)) W (Below.refl _ _) rfl
      clear hK
      unfold Oper.wp
      go_simp
      exact hk
    · intro a v W hd hb K hK
      obtain ⟨h12, r12⟩ := hd.done_ 5 _ 12 (by kernel_rfl) rfl rfl
      have r12 : v 5 = .int .i64 (n : Int) := r12
      rw [r12] at h12
      have w1 : IntKind.i64.wrap (480 - (n : Int)) = ((480 - n : Nat) : Int) := by rw [IntKind.wrap_i64]; have := HN4.out; omega
      have hk := hK (.int .i64 ((480 - n : Nat) : Int)) W (Below.refl _ _) rfl
      clear hK
      unfold Oper.wp
      go_simp
      exact hk
    · intro a v W hd hb K hK
      obtain ⟨h13, r13⟩ := hd.done_ 6 _ 13 (by kernel_rfl) rfl rfl
      have r13 : v 6 = .int .i64 ((480 - n : Nat) : Int) := r13
      rw [r13] at h13
      have hmk := run_make_bytes (P := Try.prog) ty_bytes HI.out HZ0.out HZ1.out HZ2.out .i64 .i64 (480 - n) ((480 - n : Nat) : Int) (Int.le_refl _) (by omega) W
      rw [Int.toNat_natCast] at hmk
      have hk := hK (.slice (some ⟨W.heap.size, 0, none⟩) (480 - n) (480 - n)) _ ((Below.refl _ _).alloc (Nat.le_refl _) _) ⟨_, _, _, rfl, by rw [List.length_replicate], Nat.le_refl _, zeros_new W (480 - n)⟩
      generalize 480 - n = z at *
      unfold Oper.wp
      go_simp
      exact hk
    · intro a v W hd hb K hK
      obtain ⟨h9, r9⟩ := hd.done_ 2 _ 9 (by kernel_rfl) rfl rfl
      have q9 := r9
      obtain ⟨A9, n9, c9, e9, -⟩ := r9
      rw [e9] at h9 q9
      have hk := hK (.slice A9 n9 c9) W (Below.refl _ _) q9
      clear hK
      unfold Oper.wp
      go_simp
      exact hk
    · intro a v W hd hb K hK
      obtain ⟨h14, r14⟩ := hd.done_ 7 _ 14 (by kernel_rfl) rfl rfl
      have q14 := r14
      obtain ⟨A9, n9, c9, e9, -⟩ := r14
      rw [e9] at h14 q14
      have hk := hK (.slice A9 n9 c9) W (Below.refl _ _) q14
      clear hK
      unfold Oper.wp
      go_simp
      exact hk
  · intro v w1 hb1 hv
    have v0 : v 0 = .pointer (some ⟨w.heap.size, 0, none⟩) := hv 0 (by decide)
    have v1 : v 1 = .int .u64 (s : Int) := hv 1 (by decide)
    have v3 : v 3 = .pointer (some ⟨w.heap.size, 3, none⟩) := hv 3 (by decide)
    have v4 : v 4 = .slice A n c := hv 4 (by decide)
    have v5 : v 5 = .int .i64 (n : Int) := hv 5 (by decide)
    have v6 : v 6 = .int .i64 ((480 - n : Nat) : Int) := hv 6 (by decide)
    have v8 : SlAt (be 8 s) (v 8) w1 := hv 8 (by decide)
    have v9 : SlAt (List.replicate (480 - n) 0) (v 9) w1 := hv 9 (by decide)
    clear hv
    rw [v0, v1, v3, v4, v5, v6]
    generalize v 2 = x9
    generalize v 7 = x14
    obtain ⟨A9, n9, c9, e9, hl9, hc9, hr9⟩ := v8
    obtain ⟨A14, n14, c14, e14, hl14, hc14, hr14⟩ := v9
    rw [e9, e14]
    have HB1 := Lib.hid hb1
    have HQ9 : Hid (∀ W, Below w1.heap.size w1 W → SlAt (be 8 s) (.slice A9 n9 c9) W) := fun W hW => ⟨_, _, _, rfl, hl9, hc9, hr9.below hW⟩
    have HQ14 : Hid (∀ W, Below w1.heap.size w1 W → SlAt (List.replicate (480 - n) 0) (.slice A14 n14 c14) W) := fun W hW => ⟨_, _, _, rfl, hl14, hc14, hr14.below hW⟩
    have HL2 : Hid (∀ W, Below w1.heap.size w1 W → LfAt W w.heap.size s p o A n c) := fun W hW => HL1.out W (hb1.trans (hW.mono hb1.size))
    have HRB : Hid (∀ W, Below w1.heap.size w1 W → Rd W A n b) := fun W hW => HRB0.out W (hb1.trans (hW.mono hb1.size))
    clear v0 v1 v3 v4 v5 v6 e9 e14 hl9 hc9 hr9 hl14 hc14 hr14 hb1 HRB0 HL1
    clear v
    go_wp2_with fail
    refine wp_region_free (RL2 w s p o n c A b) (by kernel_rfl) (by kernel_rfl) (by kernel_rfl) ?_ ?_ (fun v => { tmps := #[.agg #[.int .u64 (s : Int), .int .u16 (p : Int), .int .u16 (o : Int), .slice A n c], .pointer (some ⟨w.heap.size, 0, none⟩), .slice none 0 0, .slice A9 n9 c9, .slice A14 n14 c14, v 13, undef, .pointer (some ⟨w.heap.size, 0, none⟩), .int .u64 (s : Int), x9, .pointer (some ⟨w.heap.size, 3, none⟩), .slice A n c, .int .i64 (n : Int), .int .i64 ((480 - n : Nat) : Int), x14, v 0, v 1, v 2, v 3, v 4, v 5, v 6, v 7, v 8, v 9, v 10, v 11, v 12, undef, undef, undef, undef, undef, undef, undef, undef, undef], defers := [] }) (fun v => by kernel_rfl) ?_
    · intro k x W W' hx h1 h2
      exact RL2.below _ _ _ _ _ _ _ _ hx h2
    · refine stepsL_cons ?_ (stepsL_cons ?_ (stepsL_cons ?_ (stepsL_cons ?_ (stepsL_cons ?_ (stepsL_cons ?_ (stepsL_cons ?_ (stepsL_cons ?_ (stepsL_cons ?_ (stepsL_cons ?_ (stepsL_cons ?_ (stepsL_cons ?_ (stepsL_cons ?_ (stepsL_cons ?_ (stepsL_nil))))))))))))))
      · intro a v W hd hb K hK
        have k3 : a.tmps.getD 3 undef = .slice A9 n9 c9 := hd.kept 3 (by kernel_rfl)
        have hk := hK (.slice A9 n9 c9) W (Below.refl _ _) (HQ9.out W hb)
        clear hK
        unfold Oper.wp
        go_simp
        exact hk
      · intro a v W hd hb K hK
        have k1 : a.tmps.getD 1 undef = .pointer (some ⟨w.heap.size, 0, none⟩) := hd.kept 1 (by kernel_rfl)
        have hk := hK (.pointer (some ⟨w.heap.size, 1, none⟩)) W (Below.refl _ _) rfl
        clear hK
        unfold Oper.wp
        go_simp
        exact hk
      · intro a v W hd hb K hK
        obtain ⟨h16, r16⟩ := hd.done_ 1 _ 16 (by kernel_rfl) rfl rfl
        have r16 : v 1 = .pointer (some ⟨w.heap.size, 1, none⟩) := r16
        rw [r16] at h16
        have c1 := (HL2.out W hb).c1
        have hk := hK (.int .u16 (p : Int)) W (Below.refl _ _) rfl
        clear hK
        unfold Oper.wp
        go_simp
        exact hk
      · intro a v W hd hb K hK
        obtain ⟨h17, r17⟩ := hd.done_ 2 _ 17 (by kernel_rfl) rfl rfl
        have r17 : v 2 = .int .u16 (p : Int) := r17
        rw [r17] at h17
        have cw := putTwo_any p HP16.out W
        unfold Oper.wp
        go_simp
        refine cw.mono ?_
        intro e W' hp
        obtain ⟨x, rfl, hp⟩ := hp.val
        obtain ⟨h1, h2⟩ := hp.sl
        exact hK x W' h2 h1
      · intro a v W hd hb K hK
        have k1 : a.tmps.getD 1 undef = .pointer (some ⟨w.heap.size, 0, none⟩) := hd.kept 1 (by kernel_rfl)
        have hk := hK (.pointer (some ⟨w.heap.size, 2, none⟩)) W (Below.refl _ _) rfl
        clear hK
        unfold Oper.wp
        go_simp
        exact hk
      · intro a v W hd hb K hK
        obtain ⟨h19, r19⟩ := hd.done_ 4 _ 19 (by kernel_rfl) rfl rfl
        have r19 : v 4 = .pointer (some ⟨w.heap.size, 2, none⟩) := r19
        rw [r19] at h19
        have c2 := (HL2.out W hb).c2
        have hk := hK (.int .u16 (o : Int)) W (Below.refl _ _) rfl
        clear hK
        unfold Oper.wp
        go_simp
        exact hk
      · intro a v W hd hb K hK
        obtain ⟨h20, r20⟩ := hd.done_ 5 _ 20 (by kernel_rfl) rfl rfl
        have r20 : v 5 = .int .u16 (o : Int) := r20
        rw [r20] at h20
        have cw := putTwo_any o HO16.out W
        unfold Oper.wp
        go_simp
        refine cw.mono ?_
        intro e W' hp
        obtain ⟨x, rfl, hp⟩ := hp.val
        obtain ⟨h1, h2⟩ := hp.sl
        exact hK x W' h2 h1
      · intro a v W hd hb K hK
        have k1 : a.tmps.getD 1 undef = .pointer (some ⟨w.heap.size, 0, none⟩) := hd.kept 1 (by kernel_rfl)
        have hk := hK (.pointer (some ⟨w.heap.size, 3, none⟩)) W (Below.refl _ _) rfl
        clear hK
        unfold Oper.wp
        go_simp
        exact hk
      · intro a v W hd hb K hK
        obtain ⟨h22, r22⟩ := hd.done_ 7 _ 22 (by kernel_rfl) rfl rfl
        have r22 : v 7 = .pointer (some ⟨w.heap.size, 3, none⟩) := r22
        rw [r22] at h22
        have c3 := (HL2.out W hb).c3
        have hk := hK (.slice A n c) W (Below.refl _ _) rfl
        clear hK
        unfold Oper.wp
        go_simp
        exact hk
      · intro a v W hd hb K hK
        obtain ⟨h23, r23⟩ := hd.done_ 8 _ 23 (by kernel_rfl) rfl rfl
        have r23 : v 8 = .slice A n c := r23
        rw [r23] at h23
        have cw := Text_any none A 0 0 n c [] b W (Rd.nil_ _ _) (HRB.out W hb) (by omega) (by have := HN4.out; omega)
        unfold Oper.wp
        go_simp
        refine cw.mono ?_
        intro e W' hp
        obtain ⟨x, rfl, hp⟩ := hp.val
        obtain ⟨h1, h2⟩ := hp.sl
        exact hK x W' h2 h1
      · intro a v W hd hb K hK
        have k4 : a.tmps.getD 4 undef = .slice A14 n14 c14 := hd.kept 4 (by kernel_rfl)
        have hk := hK (.slice A14 n14 c14) W (Below.refl _ _) (HQ14.out W hb)
        clear hK
        unfold Oper.wp
        go_simp
        exact hk
      · intro a v W hd hb K hK
        obtain ⟨h15, r15⟩ := hd.done_ 0 _ 15 (by kernel_rfl) rfl rfl
        obtain ⟨Ap0, np0, cp0, ep0, lp0, bp0, qp0⟩ := r15
        rw [ep0] at h15
        obtain ⟨h18, r18⟩ := hd.done_ 3 _ 18 (by kernel_rfl) rfl rfl
        obtain ⟨Ap3, np3, cp3, ep3, lp3, bp3, qp3⟩ := r18
        rw [ep3] at h18
        obtain ⟨h21, r21⟩ := hd.done_ 6 _ 21 (by kernel_rfl) rfl rfl
        obtain ⟨Ap6, np6, cp6, ep6, lp6, bp6, qp6⟩ := r21
        rw [ep6] at h21
        obtain ⟨h24, r24⟩ := hd.done_ 9 _ 24 (by kernel_rfl) rfl rfl
        obtain ⟨Ap9, np9, cp9, ep9, lp9, bp9, qp9⟩ := r24
        rw [ep9] at h24
        obtain ⟨h25, r25⟩ := hd.done_ 10 _ 25 (by kernel_rfl) rfl rfl
        obtain ⟨Ap10, np10, cp10, ep10, lp10, bp10, qp10⟩ := r25
        rw [ep10] at h25
        have hb1 : Below W.heap.size W (W.alloc (.cells #[.slice Ap0 np0 cp0, .slice Ap3 np3 cp3, .slice Ap6 np6 cp6, .slice Ap9 np9 cp9, .slice Ap10 np10 cp10] 32)) := (Below.refl _ _).alloc (Nat.le_refl _) _
        have hm : Many W [.slice Ap0 np0 cp0, .slice Ap3 np3 cp3, .slice Ap6 np6 cp6, .slice Ap9 np9 cp9, .slice Ap10 np10 cp10] [be 8 s, be 2 p, be 2 o, be 4 n ++ b, List.replicate (480 - n) 0] := .cons_ qp0 bp0 (.cons_ qp3 bp3 (.cons_ qp6 bp6 (.cons_ qp9 bp9 (.cons_ qp10 bp10 (.nil_ W)))))
        have hk := hK (.slice (some ⟨W.heap.size, 0, none⟩) 5 5) _ hb1 ⟨W.heap.size, _, rfl, rows_lit W 32 [.slice Ap0 np0 cp0, .slice Ap3 np3 cp3, .slice Ap6 np6 cp6, .slice Ap9 np9 cp9, .slice Ap10 np10 cp10], hm.below hb1⟩
        clear hK hm hb1 lp0 lp3 lp6 lp9 lp10 bp0 bp3 bp6 bp9 bp10
        rw [Array.getD_eq_getD_getElem?] at h15 h18 h21 h24 h25
        unfold Oper.wp
        go_simp
        exact hk
      · intro a v W hd hb K hK
        obtain ⟨h26, r26⟩ := hd.done_ 11 _ 26 (by kernel_rfl) rfl rfl
        obtain ⟨g5, vs5, e5, hr5, hm5⟩ := r26
        rw [e5] at h26
        have cw := together_any _ 5 5 vs5 _ W hr5 hm5 (by have := HN4.out; simp [be_length, HBL.out]; omega) (by omega)
        rw [HBODY.out] at cw
        unfold Oper.wp
        go_simp
        refine cw.mono ?_
        intro e W' hp
        obtain ⟨x, rfl, hp⟩ := hp.val
        obtain ⟨h1, h2⟩ := hp.sl
        exact hK x W' h2 h1
      · intro a v W hd hb K hK
        obtain ⟨h27, r27⟩ := hd.done_ 12 _ 27 (by kernel_rfl) rfl rfl
        have q27 := r27
        obtain ⟨A27, n27, c27, e27, -⟩ := r27
        rw [e27] at h27 q27
        have hk := hK (.slice A27 n27 c27) W (Below.refl _ _) q27
        clear hK
        unfold Oper.wp
        go_simp
        exact hk
    · intro v w2 hb2 hv
      have v13 : SlAt (bodyP s p o b) (v 13) w2 := hv 13 (by decide)
      have v12 : SlAt (bodyP s p o b) (v 12) w2 := hv 12 (by decide)
      clear hv
      obtain ⟨A27, n27, c27, e27, hl27, hc27, hr27⟩ := v13
      obtain ⟨A28, n28, c28, e28, -⟩ := v12
      rw [e27, e28]
      generalize v 0 = y0
      generalize v 1 = y1
      generalize v 2 = y2
      generalize v 3 = y3
      generalize v 4 = y4
      generalize v 5 = y5
      generalize v 6 = y6
      generalize v 7 = y7
      generalize v 8 = y8
      generalize v 9 = y9
      generalize v 10 = y10
      generalize v 11 = y11
      have HB2 := Lib.hid (HB1.out.trans (hb2.mono HB1.out.size))
      have HR2 := Lib.hid hr27
      have HR9 := Lib.hid (HQ9.out w2 hb2)
      have HL27 : Hid (n27 = 496) := by show _ = _; rw [hl27, bodyP_length (by rw [HBL.out]; exact HN4.out)]
      have HC27 := Lib.hid hc27
      clear e27 e28 hl27 hc27 hr27 hb2 HL2 HRB HQ9 HQ14 HI HZ0 HZ1 HZ2
      clear v
      go_wp2_with fail
      have cs := Crc.Sum_any A27 n27 c27 _ w2 HR2.out (by rw [HL27.out]; omega)
      refine cs.mono ?_
      clear cs
      rintro e w3 ⟨rfl, hb3⟩
      have HB3 := Lib.hid (HB2.out.trans (hb3.mono HB2.out.size))
      have HR3 := Lib.hid (HR2.out.below hb3)
      have HR93 := Lib.hid (HR9.out.below hb3)
      clear hb3
      go_wp2_with fail
      have cr := rev_any (Crc.sum (bodyP s p o b)) HSUM.out w3
      refine cr.mono ?_
      clear cr
      rintro e w4 ⟨rfl, rfl⟩
      go_wp2_with fail
      have cu := Uint_any none 0 0 (rev (Crc.sum (bodyP s p o b))) _ [] w3 (Rd.nil_ _ _) rfl (rev_lt HSUM.out) (by omega)
      refine cu.mono ?_
      clear cu
      intro e w4 hp
      obtain ⟨x, rfl, hp⟩ := hp.val
      obtain ⟨h1, h2⟩ := hp.sl
      have HB4 := Lib.hid (HB3.out.trans (h2.mono HB3.out.size))
      have HM : Hid (Many w4 [.slice A27 n27 c27, x, .slice A9 n9 c9] [bodyP s p o b, be 8 (rev (Crc.sum (bodyP s p o b))), be 8 s]) :=
        .sl ⟨_, _, _, rfl, by rw [HR3.out.len], HC27.out, HR3.out.below h2⟩ (.sl h1 (.sl (HR93.out.below h2) (.nil_ w4)))
      obtain ⟨A4, n4, c4, rfl, -⟩ := h1
      clear h2 hp
      go_wp2_with fail
      have hb5 : Below w4.heap.size w4 (w4.alloc (.cells #[.slice A27 n27 c27, .slice A4 n4 c4, .slice A9 n9 c9] 32)) := (Below.refl _ _).alloc (Nat.le_refl _) _
      have ct := together_any _ 3 3 _ _ _ (rows_lit w4 32 [.slice A27 n27 c27, .slice A4 n4 c4, .slice A9 n9 c9]) (HM.out.below hb5) (by simp [be_length, bodyP_length (s := s) (a := p) (o := o) (b := b) (by rw [HBL.out]; exact HN4.out)]) (by omega)
      refine ct.mono ?_
      clear ct
      intro e w5 hp
      have hf := (hp.from (HB4.out.trans (hb5.mono HB4.out.size))).from HB0.out
      have hl : [bodyP s p o b, be 8 (rev (Crc.sum (bodyP s p o b))), be 8 s].flatten = leafP s p o b := by
        unfold leafP
        rw [be_rev HSUM.out]
        simp
      rw [hl] at hf
      obtain ⟨x, rfl, hf⟩ := hf.val
      have HF := Lib.hid hf
      obtain ⟨A5, n5, c5, e5, -⟩ := hf
      injection e5 with e5
      subst e5
      clear hp hl hb5
      go_wp2_with fail
      go_ret
      exact HF.out
end Go.Proofs.Ytikpedkckijioaa.Log
