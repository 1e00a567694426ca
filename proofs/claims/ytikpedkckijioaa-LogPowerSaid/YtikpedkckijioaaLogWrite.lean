/- A leaf is written. (Written by gen/logwrite.py.) -/
import Derived.Test.YtikpedkckijioaaLogDo
namespace Go.Proofs.Ytikpedkckijioaa.Log
open Go.RowKit Disk
open PhaseG (wp_region_stagesF)
open Phase (stepsL_cons stepsL_nil reachB)

theorem wrap_small (x : Int) (h1 : 0 ≤ x) (h2 : x ≤ 1000000000) : IntKind.i64.wrap x = x := by
  rw [IntKind.wrap_i64]
  omega
theorem fk_facts (f k : Nat) (h : f + k ≤ 1000000) : wrap64 ((f : Int) + (k : Int)) = (f : Int) + (k : Int) ∧ IntKind.i64.wrap ((f : Int) + (k : Int)) = (f : Int) + (k : Int) ∧ ((f + k : Nat) : Int) = (f : Int) + (k : Int) := ⟨IntWalk.wrap64_in _ (by omega), wrap_small _ (by omega) (by omega), by omega⟩
def vW (g gd f k : Nat) (lf : Value) (z : Int) (A' : Option Addr) (c' : Nat) : Nat → Value
  | 0 => .pointer (some ⟨g, 0, none⟩)
  | 1 => .pointer (some ⟨g, 0, none⟩)
  | 2 => .pointer (some ⟨g, 0, none⟩)
  | 3 => .pointer (some ⟨gd, 0, none⟩)
  | 4 => .pointer (some ⟨g, 0, none⟩)
  | 5 => .pointer (some ⟨g, 0, none⟩)
  | 6 => .pointer (some ⟨g, 1, none⟩)
  | 7 => .int .i64 (f : Int)
  | 8 => .int .i64 (k : Int)
  | 9 => .int .i64 ((f + k : Nat) : Int)
  | 10 => lf
  | 11 => .slice A' 512 c'
  | 12 => .int .i64 z
  | 13 => .int .i64 z
  | _ => undef
def PhW (w0 : World) (X : Nat → Prop) (d' : DK) (page : List UInt8) (g gd f k : Nat) (lf : Value) (z : Int) (s : Nat) (v : Nat → Value) (W : World) : Prop :=
  ∃ A' c', v = vW g gd f k lf z A' c' ∧ match s with
  | 0 => Below w0.heap.size w0 W
  | 1 => Below w0.heap.size w0 W ∧ Rd W A' 512 page ∧ ∀ a, A' = some a → w0.heap.size ≤ a.block
  | _ => ∃ X', DkAt W X' gd d' ∧ Out X w0 W ∧ ∀ k, X' k → X k ∨ w0.heap.size ≤ k
theorem PhW.vals {w0 : World} {X : Nat → Prop} {d' : DK} {page : List UInt8} {g gd f k : Nat} {lf : Value} {z : Int} {s : Nat} {v : Nat → Value} {W : World} (h : PhW w0 X d' page g gd f k lf z s v W) : ∃ A' c', v = vW g gd f k lf z A' c' := by
  obtain ⟨A', c', h, _⟩ := h
  exact ⟨A', c', h⟩
theorem PhW.below {w0 : World} {X : Nat → Prop} {d' : DK} {page : List UInt8} {g gd f k : Nat} {lf : Value} {z : Int} {s : Nat} {v : Nat → Value} {W : World} (h : PhW w0 X d' page g gd f k lf z s v W) (hs : s ≤ 1) : Below w0.heap.size w0 W := by
  obtain ⟨A', c', _, h⟩ := h
  match s, hs, h with
  | 0, _, h => exact h
  | 1, _, h => exact h.1
/-- What a step leaves behind: the disk, the log. -/
def WrPost (X Y : Nat → Prop) (g gd f n : Nat) (z : Int) (d' : DK) (L' : LK) (w : World) (e : Ending) (w' : World) : Prop :=
  e = .returned (.int .i64 z) ∧ ∃ X' Y', DkAt w' X' gd d' ∧ LgAt w' Y' g gd (f : Int) n L' ∧ Out (fun k => X k ∨ Y k) w w' ∧ (∀ k, X' k → X k ∨ w.heap.size ≤ k) ∧ (∀ k, Y' k → Y k ∨ w.heap.size ≤ k) ∧ ∀ k, X' k → ¬ Y' k
set_option maxRecDepth 100000 in
set_option maxHeartbeats 1000000 in
theorem write_leaf {w : World} {X Y : Nat → Prop} {g gd f n : Nat} {L : LK} {d : DK} (h : LgAt w Y g gd (f : Int) n L) (hd : DkAt w X gd d) (hxy : ∀ k, X k → ¬ Y k) (k : Nat) (hk : f + k ≤ 1000000) (hrow : d.row.length ≤ 1000000) (st p o m c : Nat) (A : Option Addr) (b : List UInt8) (hr : Rd w A m b) (hs : st < 18446744073709551616) (hp : p < 65536) (ho : o < 65536) (hm : m ≤ 480) :
    Calls Try.prog 61 #[.pointer (some ⟨g, 0, none⟩), .int .i64 (k : Int), .agg #[.int .u64 (st : Int), .int .u16 (p : Int), .int .u16 (o : Int), .slice A m c]] w (WrPost X Y g gd f n (d.write ((f + k : Nat) : Int) (leafP st p o b)).1 (d.write ((f + k : Nat) : Int) (leafP st p o b)).2 (if (d.write ((f + k : Nat) : Int) (leafP st p o b)).1 = 0 then { L with top := st } else L) w) := by
  have hpl : (leafP st p o b).length = 512 := leafP_length (by rw [hr.len]; exact hm)
  have hb0 : Below w.heap.size w (w.alloc (.cells #[.int .u64 (st : Int), .int .u16 (p : Int), .int .u16 (o : Int), .slice A m c] 79)) := (Below.refl _ _).alloc (Nat.le_refl _) _
  obtain ⟨w0, hw0⟩ : ∃ w0, w0 = w.alloc (.cells #[.int .u64 (st : Int), .int .u16 (p : Int), .int .u16 (o : Int), .slice A m c] 79) := ⟨_, rfl⟩
  have hlf := LfAt.new w 79 st p o A m c
  rw [← hw0] at hb0 hlf
  have hsz : w0.heap.size = w.heap.size + 1 := by rw [hw0]; exact size_new _ _
  have HW0 := Lib.hid hw0
  have HB0 := Lib.hid hb0
  have HLG := Lib.hid (h.below hb0)
  have HDK := Lib.hid (hd.below hb0)
  have HXY := Lib.hid hxy
  have HLAY : Hid (∀ W, Below w0.heap.size w0 W → Calls Try.prog 54 #[.agg #[.int .u64 (st : Int), .int .u16 (p : Int), .int .u16 (o : Int), .slice A m c]] W (Put W (leafP st p o b))) := fun W hW => leaf_lay st p o m c A b W hs hp ho ((hr.below hb0).below hW) hm
  have HPL := Lib.hid hpl
  have HXW : Hid (∀ k, X k → k < w.heap.size) := by
    intro k hk
    obtain ⟨_, _, _, h⟩ := hd; exact h.lt k hk
  have HXL : Hid (∀ k, X k → k < w0.heap.size) := by
    intro k hk
    have : k < w.heap.size := by obtain ⟨_, _, _, h⟩ := hd; exact h.lt k hk
    omega
  have HCELL : Hid (∀ W, Below w0.heap.size w0 W → W.cell? ⟨g, 0, none⟩ = some (.pointer (some ⟨gd, 0, none⟩)) ∧ W.cell? ⟨g, 1, none⟩ = some (.int .i64 (f : Int))) := fun W hW => by
    obtain ⟨a0, a1, -⟩ := (HLG.out.below hW).cell5
    exact ⟨a0, a1⟩
  have HLF : Hid (∀ W, Below w0.heap.size w0 W → LfAt W w.heap.size st p o A m c) := fun W hW => hlf.keep (hW.block _ (by rw [hsz]; omega))
  have HWR : Hid (∀ W A' c', Below w0.heap.size w0 W → Rd W A' 512 (leafP st p o b) → (∀ a, A' = some a → w0.heap.size ≤ a.block) → Calls Try.prog 18 #[.pointer (some ⟨gd, 0, none⟩), .int .i64 ((f + k : Nat) : Int), .slice A' 512 c'] W (Turns (.int .i64 (d.write ((f + k : Nat) : Int) (leafP st p o b)).1) X gd (d.write ((f + k : Nat) : Int) (leafP st p o b)).2 W)) := fun W A' c' hW hR hA =>
    write_any (HDK.out.below hW) _ A' 512 c' _ hR (fun a ha hX => by have := hA a ha; have := HXL.out _ hX; omega) (by omega) hrow
  have HSZ := Lib.hid hsz
  obtain ⟨w1, w3, w2⟩ := fk_facts f k hk
  generalize (d.write ((f + k : Nat) : Int) (leafP st p o b)).1 = z at *
  generalize (d.write ((f + k : Nat) : Int) (leafP st p o b)).2 = d' at *
  generalize leafP st p o b = page at *
  obtain ⟨L', hL'⟩ : ∃ L' : LK, L' = if z = 0 then { L with top := st } else L := ⟨_, rfl⟩
  have HLP := Lib.hid hL'
  rw [← hL']
  clear h hd hr hs hp ho hm hxy hpl hw0 hb0 hlf hsz hrow hL'
  go_enter Try.func61, Try.ntmps61
  go_wp2_with fail
  rw [← HW0.out]
  refine wp_region_stagesF (vW g gd f k (.agg #[.int .u64 (st : Int), .int .u16 (p : Int), .int .u16 (o : Int), .slice A m c]) z none 0) [11, 12] (PhW w0 X d' page g gd f k (.agg #[.int .u64 (st : Int), .int .u16 (p : Int), .int .u16 (o : Int), .slice A m c]) z) 40 (by kernel_rfl) (by kernel_rfl) (fun s v W hp => ?_) ⟨none, 0, rfl, (Below.refl _ _).drew⟩ (fun k y hk => ?_) (fun k y z' hy hz => ?_) ?_ (fun v => { tmps := #[.pointer (some ⟨g, 0, none⟩), .int .i64 (k : Int), .agg #[.int .u64 (st : Int), .int .u16 (p : Int), .int .u16 (o : Int), .slice A m c], undef, undef, .pointer (some ⟨w.heap.size, 0, none⟩), .int .i64 0, v 13, v 0, v 1, v 2, v 3, v 4, v 5, v 6, v 7, v 8, v 9, v 10, v 11, v 12, undef, undef, undef, undef, undef, undef, undef, undef], defers := [] }) (fun v => by kernel_rfl) ?_
  · obtain ⟨A', c', rfl⟩ := hp.vals
    kernel_rfl
  · match k, hk with
    | 0, hk => injection hk with hk; subst hk; decide
    | 1, hk => injection hk with hk; subst hk; decide
    | _ + 2, hk => cases hk
  · match k, hy, hz with
    | 0, hy, hz => injection hy with hy; injection hz with hz; subst hy hz; show reachB _ _ _ _ = true; kernel_rfl
    | 1, _, hz => cases hz
    | _ + 2, hy, _ => cases hy
  · refine stepsL_cons ?_ (stepsL_cons ?_ (stepsL_cons ?_ (stepsL_cons ?_ (stepsL_cons ?_ (stepsL_cons ?_ (stepsL_cons ?_ (stepsL_cons ?_ (stepsL_cons ?_ (stepsL_cons ?_ (stepsL_cons ?_ (stepsL_cons ?_ (stepsL_cons ?_ (stepsL_cons ?_ (stepsL_nil))))))))))))))
    · intro a s v W hs hd hp h1 h2 h3 K hK
      have hp0 := hp
      obtain ⟨A', c', rfl⟩ := hp.vals
      have k0 : a.tmps.getD 0 undef = .pointer (some ⟨g, 0, none⟩) := hd.kept 0 (by kernel_rfl)
      have hno : ∀ k : Nat, ([11, 12] : List Nat)[k]? ≠ some 0 := fun k hk => by
        match k, hk with
        | 0, hk => cases hk
        | 1, hk => cases hk
        | _ + 2, hk => cases hk
      have hk := hK s _ W (fun _ => rfl) (fun k hk => absurd hk (hno k)) (fun k hk => absurd rfl hk) hp
      clear hK hp hp0
      unfold Oper.wp
      go_simp
      exact hk
    · intro a s v W hs hd hp h1 h2 h3 K hK
      have hp0 := hp
      obtain ⟨A', c', rfl⟩ := hp.vals
      have h8 : a.tmps.getD 8 undef = .pointer (some ⟨g, 0, none⟩) := hd.done_ 0 _ 8 (by kernel_rfl) rfl rfl
      have hno : ∀ k : Nat, ([11, 12] : List Nat)[k]? ≠ some 1 := fun k hk => by
        match k, hk with
        | 0, hk => cases hk
        | 1, hk => cases hk
        | _ + 2, hk => cases hk
      have hk := hK s _ W (fun _ => rfl) (fun k hk => absurd hk (hno k)) (fun k hk => absurd rfl hk) hp
      clear hK hp hp0
      unfold Oper.wp
      go_simp
      exact hk
    · intro a s v W hs hd hp h1 h2 h3 K hK
      have hp0 := hp
      obtain ⟨A', c', rfl⟩ := hp.vals
      have h9 : a.tmps.getD 9 undef = .pointer (some ⟨g, 0, none⟩) := hd.done_ 1 _ 9 (by kernel_rfl) rfl rfl
      have hno : ∀ k : Nat, ([11, 12] : List Nat)[k]? ≠ some 2 := fun k hk => by
        match k, hk with
        | 0, hk => cases hk
        | 1, hk => cases hk
        | _ + 2, hk => cases hk
      have hk := hK s _ W (fun _ => rfl) (fun k hk => absurd hk (hno k)) (fun k hk => absurd rfl hk) hp
      clear hK hp hp0
      unfold Oper.wp
      go_simp
      exact hk
    · intro a s v W hs hd hp h1 h2 h3 K hK
      have hp0 := hp
      obtain ⟨A', c', rfl⟩ := hp.vals
      have h10 : a.tmps.getD 10 undef = .pointer (some ⟨g, 0, none⟩) := hd.done_ 2 _ 10 (by kernel_rfl) rfl rfl
      have hno : ∀ k : Nat, ([11, 12] : List Nat)[k]? ≠ some 3 := fun k hk => by
        match k, hk with
        | 0, hk => cases hk
        | 1, hk => cases hk
        | _ + 2, hk => cases hk
      have hk := hK s _ W (fun _ => rfl) (fun k hk => absurd hk (hno k)) (fun k hk => absurd rfl hk) hp
      have a0 := (HCELL.out W (hp0.below (h2 1 12 rfl (by kernel_rfl)))).1
      clear hK hp hp0
      unfold Oper.wp
      go_simp
      exact hk
    · intro a s v W hs hd hp h1 h2 h3 K hK
      have hp0 := hp
      obtain ⟨A', c', rfl⟩ := hp.vals
      have k0 : a.tmps.getD 0 undef = .pointer (some ⟨g, 0, none⟩) := hd.kept 0 (by kernel_rfl)
      have hno : ∀ k : Nat, ([11, 12] : List Nat)[k]? ≠ some 4 := fun k hk => by
        match k, hk with
        | 0, hk => cases hk
        | 1, hk => cases hk
        | _ + 2, hk => cases hk
      have hk := hK s _ W (fun _ => rfl) (fun k hk => absurd hk (hno k)) (fun k hk => absurd rfl hk) hp
      clear hK hp hp0
      unfold Oper.wp
      go_simp
      exact hk
    · intro a s v W hs hd hp h1 h2 h3 K hK
      have hp0 := hp
      obtain ⟨A', c', rfl⟩ := hp.vals
      have h12 : a.tmps.getD 12 undef = .pointer (some ⟨g, 0, none⟩) := hd.done_ 4 _ 12 (by kernel_rfl) rfl rfl
      have hno : ∀ k : Nat, ([11, 12] : List Nat)[k]? ≠ some 5 := fun k hk => by
        match k, hk with
        | 0, hk => cases hk
        | 1, hk => cases hk
        | _ + 2, hk => cases hk
      have hk := hK s _ W (fun _ => rfl) (fun k hk => absurd hk (hno k)) (fun k hk => absurd rfl hk) hp
      clear hK hp hp0
      unfold Oper.wp
      go_simp
      exact hk
    · intro a s v W hs hd hp h1 h2 h3 K hK
      have hp0 := hp
      obtain ⟨A', c', rfl⟩ := hp.vals
      have h13 : a.tmps.getD 13 undef = .pointer (some ⟨g, 0, none⟩) := hd.done_ 5 _ 13 (by kernel_rfl) rfl rfl
      have hno : ∀ k : Nat, ([11, 12] : List Nat)[k]? ≠ some 6 := fun k hk => by
        match k, hk with
        | 0, hk => cases hk
        | 1, hk => cases hk
        | _ + 2, hk => cases hk
      have hk := hK s _ W (fun _ => rfl) (fun k hk => absurd hk (hno k)) (fun k hk => absurd rfl hk) hp
      clear hK hp hp0
      unfold Oper.wp
      go_simp
      exact hk
    · intro a s v W hs hd hp h1 h2 h3 K hK
      have hp0 := hp
      obtain ⟨A', c', rfl⟩ := hp.vals
      have h14 : a.tmps.getD 14 undef = .pointer (some ⟨g, 1, none⟩) := hd.done_ 6 _ 14 (by kernel_rfl) rfl rfl
      have hno : ∀ k : Nat, ([11, 12] : List Nat)[k]? ≠ some 7 := fun k hk => by
        match k, hk with
        | 0, hk => cases hk
        | 1, hk => cases hk
        | _ + 2, hk => cases hk
      have hk := hK s _ W (fun _ => rfl) (fun k hk => absurd hk (hno k)) (fun k hk => absurd rfl hk) hp
      have a1 := (HCELL.out W (hp0.below (h2 1 12 rfl (by kernel_rfl)))).2
      clear hK hp hp0
      unfold Oper.wp
      go_simp
      exact hk
    · intro a s v W hs hd hp h1 h2 h3 K hK
      have hp0 := hp
      obtain ⟨A', c', rfl⟩ := hp.vals
      have k1 : a.tmps.getD 1 undef = .int .i64 (k : Int) := hd.kept 1 (by kernel_rfl)
      have hno : ∀ k : Nat, ([11, 12] : List Nat)[k]? ≠ some 8 := fun k hk => by
        match k, hk with
        | 0, hk => cases hk
        | 1, hk => cases hk
        | _ + 2, hk => cases hk
      have hk := hK s _ W (fun _ => rfl) (fun k hk => absurd hk (hno k)) (fun k hk => absurd rfl hk) hp
      clear hK hp hp0
      unfold Oper.wp
      go_simp
      exact hk
    · intro a s v W hs hd hp h1 h2 h3 K hK
      have hp0 := hp
      obtain ⟨A', c', rfl⟩ := hp.vals
      have h15 : a.tmps.getD 15 undef = .int .i64 (f : Int) := hd.done_ 7 _ 15 (by kernel_rfl) rfl rfl
      have h16 : a.tmps.getD 16 undef = .int .i64 (k : Int) := hd.done_ 8 _ 16 (by kernel_rfl) rfl rfl
      have hno : ∀ k : Nat, ([11, 12] : List Nat)[k]? ≠ some 9 := fun k hk => by
        match k, hk with
        | 0, hk => cases hk
        | 1, hk => cases hk
        | _ + 2, hk => cases hk
      have hk := hK s _ W (fun _ => rfl) (fun k hk => absurd hk (hno k)) (fun k hk => absurd rfl hk) hp
      have hk : K (a.put _ (.int .i64 ((f + k : Nat) : Int))) W := hk
      rw [w2] at hk
      clear hK hp hp0
      unfold Oper.wp
      go_simp
      exact hk
    · intro a s v W hs hd hp h1 h2 h3 K hK
      have hp0 := hp
      obtain ⟨A', c', rfl⟩ := hp.vals
      have k5 : a.tmps.getD 5 undef = .pointer (some ⟨w.heap.size, 0, none⟩) := hd.kept 5 (by kernel_rfl)
      have hno : ∀ k : Nat, ([11, 12] : List Nat)[k]? ≠ some 10 := fun k hk => by
        match k, hk with
        | 0, hk => cases hk
        | 1, hk => cases hk
        | _ + 2, hk => cases hk
      have hk := hK s _ W (fun _ => rfl) (fun k hk => absurd hk (hno k)) (fun k hk => absurd rfl hk) hp
      obtain ⟨l0, l1, l2, l3⟩ := HLF.out W (hp0.below (h2 1 12 rfl (by kernel_rfl)))
      clear hK hp hp0
      unfold Oper.wp
      go_simp
      exact hk
    · intro a s v W hs hd hp h1 h2 h3 K hK
      have hp0 := hp
      obtain ⟨A', c', rfl⟩ := hp.vals
      have h18 : a.tmps.getD 18 undef = .agg #[.int .u64 (st : Int), .int .u16 (p : Int), .int .u16 (o : Int), .slice A m c] := hd.done_ 10 _ 18 (by kernel_rfl) rfl rfl
      obtain rfl := h1 0 rfl
      obtain ⟨A2, c2, hv, hb⟩ := hp
      have cw := HLAY.out W hb
      unfold Oper.wp
      go_simp
      refine cw.mono ?_
      rintro e W' ⟨A3, n3, c3, rfl, hn3, hc3, hown3, hb3⟩
      have hn5 : n3 = 512 := hn3.trans HPL.out
      subst hn5
      have hvv : ∀ k', vW g gd f k (.agg #[.int .u64 (st : Int), .int .u16 (p : Int), .int .u16 (o : Int), .slice A m c]) z A3 c3 k' ≠ vW g gd f k (.agg #[.int .u64 (st : Int), .int .u16 (p : Int), .int .u16 (o : Int), .slice A m c]) z A' c' k' → k' = 11 := fun k' hk' => by
        refine Classical.byContradiction fun hn => hk' ?_
        unfold vW
        split <;> first | rfl | exact absurd rfl hn
      exact hK 1 _ W' (fun h => absurd rfl (h 0)) (fun k hk => by have := h1 k hk; omega) (fun k' hk' => .inl (hvv k' hk')) ⟨A3, c3, rfl, hb.trans (hb3.mono hb.size), (Rd.of_own hown3).1, fun a ha => Nat.le_trans hb.size (hown3.lt a.block (by rw [ha]; rfl)).1⟩
    · intro a s v W hs hd hp h1 h2 h3 K hK
      have hp0 := hp
      obtain ⟨A', c', rfl⟩ := hp.vals
      have h11 : a.tmps.getD 11 undef = .pointer (some ⟨gd, 0, none⟩) := hd.done_ 3 _ 11 (by kernel_rfl) rfl rfl
      have h17 : a.tmps.getD 17 undef = .int .i64 ((f + k : Nat) : Int) := hd.done_ 9 _ 17 (by kernel_rfl) rfl rfl
      have h19 : a.tmps.getD 19 undef = .slice A' 512 c' := hd.done_ 11 _ 19 (by kernel_rfl) rfl rfl
      obtain rfl := h1 1 rfl
      obtain ⟨A2, c2, hv, hb, hR, hA⟩ := hp
      have hv11 := congrFun hv 11
      injection hv11 with e1 _ e3
      subst e1 e3
      have cw := HWR.out W A' c' hb hR hA
      rw [w2] at cw h17
      unfold Oper.wp
      go_simp
      refine cw.mono ?_
      rintro e W' ⟨rfl, X', hd', ho', hx'⟩
      exact hK 2 _ W' (fun h => absurd rfl (h 1)) (fun k hk => by have := h1 k hk; omega) (fun k hk => absurd rfl hk) ⟨A', c', rfl, X', hd', (Out.of_below hb).trans ho' (fun j hj => .inl hj), fun j hj => (hx' j hj).elim .inl (fun h => .inr (Nat.le_trans hb.size h))⟩
    · intro a s v W hs hd hp h1 h2 h3 K hK
      have hp0 := hp
      obtain ⟨A', c', rfl⟩ := hp.vals
      have h20 : a.tmps.getD 20 undef = .int .i64 z := hd.done_ 12 _ 20 (by kernel_rfl) rfl rfl
      have hno : ∀ k : Nat, ([11, 12] : List Nat)[k]? ≠ some 13 := fun k hk => by
        match k, hk with
        | 0, hk => cases hk
        | 1, hk => cases hk
        | _ + 2, hk => cases hk
      have hk := hK s _ W (fun _ => rfl) (fun k hk => absurd hk (hno k)) (fun k hk => absurd rfl hk) hp
      clear hK hp hp0
      unfold Oper.wp
      go_simp
      exact hk
  · intro v w3 hp3
    obtain ⟨A', c', rfl, X', hd3, ho3, hx3⟩ := hp3
    have HD3 := Lib.hid hd3
    have hlt3 : ∀ j, X' j → ¬ Y j := fun j hj hy => by
      rcases hx3 j hj with h | h
      · exact HXY.out j h hy
      · have := HLG.out.lt j hy
        omega
    have HDIS := Lib.hid hlt3
    have HL3 := Lib.hid (HLG.out.out ho3 fun j hy hx => HXY.out j hx hy)
    have HLF3 : Hid (LfAt w3 w.heap.size st p o A m c) := (HLF.out w0 (Below.refl _ _)).keep (ho3.block _ (by rw [HSZ.out]; omega) fun hx => by have : w.heap.size < w.heap.size := HXW.out _ hx; omega)
    have HO3 : Hid (Out (fun k => X k ∨ Y k) w w3) := (Out.of_below HB0.out).trans ho3 (fun j hj => .inl (.inl hj))
    have HX3 : Hid (∀ j, X' j → X j ∨ w.heap.size ≤ j) := fun j hj => (hx3 j hj).elim .inl (fun h => .inr (by rw [HSZ.out] at h; omega))
    clear hd3 ho3 hx3 hlt3
    unfold vW
    have hLP := HLP.out
    by_cases hz : z = 0
    · subst hz
      rw [if_pos rfl] at hLP
      subst hLP
      obtain ⟨c0, -, -, -⟩ := HLF3.out
      obtain ⟨-, -, -, -, -, c6, -, fr⟩ := HL3.out.cell5
      have f6 := fr 6
      clear fr
      go_wp2_with fail
      go_ret
      have hol : Out (fun k => X k ∨ Y k) w3 (w3.setCell ⟨g, 6, none⟩ (.int .u64 (st : Int))) := (out_one (Y := Y) HL3.out.yg).mono fun j hj => .inl (.inr hj)
      exact ⟨rfl, X', Y, HD3.out.out (out_one (Y := Y) HL3.out.yg) HDIS.out, HL3.out.topTo st, HO3.out.trans hol (fun j hj => .inl hj), HX3.out, fun j hj => .inl hj, HDIS.out⟩
    · rw [if_neg hz] at hLP
      subst hLP
      go_wp2_with fail
      go_ret
      exact ⟨rfl, X', Y, HD3.out, HL3.out, HO3.out, HX3.out, fun j hj => .inl hj, HDIS.out⟩
end Go.Proofs.Ytikpedkckijioaa.Log
