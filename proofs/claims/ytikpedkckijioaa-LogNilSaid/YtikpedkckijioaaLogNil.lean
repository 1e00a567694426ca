/- LogNil: the methods of nil, a log whose disk has no power, and that what is handed in, or handed out, is not kept: for every slice of bytes the call returns true, and nothing that was there has turned. No conditions. -/
import Derived.Test.YtikpedkckijioaaLogLawAll
namespace Go.Proofs.Ytikpedkckijioaa.logNil
open Go.ChangeShapes Go.WideShapes Go.ChangeAt Go.RowKit Disk Log

/-- A call of the disk's. -/
theorem turned {w0 w w' : World} {Z : Nat → Prop} {g gd f n : Nat} {d d' : DK} {L : LK} {v : Value} {e : Ending} (h : Lw w0 w Z g gd f n d L) (ht : ∀ X, DkAt w X gd d → (∀ k, X k → Z k) → Done X gd d' w e w' → Turns v X gd d' w e w') (hd : ∃ X Y, DkAt w X gd d ∧ LgAt w Y g gd (f : Int) n L ∧ (∀ k, X k → ¬ Y k) ∧ (∀ k, X k → Z k) ∧ (∀ k, Y k → Z k) ∧ Done X gd d' w e w') : LwTo v w0 Z g gd f n d' L w e w' := by
  obtain ⟨X, Y, h1, h2, h3, h4, h5, h6⟩ := hd
  obtain ⟨rfl, X', q1, q2, q3⟩ := ht X h1 h4 h6
  have hX2 : ∀ k, X' k → Z k ∨ w.heap.size ≤ k := fun k hk => (q3 k hk).elim (fun q => .inl (h4 k q)) .inr
  have ho : Out Z w w' := q2.mono fun k hk => .inl (h4 k hk)
  have hXl : ∀ k, X' k → k < w'.heap.size := fun k hk => by obtain ⟨_, _, _, q⟩ := q1; exact q.lt k hk
  have hl' : LgAt w' Y g gd (f : Int) n L := h2.out q2 (fun k hy hx => h3 k hx hy)
  refine ⟨rfl, fun k => X' k ∨ Y k, ⟨⟨X', Y, q1, hl', fun k hx hy => ?_, fun k hk => .inl hk, fun k hk => .inr hk⟩, ho.below h.below h.own h.below.size, fun k hk => ?_, fun k hk => hk.elim (hXl k) (hl'.lt k)⟩, ho, fun k hk => hk.elim (hX2 k) (fun q => .inl (h5 k q))⟩
  · rcases q3 k hx with r | r
    · exact h3 k r hy
    · have := h2.lt k hy; omega
  · rcases hk.elim (hX2 k) (fun q => Or.inl (h5 k q)) with q | q
    · exact h.own k q
    · exact Nat.le_trans h.below.size q
theorem kill_lw {w0 w : World} {Z : Nat → Prop} {g gd f n : Nat} {d : DK} {L : LK} (h : Lw w0 w Z g gd f n d L) : Calls Try.prog 28 #[.pointer (some ⟨gd, 0, none⟩)] w (LwTo (.tuple #[]) w0 Z g gd f n d.kill L w) := by
  obtain ⟨X, Y, h1, h2, h3, h4, h5⟩ := h.at_
  exact (kill_any h1).mono fun e w' hd => turned h (fun _ _ _ q => q) ⟨X, Y, h1, h2, h3, h4, h5, hd⟩
/-- A call of the log's that only it turns. -/
theorem lg_lw {w0 w w' : World} {Z X Y : Nat → Prop} {g gd f n : Nat} {d : DK} {L L' : LK} {v : Value} {e : Ending} (h : Lw w0 w Z g gd f n d L) (h1 : DkAt w X gd d) (h3 : ∀ k, X k → ¬ Y k) (h4 : ∀ k, X k → Z k) (h5 : ∀ k, Y k → Z k) (hq : LgTo v Y g gd (f : Int) n L' w e w') : LwTo v w0 Z g gd f n d L' w e w' := by
  obtain ⟨rfl, Y', q1, q2, q3⟩ := hq
  have hXl : ∀ k, X k → k < w.heap.size := fun k hk => by obtain ⟨_, _, _, q⟩ := h1; exact q.lt k hk
  have hY2 : ∀ k, Y' k → Z k ∨ w.heap.size ≤ k := fun k hk => (q3 k hk).elim (fun q => .inl (h5 k q)) .inr
  have ho : Out Z w w' := q2.mono fun k hk => .inl (h5 k hk)
  refine ⟨rfl, fun k => X k ∨ Y' k, ⟨⟨X, Y', h1.out q2 h3, q1, fun k hx hy => ?_, fun k hk => .inl hk, fun k hk => .inr hk⟩, ho.below h.below h.own h.below.size, fun k hk => ?_, fun k hk => ?_⟩, ho, fun k hk => hk.elim (fun q => .inl (h4 k q)) (hY2 k)⟩
  · rcases q3 k hy with r | r
    · exact h3 k hx r
    · have := hXl k hx; omega
  · rcases hk with q | q
    · exact h.own k (h4 k q)
    · rcases hY2 k q with r | r
      · exact h.own k r
      · exact Nat.le_trans h.below.size r
  · rcases hk with q | q
    · exact Nat.lt_of_lt_of_le (hXl k q) ho.size
    · exact q1.lt k q
theorem commit_lw {w0 w : World} {Z : Nat → Prop} {g gd f n : Nat} {d : DK} {L : LK} (h : Lw w0 w Z g gd f n d L) (hn : d.dead = true) (v : Value) : Calls Try.prog 13 #[.pointer (some ⟨g, 0, none⟩), v] w (LwTo (.int .i64 9) w0 Z g gd f n d { L with met := true } w) := by
  obtain ⟨X, Y, h1, h2, h3, h4, h5⟩ := h.at_
  exact (commit_dead_ h2 h1 hn v).mono fun e w' hq => lg_lw h h1 h3 h4 h5 hq
theorem reset_lw {w0 w : World} {Z : Nat → Prop} {g gd f n : Nat} {d : DK} {L : LK} (h : Lw w0 w Z g gd f n d L) (hn : d.dead = true) : Calls Try.prog 16 #[.pointer (some ⟨g, 0, none⟩)] w (LwTo (.int .i64 9) w0 Z g gd f n d { L with met := true } w) := by
  obtain ⟨X, Y, h1, h2, h3, h4, h5⟩ := h.at_
  exact (reset_dead_ h2 h1 hn).mono fun e w' hq => lg_lw h h1 h3 h4 h5 hq
theorem open_lw {w0 w : World} {Z : Nat → Prop} {g gd f n : Nat} {d : DK} {L : LK} (h : Lw w0 w Z g gd f n d L) (hn : d.dead = true) (a b : Int) : Calls Try.prog 11 #[.pointer (some ⟨gd, 0, none⟩), .int .i64 a, .int .i64 b] w (Ans (.tuple #[.pointer none, .int .i64 9]) w) := by
  obtain ⟨X, Y, h1, h2, h3, h4, h5⟩ := h.at_
  exact open_dead h1 hn a b
/-- The row of one that Batches answers, and its bytes. -/
theorem only_row {w : World} {base B : Nat} {A : Option Addr} {c : Nat} {vs : List Value} {b : List UInt8} (h : w.ownsRow base 32 1 (.slice A 1 c) 1 vs) (hf : Fresh B w vs [b]) (hb : 0 < b.length) : ∃ g hh c2 cur, A = some ⟨g, 0, none⟩ ∧ base ≤ g ∧ g < w.heap.size ∧ w.cell? ⟨g, 0, none⟩ = some (.slice (some ⟨hh, 0, none⟩) b.length c2) ∧ B ≤ hh ∧ hh < w.heap.size ∧ w.heap[hh]? = some (.cells cur 5 (0, 0)) ∧ Rd w (some ⟨hh, 0, none⟩) b.length b := by
  obtain ⟨A2, n2, c2, h1, h2⟩ := hf.at_ 0 b rfl
  have hlen := (Rd.of_own h2).1.len
  subst hlen
  rcases h.2 with ⟨_, q⟩ | ⟨g, cap, cur, q1, q2, q3, _⟩
  · omega
  · injection q1 with q1
    subst q1
    have hc := h.cells (g := g) rfl 0 _ h1
    rcases h2.2 with ⟨_, q⟩ | ⟨hh, cap2, cur2, r1, r2, r3, _⟩
    · omega
    · injection r1 with r1 r4 r5
      subst r1 r5
      exact ⟨g, hh, c2, cur2, rfl, q2, (Array.getElem?_eq_some_iff.1 q3).1, hc, r2, (Array.getElem?_eq_some_iff.1 r3).1, r3, (Rd.of_own h2).1⟩
theorem rd_cell {w : World} {hh n : Nat} {b : List UInt8} {i : Nat} {x : UInt8} (h : Rd w (some ⟨hh, 0, none⟩) n b) (hx : b[i]? = some x) : w.cell? ⟨hh, i, none⟩ = some (U x) := by
  have hi := (List.getElem?_eq_some_iff.1 hx).1
  obtain ⟨ad, e, hc⟩ := h.cells (by have := h.len; omega)
  injection e with e
  subst e
  have hadd : ((⟨hh, 0, none⟩ : Addr).add i) = ⟨hh, i, none⟩ := by unfold Addr.add; split <;> simp_all
  rw [← hadd]
  exact hc i x hx
set_option maxRecDepth 100000 in
set_option maxHeartbeats 4000000 in
theorem walk (v : Value) (w : World) : Calls Try.prog 7 #[v] w fun e w' => e = .returned (.bool true) ∧ Below w.heap.size w w' := by
  go_enter Try.func7, Try.ntmps7
  go_wp2_with fail
  refine (open_nil 0 2 w).mono ?_
  rintro e _ ⟨rfl, rfl⟩
  go_wp2_with fail
  refine (batches_nil _).mono ?_
  rintro e _ ⟨rfl, rfl⟩
  go_wp2_with fail
  refine (room_nil _).mono ?_
  rintro e _ ⟨rfl, rfl⟩
  go_wp2_with fail
  refine (commit_nil v _).mono ?_
  rintro e _ ⟨rfl, rfl⟩
  go_wp2_with fail
  refine (reset_nil _).mono ?_
  rintro e _ ⟨rfl, rfl⟩
  go_wp2_with fail
  refine (made_any 4 (by decide) (by decide) w w (Below.refl _ _)).mono ?_
  intro e w2 hm
  obtain ⟨g, gd, Z, rfl, hs, hb, hZ⟩ := hm.sd (by decide) (by decide)
  have HS := Lib.hid hs
  clear hs hb hZ hm
  go_wp2_with fail
  have hcv : (convert 32 32 (.slice (some ⟨w2.heap.size, 0, none⟩) 3 3)).run Try.prog (w2.alloc (.cells #[.int .u8 97, .int .u8 98, .int .u8 99] 5)) = .ok (.slice (some ⟨w2.heap.size, 0, none⟩) 3 3) (w2.alloc (.cells #[.int .u8 97, .int .u8 98, .int .u8 99] 5 (3, 4))) := conv_const w2 #[.int .u8 97, .int .u8 98, .int .u8 99] 3 3
  have hb3 : Below w2.heap.size w2 (w2.alloc (.cells #[.int .u8 97, .int .u8 98, .int .u8 99] 5 (3, 4))) := (Below.refl _ _).alloc (Nat.le_refl _) _
  have HR3 : Hid (Rd (w2.alloc (.cells #[.int .u8 97, .int .u8 98, .int .u8 99] 5 (3, 4))) (some ⟨w2.heap.size, 0, none⟩) 3 abc) := rd_lit w2 5 (3, 4) abc
  have HB3 : Hid ((w2.alloc (.cells #[.int .u8 97, .int .u8 98, .int .u8 99] 5 (3, 4))).heap[w2.heap.size]? = some (.cells #[.int .u8 97, .int .u8 98, .int .u8 99] 5 (3, 4))) := World.alloc_heap_new w2 _
  have HZ3 : Hid (¬ Z w2.heap.size) := fun hz => by
    have : w2.heap.size < w2.heap.size := HS.out.lt _ hz
    omega
  have HL3 : Hid (w.heap.size ≤ w2.heap.size) := HS.out.below.size
  replace HS := Lib.hid (HS.out.below_ hb3)
  have HT3 : Hid (w2.heap.size < (w2.alloc (.cells #[.int .u8 97, .int .u8 98, .int .u8 99] 5 (3, 4))).heap.size) := by show _ < _; simp
  generalize hw3 : w2.alloc (.cells #[.int .u8 97, .int .u8 98, .int .u8 99] 5 (3, 4)) = w3 at *
  generalize w2.heap.size = t at *
  clear hb3 hw3
  rw [hcv]
  go_wp2_with fail
  refine (HS.out.commit (by decide) (some ⟨t, 0, none⟩) 3 3 abc HR3.out (fun a ha => by injection ha with ha; subst ha; exact HZ3.out) (Nat.le_refl _) (by decide) (by decide)).mono ?_
  rintro e w4 ⟨rfl, Z4, hs, ho, hz⟩
  have hbk := (ho.block t HT3.out HZ3.out).trans HB3.out
  have hc4 : w4.cell? ⟨t, 0, none⟩ = some (.int .u8 97) := by simp [World.cell?, hbk]
  have hf4 : w4.frozen? ⟨t, 0, none⟩ = false := by simp [World.frozen?, hbk]
  have HZ4 : Hid (¬ Z4 t) := fun hx => (hz t hx).elim HZ3.out (fun q => by have := HT3.out; omega)
  replace HS : Hid (Sd w w4 Z4 g gd 0 4 [abc] 2 2) := hs
  clear hs ho hz hcv hbk HB3 HR3 HT3 HZ3
  go_wp2_with fail
  have HS5 : Hid (Sd w (w4.setCell ⟨t, 0, none⟩ (.int .u8 122)) Z4 g gd 0 4 [abc] 2 2) := HS.out.beside (V := (· = t)) (Out.setCell (X := (· = t)) w4 (p := ⟨t, 0, none⟩) rfl _) (fun k hk hx => HZ4.out (hx ▸ hk)) (fun k hk => hk ▸ HL3.out)
  generalize w4.setCell ⟨t, 0, none⟩ (.int .u8 122) = w5 at *
  clear hc4 hf4 HS HZ4 HL3
  refine HS5.out.batches.mono ?_
  rintro e w6 ⟨A, c, vs, rfl, hown, hfr, hb⟩
  obtain ⟨gb, hh, c2, cur, rfl, hgb, hgl, hc6, hh1, hh2, hbk, hrd⟩ := only_row hown hfr (by decide)
  have hcs := conv_string hrd c2
  have hsa : ((S abc).toList == [97, 98, 99]) = true := by kernel_rfl
  have hy6 : w6.cell? ⟨hh, 1, none⟩ = some (.int .u8 98) := rd_cell (i := 1) (x := 98) hrd rfl
  have hf6 : w6.frozen? ⟨hh, 1, none⟩ = false := by simp [World.frozen?, hbk]
  have HS6 := Lib.hid (HS5.out.below_ hb)
  have HZ6 : Hid (¬ Z4 hh) := fun hx => by have := HS5.out.lt _ hx; omega
  have HL6 : Hid (w.heap.size ≤ hh) := Nat.le_trans HS5.out.below.size hh1
  clear hown hfr hb hrd hbk hh1 hh2 hgb hgl HS5
  have HS7 : Hid (Sd w (w6.setCell ⟨hh, 1, none⟩ (.int .u8 122)) Z4 g gd 0 4 [abc] 2 2) := HS6.out.beside (V := (· = hh)) (Out.setCell (X := (· = hh)) w6 (p := ⟨hh, 1, none⟩) rfl _) (fun k hk hx => HZ6.out (hx ▸ hk)) (fun k hk => hk ▸ HL6.out)
  clear HS6 HZ6 HL6
  go_wp2_with fail
  generalize w6.setCell ⟨hh, 1, none⟩ (.int .u8 122) = w7 at *
  clear hc6 hcs hy6 hf6
  refine HS7.out.batches.mono ?_
  rintro e w8 ⟨A3, c3, vs3, rfl, hown, hfr, hb⟩
  obtain ⟨gb3, hh3, c4, cur3, rfl, hgb, hgl, hc8, hh1, hh2, -, hrd⟩ := only_row hown hfr (by decide)
  obtain ⟨d, L, hl, hK, -⟩ := HS7.out.below_ hb
  have HG8 : Hid (¬ Z4 gb3 ∧ ¬ Z4 hh3) := ⟨fun hx => by have := HS7.out.lt _ hx; omega, fun hx => by have := HS7.out.lt _ hx; omega⟩
  have HL8 := Lib.hid hl
  have HR8 := Lib.hid hrd
  have HC8 : Hid (gb3 < w8.heap.size ∧ hh3 < w8.heap.size ∧ w8.cell? ⟨gb3, 0, none⟩ = some (.slice (some ⟨hh3, 0, none⟩) 3 c4)) := ⟨hgl, hh2, hc8⟩
  clear hown hfr hb hrd hh1 hh2 hgb hgl hc8 HS7 hl hK
  go_wp2_with fail
  refine (kill_lw HL8.out).mono ?_
  rintro e w9 ⟨rfl, Z9, hl9, ho9, -⟩
  have hc9 : w9.cell? ⟨gb3, 0, none⟩ = some (.slice (some ⟨hh3, 0, none⟩) 3 c4) := (ho9.cell (p := ⟨gb3, 0, none⟩) HC8.out.1 HG8.out.1).trans HC8.out.2.2
  have hr9 : Rd w9 (some ⟨hh3, 0, none⟩) 3 abc := rdb_out HR8.out ho9 (fun a ha => by injection ha with ha; subst ha; exact HG8.out.2)
  have hcs := conv_string hr9 c4
  have HL9 := Lib.hid hl9
  clear hl9 ho9 hr9 HC8 HG8 HR8 HL8
  go_wp2_with fail
  refine (open_lw HL9.out rfl 0 4).mono ?_
  rintro e _ ⟨rfl, rfl⟩
  go_wp2_with fail
  refine (commit_lw HL9.out rfl v).mono ?_
  rintro e w10 ⟨rfl, Z10, hl, -⟩
  have HL10 := Lib.hid hl
  clear hl hc9 hcs HL9
  go_wp2_with fail
  refine (reset_lw HL10.out rfl).mono ?_
  rintro e w11 ⟨rfl, Z11, hl, -⟩
  have HB11 := Lib.hid hl.below
  clear hl HL10
  go_wp2_with fail
  refine (wakes_any w11).mono ?_
  rintro e w12 ⟨rfl, hb⟩
  have HB12 := Lib.hid (HB11.out.trans (hb.mono HB11.out.size))
  clear hb HB11
  go_wp2_with fail
  go_ret
  exact ⟨rfl, HB12.out⟩

set_option maxRecDepth 100000 in
theorem lifted (os : Os) (started : os.Started) (H : Type) (enc : TypeId × Value → H) :
    ReturnsInHanded {} Try.checked os 7 .any (Rows.logNilSpec.pre6 enc Try.prog Try.f7 Rows.logNilRow.domain false) (Rows.logNilSpec.post enc Try.prog Try.f7 false true false false) := by
  refine returnsInHanded_of_change (C := Try.checked) own started (by kernel_rfl) Try.func7
    (ChangeSpec.witness6 (enc := enc) (C := Try.checked) false ⟨#[], #[.slice none 0 0], []⟩ 8 (by kernel_rfl) (by kernel_rfl) (by kernel_rfl) (by kernel_rfl)) ?_
  intro W base args ds gs before hval0 hW hcnd _
  have hW' := hW
  obtain ⟨p, q, hA0, hV, rfl, hfz, hnd⟩ := hW
  have hA : DataW.TrodAll enc Try.prog W 0 (fun _ => true) true Try.f7.params.toList args.toList ds p := hA0
  rw [Try.params7] at hA
  obtain ⟨v0, d0, rfl, rfl, -⟩ := trodAll_one hA
  obtain ⟨rfl, rfl⟩ := trodVars_none hV

  refine (walk v0 W).mono fun e W' ⟨he, hb⟩ => ?_
  subst he
  exact ⟨_, rfl, post_true laidOut (by kernel_rfl) ty_bool (by kernel_rfl) rfl hW' hb rfl⟩

theorem over : Rows.logNilRow.holds Try.pinned (OpenSpec.ofChange Rows.logNilSpec) :=
  OpenClaim.holds_of_wide 7 Try.f7 rfl rfl rfl rfl rfl rfl rfl ⟨rfl, rfl, rfl, rfl, rfl⟩ rfl rfl rfl rfl rfl (by kernel_rfl) Try.func7 (by kernel_rfl)
    (of_decide_eq_true (by kernel_rfl)) (by unfold Func.isWrapper; first | (rw [if_pos (by decide +kernel)]; kernel_rfl) | (rw [if_neg (by decide +kernel)]; exact ⟨rfl, rfl⟩))
    (fun os started H enc _ => lifted os started H enc)

theorem proved : Rows.LogNilSaid :=
  over
end Go.Proofs.Ytikpedkckijioaa.logNil
