/- What a page says, as the code reads it off. -/
import Derived.Test.YtikpedkckijioaaLogRead
import Derived.Below
namespace Go.Proofs.Ytikpedkckijioaa.Log
open Go.RowKit Disk

/-- What a page says; of a page that says nothing the zero leaf. -/
def leafF (p : List UInt8) : Nat × Nat × Nat × List UInt8 := (says p).getD (0, 0, 0, [])
/-- The text that the reader hands over. -/
def textP (p : List UInt8) : List UInt8 := if num ((p.drop 12).take 4) ≤ 496 then (p.drop 16).take (num ((p.drop 12).take 4)) else []
theorem textS_page {p : List UInt8} (hp : p.length = 512) : (textS (p.drop 12, false)).1 = textP p := by
  unfold textS
  rw [takeS_yes (by rw [List.length_drop]; omega), val_num]
  dsimp only
  rw [List.drop_drop]
  unfold textP
  split
  · next h => rw [takeS_yes (by rw [List.length_drop]; omega)]
  · next h =>
    unfold takeS
    rw [if_pos (by right; rw [List.length_drop]; omega)]
theorem leafF_code {p : List UInt8} (hp : p.length = 512) : leafF p = if first8 p = 0 then (0, 0, 0, []) else if 480 < (textP p).length then (0, 0, 0, []) else if p = leafP (first8 p) (num ((p.drop 8).take 2)) (num ((p.drop 10).take 2)) (textP p) then (first8 p, num ((p.drop 8).take 2), num ((p.drop 10).take 2), textP p) else (0, 0, 0, []) := by
  unfold leafF says
  by_cases h0 : first8 p = 0
  · rw [if_pos (Or.inl h0), if_pos h0]
    rfl
  · rw [if_neg h0]
    by_cases hL : num ((p.drop 12).take 4) ≤ 496
    · have ht : textP p = (p.drop 16).take (num ((p.drop 12).take 4)) := if_pos hL
      have hl : (textP p).length = num ((p.drop 12).take 4) := by rw [ht, List.length_take, List.length_drop]; omega
      by_cases h4 : 480 < num ((p.drop 12).take 4)
      · rw [if_pos (Or.inr h4), if_pos (by omega)]
        rfl
      · rw [if_neg (show ¬ (first8 p = 0 ∨ 480 < num ((p.drop 12).take 4)) by omega), if_neg (show ¬ 480 < (textP p).length by omega), ← ht]
        by_cases he : leafP (first8 p) (num ((p.drop 8).take 2)) (num ((p.drop 10).take 2)) (textP p) = p
        · rw [if_pos he, if_pos he.symm]
          rfl
        · rw [if_neg he, if_neg (fun h => he h.symm)]
          rfl
    · have ht : textP p = [] := if_neg hL
      rw [if_pos (Or.inr (by omega)), ht, if_neg (by simp)]
      rw [if_neg]
      · rfl
      · intro he
        have := (leafP_parts (first8 p) (num ((p.drop 8).take 2)) (num ((p.drop 10).take 2)) []).2.2.1
        rw [← he] at this
        rw [this, num_be] at hL
        simp at hL
theorem num_two (bs : List UInt8) : num (bs.take 2) < 65536 := by
  have h := num_lt (bs.take 2)
  have : (bs.take 2).length ≤ 2 := by rw [List.length_take]; omega
  exact Nat.lt_of_lt_of_le h (Nat.le_trans (Nat.pow_le_pow_right (by decide) this) (by decide))
theorem first8_lt (p : List UInt8) : first8 p < 18446744073709551616 := by
  have h := num_lt (p.take 8)
  have : (p.take 8).length ≤ 8 := by rw [List.length_take]; omega
  exact Nat.lt_of_lt_of_le h (Nat.le_trans (Nat.pow_le_pow_right (by decide) this) (by decide))
theorem textP_le {p : List UInt8} : (textP p).length ≤ 496 := by
  unfold textP
  split
  · rw [List.length_take]; omega
  · simp
/-- A leaf as a value, its text in memory of its own. -/
def LeafV (B : Nat) (f : Nat × Nat × Nat × List UInt8) (x : Value) (W : World) : Prop :=
  ∃ A n c, x = .agg #[.int .u64 (f.1 : Int), .int .u16 (f.2.1 : Int), .int .u16 (f.2.2.1 : Int), .slice A n c] ∧ W.ownsRow B 5 1 (.slice A n c) n (f.2.2.2.map U)
theorem own_le {w : World} {base : Nat} {e : TypeId} {A : Option Addr} {n c m : Nat} {xs : List Value} (h : w.ownsRow base e 1 (.slice A n c) m xs) : n ≤ c := by
  rcases h.2 with ⟨e1, rfl⟩ | ⟨g, cap, cur, e1, _, _, hnc, _⟩
  · injection e1 with _ e2 e3
    omega
  · injection e1 with _ e2 e3
    omega
theorem _root_.Go.Proofs.Ytikpedkckijioaa.Red.grow {w0 w : World} {r : Nat} {v : Value} {s : List UInt8 × Bool} {e : Ending} {w' : World} {B : Nat} (h : Red w r v s e w') (hb : Below B w0 w) (hr : B ≤ r) (hB : B ≤ w.heap.size) : Below B w0 w' :=
  hb.grown h.2.2 hB fun k hk => by injection hk with hk; omega
theorem size_leaf : (Try.prog.info? 79).map (·.size) = some 4 := by kernel_rfl
def LeafPost (f : Nat × Nat × Nat × List UInt8) (w : World) (e : Ending) (w' : World) : Prop := ∃ x, e = .returned x ∧ LeafV w.heap.size f x w' ∧ Below w.heap.size w w'
set_option maxRecDepth 100000 in
set_option maxHeartbeats 2000000 in
theorem leafOf_any (A : Option Addr) (c : Nat) (p : List UInt8) (w : World) (h : Rd w A 512 p) : Calls Try.prog 32 #[.slice A 512 c] w (LeafPost (leafF p) w) := by
  have hp : p.length = 512 := h.len
  have hcode := leafF_code hp
  have htext := textS_page hp
  have hb0 : Below w.heap.size w (w.alloc (.cells #[.int .u64 0, .int .u16 0, .int .u16 0, .slice none 0 0] 79)) := (Below.refl _ _).alloc (Nat.le_refl _) _
  have hk0 : Bk (w.alloc (.cells #[.int .u64 0, .int .u16 0, .int .u16 0, .slice none 0 0] 79)) w.heap.size 79 #[.int .u64 0, .int .u16 0, .int .u16 0, .slice none 0 0] := Bk.new _ _ _
  obtain ⟨w0, hw0⟩ : ∃ w0, w0 = w.alloc (.cells #[.int .u64 0, .int .u16 0, .int .u16 0, .slice none 0 0] 79) := ⟨_, rfl⟩
  rw [← hw0] at hb0 hk0
  have HW := Lib.hid hw0
  have HB0 := Lib.hid hb0
  have HK0 := Lib.hid hk0
  have HR0 := Lib.hid (h.below hb0)
  have HP := Lib.hid hp
  have HC := Lib.hid hcode
  have HT := Lib.hid htext
  clear hw0 hb0 hk0 h hp hcode htext
  go_enter Try.func32, Try.ntmps32
  go_wp2_with fail
  rw [← HW.out]
  refine (rNew_any A 512 c p w0 HR0.out (by omega)).mono ?_
  rintro e w1 ⟨r, rfl, hr, hrd, hb1⟩
  have HRr : Hid (w.heap.size ≤ r) := Nat.le_trans HB0.out.size hr
  have HB1 := Lib.hid (HB0.out.trans (hb1.mono HB0.out.size))
  have HI1 : Hid (w0.heap.size ≤ r) := hr
  have HBB1 := Lib.hid hb1
  have HRD := Lib.hid hrd
  clear hr hrd hb1
  go_wp2_with fail
  have cu := rUint_any r (p, false) w1 HRD.out
  rw [takeS_yes (by have := HP.out; omega), val_num] at cu
  refine cu.mono ?_
  clear cu
  intro e w2 hred
  have HB2 := Lib.hid (hred.grow HBB1.out HI1.out HBB1.out.size)
  obtain ⟨rfl, hrd, -⟩ := hred
  have HRD2 := Lib.hid hrd
  clear hrd HRD
  dsimp only
  go_wp2_with fail
  refine (readTwo_any r (p.drop 8) w2 HRD2.out (by rw [List.length_drop]; have := HP.out; omega)).mono ?_
  intro e w3 hred
  have HB3 := Lib.hid (hred.grow HB2.out HI1.out HB2.out.size)
  obtain ⟨rfl, hrd, -⟩ := hred
  rw [List.drop_drop] at hrd
  have HRD3 := Lib.hid hrd
  clear hrd HRD2
  go_wp2_with fail
  refine (readTwo_any r (p.drop 10) w3 HRD3.out (by rw [List.length_drop]; have := HP.out; omega)).mono ?_
  intro e w4 hred
  have HB4 := Lib.hid (hred.grow HB3.out HI1.out HB3.out.size)
  obtain ⟨rfl, hrd, -⟩ := hred
  rw [List.drop_drop] at hrd
  have HRD4 := Lib.hid hrd
  clear hrd HRD3
  go_wp2_with fail
  refine (rText_any r (p.drop 12, false) w4 HRD4.out).mono ?_
  rintro e w5 ⟨A5, n5, c5, rfl, hown, -, hg5⟩
  rw [HT.out] at hown
  have HB5 : Hid (Below w0.heap.size w0 w5) := HB4.out.grown hg5 HB4.out.size fun k hk => by injection hk with hk; have := HI1.out; omega
  have HR5 := Lib.hid (Rd.of_own hown).1
  have HOWN := Lib.hid hown
  have HL5 : Hid ((textP p).length = n5) := (Rd.of_own hown).1.len
  have HL6 : Hid (n5 ≤ 496) := by have := textP_le (p := p); have := HL5.out; show _ ≤ _; omega
  clear hown hg5 HRD4 HT
  have HS1 := Lib.hid (first8_lt p)
  have HS2 := Lib.hid (num_two (p.drop 8))
  have HS3 := Lib.hid (num_two (p.drop 10))
  have HRp := Lib.hid (HR0.out.below HB5.out)
  have e1 : num (p.take 8) = first8 p := rfl
  rw [e1]
  clear e1
  have HC2 := HC.out
  generalize first8 p = s at *
  generalize num ((p.drop 8).take 2) = a at *
  generalize num ((p.drop 10).take 2) = o at *
  generalize textP p = t at *
  have HCC := Lib.hid HC2
  clear HC2 HC
  have FACTS : Hid (∀ z : Int, Below w0.heap.size w0 (w5.alloc (.cells #[.int .u64 z, .int .u16 (a : Int), .int .u16 (o : Int), .slice A5 n5 c5] 79))) := fun z => HB5.out.alloc HB5.out.size _
  have zero : ∀ W, Below w0.heap.size w0 W → (W.cell? ⟨w.heap.size, 0, none⟩ = some (.int .u64 0) ∧ W.cell? ⟨w.heap.size, 1, none⟩ = some (.int .u16 0) ∧ W.cell? ⟨w.heap.size, 2, none⟩ = some (.int .u16 0) ∧ W.cell? ⟨w.heap.size, 3, none⟩ = some (.slice none 0 0)) ∧ (W.frozen? ⟨w.heap.size, 0, none⟩ = false ∧ W.frozen? ⟨w.heap.size, 1, none⟩ = false ∧ W.frozen? ⟨w.heap.size, 2, none⟩ = false ∧ W.frozen? ⟨w.heap.size, 3, none⟩ = false) := fun W hW =>
    have h := HK0.out.below hW
    ⟨⟨h.cell 0, h.cell 1, h.cell 2, h.cell 3⟩, h.frozen 0, h.frozen 1, h.frozen 2, h.frozen 3⟩
  have HZERO := Lib.hid zero
  clear zero
  have fin0 : ∀ W, Below w0.heap.size w0 W → ∀ z0 z1 z2 z3 : Value, Below w.heap.size w ((((W.setCell ⟨w.heap.size, 0, none⟩ z0).setCell ⟨w.heap.size, 1, none⟩ z1).setCell ⟨w.heap.size, 2, none⟩ z2).setCell ⟨w.heap.size, 3, none⟩ z3) ∧ Bk ((((W.setCell ⟨w.heap.size, 0, none⟩ z0).setCell ⟨w.heap.size, 1, none⟩ z1).setCell ⟨w.heap.size, 2, none⟩ z2).setCell ⟨w.heap.size, 3, none⟩ z3) w.heap.size 79 #[z0, z1, z2, z3] := fun W hW z0 z1 z2 z3 => by
    refine ⟨?_, by simpa using ((((HK0.out.below hW).set 0 z0).set 1 z1).set 2 z2).set 3 z3⟩
    have o4 := (((Out.setCell (X := (· = w.heap.size)) W (p := ⟨w.heap.size, 0, none⟩) rfl z0).trans (Out.setCell (X := (· = w.heap.size)) _ (p := ⟨w.heap.size, 1, none⟩) rfl z1) (fun k hk => .inl hk)).trans (Out.setCell (X := (· = w.heap.size)) _ (p := ⟨w.heap.size, 2, none⟩) rfl z2) (fun k hk => .inl hk)).trans (Out.setCell (X := (· = w.heap.size)) _ (p := ⟨w.heap.size, 3, none⟩) rfl z3) (fun k hk => .inl hk)
    exact o4.below (HB0.out.trans (hW.mono HB0.out.size)) (fun k hk => by rw [hk]; exact Nat.le_refl _) (Nat.le_trans HB0.out.size hW.size)
  have HFIN := Lib.hid fin0
  clear fin0
  by_cases h0 : s = 0
  · have HRES : Hid (leafF p = (0, 0, 0, [])) := by show _ = _; rw [HCC.out, if_pos h0]
    clear HCC
    subst h0
    have hb := FACTS.out 0
    have hz := HZERO.out _ hb
    obtain ⟨⟨k0, k1, k2, k3⟩, f0, f1, f2, f3⟩ := hz
    have HB := Lib.hid hb
    clear hb
    go_wp2_with fail
    obtain ⟨hf1, hf2⟩ := HFIN.out _ HB.out (.int .u64 0) (.int .u16 0) (.int .u16 0) (.slice none 0 0)
    refine bodyPost_ret (results_cell_row rfl _ _ w.heap.size 79 _ (0, 0) _ rfl hf2 Try.underlying79 rfl size_leaf) rfl ?_
    refine ⟨_, rfl, ?_, hf1⟩
    rw [HRES.out]
    exact ⟨none, 0, 0, rfl, own_nil _ _ _⟩
  · have hb := FACTS.out (s : Int)
    have hz := HZERO.out _ hb
    obtain ⟨⟨k0, k1, k2, k3⟩, f0, f1, f2, f3⟩ := hz
    have HB := Lib.hid hb
    have hs0 : ¬ ((s : Int) = 0) := by omega
    by_cases h4 : 480 < n5
    · have HRES : Hid (leafF p = (0, 0, 0, [])) := by show _ = _; rw [HCC.out, if_neg h0, if_pos (by rw [HL5.out]; exact h4)]
      clear hb HCC
      have h4' : (480 : Int) < (n5 : Int) := by omega
      have h4'' : decide ((480 : Int) < (n5 : Int)) = true := decide_eq_true h4'
      go_wp2_with fail
      obtain ⟨hf1, hf2⟩ := HFIN.out _ HB.out (.int .u64 0) (.int .u16 0) (.int .u16 0) (.slice none 0 0)
      refine bodyPost_ret (results_cell_row rfl _ _ w.heap.size 79 _ (0, 0) _ rfl hf2 Try.underlying79 rfl size_leaf) rfl ?_
      refine ⟨_, rfl, ?_, hf1⟩
      rw [HRES.out]
      exact ⟨none, 0, 0, rfl, own_nil _ _ _⟩
    · have h4' : ¬ (480 : Int) < (n5 : Int) := by omega
      have h4'' : decide ((480 : Int) < (n5 : Int)) = false := decide_eq_false h4'
      have hb5 : Below w5.heap.size w5 (w5.alloc (.cells #[.int .u64 (s : Int), .int .u16 (a : Int), .int .u16 (o : Int), .slice A5 n5 c5] 79)) := (Below.refl _ _).alloc (Nat.le_refl _) _
      have HCL := Lib.hid (leaf_lay s a o n5 c5 A5 t _ HS1.out HS2.out HS3.out (HR5.out.below hb5) (by omega))
      have HRV := Lib.hid (HRp.out.below hb5)
      have HLF := Lib.hid (LfAt.new w5 79 s a o A5 n5 c5)
      have H4 := Lib.hid h4
      have HSN := Lib.hid h0
      have HCE : Hid (leafF p = if p = leafP s a o t then (s, a, o, t) else (0, 0, 0, [])) := by show _ = _; rw [HCC.out, if_neg h0, if_neg (by rw [HL5.out]; exact h4)]
      have HLL : Hid ((leafP s a o t).length = 512) := leafP_length (by rw [HL5.out]; omega)
      clear hb h4 h0 hb5 k0 k1 k2 k3 f0 f1 f2 f3 HCC
      generalize leafP s a o t = q at *
      go_wp2_with fail
      refine HCL.out.mono ?_
      intro e w6 hput
      obtain ⟨x, rfl, hput⟩ := hput.val
      obtain ⟨hsl, hb6⟩ := hput.sl
      obtain ⟨A6, n6, c6, rfl, -, -, hr6⟩ := hsl
      have HR6 := Lib.hid hr6
      have HB6 := Lib.hid (HB.out.trans (hb6.mono HB.out.size))
      have HRV6 := Lib.hid (HRV.out.below hb6)
      have HOW6 := Lib.hid ((HOWN.out.alloc (.cells #[.int .u64 (s : Int), .int .u16 (a : Int), .int .u16 (o : Int), .slice A5 n5 c5] 79)).kept (grown_of_below hb6 none) (Classical.em _))
      have hlf := HLF.out.keep (hb6.block _ (by rw [size_new]; omega))
      have hz := HZERO.out _ HB6.out
      clear hput hb6 hr6 HCL
      go_wp2_with fail
      refine (equal_bytes A A6 512 n6 c c6 p q w6 HRV6.out HR6.out).mono ?_
      rintro e _ ⟨rfl, rfl⟩
      obtain ⟨⟨k0, k1, k2, k3⟩, f0, f1, f2, f3⟩ := hz
      by_cases hpq : p = q
      · have HRES : Hid (leafF p = (s, a, o, t)) := by show _ = _; rw [HCE.out, if_pos hpq]
        rw [decide_eq_true hpq]
        obtain ⟨c0, c1, c2, c3⟩ := hlf
        clear hpq HCE
        go_wp2_with fail
        obtain ⟨hf1, hf2⟩ := HFIN.out _ HB6.out (.int .u64 (s : Int)) (.int .u16 (a : Int)) (.int .u16 (o : Int)) (.slice A5 n5 c5)
        refine bodyPost_ret (results_cell_row rfl _ _ w.heap.size 79 _ (0, 0) _ rfl hf2 Try.underlying79 rfl size_leaf) rfl ?_
        refine ⟨_, rfl, ?_, hf1⟩
        rw [HRES.out]
        have hbk0 : w.heap.size < w0.heap.size := HK0.out.lt
        have hlt : w.heap.size < w4.heap.size := Nat.lt_of_lt_of_le hbk0 HB4.out.size
        exact ⟨A5, n5, c5, rfl, own_base (ownsRow_setCell_below (ownsRow_setCell_below (ownsRow_setCell_below (ownsRow_setCell_below HOW6.out (a := ⟨w.heap.size, 0, none⟩) hlt _) (a := ⟨w.heap.size, 1, none⟩) hlt _) (a := ⟨w.heap.size, 2, none⟩) hlt _) (a := ⟨w.heap.size, 3, none⟩) hlt _) (Nat.le_of_lt hlt)⟩
      · have HRES : Hid (leafF p = (0, 0, 0, [])) := by show _ = _; rw [HCE.out, if_neg hpq]
        rw [decide_eq_false hpq]
        clear hpq HCE hlf
        go_wp2_with fail
        obtain ⟨hf1, hf2⟩ := HFIN.out _ HB6.out (.int .u64 0) (.int .u16 0) (.int .u16 0) (.slice none 0 0)
        refine bodyPost_ret (results_cell_row rfl _ _ w.heap.size 79 _ (0, 0) _ rfl hf2 Try.underlying79 rfl size_leaf) rfl ?_
        refine ⟨_, rfl, ?_, hf1⟩
        rw [HRES.out]
        exact ⟨none, 0, 0, rfl, own_nil _ _ _⟩
end Go.Proofs.Ytikpedkckijioaa.Log
