/- A law's own row of letters without one. -/
import Derived.Test.YtephciglcikllaaNetWant
namespace Go.Proofs.Ytephciglcikllaa.Net
open Go.RowKit Disk Zab Sto

theorem ltsC_take : ∀ (ls : List Lt) (vs : List Value) (k : Nat), ls.length = vs.length → k ≤ ls.length → (ltsC ls vs).take (5 * k) = ltsC (ls.take k) (vs.take k)
  | ls, vs, 0, _, _ => by cases ls <;> cases vs <;> simp [ltsC]
  | [], [], k + 1, _, h => by simp at h
  | x :: ls, v :: vs, k + 1, h, hk => by
    have := ltsC_take ls vs k (by simpa using h) (by simpa using hk)
    rw [List.take_succ_cons, List.take_succ_cons, ltsC, ltsC, List.take_append]
    have e : (ltC x v).length = 5 := rfl
    rw [e, show 5 * (k + 1) - 5 = 5 * k from by omega, this, List.take_of_length_le (by rw [e]; omega)]
theorem ltsC_drop : ∀ (ls : List Lt) (vs : List Value) (k : Nat), ls.length = vs.length → k ≤ ls.length → (ltsC ls vs).drop (5 * k) = ltsC (ls.drop k) (vs.drop k)
  | ls, vs, 0, _, _ => by simp
  | [], [], k + 1, _, h => by simp at h
  | x :: ls, v :: vs, k + 1, h, hk => by
    have := ltsC_drop ls vs k (by simpa using h) (by simpa using hk)
    rw [List.drop_succ_cons, List.drop_succ_cons, ltsC, List.drop_append]
    have e : (ltC x v).length = 5 := rfl
    rw [e, show 5 * (k + 1) - 5 = 5 * k from by omega, this, List.drop_eq_nil_of_le (by rw [e]; omega), List.nil_append]
theorem own_lit5 (w : World) (B : Nat) (hB : B ≤ w.heap.size) : (w.alloc (.cells #[] 37)).ownsRow B 37 5 (.slice (some ⟨w.heap.size, 0, none⟩) 0 0) 0 ([] : List Value) :=
  ⟨rfl, .inr ⟨w.heap.size, 0, #[], rfl, hB, heap_alloc_new w _, Nat.le_refl _, by unfold maxLen; omega, rfl, rfl⟩⟩
theorem LtB.part {P : Nat → Prop} {w : World} {vs : List Value} {ls : List Lt} (h : LtB P w vs ls) (k : Nat) : LtB P w (vs.eraseIdx k) (ls.eraseIdx k) := by
  refine ⟨by rw [List.length_eraseIdx, List.length_eraseIdx, h.len], fun j x hj => ?_⟩
  rw [List.getElem?_eraseIdx] at hj
  split at hj
  · obtain ⟨B, m, c, q1, q2⟩ := h.at_ j x hj
    exact ⟨B, m, c, by rw [List.getElem?_eraseIdx, if_pos ‹_›]; exact q1, q2⟩
  · obtain ⟨B, m, c, q1, q2⟩ := h.at_ (j + 1) x hj
    exact ⟨B, m, c, by rw [List.getElem?_eraseIdx, if_neg ‹_›]; exact q1, q2⟩
theorem LtW.get {P : Nat → Prop} {base : Nat} {w : World} {V : Option Addr} {r d : Nat} {ls : List Lt} (h : LtW P base w (.slice V r d) ls) {j : Nat} {x : Lt} (hj : ls[j]? = some x) : ∃ b B m c, V = some ⟨b, 0, none⟩ ∧ base ≤ b ∧ b < w.heap.size ∧ r ≤ d ∧ w.cell? ⟨b, j * 5, none⟩ = some (.int .i64 x.fr.g) ∧ w.cell? ⟨b, j * 5 + 1, none⟩ = some (.int .i64 x.fr.n) ∧ w.cell? ⟨b, j * 5 + 2, none⟩ = some (.int .i64 x.to.g) ∧ w.cell? ⟨b, j * 5 + 3, none⟩ = some (.int .i64 x.to.n) ∧ w.cell? ⟨b, j * 5 + 4, none⟩ = some (.slice B m c) ∧ m ≤ c ∧ Rd w B m x.bs ∧ ∀ b, B = some b → 1 ≤ m → P b.block := by
  obtain ⟨vs, hown, hlb⟩ := h
  have hjl := (List.getElem?_eq_some_iff.1 hj).1
  obtain ⟨B, m, c, q1, q2, q3, q4⟩ := hlb.at_ j x hj
  rcases hown.2 with ⟨_, h0⟩ | ⟨g, cap, cur, e, hg, hh, hnc, _⟩
  · omega
  · injection e with e1 e2 e3
    subst e1 e2 e3
    have hc : ∀ i v, i < 5 → (ltC x (.slice B m c))[i]? = some v → w.cell? ⟨g, j * 5 + i, none⟩ = some v := fun i v hi hv => by
      have := hown.cells (g := g) rfl _ v ((ltsC_get ls vs j i x _ hj q1 hi).trans hv)
      rw [plus_add] at this
      rw [show j * 5 + i = 5 * j + i from by omega]
      exact this
    exact ⟨g, B, m, c, rfl, hg, (Array.getElem?_eq_some_iff.1 hh).1, hnc, hc 0 _ (by omega) rfl, hc 1 _ (by omega) rfl, hc 2 _ (by omega) rfl, hc 3 _ (by omega) rfl, hc 4 _ (by omega) rfl, q2, q3, q4⟩
/-- 'append(append([]Letter{}, want[:k]...), want[k+1:]...)'. -/
theorem LtW.cuts {P : Nat → Prop} {base : Nat} {w : World} {V : Option Addr} {r dv : Nat} {ls : List Lt} (h : LtW P base w (.slice V r dv) ls) (hr : r = ls.length) {k : Nat} (hk : k < r) (hr6 : r ≤ 100000) (hbase : base ≤ w.heap.size) {W1 : World} (hW1 : W1 = (w.alloc (.cells #[] 37)).drew) :
    ∃ a2 v5 W5 v6 W6, (if dv = k + 1 then V else V.map (·.add ((k + 1) * 5))) = some a2 ∧ (Builtin.append_ #[46, 46] 46 #[.slice (some ⟨w.heap.size, 0, none⟩) 0 0, .slice V k dv]).run Try.prog W1 = .ok v5 W5 ∧ (Builtin.append_ #[46, 46] 46 #[v5, .slice (some a2) (r - (k + 1)) (dv - (k + 1))]).run Try.prog W5 = .ok v6 W6 ∧ LtW P base W6 v6 (ls.eraseIdx k) ∧ Below w.heap.size w W6 ∧ ∀ b, v6.ownBlock = some b → w.heap.size ≤ b := by
  obtain ⟨vs, hown, hlb⟩ := h
  have hvl := hlb.len
  rcases hown.2 with ⟨_, h0⟩ | ⟨g, cap, cur, e, hg, hh, hnc, _⟩
  · omega
  injection e with e1 e2 e3
  subst e1
  subst hr
  have hglt := (Array.getElem?_eq_some_iff.1 hh).1
  have hb1 : Below w.heap.size w W1 := by rw [hW1]; exact below_drewN ((Below.refl _ _).alloc (Nat.le_refl _) _) 1
  have hcell : ∀ j u, (ltsC ls vs)[j]? = some u → w.cell? ⟨g, j, none⟩ = some u := fun j u hj => by
    have := hown.cells (g := g) rfl j u hj
    rwa [plus_add] at this
  have hkl : k ≤ ls.length := by omega
  have hlt := ltsC_length ls vs hvl.symm
  -- the first part
  have hown0 : W1.ownsRow w.heap.size 37 5 (.slice (some ⟨w.heap.size, 0, none⟩) 0 0) 0 ([] : List Value) := by
    have := own_lit5 w w.heap.size (Nat.le_refl _)
    rw [hW1]
    exact this
  have hl1 : (ltsC (ls.take k) (vs.take k)).length = k * 5 := by
    rw [ltsC_length _ _ (by rw [List.length_take, List.length_take, hvl]), List.length_take]; omega
  obtain ⟨v5, W5, q1, q2, q3, q4⟩ := app_letters hown0 ⟨g, 0, none⟩ k dv (news := ltsC (ls.take k) (vs.take k)) hl1 (fun j u hj => by
    rw [plus_add, hb1.cell (p := ⟨g, j, none⟩) hglt]
    refine hcell j u ?_
    rw [← ltsC_take ls vs k hvl.symm hkl, List.getElem?_take] at hj
    split at hj
    · exact hj
    · cases hj) (fun u hu => by
      rw [← ltsC_take ls vs k hvl.symm hkl] at hu
      exact hlb.one u (List.mem_of_mem_take hu)) (by omega) (by rw [hW1]; simp)
  rw [Nat.zero_add, List.nil_append] at q2
  have hb5 : Below w.heap.size w W5 := by
    refine hb1.trans ⟨q3.os, q3.tape, q3.output, q3.size, fun i hi => q3.block i (Nat.lt_of_lt_of_le hi hb1.size) fun e => ?_⟩
    have e : some i = some w.heap.size := e
    injection e with e
    omega
  have ha2 : ∃ a2 : Addr, (if dv = k + 1 then (some ⟨g, 0, none⟩ : Option Addr) else (some (⟨g, 0, none⟩ : Addr)).map (·.add ((k + 1) * 5))) = some a2 ∧ ∀ j u, (ltsC (ls.drop (k + 1)) (vs.drop (k + 1)))[j]? = some u → w.cell? (a2.add j) = some u := by
    by_cases hd : dv = k + 1
    · rw [if_pos hd]
      refine ⟨_, rfl, fun j u hj => ?_⟩
      have : ls.drop (k + 1) = [] := List.drop_eq_nil_of_le (by omega)
      rw [this] at hj
      cases hv : vs.drop (k + 1) <;> rw [hv] at hj <;> simp [ltsC] at hj
    · rw [if_neg hd]
      refine ⟨⟨g, (k + 1) * 5, none⟩, by rw [Option.map_some, plus_add], fun j u hj => ?_⟩
      have e : ((⟨g, (k + 1) * 5, none⟩ : Addr).add j) = ⟨g, (k + 1) * 5 + j, none⟩ := by unfold Addr.add; split <;> simp_all
      rw [e]
      refine hcell _ u ?_
      rw [← ltsC_drop ls vs (k + 1) hvl.symm (by omega), List.getElem?_drop] at hj
      rw [show (k + 1) * 5 + j = 5 * (k + 1) + j from by omega]
      exact hj
  obtain ⟨a2, e2, hc2⟩ := ha2
  have hl2 : (ltsC (ls.drop (k + 1)) (vs.drop (k + 1))).length = (ls.length - (k + 1)) * 5 := by
    rw [ltsC_length _ _ (by rw [List.length_drop, List.length_drop, hvl]), List.length_drop]; omega
  obtain ⟨v6, W6, p1, p2, p3, p4⟩ := app_letters q2 a2 (ls.length - (k + 1)) (dv - (k + 1)) hl2 (fun j u hj => by
    have := hc2 j u hj
    rw [hb5.cell (p := a2.add j) (World.block_lt_of_cell? w _ this)]
    exact this) (fun u hu => by
      rw [← ltsC_drop ls vs (k + 1) hvl.symm (by omega)] at hu
      exact hlb.one u (List.mem_of_mem_drop hu)) (by omega) hb5.size
  have hb6 : Below w.heap.size w W6 := by
    refine hb5.trans ⟨p3.os, p3.tape, p3.output, p3.size, fun i hi => p3.block i (Nat.lt_of_lt_of_le hi hb5.size) fun e => ?_⟩
    have := (q2.lt i e.symm).1
    omega
  refine ⟨a2, v5, W5, v6, W6, e2, q1, p1, ⟨vs.eraseIdx k, ?_, (hlb.below hb6).part k⟩, hb6, fun b hb => (p2.lt b hb).1⟩
  have e7 : (ls.eraseIdx k).length = k + (ls.length - (k + 1)) := by rw [List.length_eraseIdx_of_lt hk]; omega
  rw [e7, eraseIdx_parts, eraseIdx_parts, ltsC_append _ _ _ _ (by rw [List.length_take, List.length_take, hvl])]
  exact own_mono p2 hbase
end Go.Proofs.Ytephciglcikllaa.Net
