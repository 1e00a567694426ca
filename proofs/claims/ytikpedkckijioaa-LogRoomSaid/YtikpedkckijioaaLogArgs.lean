/- Arguments of log's laws. -/
import Derived.Test.YtikpedkckijioaaLogLawAll
import Derived.Deep.Slices
namespace Go.Proofs.Ytikpedkckijioaa.Log
open Go.ChangeShapes Go.WideShapes Go.ChangeAt Go.RowKit Disk

theorem ty_u16s : Try.prog.underlying 63 = some (.slice 36) := by kernel_rfl
theorem ty_u16 : Try.prog.underlying 36 = some (.int .u16) := by kernel_rfl
theorem ty_ints : Try.prog.underlying 50 = some (.slice 3) := by kernel_rfl
theorem ty_int : Try.prog.underlying 3 = some (.int .i64) := by kernel_rfl
theorem ce_u16 : Try.prog.cellsOf 36 = 1 := by kernel_rfl
theorem ce_u8 : Try.prog.cellsOf 5 = 1 := by kernel_rfl
theorem ce_int : Try.prog.cellsOf 3 = 1 := by kernel_rfl
theorem ce_bool : Try.prog.cellsOf 4 = 1 := by kernel_rfl
theorem addr_plain {w : World} {a : Addr} {v : Value} (h : w.cell? a = some v) : a = ⟨a.block, a.off, none⟩ := by
  obtain ⟨b, o, s⟩ := a
  cases s with
  | none => rfl
  | some x =>
    unfold World.cell? at h
    split at h
    · simp at h
    · cases h
theorem add_plain (b o k : Nat) : (⟨b, o, none⟩ : Addr).add k = ⟨b, o + k, none⟩ := by
  unfold Addr.add
  by_cases h : k = 0
  · subst h; simp
  · simp [h]
theorem list4 {α : Type} {l : List α} (h : l.length = 4) : ∃ a b c d, l = [a, b, c, d] := by
  match l, h with
  | [a, b, c, d], _ => exact ⟨a, b, c, d, rfl⟩
/-- Rows of values of four cells. -/
structure FourS (w : World) (A : Option Addr) (n : Nat) (xs : List (Array Value)) : Prop where
  len : xs.length = n
  cells : ∀ j, (h : j < xs.length) → ∃ b o, A = some ⟨b, o, none⟩ ∧ xs[j].size = 4 ∧ ∀ (i : Nat) (v : Value), xs[j][i]? = some v → w.cell? ⟨b, o + j * 4 + i, none⟩ = some v
theorem FourS.nil_ (w : World) (A : Option Addr) : FourS w A 0 [] := ⟨rfl, fun j h => absurd h (by simp)⟩
theorem FourS.below {w w' : World} {A : Option Addr} {n : Nat} {xs : List (Array Value)} (h : FourS w A n xs) (hb : Below w.heap.size w w') : FourS w' A n xs :=
  ⟨h.len, fun j hj => by
    obtain ⟨b, o, e, h1, hc⟩ := h.cells j hj
    exact ⟨b, o, e, h1, fun i v hv => (hb.cell (World.block_lt_of_cell? w _ (hc i v hv))).trans (hc i v hv)⟩⟩
section
variable {H : Type} {enc : TypeId × Value → H} {w : World} {base : Nat} {spare : Nat → Bool} {held : Bool}
theorem open_fates {fuel : Nat} {cs : List Value} {x : DataW H × List MemPlace} (h : DataW.trod enc Try.prog w base spare held fuel 50 cs = some x) : ∃ A n c zs, cs = [.slice A n c] ∧ n ≤ c ∧ c ≤ maxLen ∧ RdI w A n zs := by
  rcases open_ints ty_ints ty_int ce_int h with ⟨rfl, _⟩ | ⟨a, len, cap, zs, rfl, _, hl, hm, hz, _, hc, hw⟩
  · exact ⟨none, 0, 0, [], rfl, Nat.le_refl _, Nat.zero_le _, RdI.nil_ _ _⟩
  · have hlz : len ≤ zs.length := by rw [hz]; split <;> omega
    refine ⟨some a, len, cap, zs.take len, rfl, hl, hm, ⟨by simp; omega, fun _ => ⟨a, rfl, fun j z hb => ?_⟩, fun z hzm => ?_⟩⟩
    · rw [List.getElem?_take] at hb
      split at hb
      · next hj =>
        have hjl : j < zs.length := by omega
        rw [List.getElem?_eq_getElem hjl] at hb
        injection hb with hb
        rw [hc j hjl, ← hb, List.getD_eq_getElem?_getD, List.getElem?_eq_getElem hjl]
        rfl
      · cases hb
    · have := hw z (List.mem_of_mem_take hzm)
      simp [Lit.wf, IntKind.min, IntKind.max, IntKind.signed, IntKind.bits] at this
      omega
set_option maxRecDepth 100000 in
theorem arg_ints {b0 : Nat} {r : Reach} {v : Value} {d : DataW H} {ps : List MemPlace} (hv : Value.okWide Try.prog w r b0 50 v) (h : DataW.Trod enc Try.prog w base spare held 50 v d ps) : ∃ A n c zs, v = .slice A n c ∧ n ≤ c ∧ c ≤ maxLen ∧ RdI w A n zs := by
  obtain ⟨A, n, c, rfl⟩ := okWide_slice ty_ints hv
  obtain ⟨fuel, h⟩ := h
  obtain ⟨A', n', c', zs, e, h1, h2, h3⟩ := open_fates h
  simp [Value.cells] at e
  obtain ⟨rfl, rfl, rfl⟩ := e
  exact ⟨A, n, c, zs, rfl, h1, h2, h3⟩
/-- A row of numbers below 2^16. -/
def vals16 (zs : List Nat) : List Value := zs.map fun (z : Nat) => Value.int .u16 (z : Int)
set_option maxRecDepth 100000 in
theorem arg_u16s {b0 : Nat} {r : Reach} {v : Value} {d : DataW H} {ps : List MemPlace} (hv : Value.okWide Try.prog w r b0 63 v) (h : DataW.Trod enc Try.prog w base spare held 63 v d ps) : ∃ A n c, ∃ zs : List Nat, v = .slice A n c ∧ n ≤ c ∧ c ≤ maxLen ∧ RdV w A n (vals16 zs) ∧ ∀ z ∈ zs, z < 65536 := by
  obtain ⟨A, n, c, rfl⟩ := okWide_slice ty_u16s hv
  obtain ⟨fuel, h⟩ := h
  rcases open_ints ty_u16s ty_u16 ce_u16 h with ⟨e, _⟩ | ⟨a, len, cap, zs, e, _, hl, hm, hz, _, hc, hw⟩
  · simp [Value.cells] at e
    obtain ⟨rfl, rfl, rfl⟩ := e
    exact ⟨none, 0, 0, [], rfl, Nat.le_refl _, Nat.zero_le _, RdV.nil_ _ _, fun z hz => by cases hz⟩
  · simp [Value.cells] at e
    obtain ⟨rfl, rfl, rfl⟩ := e
    have hlz : n ≤ zs.length := by rw [hz]; split <;> omega
    have hb : ∀ z ∈ zs, 0 ≤ z ∧ z < 65536 := fun z hzm => by
      have := hw z hzm
      simp [Lit.wf, IntKind.min, IntKind.max, IntKind.signed, IntKind.bits] at this
      omega
    refine ⟨some a, n, c, (zs.take n).map Int.toNat, rfl, hl, hm, ⟨by simp [vals16]; omega, fun _ => ⟨a, rfl, fun j v hv => ?_⟩⟩, fun z hzm => ?_⟩
    · rw [vals16, List.map_map, List.getElem?_map] at hv
      cases hj : (zs.take n)[j]? with
      | none => rw [hj] at hv; cases hv
      | some z =>
        rw [hj] at hv
        injection hv with hv
        have hj2 := hj
        rw [List.getElem?_take] at hj2
        split at hj2
        · next hjn =>
          have hjl : j < zs.length := by omega
          have hzm : z ∈ zs := List.mem_of_getElem? hj2
          rw [List.getElem?_eq_getElem hjl] at hj2
          injection hj2 with hj2
          rw [hc j hjl, ← hv, List.getD_eq_getElem?_getD, List.getElem?_eq_getElem hjl]
          have := hb z hzm
          simp [hj2]
          omega
        · cases hj2
    · obtain ⟨y, hy, rfl⟩ := List.mem_map.1 hzm
      have := hb y (List.mem_of_mem_take hy)
      omega
theorem open_u8n {P : Program} {t : TypeId} (ht : P.underlying t = some (.int .u8)) {b0 : Nat} {r : Reach} {v : Value} {d : DataW H} {ps : List MemPlace}
    (hv : Value.okWide P w r b0 t v) (h : DataW.Trod enc P w base spare held t v d ps) : ∃ a : Nat, v = .int .u8 (a : Int) ∧ a < 256 := by
  obtain ⟨z, rfl, _, _, hw⟩ := open_int ht hv h
  have hb := bounds_u8 hw
  exact ⟨z.toNat, by congr 1; omega, by omega⟩
end
end Go.Proofs.Ytikpedkckijioaa.Log
