/- A slice of asks that came in. -/
import Derived.Test.YtjpiaeidaoklaaaFrame
import Derived.Deep.SlicePairs
namespace Go.Proofs.Ytjpiaeidaoklaaa
open Go.ChangeShapes Go.WideShapes Go.ChangeAt Go.RowKit

/-- The slice '.slice A n c' reads as these asks. -/
structure AskRd (w : World) (A : Option Addr) (n : Nat) (l : List (Nat × Int)) : Prop where
  len : l.length = n
  cells : ∀ j a, l[j]? = some a → a.1 < 256 ∧ -9223372036854775808 ≤ a.2 ∧ a.2 ≤ 9223372036854775807 ∧ ∃ b off, A = some ⟨b, off, none⟩ ∧ w.cell? ⟨b, off + j * 2, none⟩ = some (.int .u8 a.1) ∧ w.cell? ⟨b, off + j * 2 + 1, none⟩ = some (.int .i64 a.2)

theorem addr_plain {w : World} {a : Addr} {v : Value} (h : w.cell? a = some v) : a = ⟨a.block, a.off, none⟩ := by
  obtain ⟨b, o, s⟩ := a
  cases s with
  | none => rfl
  | some x =>
    unfold World.cell? at h
    split at h
    · simp at h
    · cases h
theorem add_plain' (b o k : Nat) : (⟨b, o, none⟩ : Addr).add k = ⟨b, o + k, none⟩ := by
  unfold Addr.add
  split
  · next h => rw [h]; rfl
  · rfl

theorem AskRd.below {w w' : World} {A : Option Addr} {n : Nat} {l : List (Nat × Int)} (h : AskRd w A n l) (hb : Below w.heap.size w w') : AskRd w' A n l :=
  ⟨h.len, fun j a ha => by
    obtain ⟨h1, h2, h3, b, off, e, h4, h5⟩ := h.cells j a ha
    exact ⟨h1, h2, h3, b, off, e, (hb.cell (World.block_lt_of_cell? w _ h4)).trans h4, (hb.cell (World.block_lt_of_cell? w _ h5)).trans h5⟩⟩

theorem ty_asks : Try.prog.underlying 32 = some (.slice 40) := by kernel_rfl
theorem cells_ask : Try.prog.cellsOf 40 = 2 := by kernel_rfl
theorem cells_int : Try.prog.cellsOf 3 = 1 := by kernel_rfl
theorem ty_int : Try.prog.underlying 3 = some (.int .i64) := by kernel_rfl

section
variable {H : Type} {enc : TypeId × Value → H}
theorem open_asks {w : World} {base b0 : Nat} {r : Reach} {spare : Nat → Bool} {held : Bool} {v : Value} {d : DataW H} {ps : List MemPlace}
    (hv : Value.okWide Try.prog w r b0 32 v) (h : DataW.Trod enc Try.prog w base spare held 32 v d ps) : ∃ A n c l, v = .slice A n c ∧ n ≤ c ∧ c ≤ maxLen ∧ AskRd w A n l := by
  obtain ⟨A, n, c, rfl⟩ := okWide_slice ty_asks hv
  obtain ⟨fuel, h⟩ := h
  rcases Go.Deep.open_slice_pairs ty_asks Try.underlying40 cells_ask rfl rfl cells_byte cells_int h with ⟨hcs, _⟩ | ⟨a, len, cap, m, k, V0, V1, D0, D1, P0, P1, hcs, _, hl, hm, hmm, _, hx⟩
  · simp [Value.cells] at hcs
    obtain ⟨rfl, rfl, rfl⟩ := hcs
    exact ⟨none, 0, 0, [], rfl, Nat.le_refl _, Nat.zero_le _, ⟨rfl, fun j a ha => by simp at ha⟩⟩
  · simp [Value.cells] at hcs
    obtain ⟨rfl, rfl, rfl⟩ := hcs
    have hml : n ≤ m := by rw [hmm]; split <;> omega
    refine ⟨some a, n, c, (List.range n).map (fun i => ((intOf (V0 i)).toNat, intOf (V1 i))), rfl, hl, hm, ⟨by simp, fun j x hj => ?_⟩⟩
    rw [List.getElem?_map] at hj
    have hjn : j < n := by
      rcases Nat.lt_or_ge j n with h | h
      · exact h
      · rw [List.getElem?_eq_none (by simpa using h)] at hj; cases hj
    rw [List.getElem?_range hjn] at hj
    injection hj with hj
    subst hj
    obtain ⟨h0, h1, t0, t1⟩ := hx j (by omega)
    obtain ⟨z0, e0, _, w0⟩ := DataW.trod_int ty_byte t0
    obtain ⟨z1, e1, _, w1⟩ := DataW.trod_int ty_int t1
    injection e0 with e0
    injection e1 with e1
    rw [e0] at h0
    rw [e1] at h1
    simp [Lit.wf, IntKind.min, IntKind.max, IntKind.signed, IntKind.bits] at w0 w1
    simp only [e0, e1, intOf]
    have h00 := (hx 0 (by omega)).1
    have hpl : a = ⟨a.block, a.off, none⟩ := addr_plain (by simpa [Addr.add] using h00)
    rw [hpl, add_plain'] at h0 h1
    refine ⟨by omega, by omega, by omega, a.block, a.off, congrArg some hpl, ?_, h1⟩
    rw [h0]
    congr 2
    omega
end
end Go.Proofs.Ytjpiaeidaoklaaa
