/- Effects below /r/a and effects below /r/b come to the same in either order. No program in this text. -/
import Derived.Test.YtaokjkhailpemaaDoorTreeApartPure
import Derived.Test.YtaokjkhailpemaaDoorTreeGrows
namespace Go.Proofs.YtaokjkhailpemaaDoor.Tree
open Go.Op Path

def pRb : List UInt8 := [47, 114, 47, 98]
def rowAB : Row := [(pR, ZN.zero), (pRa, { ZN.zero with data := pRa }), (pRb, { ZN.zero with data := pRb })]
def tAB : TR := ⟨pR, 1, rowAB⟩
theorem ab1 : (TR.new pR).apply [efPut pRa, efPut pRb] = (0, tAB) := by kernel_rfl
theorem under_ra : underF pRa pR = true := by kernel_rfl
theorem under_rb : underF pRb pR = true := by kernel_rfl
theorem par_ra : parentF pRa = pR := by kernel_rfl
theorem par_rb : parentF pRb = pR := by kernel_rfl
theorem good_ab : Good pR rowAB := by
  have h := good_apply (t := TR.new pR) (xs := [efPut pRa, efPut pRb]) (good_new gr0)
  rw [ab1] at h
  exact h
/-- No path is under both. -/
theorem not_both {q : List UInt8} (h : underF q pRa = true) : underF q pRb = false := by
  rw [← Bool.not_eq_true]
  intro h2
  obtain ⟨x, rfl⟩ := under_prefix h
  obtain ⟨y, hy⟩ := under_prefix h2
  have := congrArg (fun l : List UInt8 => l[3]?) hy
  simp [pRa, pRb] at this
theorem not_both' {q : List UInt8} (h : underF q pRb = true) : underF q pRa = false := by
  rw [← Bool.not_eq_true]
  intro h2
  rw [not_both h2] at h
  cases h

/-- The row behind effects, whether they fit or not. -/
def rowOf (r : Row) (xs : List Ef) : Row := if (rowApply pR r xs).1 = 0 then (rowApply pR r xs).2 else r
theorem good_rowOf {r : Row} (h : Good pR r) (xs : List Ef) : Good pR (rowOf r xs) := by
  unfold rowOf
  split
  · next h0 => exact good_rowApply h h0
  · exact h
theorem len_rowOf {r : Row} (h : Good pR r) (xs : List Ef) : (rowOf r xs).length ≤ r.length + xs.length := by
  unfold rowOf
  split
  · next h0 => exact apply_length pR xs r h h0
  · omega
theorem else_rowOf {A : List UInt8} {r : Row} (h : Good pR r) {xs : List Ef} (hx : ∀ x ∈ xs, underF x.path A = true) {q : List UInt8} (hq : underF q A = false) : get (rowOf r xs) q = get r q := by
  unfold rowOf
  split
  · next h0 => exact apply_else xs r h hx q hq h0
  · rfl
theorem same_rowOf {A : List UInt8} (hA : underF A pR = true) (hne : A ≠ pR) (hpar : parentF A = pR) {r s : Row} (hr : Good pR r) (hs : Good pR s) (h : SameAt A r s) {xs : List Ef} (hx : ∀ x ∈ xs, underF x.path A = true) (n1 : r.length + xs.length < 48) (n2 : s.length + xs.length < 48) :
    (rowApply pR r xs).1 = (rowApply pR s xs).1 ∧ SameAt A (rowOf r xs) (rowOf s xs) := by
  have key := apply_same hA hne xs r s hr hs h hx (by rw [hpar]; exact hr.has_root) (by rw [hpar]; exact hs.has_root) n1 n2
  refine ⟨key.1, ?_⟩
  unfold rowOf
  rw [← key.1]
  by_cases h0 : (rowApply pR r xs).1 = 0
  · rw [if_pos h0, if_pos h0]
    exact key.2 h0
  · rw [if_neg h0, if_neg h0]
    exact h
theorem apply_rowOf (r : Row) (c : Nat) (xs : List Ef) : (⟨pR, c, r⟩ : TR).apply xs = ((rowApply pR r xs).1, ⟨pR, if (rowApply pR r xs).1 = 0 then (c + 1) % 18446744073709551616 else c, rowOf r xs⟩) := by
  unfold TR.apply rowOf
  dsimp only
  split
  · next h => rw [h]
  · rfl
theorem apart {l m : List Ef} (hl : ∀ x ∈ l, underF x.path pRa = true) (hm : ∀ x ∈ m, underF x.path pRb = true) (nl : l.length ≤ 20) (nm : m.length ≤ 20) :
    (tAB.apply l).1 = ((tAB.apply m).2.apply l).1 ∧ ((tAB.apply l).2.apply m).1 = (tAB.apply m).1 ∧ ((tAB.apply l).2.apply m).2 = ((tAB.apply m).2.apply l).2 := by
  have g0 := good_ab
  have gl := good_rowOf g0 l
  have gm := good_rowOf g0 m
  have hr0 : rowAB.length = 3 := rfl
  have ll := len_rowOf g0 l
  have lm := len_rowOf g0 m
  have sA : SameAt pRa rowAB (rowOf rowAB m) := fun q hq => (else_rowOf g0 hm (not_both hq)).symm
  have sB : SameAt pRb rowAB (rowOf rowAB l) := fun q hq => (else_rowOf g0 hl (not_both' hq)).symm
  have kA := same_rowOf under_ra (by decide) par_ra g0 gm sA hl (by omega) (by omega)
  have kB := same_rowOf under_rb (by decide) par_rb g0 gl sB hm (by omega) (by omega)
  have hrow : rowOf (rowOf rowAB l) m = rowOf (rowOf rowAB m) l := by
    refine row_ext (good_rowOf gl m).sorted (good_rowOf gm l).sorted fun q => ?_
    cases ha : underF q pRa with
    | true => rw [else_rowOf gl hm (not_both ha), kA.2 q ha]
    | false =>
      rw [else_rowOf gm hl ha]
      cases hb : underF q pRb with
      | true => rw [← kB.2 q hb]
      | false => rw [else_rowOf gl hm hb, else_rowOf g0 hl ha, else_rowOf g0 hm hb]
  unfold tAB
  rw [apply_rowOf, apply_rowOf, apply_rowOf, apply_rowOf, ← kA.1, ← kB.1, hrow]
  refine ⟨rfl, rfl, ?_⟩
  by_cases c1 : (rowApply pR rowAB l).1 = 0
  · by_cases c2 : (rowApply pR rowAB m).1 = 0
    · simp [c1, c2]
    · simp [c1, c2]
  · by_cases c2 : (rowApply pR rowAB m).1 = 0
    · simp [c1, c2]
    · simp [c1, c2]
end Go.Proofs.YtaokjkhailpemaaDoor.Tree
