/- Chapter 10's numbers, in the code's own words: the next epoch by division, a falling row. No program in this text. -/
import Derived.Test.YtcnmfbbliaemhaaBalPure
namespace Go.Proofs.Ytcnmfbbliaemhaa.Bal

theorem next_val {a i n : Nat} (hi : i < n) : next a i n = if i ≤ a % n then a - a % n + i + n else a - a % n + i := by
  have h2 := Nat.div_add_mod a n
  have h1 := Nat.mod_lt a (show 0 < n by omega)
  have e : a - a % n = n * (a / n) := by omega
  symm
  split
  · next h =>
    refine next_only hi ⟨by omega, by omega⟩ ?_
    rw [e, Nat.add_mod_right, Nat.mul_add_mod, Nat.mod_eq_of_lt hi]
  · next h =>
    refine next_only hi ⟨by omega, by omega⟩ ?_
    rw [e, Nat.mul_add_mod, Nat.mod_eq_of_lt hi]

theorem Has.falling {l s : List Int} (hp : s.Perm l) (hs : s.Pairwise (fun x y => y ≤ x)) (h0 : l ≠ []) : ∃ c, s[quorum s.length - 1]? = some c ∧ Has l c := by
  have hlen : 0 < l.length := List.length_pos_iff.2 h0
  have hsl : s.length = l.length := hp.length_eq
  obtain ⟨c, h1, h2⟩ := Has.sorted (s := s.reverse) ((List.reverse_perm s).trans hp) (List.pairwise_reverse.2 hs) h0
  refine ⟨c, ?_, h2⟩
  rw [List.length_reverse] at h1
  have hq : quorum s.length ≤ s.length ∧ 0 < quorum s.length := by unfold quorum; omega
  rw [List.getElem?_reverse (by omega)] at h1
  rw [← h1]
  congr 1
  omega
/-- What Commit answers: of none 0. -/
def best (l : List Int) : Int := ((l.mergeSort fun x y => decide (y ≤ x))[l.length / 2]?).getD 0
theorem falls (l : List Int) : (l.mergeSort fun x y => decide (y ≤ x)).Pairwise (fun x y => y ≤ x) := by
  have := List.pairwise_mergeSort (le := fun x y : Int => decide (y ≤ x)) (fun a b c h1 h2 => by simp at *; omega) (fun a b => by simp; omega) l
  exact this.imp fun h => by simpa using h
theorem best_at {l : List Int} (h0 : l ≠ []) : (l.mergeSort fun x y => decide (y ≤ x))[l.length / 2]? = some (best l) := by
  have hlen : 0 < l.length := List.length_pos_iff.2 h0
  have : l.length / 2 < (l.mergeSort fun x y => decide (y ≤ x)).length := by rw [List.length_mergeSort]; omega
  unfold best
  rw [List.getElem?_eq_getElem this]
  rfl
theorem best_has {l : List Int} (h0 : l ≠ []) : Has l (best l) := by
  obtain ⟨c, h1, h2⟩ := Has.falling (List.mergeSort_perm l (fun x y => decide (y ≤ x))) (falls l) h0
  have e : quorum (l.mergeSort fun x y => decide (y ≤ x)).length - 1 = l.length / 2 := by rw [List.length_mergeSort]; unfold quorum; omega
  rw [e, best_at h0] at h1
  injection h1 with h1
  rw [h1]
  exact h2
theorem best_nil : best [] = 0 := by simp [best]

/-- The greatest so far of those that a quorum is at (n numbers looked at). -/
def sofar (l : List Int) : Nat → Option Int
  | 0 => none
  | k + 1 => match l[k]? with
    | none => sofar l k
    | some x => if quorum l.length ≤ geN l x then (match sofar l k with
      | none => some x
      | some b => if b < x then some x else some b) else sofar l k
theorem sofar_spec (l : List Int) : ∀ k, k ≤ l.length → (∀ b, sofar l k = some b → b ∈ l ∧ quorum l.length ≤ geN l b) ∧ ∀ i x, i < k → l[i]? = some x → quorum l.length ≤ geN l x → ∃ b, sofar l k = some b ∧ x ≤ b
  | 0, _ => ⟨fun b h => by simp [sofar] at h, fun i x h => by omega⟩
  | k + 1, hk => by
    obtain ⟨h1, h2⟩ := sofar_spec l k (by omega)
    have hg : l[k]? = some l[k] := List.getElem?_eq_getElem (by omega)
    simp only [sofar, hg]
    by_cases hq : quorum l.length ≤ geN l l[k]
    · rw [if_pos hq]
      cases hs : sofar l k with
      | none =>
        refine ⟨fun b h => by injection h with h; rw [← h]; exact ⟨List.getElem_mem _, hq⟩, fun i x hi hx hqx => ?_⟩
        by_cases hik : i = k
        · subst hik; rw [hg] at hx; injection hx with hx; exact ⟨_, rfl, by omega⟩
        · obtain ⟨b, hb, _⟩ := h2 i x (by omega) hx hqx
          rw [hs] at hb; cases hb
      | some b =>
        simp only []
        by_cases hb : b < l[k]
        · rw [if_pos hb]
          refine ⟨fun c h => by injection h with h; rw [← h]; exact ⟨List.getElem_mem _, hq⟩, fun i x hi hx hqx => ?_⟩
          by_cases hik : i = k
          · subst hik; rw [hg] at hx; injection hx with hx; exact ⟨_, rfl, by omega⟩
          · obtain ⟨b', hb', hx'⟩ := h2 i x (by omega) hx hqx
            rw [hs] at hb'; injection hb' with hb'; exact ⟨_, rfl, by omega⟩
        · rw [if_neg hb]
          refine ⟨fun c h => by injection h with h; rw [← h]; exact h1 b hs, fun i x hi hx hqx => ?_⟩
          by_cases hik : i = k
          · subst hik; rw [hg] at hx; injection hx with hx; exact ⟨_, rfl, by omega⟩
          · obtain ⟨b', hb', hx'⟩ := h2 i x (by omega) hx hqx
            rw [hs] at hb'; injection hb' with hb'; exact ⟨_, rfl, by omega⟩
    · rw [if_neg hq]
      refine ⟨h1, fun i x hi hx hqx => ?_⟩
      by_cases hik : i = k
      · subst hik; rw [hg] at hx; injection hx with hx; rw [← hx] at hqx; exact absurd hqx hq
      · exact h2 i x (by omega) hx hqx
theorem sofar_best {l : List Int} (h0 : l ≠ []) : sofar l l.length = some (best l) := by
  obtain ⟨h1, h2⟩ := sofar_spec l l.length (Nat.le_refl _)
  have hb := best_has h0
  obtain ⟨i, hi, he⟩ := List.getElem_of_mem hb.mem
  obtain ⟨b, hs, _⟩ := h2 i (best l) hi (by rw [List.getElem?_eq_getElem hi, he]) hb.at_
  rw [hs]
  obtain ⟨m1, m2⟩ := h1 b hs
  refine congrArg some (Has.only (Has.greatest m1 m2 fun x hx hq => ?_) hb)
  obtain ⟨j, hj, hje⟩ := List.getElem_of_mem hx
  obtain ⟨b', hs', hx'⟩ := h2 j x hj (by rw [List.getElem?_eq_getElem hj, hje]) hq
  rw [hs] at hs'
  injection hs' with hs'
  omega
/-- How many of the first k are at least x, or above it. -/
theorem geN_snoc (l : List Int) (x y : Int) : geN (l ++ [y]) x = geN l x + if x ≤ y then 1 else 0 := by
  unfold geN
  rw [List.countP_append, List.countP_cons, List.countP_nil]
  by_cases h : x ≤ y <;> simp [h]
theorem gtN_snoc (l : List Int) (x y : Int) : gtN (l ++ [y]) x = gtN l x + if x < y then 1 else 0 := by
  unfold gtN
  rw [List.countP_append, List.countP_cons, List.countP_nil]
  by_cases h : x < y <;> simp [h]
theorem geN_le (l : List Int) (x : Int) : geN l x ≤ l.length := List.countP_le_length
theorem gtN_le (l : List Int) (x : Int) : gtN l x ≤ l.length := List.countP_le_length
end Go.Proofs.Ytcnmfbbliaemhaa.Bal
