/- Layer 6's answers as functions: which root a path belongs to. -/
import Derived.Test.YtnmlknhomhonaaaDoorPathUnder
import Derived.Test.YtnmlknhomhonaaaDoorPathName
namespace Go.Proofs.YtnmlknhomhonaaaDoor.Reg
open Go.RowKit Path

theorem getD_at {α : Type} (l : List α) (d : α) {i : Nat} (h : i < l.length) : l.getD i d = l[i] := by
  rw [List.getD_eq_getElem?_getD, List.getElem?_eq_getElem h]
  rfl

/-- how many parts a root has -/
def depth (l : List UInt8) : Nat := (partsL l).length
/-- the numbers of the first k roots that p is under -/
def aboveK (ls : List (List UInt8)) (p : List UInt8) : Nat → List Nat
  | 0 => []
  | k + 1 => if underF p (ls.getD k []) = true then aboveK ls p k ++ [k] else aboveK ls p k
/-- the number of the region, the first k roots looked at -/
def ofK (ls : List (List UInt8)) (p : List UInt8) : Nat → Int
  | 0 => -1
  | k + 1 => if underF p (ls.getD k []) = true then (if ofK ls p k < 0 then (k : Int) else if depth (ls.getD (ofK ls p k).toNat []) < depth (ls.getD k []) then (k : Int) else ofK ls p k) else ofK ls p k
def ofF (ls : List (List UInt8)) (p : List UInt8) : Int := ofK ls p ls.length
/-- the deepest of a list, the first one of like ones -/
def deepest (d : Nat → Nat) : List Nat → Nat
  | [] => 0
  | x :: xs => xs.foldl (fun m y => if d m < d y then y else m) x

theorem aboveK_lt (ls : List (List UInt8)) (p : List UInt8) : ∀ k, ∀ i ∈ aboveK ls p k, i < k
  | 0 => by simp [aboveK]
  | k + 1 => fun i hi => by
    unfold aboveK at hi
    split at hi
    · rcases List.mem_append.1 hi with h | h
      · have := aboveK_lt ls p k i h; omega
      · have := List.mem_singleton.1 h; omega
    · have := aboveK_lt ls p k i hi; omega
theorem aboveK_le (ls : List (List UInt8)) (p : List UInt8) : ∀ k, (aboveK ls p k).length ≤ k
  | 0 => by simp [aboveK]
  | k + 1 => by
    have := aboveK_le ls p k
    unfold aboveK
    split
    · simp; omega
    · omega
theorem deepest_snoc (d : Nat → Nat) (xs : List Nat) (y : Nat) (h : xs ≠ []) : deepest d (xs ++ [y]) = if d (deepest d xs) < d y then y else deepest d xs := by
  cases xs with
  | nil => exact absurd rfl h
  | cons x xs =>
    show (xs ++ [y]).foldl (fun m y => if d m < d y then y else m) x = _
    rw [List.foldl_append]
    rfl
theorem ofK_above (ls : List (List UInt8)) (p : List UInt8) : ∀ k, ofK ls p k = if aboveK ls p k = [] then -1 else (deepest (fun i => depth (ls.getD i [])) (aboveK ls p k) : Int)
  | 0 => rfl
  | k + 1 => by
    have ih := ofK_above ls p k
    unfold ofK aboveK
    by_cases h : underF p (ls.getD k []) = true
    · rw [if_pos h, if_pos h]
      by_cases h0 : aboveK ls p k = []
      · rw [if_pos h0] at ih
        rw [ih, if_pos (by omega), h0]
        rfl
      · rw [if_neg h0] at ih
        rw [ih, if_neg (by omega), Int.toNat_natCast, deepest_snoc _ _ _ h0]
        rw [if_neg (show ¬ aboveK ls p k ++ [k] = [] by simp)]
        split <;> rfl
    · rw [if_neg h, if_neg h, ih]
theorem ofF_above (ls : List (List UInt8)) (p : List UInt8) : ofF ls p = if aboveK ls p ls.length = [] then -1 else (deepest (fun i => depth (ls.getD i [])) (aboveK ls p ls.length) : Int) := ofK_above ls p _

theorem parts_of_under {p r : List UInt8} (h : underF p r = true) : ∃ a b, partsF p = some a ∧ partsF r = some b ∧ b = a.take b.length := (under_iff p r).1 h
theorem under_depth {p r : List UInt8} (h : underF p r = true) : depth r ≤ depth p := by
  obtain ⟨a, b, h1, h2, h3⟩ := parts_of_under h
  unfold depth partsL
  rw [h1, h2]
  show b.length ≤ a.length
  have := congrArg List.length h3
  rw [List.length_take] at this
  omega
theorem under_self {p r : List UInt8} (h : underF p r = true) : underF r r = true := by
  obtain ⟨a, b, h1, h2, h3⟩ := parts_of_under h
  exact (under_iff r r).2 ⟨b, b, h2, h2, by rw [List.take_of_length_le (Nat.le_refl _)]⟩
theorem under_p {p r : List UInt8} (h : underF p r = true) : underF p p = true := by
  obtain ⟨a, b, h1, h2, h3⟩ := parts_of_under h
  exact (under_iff p p).2 ⟨a, a, h1, h1, by rw [List.take_of_length_le (Nat.le_refl _)]⟩
/-- of two roots above one path the deeper one is under the other -/
theorem under_deep {p q r : List UInt8} (h1 : underF p q = true) (h2 : underF p r = true) (hd : depth q ≤ depth r) : underF r q = true := by
  obtain ⟨a, b, ha, hb, e1⟩ := parts_of_under h1
  obtain ⟨a', c, ha', hc, e2⟩ := parts_of_under h2
  rw [ha] at ha'
  injection ha' with ha'
  subst ha'
  unfold depth partsL at hd
  rw [hb, hc] at hd
  have hd : b.length ≤ c.length := hd
  refine (under_iff r q).2 ⟨c, b, hc, hb, ?_⟩
  rw [e2, List.take_take, Nat.min_eq_left hd]
  exact e1
theorem deep_iff {p q r : List UInt8} (h1 : underF p q = true) (h2 : underF p r = true) : depth q < depth r ↔ r ≠ q ∧ underF r q = true := by
  constructor
  · intro h
    exact ⟨fun e => by subst e; omega, under_deep h1 h2 (by omega)⟩
  · rintro ⟨hne, hu⟩
    rcases Nat.lt_or_ge (depth q) (depth r) with h | h
    · exact h
    · exact absurd (under_same hu (under_deep h2 h1 h)) hne
/-- What ofK answers: no root is above p, or it is the first of those that all others above p are above. -/
theorem ofK_spec (ls : List (List UInt8)) (p : List UInt8) : ∀ k, k ≤ ls.length → (ofK ls p k = -1 ∧ ∀ j, j < k → underF p (ls.getD j []) = false) ∨
    ∃ i : Nat, i < k ∧ ofK ls p k = (i : Int) ∧ underF p (ls.getD i []) = true ∧ ∀ j, j < k → underF p (ls.getD j []) = true → underF (ls.getD i []) (ls.getD j []) = true ∧ (j < i → ls.getD j [] ≠ ls.getD i [])
  | 0, _ => .inl ⟨rfl, fun j h => by omega⟩
  | k + 1, hk => by
    have ih := ofK_spec ls p k (by omega)
    unfold ofK
    by_cases h : underF p (ls.getD k []) = true
    · rw [if_pos h]
      right
      rcases ih with ⟨h1, h2⟩ | ⟨i, hi, h1, h2, h3⟩
      · rw [h1, if_pos (by omega)]
        refine ⟨k, by omega, rfl, h, fun j hj hu => ?_⟩
        rcases Nat.lt_or_ge j k with hlt | hge
        · rw [h2 j hlt] at hu; cases hu
        · obtain rfl : j = k := by omega
          exact ⟨under_self hu, fun h => by omega⟩
      · rw [h1, if_neg (by omega), Int.toNat_natCast]
        by_cases hd : depth (ls.getD i []) < depth (ls.getD k [])
        · rw [if_pos hd]
          have hdd := (deep_iff h2 h).1 hd
          refine ⟨k, by omega, rfl, h, fun j hj hu => ?_⟩
          rcases Nat.lt_or_ge j k with hlt | hge
          · have h4 := h3 j hlt hu
            refine ⟨under_on hdd.2 h4.1, fun _ e => ?_⟩
            rw [e] at h4
            exact hdd.1 (under_same hdd.2 h4.1)
          · obtain rfl : j = k := by omega
            exact ⟨under_self hu, fun h => by omega⟩
        · rw [if_neg hd]
          refine ⟨i, by omega, rfl, h2, fun j hj hu => ?_⟩
          rcases Nat.lt_or_ge j k with hlt | hge
          · exact h3 j hlt hu
          · obtain rfl : j = k := by omega
            exact ⟨under_deep h h2 (by omega), fun h => by omega⟩
    · rw [if_neg h]
      rcases ih with ⟨h1, h2⟩ | ⟨i, hi, h1, h2, h3⟩
      · left
        refine ⟨h1, fun j hj => ?_⟩
        rcases Nat.lt_or_ge j k with hlt | hge
        · exact h2 j hlt
        · obtain rfl : j = k := by omega
          simpa using h
      · right
        refine ⟨i, by omega, h1, h2, fun j hj hu => ?_⟩
        rcases Nat.lt_or_ge j k with hlt | hge
        · exact h3 j hlt hu
        · obtain rfl : j = k := by omega
          exact absurd hu h
theorem ofF_spec (ls : List (List UInt8)) (p : List UInt8) : (ofF ls p = -1 ∧ ∀ j, j < ls.length → underF p (ls.getD j []) = false) ∨
    ∃ i : Nat, i < ls.length ∧ ofF ls p = (i : Int) ∧ underF p (ls.getD i []) = true ∧ ∀ j, j < ls.length → underF p (ls.getD j []) = true → underF (ls.getD i []) (ls.getD j []) = true ∧ (j < i → ls.getD j [] ≠ ls.getD i []) := ofK_spec ls p _ (Nat.le_refl _)
theorem ofF_range (ls : List (List UInt8)) (p : List UInt8) : -1 ≤ ofF ls p ∧ ofF ls p < ls.length := by
  rcases ofF_spec ls p with ⟨h, _⟩ | ⟨i, hi, h, _⟩
  · rw [h]; omega
  · rw [h]; omega
/-- the next step, as the document's own answer says it -/
theorem ofK_step (ls : List (List UInt8)) (p : List UInt8) (k : Nat) (hk : k < ls.length) (h : underF p (ls.getD k []) = true) : ofK ls p (k + 1) = if ofK ls p k < 0 ∨ (ls.getD k [] ≠ ls.getD (ofK ls p k).toNat [] ∧ underF (ls.getD k []) (ls.getD (ofK ls p k).toNat []) = true) then (k : Int) else ofK ls p k := by
  have ih := ofK_spec ls p k (by omega)
  rw [ofK, if_pos h]
  rcases ih with ⟨h1, h2⟩ | ⟨i, hi, h1, h2, h3⟩
  · rw [h1, if_pos (by omega), if_pos (.inl (by omega))]
  · rw [h1, if_neg (by omega), Int.toNat_natCast]
    by_cases hd : depth (ls.getD i []) < depth (ls.getD k [])
    · rw [if_pos hd, if_pos (.inr ((deep_iff h2 h).1 hd))]
    · rw [if_neg hd, if_neg]
      rintro (hh | hh)
      · omega
      · exact hd ((deep_iff h2 h).2 hh)

/-- is one root there twice? -/
def twiceK (ls : List (List UInt8)) (k : Nat) : Bool := (List.range k).any fun i => (ls.take i).contains (ls.getD i [])
def chkF (ls : List (List UInt8)) : Int := if ls.length < 1 ∨ 4 < ls.length ∨ twiceK ls ls.length = true then 1 else if (ls.any fun p => (partsF p).isNone) = true then 30 else 0
def pathsF (path : List UInt8) (ps : List (List UInt8)) : List (List UInt8) := if ps.length = 0 then [path] else ps
def allF (ls : List (List UInt8)) (path : List UInt8) (ps : List (List UInt8)) : Int × Int :=
  if ofF ls ((pathsF path ps).headD []) = -1 ∨ ((pathsF path ps).any fun p => ofF ls p != ofF ls ((pathsF path ps).headD [])) = true then (0, 60) else (ofF ls ((pathsF path ps).headD []), 0)
theorem twiceK_succ (ls : List (List UInt8)) (k : Nat) : twiceK ls (k + 1) = (twiceK ls k || (ls.take k).contains (ls.getD k [])) := by
  unfold twiceK
  rw [List.range_succ, List.any_append]
  simp
/-- What OK says of roots. -/
theorem chk_ok {ls : List (List UInt8)} (h : chkF ls = 0) : 1 ≤ ls.length ∧ ls.length ≤ 4 ∧ (∀ i j, i < j → j < ls.length → ls.getD i [] ≠ ls.getD j []) ∧ ∀ i, i < ls.length → ∃ a, partsF (ls.getD i []) = some a := by
  unfold chkF at h
  split at h
  · cases h
  · next h1 =>
    split at h
    · cases h
    · next h2 =>
      have h3 : ¬ ls.length < 1 := fun h => h1 (.inl h)
      have h4 : ¬ 4 < ls.length := fun h => h1 (.inr (.inl h))
      have h5 : ¬ twiceK ls ls.length = true := fun h => h1 (.inr (.inr h))
      refine ⟨by omega, by omega, fun i j hij hj he => h5 ?_, fun i hi => ?_⟩
      · unfold twiceK
        refine List.any_eq_true.2 ⟨j, List.mem_range.2 hj, ?_⟩
        rw [← he]
        refine List.contains_iff_mem.2 ?_
        rw [getD_at ls [] (by omega)]
        exact List.mem_take_iff_getElem.2 ⟨i, by omega, rfl⟩
      · have h6 : ¬ (partsF (ls.getD i [])).isNone = true := fun hn => h2 (List.any_eq_true.2 ⟨ls.getD i [], by rw [getD_at ls [] hi]; exact List.getElem_mem hi, hn⟩)
        cases hp : partsF (ls.getD i []) with
        | none => rw [hp] at h6; exact absurd rfl h6
        | some a => exact ⟨a, rfl⟩
theorem of_root {ls : List (List UInt8)} (h : chkF ls = 0) {i : Nat} (hi : i < ls.length) : ofF ls (ls.getD i []) = (i : Int) := by
  obtain ⟨_, _, hne, hp⟩ := chk_ok h
  obtain ⟨a, ha⟩ := hp i hi
  have hs : underF (ls.getD i []) (ls.getD i []) = true := (under_iff _ _).2 ⟨a, a, ha, ha, by rw [List.take_of_length_le (Nat.le_refl _)]⟩
  rcases ofF_spec ls (ls.getD i []) with ⟨_, h2⟩ | ⟨k, hk, h1, h2, h3⟩
  · rw [h2 i hi] at hs; cases hs
  · rw [h1]
    have he := under_same h2 (h3 i hi hs).1
    rcases Nat.lt_trichotomy i k with h | h | h
    · exact absurd he (hne i k h hk)
    · rw [h]
    · exact absurd he.symm (hne k i h hi)
/-- two lists of the same roots, in whatever order: the same root -/
theorem of_turned {ls ms : List (List UInt8)} (hm : ∀ x, x ∈ ls ↔ x ∈ ms) (p : List UInt8) : (ofF ls p = -1 ∧ ofF ms p = -1) ∨ ∃ i j : Nat, i < ls.length ∧ j < ms.length ∧ ofF ls p = (i : Int) ∧ ofF ms p = (j : Int) ∧ ls.getD i [] = ms.getD j [] := by
  have hin : ∀ {ls : List (List UInt8)} {i : Nat}, i < ls.length → ls.getD i [] ∈ ls := fun {ls i} h => by rw [getD_at ls [] h]; exact List.getElem_mem h
  have hat : ∀ {ls : List (List UInt8)} {x : List UInt8}, x ∈ ls → ∃ i, i < ls.length ∧ ls.getD i [] = x := fun {ls x} h => by
    obtain ⟨i, hi, e⟩ := List.getElem_of_mem h
    exact ⟨i, hi, by rw [getD_at ls [] hi, e]⟩
  rcases ofF_spec ls p with ⟨h1, h2⟩ | ⟨i, hi, h1, h2, h3⟩
  · rcases ofF_spec ms p with ⟨g1, _⟩ | ⟨j, hj, g1, g2, g3⟩
    · exact .inl ⟨h1, g1⟩
    · obtain ⟨k, hk, e⟩ := hat ((hm _).2 (hin hj))
      rw [← e, h2 k hk] at g2
      cases g2
  · obtain ⟨k, hk, e⟩ := hat ((hm _).1 (hin hi))
    rcases ofF_spec ms p with ⟨g1, g2⟩ | ⟨j, hj, g1, g2, g3⟩
    · rw [← e, g2 k hk] at h2
      cases h2
    · refine .inr ⟨i, j, hi, hj, h1, g1, ?_⟩
      obtain ⟨k2, hk2, e2⟩ := hat ((hm _).2 (hin hj))
      have a1 := (h3 k2 hk2 (by rw [e2]; exact g2)).1
      have a2 := (g3 k hk (by rw [e]; exact h2)).1
      rw [e2] at a1
      rw [e] at a2
      exact under_same a1 a2
end Go.Proofs.YtnmlknhomhonaaaDoor.Reg
