/- Under is an order. -/
import Derived.Test.YtnmlknhomhonaaaDoorPathRefUnder
namespace Go.Proofs.YtnmlknhomhonaaaDoor.Path

theorem under_iff (p r : List UInt8) : underF p r = true ↔ ∃ a b, partsF p = some a ∧ partsF r = some b ∧ b = a.take b.length := by
  unfold underF
  constructor
  · intro h
    split at h
    · next a b h1 h2 => exact ⟨a, b, h1, h2, of_decide_eq_true h⟩
    · cases h
  · rintro ⟨a, b, h1, h2, h3⟩
    rw [h1, h2]
    exact decide_eq_true h3
theorem parts_back {p : List UInt8} {a : List (List UInt8)} (h : partsF p = some a) : p = ofL a := ((parts_iff p a).1 h).1
theorem under_same {p r : List UInt8} (h1 : underF p r = true) (h2 : underF r p = true) : p = r := by
  obtain ⟨a, b, ha, hb, e1⟩ := (under_iff p r).1 h1
  obtain ⟨b', a', hb', ha', e2⟩ := (under_iff r p).1 h2
  rw [ha] at ha'
  rw [hb] at hb'
  injection ha' with ha'
  injection hb' with hb'
  subst ha' hb'
  have l1 := congrArg List.length e1
  have l2 := congrArg List.length e2
  rw [List.length_take] at l1 l2
  have : b = a := by
    rw [e1, List.take_of_length_le (by omega)]
  rw [parts_back ha, parts_back hb, this]
theorem under_on {p q r : List UInt8} (h1 : underF p q = true) (h2 : underF q r = true) : underF p r = true := by
  obtain ⟨a, b, ha, hb, e1⟩ := (under_iff p q).1 h1
  obtain ⟨b', c, hb', hc, e2⟩ := (under_iff q r).1 h2
  rw [hb] at hb'
  injection hb' with hb'
  subst hb'
  refine (under_iff p r).2 ⟨a, c, ha, hc, ?_⟩
  have l2 := congrArg List.length e2
  rw [List.length_take] at l2
  rw [e1, List.take_take] at e2
  rwa [Nat.min_eq_left (by omega)] at e2
theorem under_two {p q r : List UInt8} (h1 : underF p q = true) (h2 : underF p r = true) : underF q r = true ∨ underF r q = true := by
  obtain ⟨a, b, ha, hb, e1⟩ := (under_iff p q).1 h1
  obtain ⟨a', c, ha', hc, e2⟩ := (under_iff p r).1 h2
  rw [ha] at ha'
  injection ha' with ha'
  subst ha'
  by_cases h : c.length ≤ b.length
  · left
    refine (under_iff q r).2 ⟨b, c, hb, hc, ?_⟩
    rw [e1, List.take_take, Nat.min_eq_left (by omega)]
    exact e2
  · right
    refine (under_iff r q).2 ⟨c, b, hc, hb, ?_⟩
    rw [e2, List.take_take, Nat.min_eq_left (by omega)]
    exact e1

/-! ### The beginnings of a path -/
theorem flat_take (ps : List (List UInt8)) (i : Nat) : ((ps.take i).flatMap (47 :: ·)).length ≤ (ps.flatMap (47 :: ·)).length := by
  conv => rhs; rw [← List.take_append_drop i ps, List.flatMap_append, List.length_append]
  omega
theorem ofL_take (ps : List (List UInt8)) (i : Nat) : (ofL (ps.take i)).length ≤ (ofL ps).length := by
  by_cases h : ps = []
  · subst h; simp
  · by_cases h2 : ps.take i = []
    · rw [h2]
      have h3 : 0 < ps.length := List.length_pos_iff.2 h
      have := ofL_length ps
      show 1 ≤ _
      omega
    · unfold ofL
      rw [if_neg h, if_neg h2]
      exact flat_take ps i
theorem take_path {p : List UInt8} {ps : List (List UInt8)} (h : partsF p = some ps) (i : Nat) : partsF (ofL (ps.take i)) = some (ps.take i) := by
  have h1 := (parts_iff p ps).1 h
  refine (parts_iff _ _).2 ⟨rfl, ?_, fun s hs => h1.2.2 s (List.mem_of_mem_take hs)⟩
  have := ofL_take ps i
  rw [← h1.1] at this
  omega
theorem ofL_next {ps : List (List UInt8)} (i : Nat) (hi : i < ps.length) : (ps.take (i + 1)).flatMap (47 :: ·) = (ps.take i).flatMap (47 :: ·) ++ 47 :: ps[i] := by
  rw [← List.take_append_getElem hi, List.flatMap_append]
  simp
theorem ofL_lt {p : List UInt8} {ps : List (List UInt8)} (h : partsF p = some ps) (i : Nat) (hi : i < ps.length) : (ofL (ps.take i)).length < (ofL (ps.take (i + 1))).length := by
  have h1 := (parts_iff p ps).1 h
  have hne : ps.take (i + 1) ≠ [] := by intro h; have := congrArg List.length h; rw [List.length_take, List.length_nil] at this; omega
  have hs : 0 < (ps[i]).length := by
    have := ((name_iff _).1 (h1.2.2 ps[i] (List.getElem_mem hi))).1
    exact List.length_pos_iff.2 this
  have e := ofL_next i hi
  have e2 : ofL (ps.take (i + 1)) = (ps.take i).flatMap (47 :: ·) ++ 47 :: ps[i] := by rw [← e]; unfold ofL; rw [if_neg hne]
  rw [e2, List.length_append, List.length_cons]
  by_cases h2 : ps.take i = []
  · rw [h2]
    show 1 < _
    omega
  · unfold ofL
    rw [if_neg h2]
    omega
theorem under_take {p : List UInt8} {ps : List (List UInt8)} (h : partsF p = some ps) (i : Nat) (hi : i ≤ ps.length) : underF p (ofL (ps.take i)) = true :=
  (under_iff _ _).2 ⟨ps, ps.take i, h, take_path h i, by rw [List.length_take, Nat.min_eq_left hi]⟩
theorem not_under {p : List UInt8} {ps : List (List UInt8)} (h : partsF p = some ps) (i : Nat) (hi : i < ps.length) : underF (ofL (ps.take i)) p = false := by
  rw [← Bool.not_eq_true]
  intro hu
  obtain ⟨a, b, ha, hb, e⟩ := (under_iff _ _).1 hu
  rw [take_path h i] at ha
  rw [h] at hb
  injection ha with ha
  injection hb with hb
  subst ha hb
  have := congrArg List.length e
  rw [List.length_take, List.length_take] at this
  omega
theorem under_root (p : List UInt8) : underF p [47] = (partsF p).isSome := by
  unfold underF
  rw [show partsF [47] = some [] from rfl]
  cases partsF p <;> rfl
end Go.Proofs.YtnmlknhomhonaaaDoor.Path
