/- Trees: effects below one node and effects below another one. No program in this text. -/
import Derived.Test.YtaokjkhailpemaaDoorTreeGood
namespace Go.Proofs.YtaokjkhailpemaaDoor.Tree
open Go.Op Path

theorem row_ext {l m : Row} (hl : Sorted l) (hm : Sorted m) (h : ∀ q, get l q = get m q) : l = m := by
  induction l generalizing m with
  | nil =>
    cases m with
    | nil => rfl
    | cons y m =>
      have := h y.1
      simp [get] at this
  | cons x l ih =>
    obtain ⟨p, n⟩ := x
    have hl' : (p :: paths l).Pairwise fun a b => bytesLess a b = true := hl
    rw [List.pairwise_cons] at hl'
    cases m with
    | nil =>
      have := h p
      simp [get] at this
    | cons y m =>
      obtain ⟨q, k⟩ := y
      have hm' : (q :: paths m).Pairwise fun a b => bytesLess a b = true := hm
      rw [List.pairwise_cons] at hm'
      have hpn : (p, n) ∈ (q, k) :: m := (get_some_iff hm).1 (by rw [← h]; exact (get_some_iff hl).2 (by simp))
      have hqk : (q, k) ∈ (p, n) :: l := (get_some_iff hl).1 (by rw [h]; exact (get_some_iff hm).2 (by simp))
      have e : (p, n) = (q, k) := by
        rcases List.mem_cons.1 hpn with e | h1
        · exact e
        · rcases List.mem_cons.1 hqk with e | h2
          · exact e.symm
          · exfalso
            have a1 := hm'.1 p (List.mem_map.2 ⟨_, h1, rfl⟩)
            have a2 := hl'.1 q (List.mem_map.2 ⟨_, h2, rfl⟩)
            rw [less_asymm a1] at a2
            cases a2
      injection e with e1 e2
      subst e1 e2
      congr 1
      refine ih hl'.2 hm'.2 fun r => ?_
      have hr := h r
      by_cases hrp : p = r
      · subst hrp
        have n1 : get l p = none := by
          rw [← Option.not_isSome_iff_eq_none, ← has_get, has_iff]
          intro hin
          have := hl'.1 p hin
          rw [less_irrefl] at this
          cases this
        have n2 : get m p = none := by
          rw [← Option.not_isSome_iff_eq_none, ← has_get, has_iff]
          intro hin
          have := hm'.1 p hin
          rw [less_irrefl] at this
          cases this
        rw [n1, n2]
      · unfold get at hr ⊢
        rwa [List.find?_cons_of_neg (by simpa using hrp), List.find?_cons_of_neg (by simpa using hrp)] at hr

/-- The same nodes at A and below. -/
def SameAt (A : List UInt8) (l m : Row) : Prop := ∀ q, underF q A = true → get l q = get m q
theorem under_trans {a b c : List UInt8} (h1 : underF a b = true) (h2 : underF b c = true) : underF a c = true := by
  obtain ⟨as', bs, e1, e2, e3⟩ := under_iff.1 h1
  obtain ⟨bs', cs, f1, f2, f3⟩ := under_iff.1 h2
  rw [e2] at f1
  injection f1 with f1
  subst f1
  refine under_iff.2 ⟨as', cs, e1, f2, ?_⟩
  have hle : cs.length ≤ bs.length := by
    have := congrArg List.length f3
    rw [List.length_take] at this
    omega
  rw [e3, List.take_take, Nat.min_eq_left hle] at f3
  exact f3
theorem under_of_parent {q : List UInt8} {qs : List (List UInt8)} (h : partsF q = some qs) : underF q (parentF q) = true :=
  under_iff.2 ⟨qs, qs.dropLast, h, parent_parts h, by rw [List.length_dropLast, ← List.dropLast_eq_take]⟩
theorem kids_same {root A p : List UInt8} {l m : Row} (hl : Good root l) (hm : Good root m) (hs : SameAt A l m) (hp : underF p A = true) : kids root l p = [] ↔ kids root m p = [] := by
  have key : ∀ {l m : Row}, Good root l → Good root m → SameAt A l m → kids root m p = [] → kids root l p = [] := by
    intro l m hl hm hs h
    refine List.eq_nil_iff_forall_not_mem.2 fun x hx => ?_
    obtain ⟨q, hq, h1, h2, h3⟩ := mem_kids.1 hx
    obtain ⟨qs, hqs, _⟩ := (under_parent (hl.under q hq) h1).2
    have hu : underF q A = true := under_trans (by rw [← h2]; exact under_of_parent hqs) hp
    have hq' : q ∈ paths m := by
      rw [← has_iff, has_get, ← hs q hu, ← has_get, has_iff]
      exact hq
    have : x ∈ kids root m p := mem_kids.2 ⟨q, hq', h1, h2, h3⟩
    rw [h] at this
    cases this
  exact ⟨key hm hl (fun q hq => (hs q hq).symm), key hl hm hs⟩
/-- One effect at A or below, on two trees that are the same there. -/
theorem one_same {root A : List UInt8} {l m : Row} {x : Ef} (hl : Good root l) (hm : Good root m) (hs : SameAt A l m) (hx : underF x.path A = true) (hpar : x.path = A → parentF A ∈ paths l ∧ parentF A ∈ paths m) (h1 : l.length < 48) (h2 : m.length < 48) :
    (one root l x).1 = (one root m x).1 ∧ ((one root l x).1 = 0 → SameAt A (one root l x).2 (one root m x).2) := by
  have hhas : has l x.path = has m x.path := by rw [has_get, has_get, hs _ hx]
  have hk : kids root l x.path ≠ [] ↔ kids root m x.path ≠ [] := not_congr (kids_same hl hm hs hx)
  have hp : has l (parentF x.path) = has m (parentF x.path) := by
    by_cases e : x.path = A
    · rw [e, has_iff.2 (hpar e).1, has_iff.2 (hpar e).2]
    · rw [has_get, has_get, hs _ (under_parent hx e).1]
  unfold one
  rw [hhas, hp]
  by_cases c1 : underF x.path root = false ∨ (x.gone = true ∧ x.path = root)
  · rw [if_pos c1, if_pos c1]
    exact ⟨rfl, fun h => by cases h⟩
  · rw [if_neg c1, if_neg c1]
    by_cases c2 : x.gone = true
    · rw [if_pos c2, if_pos c2]
      by_cases c3 : has m x.path = false
      · rw [if_pos c3, if_pos c3]
        exact ⟨rfl, fun h => by cases h⟩
      · rw [if_neg c3, if_neg c3]
        by_cases c4 : kids root m x.path ≠ []
        · rw [if_pos c4, if_pos (hk.2 c4)]
          exact ⟨rfl, fun h => by cases h⟩
        · rw [if_neg c4, if_neg (fun h => c4 (hk.1 h))]
          refine ⟨rfl, fun _ q hq => ?_⟩
          rw [get_del, get_del, hs q hq]
    · rw [if_neg c2, if_neg c2]
      by_cases c3 : x.path ≠ root ∧ has m (parentF x.path) = false
      · rw [if_pos c3, if_pos c3]
        exact ⟨rfl, fun h => by cases h⟩
      · rw [if_neg c3, if_neg c3, if_neg (fun h => by omega), if_neg (fun h => by omega)]
        refine ⟨rfl, fun _ q hq => ?_⟩
        rw [get_ins hl.sorted, get_ins hm.sorted, hs q hq]
/-- What one effect does elsewhere, and how many there are then. -/
theorem one_else {root : List UInt8} {l : Row} {x : Ef} (hl : Sorted l) {q : List UInt8} (hq : q ≠ x.path) : get (one root l x).2 q = get l q := by
  unfold one
  repeat' split
  all_goals first
    | rfl
    | (rw [get_del, if_neg hq])
    | (rw [get_ins hl, if_neg hq])
theorem one_length (root : List UInt8) (l : Row) (hs : Sorted l) (x : Ef) : (one root l x).2.length ≤ l.length + 1 := by
  have hi : (ins x.path x.node l).length ≤ l.length + 1 := by
    by_cases h : x.path ∈ paths l
    · rw [← length_paths, ins_old hs h, length_paths]; omega
    · rw [length_ins_new h]; omega
  have hd : (del x.path l).length ≤ l.length := List.length_filter_le _ _
  unfold one
  repeat' split
  all_goals (dsimp only; omega)
/-- A row of effects at A or below: whatever is above A stays. -/
theorem apply_same {root A : List UInt8} (hA : underF A root = true) (hAr : A ≠ root) : ∀ (xs : List Ef) (l m : Row), Good root l → Good root m → SameAt A l m → (∀ x ∈ xs, underF x.path A = true) → parentF A ∈ paths l → parentF A ∈ paths m → l.length + xs.length < 48 → m.length + xs.length < 48 →
    (rowApply root l xs).1 = (rowApply root m xs).1 ∧ ((rowApply root l xs).1 = 0 → SameAt A (rowApply root l xs).2 (rowApply root m xs).2)
  | [], l, m, _, _, hs, _, _, _, _, _ => ⟨rfl, fun _ => hs⟩
  | x :: xs, l, m, hl, hm, hs, hx, p1, p2, n1, n2 => by
    rw [List.length_cons] at n1 n2
    have h := one_same hl hm hs (hx x (by simp)) (fun _ => ⟨p1, p2⟩) (by omega) (by omega)
    unfold rowApply
    by_cases h0 : (one root l x).1 = 0
    · have h0' : (one root m x).1 = 0 := by rw [← h.1]; exact h0
      rw [if_pos h0, if_pos h0']
      obtain ⟨As, hAs, hA0⟩ := (under_parent hA hAr).2
      have hne : parentF A ≠ x.path := by
        intro e
        have hu := hx x (by simp)
        rw [← e] at hu
        obtain ⟨y, hy⟩ := under_prefix hu
        have hsp := (path_split hAs hA0).1
        have := congrArg List.length hy
        have hle : (parentF A).length < A.length := by
          have h2 := congrArg List.length hsp
          rw [List.length_append] at h2
          have h3 : (parentF A).length ≤ (pre (parentF A)).length := by
            unfold pre
            split
            · next h => rw [h]; exact Nat.le_refl _
            · simp
          have h4 := List.length_pos_iff.2 (path_split hAs hA0).2
          omega
        rw [List.length_append] at this
        omega
      have k1 : parentF A ∈ paths (one root l x).2 := by
        rw [← has_iff, has_get, one_else hl.sorted hne, ← has_get, has_iff]
        exact p1
      have k2 : parentF A ∈ paths (one root m x).2 := by
        rw [← has_iff, has_get, one_else hm.sorted hne, ← has_get, has_iff]
        exact p2
      have q1 := one_length root l hl.sorted x
      have q2 := one_length root m hm.sorted x
      exact apply_same hA hAr xs _ _ (good_one hl h0) (good_one hm h0') (h.2 h0) (fun y hy => hx y (by simp [hy])) k1 k2 (by omega) (by omega)
    · have h0' : ¬ (one root m x).1 = 0 := by rw [← h.1]; exact h0
      rw [if_neg h0, if_neg h0']
      exact ⟨h.1, fun e => absurd e h0⟩
theorem apply_else {root A : List UInt8} : ∀ (xs : List Ef) (l : Row), Good root l → (∀ x ∈ xs, underF x.path A = true) → ∀ q, underF q A = false → (rowApply root l xs).1 = 0 → get (rowApply root l xs).2 q = get l q
  | [], _, _, _, _, _, _ => rfl
  | x :: xs, l, hl, hx, q, hq, h => by
    unfold rowApply at h ⊢
    by_cases h0 : (one root l x).1 = 0
    · rw [if_pos h0] at h ⊢
      rw [apply_else xs _ (good_one hl h0) (fun y hy => hx y (by simp [hy])) q hq h]
      exact one_else hl.sorted (fun e => by rw [e, hx x (by simp)] at hq; cases hq)
    · rw [if_neg h0] at h
      exact absurd h h0
theorem apply_length (root : List UInt8) : ∀ (xs : List Ef) (l : Row), Good root l → (rowApply root l xs).1 = 0 → (rowApply root l xs).2.length ≤ l.length + xs.length
  | [], _, _, _ => Nat.le_refl _
  | x :: xs, l, hl, h => by
    unfold rowApply at h ⊢
    by_cases h0 : (one root l x).1 = 0
    · rw [if_pos h0] at h ⊢
      have h1 := apply_length root xs _ (good_one hl h0) h
      have h2 := one_length root l hl.sorted x
      rw [List.length_cons]
      omega
    · rw [if_neg h0] at h
      exact absurd h h0
end Go.Proofs.YtaokjkhailpemaaDoor.Tree
