/- Trees: what holds behind any effects (P4.5). No program in this text. -/
import Derived.Test.YtplbckibogmicaaGreatDoorTreePure
namespace Go.Proofs.YtplbckibogmicaaGreatDoor.Tree
open Go.Op Path

/-! ### Paths -/
theorem under_iff {q r : List UInt8} : underF q r = true ↔ ∃ qs rs, partsF q = some qs ∧ partsF r = some rs ∧ rs = qs.take rs.length := by
  unfold underF
  constructor
  · intro h
    split at h
    · next a b ha hb => exact ⟨a, b, ha, hb, by simpa using h⟩
    · cases h
  · rintro ⟨qs, rs, h1, h2, h3⟩
    rw [h1, h2]
    simpa using h3
theorem under_self {r : List UInt8} (h : (partsF r).isSome = true) : underF r r = true := by
  obtain ⟨rs, hr⟩ := Option.isSome_iff_exists.1 h
  exact under_iff.2 ⟨rs, rs, hr, hr, by simp⟩
theorem parts_ofL {ps : List (List UInt8)} (h1 : (ofL ps).length ≤ 64) (h2 : ∀ s ∈ ps, name s = true) : partsF (ofL ps) = some ps := (parts_iff _ _).2 ⟨rfl, h1, h2⟩
theorem flat_ofL (ps : List (List UInt8)) : (ps.flatMap (47 :: ·)).length ≤ (ofL ps).length := by
  unfold ofL
  split
  · next h => subst h; simp
  · exact Nat.le_refl _
theorem ofL_dropLast_le (ps : List (List UInt8)) : (ofL ps.dropLast).length ≤ (ofL ps).length := by
  by_cases h0 : ps = []
  · subst h0; exact Nat.le_refl _
  · unfold ofL
    rw [if_neg h0]
    have h3 : (ps.flatMap (47 :: ·)).length = (ps.dropLast.flatMap (47 :: ·)).length + (ps.getLast h0).length + 1 := by
      conv => lhs; rw [← List.dropLast_concat_getLast h0, List.flatMap_append, List.length_append]
      simp
      omega
    split
    · show 1 ≤ _; omega
    · omega
theorem parent_parts {q : List UInt8} {qs : List (List UInt8)} (h : partsF q = some qs) : partsF (parentF q) = some qs.dropLast := by
  have h1 := (parts_iff q qs).1 h
  have e : parentF q = ofL qs.dropLast := by unfold parentF; rw [h]
  rw [e]
  refine parts_ofL ?_ (fun s hs => h1.2.2 s (List.dropLast_subset _ hs))
  have h2 := h1.2.1
  rw [h1.1] at h2
  exact Nat.le_trans (ofL_dropLast_le qs) h2
theorem parts_eq {q r : List UInt8} {qs : List (List UInt8)} (h1 : partsF q = some qs) (h2 : partsF r = some qs) : q = r := by
  rw [((parts_iff q qs).1 h1).1, ((parts_iff r qs).1 h2).1]
/-- What stands in front of the last part. -/
def pre (p : List UInt8) : List UInt8 := if p = [47] then [47] else p ++ [47]
theorem ofL_snoc (ps : List (List UInt8)) (x : List UInt8) (hn : ∀ s ∈ ps, name s = true) : ofL (ps ++ [x]) = pre (ofL ps) ++ x := by
  by_cases h0 : ps = []
  · subst h0
    simp [ofL, pre]
  · have e1 : ofL ps = ps.flatMap (47 :: ·) := by unfold ofL; rw [if_neg h0]
    have e2 : ofL (ps ++ [x]) = ps.flatMap (47 :: ·) ++ 47 :: x := by
      unfold ofL
      rw [if_neg (by simp), List.flatMap_append]
      simp
    have hne : ofL ps ≠ [47] := by
      rw [e1]
      cases ps with
      | nil => exact absurd rfl h0
      | cons s ps =>
        have hs := ((name_iff s).1 (hn s (by simp))).1
        cases s with
        | nil => exact absurd rfl hs
        | cons b s => simp
    unfold pre
    rw [if_neg hne, e2, e1]
    simp
/-- A path that is not / is what stands in front, and its last part. -/
theorem path_split {q : List UInt8} {qs : List (List UInt8)} (h : partsF q = some qs) (h0 : qs ≠ []) : q = pre (parentF q) ++ baseF q ∧ baseF q ≠ [] := by
  have h1 := (parts_iff q qs).1 h
  have e : parentF q = ofL qs.dropLast := by unfold parentF; rw [h]
  have eb : baseF q = qs.getLast h0 := by
    unfold baseF partsL
    rw [h, Option.getD_some, List.getLastD_eq_getLast?, List.getLast?_eq_some_getLast h0]
    rfl
  constructor
  · rw [e, eb, ← ofL_snoc _ _ (fun s hs => h1.2.2 s (List.dropLast_subset _ hs)), List.dropLast_concat_getLast h0]
    exact h1.1
  · rw [eb]
    exact ((name_iff _).1 (h1.2.2 _ (List.getLast_mem h0))).1
theorem under_parent {q r : List UInt8} (h : underF q r = true) (hne : q ≠ r) : underF (parentF q) r = true ∧ ∃ qs, partsF q = some qs ∧ qs ≠ [] := by
  obtain ⟨qs, rs, h1, h2, h3⟩ := under_iff.1 h
  have hlt : rs.length < qs.length := by
    have hle : rs.length ≤ qs.length := by
      have := congrArg List.length h3
      rw [List.length_take] at this
      omega
    rcases Nat.lt_or_ge rs.length qs.length with h | h
    · exact h
    · exfalso
      apply hne
      have e : rs = qs := by rw [h3, List.take_of_length_le (by omega)]
      subst e
      exact parts_eq h1 h2
  refine ⟨under_iff.2 ⟨qs.dropLast, rs, parent_parts h1, h2, ?_⟩, qs, h1, fun e => by rw [e] at hlt; simp at hlt⟩
  rw [List.dropLast_eq_take, List.take_take, Nat.min_eq_left (by omega)]
  exact h3
theorem parent_ne {q : List UInt8} {qs : List (List UInt8)} (h : partsF q = some qs) (h0 : qs ≠ []) : parentF q ≠ q := by
  intro e
  have h1 := parent_parts h
  rw [e, h] at h1
  injection h1 with h1
  have := congrArg List.length h1
  rw [List.length_dropLast] at this
  have := List.length_pos_iff.2 h0
  omega
theorem ofL_prefix (a b : List (List UInt8)) : ∃ x, ofL (a ++ b) = ofL a ++ x := by
  by_cases h0 : a = []
  · subst h0
    by_cases hb : b = []
    · subst hb; exact ⟨[], rfl⟩
    · cases b with
      | nil => exact absurd rfl hb
      | cons s b => exact ⟨s ++ b.flatMap (47 :: ·), by unfold ofL; rw [if_neg (by simp), if_pos rfl, List.nil_append, List.flatMap_cons]; rfl⟩
  · refine ⟨b.flatMap (47 :: ·), ?_⟩
    unfold ofL
    rw [if_neg h0, if_neg (by simp [h0]), List.flatMap_append]
theorem under_prefix {q r : List UInt8} (h : underF q r = true) : ∃ x, q = r ++ x := by
  obtain ⟨qs, rs, h1, h2, h3⟩ := under_iff.1 h
  obtain ⟨x, hx⟩ := ofL_prefix (qs.take rs.length) (qs.drop rs.length)
  rw [List.take_append_drop, ← h3] at hx
  exact ⟨x, by rw [((parts_iff q qs).1 h1).1, hx, ((parts_iff r rs).1 h2).1]⟩
theorem root_less {q r : List UInt8} (h : underF q r = true) (hne : q ≠ r) : bytesLess r q = true := by
  obtain ⟨x, rfl⟩ := under_prefix h
  exact less_prefix r (fun e => hne (by rw [e, List.append_nil]))

/-! ### What holds of every tree -/
structure Good (root : List UInt8) (l : Row) : Prop where
  sorted : Sorted l
  isPath : (partsF root).isSome = true
  has_root : root ∈ paths l
  under : ∀ q ∈ paths l, underF q root = true
  par : ∀ q ∈ paths l, q ≠ root → parentF q ∈ paths l
  max : l.length ≤ 48

theorem good_new {root : List UInt8} (h : (partsF root).isSome = true) : Good root [(root, ZN.zero)] :=
  ⟨List.pairwise_singleton _ _, h, by simp [paths], fun q hq => by simp [paths] at hq; subst hq; exact under_self h, fun q hq hne => by simp [paths] at hq; exact absurd hq hne, Nat.le_add_left 1 47⟩
theorem mem_kids {root p x : List UInt8} {l : Row} : x ∈ kids root l p ↔ ∃ q ∈ paths l, q ≠ root ∧ parentF q = p ∧ baseF q = x := by
  unfold kids isKid
  rw [List.mem_map]
  constructor
  · rintro ⟨q, hq, e⟩
    rw [List.mem_filter] at hq
    simp at hq
    exact ⟨q, hq.1, hq.2.1, hq.2.2, e⟩
  · rintro ⟨q, hq, h1, h2, e⟩
    refine ⟨q, List.mem_filter.2 ⟨hq, by simp [h1, h2]⟩, e⟩
theorem good_one {root : List UInt8} {l : Row} {x : Ef} (h : Good root l) (h0 : (one root l x).1 = 0) : Good root (one root l x).2 := by
  unfold one at h0 ⊢
  split at h0
  · cases h0
  · next hu =>
    rw [if_neg hu]
    have hu' : underF x.path root = true ∧ (x.gone = true → x.path ≠ root) := by
      rw [not_or, Bool.not_eq_false] at hu
      exact ⟨hu.1, fun hg e => hu.2 ⟨hg, e⟩⟩
    split at h0
    · next hg =>
      rw [if_pos hg]
      split at h0
      · cases h0
      · next hh =>
        rw [if_neg hh]
        split at h0
        · cases h0
        · next hk =>
          rw [if_neg hk]
          have hk' : kids root l x.path = [] := Classical.byContradiction hk
          refine ⟨sorted_del h.sorted, h.isPath, mem_del.2 ⟨h.has_root, fun e => hu'.2 hg e.symm⟩, fun q hq => h.under q (mem_del.1 hq).1, fun q hq hne => mem_del.2 ⟨h.par q (mem_del.1 hq).1 hne, fun e => ?_⟩, Nat.le_trans (List.length_filter_le _ _) h.max⟩
          have : baseF q ∈ kids root l x.path := mem_kids.2 ⟨q, (mem_del.1 hq).1, hne, e, rfl⟩
          rw [hk'] at this
          cases this
    · next hg =>
      rw [if_neg hg]
      split at h0
      · cases h0
      · next hp =>
        rw [if_neg hp]
        split at h0
        · cases h0
        · next hm =>
          rw [if_neg hm]
          refine ⟨sorted_ins h.sorted, h.isPath, mem_ins.2 (.inr h.has_root), fun q hq => ?_, fun q hq hne => ?_, ?_⟩
          · rcases mem_ins.1 hq with rfl | hq
            · exact hu'.1
            · exact h.under q hq
          · rcases mem_ins.1 hq with rfl | hq
            · refine mem_ins.2 (.inr (has_iff.1 ?_))
              rw [← Bool.not_eq_false]
              exact fun e => hp ⟨hne, e⟩
            · exact mem_ins.2 (.inr (h.par q hq hne))
          · by_cases hin : x.path ∈ paths l
            · rw [← length_paths, ins_old h.sorted hin, length_paths]
              exact h.max
            · rw [length_ins_new hin]
              have : ¬ 48 ≤ l.length := fun e => hm ⟨has_false.2 hin, e⟩
              omega
theorem good_rowApply {root : List UInt8} : ∀ {xs : List Ef} {l : Row}, Good root l → (rowApply root l xs).1 = 0 → Good root (rowApply root l xs).2
  | [], _, h, _ => h
  | x :: xs, l, h, h0 => by
    unfold rowApply at h0 ⊢
    by_cases h1 : (one root l x).1 = 0
    · rw [if_pos h1] at h0 ⊢
      exact good_rowApply (good_one h h1) h0
    · rw [if_neg h1] at h0
      exact absurd h0 h1
theorem good_apply {t : TR} {xs : List Ef} (h : Good t.root t.row) : Good (t.apply xs).2.root (t.apply xs).2.row := by
  unfold TR.apply
  split
  · next h0 => exact good_rowApply h h0
  · exact h
theorem apply_root (t : TR) (xs : List Ef) : (t.apply xs).2.root = t.root := by unfold TR.apply; split <;> rfl

/-- The root is the first one. -/
theorem root_first {root : List UInt8} {l : Row} (h : Good root l) : ∃ r, paths l = root :: r := by
  have hs : (paths l).Pairwise fun a b => bytesLess a b = true := h.sorted
  have hr := h.has_root
  cases e : paths l with
  | nil => rw [e] at hr; cases hr
  | cons q r =>
    rw [e] at hs hr
    rcases List.mem_cons.1 hr with rfl | hr
    · exact ⟨r, rfl⟩
    · exfalso
      have h1 := (List.pairwise_cons.1 hs).1 root hr
      have hq := h.under q (by rw [e]; simp)
      have h2 := root_less hq (less_ne h1)
      rw [less_asymm h2] at h1
      cases h1
/-- Children come in order. -/
theorem kids_sorted {root : List UInt8} {l : Row} (h : Good root l) (p : List UInt8) : (kids root l p).Pairwise fun a b => bytesLess a b = true := by
  unfold kids
  rw [List.pairwise_map]
  have hs : ((paths l).filter (isKid root p)).Pairwise fun a b => bytesLess a b = true := List.Pairwise.filter _ h.sorted
  refine List.Pairwise.imp_of_mem ?_ hs
  intro a b ha hb hab
  rw [List.mem_filter] at ha hb
  unfold isKid at ha hb
  simp at ha hb
  obtain ⟨la, h1, h2⟩ := (under_parent (h.under a ha.1) ha.2.1).2
  obtain ⟨lb, h3, h4⟩ := (under_parent (h.under b hb.1) hb.2.1).2
  have ea := (path_split h1 h2).1
  have eb := (path_split h3 h4).1
  rw [ha.2.2] at ea
  rw [hb.2.2] at eb
  rw [ea, eb, less_append] at hab
  exact hab

/-! ### How many children all have -/
theorem double_count {α β : Type} (f : α → β → Bool) (L : List α) : ∀ M : List β, (L.map fun p => (M.filter (f p)).length).sum = (M.map fun q => (L.filter fun p => f p q).length).sum
  | [] => by induction L with
    | nil => rfl
    | cons a L ih => rw [List.map_cons, List.sum_cons, ih]; rfl
  | q :: M => by
    have ih := double_count f L M
    have h : ∀ L : List α, (L.map fun p => ((q :: M).filter (f p)).length).sum = (L.filter fun p => f p q).length + (L.map fun p => (M.filter (f p)).length).sum := by
      intro L
      induction L with
      | nil => rfl
      | cons a L ih =>
        rw [List.map_cons, List.sum_cons, ih, List.map_cons, List.sum_cons, List.filter_cons, List.filter_cons]
        by_cases hf : f a q = true
        · rw [if_pos hf, if_pos hf, List.length_cons, List.length_cons]; omega
        · rw [if_neg hf, if_neg hf]; omega
    rw [h L, ih, List.map_cons, List.sum_cons]
theorem count_one_of {α : Type} [BEq α] [LawfulBEq α] {L : List α} {a : α} (hn : L.Nodup) (ha : a ∈ L) : (L.filter (a == ·)).length = 1 := by
  induction L with
  | nil => cases ha
  | cons b L ih =>
    rw [List.nodup_cons] at hn
    rw [List.filter_cons]
    by_cases h : a = b
    · subst h
      rw [if_pos (by simp), List.length_cons, List.filter_eq_nil_iff.2]
      · rfl
      · intro c hc e
        exact hn.1 (by rw [eq_of_beq e]; exact hc)
    · rw [if_neg (by simpa using h)]
      exact ih hn.2 ((List.mem_cons.1 ha).resolve_left h)
theorem sum_kids {root : List UInt8} {l : Row} (h : Good root l) : ((paths l).map fun p => (kids root l p).length).sum + 1 = l.length := by
  have e1 : ((paths l).map fun p => (kids root l p).length) = (paths l).map fun p => ((paths l).filter (isKid root p)).length := by
    apply List.map_congr_left
    intro p _
    unfold kids
    rw [List.length_map]
  rw [e1, double_count]
  obtain ⟨r, hr⟩ := root_first h
  have hnd := sorted_nodup h.sorted
  rw [hr, List.nodup_cons] at hnd
  have e2 : ∀ q ∈ paths l, ((paths l).filter fun p => isKid root p q).length = if q = root then 0 else 1 := by
    intro q hq
    unfold isKid
    by_cases hqr : q = root
    · subst hqr
      rw [if_pos rfl]
      simp
    · rw [if_neg hqr]
      have hp := h.par q hq hqr
      have := count_one_of (sorted_nodup h.sorted) hp
      rw [← this]
      congr 1
      apply List.filter_congr
      intro p _
      simp [hqr]
  have e3 : ((paths l).map fun q => ((paths l).filter fun p => isKid root p q).length) = (paths l).map fun q => if q = root then 0 else 1 := List.map_congr_left e2
  rw [e3, hr, List.map_cons, List.sum_cons, if_pos rfl, Nat.zero_add]
  have e4 : r.map (fun q => if q = root then 0 else 1) = r.map fun _ => 1 := by
    apply List.map_congr_left
    intro q hq
    rw [if_neg (fun e => hnd.1 (by rw [← e]; exact hq))]
  have e5 : (r.map fun _ => 1).sum = r.length := by
    clear hr hnd e4
    induction r with
    | nil => rfl
    | cons a r ih => rw [List.map_cons, List.sum_cons, ih, List.length_cons]; omega
  rw [e4, e5, ← length_paths, hr, List.length_cons]
end Go.Proofs.YtplbckibogmicaaGreatDoor.Tree
