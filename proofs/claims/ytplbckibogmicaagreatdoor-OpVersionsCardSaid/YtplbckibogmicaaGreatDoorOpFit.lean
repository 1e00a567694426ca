/- Operations: their effects fit, and what they leave. No program in this text. -/
import Derived.Test.YtplbckibogmicaaGreatDoorOpPure
namespace Go.Proofs.YtplbckibogmicaaGreatDoor.Opn
open Go.Op Path Tree

/-! ### A number behind a path -/
theorem segs_append : ∀ (t d : List UInt8), (∀ b ∈ d, b ≠ 47) → ∀ h : segs t ≠ [], segs (t ++ d) = (segs t).dropLast ++ [(segs t).getLast h ++ d]
  | [], d, hd, h => by
    rw [List.nil_append, segs_last d hd]
    rfl
  | b :: t, d, hd, h => by
    have ih := segs_append t d hd (segs_ne t)
    by_cases hb : b = 47
    · subst hb
      have e1 : segs (47 :: t) = [] :: segs t := by rw [segs, if_pos rfl]
      have e2 : segs (47 :: t ++ d) = [] :: segs (t ++ d) := by rw [List.cons_append, segs, if_pos rfl]
      simp only [e1, e2, ih, List.getLast_cons (segs_ne t), List.dropLast_cons_of_ne_nil (segs_ne t)]
      rfl
    · obtain ⟨s, ss, hs⟩ : ∃ s ss, segs t = s :: ss := by
        cases h2 : segs t with
        | nil => exact absurd h2 (segs_ne t)
        | cons s ss => exact ⟨s, ss, rfl⟩
      have e1 : segs (b :: t) = (b :: s) :: ss := by rw [segs, if_neg hb, hs]
      by_cases hss : ss = []
      · subst hss
        have e3 : segs (t ++ d) = [s ++ d] := by rw [ih]; simp [hs]
        have e2 : segs (b :: t ++ d) = [b :: (s ++ d)] := by rw [List.cons_append, segs, if_neg hb, e3]
        simp only [e1, e2]
        rfl
      · have e3 : segs (t ++ d) = s :: (ss.dropLast ++ [ss.getLast hss ++ d]) := by
          rw [ih]
          simp only [hs, List.dropLast_cons_of_ne_nil hss, List.getLast_cons hss]
          rfl
        have e2 : segs (b :: t ++ d) = (b :: s) :: (ss.dropLast ++ [ss.getLast hss ++ d]) := by rw [List.cons_append, segs, if_neg hb, e3]
        simp only [e1, e2, List.dropLast_cons_of_ne_nil hss, List.getLast_cons hss]
        rfl
theorem parts_cons {p : List UInt8} {ps : List (List UInt8)} (h : partsF p = some ps) (h0 : ps ≠ []) : ∃ t, p = 47 :: t ∧ t ≠ [] ∧ ps = segs t := by
  cases p with
  | nil => cases h
  | cons b t =>
    unfold partsF at h
    simp only at h
    split at h
    · next hb =>
      split at h
      · injection h with h; exact absurd h.symm h0
      · next ht =>
        split at h
        · injection h with h; exact ⟨t, by rw [hb.1], ht, h.symm⟩
        · cases h
    · cases h
theorem parts_append {p d : List UInt8} {ps rs : List (List UInt8)} (h : partsF p = some ps) (h0 : ps ≠ []) (hd : ∀ b ∈ d, b ≠ 47) (hr : partsF (p ++ d) = some rs) : rs = ps.dropLast ++ [ps.getLast h0 ++ d] := by
  obtain ⟨t, rfl, ht, rfl⟩ := parts_cons h h0
  have hne : rs ≠ [] := by
    rintro rfl
    have := ((parts_iff _ _).1 hr).1
    have h2 : (47 :: t ++ d) = [47] := this
    simp at h2
    exact ht h2.1
  obtain ⟨t', e, _, rfl⟩ := parts_cons hr hne
  rw [List.cons_append] at e
  injection e with _ e
  subst e
  exact segs_append t d hd h0
theorem parent_append {p d : List UInt8} {ps : List (List UInt8)} (h : partsF p = some ps) (h0 : ps ≠ []) (hd : ∀ b ∈ d, b ≠ 47) (hr : (partsF (p ++ d)).isSome = true) : parentF (p ++ d) = parentF p := by
  obtain ⟨rs, hr⟩ := Option.isSome_iff_exists.1 hr
  have e := parts_append h h0 hd hr
  unfold parentF
  rw [h, hr, e]
  simp
theorem ten_byte {n : Nat} : ∀ b ∈ ten n, 48 ≤ b.toNat ∧ b.toNat ≤ 57 := by
  intro b hb
  unfold ten at hb
  obtain ⟨i, _, rfl⟩ := List.mem_map.1 hb
  have : n / 10 ^ (9 - i) % 10 < 10 := Nat.mod_lt _ (by omega)
  rw [UInt8.toNat_ofNat']
  omega
theorem ten_no {n : Nat} : ∀ b ∈ ten n, b ≠ 47 := by
  intro b hb e
  have := (ten_byte b hb).1
  subst e
  exact absurd this (by decide)
theorem len_ten (n : Nat) : (ten n).length = 10 := by simp [ten]

/-! ### Effects fit -/
theorem nodeAt_some {t : TR} {p : List UInt8} {n : ZN} (h : get t.row p = some n) : nodeAt t p = n := by unfold nodeAt; rw [h]; rfl
theorem get_nodeAt {t : TR} {p : List UInt8} (h : has t.row p = true) : get t.row p = some (nodeAt t p) := by
  rw [has_get] at h
  obtain ⟨n, hn⟩ := Option.isSome_iff_exists.1 h
  rw [nodeAt_some hn, hn]
theorem nodeAt_none {t : TR} {p : List UInt8} (h : has t.row p = false) : nodeAt t p = ZN.zero := by
  rw [has_get] at h
  unfold nodeAt
  cases hg : get t.row p with
  | none => rfl
  | some n => rw [hg] at h; cases h
theorem not_true {b : Bool} (h : ¬ b = true) : b = false := by cases b; rfl; exact absurd rfl h
theorem not_false {b : Bool} (h : ¬ b = false) : b = true := by cases b; exact absurd rfl h; rfl
/-- A put of a node that is there. -/
theorem one_old {root : List UInt8} {l : Row} (hG : Tree.Good root l) {p : List UInt8} (hp : has l p = true) (n : ZN) : one root l ⟨p, false, n⟩ = (0, ins p n l) := by
  have hu := hG.under p (has_iff.1 hp)
  unfold one
  dsimp only
  rw [if_neg (by rw [hu]; simp), if_neg (by simp), if_neg (fun h => by have := has_iff.2 (hG.par p (has_iff.1 hp) h.1); rw [h.2] at this; cases this), if_neg (by rw [hp]; simp)]
theorem has_ins {l : Row} {p q : List UInt8} {n : ZN} : has (ins p n l) q = true ↔ q = p ∨ has l q = true := by rw [has_iff, has_iff, mem_ins]
/-- A put of a new node. -/
theorem one_new {root : List UInt8} {l : Row} {p : List UInt8} (hu : underF p root = true) (hp : has l p = false) (hpar : has l (parentF p) = true) (hm : l.length < 48) (n : ZN) : one root l ⟨p, false, n⟩ = (0, ins p n l) := by
  unfold one
  dsimp only
  rw [if_neg (by rw [hu]; simp), if_neg (by simp), if_neg (by rw [hpar]; simp), if_neg (by rw [hp]; omega)]
theorem len_ins_old {p : List UInt8} {n : ZN} {l : Row} (hs : Sorted l) (h : has l p = true) : (ins p n l).length = l.length := by
  rw [← length_paths, ins_old hs (has_iff.1 h), length_paths]
/-- A path below another one, and what stands ahead of it. -/
theorem under_of_parent {p root : List UInt8} {ps : List (List UInt8)} (h : partsF p = some ps) (_h0 : ps ≠ []) (hu : underF (parentF p) root = true) : underF p root = true := by
  obtain ⟨qs, rs, h1, h2, h3⟩ := under_iff.1 hu
  rw [parent_parts h] at h1
  injection h1 with h1
  subst h1
  refine under_iff.2 ⟨ps, rs, h, h2, ?_⟩
  have hl : rs.length ≤ ps.dropLast.length := by
    have := congrArg List.length h3
    rw [List.length_take] at this
    omega
  rw [h3, List.length_take, Nat.min_eq_left hl]
  rw [List.dropLast_eq_take, List.take_take, Nat.min_eq_left (by rw [List.length_dropLast] at hl; exact hl)]
/-- What create makes of it when it goes well. -/
structure Created (t : TR) (at_ : Int) (who : Who) (o : O1) : Prop where
  under : underF o.path t.root = true
  ne : o.path ≠ t.root
  isPath : ∃ ps, partsF (seqPath t o) = some ps ∧ ps ≠ []
  par : parentF (seqPath t o) = parentF o.path
  up : has t.row (parentF o.path) = true
  stays : (nodeAt t (parentF o.path)).site = 0 ∧ (nodeAt t (parentF o.path)).own = 0
  ses : o.eph = true → who ≠ .none_
  new : has t.row (seqPath t o) = false
  room : t.row.length < 48
  eq : create t at_ who o = ([⟨parentF o.path, false, touched (nexted (nodeAt t (parentF o.path)) o.seq) at_⟩, ⟨seqPath t o, false, newNode o who at_⟩], ⟨0, seqPath t o, newNode o who at_, []⟩)
theorem created {t : TR} {at_ : Int} {who : Who} {o : O1} (hu : underF o.path t.root = true) (h : (create t at_ who o).2.e = 0) : Created t at_ who o := by
  unfold create at h
  split at h
  · cases h
  next h1 =>
  split at h
  · cases h
  next h2 =>
  split at h
  · cases h
  next h3 =>
  split at h
  · cases h
  next h4 =>
  split at h
  · cases h
  next h5 =>
  split at h
  · cases h
  next h6 =>
  split at h
  · cases h
  next h7 =>
  rw [not_or] at h2 h4
  have hne : o.path ≠ t.root := h2.1
  obtain ⟨_, qs, hq, hq0⟩ := under_parent hu hne
  have hsome : (partsF (seqPath t o)).isSome = true := by
    cases hx : partsF (seqPath t o) with
    | none => exact absurd hx h2.2
    | some _ => rfl
  obtain ⟨ps, hps⟩ := Option.isSome_iff_exists.1 hsome
  have hpar : parentF (seqPath t o) = parentF o.path := by
    unfold seqPath at hsome ⊢
    split
    · next hs => rw [if_pos hs] at hsome; exact parent_append hq hq0 ten_no hsome
    · rfl
  refine ⟨hu, hne, ⟨ps, hps, ?_⟩, hpar, not_false h3, ⟨Classical.byContradiction h4.1, Classical.byContradiction h4.2⟩, fun he hw => h5 ⟨he, hw⟩, not_true h6, by omega, ?_⟩
  · rintro rfl
    have e1 := parent_parts hps
    have e2 := ((parts_iff _ _).1 hps).1
    unfold seqPath at e2
    obtain ⟨tl, e3, e4, _⟩ := parts_cons hq hq0
    rw [e3] at e2
    split at e2
    · have := congrArg List.length e2
      simp [ofL, len_ten] at this
    · have : (47 :: tl) = [47] := e2
      simp at this
      exact e4 this
  · unfold create
    rw [if_neg h1, if_neg (by rw [not_or]; exact h2), if_neg h3, if_neg (by rw [not_or]; exact h4), if_neg h5, if_neg h6, if_neg h7]
theorem create_apply {t : TR} {at_ : Int} {who : Who} {o : O1} (hG : Tree.Good t.root t.row) (c : Created t at_ who o) :
    rowApply t.root t.row (create t at_ who o).1 = (0, ins (seqPath t o) (newNode o who at_) (ins (parentF o.path) (touched (nexted (nodeAt t (parentF o.path)) o.seq) at_) t.row)) := by
  rw [c.eq]
  obtain ⟨ps, hps, hps0⟩ := c.isPath
  have hup := hG.under _ (has_iff.1 c.up)
  have e1 := one_old hG c.up (touched (nexted (nodeAt t (parentF o.path)) o.seq) at_)
  have hu : underF (seqPath t o) t.root = true := under_of_parent hps hps0 (by rw [c.par]; exact hup)
  have hne : seqPath t o ≠ parentF o.path := by
    intro e
    have h1 := c.new
    rw [e, c.up] at h1
    cases h1
  have e2 := one_new (root := t.root) (l := ins (parentF o.path) (touched (nexted (nodeAt t (parentF o.path)) o.seq) at_) t.row) hu (not_true fun h => by
    rcases has_ins.1 h with h | h
    · exact hne h
    · rw [c.new] at h; cases h) (by rw [c.par]; exact has_ins.2 (.inl rfl)) (by rw [len_ins_old hG.sorted c.up]; exact c.room) (newNode o who at_)
  unfold rowApply
  rw [e1]
  dsimp only
  rw [if_pos rfl]
  unfold rowApply
  rw [e2]
  dsimp only
  rw [if_pos rfl]
  rfl
/-- What remove makes of it when it goes well. -/
structure Removed (t : TR) (at_ : Int) (o : O1) : Prop where
  ne : o.path ≠ t.root
  has_ : has t.row o.path = true
  ver : badVer o (nodeAt t o.path) = false
  kids_ : kids t.root t.row o.path = []
  eq : remove t at_ o = ([⟨o.path, true, ZN.zero⟩, ⟨parentF o.path, false, touched (nodeAt t (parentF o.path)) at_⟩], ⟨0, o.path, ZN.zero, []⟩)
theorem removed {t : TR} {at_ : Int} {o : O1} (h : (remove t at_ o).2.e = 0) : Removed t at_ o := by
  unfold remove at h
  split at h
  · cases h
  next h1 =>
  split at h
  · cases h
  next h2 =>
  split at h
  · cases h
  next h3 =>
  split at h
  · cases h
  next h4 =>
  refine ⟨h1, not_false h2, not_true h3, Classical.byContradiction h4, ?_⟩
  unfold remove
  rw [if_neg h1, if_neg h2, if_neg h3, if_neg h4]
theorem remove_apply {t : TR} {at_ : Int} {o : O1} (hG : Tree.Good t.root t.row) (c : Removed t at_ o) :
    rowApply t.root t.row (remove t at_ o).1 = (0, ins (parentF o.path) (touched (nodeAt t (parentF o.path)) at_) (del o.path t.row)) := by
  rw [c.eq]
  have hu := hG.under _ (has_iff.1 c.has_)
  have e1 : one t.root t.row ⟨o.path, true, ZN.zero⟩ = (0, del o.path t.row) := by
    unfold one
    dsimp only
    rw [if_neg (by rw [hu]; simp [c.ne]), if_pos rfl, if_neg (by rw [c.has_]; simp), if_neg (by rw [c.kids_]; simp)]
  have hG1 : Tree.Good t.root (del o.path t.row) := by
    have := good_one (x := ⟨o.path, true, ZN.zero⟩) hG (by rw [e1])
    rwa [e1] at this
  obtain ⟨_, qs, hq, hq0⟩ := under_parent hu c.ne
  have hup : has (del o.path t.row) (parentF o.path) = true := has_iff.2 (mem_del.2 ⟨hG.par _ (has_iff.1 c.has_) c.ne, parent_ne hq hq0⟩)
  have e2 := one_old hG1 hup (touched (nodeAt t (parentF o.path)) at_)
  unfold rowApply
  rw [e1]
  dsimp only
  rw [if_pos rfl]
  unfold rowApply
  rw [e2]
  dsimp only
  rw [if_pos rfl]
  rfl
theorem set_eq {t : TR} {at_ : Int} {o : O1} (h : (set_ t at_ o).2.e = 0) : has t.row o.path = true ∧ badVer o (nodeAt t o.path) = false ∧ set_ t at_ o = ([⟨o.path, false, setted (nodeAt t o.path) o at_⟩], ⟨0, o.path, setted (nodeAt t o.path) o at_, []⟩) := by
  unfold set_ at h
  split at h
  · cases h
  next h1 =>
  split at h
  · cases h
  next h2 =>
  refine ⟨not_false h1, not_true h2, ?_⟩
  unfold set_
  rw [if_neg h1, if_neg h2]
theorem set_apply {t : TR} {at_ : Int} {o : O1} (hG : Tree.Good t.root t.row) (h : (set_ t at_ o).2.e = 0) :
    rowApply t.root t.row (set_ t at_ o).1 = (0, ins o.path (setted (nodeAt t o.path) o at_) t.row) := by
  obtain ⟨h1, _, e⟩ := set_eq h
  rw [e]
  unfold rowApply
  rw [one_old hG h1]
  dsimp only
  rw [if_pos rfl]
  rfl
theorem check_none (t : TR) (o : O1) : (check t o).1 = [] := by unfold check; split; rfl; split <;> rfl
theorem get_none_ (t : TR) (o : O1) : (get_ t o).1 = [] := by unfold get_; split <;> rfl
theorem kids_none (t : TR) (o : O1) : (kids_ t o).1 = [] := by unfold kids_; split <;> rfl
/-- With an error nothing is done. -/
theorem single_no {t : TR} {at_ : Int} {who : Who} {o : O1} (h : (single t at_ who o).2.e ≠ 0) : single t at_ who o = ([], .no (single t at_ who o).2.e) := by
  revert h
  unfold single
  split
  · intro _; rfl
  split
  · unfold create
    split
    · intro _; rfl
    split
    · intro _; rfl
    split
    · intro _; rfl
    split
    · intro _; rfl
    split
    · intro _; rfl
    split
    · intro _; rfl
    split
    · intro _; rfl
    · intro h; exact absurd rfl h
  · unfold remove
    split
    · intro _; rfl
    split
    · intro _; rfl
    split
    · intro _; rfl
    split
    · intro _; rfl
    · intro h; exact absurd rfl h
  · unfold set_
    split
    · intro _; rfl
    split
    · intro _; rfl
    · intro h; exact absurd rfl h
  · unfold check
    split
    · intro _; rfl
    split
    · intro _; rfl
    · intro h; exact absurd rfl h
  · unfold get_
    split
    · intro _; rfl
    · intro h; exact absurd rfl h
  · unfold kids_
    split
    · intro _; rfl
    · intro h; exact absurd rfl h
  · intro _; rfl
/-- THE EFFECTS FIT. -/
theorem single_fits {t : TR} {at_ : Int} {who : Who} {o : O1} (hG : Tree.Good t.root t.row) : (rowApply t.root t.row (single t at_ who o).1).1 = 0 := by
  by_cases h : (single t at_ who o).2.e = 0
  · unfold single at h ⊢
    split
    · rfl
    next hu =>
    rw [if_neg hu] at h
    have hu := not_false hu
    revert h
    split
    · intro h; rw [create_apply hG (created hu h)]
    · intro h; rw [remove_apply hG (removed h)]
    · intro h; rw [set_apply hG h]
    · intro _; rw [check_none]; rfl
    · intro _; rw [get_none_]; rfl
    · intro _; rw [kids_none]; rfl
    · intro _; rfl
  · rw [single_no h]
    rfl
end Go.Proofs.YtplbckibogmicaaGreatDoor.Opn
