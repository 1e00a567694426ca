/- Trees as lists of nodes in order: the document's words, and what follows from them. No program in this text. -/
import Derived.Test.YtplbckibogmicaaGreatDoorPathName
namespace Go.Proofs.YtplbckibogmicaaGreatDoor.Tree
open Go.Op Path

theorem or_map {a b c d : Prop} (h : a ∨ b) (f : a → c) (g : b → d) : c ∨ d := h.elim (fun x => .inl (f x)) (fun x => .inr (g x))
theorem pw_map {α : Type} {R T : α → α → Prop} {l : List α} (f : ∀ {a b : α}, R a b → T a b) (h : l.Pairwise R) : l.Pairwise T := by
  induction h with
  | nil => exact .nil
  | cons h1 _ ih => exact .cons (fun b hb => f (h1 b hb)) ih
/-! ### The order of texts -/
theorem less_irrefl : ∀ a : List UInt8, bytesLess a a = false
  | [] => rfl
  | a :: x => by unfold bytesLess; rw [less_irrefl x]; simp [UInt8.lt_irrefl]
theorem less_trans : ∀ {a b c : List UInt8}, bytesLess a b = true → bytesLess b c = true → bytesLess a c = true
  | _, _, [], _, h => by rw [show bytesLess _ [] = false from by unfold bytesLess; rfl] at h; cases h
  | _, [], _ :: _, h, _ => by rw [show bytesLess _ [] = false from by unfold bytesLess; rfl] at h; cases h
  | [], _ :: _, _ :: _, _, _ => by unfold bytesLess; rfl
  | a :: x, b :: y, c :: z, h1, h2 => by
    unfold bytesLess at h1 h2 ⊢
    simp only [Bool.or_eq_true, Bool.and_eq_true, beq_iff_eq, decide_eq_true_eq] at h1 h2 ⊢
    rcases h1 with h1 | ⟨rfl, h1⟩
    · rcases h2 with h2 | ⟨rfl, h2⟩
      · exact .inl (UInt8.lt_trans h1 h2)
      · exact .inl h1
    · rcases h2 with h2 | ⟨rfl, h2⟩
      · exact .inl h2
      · exact .inr ⟨rfl, less_trans h1 h2⟩
theorem less_total : ∀ (a b : List UInt8), a ≠ b → bytesLess a b = false → bytesLess b a = true
  | [], [], h, _ => absurd rfl h
  | [], _ :: _, _, h => by unfold bytesLess at h; cases h
  | _ :: _, [], _, _ => by unfold bytesLess; rfl
  | a :: x, b :: y, hne, h => by
    unfold bytesLess at h ⊢
    simp only [Bool.or_eq_false_iff, Bool.and_eq_false_iff, beq_eq_false_iff_ne, decide_eq_false_iff_not, Bool.or_eq_true, Bool.and_eq_true, beq_iff_eq, decide_eq_true_eq] at h ⊢
    by_cases hab : a = b
    · subst hab
      refine .inr ⟨rfl, less_total x y (fun e => hne (by rw [e])) ?_⟩
      rcases h.2 with h2 | h2
      · exact absurd rfl h2
      · exact h2
    · left
      rcases UInt8.lt_or_lt_of_ne hab with h3 | h3
      · exact absurd h3 h.1
      · exact h3
theorem less_ne {a b : List UInt8} (h : bytesLess a b = true) : a ≠ b := by
  rintro rfl
  rw [less_irrefl] at h
  cases h
theorem less_asymm {a b : List UInt8} (h : bytesLess a b = true) : bytesLess b a = false := by
  rw [← Bool.not_eq_true]
  intro h2
  have := less_trans h h2
  rw [less_irrefl] at this
  cases this
theorem less_append (a : List UInt8) : ∀ {x y : List UInt8}, bytesLess (a ++ x) (a ++ y) = bytesLess x y := by
  induction a with
  | nil => intro x y; rfl
  | cons c a ih =>
    intro x y
    rw [List.cons_append, List.cons_append]
    conv => lhs; unfold bytesLess
    rw [ih]
    simp [UInt8.lt_irrefl]
theorem less_prefix (a : List UInt8) {x : List UInt8} (h : x ≠ []) : bytesLess a (a ++ x) = true := by
  have := less_append a (x := []) (y := x)
  rw [List.append_nil] at this
  rw [this]
  cases x with
  | nil => exact absurd rfl h
  | cons _ _ => unfold bytesLess; rfl

/-! ### Nodes, effects, trees -/
structure ZN where
  data : List UInt8
  ver : Int
  kin : Int
  next : Int
  site : Int
  own : Int
  made : Int
  chg : Int
  tch : Int
deriving DecidableEq
def ZN.zero : ZN := ⟨[], 0, 0, 0, 0, 0, 0, 0, 0⟩
structure Ef where
  path : List UInt8
  gone : Bool
  node : ZN
abbrev Row := List (List UInt8 × ZN)
structure TR where
  root : List UInt8
  cnt : Nat
  row : Row

def paths (l : Row) : List (List UInt8) := l.map (·.1)
def has (l : Row) (p : List UInt8) : Bool := l.any (·.1 == p)
def get (l : Row) (p : List UInt8) : Option ZN := (l.find? (·.1 == p)).map (·.2)
def ins (p : List UInt8) (n : ZN) : Row → Row
  | [] => [(p, n)]
  | (q, m) :: l => if q = p then (p, n) :: l else if bytesLess p q = true then (p, n) :: (q, m) :: l else (q, m) :: ins p n l
def del (p : List UInt8) (l : Row) : Row := l.filter (·.1 != p)
def isKid (root p q : List UInt8) : Bool := q != root && parentF q == p
def kids (root : List UInt8) (l : Row) (p : List UInt8) : List (List UInt8) := ((paths l).filter (isKid root p)).map baseF
def one (root : List UInt8) (l : Row) (x : Ef) : Int × Row :=
  if underF x.path root = false ∨ (x.gone = true ∧ x.path = root) then (30, l)
  else if x.gone = true then (if has l x.path = false then (31, l) else if kids root l x.path ≠ [] then (33, l) else (0, del x.path l))
  else if x.path ≠ root ∧ has l (parentF x.path) = false then (31, l)
  else if has l x.path = false ∧ 48 ≤ l.length then (36, l)
  else (0, ins x.path x.node l)
def rowApply (root : List UInt8) : Row → List Ef → Int × Row
  | l, [] => (0, l)
  | l, x :: xs => if (one root l x).1 = 0 then rowApply root (one root l x).2 xs else ((one root l x).1, l)
def TR.apply (t : TR) (xs : List Ef) : Int × TR :=
  if (rowApply t.root t.row xs).1 = 0 then (0, ⟨t.root, (t.cnt + 1) % 18446744073709551616, (rowApply t.root t.row xs).2⟩) else ((rowApply t.root t.row xs).1, t)
def TR.new (root : List UInt8) : TR := ⟨root, 0, [(root, ZN.zero)]⟩

/-! ### Rows in order -/
def Sorted (l : Row) : Prop := (paths l).Pairwise fun a b => bytesLess a b = true

theorem has_iff {l : Row} {p : List UInt8} : has l p = true ↔ p ∈ paths l := by
  unfold has paths
  rw [List.any_eq_true, List.mem_map]
  constructor
  · rintro ⟨x, hx, h⟩
    exact ⟨x, hx, by simpa using h⟩
  · rintro ⟨x, hx, h⟩
    exact ⟨x, hx, by simpa using h⟩
theorem has_false {l : Row} {p : List UInt8} : has l p = false ↔ p ∉ paths l := by
  rw [← Bool.not_eq_true, has_iff]
theorem mem_ins {p : List UInt8} {n : ZN} {l : Row} {q : List UInt8} : q ∈ paths (ins p n l) ↔ q = p ∨ q ∈ paths l := by
  induction l with
  | nil => simp [ins, paths]
  | cons x l ih =>
    obtain ⟨q', m⟩ := x
    unfold ins
    split
    · next h => subst h; simp [paths]
    · split
      · simp [paths]
      · show q ∈ q' :: paths (ins p n l) ↔ q = p ∨ q ∈ q' :: paths l
        rw [List.mem_cons, ih, List.mem_cons]
        constructor
        · rintro (h | h | h)
          · exact .inr (.inl h)
          · exact .inl h
          · exact .inr (.inr h)
        · rintro (h | h | h)
          · exact .inr (.inl h)
          · exact .inl h
          · exact .inr (.inr h)
theorem sorted_ins {p : List UInt8} {n : ZN} {l : Row} (h : Sorted l) : Sorted (ins p n l) := by
  induction l with
  | nil => exact List.pairwise_singleton _ _
  | cons x l ih =>
    obtain ⟨q, m⟩ := x
    have h' : (q :: paths l).Pairwise fun a b => bytesLess a b = true := h
    rw [List.pairwise_cons] at h'
    unfold ins
    split
    · next e => subst e; exact h
    · next hne =>
      split
      · next hlt =>
        show (p :: q :: paths l).Pairwise fun a b => bytesLess a b = true
        rw [List.pairwise_cons]
        refine ⟨fun y hy => ?_, h⟩
        rcases List.mem_cons.1 hy with rfl | hy
        · exact hlt
        · exact less_trans hlt (h'.1 y hy)
      · next hge =>
        show (q :: paths (ins p n l)).Pairwise fun a b => bytesLess a b = true
        rw [List.pairwise_cons]
        refine ⟨fun y hy => ?_, ih h'.2⟩
        rcases mem_ins.1 hy with rfl | hy
        · exact less_total _ _ (fun e => hne e.symm) (by rw [← Bool.not_eq_true]; exact hge)
        · exact h'.1 y hy
theorem paths_del (p : List UInt8) (l : Row) : paths (del p l) = (paths l).filter (· != p) := by
  unfold paths del
  rw [List.filter_map]
  rfl
theorem mem_del {p : List UInt8} {l : Row} {q : List UInt8} : q ∈ paths (del p l) ↔ q ∈ paths l ∧ q ≠ p := by
  rw [paths_del, List.mem_filter]
  simp
theorem sorted_del {p : List UInt8} {l : Row} (h : Sorted l) : Sorted (del p l) := by
  unfold Sorted
  rw [paths_del]
  exact List.Pairwise.filter _ h
theorem sorted_nodup {l : Row} (h : Sorted l) : (paths l).Nodup := pw_map (fun h => less_ne h) h
theorem length_ins_new {p : List UInt8} {n : ZN} {l : Row} (h : p ∉ paths l) : (ins p n l).length = l.length + 1 := by
  induction l with
  | nil => rfl
  | cons x l ih =>
    obtain ⟨q, m⟩ := x
    have h' : p ∉ q :: paths l := h
    rw [List.mem_cons, not_or] at h'
    unfold ins
    rw [if_neg (fun e => h'.1 e.symm)]
    split
    · rfl
    · show (ins p n l).length + 1 = _
      rw [ih h'.2]
      rfl
theorem ins_old {p : List UInt8} {n : ZN} {l : Row} (hs : Sorted l) (h : p ∈ paths l) : paths (ins p n l) = paths l := by
  induction l with
  | nil => cases h
  | cons x l ih =>
    obtain ⟨q, m⟩ := x
    have h' : (q :: paths l).Pairwise fun a b => bytesLess a b = true := hs
    rw [List.pairwise_cons] at h'
    unfold ins
    split
    · next e => subst e; rfl
    · next hne =>
      have hp : p ∈ paths l := (List.mem_cons.1 h).resolve_left (fun e => hne e.symm)
      rw [if_neg (by rw [less_asymm (h'.1 p hp)]; exact Bool.false_ne_true)]
      show q :: paths (ins p n l) = q :: paths l
      rw [ih h'.2 hp]
theorem length_paths (l : Row) : (paths l).length = l.length := by simp [paths]
theorem get_ins {p q : List UInt8} {n : ZN} {l : Row} (hs : Sorted l) : get (ins p n l) q = if q = p then some n else get l q := by
  induction l with
  | nil =>
    unfold ins get
    by_cases h : q = p
    · subst h; simp
    · have h2 : ¬ p = q := fun e => h e.symm
      simp [h, h2]
  | cons x l ih =>
    obtain ⟨r, m⟩ := x
    have h' : (r :: paths l).Pairwise fun a b => bytesLess a b = true := hs
    rw [List.pairwise_cons] at h'
    have ih := ih h'.2
    unfold ins
    split
    · next e =>
      subst e
      unfold get
      by_cases h : q = r
      · subst h; simp
      · have h2 : ¬ r = q := fun e => h e.symm
        simp [h, h2]
    · next hne =>
      split
      · unfold get
        by_cases h : q = p
        · subst h; simp
        · have h2 : ¬ p = q := fun e => h e.symm
          simp [h, h2]
      · unfold get at ih ⊢
        by_cases h : r = q
        · subst h
          simp [hne]
        · rw [List.find?_cons_of_neg (by simpa using h), ih]
          split
          · rfl
          · rw [List.find?_cons_of_neg (by simpa using h)]
theorem get_del {p q : List UInt8} {l : Row} : get (del p l) q = if q = p then none else get l q := by
  induction l with
  | nil => unfold get del; split <;> rfl
  | cons x l ih =>
    obtain ⟨r, m⟩ := x
    unfold get del at ih ⊢
    by_cases hrp : r = p
    · subst hrp
      rw [List.filter_cons_of_neg (by simp), ih]
      split
      · rfl
      · next h => rw [List.find?_cons_of_neg (by simpa using fun e : r = q => h e.symm)]
    · rw [List.filter_cons_of_pos (by simpa using hrp)]
      by_cases hrq : r = q
      · subst hrq
        simp [hrp]
      · rw [List.find?_cons_of_neg (by simpa using hrq), ih, List.find?_cons_of_neg (by simpa using hrq)]
theorem get_some_iff {l : Row} (hs : Sorted l) {p : List UInt8} {n : ZN} : get l p = some n ↔ (p, n) ∈ l := by
  induction l with
  | nil => simp [get]
  | cons x l ih =>
    obtain ⟨r, m⟩ := x
    have h' : (r :: paths l).Pairwise fun a b => bytesLess a b = true := hs
    rw [List.pairwise_cons] at h'
    have ih := ih h'.2
    by_cases h : r = p
    · subst h
      have hn : ∀ k, (r, k) ∉ l := fun k hk => by
        have := h'.1 r (List.mem_map.2 ⟨_, hk, rfl⟩)
        rw [less_irrefl] at this
        cases this
      simp [get, hn, eq_comm]
    · have hne : ¬ p = r := fun e => h e.symm
      unfold get at ih ⊢
      rw [List.find?_cons_of_neg (by simpa using h), ih, List.mem_cons]
      simp [hne]
theorem has_get {l : Row} {p : List UInt8} : has l p = (get l p).isSome := by
  induction l with
  | nil => rfl
  | cons x l ih =>
    obtain ⟨r, m⟩ := x
    unfold has get at ih ⊢
    by_cases h : r = p
    · subst h; simp
    · rw [List.find?_cons_of_neg (by simpa using h), List.any_cons, ih]
      simp [h]
end Go.Proofs.YtplbckibogmicaaGreatDoor.Tree
