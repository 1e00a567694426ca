/- Chapter 13's net, as a machine. It speaks of no program. -/
import Derived.WalkKit
namespace Go.Proofs.Ytephciglcikllaa.Net

/-- An address; a letter. -/
structure Ad where
  g : Int
  n : Int
deriving DecidableEq
structure Lt where
  fr : Ad
  to : Ad
  bs : List UInt8
deriving DecidableEq
def ad0 : Ad := ⟨0, 0⟩
def lt0 : Lt := ⟨ad0, ad0, []⟩
instance : Inhabited Ad := ⟨ad0⟩
instance : Inhabited Lt := ⟨lt0⟩
/-- A link is both its addresses, the lesser one first. -/
def linkOf (a b : Ad) : Ad × Ad := if b.g < a.g ∨ (b.g = a.g ∧ b.n < a.n) then (b, a) else (a, b)
theorem linkOf_comm (a b : Ad) : linkOf a b = linkOf b a := by
  unfold linkOf
  obtain ⟨ag, an⟩ := a
  obtain ⟨bg, bn⟩ := b
  by_cases h1 : bg < ag ∨ (bg = ag ∧ bn < an)
  · have h2 : ¬ (ag < bg ∨ (ag = bg ∧ an < bn)) := by omega
    simp only [h1, h2, if_true, if_false]
  · by_cases h2 : ag < bg ∨ (ag = bg ∧ an < bn)
    · simp only [h1, h2, if_true, if_false]
    · have e1 : ag = bg := by omega
      have e2 : an = bn := by omega
      subst e1 e2
      rfl
theorem linkOf_eq (a b c d : Ad) : linkOf a b = linkOf c d ↔ (a = c ∧ b = d) ∨ (a = d ∧ b = c) := by
  have h : ∀ x y : Ad, linkOf x y = (x, y) ∨ linkOf x y = (y, x) := fun x y => by unfold linkOf; split <;> simp
  constructor
  · intro e
    rcases h a b with q | q <;> rcases h c d with r | r <;> rw [q, r] at e <;> injection e with e1 e2 <;> simp [e1, e2]
  · rintro (⟨rfl, rfl⟩ | ⟨rfl, rfl⟩)
    · rfl
    · exact linkOf_comm _ _
/-- A net: how many nodes each group has, the letters, which links are cut. -/
structure Nt where
  sizes : List Int
  row : List Lt
  cut : Ad × Ad → Bool
def sizesOk (s : List Int) : Bool := decide (1 ≤ s.length) && decide (s.length ≤ 4) && s.all fun x => decide (1 ≤ x) && decide (x ≤ 3)
theorem sizesOk_iff {s : List Int} : sizesOk s = true ↔ 1 ≤ s.length ∧ s.length ≤ 4 ∧ ∀ x ∈ s, 1 ≤ x ∧ x ≤ 3 := by
  unfold sizesOk
  simp [and_assoc]
def Nt.new (s : List Int) : Nt := ⟨s, [], fun _ => false⟩
def Nt.has (z : Nt) (a : Ad) : Bool := decide (0 ≤ a.g) && decide (a.g < (z.sizes.length : Int)) && decide (0 ≤ a.n) && decide (a.n < z.sizes.getD a.g.toNat 0)
def Nt.link (z : Nt) (a b : Ad) : Bool := !decide (a = b) && z.has a && z.has b
def Nt.cuts (z : Nt) (a b : Ad) : Bool := z.cut (linkOf a b)
def Nt.okAt (z : Nt) (i : Int) : Bool := decide (0 ≤ i) && decide (i < (z.row.length : Int))
theorem okAt_iff {z : Nt} {i : Int} : z.okAt i = true ↔ ∃ k : Nat, i = (k : Int) ∧ k < z.row.length := by
  unfold Nt.okAt
  simp only [Bool.and_eq_true, decide_eq_true_eq]
  constructor
  · rintro ⟨h1, h2⟩
    exact ⟨i.toNat, by omega, by omega⟩
  · rintro ⟨k, rfl, h⟩
    exact ⟨by omega, by omega⟩
def Nt.add (z : Nt) (l : Lt) : Nt × Int := if 4096 ≤ z.row.length then (z, 4) else ({ z with row := z.row ++ [l] }, 0)
def Nt.send (z : Nt) (l : Lt) : Nt × Int := if z.link l.fr l.to = false then (z, 1) else if 2097152 < l.bs.length then (z, 1) else z.add l
def Nt.out (z : Nt) (i : Nat) : Nt := { z with row := z.row.eraseIdx i }
def Nt.take (z : Nt) (i : Int) : Nt × Lt × Int :=
  if z.okAt i = false then (z, lt0, 1) else if z.cuts (z.row.getD i.toNat lt0).fr (z.row.getD i.toNat lt0).to = true then (z, lt0, 65) else (z.out i.toNat, z.row.getD i.toNat lt0, 0)
def Nt.drop (z : Nt) (i : Int) : Nt × Int := if z.okAt i = false then (z, 1) else (z.out i.toNat, 0)
def Nt.double (z : Nt) (i : Int) : Nt × Int := if z.okAt i = false then (z, 1) else z.add (z.row.getD i.toNat lt0)
def Nt.hold (z : Nt) (i : Int) : Nt × Int := if z.okAt i = false then (z, 1) else (z.out i.toNat).add (z.row.getD i.toNat lt0)
def Nt.turn (z : Nt) (a b : Ad) (v : Bool) : Nt × Int := if z.link a b = false then (z, 1) else ({ z with cut := fun l => if l = linkOf a b then v else z.cut l }, 0)
/-- An act. -/
structure A1 where
  do_ : Nat
  i : Int
  l : Lt
instance : Inhabited A1 := ⟨⟨0, 0, lt0⟩⟩
def Nt.act (z : Nt) (a : A1) : Nt × Lt × Int :=
  if a.do_ % 7 = 0 then ((z.send a.l).1, lt0, (z.send a.l).2)
  else if a.do_ % 7 = 1 then z.take a.i
  else if a.do_ % 7 = 2 then ((z.drop a.i).1, lt0, (z.drop a.i).2)
  else if a.do_ % 7 = 3 then ((z.double a.i).1, lt0, (z.double a.i).2)
  else if a.do_ % 7 = 4 then ((z.hold a.i).1, lt0, (z.hold a.i).2)
  else if a.do_ % 7 = 5 then ((z.turn a.l.fr a.l.to true).1, lt0, (z.turn a.l.fr a.l.to true).2)
  else ((z.turn a.l.fr a.l.to false).1, lt0, (z.turn a.l.fr a.l.to false).2)
/-- What a net always is. -/
structure Nt.Ok (z : Nt) : Prop where
  sizes : sizesOk z.sizes = true
  few : z.row.length ≤ 4096
  each : ∀ l ∈ z.row, z.link l.fr l.to = true ∧ l.bs.length ≤ 2097152
def Ad.Wf (a : Ad) : Prop := (-9223372036854775808 ≤ a.g ∧ a.g ≤ 9223372036854775807) ∧ -9223372036854775808 ≤ a.n ∧ a.n ≤ 9223372036854775807
theorem has_wf {z : Nt} (h : sizesOk z.sizes = true) {a : Ad} (ha : z.has a = true) : (0 ≤ a.g ∧ a.g ≤ 3) ∧ 0 ≤ a.n ∧ a.n ≤ 2 := by
  obtain ⟨h1, h2, h3⟩ := sizesOk_iff.1 h
  unfold Nt.has at ha
  simp only [Bool.and_eq_true, decide_eq_true_eq] at ha
  obtain ⟨⟨⟨q1, q2⟩, q3⟩, q4⟩ := ha
  have hl : a.g.toNat < z.sizes.length := by omega
  rw [List.getD_eq_getElem?_getD, List.getElem?_eq_getElem hl] at q4
  have := h3 _ (List.getElem_mem hl)
  simp only [Option.getD_some] at q4
  omega
theorem link_wf {z : Nt} (h : sizesOk z.sizes = true) {a b : Ad} (hl : z.link a b = true) : a.Wf ∧ b.Wf := by
  unfold Nt.link at hl
  simp only [Bool.and_eq_true] at hl
  have h1 := has_wf h hl.1.2
  have h2 := has_wf h hl.2
  unfold Ad.Wf
  omega
theorem link_keep {z y : Nt} (h : y.sizes = z.sizes) (a b : Ad) : y.link a b = z.link a b := by
  unfold Nt.link Nt.has
  rw [h]
theorem Nt.Ok.new {s : List Int} (h : sizesOk s = true) : (Nt.new s).Ok := ⟨h, Nat.zero_le _, fun l hl => by cases hl⟩
theorem Nt.Ok.add {z : Nt} (h : z.Ok) {l : Lt} (h1 : z.link l.fr l.to = true) (h2 : l.bs.length ≤ 2097152) : (z.add l).1.Ok := by
  unfold Nt.add
  split
  · exact h
  · refine ⟨h.sizes, by simp; omega, fun x hx => ?_⟩
    rcases List.mem_append.1 hx with q | q
    · exact h.each x q
    · rw [List.mem_singleton.1 q]; exact ⟨h1, h2⟩
theorem Nt.Ok.out {z : Nt} (h : z.Ok) (i : Nat) : (z.out i).Ok :=
  ⟨h.sizes, Nat.le_trans (List.length_eraseIdx_le ..) h.few, fun x hx => h.each x (List.mem_of_mem_eraseIdx hx)⟩
theorem Nt.Ok.send {z : Nt} (h : z.Ok) (l : Lt) : (z.send l).1.Ok := by
  unfold Nt.send
  split
  · exact h
  · split
    · exact h
    · exact h.add (by simpa using ‹¬ z.link l.fr l.to = false›) (by omega)
theorem getD_mem {z : Nt} {i : Int} (h : z.okAt i = true) : z.row.getD i.toNat lt0 ∈ z.row ∧ z.row[i.toNat]? = some (z.row.getD i.toNat lt0) := by
  obtain ⟨k, rfl, hk⟩ := okAt_iff.1 h
  rw [Int.toNat_natCast, List.getD_eq_getElem?_getD, List.getElem?_eq_getElem hk]
  exact ⟨List.getElem_mem hk, rfl⟩
theorem Nt.Ok.take {z : Nt} (h : z.Ok) (i : Int) : (z.take i).1.Ok := by
  unfold Nt.take
  split
  · exact h
  · split
    · exact h
    · exact h.out _
theorem Nt.Ok.drop {z : Nt} (h : z.Ok) (i : Int) : (z.drop i).1.Ok := by
  unfold Nt.drop
  split
  · exact h
  · exact h.out _
theorem Nt.Ok.double {z : Nt} (h : z.Ok) (i : Int) : (z.double i).1.Ok := by
  unfold Nt.double
  split
  · exact h
  · have hm := (getD_mem (z := z) (i := i) (by simpa using ‹¬ z.okAt i = false›)).1
    exact h.add (h.each _ hm).1 (h.each _ hm).2
theorem Nt.Ok.hold {z : Nt} (h : z.Ok) (i : Int) : (z.hold i).1.Ok := by
  unfold Nt.hold
  split
  · exact h
  · have hm := (getD_mem (z := z) (i := i) (by simpa using ‹¬ z.okAt i = false›)).1
    exact (h.out _).add ((link_keep rfl _ _).trans (h.each _ hm).1) (h.each _ hm).2
theorem Nt.Ok.turn {z : Nt} (h : z.Ok) (a b : Ad) (v : Bool) : (z.turn a b v).1.Ok := by
  unfold Nt.turn
  split
  · exact h
  · exact ⟨h.sizes, h.few, h.each⟩
theorem Nt.Ok.act {z : Nt} (h : z.Ok) (a : A1) : (z.act a).1.Ok := by
  unfold Nt.act
  repeat' split
  · exact h.send _
  · exact h.take _
  · exact h.drop _
  · exact h.double _
  · exact h.hold _
  · exact h.turn _ _ _
  · exact h.turn _ _ _
/-- What is held always has room. -/
theorem hold_eq {z : Nt} (h : z.Ok) {i : Int} (hi : z.okAt i = true) : z.hold i = ({ z with row := z.row.eraseIdx i.toNat ++ [z.row.getD i.toNat lt0] }, 0) := by
  obtain ⟨k, rfl, hk⟩ := okAt_iff.1 hi
  have hf := h.few
  have : ¬ 4096 ≤ (z.out (k : Int).toNat).row.length := by
    unfold Nt.out
    simp only [Int.toNat_natCast]
    rw [List.length_eraseIdx_of_lt hk]
    omega
  unfold Nt.hold Nt.add
  rw [if_neg (by rw [hi]; simp), if_neg this]
  rfl
end Go.Proofs.Ytephciglcikllaa.Net
