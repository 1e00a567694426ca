/- Two nets of one law; letters of a link. -/
import Derived.Test.YtephciglcikllaaNetWant
import Derived.Deep.LoopGhost
namespace Go.Proofs.Ytephciglcikllaa.Net
open Go.RowKit Disk Zab Sto

theorem NtAt.base {w0 w1 w : World} {O : Nat → Prop} {gz : Nat} {z : Nt} {N : Nat} (h : NtAt w0 w O gz z N) (hw : w1.heap.size ≤ w0.heap.size) : NtAt w1 w O gz z N :=
  ⟨h.ok, h.gz_, fun b hb => ⟨Nat.le_trans hw (h.low b hb).1, (h.low b hb).2⟩, h.mem⟩
/-- Two nets, made since w. -/
structure Two (w wr : World) (A B : Nat → Prop) (ga gb : Nat) (za zb : Nt) (Na Nb : Nat) : Prop where
  a : NtAt w wr A ga za Na
  b : NtAt w wr B gb zb Nb
  ne : ∀ k, A k → ¬ B k
  bl : Below w.heap.size w wr
section
variable {w wr w' : World} {A B A' B' : Nat → Prop} {ga gb : Nat} {za zb y : Nt} {Na Nb M : Nat}
theorem Two.later (h : Two w wr A B ga gb za zb Na Nb) (hb : Below wr.heap.size wr w') : Two w w' A B ga gb za zb Na Nb := ⟨h.a.below hb, h.b.below hb, h.ne, h.bl.trans (hb.mono h.bl.size)⟩
theorem Two.out {X : Nat → Prop} (h : Two w wr A B ga gb za zb Na Nb) (ho : Out X wr w') (hx : ∀ b, X b → ¬ A b ∧ ¬ B b ∧ w.heap.size ≤ b) : Two w w' A B ga gb za zb Na Nb :=
  ⟨h.a.out ho fun _ hb hq => (hx _ hq).1 hb, h.b.out ho fun _ hb hq => (hx _ hq).2.1 hb, h.ne, ho.below h.bl (fun b hb => (hx b hb).2.2) h.bl.size⟩
theorem Two.nextA (h : Two w wr A B ga gb za zb Na Nb) (k : NtAt w w' A' ga y M) (hg : Go_ A A' wr w') : Two w w' A' B ga gb y zb M Nb :=
  ⟨k, h.b.out hg.1 fun b hb hq => h.ne b hq hb, fun b hb hq => (hg.2 b hb).elim (fun q => h.ne b q hq) fun q => by have := (h.b.low b hq).2; omega, hg.1.below h.bl (fun b hb => (h.a.low b hb).1) h.bl.size⟩
theorem Two.nextB (h : Two w wr A B ga gb za zb Na Nb) (k : NtAt w w' B' gb y M) (hg : Go_ B B' wr w') : Two w w' A B' ga gb za y Na M :=
  ⟨h.a.out hg.1 fun b hb hq => h.ne b hb hq, k, fun b hb hq => (hg.2 b hq).elim (fun q => h.ne b hb q) fun q => by have := (h.a.low b hb).2; omega, hg.1.below h.bl (fun b hb => (h.b.low b hb).1) h.bl.size⟩
end
/-- Is a letter of the link of a and b? -/
def isOn (a b : Ad) (x : Lt) : Bool := (decide (x.fr = a) && decide (x.to = b)) || (decide (x.fr = b) && decide (x.to = a))
theorem isOn_iff (a b : Ad) (x : Lt) : isOn a b x = true ↔ linkOf x.fr x.to = linkOf a b := by
  rw [linkOf_eq]
  unfold isOn
  simp
theorem link_comm (z : Nt) (a b : Ad) : z.link a b = z.link b a := by
  unfold Nt.link
  rw [show decide (a = b) = decide (b = a) from by simp [eq_comm], Bool.and_assoc, Bool.and_assoc, Bool.and_comm (z.has a)]
/-- What is left where the first k letters were taken, but for those of the link. -/
def leftR (a b : Ad) (ls : List Lt) (k : Nat) : List Lt := (ls.take k).filter (isOn a b) ++ ls.drop k
def leftI (a b : Ad) (ls : List Lt) (k : Nat) : Nat := ((ls.take k).filter (isOn a b)).length
theorem leftI_le (a b : Ad) (ls : List Lt) (k : Nat) : leftI a b ls k ≤ k := by
  unfold leftI
  exact Nat.le_trans (List.length_filter_le ..) (by rw [List.length_take]; omega)
theorem take_next' {ls : List Lt} {k : Nat} {x : Lt} (h : ls[k]? = some x) : ls.take (k + 1) = ls.take k ++ [x] ∧ ls.drop k = x :: ls.drop (k + 1) := by
  obtain ⟨h1, e⟩ := List.getElem?_eq_some_iff.1 h
  exact ⟨by rw [List.take_succ_eq_append_getElem h1, e], by rw [List.drop_eq_getElem_cons h1, e]⟩
theorem left_get {a b : Ad} {ls : List Lt} {k : Nat} {x : Lt} (h : ls[k]? = some x) : (leftR a b ls k)[leftI a b ls k]? = some x := by
  unfold leftR leftI
  rw [List.getElem?_append_right (Nat.le_refl _), Nat.sub_self, (take_next' h).2]
  rfl
theorem left_on {a b : Ad} {ls : List Lt} {k : Nat} {x : Lt} (h : ls[k]? = some x) (hx : isOn a b x = true) : leftR a b ls (k + 1) = leftR a b ls k ∧ leftI a b ls (k + 1) = leftI a b ls k + 1 := by
  unfold leftR leftI
  rw [(take_next' h).1, (take_next' h).2, List.filter_append]
  simp [hx]
theorem left_off {a b : Ad} {ls : List Lt} {k : Nat} {x : Lt} (h : ls[k]? = some x) (hx : isOn a b x = false) : leftR a b ls (k + 1) = (leftR a b ls k).eraseIdx (leftI a b ls k) ∧ leftI a b ls (k + 1) = leftI a b ls k := by
  unfold leftR leftI
  rw [(take_next' h).1, (take_next' h).2, List.filter_append, List.eraseIdx_append_of_length_le (Nat.le_refl _), Nat.sub_self]
  simp [hx]
end Go.Proofs.Ytephciglcikllaa.Net
