/- Put, and the document's own Put, whatever the message. -/
import Derived.Test.YtobdkgmlkchggaaZmTells
import Derived.Test.YtobdkgmlkchggaaZmRefPut
namespace Go.Proofs.Ytobdkgmlkchggaa.Zm
open Go.RowKit Disk Log Sto

def putB (m : Mg) : List UInt8 := if m.may then m.enc else []
def putE (m : Mg) : Int := if m.may then 0 else 1
theorem putB_few {m : Mg} (h : Few m) : (putB m).length ≤ 9641 := by
  unfold putB
  split
  · exact h.enc
  · exact Nat.zero_le _
/-- What Put answers. -/
def PutPost (w : World) (m : Mg) (e : Ending) (w' : World) : Prop :=
  ∃ A n c, e = .returned (.tuple #[.slice A n c, .int .i64 (putE m)]) ∧ n = (putB m).length ∧ n ≤ c ∧ w'.ownsRow w.heap.size 5 1 (.slice A n c) n ((putB m).map U) ∧ Below w.heap.size w w'
theorem PutPost.yes {w : World} {m : Mg} (hm : m.may) {e : Ending} {w' : World} (h : PutYes w m.enc e w') : PutPost w m e w' := by
  obtain ⟨A, n, c, rfl, h1, h2, h3, h4⟩ := h
  have e1 : putB m = m.enc := if_pos hm
  have e2 : putE m = 0 := if_pos hm
  exact ⟨A, n, c, by rw [e2], by rw [e1]; exact h1, h2, by rw [e1]; exact h3, h4⟩
theorem PutPost.no {w : World} {m : Mg} (hm : ¬ m.may) {e : Ending} {w' : World} (h : PutNo w e w') : PutPost w m e w' := by
  obtain ⟨rfl, h4⟩ := h
  have e1 : putB m = [] := if_neg hm
  have e2 : putE m = 1 := if_neg hm
  exact ⟨none, 0, 0, by rw [e2], by rw [e1]; rfl, Nat.le_refl _, by rw [e1]; exact ⟨rfl, .inl ⟨rfl, rfl⟩⟩, h4⟩
theorem put_any {P : Nat → Prop} (A : Option Addr) (n c : Nat) (m : Mg) (w : World) (hok : m.Ok) (h : LnS P w A n m.lines) :
    Calls Try.prog 10 #[.agg (mgC m A n c)] w (PutPost w m) := by
  by_cases hm : m.may
  · exact (put_yes A n c m w hok h hm).mono fun e w' => PutPost.yes hm
  · exact (put_no A n c m w hok h hm).mono fun e w' => PutPost.no hm
theorem rput_any {P : Nat → Prop} (A : Option Addr) (n c : Nat) (m : Mg) (w : World) (hok : m.Ok) (h : LnS P w A n m.lines) :
    Calls Try.prog 11 #[.agg (mgC m A n c)] w (PutPost w m) := by
  by_cases hm : m.may
  · exact (rput_yes A n c m w hok h hm).mono fun e w' => PutPost.yes hm
  · exact (rput_no A n c m w hok h hm).mono fun e w' => PutPost.no hm
end Go.Proofs.Ytobdkgmlkchggaa.Zm
