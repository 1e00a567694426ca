/- Which message may be, as the program seeks what may not. -/
import Derived.Test.YtobdkgmlkchggaaZmKinds
import Derived.Deep.RegionHeld3
namespace Go.Proofs.Ytobdkgmlkchggaa.Zm
open Go.RowKit Sto

/-- What is out of bounds. -/
def outB (v a b : Nat) : Bool := decide (v < a) || decide (b < v)
set_option maxHeartbeats 1000000 in
theorem seek_any (v a b g : Nat) (f : Bool) (w : World) (h : Bk w g 4 #[.bool f]) :
    Calls Try.prog 38 #[.int .u64 (v : Int), .int .u64 (a : Int), .int .u64 (b : Int), .pointer (some ⟨g, 0, none⟩)] w fun e w' => e = .returned (.tuple #[]) ∧ w' = w.setCell ⟨g, 0, none⟩ (.bool (f || outB v a b)) := by
  have c0 := h.cell 0
  have f0 := h.frozen 0
  clear h
  simp at c0
  unfold outB
  cases f with
  | true =>
    simp only [Bool.true_or]
    go_enter Try.func38, Try.ntmps38
    go_wp2_with fail
    go_end0
    exact ⟨rfl, rfl⟩
  | false =>
    by_cases h1 : v < a
    · have e1 : decide (v < a) = true := by simp [h1]
      rw [e1]
      simp only [Bool.true_or, Bool.false_or]
      have hI : (v : Int) < (a : Int) := by omega
      clear h1 e1
      go_enter Try.func38, Try.ntmps38
      go_wp2_with fail
      go_end0
      exact ⟨rfl, rfl⟩
    · have e1 : decide (v < a) = false := by simp [h1]
      rw [e1]
      have hI : ¬ (v : Int) < (a : Int) := by omega
      clear h1 e1
      by_cases h2 : b < v
      · have e2 : decide (b < v) = true := by simp [h2]
        rw [e2]
        simp only [Bool.or_true]
        have hJ : (b : Int) < (v : Int) := by omega
        clear h2 e2
        go_enter Try.func38, Try.ntmps38
        go_wp2_with fail
        go_end0
        exact ⟨rfl, rfl⟩
      · have e2 : decide (b < v) = false := by simp [h2]
        rw [e2]
        simp only [Bool.or_false]
        have hJ : ¬ (b : Int) < (v : Int) := by omega
        clear h2 e2
        go_enter Try.func38, Try.ntmps38
        go_wp2_with fail
        go_end0
        exact ⟨rfl, rfl⟩
/-- What is found out of bounds in a message's own parts; in a line. -/
def foundM (m : Mg) : Bool := ((((!isK m.kind || outB m.epoch 1 top) || outB m.current 0 (min m.epoch (hasK m.kind).1)) || outB (u64 m.at_) 0 (hasK m.kind).2.1) || outB (u64 m.commit) 0 (hasK m.kind).2.2.1) || outB m.lines.length 0 (hasK m.kind).2.2.2
def foundL (x : Ln) : Bool := outB x.epoch 1 top || outB x.bytes.length 1 4096
theorem foundL_iff (x : Ln) : foundL x = !lineB x := by
  unfold foundL outB lineB
  rw [Bool.eq_iff_iff]
  simp only [Bool.or_eq_true, decide_eq_true_eq, Bool.not_eq_true', Bool.and_eq_false_imp, Bool.and_eq_true, decide_eq_false_iff_not]
  omega
theorem foundM_iff {m : Mg} (h : m.Ok) : (foundM m || m.lines.any foundL) = !decide m.may := by
  have h1 : (m.lines.any foundL = true) ↔ ¬ ∀ x ∈ m.lines, lineB x = true := by
    rw [List.any_eq_true]
    simp only [foundL_iff, Bool.not_eq_true', Classical.not_forall, Bool.not_eq_true]
    exact ⟨fun ⟨x, a, b⟩ => ⟨x, a, b⟩, fun ⟨x, a, b⟩ => ⟨x, a, b⟩⟩
  have ha := u64_lt m.at_
  have hc := u64_lt m.commit
  have ea : (u64 m.at_ : Int) = if m.at_ < 0 then m.at_ + 18446744073709551616 else m.at_ := by
    have := h.at0
    have := h.at1
    unfold u64
    split <;> omega
  have ec : (u64 m.commit : Int) = if m.commit < 0 then m.commit + 18446744073709551616 else m.commit := by
    have := h.commit0
    have := h.commit1
    unfold u64
    split <;> omega
  have a0 := h.at0
  have a1 := h.at1
  have c0 := h.commit0
  have c1 := h.commit1
  rw [Bool.eq_iff_iff, Bool.or_eq_true, h1, Bool.not_eq_true', decide_eq_false_iff_not]
  by_cases hl : ∀ x ∈ m.lines, lineB x = true
  · have hl' : (¬ ∀ x ∈ m.lines, lineB x = true) ↔ False := ⟨fun q => q hl, False.elim⟩
    have hl2 : (∀ x ∈ m.lines, lineB x = true) ↔ True := ⟨fun _ => trivial, fun _ => hl⟩
    rw [hl', or_false]
    generalize hu : u64 m.at_ = ua at *
    generalize hv : u64 m.commit = uc at *
    have e : m.may ↔ (1 ≤ m.kind ∧ m.kind ≤ 6 ∧ 1 ≤ m.epoch ∧ m.epoch ≤ top ∧ m.current ≤ m.epoch ∧ 0 ≤ m.at_ ∧ m.at_ ≤ 256 ∧ 0 ≤ m.commit ∧ m.commit ≤ 256 ∧ m.lines.length ≤ 256 ∧ (m.kind = 2 ∨ m.current = 0) ∧ (m.kind = 5 ∨ m.commit = 0) ∧ (m.kind = 5 ∨ m.kind = 6 ∨ m.at_ = 0) ∧ (m.kind = 2 ∨ m.kind = 4 ∨ m.kind = 5 ∨ m.lines.length = 0)) := by
      unfold Mg.may
      rw [hl2]
      simp only [true_and]
    rw [e]
    unfold foundM outB isK hasK
    rw [hu, hv]
    generalize m.lines.length = nl at *
    generalize m.kind = k at *
    generalize m.epoch = ep at *
    generalize m.current = cu at *
    generalize m.at_ = at_ at *
    generalize m.commit = co at *
    clear hu hv e hl hl' hl2 h1 h
    unfold top
    by_cases k2 : k = 2
    · subst k2; simp; split at ea <;> split at ec <;> omega
    · by_cases k4 : k = 4
      · subst k4; simp; split at ea <;> split at ec <;> omega
      · by_cases k5 : k = 5
        · subst k5; simp; split at ea <;> split at ec <;> omega
        · by_cases k6 : k = 6
          · subst k6; simp; split at ea <;> split at ec <;> omega
          · simp [k2, k4, k5, k6]; split at ea <;> split at ec <;> omega
  · exact ⟨fun _ hm => hl hm.2.2.2.2.2.2.2.2.2.2.1, fun _ => .inr hl⟩
end Go.Proofs.Ytobdkgmlkchggaa.Zm
