/- ballot's functions on numbers, whatever numbers; the document's own Next. -/
import Derived.Test.YtcnmfbbliaemhaaBalCode
namespace Go.Proofs.Ytcnmfbbliaemhaa.Bal
open Go.RowKit

def nextI (a i n : Int) : Int := if 0 ≤ i ∧ i < n ∧ a ≤ 281474976710656 then (next a.toNat i.toNat n.toNat : Nat) else 0
theorem next_any (a i n : Int) (w : World) (h1 : 0 ≤ a) (h2 : n < 9223372036854775808) :
    Calls Try.prog 9 #[.int .u64 a, .int .i64 i, .int .i64 n] w fun e w' => e = .returned (.int .u64 (nextI a i n)) ∧ w = w' := by
  obtain ⟨x, rfl⟩ : ∃ x : Nat, a = (x : Int) := ⟨a.toNat, by omega⟩
  unfold nextI
  by_cases h : 0 ≤ i ∧ i < n ∧ (x : Int) ≤ 281474976710656
  · rw [if_pos h]
    obtain ⟨y, rfl⟩ : ∃ y : Nat, i = (y : Int) := ⟨i.toNat, by omega⟩
    obtain ⟨z, rfl⟩ : ∃ z : Nat, n = (z : Int) := ⟨n.toNat, by omega⟩
    exact next_yes x y z w (by omega) (by omega) (by omega)
  · rw [if_neg h]
    exact next_no x i n w (by omega)
def ownI (e n : Int) : Int := if 0 < n then ((e.toNat % n.toNat : Nat) : Int) else -1
theorem owner_any (e n : Int) (w : World) (h1 : 0 ≤ e) (h2 : n < 9223372036854775808) :
    Calls Try.prog 11 #[.int .u64 e, .int .i64 n] w fun r w' => r = .returned (.int .i64 (ownI e n)) ∧ w = w' := by
  obtain ⟨x, rfl⟩ : ∃ x : Nat, e = (x : Int) := ⟨e.toNat, by omega⟩
  unfold ownI
  by_cases h : 0 < n
  · rw [if_pos h]
    obtain ⟨z, rfl⟩ : ∃ z : Nat, n = (z : Int) := ⟨n.toNat, by omega⟩
    exact owner_yes x z w (by omega) (by omega)
  · rw [if_neg h]
    exact owner_no x n w (by omega)
def quoI (n : Int) : Int := if 0 < n then ((quorum n.toNat : Nat) : Int) else 0
theorem quorum_any (n : Int) (w : World) (h2 : n < 9223372036854775808) :
    Calls Try.prog 12 #[.int .i64 n] w fun r w' => r = .returned (.int .i64 (quoI n)) ∧ w = w' := by
  unfold quoI
  by_cases h : 0 < n
  · rw [if_pos h]
    obtain ⟨z, rfl⟩ : ∃ z : Nat, n = (z : Int) := ⟨n.toNat, by omega⟩
    exact quorum_yes z w (by omega) (by omega)
  · rw [if_neg h]
    exact quorum_no n w (by omega)
/-- The document's own Next. -/
theorem ref_no (a : Nat) (i n : Int) (w : World) (h : i < 0 ∨ n ≤ i ∨ 281474976710656 < a) :
    Calls Try.prog 10 #[.int .u64 (a : Int), .int .i64 i, .int .i64 n] w fun e w' => e = .returned (.int .u64 0) ∧ w = w' := by
  by_cases h0 : n < 1
  · clear h
    go_enter Try.func10, Try.ntmps10
    go_wp2_with fail
    go_ret
    exact ⟨rfl, rfl⟩
  by_cases h1 : i < 0
  · clear h
    go_enter Try.func10, Try.ntmps10
    go_wp2_with fail
    go_ret
    exact ⟨rfl, rfl⟩
  · by_cases h2 : n ≤ i
    · clear h
      go_enter Try.func10, Try.ntmps10
      go_wp2_with fail
      go_ret
      exact ⟨rfl, rfl⟩
    · have h3 : (281474976710656 : Int) < (a : Int) := by omega
      clear h
      go_enter Try.func10, Try.ntmps10
      go_wp2_with fail
      go_ret
      exact ⟨rfl, rfl⟩
def RelN (a x : Nat) (v : Value) : Prop := ∃ e : Nat, a < e ∧ e ≤ x ∧ v = .int .u64 (e : Int)
def natOf : Value → Nat
  | .int _ n => n.toNat
  | _ => 0
set_option maxHeartbeats 1000000 in
theorem ref_yes (a i n : Nat) (w : World) (hi : i < n) (hn : n < 9223372036854775808) (ha : a ≤ 281474976710656) :
    Calls Try.prog 10 #[.int .u64 (a : Int), .int .i64 (i : Int), .int .i64 (n : Int)] w fun e w' => e = .returned (.int .u64 (next a i n : Int)) ∧ w = w' := by
  have hr := next_range (a := a) hi
  have HO := Lib.hid (next_own (a := a) hi)
  have HL := Lib.hid (fun x => next_least (a := a) (x := x) hi)
  generalize next a i n = x at *
  have hx1 := hr.1
  have hx2 := hr.2
  clear hr
  go_enter Try.func10, Try.ntmps10
  go_wp2_with fail
  go_loop [7] (fun v => RelN a x v) (fun v => x - natOf v)
  case atStart => exact ⟨a + 1, by omega, by omega, by go_num⟩
  case round =>
    obtain ⟨e, he1, he2, rfl⟩ := hrel
    have hr1 := Nat.mod_lt e (show 0 < n by omega)
    have hm : (e : Int) % (n : Int) = ((e % n : Nat) : Int) := (Int.natCast_emod e n).symm
    by_cases hq : e % n = i
    · have hex : e = x := by have := HL.out e he1 hq; omega
      subst hex
      rw [hq] at hm
      clear hq hr1
      go_wp2_with fail
      go_ret
      exact ⟨rfl, rfl⟩
    · have hex : e ≠ x := fun h => hq (by rw [h]; exact HO.out)
      have hlt : e < x := by omega
      generalize e % n = r at *
      have hne : ((r : Int) != (i : Int)) = true := by simp; omega
      clear hex hq
      go_wp2_with fail
      exact ⟨⟨e + 1, by omega, by omega, by go_num⟩, by simp [natOf]; omega⟩
theorem ref_any (a i n : Int) (w : World) (h1 : 0 ≤ a) (h2 : n < 9223372036854775808) :
    Calls Try.prog 10 #[.int .u64 a, .int .i64 i, .int .i64 n] w fun e w' => e = .returned (.int .u64 (nextI a i n)) ∧ w = w' := by
  obtain ⟨x, rfl⟩ : ∃ x : Nat, a = (x : Int) := ⟨a.toNat, by omega⟩
  unfold nextI
  by_cases h : 0 ≤ i ∧ i < n ∧ (x : Int) ≤ 281474976710656
  · rw [if_pos h]
    obtain ⟨y, rfl⟩ : ∃ y : Nat, i = (y : Int) := ⟨i.toNat, by omega⟩
    obtain ⟨z, rfl⟩ : ∃ z : Nat, n = (z : Int) := ⟨n.toNat, by omega⟩
    exact ref_yes x y z w (by omega) (by omega) (by omega)
  · rw [if_neg h]
    exact ref_no x i n w (by omega)
end Go.Proofs.Ytcnmfbbliaemhaa.Bal
