/- The contract of crc's Sum. -/
import Derived.Test.YtikpedkckijioaaCrcRef
namespace Go.Proofs.Ytikpedkckijioaa.Crc
open Go.RowKit

theorem step_yes (s : Nat) (h1 : s % 2 = 1) (hs : s < 2 ^ 64) : bits .xor .u64 ((s : Int) / 2) 14514072000185962306 = (step s : Int) := by
  have h := u64_xor_nat (s / 2) poly (by omega) (by decide)
  have e1 : ((s / 2 : Nat) : Int) = (s : Int) / 2 := by omega
  have e2 : ((poly : Nat) : Int) = 14514072000185962306 := rfl
  rw [e1, e2] at h
  rw [h]
  unfold step
  rw [if_pos h1]
theorem step_no (s : Nat) (h1 : ¬ s % 2 = 1) : (s : Int) / 2 = (step s : Int) := by
  unfold step
  rw [if_neg h1]
  omega
theorem low_bit (s : Nat) (hs : s < 2 ^ 64) : bits .and .u64 (s : Int) 1 = ((s % 2 : Nat) : Int) := by
  have h := u64_and_nat s 1 (by omega) (by omega)
  have e : ((1 : Nat) : Int) = 1 := rfl
  rw [e] at h
  rw [h, Nat.and_one_is_mod]

theorem not_all (s : Nat) (hs : s < 2 ^ 64) : bits .xor .u64 IntKind.u64.max (s : Int) = ((s ^^^ ones : Nat) : Int) := by
  have h := u64_xor_nat ones s (by decide) (by omega)
  have e : ((ones : Nat) : Int) = IntKind.u64.max := by decide
  rw [e] at h
  rw [h, Nat.xor_comm]

set_option maxHeartbeats 1000000 in
theorem shift_same (x : Nat) (w : World) (HX : Hid (x < 2 ^ 64)) :
    Calls Try.prog 89 #[.int .u64 (x : Int)] w fun e w' => e = .returned (.int .u64 (steps 8 x : Int)) ∧ w = w' := by
  go_enter Try.func89, Try.ntmps89
  go_wp2_with fail
  go_loop [0, 3, 4] (fun v _ i => ∃ m : Nat, m ≤ 8 ∧ i = .int .i64 (m : Int) ∧ v = .int .u64 (steps m x : Int)) (fun _ _ i => 8 - (intOf i).toNat)
  case atStart => exact ⟨0, by omega, rfl, rfl⟩
  case round =>
    obtain ⟨m, hm, rfl, rfl⟩ := hrel
    have HT := Lib.hid (steps_lt m _ HX.out)
    have HSn := Lib.hid (steps_snoc m x)
    have HLast : Hid (m = 8 → steps m x = steps 8 x) := by rintro rfl; rfl
    generalize steps m x = y at *
    by_cases hlt3 : m < 8
    · have hl := low_bit y HT.out
      by_cases hod : y % 2 = 1
      · rw [hod] at hl
        have hst := step_yes y hod HT.out
        clear hod
        go_wp2_with fail
        exact ⟨⟨m + 1, by omega, rfl, by rw [HSn.out]⟩, by simp [intOf]; omega⟩
      · have hz : y % 2 = 0 := by omega
        rw [hz] at hl
        have HST := Lib.hid (step_no y hod)
        clear hod hz
        go_wp2_with fail
        exact ⟨⟨m + 1, by omega, rfl, by rw [HSn.out, ← HST.out]⟩, by simp [intOf]; omega⟩
    · obtain rfl : m = 8 := by omega
      go_wp2_with fail
      go_ret
      exact ⟨congrArg (fun z : Nat => Ending.returned (.int .u64 (z : Int))) (HLast.out trivial), rfl⟩

set_option maxHeartbeats 1000000 in
theorem Sum_same (A : Option Addr) (n c : Nat) (bs : List UInt8) (w : World) (h : Rd w A n bs) (hn : n ≤ 1000000) :
    Calls Try.prog 82 #[.slice A n c] w fun e w' => e = .returned (.int .u64 (sum bs : Int)) ∧ w = w' := by
  have H := Lib.hid h
  clear h
  go_enter Try.func82, Try.ntmps82
  go_wp2_with fail
  go_loop [3, 5, 8] (fun v _ i => ∃ k : Nat, k ≤ n ∧ i = .int .i64 (k : Int) ∧ v = .int .u64 (run ones (bs.take k) : Int)) (fun _ _ i => n - (intOf i).toNat)
  case atStart => exact ⟨0, by omega, rfl, rfl⟩
  case round =>
    obtain ⟨k, hk, rfl, rfl⟩ := hrel
    by_cases hlt : k < n
    · obtain ⟨ad0, rfl, hc⟩ := H.out.cells (by omega)
      have hkl : k < bs.length := by rw [H.out.len]; exact hlt
      have hcell := hc k _ (List.getElem?_eq_getElem hkl)
      unfold U at hcell
      clear hc
      have hbv := (bs[k]).toNat_lt
      have HN : Hid (run ones (bs.take (k + 1)) = steps 8 ((run ones (bs.take k)) ^^^ (bs[k]).toNat)) := by
        show _ = _
        rw [← List.take_append_getElem hkl, run_snoc]
        rfl
      have HS : Hid (run ones (bs.take k) < 2 ^ 64) := run_lt _ _ ones_lt
      generalize run ones (bs.take k) = s at *
      generalize (bs[k]) = bb at *
      have HX : Hid (s ^^^ bb.toNat < 2 ^ 64) := Nat.xor_lt_two_pow HS.out (Nat.lt_of_lt_of_le hbv (by decide))
      have hxx : bits .xor .u64 (s : Int) (bb.toNat : Int) = ((s ^^^ bb.toNat : Nat) : Int) := u64_xor_nat s bb.toNat HS.out (Nat.lt_of_lt_of_le hbv (by decide))
      go_wp2_with fail
      refine (shift_same _ _ HX).mono ?_
      rintro _ _ ⟨rfl, rfl⟩
      go_wp2_with fail
      exact ⟨⟨k + 1, by omega, rfl, by rw [HN.out]⟩, by simp [intOf]; omega⟩
    · obtain rfl : k = n := by omega
      have HL : Hid (bs.take k = bs) := List.take_of_length_le (by rw [H.out.len]; omega)
      have HS : Hid (run ones bs < 2 ^ 64) := run_lt _ _ ones_lt
      rw [HL.out]
      go_wp2_with fail
      go_ret
      exact ⟨congrArg (fun z => Ending.returned (.int .u64 z)) (not_all _ HS.out), rfl⟩

theorem Sum_any (A : Option Addr) (n c : Nat) (bs : List UInt8) (w : World) (h : Rd w A n bs) (hn : n ≤ 1000000) :
    Calls Try.prog 82 #[.slice A n c] w fun e w' => e = .returned (.int .u64 (sum bs : Int)) ∧ Below w.heap.size w w' :=
  (Sum_same A n c bs w h hn).mono fun _ _ ⟨he, hw⟩ => ⟨he, hw ▸ Below.refl _ _⟩
end Go.Proofs.Ytikpedkckijioaa.Crc
