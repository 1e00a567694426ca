/- Eight bytes turned round, by shifts and masks. -/
import Derived.Test.YtikpedkckijioaaWords
import Derived.Laws.BitsAllLaws
namespace Go.Proofs.Ytikpedkckijioaa.Log
open Go.RowKit

def m3 : Nat := 71777214294589695
def m4 : Nat := 281470681808895
def rev1 (x : Nat) : Nat := (x / 256 &&& m3) ||| (x &&& m3) * 256
def rev2 (x : Nat) : Nat := (x / 65536 &&& m4) ||| (x &&& m4) * 65536
def rev3 (x : Nat) : Nat := x / 4294967296 ||| x * 4294967296 % 18446744073709551616
def rev (x : Nat) : Nat := rev3 (rev2 (rev1 x))
theorem m3_bit : ∀ j, j < 64 → m3.testBit j = decide (j / 8 % 2 = 0) := by decide
theorem m4_bit : ∀ j, j < 64 → m4.testBit j = decide (j / 16 % 2 = 0) := by decide
theorem bit_mul (x k j : Nat) : (x * 2 ^ k).testBit j = (decide (k ≤ j) && x.testBit (j - k)) := by
  rw [← Nat.shiftLeft_eq, Nat.testBit_shiftLeft]
theorem rev1_bit (x j : Nat) (hj : j < 64) : (rev1 x).testBit j = x.testBit (if j / 8 % 2 = 0 then j + 8 else j - 8) := by
  have e : (rev1 x) = (x / 2 ^ 8 &&& m3) ||| (x &&& m3) * 2 ^ 8 := rfl
  rw [e, Nat.testBit_or, Nat.testBit_and, bit_mul, Nat.testBit_and, Nat.testBit_div_two_pow, m3_bit j hj]
  split
  · next h =>
    have h8 : (decide (8 ≤ j) && (x.testBit (j - 8) && m3.testBit (j - 8))) = false := by
      by_cases h1 : 8 ≤ j
      · rw [m3_bit (j - 8) (by omega), decide_eq_false (p := (j - 8) / 8 % 2 = 0) (by omega), Bool.and_false, Bool.and_false]
      · rw [decide_eq_false h1, Bool.false_and]
    rw [h8, decide_eq_true h, Bool.and_true, Bool.or_false]
  · next h =>
    rw [m3_bit (j - 8) (by omega), decide_eq_false h, Bool.and_false, Bool.false_or, decide_eq_true (p := 8 ≤ j) (by omega), Bool.true_and, decide_eq_true (p := (j - 8) / 8 % 2 = 0) (by omega), Bool.and_true]
theorem rev2_bit (x j : Nat) (hj : j < 64) : (rev2 x).testBit j = x.testBit (if j / 16 % 2 = 0 then j + 16 else j - 16) := by
  have e : (rev2 x) = (x / 2 ^ 16 &&& m4) ||| (x &&& m4) * 2 ^ 16 := rfl
  rw [e, Nat.testBit_or, Nat.testBit_and, bit_mul, Nat.testBit_and, Nat.testBit_div_two_pow, m4_bit j hj]
  split
  · next h =>
    have h8 : (decide (16 ≤ j) && (x.testBit (j - 16) && m4.testBit (j - 16))) = false := by
      by_cases h1 : 16 ≤ j
      · rw [m4_bit (j - 16) (by omega), decide_eq_false (p := (j - 16) / 16 % 2 = 0) (by omega), Bool.and_false, Bool.and_false]
      · rw [decide_eq_false h1, Bool.false_and]
    rw [h8, decide_eq_true h, Bool.and_true, Bool.or_false]
  · next h =>
    rw [m4_bit (j - 16) (by omega), decide_eq_false h, Bool.and_false, Bool.false_or, decide_eq_true (p := 16 ≤ j) (by omega), Bool.true_and, decide_eq_true (p := (j - 16) / 16 % 2 = 0) (by omega), Bool.and_true]
theorem rev3_bit (x j : Nat) (hx : x < 18446744073709551616) (hj : j < 64) : (rev3 x).testBit j = x.testBit (if j < 32 then j + 32 else j - 32) := by
  have e : (rev3 x) = x / 2 ^ 32 ||| x * 2 ^ 32 % 2 ^ 64 := rfl
  rw [e, Nat.testBit_or, Nat.testBit_mod_two_pow, bit_mul, Nat.testBit_div_two_pow, decide_eq_true hj, Bool.true_and]
  split
  · next h => rw [decide_eq_false (p := 32 ≤ j) (by omega), Bool.false_and, Bool.or_false]
  · next h =>
    rw [decide_eq_true (p := 32 ≤ j) (by omega), Bool.true_and, Nat.testBit_lt_two_pow (x := x) (i := j + 32), Bool.false_or]
    exact Nat.lt_of_lt_of_le hx (show 2 ^ 64 ≤ 2 ^ (j + 32) from Nat.pow_le_pow_right (by decide) (by omega))
theorem rev1_lt {x : Nat} (hx : x < 18446744073709551616) : rev1 x < 18446744073709551616 := by
  have h1 : x / 256 &&& m3 < 2 ^ 64 := Nat.lt_of_le_of_lt Nat.and_le_left (by omega)
  have h2 : (x &&& m3) * 256 < 2 ^ 64 := by
    have : x &&& m3 ≤ m3 := Nat.and_le_right
    unfold m3 at this ⊢
    omega
  exact Nat.or_lt_two_pow h1 h2
theorem rev2_lt {x : Nat} (hx : x < 18446744073709551616) : rev2 x < 18446744073709551616 := by
  have h1 : x / 65536 &&& m4 < 2 ^ 64 := Nat.lt_of_le_of_lt Nat.and_le_left (by omega)
  have h2 : (x &&& m4) * 65536 < 2 ^ 64 := by
    have : x &&& m4 ≤ m4 := Nat.and_le_right
    unfold m4 at this ⊢
    omega
  exact Nat.or_lt_two_pow h1 h2
theorem rev3_lt {x : Nat} (hx : x < 18446744073709551616) : rev3 x < 18446744073709551616 :=
  Nat.or_lt_two_pow (n := 64) (by omega) (Nat.mod_lt _ (by decide))
theorem rev_lt {x : Nat} (hx : x < 18446744073709551616) : rev x < 18446744073709551616 := rev3_lt (rev2_lt (rev1_lt hx))
theorem rev_bit (x j : Nat) (hx : x < 18446744073709551616) (hj : j < 64) : (rev x).testBit j = x.testBit (56 - 8 * (j / 8) + j % 8) := by
  unfold rev
  rw [rev3_bit _ j (rev2_lt (rev1_lt hx)) hj, rev2_bit _ _ (by split <;> omega), rev1_bit _ _ (by split <;> split <;> omega)]
  congr 1
  split <;> split <;> split <;> omega
theorem rev_byte (x i : Nat) (hx : x < 18446744073709551616) (hi : i < 8) : rev x / 256 ^ i % 256 = x / 256 ^ (7 - i) % 256 := by
  have p : ∀ k, 256 ^ k = 2 ^ (8 * k) := fun k => by rw [Nat.pow_mul]
  refine Nat.eq_of_testBit_eq fun k => ?_
  rw [p, p, show (256 : Nat) = 2 ^ 8 from rfl, Nat.testBit_mod_two_pow, Nat.testBit_mod_two_pow, Nat.testBit_div_two_pow, Nat.testBit_div_two_pow]
  by_cases hk : k < 8
  · rw [rev_bit x _ hx (by omega)]
    congr 2
    omega
  · rw [decide_eq_false hk, Bool.false_and, Bool.false_and]
theorem be_rev {x : Nat} (hx : x < 18446744073709551616) : be 8 (rev x) = (be 8 x).reverse := by
  have h : ∀ i, i < 8 → UInt8.ofNat (rev x / 256 ^ i) = UInt8.ofNat (x / 256 ^ (7 - i)) := fun i hi => by
    apply UInt8.toNat_inj.1
    rw [UInt8.toNat_ofNat', UInt8.toNat_ofNat']
    exact rev_byte x i hx hi
  simp only [be]
  rw [h 7 (by decide), h 6 (by decide), h 5 (by decide), h 4 (by decide), h 3 (by decide), h 2 (by decide), h 1 (by decide), h 0 (by decide)]
  rfl
end Go.Proofs.Ytikpedkckijioaa.Log
