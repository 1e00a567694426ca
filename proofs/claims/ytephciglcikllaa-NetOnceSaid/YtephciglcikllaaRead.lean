/- The contracts of wire's reader. -/
import Derived.Test.YtephciglcikllaaPut
namespace Go.Proofs.Ytephciglcikllaa
open Go.RowKit

/-- The number that bytes are, the highest first. -/
def val (bs : List UInt8) : Nat := bs.foldl (fun v b => v * 256 + b.toNat) 0

theorem val_snoc (bs : List UInt8) (b : UInt8) : val (bs ++ [b]) = val bs * 256 + b.toNat := by simp [val]
theorem val_lt (bs : List UInt8) : val bs < 256 ^ bs.length := by
  suffices h : ∀ r : List UInt8, val r.reverse < 256 ^ r.length by
    have := h bs.reverse
    simpa using this
  intro r
  induction r with
  | nil => simp [val]
  | cons b r ih =>
    rw [List.reverse_cons, val_snoc, List.length_cons, Nat.pow_succ]
    have := b.toNat_lt
    omega

theorem or_byte (v b : Nat) (hv : v * 256 < 18446744073709551616) (hb : b < 256) : bits .or .u64 (IntKind.u64.wrap ((v : Int) * 256)) (b : Int) = ((v * 256 + b : Nat) : Int) := by
  have h1 : IntKind.u64.wrap ((v : Int) * 256) = ((v * 256 : Nat) : Int) := by rw [IntKind.wrap_u64]; omega
  rw [h1, u64_or_nat _ _ hv (by omega)]
  have := Nat.two_pow_add_eq_or_of_lt (i := 8) (show b < 2 ^ 8 from hb) v
  rw [Nat.mul_comm v 256]
  exact congrArg _ this.symm

theorem pow_le_7 {k : Nat} (h : k ≤ 7) : 256 ^ k ≤ 72057594037927936 := Nat.le_trans (Nat.pow_le_pow_right (by omega) h) (by decide)
theorem val_lt8 (bs : List UInt8) (h : bs.length ≤ 8) : val bs < 18446744073709551616 := Nat.lt_of_lt_of_le (val_lt bs) (Nat.le_trans (Nat.pow_le_pow_right (by omega) h) (by decide))

/-- A reader's state: the bytes that are left, and whether it is bad. -/
def takeS (k : Nat) (s : List UInt8 × Bool) : List UInt8 × (List UInt8 × Bool) :=
  if s.2 = true ∨ s.1.length < k then ([], (s.1, true)) else (s.1.take k, (s.1.drop k, false))

theorem rdr_nobyte (A : Option Addr) (n c : Nat) (b : Bool) : ∀ (i : Nat) (x : UInt8), (#[Value.slice A n c, Value.bool b] : Array Value)[i]? ≠ some (U x) := by
  intro i x h
  match i with
  | 0 => simp [U] at h
  | 1 => simp [U] at h
  | i + 2 => simp at h

theorem grown_set (w : World) (r i : Nat) (u : Value) : w.grownBy (w.setCell ⟨r, i, none⟩ u) (some r) :=
  ⟨rfl, rfl, rfl, by simp [World.setCell], fun k _ hk => Below.heap_setCell w _ u k (fun e => hk (by rw [e]))⟩
theorem grown_refl (w : World) (row : Option Nat) : w.grownBy w row := ⟨rfl, rfl, rfl, Nat.le_refl _, fun _ _ _ => rfl⟩

end Go.Proofs.Ytephciglcikllaa
