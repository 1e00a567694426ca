/- Numbers and bytes: what is put is read; what is read was put so. -/
import Derived.Test.YtobdkgmlkchggaaRead3
namespace Go.Proofs.Ytobdkgmlkchggaa
open Go.RowKit

theorem val_cons (b : UInt8) (bs : List UInt8) : val (b :: bs) = b.toNat * 256 ^ bs.length + val bs := by
  suffices h : ∀ (bs : List UInt8) (a : Nat), bs.foldl (fun v b => v * 256 + b.toNat) a = a * 256 ^ bs.length + val bs by
    have := h bs (0 * 256 + b.toNat)
    simpa [val] using this
  intro bs
  induction bs with
  | nil => intro a; simp [val]
  | cons c cs ih =>
    intro a
    have h1 := ih (a * 256 + c.toNat)
    have h2 := ih (0 * 256 + c.toNat)
    simp only [val, List.foldl_cons, List.length_cons] at *
    rw [h1, h2, Nat.pow_succ, Nat.add_mul, Nat.zero_mul, Nat.zero_add, Nat.mul_assoc, Nat.mul_comm 256]
    omega

theorem val_be (k x : Nat) : val (be k x) = x % 256 ^ k := by
  induction k with
  | zero => simp [be, val, Nat.mod_one]
  | succ k ih =>
    have h := @Nat.mod_mul (256 ^ k) 256 x
    rw [be, val_cons, be_length, ih, Nat.pow_succ, h]
    simp
    rw [Nat.mul_comm]
    omega

theorem takeS_app (xs rest : List UInt8) {k : Nat} (h : xs.length = k) : takeS k (xs ++ rest, false) = (xs, (rest, false)) := by
  unfold takeS
  rw [if_neg (by simp; omega)]
  subst h
  simp

theorem takeS_short (xs : List UInt8) {k : Nat} (h : xs.length < k) : takeS k (xs, false) = ([], (xs, true)) := by
  unfold takeS
  rw [if_pos (.inr h)]

theorem takeS_isbad (k : Nat) (xs : List UInt8) : takeS k (xs, true) = ([], (xs, true)) := by simp [takeS]

theorem be_mod : ∀ (k x : Nat), be k x = be k (x % 256 ^ k) := by
  intro k
  induction k with
  | zero => intro x; rfl
  | succ k ih =>
    intro x
    have h1 : x % 256 ^ (k + 1) % 256 ^ k = x % 256 ^ k := by
      rw [Nat.pow_succ]
      exact Nat.mod_mul_right_mod _ _ _
    have h2 : x % 256 ^ (k + 1) / 256 ^ k = x / 256 ^ k % 256 := by
      rw [Nat.pow_succ, Nat.mod_mul_right_div_self]
    rw [be, be, ih x, ih (x % 256 ^ (k + 1)), h1, h2]
    congr 1
    apply UInt8.toNat_inj.1
    simp
theorem be_val : ∀ (x : List UInt8) (k : Nat), x.length = k → be k (val x) = x := by
  intro x
  induction x with
  | nil => intro k h; subst h; rfl
  | cons b bs ih =>
    intro k h
    subst h
    have hv := val_lt bs
    have h1 := ih bs.length rfl
    rw [List.length_cons, be, val_cons]
    have e1 : (b.toNat * 256 ^ bs.length + val bs) / 256 ^ bs.length = b.toNat := by
      rw [Nat.mul_comm, Nat.mul_add_div (Nat.pow_pos (by omega)), Nat.div_eq_of_lt hv, Nat.add_zero]
    have e2 : be bs.length (b.toNat * 256 ^ bs.length + val bs) = bs := by
      rw [be_mod, Nat.add_comm, Nat.add_mul_mod_self_right, Nat.mod_eq_of_lt hv, h1]
    rw [e1, e2]
    simp
theorem takeS_inv {k : Nat} {s : List UInt8 × Bool} (h : (takeS k s).2.2 = false) : s.2 = false ∧ s.1 = (takeS k s).1 ++ (takeS k s).2.1 ∧ (takeS k s).1.length = k := by
  unfold takeS at h ⊢
  split at h
  · simp at h
  · next hn =>
    rw [if_neg hn]
    simp only [not_or, Nat.not_lt] at hn
    refine ⟨by simpa using hn.1, by simp, ?_⟩
    simp
    omega
theorem textS_inv {s : List UInt8 × Bool} (h : (textS s).2.2 = false) : s.2 = false ∧ s.1 = be 4 (textS s).1.length ++ (textS s).1 ++ (textS s).2.1 ∧ (textS s).1.length < 4294967296 := by
  obtain ⟨h1, h2, h3⟩ := takeS_inv h
  obtain ⟨h4, h5, h6⟩ := takeS_inv h1
  have e : be 4 (textS s).1.length = (takeS 4 s).1 := by
    show be 4 (takeS _ _).1.length = _
    rw [h3]
    exact be_val _ 4 h6
  refine ⟨h4, ?_, ?_⟩
  · rw [e, h5, List.append_assoc]
    congr 1
  · show (takeS _ _).1.length < _
    rw [h3]
    have := val_lt (takeS 4 s).1
    rw [h6] at this
    exact this
theorem countS_inv {m : Int} {s : List UInt8 × Bool} (h : (countS m s).2.2 = false) : s.2 = false ∧ s.1 = be 8 (countS m s).1 ++ (countS m s).2.1 ∧ ((countS m s).1 : Int) ≤ m := by
  unfold countS at h ⊢
  split at h
  · simp at h
  · next hn =>
    rw [if_neg hn]
    obtain ⟨h1, h2, h3⟩ := takeS_inv h
    refine ⟨h1, ?_, by simp at hn ⊢; omega⟩
    simp only
    rw [be_val _ 8 h3]
    exact h2
theorem countS_app (m : Int) (n : Nat) (rest : List UInt8) (hn : n < 18446744073709551616) (hm : (n : Int) ≤ m) : countS m (be 8 n ++ rest, false) = (n, (rest, false)) := by
  unfold countS
  rw [takeS_app _ _ (be_length 8 n)]
  simp only
  rw [val_be, Nat.mod_eq_of_lt (by omega), if_neg (by omega)]
theorem textS_app' (s rest : List UInt8) (h : s.length < 4294967296) : textS (be 4 s.length ++ s ++ rest, false) = (s, (rest, false)) := by
  unfold textS
  rw [List.append_assoc, takeS_app _ _ (be_length 4 s.length)]
  simp only
  rw [val_be, Nat.mod_eq_of_lt (by omega)]
  exact takeS_app _ _ rfl
theorem takeS_be (k x : Nat) (rest : List UInt8) (h : x < 256 ^ k) : takeS k (be k x ++ rest, false) = (be k x, (rest, false)) ∧ val (be k x) = x := by
  refine ⟨takeS_app _ _ (be_length k x), ?_⟩
  rw [val_be, Nat.mod_eq_of_lt h]
end Go.Proofs.Ytobdkgmlkchggaa
