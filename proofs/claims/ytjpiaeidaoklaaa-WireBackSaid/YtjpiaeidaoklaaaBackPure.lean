/- WireBack's mathematics: what is put is read; one byte less is bad; one more is left. -/
import Derived.Test.YtjpiaeidaoklaaaParts
namespace Go.Proofs.Ytjpiaeidaoklaaa
open Go.RowKit

theorem val_cons (b : UInt8) (bs : List UInt8) : val (b :: bs) = b.toNat * 256 ^ bs.length + val bs := by
  suffices h : ∀ (bs : List UInt8) (a : Nat), bs.foldl (fun v b => v * 256 + b.toNat) a = a * 256 ^ bs.length + val bs by
    have := h bs (0 * 256 + b.toNat)
    simpa [val] using this
  intro bs
  induction bs with
  | nil => intro a; simp [val]
  | cons c cs ih =>
    intro a
    have h1 := ih (a * 256 + c.toNat)
    have h2 := ih (0 * 256 + c.toNat)
    simp only [val, List.foldl_cons, List.length_cons] at *
    rw [h1, h2, Nat.pow_succ, Nat.add_mul, Nat.zero_mul, Nat.zero_add, Nat.mul_assoc, Nat.mul_comm 256]
    omega

theorem val_be (k x : Nat) : val (be k x) = x % 256 ^ k := by
  induction k with
  | zero => simp [be, val, Nat.mod_one]
  | succ k ih =>
    have h := @Nat.mod_mul (256 ^ k) 256 x
    rw [be, val_cons, be_length, ih, Nat.pow_succ, h]
    simp
    rw [Nat.mul_comm]
    omega

theorem takeS_app (xs rest : List UInt8) {k : Nat} (h : xs.length = k) : takeS k (xs ++ rest, false) = (xs, (rest, false)) := by
  unfold takeS
  rw [if_neg (by simp; omega)]
  subst h
  simp

theorem takeS_short (xs : List UInt8) {k : Nat} (h : xs.length < k) : takeS k (xs, false) = ([], (xs, true)) := by
  unfold takeS
  rw [if_pos (.inr h)]

theorem takeS_isbad (k : Nat) (xs : List UInt8) : takeS k (xs, true) = ([], (xs, true)) := by simp [takeS]

/-- A part that may be put. -/
def Prt.ok (p : Prt) : Prop := p.v < 18446744073709551616 ∧ p.s.length ≤ 200

theorem textS_app (s rest : List UInt8) (h : s.length ≤ 200) : textS (be 4 s.length ++ s ++ rest, false) = (s, (rest, false)) := by
  unfold textS
  rw [List.append_assoc, takeS_app _ _ (be_length 4 s.length)]
  simp only
  rw [val_be, Nat.mod_eq_of_lt (by omega)]
  exact takeS_app _ _ rfl

theorem got_enc (p : Prt) (rest : List UInt8) (h : p.ok) : p.got (p.enc ++ rest, false) = (true, (rest, false)) := by
  unfold Prt.got Prt.enc
  obtain ⟨h1, h2⟩ := h
  split
  · rw [takeS_app _ _ (be_length 1 _)]
    simp [val_be]
  · split
    · rw [takeS_app _ _ (be_length 8 _)]
      simp [val_be, Nat.mod_eq_of_lt h1]
    · split
      · rw [takeS_app _ _ (be_length 8 _)]
        simp [val_be, Nat.mod_eq_of_lt h1]
      · rw [textS_app _ _ h2]
        simp

theorem enc_pos (p : Prt) : 0 < p.enc.length := by
  unfold Prt.enc
  split
  · simp [be_length]
  · split
    · simp [be_length]
    · split
      · simp [be_length]
      · simp [be_length]; omega
theorem enc_le (p : Prt) (h : p.s.length ≤ 200) : p.enc.length ≤ 204 := by
  unfold Prt.enc
  split
  · simp [be_length]
  · split
    · simp [be_length]
    · split
      · simp [be_length]
      · simp [be_length]; omega

theorem got_cut (p : Prt) (h : p.ok) : (p.got (p.enc.dropLast, false)).2.2 = true := by
  unfold Prt.got Prt.enc
  obtain ⟨h1, h2⟩ := h
  split
  · rw [takeS_short _ (by simp [be_length])]
  · split
    · rw [takeS_short _ (by simp [be_length])]
    · split
      · rw [takeS_short _ (by simp [be_length])]
      · simp only
        unfold textS
        by_cases hs : p.s = []
        · rw [hs, List.append_nil, takeS_short _ (by simp [be_length])]
          simp [takeS]
        · have hp : 0 < p.s.length := List.length_pos_iff.2 hs
          rw [List.dropLast_append_of_ne_nil hs, takeS_app _ _ (be_length 4 _)]
          simp only
          rw [val_be, Nat.mod_eq_of_lt (by omega), takeS_short _ (by simp; omega)]

def encAll (l : List Prt) : List UInt8 := l.flatMap Prt.enc
def after (l : List Prt) (s : List UInt8 × Bool) : List UInt8 × Bool := l.foldl (fun s p => (p.got s).2) s

theorem encAll_cons (p : Prt) (l : List Prt) : encAll (p :: l) = p.enc ++ encAll l := by simp [encAll]
theorem encAll_snoc (p : Prt) (l : List Prt) : encAll (l ++ [p]) = encAll l ++ p.enc := by simp [encAll]
theorem encAll_le (l : List Prt) (h : ∀ p ∈ l, p.s.length ≤ 200) : (encAll l).length ≤ l.length * 204 := by
  induction l with
  | nil => simp [encAll]
  | cons p l ih =>
    have h1 := enc_le p (h p (by simp))
    have h2 := ih (fun q hq => h q (by simp [hq]))
    rw [encAll_cons, List.length_append, List.length_cons, Nat.succ_mul]
    omega
theorem encAll_pos (l : List Prt) (h : 0 < l.length) : 0 < (encAll l).length := by
  cases l with
  | nil => simp at h
  | cons p l =>
    rw [encAll_cons, List.length_append]
    have := enc_pos p
    omega

theorem after_snoc (l : List Prt) (p : Prt) (s : List UInt8 × Bool) : after (l ++ [p]) s = (p.got (after l s)).2 := by simp [after]
theorem after_all (l : List Prt) (rest : List UInt8) (h : ∀ p ∈ l, p.ok) : after l (encAll l ++ rest, false) = (rest, false) := by
  induction l with
  | nil => simp [after, encAll]
  | cons p l ih =>
    have h1 := ih (fun q hq => h q (by simp [hq]))
    rw [encAll_cons, List.append_assoc]
    unfold after at *
    rw [List.foldl_cons, got_enc p _ (h p (by simp))]
    exact h1

theorem after_bad (l : List Prt) (bs : List UInt8) : (after l (bs, true)).2 = true := by
  have hg : ∀ (p : Prt) (xs : List UInt8), (p.got (xs, true)).2 = (xs, true) := by
    intro p xs
    unfold Prt.got textS
    simp only [takeS_isbad]
    split
    · rfl
    · split
      · rfl
      · split <;> rfl
  suffices h : after l (bs, true) = (bs, true) by rw [h]
  induction l with
  | nil => rfl
  | cons p l ih =>
    unfold after at *
    rw [List.foldl_cons, hg]
    exact ih

theorem after_cut (l : List Prt) (h : ∀ p ∈ l, p.ok) (h0 : 0 < l.length) : (after l ((encAll l).dropLast, false)).2 = true := by
  induction l with
  | nil => simp at h0
  | cons p l ih =>
    cases l with
    | nil =>
      rw [encAll_cons]
      simp only [encAll, List.flatMap_nil, List.append_nil]
      exact got_cut p (h p (by simp))
    | cons q l =>
      have h1 := ih (fun x hx => h x (by simp [hx])) (by simp)
      have hne : encAll (q :: l) ≠ [] := by
        intro e
        have := encAll_pos (q :: l) (by simp)
        rw [e] at this
        simp at this
      rw [encAll_cons, List.dropLast_append_of_ne_nil hne]
      unfold after at *
      rw [List.foldl_cons, got_enc p _ (h p (by simp))]
      exact h1

theorem take_snoc {α : Type} (l : List α) (k : Nat) (a : α) (h : l[k]? = some a) : l.take (k + 1) = l.take k ++ [a] := by
  obtain ⟨hk, rfl⟩ := List.getElem?_eq_some_iff.1 h
  rw [List.take_append_getElem hk]

end Go.Proofs.Ytjpiaeidaoklaaa
