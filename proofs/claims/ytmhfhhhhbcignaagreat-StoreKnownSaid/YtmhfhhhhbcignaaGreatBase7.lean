/- Lemmas, part 7: PathPure, PathBase, PathTexts, LogMem, LogRev, LogSmall -/
import GoSem.Core.Utf8
import Derived.Test.YtmhfhhhhbcignaaGreatChecked
import Derived.Test.YtmhfhhhhbcignaaGreatBase1
import Derived.KernelRfl
import Derived.Lib.Strings
import Derived.BigQuiet
import Derived.Test.YtmhfhhhhbcignaaGreatBase6
import Derived.Test.YtmhfhhhhbcignaaGreatBase3
import Derived.Laws.BitsAllLaws
namespace Go.Proofs.YtmhfhhhhbcignaaGreat.Path

/-! ### The rune at the head of a list -/
def at0 (l : List UInt8) (k : Nat) : Nat := (l.getD k 0).toNat
def cont (l : List UInt8) (k : Nat) : Bool := decide (k < l.length) && at0 l k / 64 == 2
def dec (l : List UInt8) : Nat × Nat :=
  if at0 l 0 < 0x80 then (at0 l 0, 1)
  else if at0 l 0 / 32 == 6 && cont l 1 then
    if (at0 l 0 % 32) * 64 + at0 l 1 % 64 ≥ 0x80 then ((at0 l 0 % 32) * 64 + at0 l 1 % 64, 2) else (0xFFFD, 1)
  else if at0 l 0 / 16 == 14 && cont l 1 && cont l 2 then
    if (at0 l 0 % 16) * 4096 + (at0 l 1 % 64) * 64 + at0 l 2 % 64 ≥ 0x800 && Utf8.valid ((at0 l 0 % 16) * 4096 + (at0 l 1 % 64) * 64 + at0 l 2 % 64 : Nat) then ((at0 l 0 % 16) * 4096 + (at0 l 1 % 64) * 64 + at0 l 2 % 64, 3) else (0xFFFD, 1)
  else if at0 l 0 / 8 == 30 && cont l 1 && cont l 2 && cont l 3 then
    if (at0 l 0 % 8) * 262144 + (at0 l 1 % 64) * 4096 + (at0 l 2 % 64) * 64 + at0 l 3 % 64 ≥ 0x10000 && Utf8.valid ((at0 l 0 % 8) * 262144 + (at0 l 1 % 64) * 4096 + (at0 l 2 % 64) * 64 + at0 l 3 % 64 : Nat) then ((at0 l 0 % 8) * 262144 + (at0 l 1 % 64) * 4096 + (at0 l 2 % 64) * 64 + at0 l 3 % 64, 4) else (0xFFFD, 1)
  else (0xFFFD, 1)

theorem decode_eq (l : List UInt8) (i : Nat) : Utf8.decode ⟨l.toArray⟩ i = dec (l.drop i) := by
  have h1 : ∀ k, (ByteArray.get! ⟨l.toArray⟩ (i + k)).toNat = at0 (l.drop i) k := by
    intro k
    unfold at0
    congr 1
    simp [ByteArray.get!, List.getD_eq_getElem?_getD, List.getElem?_drop]
    rfl
  have h2 : ∀ k, decide (i + k < (⟨l.toArray⟩ : ByteArray).size) = decide (k < (l.drop i).length) := by
    intro k
    congr 1
    simp [ByteArray.size]
    omega
  unfold Utf8.decode dec cont
  simp only [h1, h2]
  rfl

/-- What kind of a head it is: it is none that is valid, or its width and bytes. -/
inductive Head (l : List UInt8) : Prop
  | bad (h : dec l = (0xFFFD, 1))
  | one (h : dec l = (at0 l 0, 1)) (h0 : at0 l 0 < 128)
  | two (h : (dec l).2 = 2) (h0 : at0 l 0 / 32 = 6) (h1 : cont l 1 = true)
  | three (h : (dec l).2 = 3) (h0 : at0 l 0 / 16 = 14) (h1 : cont l 1 = true) (h2 : cont l 2 = true)
  | four (h : (dec l).2 = 4) (h0 : at0 l 0 / 8 = 30) (h1 : cont l 1 = true) (h2 : cont l 2 = true) (h3 : cont l 3 = true)

theorem head (l : List UInt8) : Head l := by
  by_cases a1 : at0 l 0 < 0x80
  · exact .one (by unfold dec; rw [if_pos a1]) a1
  · by_cases a2 : (at0 l 0 / 32 == 6 && cont l 1) = true
    · by_cases b : (at0 l 0 % 32) * 64 + at0 l 1 % 64 ≥ 0x80
      · simp at a2
        exact .two (by unfold dec; rw [if_neg a1, if_pos (by simpa using a2), if_pos b]) a2.1 a2.2
      · exact .bad (by unfold dec; rw [if_neg a1, if_pos a2, if_neg b])
    · by_cases a3 : (at0 l 0 / 16 == 14 && cont l 1 && cont l 2) = true
      · have a3' := a3
        simp at a3
        rcases Bool.eq_false_or_eq_true (decide ((at0 l 0 % 16) * 4096 + (at0 l 1 % 64) * 64 + at0 l 2 % 64 ≥ 0x800) && Utf8.valid ((at0 l 0 % 16) * 4096 + (at0 l 1 % 64) * 64 + at0 l 2 % 64 : Nat)) with b | b
        · exact .three (by unfold dec; rw [if_neg a1, if_neg a2, if_pos a3', if_pos b]) a3.1.1 a3.1.2 a3.2
        · exact .bad (by unfold dec; rw [if_neg a1, if_neg a2, if_pos a3', if_neg (by rw [b]; exact Bool.false_ne_true)])
      · by_cases a4 : (at0 l 0 / 8 == 30 && cont l 1 && cont l 2 && cont l 3) = true
        · have a4' := a4
          simp at a4
          rcases Bool.eq_false_or_eq_true (decide ((at0 l 0 % 8) * 262144 + (at0 l 1 % 64) * 4096 + (at0 l 2 % 64) * 64 + at0 l 3 % 64 ≥ 0x10000) && Utf8.valid ((at0 l 0 % 8) * 262144 + (at0 l 1 % 64) * 4096 + (at0 l 2 % 64) * 64 + at0 l 3 % 64 : Nat)) with b | b
          · exact .four (by unfold dec; rw [if_neg a1, if_neg a2, if_neg a3, if_pos a4', if_pos b]) a4.1.1.1 a4.1.1.2 a4.1.2 a4.2
          · exact .bad (by unfold dec; rw [if_neg a1, if_neg a2, if_neg a3, if_pos a4', if_neg (by rw [b]; exact Bool.false_ne_true)])
        · exact .bad (by unfold dec; rw [if_neg a1, if_neg a2, if_neg a3, if_neg a4])

theorem cont_lt {l : List UInt8} {k : Nat} (h : cont l k = true) : k < l.length ∧ at0 l k / 64 = 2 := by
  unfold cont at h
  simpa using h

theorem dec_pos (l : List UInt8) : 1 ≤ (dec l).2 := by
  cases head l with
  | bad h | one h => rw [h]; exact Nat.le_refl _
  | two h | three h | four h => omega

theorem dec_le {l : List UInt8} (hl : l ≠ []) : (dec l).2 ≤ l.length := by
  have : 0 < l.length := List.length_pos_iff.2 hl
  cases head l with
  | bad h | one h => rw [h]; exact this
  | two h h0 h1 => have := (cont_lt h1).1; omega
  | three h h0 h1 h2 => have := (cont_lt h2).1; omega
  | four h h0 h1 h2 h3 => have := (cont_lt h3).1; omega

/-- A head hangs on its own bytes alone. -/
theorem dec_same {l m : List UInt8} (hb : (dec l).1 ≠ 0xFFFD) (h : ∀ k, k < (dec l).2 → k < m.length ∧ at0 m k = at0 l k) : dec m = dec l := by
  have same : ∀ k, k < (dec l).2 → at0 m k = at0 l k ∧ (cont l k = true → cont m k = true) := by
    intro k hk
    refine ⟨(h k hk).2, fun hc => ?_⟩
    unfold cont at hc ⊢
    rw [(h k hk).2]
    simp at hc
    simp [hc.2, (h k hk).1]
  cases hh : head l with
  | bad h => rw [h] at hb; exact absurd rfl hb
  | one h0 h1 =>
    have e := (same 0 (by rw [h0]; exact Nat.zero_lt_one)).1
    rw [h0]
    unfold dec
    rw [e, if_pos (by omega)]
  | two h0 h1 h2 =>
    have e0 := (same 0 (by omega)).1
    have e1 := (same 1 (by omega))
    have c1 := e1.2 h2
    unfold dec
    rw [e0, e1.1, h2, c1]
    have : ¬ at0 l 0 < 0x80 := by omega
    simp [h1, this]
  | three h0 h1 h2 h3 =>
    have e0 := (same 0 (by omega)).1
    have e1 := (same 1 (by omega))
    have e2 := (same 2 (by omega))
    have c1 := e1.2 h2
    have c2 := e2.2 h3
    unfold dec
    rw [e0, e1.1, e2.1, h2, c1, h3, c2]
    have : ¬ at0 l 0 < 0x80 := by omega
    have : ¬ at0 l 0 / 32 = 6 := by omega
    simp [*]
  | four h0 h1 h2 h3 h4 =>
    have e0 := (same 0 (by omega)).1
    have e1 := (same 1 (by omega))
    have e2 := (same 2 (by omega))
    have e3 := (same 3 (by omega))
    have c1 := e1.2 h2
    have c2 := e2.2 h3
    have c3 := e3.2 h4
    unfold dec
    rw [e0, e1.1, e2.1, e3.1, h2, c1, h3, c2, h4, c3]

theorem at0_take (l : List UInt8) (n k : Nat) (x : List UInt8) (h : k < n) (hn : n ≤ l.length) : at0 (l.take n ++ x) k = at0 l k := by
  unfold at0
  congr 1
  rw [List.getD_eq_getElem?_getD, List.getD_eq_getElem?_getD, List.getElem?_append_left (by simp; omega), List.getElem?_take, if_pos h]

theorem dec_take {l : List UInt8} (hb : (dec l).1 ≠ 0xFFFD) (x : List UInt8) {n : Nat} (hn : (dec l).2 ≤ n) (hn2 : n ≤ l.length) : dec (l.take n ++ x) = dec l :=
  dec_same hb fun k hk => ⟨by simp; omega, at0_take l n k x (by omega) (by omega)⟩

/-- The width hangs on the first byte; the bytes behind it are those of runes of several bytes. -/
theorem dec_conts {l : List UInt8} (hb : (dec l).1 ≠ 0xFFFD) : ∀ k, 1 ≤ k → k < (dec l).2 → cont l k = true := by
  intro k h1 h2
  cases head l with
  | bad h => rw [h] at hb; exact absurd rfl hb
  | one h0 _ => rw [h0] at h2; simp only at h2; omega
  | two h0 _ c1 => obtain rfl : k = 1 := by omega
                   exact c1
  | three h0 _ c1 c2 =>
    rcases (by omega : k = 1 ∨ k = 2) with rfl | rfl
    · exact c1
    · exact c2
  | four h0 _ c1 c2 c3 =>
    rcases (by omega : k = 1 ∨ k = 2 ∨ k = 3) with rfl | rfl | rfl
    · exact c1
    · exact c2
    · exact c3

theorem dec_width {l m : List UInt8} (h : at0 l 0 = at0 m 0) (hl : (dec l).1 ≠ 0xFFFD) (hm : (dec m).1 ≠ 0xFFFD) : (dec l).2 = (dec m).2 := by
  have key : ∀ x : List UInt8, (dec x).1 ≠ 0xFFFD → (dec x).2 = if at0 x 0 < 128 then 1 else if at0 x 0 / 32 = 6 then 2 else if at0 x 0 / 16 = 14 then 3 else 4 := by
    intro x hx
    cases head x with
    | bad h => rw [h] at hx; exact absurd rfl hx
    | one h0 h1 => rw [h0, if_pos h1]
    | two h0 h1 _ => rw [h0, if_neg (by omega), if_pos h1]
    | three h0 h1 _ _ => rw [h0, if_neg (by omega), if_neg (by omega), if_pos h1]
    | four h0 h1 _ _ _ => rw [h0, if_neg (by omega), if_neg (by omega), if_neg (by omega)]
  rw [key l hl, key m hm, h]

theorem dec_high {l : List UInt8} (hb : (dec l).1 ≠ 0xFFFD) (h2 : 2 ≤ (dec l).2) : 128 ≤ at0 l 0 := by
  cases head l with
  | bad h => rw [h] at hb; exact absurd rfl hb
  | one h0 _ => rw [h0] at h2; simp only at h2; omega
  | two _ h _ => omega
  | three _ h _ _ => omega
  | four _ h _ _ _ => omega

theorem dec_one {l : List UInt8} (hb : (dec l).1 ≠ 0xFFFD) (h1 : (dec l).2 = 1) : (dec l).1 = at0 l 0 := by
  cases head l with
  | bad h => rw [h] at hb; exact absurd rfl hb
  | one h0 _ => rw [h0]
  | two h _ _ => omega
  | three h _ _ _ => omega
  | four h _ _ _ _ => omega

/-- A byte that may not be a rune's first one. -/
theorem dec_stray {l : List UInt8} (h : 128 ≤ at0 l 0) (h6 : at0 l 0 / 32 ≠ 6) (h14 : at0 l 0 / 16 ≠ 14) (h30 : at0 l 0 / 8 ≠ 30) : dec l = (0xFFFD, 1) := by
  unfold dec
  rw [if_neg (by omega), if_neg (by simp [h6]), if_neg (by simp [h14]), if_neg (by simp [h30])]
theorem dec_c0 {l : List UInt8} (h : at0 l 0 = 192) : dec l = (0xFFFD, 1) := by
  unfold dec
  rw [if_neg (by omega)]
  by_cases c : cont l 1 = true
  · rw [if_pos (by simp [h, c]), if_neg (by omega)]
  · rw [if_neg (by simp [c]), if_neg (by simp [h]), if_neg (by simp [h])]

/-! ### Names -/
def okR (r : Nat) : Bool := r != 47 && decide (32 ≤ r) && r != 127 && r != 0xFFFD
def runesF : Nat → List UInt8 → Bool
  | 0, l => l.isEmpty
  | f + 1, l => l.isEmpty || (okR (dec l).1 && runesF f (l.drop (dec l).2))
def runes (l : List UInt8) : Bool := runesF l.length l

theorem runesF_fuel : ∀ (f : Nat) (l : List UInt8), l.length ≤ f → runesF f l = runes l := by
  intro f
  induction f using Nat.strongRecOn with
  | ind f ih =>
    intro l hl
    by_cases e : l = []
    · subst e; cases f <;> rfl
    · have hp := List.length_pos_iff.2 e
      obtain ⟨g, rfl⟩ : ∃ g, f = g + 1 := ⟨f - 1, by omega⟩
      unfold runes
      obtain ⟨m, hm⟩ : ∃ m, l.length = m + 1 := ⟨l.length - 1, by omega⟩
      rw [hm]
      have hd := dec_pos l
      have h1 : (l.drop (dec l).2).length ≤ m := by rw [List.length_drop]; omega
      show (l.isEmpty || (okR (dec l).1 && runesF g (l.drop (dec l).2))) = (l.isEmpty || (okR (dec l).1 && runesF m (l.drop (dec l).2)))
      rw [ih g (by omega) _ (by omega)]
      by_cases hmg : m = g
      · subst hmg; rw [ih m (by omega) _ h1]
      · rw [ih m (by omega) _ h1]
theorem runes_nil : runes [] = true := rfl
theorem runes_step {l : List UInt8} (hl : l ≠ []) : runes l = (okR (dec l).1 && runes (l.drop (dec l).2)) := by
  have hp := List.length_pos_iff.2 hl
  have hd := dec_pos l
  conv => lhs; unfold runes
  obtain ⟨m, hm⟩ : ∃ m, l.length = m + 1 := ⟨l.length - 1, by omega⟩
  rw [hm]
  show (l.isEmpty || (okR (dec l).1 && runesF m (l.drop (dec l).2))) = _
  rw [runesF_fuel m _ (by rw [List.length_drop]; omega)]
  cases l with
  | nil => exact absurd rfl hl
  | cons a l => rfl
theorem okR_ne {r : Nat} (h : okR r = true) : r ≠ 0xFFFD ∧ r ≠ 47 ∧ 32 ≤ r ∧ r ≠ 127 := by
  unfold okR at h
  simp at h
  exact ⟨h.2, h.1.1.1, h.1.1.2, h.1.2⟩

theorem runes_append : ∀ (n : Nat) (a b : List UInt8), a.length ≤ n → runes a = true → runes (a ++ b) = runes b := by
  intro n
  induction n with
  | zero =>
    intro a b h _
    have : a = [] := List.length_eq_zero_iff.1 (by omega)
    subst this; rfl
  | succ n ih =>
    intro a b h ha
    by_cases e : a = []
    · subst e; rfl
    · rw [runes_step e, Bool.and_eq_true] at ha
      have hd := dec_pos a
      have hle := dec_le e
      have hx : dec (a ++ b) = dec a := by
        have := dec_take (okR_ne ha.1).1 b (n := a.length) hle (Nat.le_refl _)
        rwa [List.take_length] at this
      rw [runes_step (by simp [e]), hx, ha.1, Bool.true_and, List.drop_append_of_le_length hle]
      exact ih _ _ (by rw [List.length_drop]; omega) ha.2

theorem at0_drop (l : List UInt8) (i k : Nat) : at0 (l.drop i) k = at0 l (i + k) := by
  unfold at0
  congr 1
  rw [List.getD_eq_getElem?_getD, List.getD_eq_getElem?_getD, List.getElem?_drop]

/-- No byte of a row of good runes is below 32, or a '/', or 127. -/
theorem runes_byte : ∀ (n : Nat) (a : List UInt8), a.length ≤ n → runes a = true → ∀ k, k < a.length → 32 ≤ at0 a k ∧ at0 a k ≠ 47 ∧ at0 a k ≠ 127 := by
  intro n
  induction n with
  | zero => intro a h _ k hk; omega
  | succ n ih =>
    intro a h ha k hk
    have e : a ≠ [] := by rintro rfl; simp at hk
    rw [runes_step e, Bool.and_eq_true] at ha
    have hd := dec_pos a
    have ok := okR_ne ha.1
    by_cases hk2 : k < (dec a).2
    · by_cases h1 : (dec a).2 = 1
      · obtain rfl : k = 0 := by omega
        have := dec_one ok.1 h1
        omega
      · by_cases hk0 : k = 0
        · subst hk0
          have := dec_high ok.1 (by omega)
          omega
        · have := (cont_lt (dec_conts ok.1 k (by omega) hk2)).2
          omega
    · have := ih (a.drop (dec a).2) (by rw [List.length_drop]; omega) ha.2 (k - (dec a).2) (by rw [List.length_drop]; omega)
      rw [at0_drop] at this
      rwa [show (dec a).2 + (k - (dec a).2) = k by omega] at this

/-- A byte that may not be in a name, put in at any place. -/
def badB (c : UInt8) : Prop := c = 0 ∨ c = 31 ∨ c = 127 ∨ c = 47 ∨ c = 128 ∨ c = 255 ∨ c = 192
theorem dec_ascii (c : UInt8) (l : List UInt8) (h : c.toNat < 128) : dec (c :: l) = (c.toNat, 1) := by
  have e : at0 (c :: l) 0 = c.toNat := rfl
  unfold dec
  rw [e, if_pos h]
theorem badB_head (c : UInt8) (hc : badB c) (l : List UInt8) : okR (dec (c :: l)).1 = false := by
  have e : at0 (c :: l) 0 = c.toNat := rfl
  rcases hc with h | h | h | h | h | h | h
  · rw [dec_ascii c l (by rw [h]; decide), h]; rfl
  · rw [dec_ascii c l (by rw [h]; decide), h]; rfl
  · rw [dec_ascii c l (by rw [h]; decide), h]; rfl
  · rw [dec_ascii c l (by rw [h]; decide), h]; rfl
  · rw [dec_stray (by rw [e, h]; decide) (by rw [e, h]; decide) (by rw [e, h]; decide) (by rw [e, h]; decide)]; rfl
  · rw [dec_stray (by rw [e, h]; decide) (by rw [e, h]; decide) (by rw [e, h]; decide) (by rw [e, h]; decide)]; rfl
  · rw [dec_c0 (by rw [e, h]; decide)]; rfl

theorem runes_put (c : UInt8) (hc : badB c) : ∀ (n : Nat) (a : List UInt8), a.length ≤ n → runes a = true → ∀ k, k ≤ a.length → runes (a.take k ++ c :: a.drop k) = false := by
  intro n
  induction n with
  | zero =>
    intro a h _ k hk
    have : a = [] := List.length_eq_zero_iff.1 (by omega)
    subst this
    rw [show k = 0 by simpa using hk]
    rw [runes_step (by simp)]
    show (okR (dec (c :: [])).1 && _) = false
    rw [badB_head c hc]; rfl
  | succ n ih =>
    intro a h ha k hk
    by_cases hk0 : k = 0
    · subst hk0
      rw [runes_step (by simp)]
      show (okR (dec (c :: a)).1 && _) = false
      rw [badB_head c hc]; rfl
    · have e : a ≠ [] := by rintro rfl; simp at hk; exact hk0 hk
      have hp := List.length_pos_iff.2 e
      rw [runes_step e, Bool.and_eq_true] at ha
      have hd := dec_pos a
      have hle := dec_le e
      have ok := okR_ne ha.1
      have hne : a.take k ++ c :: a.drop k ≠ [] := by simp
      by_cases hkn : (dec a).2 ≤ k
      · have hx := dec_take ok.1 (c :: a.drop k) hkn hk
        rw [runes_step hne, hx, List.drop_append_of_le_length (by simp; omega), List.drop_take]
        have := ih (a.drop (dec a).2) (by rw [List.length_drop]; omega) ha.2 (k - (dec a).2) (by rw [List.length_drop]; omega)
        rw [List.drop_drop, show (dec a).2 + (k - (dec a).2) = k by omega] at this
        rw [this, Bool.and_false]
      · rw [runes_step hne]
        by_cases hb : (dec (a.take k ++ c :: a.drop k)).1 = 0xFFFD
        · rw [hb]; rfl
        · have h0 : at0 (a.take k ++ c :: a.drop k) 0 = at0 a 0 := at0_take a k 0 _ (by omega) hk
          have hw := dec_width h0 hb ok.1
          have hcc := cont_lt (dec_conts hb k (by omega) (by omega))
          have hat : at0 (a.take k ++ c :: a.drop k) k = c.toNat := by
            unfold at0
            rw [List.getD_eq_getElem?_getD, List.getElem?_append_right (by simp; omega)]
            simp [Nat.min_eq_left hk]
          have hdr : (a.take k ++ c :: a.drop k).drop (dec a).2 = a.drop ((dec a).2 - 1) := by
            apply List.ext_getElem?
            intro i
            rw [List.getElem?_drop, List.getElem?_drop, List.getElem?_append_right (by simp; omega)]
            have : (dec a).2 + i - (a.take k).length = ((dec a).2 + i - k - 1) + 1 := by simp; omega
            rw [this, List.getElem?_cons_succ, List.getElem?_drop]
            congr 1
            omega
          rw [hw, hdr]
          have hl := cont_lt (dec_conts ok.1 ((dec a).2 - 1) (by omega) (by omega))
          have h9 : at0 (a.drop ((dec a).2 - 1)) 0 = at0 a ((dec a).2 - 1) := by rw [at0_drop]; rfl
          rw [runes_step (l := a.drop ((dec a).2 - 1)) (by intro h; have := congrArg List.length h; simp at this; omega), dec_stray (l := a.drop ((dec a).2 - 1)) (by omega) (by omega) (by omega) (by omega)]
          rw [show okR 0xFFFD = false from rfl, Bool.false_and, Bool.and_false]

def name (l : List UInt8) : Bool := !l.isEmpty && l != [46] && l != [46, 46] && runes l

theorem name_iff (l : List UInt8) : name l = true ↔ l ≠ [] ∧ l ≠ [46] ∧ l ≠ [46, 46] ∧ runes l = true := by
  unfold name
  simp [and_assoc]
theorem name_no {l : List UInt8} (h : name l = true) : ∀ b ∈ l, b ≠ 47 := by
  intro b hb e
  obtain ⟨k, hk, he⟩ := List.getElem_of_mem hb
  have := runes_byte l.length l (Nat.le_refl _) ((name_iff l).1 h).2.2.2 k hk
  apply this.2.1
  unfold at0
  rw [List.getD_eq_getElem?_getD, List.getElem?_eq_getElem hk, Option.getD_some, he, e]
  rfl

/-! ### Paths -/
def segs : List UInt8 → List (List UInt8)
  | [] => [[]]
  | b :: l => if b = 47 then [] :: segs l else match segs l with
    | s :: ss => (b :: s) :: ss
    | [] => [[b]]
theorem segs_ne (l : List UInt8) : segs l ≠ [] := by
  cases l with
  | nil => simp [segs]
  | cons b l =>
    unfold segs
    split
    · simp
    · split <;> simp
theorem segs_last : ∀ (s : List UInt8), (∀ b ∈ s, b ≠ 47) → segs s = [s]
  | [], _ => rfl
  | b :: s, h => by
    unfold segs
    rw [if_neg (h b (by simp)), segs_last s (fun c hc => h c (by simp [hc]))]
theorem segs_cut : ∀ (s r : List UInt8), (∀ b ∈ s, b ≠ 47) → segs (s ++ 47 :: r) = s :: segs r
  | [], r, _ => by
    rw [List.nil_append, segs, if_pos rfl]
  | b :: s, r, h => by
    rw [List.cons_append, segs, if_neg (h b (by simp)), segs_cut s r (fun c hc => h c (by simp [hc]))]
/-- The text that a list of parts is. -/
def ofL (ps : List (List UInt8)) : List UInt8 := if ps = [] then [47] else ps.flatMap (47 :: ·)
theorem flat_segs : ∀ l : List UInt8, (segs l).flatMap (47 :: ·) = 47 :: l
  | [] => rfl
  | b :: l => by
    have ih := flat_segs l
    unfold segs
    split
    · next h => subst h; rw [List.flatMap_cons, ih]; rfl
    · split
      · next s ss h => rw [h] at ih; rw [List.flatMap_cons] at ih ⊢; injection ih with _ ih; simp [← ih]
      · next h => exact absurd h (segs_ne l)
theorem segs_flat : ∀ (ps : List (List UInt8)), ps ≠ [] → (∀ s ∈ ps, ∀ b ∈ s, b ≠ 47) → ∃ t, ps.flatMap (47 :: ·) = 47 :: t ∧ segs t = ps
  | [], h, _ => absurd rfl h
  | [s], _, h => ⟨s, by simp, segs_last s (h s (by simp))⟩
  | s :: s2 :: ps, _, h => by
    obtain ⟨t, h1, h2⟩ := segs_flat (s2 :: ps) (by simp) (fun x hx => h x (by simp at hx ⊢; right; exact hx))
    refine ⟨s ++ 47 :: t, ?_, ?_⟩
    · rw [List.flatMap_cons, h1]; simp
    · rw [segs_cut s t (h s (by simp)), h2]

def partsF (p : List UInt8) : Option (List (List UInt8)) :=
  match p with
  | [] => none
  | b :: t => if b = 47 ∧ t.length ≤ 63 then (if t = [] then some [] else if (segs t).all name then some (segs t) else none) else none

/-- A path is its parts. -/
theorem parts_iff (p : List UInt8) (ps : List (List UInt8)) : partsF p = some ps ↔ p = ofL ps ∧ p.length ≤ 64 ∧ ∀ s ∈ ps, name s = true := by
  constructor
  · intro h
    cases p with
    | nil => cases h
    | cons b t =>
      unfold partsF at h
      simp only at h
      split at h
      · next hb =>
        obtain ⟨rfl, hl⟩ := hb
        split at h
        · next ht => subst ht; injection h with h; subst h; exact ⟨rfl, by simp, by simp⟩
        · next ht =>
          split at h
          · next ha =>
            injection h with h; subst h
            refine ⟨?_, by simp; omega, by simpa using ha⟩
            unfold ofL
            rw [if_neg (segs_ne t), flat_segs]
          · cases h
      · cases h
  · rintro ⟨h1, h2, h3⟩
    by_cases e : ps = []
    · subst e; rw [h1]; rfl
    · obtain ⟨t, e1, e2⟩ := segs_flat ps e (fun s hs => name_no (h3 s hs))
      have : p = 47 :: t := by rw [h1, ofL, if_neg e, e1]
      subst this
      have ht : t ≠ [] := by
        rintro rfl
        have : ps = [[]] := by rw [← e2]; rfl
        subst this
        have := h3 [] (by simp)
        cases this
      unfold partsF
      simp only
      rw [if_pos ⟨trivial, by simp at h2; omega⟩, if_neg ht, e2, if_pos (by simpa using h3)]

theorem ofL_inj {ps qs : List (List UInt8)} (h1 : ∀ s ∈ ps, name s = true) (h2 : ∀ s ∈ qs, name s = true) (h : ofL ps = ofL qs) : ps = qs := by
  have key : ∀ rs : List (List UInt8), (∀ s ∈ rs, name s = true) → rs ≠ [] → ∃ t, ofL rs = 47 :: t ∧ segs t = rs ∧ t ≠ [] := by
    intro rs hr e
    obtain ⟨t, e1, e2⟩ := segs_flat rs e (fun s hs => name_no (hr s hs))
    refine ⟨t, by rw [ofL, if_neg e, e1], e2, ?_⟩
    rintro rfl
    have : rs = [[]] := by rw [← e2]; rfl
    subst this
    have := hr [] (by simp)
    cases this
  by_cases e1 : ps = []
  · by_cases e2 : qs = []
    · rw [e1, e2]
    · obtain ⟨t, a, _, c⟩ := key qs h2 e2
      rw [← h, e1] at a
      injection a with _ a
      exact absurd a.symm c
  · obtain ⟨t, a, b, c⟩ := key ps h1 e1
    by_cases e2 : qs = []
    · rw [h, e2] at a
      injection a with _ a
      exact absurd a.symm c
    · obtain ⟨t2, a2, b2, _⟩ := key qs h2 e2
      rw [a, a2] at h
      injection h with _ h
      rw [← b, ← b2, h]
theorem ofL_length (ps : List (List UInt8)) : ps.length ≤ (ofL ps).length := by
  unfold ofL
  split
  · next h => subst h; simp
  · induction ps with
    | nil => simp
    | cons s ps ih =>
      rw [List.flatMap_cons, List.length_append, List.length_cons, List.length_cons]
      by_cases h : ps = []
      · subst h; simp
      · have := ih h
        omega
def underF (p r : List UInt8) : Bool :=
  match partsF p, partsF r with
  | some a, some b => decide (b = a.take b.length)
  | _, _ => false
end Go.Proofs.YtmhfhhhhbcignaaGreat.Path

namespace Go.Proofs.YtmhfhhhhbcignaaGreat.Path
open Go.RowKit

theorem S_list (l : List UInt8) : (S l).toList = l := ByteArray.toList_mk l
theorem S_size (l : List UInt8) : (S l).size = l.length := by simp [S, ByteArray.size]
theorem ty_string : Tryz.prog.underlying 9 = some .string := by kernel_rfl
theorem S_append (a b : List UInt8) : S a ++ S b = S (a ++ b) := by
  apply ByteArray.ext
  simp [S]
theorem below_drewN {B : Nat} {w w' : World} (h : Below B w w') (m : Nat) : Below B w (w'.drewN m) := ⟨h.os, h.tape, h.output, h.size, h.block⟩
end Go.Proofs.YtmhfhhhhbcignaaGreat.Path

namespace Go.Proofs.YtmhfhhhhbcignaaGreat
open Go.RowKit

/-- The slice '.slice A n c' reads as these values, of one cell each. -/
structure RdV (w : World) (A : Option Addr) (n : Nat) (vs : List Value) : Prop where
  len : vs.length = n
  cells : 0 < n → ∃ ad, A = some ad ∧ ∀ j v, vs[j]? = some v → w.cell? (ad.add j) = some v

theorem RdV.nil_ (w : World) (A : Option Addr) : RdV w A 0 [] := ⟨rfl, fun h => absurd h (by omega)⟩
theorem RdV.keep {w w' : World} {A : Option Addr} {n : Nat} {vs : List Value} (h : RdV w A n vs) (hk : ∀ (p : Addr) (v : Value), w.cell? p = some v → w'.cell? p = some v) : RdV w' A n vs :=
  ⟨h.len, fun hn => by
    obtain ⟨ad, e, hc⟩ := h.cells hn
    exact ⟨ad, e, fun j b hb => hk _ _ (hc j b hb)⟩⟩
theorem RdV.below {w w' : World} {A : Option Addr} {n : Nat} {vs : List Value} (h : RdV w A n vs) (hb : Below w.heap.size w w') : RdV w' A n vs :=
  h.keep fun p _ hp => (hb.cell (World.block_lt_of_cell? w p hp)).trans hp
theorem RdV.take {w : World} {A : Option Addr} {n : Nat} {vs : List Value} (h : RdV w A n vs) {k : Nat} (hk : k ≤ n) : RdV w A k (vs.take k) :=
  ⟨by rw [List.length_take, h.len]; omega, fun h0 => by
    obtain ⟨ad, e, hc⟩ := h.cells (by omega)
    refine ⟨ad, e, fun j b hb => hc j b ?_⟩
    rw [List.getElem?_take] at hb
    split at hb
    · exact hb
    · cases hb⟩
theorem RdV.of_own {w : World} {base : Nat} {e : TypeId} {A : Option Addr} {n m c : Nat} {vs : List Value} (h : w.ownsRow base e 1 (.slice A n c) m vs) : RdV w A n vs ∧ n = m := by
  have hl := h.1
  rw [Nat.mul_one] at hl
  rcases h.2 with ⟨e1, rfl⟩ | ⟨g, cap, cur, e1, _, hh, hnc, _, hs, ht⟩
  · injection e1 with e1 e2 e3
    subst e2
    exact ⟨⟨hl, fun h0 => absurd h0 (by omega)⟩, rfl⟩
  · injection e1 with e1 e2 e3
    subst e1 e2 e3
    refine ⟨⟨hl, fun _ => ⟨_, rfl, fun j b hb => ?_⟩⟩, rfl⟩
    have hj : j < n := by
      have := (List.getElem?_eq_some_iff.1 hb).1
      omega
    have : w.cell? ⟨g, 0 + j, none⟩ = some b := by
      simp only [World.cell?, hh]
      rw [Nat.mul_one] at ht
      have h2 : (cur.toList.take n)[j]? = some b := by rw [ht, hb]
      rw [List.getElem?_take, if_pos hj] at h2
      simpa using h2
    unfold Addr.add
    by_cases hj0 : j = 0
    · subst hj0; simpa using this
    · simpa [hj0] using this
theorem own_slice {w : World} {base : Nat} {e : TypeId} {v : Value} {n : Nat} {xs : List Value} (h : w.ownsRow base e 1 v n xs) : ∃ A c, v = .slice A n c := by
  rcases h.2 with ⟨h0, h1⟩ | ⟨g, cap, cur, h0, _⟩
  · exact ⟨none, 0, by rw [h0, h1]⟩
  · exact ⟨_, _, h0⟩
theorem own_nil (w : World) (base : Nat) (e : TypeId) : w.ownsRow base e 1 (.slice none 0 0) 0 [] := ⟨rfl, .inl ⟨rfl, rfl⟩⟩

/-- 'append(out, x...)', out a row of the call's own, x any values of one cell (nil let in). -/
theorem run_append_RdV {P : Program} {w : World} {t ty e : TypeId} {i : TypeInfo} {z : Value} {bytes : Nat} (ht : P.underlying t = some (.slice e)) (hi : P.info? e = some i) (hz : i.zero = some z) (hs : i.size = 1) (hb : i.bytes = bytes) (hzs : z.cells.size = 1)
    {base : Nat} {v : Value} {n : Nat} {xs : List Value} (hown : w.ownsRow base e 1 v n xs) {A : Option Addr} {m : Nat} {vs : List Value} (h : RdV w A m vs) (h1 : ∀ u ∈ vs, u.oneCell' = true) (c : Nat) (h63 : n + m ≤ maxLen) (hm : (n + m) * bytes ≤ 140737488355328) (hbase : base ≤ w.heap.size) :
    ∃ v' w', (Builtin.append_ #[t, t] ty #[v, .slice A m c]).run P w = .ok v' w' ∧ w'.ownsRow base e 1 v' (n + m) (xs ++ vs) ∧ w.grownBy w' v.ownBlock := by
  have hl := h.len
  cases A with
  | some ad =>
    have hcells : ∀ j u, vs[j]? = some u → w.cell? (ad.add j) = some u := by
      intro j u hu
      have h0 : 0 < m := by
        have := (List.getElem?_eq_some_iff.1 hu).1
        omega
      obtain ⟨ad', e', hc⟩ := h.cells h0
      injection e' with e'
      subst e'
      exact hc j u hu
    obtain ⟨v', w', h1, h2, h3, _⟩ := run_append_own (P := P) w base t ty e i z 1 bytes ht hi hz hs hb hzs (by decide) v n xs hown ad m c vs (by simp [hl]) hcells h1 h63 hm hbase
    exact ⟨v', w', h1, h2, h3⟩
  | none =>
    have hm0 : m = 0 := by
      rcases Nat.eq_zero_or_pos m with h0 | h0
      · exact h0
      · obtain ⟨_, e', _⟩ := h.cells h0
        cases e'
    subst hm0
    have hb0 : vs = [] := List.eq_nil_of_length_eq_zero hl
    subst hb0
    refine ⟨v, w, ?_, by simpa using hown, ⟨rfl, rfl, rfl, Nat.le_refl _, fun _ _ _ => rfl⟩⟩
    rcases hown.2 with ⟨rfl, rfl⟩ | ⟨g, cap, cur, rfl, _, _, hnc, _⟩
    · simp [Builtin.append_, run_underlying ht, sizeOf, typeInfo, hi, Builtin.lenOf, Builtin.firstCells]
    · simp [Builtin.append_, run_underlying ht, sizeOf, typeInfo, hi, Builtin.lenOf, Builtin.firstCells, hnc, storeCells]

theorem wpList_append_RdV {P : Program} {w : World} {ops : Array Oper} {rest : List Oper} {o : Oper} {a : Act} {Q : Exit → Act → World → Prop} (hgd : o.guard = none) (s x : Operand) (t : TypeId)
    (ho : o.op = .call { callee := .builtin .append, args := #[s, x], argTypes := #[t, t] }) {e : TypeId} {i : TypeInfo} {z : Value} {bytes : Nat} (ht : P.underlying t = some (.slice e)) (hi : P.info? e = some i) (hz : i.zero = some z) (hsz : i.size = 1) (hb : i.bytes = bytes) (hzs : z.cells.size = 1)
    {base : Nat} {v : Value} {n : Nat} {xs : List Value} (hs : a.eval s = v) (hown : w.ownsRow base e 1 v n xs) {A : Option Addr} {m c : Nat} {vs : List Value} (hx : a.eval x = .slice A m c) (h : RdV w A m vs) (h1 : ∀ u ∈ vs, u.oneCell' = true) (h63 : n + m ≤ maxLen) (hm : (n + m) * bytes ≤ 140737488355328) (hbase : base ≤ w.heap.size)
    (hK : ∀ v' w', w'.ownsRow base e 1 v' (n + m) (xs ++ vs) → w.grownBy w' v.ownBlock → wpList P ops Q rest (a.put o.dst v') w') : wpList P ops Q (o :: rest) a w := by
  obtain ⟨v', w', h1, h2, h3⟩ := run_append_RdV (ty := o.type) ht hi hz hsz hb hzs hown h h1 c h63 hm hbase
  refine wpList_plain hgd fun K hK' => ?_
  unfold Oper.wp execOp
  simp only [ho, resolve, invoke, builtin, Sem.run_bind, Sem.run_pure, Result.andThen_ok, List.map_toArray, List.map_cons, List.map_nil, hs, hx, h1]
  exact hK' _ _ (hK v' w' h2 h3)

/-- Texts as values. -/
def sv (ss : List (List UInt8)) : List Value := ss.map fun s => .string (S s)
theorem sv_all (ss : List (List UInt8)) : ∀ v ∈ sv ss, v.oneCell' = true := by
  intro v hv
  unfold sv at hv
  obtain ⟨s, _, rfl⟩ := List.mem_map.1 hv
  rfl
theorem sv_length (ss : List (List UInt8)) : (sv ss).length = ss.length := by simp [sv]
theorem sv_get {ss : List (List UInt8)} {j : Nat} (h : j < ss.length) : (sv ss)[j]? = some (.string (S ss[j])) := by simp [sv, h]
theorem sv_append (a b : List (List UInt8)) : sv (a ++ b) = sv a ++ sv b := by simp [sv]
theorem sv_take (a : List (List UInt8)) (k : Nat) : (sv a).take k = sv (a.take k) := by simp [sv]

theorem info_text : (Tryz.prog.info? 9).map (fun i => (i.zero, i.size, i.bytes)) = some (some (.string ⟨#[]⟩), 1, 16) := by kernel_rfl
theorem infos {P : Program} {t : TypeId} {z : Value} {a b : Nat} (h : (P.info? t).map (fun i => (i.zero, i.size, i.bytes)) = some (some z, a, b)) : ∃ i, P.info? t = some i ∧ i.zero = some z ∧ i.size = a ∧ i.bytes = b := by
  cases hi : P.info? t with
  | none => rw [hi] at h; cases h
  | some i =>
    rw [hi] at h
    simp at h
    exact ⟨i, rfl, h⟩
theorem S_extract (l : List UInt8) (a b : Nat) : (S l).extract a b = S ((l.drop a).take (b - a)) := by
  apply ByteArray.ext
  simp [S]
namespace Path
/-- Two texts of two rows, at one place. -/
theorem two_at {w : World} {A B : Option Addr} {n m k : Nat} {a b : List (List UInt8)} (ha : RdV w A n (sv a)) (hb : RdV w B m (sv b)) (h1 : k < a.length) (h2 : k < b.length) :
    ∃ p q, A = some p ∧ B = some q ∧ ∀ W, Below w.heap.size w W → ∀ r, (W.drewN r).cell? (p.add k) = some (.string (S a[k])) ∧ (W.drewN r).cell? (q.add k) = some (.string (S b[k])) := by
  have e1 : n = a.length := by rw [← ha.len, sv_length]
  have e2 : m = b.length := by rw [← hb.len, sv_length]
  obtain ⟨p, rfl, hc1⟩ := ha.cells (by omega)
  obtain ⟨q, rfl, hc2⟩ := hb.cells (by omega)
  refine ⟨p, q, rfl, rfl, fun W hW r => ?_⟩
  obtain ⟨_, x1, hd1⟩ := (ha.below (below_drewN hW r)).cells (by omega)
  obtain ⟨_, x2, hd2⟩ := (hb.below (below_drewN hW r)).cells (by omega)
  injection x1 with x1
  injection x2 with x2
  subst x1 x2
  exact ⟨hd1 k _ (sv_get h1), hd2 k _ (sv_get h2)⟩

theorem take_ne {a b : List (List UInt8)} {k : Nat} (h1 : k < a.length) (h2 : k < b.length) (hne : ¬ a[k] = b[k]) : ¬ a.take (k + 1) = b.take (k + 1) := by
  intro h
  have := congrArg (fun l => l[k]?) h
  simp only [List.getElem?_take, if_pos (Nat.lt_succ_self k), List.getElem?_eq_getElem h1, List.getElem?_eq_getElem h2] at this
  injection this with this
  exact hne this
theorem take_eq {a b : List (List UInt8)} {k : Nat} (h1 : k < a.length) (h2 : k < b.length) (h : a.take k = b.take k) (he : a[k] = b[k]) : a.take (k + 1) = b.take (k + 1) := by
  rw [← List.take_append_getElem h1, ← List.take_append_getElem h2, h, he]
end Path
end Go.Proofs.YtmhfhhhhbcignaaGreat

namespace Go.Proofs.YtmhfhhhhbcignaaGreat.Log
open Go.RowKit Disk

/-- These values are slices that read as these rows of bytes. -/
structure Many (w : World) (vs : List Value) (bs : List (List UInt8)) : Prop where
  len : vs.length = bs.length
  at_ : ∀ (j : Nat) (b : List UInt8), bs[j]? = some b → ∃ A n c, vs[j]? = some (.slice A n c) ∧ n ≤ c ∧ Rd w A n b
theorem Many.below {w w' : World} {vs : List Value} {bs : List (List UInt8)} (h : Many w vs bs) (hb : Below w.heap.size w w') : Many w' vs bs :=
  ⟨h.len, fun j b hj => by
    obtain ⟨A, n, c, h1, h2, h3⟩ := h.at_ j b hj
    exact ⟨A, n, c, h1, h2, h3.below hb⟩⟩
theorem Many.nil_ (w : World) : Many w [] [] := ⟨rfl, fun j b hj => by simp at hj⟩
theorem Many.cons_ {w : World} {A : Option Addr} {n c : Nat} {b : List UInt8} {vs : List Value} {bs : List (List UInt8)} (h1 : Rd w A n b) (h2 : n ≤ c) (h : Many w vs bs) : Many w (.slice A n c :: vs) (b :: bs) :=
  ⟨by simp [h.len], fun j x hj => by
    cases j with
    | zero => simp at hj; subst hj; exact ⟨A, n, c, rfl, h2, h1⟩
    | succ j => exact h.at_ j x (by simpa using hj)⟩
theorem Many.snoc {w : World} {A : Option Addr} {n c : Nat} {b : List UInt8} {vs : List Value} {bs : List (List UInt8)} (h : Many w vs bs) (h1 : Rd w A n b) (h2 : n ≤ c) : Many w (vs ++ [.slice A n c]) (bs ++ [b]) :=
  ⟨by simp [h.len], fun j x hj => by
    rcases Nat.lt_or_ge j bs.length with hl | hl
    · rw [List.getElem?_append_left hl] at hj
      rw [List.getElem?_append_left (by rw [h.len]; exact hl)]
      exact h.at_ j x hj
    · rw [List.getElem?_append_right hl] at hj
      rw [List.getElem?_append_right (by rw [h.len]; exact hl), h.len]
      have : j - bs.length = 0 := by
        have := (List.getElem?_eq_some_iff.1 hj).1
        simp at this
        omega
      rw [this] at hj ⊢
      simp at hj
      subst hj
      exact ⟨A, n, c, rfl, h2, h1⟩⟩
theorem Many.one {w : World} {vs : List Value} {bs : List (List UInt8)} (h : Many w vs bs) : ∀ u ∈ vs, u.oneCell' = true := by
  intro u hu
  obtain ⟨j, hj, rfl⟩ := List.mem_iff_getElem.1 hu
  obtain ⟨A, n, c, h1, _⟩ := h.at_ j (bs[j]'(by rw [← h.len]; exact hj)) (List.getElem?_eq_getElem _)
  rw [List.getElem?_eq_getElem hj] at h1
  injection h1 with h1
  rw [h1]
  rfl

theorem info_row : (Tryz.prog.info? 57).map (fun i => (i.zero, i.size, i.bytes)) = some (some (.slice none 0 0), 1, 24) := by kernel_rfl
theorem ty_rows : Tryz.prog.underlying 120 = some (.slice 57) := by kernel_rfl

/-- The first k, one behind the other. -/
def flatK (bs : List (List UInt8)) (k : Nat) : List UInt8 := (bs.take k).flatten
theorem flat_take (bs : List (List UInt8)) (k : Nat) (h : k < bs.length) : flatK bs (k + 1) = flatK bs k ++ bs[k] := by
  unfold flatK
  rw [← List.take_append_getElem h, List.flatten_append]
  simp
theorem flat_le (bs : List (List UInt8)) (k : Nat) : (flatK bs k).length ≤ bs.flatten.length := by
  unfold flatK
  have : bs.flatten = (bs.take k).flatten ++ (bs.drop k).flatten := by rw [← List.flatten_append, List.take_append_drop]
  rw [this, List.length_append]
  omega
theorem flat_all (bs : List (List UInt8)) (k : Nat) (h : bs.length ≤ k) : flatK bs k = bs.flatten := by unfold flatK; rw [List.take_of_length_le h]
def RelTog (w : World) (bs : List (List UInt8)) (n : Nat) (v i : Value) (wr : World) : Prop :=
  ∃ k : Nat, k ≤ n ∧ i = .int .i64 (k : Int) ∧ wr.ownsRow w.heap.size 5 1 v (flatK bs k).length ((flatK bs k).map U) ∧ Below w.heap.size w wr
set_option maxRecDepth 100000 in
set_option maxHeartbeats 400000 in
theorem together_any (A : Option Addr) (n c : Nat) (vs : List Value) (bs : List (List UInt8)) (w : World) (h : RdV w A n vs) (hm : Many w vs bs) (hl : bs.flatten.length ≤ 100000000) (hn : n ≤ 1000000) :
    Calls Tryz.prog 127 #[.slice A n c] w (Put w bs.flatten) := by
  obtain ⟨i0, hi, hz0, hz1, hz2⟩ := info_parts info_byte
  have HI := Lib.hid hi
  have HZ0 := Lib.hid hz0
  have HZ1 := Lib.hid hz1
  have HZ2 := Lib.hid hz2
  clear hi hz0 hz1 hz2
  have HN : Hid (n = bs.length) := by show _ = _; rw [← h.len, hm.len]
  have H := Lib.hid h
  have HM := Lib.hid hm
  have HL := Lib.hid hl
  clear h hm hl
  go_enter Tryz.func127, Tryz.ntmps127
  go_wp2_with fail
  go_loopw [3, 5, 8] (fun v _ i wr => RelTog w bs n v i wr) (fun _ _ i _ => n - (intOf i).toNat)
  case atStart => exact ⟨0, by omega, rfl, own_nil _ _ _, Below.refl _ _⟩
  case round =>
    obtain ⟨k, hk, rfl, hown, hbel⟩ := hrel
    have HO := Lib.hid hown
    have HB := Lib.hid hbel
    clear hown hbel
    by_cases hlt : k < n
    · have hkl : k < bs.length := by have := HN.out; omega
      obtain ⟨A1, n1, c1, hv1, _, hr1⟩ := HM.out.at_ k _ (List.getElem?_eq_getElem hkl)
      obtain ⟨ad, rfl, hc⟩ := (H.out.below HB.out).cells (by omega)
      have hcell := hc k _ hv1
      have HR1 := Lib.hid (hr1.below HB.out)
      have hle := flat_le bs (k + 1)
      have hft := flat_take bs k hkl
      rw [hft, List.length_append] at hle
      have hn1 := hr1.len
      have HF := Lib.hid hft
      have HN1 := Lib.hid hn1
      have HLE : Hid ((flatK bs k).length + n1 ≤ 100000000) := by
        have := HL.out
        show _ ≤ _
        omega
      clear hc hv1 hr1 hle hft hn1
      go_wp2_with (at_builtin; refine wpList_append_Rd rfl (.tmp 12) (.tmp 13) _ rfl ty_bytes HI.out HZ0.out HZ1.out HZ2.out rfl rfl HO.out rfl HR1.out (by have := HLE.out; omega) HB.out.size ?_)
      intro v' w3 hown3 hgr3
      have HO3 : Hid (w3.ownsRow w.heap.size 5 1 v' (flatK bs (k + 1)).length ((flatK bs (k + 1)).map U)) := by
        show World.ownsRow _ _ _ _ _ _ _
        rw [HF.out, List.length_append, HN1.out, List.map_append]
        exact hown3
      have HB3 := Lib.hid (HB.out.grown hgr3 HB.out.size (fun g hg => (HO.out.lt g hg).1))
      clear hown3 hgr3
      go_wp2_with fail
      exact ⟨⟨k + 1, by omega, rfl, HO3.out, HB3.out⟩, by simp [intOf]; omega⟩
    · obtain rfl : k = n := by omega
      have HO3 := HO.out
      rw [flat_all bs k (by have := HN.out; omega)] at HO3
      have HO4 := Lib.hid HO3
      clear HO3
      go_wp2_with fail
      go_ret
      exact Put.of HO4.out HB.out
end Go.Proofs.YtmhfhhhhbcignaaGreat.Log

namespace Go.Proofs.YtmhfhhhhbcignaaGreat.Log
open Go.RowKit

def m3 : Nat := 71777214294589695
def m4 : Nat := 281470681808895
def rev1 (x : Nat) : Nat := (x / 256 &&& m3) ||| (x &&& m3) * 256
def rev2 (x : Nat) : Nat := (x / 65536 &&& m4) ||| (x &&& m4) * 65536
def rev3 (x : Nat) : Nat := x / 4294967296 ||| x * 4294967296 % 18446744073709551616
def rev (x : Nat) : Nat := rev3 (rev2 (rev1 x))
theorem m3_bit : ∀ j, j < 64 → m3.testBit j = decide (j / 8 % 2 = 0) := by decide
theorem m4_bit : ∀ j, j < 64 → m4.testBit j = decide (j / 16 % 2 = 0) := by decide
theorem bit_mul (x k j : Nat) : (x * 2 ^ k).testBit j = (decide (k ≤ j) && x.testBit (j - k)) := by
  rw [← Nat.shiftLeft_eq, Nat.testBit_shiftLeft]
theorem rev1_bit (x j : Nat) (hj : j < 64) : (rev1 x).testBit j = x.testBit (if j / 8 % 2 = 0 then j + 8 else j - 8) := by
  have e : (rev1 x) = (x / 2 ^ 8 &&& m3) ||| (x &&& m3) * 2 ^ 8 := rfl
  rw [e, Nat.testBit_or, Nat.testBit_and, bit_mul, Nat.testBit_and, Nat.testBit_div_two_pow, m3_bit j hj]
  split
  · next h =>
    have h8 : (decide (8 ≤ j) && (x.testBit (j - 8) && m3.testBit (j - 8))) = false := by
      by_cases h1 : 8 ≤ j
      · rw [m3_bit (j - 8) (by omega), decide_eq_false (p := (j - 8) / 8 % 2 = 0) (by omega), Bool.and_false, Bool.and_false]
      · rw [decide_eq_false h1, Bool.false_and]
    rw [h8, decide_eq_true h, Bool.and_true, Bool.or_false]
  · next h =>
    rw [m3_bit (j - 8) (by omega), decide_eq_false h, Bool.and_false, Bool.false_or, decide_eq_true (p := 8 ≤ j) (by omega), Bool.true_and, decide_eq_true (p := (j - 8) / 8 % 2 = 0) (by omega), Bool.and_true]
theorem rev2_bit (x j : Nat) (hj : j < 64) : (rev2 x).testBit j = x.testBit (if j / 16 % 2 = 0 then j + 16 else j - 16) := by
  have e : (rev2 x) = (x / 2 ^ 16 &&& m4) ||| (x &&& m4) * 2 ^ 16 := rfl
  rw [e, Nat.testBit_or, Nat.testBit_and, bit_mul, Nat.testBit_and, Nat.testBit_div_two_pow, m4_bit j hj]
  split
  · next h =>
    have h8 : (decide (16 ≤ j) && (x.testBit (j - 16) && m4.testBit (j - 16))) = false := by
      by_cases h1 : 16 ≤ j
      · rw [m4_bit (j - 16) (by omega), decide_eq_false (p := (j - 16) / 16 % 2 = 0) (by omega), Bool.and_false, Bool.and_false]
      · rw [decide_eq_false h1, Bool.false_and]
    rw [h8, decide_eq_true h, Bool.and_true, Bool.or_false]
  · next h =>
    rw [m4_bit (j - 16) (by omega), decide_eq_false h, Bool.and_false, Bool.false_or, decide_eq_true (p := 16 ≤ j) (by omega), Bool.true_and, decide_eq_true (p := (j - 16) / 16 % 2 = 0) (by omega), Bool.and_true]
theorem rev3_bit (x j : Nat) (hx : x < 18446744073709551616) (hj : j < 64) : (rev3 x).testBit j = x.testBit (if j < 32 then j + 32 else j - 32) := by
  have e : (rev3 x) = x / 2 ^ 32 ||| x * 2 ^ 32 % 2 ^ 64 := rfl
  rw [e, Nat.testBit_or, Nat.testBit_mod_two_pow, bit_mul, Nat.testBit_div_two_pow, decide_eq_true hj, Bool.true_and]
  split
  · next h => rw [decide_eq_false (p := 32 ≤ j) (by omega), Bool.false_and, Bool.or_false]
  · next h =>
    rw [decide_eq_true (p := 32 ≤ j) (by omega), Bool.true_and, Nat.testBit_lt_two_pow (x := x) (i := j + 32), Bool.false_or]
    exact Nat.lt_of_lt_of_le hx (show 2 ^ 64 ≤ 2 ^ (j + 32) from Nat.pow_le_pow_right (by decide) (by omega))
theorem rev1_lt {x : Nat} (hx : x < 18446744073709551616) : rev1 x < 18446744073709551616 := by
  have h1 : x / 256 &&& m3 < 2 ^ 64 := Nat.lt_of_le_of_lt Nat.and_le_left (by omega)
  have h2 : (x &&& m3) * 256 < 2 ^ 64 := by
    have : x &&& m3 ≤ m3 := Nat.and_le_right
    unfold m3 at this ⊢
    omega
  exact Nat.or_lt_two_pow h1 h2
theorem rev2_lt {x : Nat} (hx : x < 18446744073709551616) : rev2 x < 18446744073709551616 := by
  have h1 : x / 65536 &&& m4 < 2 ^ 64 := Nat.lt_of_le_of_lt Nat.and_le_left (by omega)
  have h2 : (x &&& m4) * 65536 < 2 ^ 64 := by
    have : x &&& m4 ≤ m4 := Nat.and_le_right
    unfold m4 at this ⊢
    omega
  exact Nat.or_lt_two_pow h1 h2
theorem rev3_lt {x : Nat} (hx : x < 18446744073709551616) : rev3 x < 18446744073709551616 :=
  Nat.or_lt_two_pow (n := 64) (by omega) (Nat.mod_lt _ (by decide))
theorem rev_lt {x : Nat} (hx : x < 18446744073709551616) : rev x < 18446744073709551616 := rev3_lt (rev2_lt (rev1_lt hx))
theorem rev_bit (x j : Nat) (hx : x < 18446744073709551616) (hj : j < 64) : (rev x).testBit j = x.testBit (56 - 8 * (j / 8) + j % 8) := by
  unfold rev
  rw [rev3_bit _ j (rev2_lt (rev1_lt hx)) hj, rev2_bit _ _ (by split <;> omega), rev1_bit _ _ (by split <;> split <;> omega)]
  congr 1
  split <;> split <;> split <;> omega
theorem rev_byte (x i : Nat) (hx : x < 18446744073709551616) (hi : i < 8) : rev x / 256 ^ i % 256 = x / 256 ^ (7 - i) % 256 := by
  have p : ∀ k, 256 ^ k = 2 ^ (8 * k) := fun k => by rw [Nat.pow_mul]
  refine Nat.eq_of_testBit_eq fun k => ?_
  rw [p, p, show (256 : Nat) = 2 ^ 8 from rfl, Nat.testBit_mod_two_pow, Nat.testBit_mod_two_pow, Nat.testBit_div_two_pow, Nat.testBit_div_two_pow]
  by_cases hk : k < 8
  · rw [rev_bit x _ hx (by omega)]
    congr 2
    omega
  · rw [decide_eq_false hk, Bool.false_and, Bool.false_and]
theorem be_rev {x : Nat} (hx : x < 18446744073709551616) : be 8 (rev x) = (be 8 x).reverse := by
  have h : ∀ i, i < 8 → UInt8.ofNat (rev x / 256 ^ i) = UInt8.ofNat (x / 256 ^ (7 - i)) := fun i hi => by
    apply UInt8.toNat_inj.1
    rw [UInt8.toNat_ofNat', UInt8.toNat_ofNat']
    exact rev_byte x i hx hi
  simp only [be]
  rw [h 7 (by decide), h 6 (by decide), h 5 (by decide), h 4 (by decide), h 3 (by decide), h 2 (by decide), h 1 (by decide), h 0 (by decide)]
  rfl
end Go.Proofs.YtmhfhhhhbcignaaGreat.Log

namespace Go.Proofs.YtmhfhhhhbcignaaGreat.Log
open Go.RowKit Disk

theorem rev_steps (x : Nat) (hx : x < 18446744073709551616) : ∃ a b c y a2 b2 c2 y2 c3 z : Nat,
    bits .and .u64 ((x : Int) / 256) 71777214294589695 = (a : Int) ∧ bits .and .u64 (x : Int) 71777214294589695 = (b : Int) ∧ IntKind.u64.wrap ((b : Int) * 256) = (c : Int) ∧ bits .or .u64 (a : Int) (c : Int) = (y : Int) ∧
    bits .and .u64 ((y : Int) / 65536) 281470681808895 = (a2 : Int) ∧ bits .and .u64 (y : Int) 281470681808895 = (b2 : Int) ∧ IntKind.u64.wrap ((b2 : Int) * 65536) = (c2 : Int) ∧ bits .or .u64 (a2 : Int) (c2 : Int) = (y2 : Int) ∧
    IntKind.u64.wrap ((y2 : Int) * 4294967296) = (c3 : Int) ∧ bits .or .u64 ((y2 : Int) / 4294967296) (c3 : Int) = (z : Int) ∧ z = rev x := by
  have h1 := rev1_lt hx
  have h2 := rev2_lt h1
  have l1 : x &&& m3 ≤ 71777214294589695 := Nat.and_le_right
  have l2 : rev1 x &&& m4 ≤ 281470681808895 := Nat.and_le_right
  have d1 : ((x / 256 : Nat) : Int) = (x : Int) / 256 := by omega
  have d2 : ((rev1 x / 65536 : Nat) : Int) = (rev1 x : Int) / 65536 := by omega
  have d3 : ((rev2 (rev1 x) / 4294967296 : Nat) : Int) = (rev2 (rev1 x) : Int) / 4294967296 := by omega
  refine ⟨x / 256 &&& m3, x &&& m3, (x &&& m3) * 256, rev1 x, rev1 x / 65536 &&& m4, rev1 x &&& m4, (rev1 x &&& m4) * 65536, rev2 (rev1 x), rev2 (rev1 x) * 4294967296 % 18446744073709551616, rev x, ?_, ?_, ?_, ?_, ?_, ?_, ?_, ?_, ?_, ?_, rfl⟩
  · rw [← d1]; exact u64_and_nat _ m3 (by omega) (by decide)
  · exact u64_and_nat _ m3 (by omega) (by decide)
  · rw [IntKind.wrap_u64]; omega
  · exact u64_or_nat _ _ (by have : x / 256 &&& m3 ≤ x / 256 := Nat.and_le_left; omega) (by omega)
  · rw [← d2]; exact u64_and_nat _ m4 (by omega) (by decide)
  · exact u64_and_nat _ m4 (by omega) (by decide)
  · rw [IntKind.wrap_u64]; omega
  · exact u64_or_nat _ _ (by have : rev1 x / 65536 &&& m4 ≤ rev1 x / 65536 := Nat.and_le_left; omega) (by omega)
  · rw [IntKind.wrap_u64]; omega
  · rw [← d3]; exact u64_or_nat _ _ (by omega) (by omega)
theorem rev_any (x : Nat) (hx : x < 18446744073709551616) (w : World) : Calls Tryz.prog 129 #[.int .u64 (x : Int)] w (Ans (.int .u64 (rev x : Nat)) w) := by
  obtain ⟨a, b, c, y, a2, b2, c2, y2, c3, z, e1, e2, e3, e4, e5, e6, e7, e8, e9, e10, hz⟩ := rev_steps x hx
  have HZ := Lib.hid hz
  clear hz
  go_enter Tryz.func129, Tryz.ntmps129
  go_wp2_with fail
  go_ret
  rw [← HZ.out]
  exact ⟨rfl, rfl⟩
theorem two_bytes (x : Nat) : be 2 x = [UInt8.ofNat (x / 256), UInt8.ofNat x] := by
  simp [be]
set_option maxRecDepth 100000 in
theorem putTwo_any (x : Nat) (hx : x < 65536) (w : World) : Calls Tryz.prog 128 #[.int .u16 (x : Int)] w (Put w (be 2 x)) := by
  have HP : Hid (Put w (be 2 x) (.returned (.slice (some ⟨w.heap.size, 0, none⟩) 2 2)) (w.alloc (.cells #[.int .u8 ((x : Int) / 256), .int .u8 ((x : Int) % 256)] 5))) := by
    have e1 : Value.int .u8 ((x : Int) / 256) = U (UInt8.ofNat (x / 256)) := by
      unfold U
      rw [UInt8.toNat_ofNat', Nat.mod_eq_of_lt (by omega)]
      congr 1
    have e2 : Value.int .u8 ((x : Int) % 256) = U (UInt8.ofNat x) := by
      unfold U
      rw [UInt8.toNat_ofNat']
      congr 1
    rw [e1, e2]
    refine ⟨_, 2, 2, rfl, rfl, Nat.le_refl _, ?_, (Below.refl _ _).alloc (Nat.le_refl _) _⟩
    have := World.ownsRow_lit (base := w.heap.size) (e := 5) (size := 1) w #[U (UInt8.ofNat (x / 256)), U (UInt8.ofNat x)] 2 (Nat.le_refl _) (by unfold maxLen; omega) (by simp)
    simpa [be] using this
  go_enter Tryz.func128, Tryz.ntmps128
  go_wp2_with fail
  go_ret
  exact HP.out
set_option maxRecDepth 100000 in
theorem pieces_any (x : Nat) (hx : x < 100000000) (w : World) : Calls Tryz.prog 119 #[.int .i64 (x : Int)] w (Ans (.int .i64 (manyOf x : Nat)) w) := by
  have HP : Hid (Ans (.int .i64 (manyOf x : Nat)) w (.returned (.int .i64 (max 1 (((x : Int) + 480 - 1) / 480)))) w) := by
    refine ⟨?_, rfl⟩
    unfold manyOf
    congr 2
    omega
  go_enter Tryz.func119, Tryz.ntmps119
  go_wp2_with fail
  go_ret
  exact HP.out
end Go.Proofs.YtmhfhhhhbcignaaGreat.Log
