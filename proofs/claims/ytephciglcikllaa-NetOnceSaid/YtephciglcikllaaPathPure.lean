/- The mathematics of names and paths, on lists of bytes. -/
import GoSem.Core.Utf8
namespace Go.Proofs.Ytephciglcikllaa.Path

/-! ### The rune at the head of a list -/
def at0 (l : List UInt8) (k : Nat) : Nat := (l.getD k 0).toNat
def cont (l : List UInt8) (k : Nat) : Bool := decide (k < l.length) && at0 l k / 64 == 2
def dec (l : List UInt8) : Nat × Nat :=
  if at0 l 0 < 0x80 then (at0 l 0, 1)
  else if at0 l 0 / 32 == 6 && cont l 1 then
    if (at0 l 0 % 32) * 64 + at0 l 1 % 64 ≥ 0x80 then ((at0 l 0 % 32) * 64 + at0 l 1 % 64, 2) else (0xFFFD, 1)
  else if at0 l 0 / 16 == 14 && cont l 1 && cont l 2 then
    if (at0 l 0 % 16) * 4096 + (at0 l 1 % 64) * 64 + at0 l 2 % 64 ≥ 0x800 && Utf8.valid ((at0 l 0 % 16) * 4096 + (at0 l 1 % 64) * 64 + at0 l 2 % 64 : Nat) then ((at0 l 0 % 16) * 4096 + (at0 l 1 % 64) * 64 + at0 l 2 % 64, 3) else (0xFFFD, 1)
  else if at0 l 0 / 8 == 30 && cont l 1 && cont l 2 && cont l 3 then
    if (at0 l 0 % 8) * 262144 + (at0 l 1 % 64) * 4096 + (at0 l 2 % 64) * 64 + at0 l 3 % 64 ≥ 0x10000 && Utf8.valid ((at0 l 0 % 8) * 262144 + (at0 l 1 % 64) * 4096 + (at0 l 2 % 64) * 64 + at0 l 3 % 64 : Nat) then ((at0 l 0 % 8) * 262144 + (at0 l 1 % 64) * 4096 + (at0 l 2 % 64) * 64 + at0 l 3 % 64, 4) else (0xFFFD, 1)
  else (0xFFFD, 1)

theorem decode_eq (l : List UInt8) (i : Nat) : Utf8.decode ⟨l.toArray⟩ i = dec (l.drop i) := by
  have h1 : ∀ k, (ByteArray.get! ⟨l.toArray⟩ (i + k)).toNat = at0 (l.drop i) k := by
    intro k
    unfold at0
    congr 1
    simp [ByteArray.get!, List.getD_eq_getElem?_getD, List.getElem?_drop]
    rfl
  have h2 : ∀ k, decide (i + k < (⟨l.toArray⟩ : ByteArray).size) = decide (k < (l.drop i).length) := by
    intro k
    congr 1
    simp [ByteArray.size]
    omega
  unfold Utf8.decode dec cont
  simp only [h1, h2]
  rfl

/-- What kind of a head it is: it is none that is valid, or its width and bytes. -/
inductive Head (l : List UInt8) : Prop
  | bad (h : dec l = (0xFFFD, 1))
  | one (h : dec l = (at0 l 0, 1)) (h0 : at0 l 0 < 128)
  | two (h : (dec l).2 = 2) (h0 : at0 l 0 / 32 = 6) (h1 : cont l 1 = true)
  | three (h : (dec l).2 = 3) (h0 : at0 l 0 / 16 = 14) (h1 : cont l 1 = true) (h2 : cont l 2 = true)
  | four (h : (dec l).2 = 4) (h0 : at0 l 0 / 8 = 30) (h1 : cont l 1 = true) (h2 : cont l 2 = true) (h3 : cont l 3 = true)

theorem head (l : List UInt8) : Head l := by
  by_cases a1 : at0 l 0 < 0x80
  · exact .one (by unfold dec; rw [if_pos a1]) a1
  · by_cases a2 : (at0 l 0 / 32 == 6 && cont l 1) = true
    · by_cases b : (at0 l 0 % 32) * 64 + at0 l 1 % 64 ≥ 0x80
      · simp at a2
        exact .two (by unfold dec; rw [if_neg a1, if_pos (by simpa using a2), if_pos b]) a2.1 a2.2
      · exact .bad (by unfold dec; rw [if_neg a1, if_pos a2, if_neg b])
    · by_cases a3 : (at0 l 0 / 16 == 14 && cont l 1 && cont l 2) = true
      · have a3' := a3
        simp at a3
        rcases Bool.eq_false_or_eq_true (decide ((at0 l 0 % 16) * 4096 + (at0 l 1 % 64) * 64 + at0 l 2 % 64 ≥ 0x800) && Utf8.valid ((at0 l 0 % 16) * 4096 + (at0 l 1 % 64) * 64 + at0 l 2 % 64 : Nat)) with b | b
        · exact .three (by unfold dec; rw [if_neg a1, if_neg a2, if_pos a3', if_pos b]) a3.1.1 a3.1.2 a3.2
        · exact .bad (by unfold dec; rw [if_neg a1, if_neg a2, if_pos a3', if_neg (by rw [b]; exact Bool.false_ne_true)])
      · by_cases a4 : (at0 l 0 / 8 == 30 && cont l 1 && cont l 2 && cont l 3) = true
        · have a4' := a4
          simp at a4
          rcases Bool.eq_false_or_eq_true (decide ((at0 l 0 % 8) * 262144 + (at0 l 1 % 64) * 4096 + (at0 l 2 % 64) * 64 + at0 l 3 % 64 ≥ 0x10000) && Utf8.valid ((at0 l 0 % 8) * 262144 + (at0 l 1 % 64) * 4096 + (at0 l 2 % 64) * 64 + at0 l 3 % 64 : Nat)) with b | b
          · exact .four (by unfold dec; rw [if_neg a1, if_neg a2, if_neg a3, if_pos a4', if_pos b]) a4.1.1.1 a4.1.1.2 a4.1.2 a4.2
          · exact .bad (by unfold dec; rw [if_neg a1, if_neg a2, if_neg a3, if_pos a4', if_neg (by rw [b]; exact Bool.false_ne_true)])
        · exact .bad (by unfold dec; rw [if_neg a1, if_neg a2, if_neg a3, if_neg a4])

theorem cont_lt {l : List UInt8} {k : Nat} (h : cont l k = true) : k < l.length ∧ at0 l k / 64 = 2 := by
  unfold cont at h
  simpa using h

theorem dec_pos (l : List UInt8) : 1 ≤ (dec l).2 := by
  cases head l with
  | bad h | one h => rw [h]; exact Nat.le_refl _
  | two h | three h | four h => omega

theorem dec_le {l : List UInt8} (hl : l ≠ []) : (dec l).2 ≤ l.length := by
  have : 0 < l.length := List.length_pos_iff.2 hl
  cases head l with
  | bad h | one h => rw [h]; exact this
  | two h h0 h1 => have := (cont_lt h1).1; omega
  | three h h0 h1 h2 => have := (cont_lt h2).1; omega
  | four h h0 h1 h2 h3 => have := (cont_lt h3).1; omega

/-- A head hangs on its own bytes alone. -/
theorem dec_same {l m : List UInt8} (hb : (dec l).1 ≠ 0xFFFD) (h : ∀ k, k < (dec l).2 → k < m.length ∧ at0 m k = at0 l k) : dec m = dec l := by
  have same : ∀ k, k < (dec l).2 → at0 m k = at0 l k ∧ (cont l k = true → cont m k = true) := by
    intro k hk
    refine ⟨(h k hk).2, fun hc => ?_⟩
    unfold cont at hc ⊢
    rw [(h k hk).2]
    simp at hc
    simp [hc.2, (h k hk).1]
  cases hh : head l with
  | bad h => rw [h] at hb; exact absurd rfl hb
  | one h0 h1 =>
    have e := (same 0 (by rw [h0]; exact Nat.zero_lt_one)).1
    rw [h0]
    unfold dec
    rw [e, if_pos (by omega)]
  | two h0 h1 h2 =>
    have e0 := (same 0 (by omega)).1
    have e1 := (same 1 (by omega))
    have c1 := e1.2 h2
    unfold dec
    rw [e0, e1.1, h2, c1]
    have : ¬ at0 l 0 < 0x80 := by omega
    simp [h1, this]
  | three h0 h1 h2 h3 =>
    have e0 := (same 0 (by omega)).1
    have e1 := (same 1 (by omega))
    have e2 := (same 2 (by omega))
    have c1 := e1.2 h2
    have c2 := e2.2 h3
    unfold dec
    rw [e0, e1.1, e2.1, h2, c1, h3, c2]
    have : ¬ at0 l 0 < 0x80 := by omega
    have : ¬ at0 l 0 / 32 = 6 := by omega
    simp [*]
  | four h0 h1 h2 h3 h4 =>
    have e0 := (same 0 (by omega)).1
    have e1 := (same 1 (by omega))
    have e2 := (same 2 (by omega))
    have e3 := (same 3 (by omega))
    have c1 := e1.2 h2
    have c2 := e2.2 h3
    have c3 := e3.2 h4
    unfold dec
    rw [e0, e1.1, e2.1, e3.1, h2, c1, h3, c2, h4, c3]

theorem at0_take (l : List UInt8) (n k : Nat) (x : List UInt8) (h : k < n) (hn : n ≤ l.length) : at0 (l.take n ++ x) k = at0 l k := by
  unfold at0
  congr 1
  rw [List.getD_eq_getElem?_getD, List.getD_eq_getElem?_getD, List.getElem?_append_left (by simp; omega), List.getElem?_take, if_pos h]

theorem dec_take {l : List UInt8} (hb : (dec l).1 ≠ 0xFFFD) (x : List UInt8) {n : Nat} (hn : (dec l).2 ≤ n) (hn2 : n ≤ l.length) : dec (l.take n ++ x) = dec l :=
  dec_same hb fun k hk => ⟨by simp; omega, at0_take l n k x (by omega) (by omega)⟩

/-- The width hangs on the first byte; the bytes behind it are those of runes of several bytes. -/
theorem dec_conts {l : List UInt8} (hb : (dec l).1 ≠ 0xFFFD) : ∀ k, 1 ≤ k → k < (dec l).2 → cont l k = true := by
  intro k h1 h2
  cases head l with
  | bad h => rw [h] at hb; exact absurd rfl hb
  | one h0 _ => rw [h0] at h2; simp only at h2; omega
  | two h0 _ c1 => obtain rfl : k = 1 := by omega
                   exact c1
  | three h0 _ c1 c2 =>
    rcases (by omega : k = 1 ∨ k = 2) with rfl | rfl
    · exact c1
    · exact c2
  | four h0 _ c1 c2 c3 =>
    rcases (by omega : k = 1 ∨ k = 2 ∨ k = 3) with rfl | rfl | rfl
    · exact c1
    · exact c2
    · exact c3

theorem dec_width {l m : List UInt8} (h : at0 l 0 = at0 m 0) (hl : (dec l).1 ≠ 0xFFFD) (hm : (dec m).1 ≠ 0xFFFD) : (dec l).2 = (dec m).2 := by
  have key : ∀ x : List UInt8, (dec x).1 ≠ 0xFFFD → (dec x).2 = if at0 x 0 < 128 then 1 else if at0 x 0 / 32 = 6 then 2 else if at0 x 0 / 16 = 14 then 3 else 4 := by
    intro x hx
    cases head x with
    | bad h => rw [h] at hx; exact absurd rfl hx
    | one h0 h1 => rw [h0, if_pos h1]
    | two h0 h1 _ => rw [h0, if_neg (by omega), if_pos h1]
    | three h0 h1 _ _ => rw [h0, if_neg (by omega), if_neg (by omega), if_pos h1]
    | four h0 h1 _ _ _ => rw [h0, if_neg (by omega), if_neg (by omega), if_neg (by omega)]
  rw [key l hl, key m hm, h]

theorem dec_high {l : List UInt8} (hb : (dec l).1 ≠ 0xFFFD) (h2 : 2 ≤ (dec l).2) : 128 ≤ at0 l 0 := by
  cases head l with
  | bad h => rw [h] at hb; exact absurd rfl hb
  | one h0 _ => rw [h0] at h2; simp only at h2; omega
  | two _ h _ => omega
  | three _ h _ _ => omega
  | four _ h _ _ _ => omega

theorem dec_one {l : List UInt8} (hb : (dec l).1 ≠ 0xFFFD) (h1 : (dec l).2 = 1) : (dec l).1 = at0 l 0 := by
  cases head l with
  | bad h => rw [h] at hb; exact absurd rfl hb
  | one h0 _ => rw [h0]
  | two h _ _ => omega
  | three h _ _ _ => omega
  | four h _ _ _ _ => omega

/-- A byte that may not be a rune's first one. -/
theorem dec_stray {l : List UInt8} (h : 128 ≤ at0 l 0) (h6 : at0 l 0 / 32 ≠ 6) (h14 : at0 l 0 / 16 ≠ 14) (h30 : at0 l 0 / 8 ≠ 30) : dec l = (0xFFFD, 1) := by
  unfold dec
  rw [if_neg (by omega), if_neg (by simp [h6]), if_neg (by simp [h14]), if_neg (by simp [h30])]
theorem dec_c0 {l : List UInt8} (h : at0 l 0 = 192) : dec l = (0xFFFD, 1) := by
  unfold dec
  rw [if_neg (by omega)]
  by_cases c : cont l 1 = true
  · rw [if_pos (by simp [h, c]), if_neg (by omega)]
  · rw [if_neg (by simp [c]), if_neg (by simp [h]), if_neg (by simp [h])]

/-! ### Names -/
def okR (r : Nat) : Bool := r != 47 && decide (32 ≤ r) && r != 127 && r != 0xFFFD
def runesF : Nat → List UInt8 → Bool
  | 0, l => l.isEmpty
  | f + 1, l => l.isEmpty || (okR (dec l).1 && runesF f (l.drop (dec l).2))
def runes (l : List UInt8) : Bool := runesF l.length l

theorem runesF_fuel : ∀ (f : Nat) (l : List UInt8), l.length ≤ f → runesF f l = runes l := by
  intro f
  induction f using Nat.strongRecOn with
  | ind f ih =>
    intro l hl
    by_cases e : l = []
    · subst e; cases f <;> rfl
    · have hp := List.length_pos_iff.2 e
      obtain ⟨g, rfl⟩ : ∃ g, f = g + 1 := ⟨f - 1, by omega⟩
      unfold runes
      obtain ⟨m, hm⟩ : ∃ m, l.length = m + 1 := ⟨l.length - 1, by omega⟩
      rw [hm]
      have hd := dec_pos l
      have h1 : (l.drop (dec l).2).length ≤ m := by rw [List.length_drop]; omega
      show (l.isEmpty || (okR (dec l).1 && runesF g (l.drop (dec l).2))) = (l.isEmpty || (okR (dec l).1 && runesF m (l.drop (dec l).2)))
      rw [ih g (by omega) _ (by omega)]
      by_cases hmg : m = g
      · subst hmg; rw [ih m (by omega) _ h1]
      · rw [ih m (by omega) _ h1]
theorem runes_nil : runes [] = true := rfl
theorem runes_step {l : List UInt8} (hl : l ≠ []) : runes l = (okR (dec l).1 && runes (l.drop (dec l).2)) := by
  have hp := List.length_pos_iff.2 hl
  have hd := dec_pos l
  conv => lhs; unfold runes
  obtain ⟨m, hm⟩ : ∃ m, l.length = m + 1 := ⟨l.length - 1, by omega⟩
  rw [hm]
  show (l.isEmpty || (okR (dec l).1 && runesF m (l.drop (dec l).2))) = _
  rw [runesF_fuel m _ (by rw [List.length_drop]; omega)]
  cases l with
  | nil => exact absurd rfl hl
  | cons a l => rfl
theorem okR_ne {r : Nat} (h : okR r = true) : r ≠ 0xFFFD ∧ r ≠ 47 ∧ 32 ≤ r ∧ r ≠ 127 := by
  unfold okR at h
  simp at h
  exact ⟨h.2, h.1.1.1, h.1.1.2, h.1.2⟩

theorem runes_append : ∀ (n : Nat) (a b : List UInt8), a.length ≤ n → runes a = true → runes (a ++ b) = runes b := by
  intro n
  induction n with
  | zero =>
    intro a b h _
    have : a = [] := List.length_eq_zero_iff.1 (by omega)
    subst this; rfl
  | succ n ih =>
    intro a b h ha
    by_cases e : a = []
    · subst e; rfl
    · rw [runes_step e, Bool.and_eq_true] at ha
      have hd := dec_pos a
      have hle := dec_le e
      have hx : dec (a ++ b) = dec a := by
        have := dec_take (okR_ne ha.1).1 b (n := a.length) hle (Nat.le_refl _)
        rwa [List.take_length] at this
      rw [runes_step (by simp [e]), hx, ha.1, Bool.true_and, List.drop_append_of_le_length hle]
      exact ih _ _ (by rw [List.length_drop]; omega) ha.2

theorem at0_drop (l : List UInt8) (i k : Nat) : at0 (l.drop i) k = at0 l (i + k) := by
  unfold at0
  congr 1
  rw [List.getD_eq_getElem?_getD, List.getD_eq_getElem?_getD, List.getElem?_drop]

/-- No byte of a row of good runes is below 32, or a '/', or 127. -/
theorem runes_byte : ∀ (n : Nat) (a : List UInt8), a.length ≤ n → runes a = true → ∀ k, k < a.length → 32 ≤ at0 a k ∧ at0 a k ≠ 47 ∧ at0 a k ≠ 127 := by
  intro n
  induction n with
  | zero => intro a h _ k hk; omega
  | succ n ih =>
    intro a h ha k hk
    have e : a ≠ [] := by rintro rfl; simp at hk
    rw [runes_step e, Bool.and_eq_true] at ha
    have hd := dec_pos a
    have ok := okR_ne ha.1
    by_cases hk2 : k < (dec a).2
    · by_cases h1 : (dec a).2 = 1
      · obtain rfl : k = 0 := by omega
        have := dec_one ok.1 h1
        omega
      · by_cases hk0 : k = 0
        · subst hk0
          have := dec_high ok.1 (by omega)
          omega
        · have := (cont_lt (dec_conts ok.1 k (by omega) hk2)).2
          omega
    · have := ih (a.drop (dec a).2) (by rw [List.length_drop]; omega) ha.2 (k - (dec a).2) (by rw [List.length_drop]; omega)
      rw [at0_drop] at this
      rwa [show (dec a).2 + (k - (dec a).2) = k by omega] at this

/-- A byte that may not be in a name, put in at any place. -/
def badB (c : UInt8) : Prop := c = 0 ∨ c = 31 ∨ c = 127 ∨ c = 47 ∨ c = 128 ∨ c = 255 ∨ c = 192
theorem dec_ascii (c : UInt8) (l : List UInt8) (h : c.toNat < 128) : dec (c :: l) = (c.toNat, 1) := by
  have e : at0 (c :: l) 0 = c.toNat := rfl
  unfold dec
  rw [e, if_pos h]
theorem badB_head (c : UInt8) (hc : badB c) (l : List UInt8) : okR (dec (c :: l)).1 = false := by
  have e : at0 (c :: l) 0 = c.toNat := rfl
  rcases hc with h | h | h | h | h | h | h
  · rw [dec_ascii c l (by rw [h]; decide), h]; rfl
  · rw [dec_ascii c l (by rw [h]; decide), h]; rfl
  · rw [dec_ascii c l (by rw [h]; decide), h]; rfl
  · rw [dec_ascii c l (by rw [h]; decide), h]; rfl
  · rw [dec_stray (by rw [e, h]; decide) (by rw [e, h]; decide) (by rw [e, h]; decide) (by rw [e, h]; decide)]; rfl
  · rw [dec_stray (by rw [e, h]; decide) (by rw [e, h]; decide) (by rw [e, h]; decide) (by rw [e, h]; decide)]; rfl
  · rw [dec_c0 (by rw [e, h]; decide)]; rfl

theorem runes_put (c : UInt8) (hc : badB c) : ∀ (n : Nat) (a : List UInt8), a.length ≤ n → runes a = true → ∀ k, k ≤ a.length → runes (a.take k ++ c :: a.drop k) = false := by
  intro n
  induction n with
  | zero =>
    intro a h _ k hk
    have : a = [] := List.length_eq_zero_iff.1 (by omega)
    subst this
    rw [show k = 0 by simpa using hk]
    rw [runes_step (by simp)]
    show (okR (dec (c :: [])).1 && _) = false
    rw [badB_head c hc]; rfl
  | succ n ih =>
    intro a h ha k hk
    by_cases hk0 : k = 0
    · subst hk0
      rw [runes_step (by simp)]
      show (okR (dec (c :: a)).1 && _) = false
      rw [badB_head c hc]; rfl
    · have e : a ≠ [] := by rintro rfl; simp at hk; exact hk0 hk
      have hp := List.length_pos_iff.2 e
      rw [runes_step e, Bool.and_eq_true] at ha
      have hd := dec_pos a
      have hle := dec_le e
      have ok := okR_ne ha.1
      have hne : a.take k ++ c :: a.drop k ≠ [] := by simp
      by_cases hkn : (dec a).2 ≤ k
      · have hx := dec_take ok.1 (c :: a.drop k) hkn hk
        rw [runes_step hne, hx, List.drop_append_of_le_length (by simp; omega), List.drop_take]
        have := ih (a.drop (dec a).2) (by rw [List.length_drop]; omega) ha.2 (k - (dec a).2) (by rw [List.length_drop]; omega)
        rw [List.drop_drop, show (dec a).2 + (k - (dec a).2) = k by omega] at this
        rw [this, Bool.and_false]
      · rw [runes_step hne]
        by_cases hb : (dec (a.take k ++ c :: a.drop k)).1 = 0xFFFD
        · rw [hb]; rfl
        · have h0 : at0 (a.take k ++ c :: a.drop k) 0 = at0 a 0 := at0_take a k 0 _ (by omega) hk
          have hw := dec_width h0 hb ok.1
          have hcc := cont_lt (dec_conts hb k (by omega) (by omega))
          have hat : at0 (a.take k ++ c :: a.drop k) k = c.toNat := by
            unfold at0
            rw [List.getD_eq_getElem?_getD, List.getElem?_append_right (by simp; omega)]
            simp [Nat.min_eq_left hk]
          have hdr : (a.take k ++ c :: a.drop k).drop (dec a).2 = a.drop ((dec a).2 - 1) := by
            apply List.ext_getElem?
            intro i
            rw [List.getElem?_drop, List.getElem?_drop, List.getElem?_append_right (by simp; omega)]
            have : (dec a).2 + i - (a.take k).length = ((dec a).2 + i - k - 1) + 1 := by simp; omega
            rw [this, List.getElem?_cons_succ, List.getElem?_drop]
            congr 1
            omega
          rw [hw, hdr]
          have hl := cont_lt (dec_conts ok.1 ((dec a).2 - 1) (by omega) (by omega))
          have h9 : at0 (a.drop ((dec a).2 - 1)) 0 = at0 a ((dec a).2 - 1) := by rw [at0_drop]; rfl
          rw [runes_step (l := a.drop ((dec a).2 - 1)) (by intro h; have := congrArg List.length h; simp at this; omega), dec_stray (l := a.drop ((dec a).2 - 1)) (by omega) (by omega) (by omega) (by omega)]
          rw [show okR 0xFFFD = false from rfl, Bool.false_and, Bool.and_false]

def name (l : List UInt8) : Bool := !l.isEmpty && l != [46] && l != [46, 46] && runes l

theorem name_iff (l : List UInt8) : name l = true ↔ l ≠ [] ∧ l ≠ [46] ∧ l ≠ [46, 46] ∧ runes l = true := by
  unfold name
  simp [and_assoc]
theorem name_no {l : List UInt8} (h : name l = true) : ∀ b ∈ l, b ≠ 47 := by
  intro b hb e
  obtain ⟨k, hk, he⟩ := List.getElem_of_mem hb
  have := runes_byte l.length l (Nat.le_refl _) ((name_iff l).1 h).2.2.2 k hk
  apply this.2.1
  unfold at0
  rw [List.getD_eq_getElem?_getD, List.getElem?_eq_getElem hk, Option.getD_some, he, e]
  rfl

/-! ### Paths -/
def segs : List UInt8 → List (List UInt8)
  | [] => [[]]
  | b :: l => if b = 47 then [] :: segs l else match segs l with
    | s :: ss => (b :: s) :: ss
    | [] => [[b]]
theorem segs_ne (l : List UInt8) : segs l ≠ [] := by
  cases l with
  | nil => simp [segs]
  | cons b l =>
    unfold segs
    split
    · simp
    · split <;> simp
theorem segs_last : ∀ (s : List UInt8), (∀ b ∈ s, b ≠ 47) → segs s = [s]
  | [], _ => rfl
  | b :: s, h => by
    unfold segs
    rw [if_neg (h b (by simp)), segs_last s (fun c hc => h c (by simp [hc]))]
theorem segs_cut : ∀ (s r : List UInt8), (∀ b ∈ s, b ≠ 47) → segs (s ++ 47 :: r) = s :: segs r
  | [], r, _ => by
    rw [List.nil_append, segs, if_pos rfl]
  | b :: s, r, h => by
    rw [List.cons_append, segs, if_neg (h b (by simp)), segs_cut s r (fun c hc => h c (by simp [hc]))]
/-- The text that a list of parts is. -/
def ofL (ps : List (List UInt8)) : List UInt8 := if ps = [] then [47] else ps.flatMap (47 :: ·)
theorem flat_segs : ∀ l : List UInt8, (segs l).flatMap (47 :: ·) = 47 :: l
  | [] => rfl
  | b :: l => by
    have ih := flat_segs l
    unfold segs
    split
    · next h => subst h; rw [List.flatMap_cons, ih]; rfl
    · split
      · next s ss h => rw [h] at ih; rw [List.flatMap_cons] at ih ⊢; injection ih with _ ih; simp [← ih]
      · next h => exact absurd h (segs_ne l)
theorem segs_flat : ∀ (ps : List (List UInt8)), ps ≠ [] → (∀ s ∈ ps, ∀ b ∈ s, b ≠ 47) → ∃ t, ps.flatMap (47 :: ·) = 47 :: t ∧ segs t = ps
  | [], h, _ => absurd rfl h
  | [s], _, h => ⟨s, by simp, segs_last s (h s (by simp))⟩
  | s :: s2 :: ps, _, h => by
    obtain ⟨t, h1, h2⟩ := segs_flat (s2 :: ps) (by simp) (fun x hx => h x (by simp at hx ⊢; right; exact hx))
    refine ⟨s ++ 47 :: t, ?_, ?_⟩
    · rw [List.flatMap_cons, h1]; simp
    · rw [segs_cut s t (h s (by simp)), h2]

def partsF (p : List UInt8) : Option (List (List UInt8)) :=
  match p with
  | [] => none
  | b :: t => if b = 47 ∧ t.length ≤ 63 then (if t = [] then some [] else if (segs t).all name then some (segs t) else none) else none

/-- A path is its parts. -/
theorem parts_iff (p : List UInt8) (ps : List (List UInt8)) : partsF p = some ps ↔ p = ofL ps ∧ p.length ≤ 64 ∧ ∀ s ∈ ps, name s = true := by
  constructor
  · intro h
    cases p with
    | nil => cases h
    | cons b t =>
      unfold partsF at h
      simp only at h
      split at h
      · next hb =>
        obtain ⟨rfl, hl⟩ := hb
        split at h
        · next ht => subst ht; injection h with h; subst h; exact ⟨rfl, by simp, by simp⟩
        · next ht =>
          split at h
          · next ha =>
            injection h with h; subst h
            refine ⟨?_, by simp; omega, by simpa using ha⟩
            unfold ofL
            rw [if_neg (segs_ne t), flat_segs]
          · cases h
      · cases h
  · rintro ⟨h1, h2, h3⟩
    by_cases e : ps = []
    · subst e; rw [h1]; rfl
    · obtain ⟨t, e1, e2⟩ := segs_flat ps e (fun s hs => name_no (h3 s hs))
      have : p = 47 :: t := by rw [h1, ofL, if_neg e, e1]
      subst this
      have ht : t ≠ [] := by
        rintro rfl
        have : ps = [[]] := by rw [← e2]; rfl
        subst this
        have := h3 [] (by simp)
        cases this
      unfold partsF
      simp only
      rw [if_pos ⟨trivial, by simp at h2; omega⟩, if_neg ht, e2, if_pos (by simpa using h3)]

theorem ofL_inj {ps qs : List (List UInt8)} (h1 : ∀ s ∈ ps, name s = true) (h2 : ∀ s ∈ qs, name s = true) (h : ofL ps = ofL qs) : ps = qs := by
  have key : ∀ rs : List (List UInt8), (∀ s ∈ rs, name s = true) → rs ≠ [] → ∃ t, ofL rs = 47 :: t ∧ segs t = rs ∧ t ≠ [] := by
    intro rs hr e
    obtain ⟨t, e1, e2⟩ := segs_flat rs e (fun s hs => name_no (hr s hs))
    refine ⟨t, by rw [ofL, if_neg e, e1], e2, ?_⟩
    rintro rfl
    have : rs = [[]] := by rw [← e2]; rfl
    subst this
    have := hr [] (by simp)
    cases this
  by_cases e1 : ps = []
  · by_cases e2 : qs = []
    · rw [e1, e2]
    · obtain ⟨t, a, _, c⟩ := key qs h2 e2
      rw [← h, e1] at a
      injection a with _ a
      exact absurd a.symm c
  · obtain ⟨t, a, b, c⟩ := key ps h1 e1
    by_cases e2 : qs = []
    · rw [h, e2] at a
      injection a with _ a
      exact absurd a.symm c
    · obtain ⟨t2, a2, b2, _⟩ := key qs h2 e2
      rw [a, a2] at h
      injection h with _ h
      rw [← b, ← b2, h]
theorem ofL_length (ps : List (List UInt8)) : ps.length ≤ (ofL ps).length := by
  unfold ofL
  split
  · next h => subst h; simp
  · induction ps with
    | nil => simp
    | cons s ps ih =>
      rw [List.flatMap_cons, List.length_append, List.length_cons, List.length_cons]
      by_cases h : ps = []
      · subst h; simp
      · have := ih h
        omega
def underF (p r : List UInt8) : Bool :=
  match partsF p, partsF r with
  | some a, some b => decide (b = a.take b.length)
  | _, _ => false
end Go.Proofs.Ytephciglcikllaa.Path
