/- Chapter 11's mathematics: which message may be, its bytes, what bytes say; what is put is got, and what is got was put so. -/
import Derived.Test.YtobdkgmlkchggaaLines
import Derived.Test.YtobdkgmlkchggaaReadPure
namespace Go.Proofs.Ytobdkgmlkchggaa.Zm
open Go.RowKit Sto

/-- A message. -/
structure Mg where
  kind : Nat
  epoch : Nat
  current : Nat
  at_ : Int
  commit : Int
  lines : List Ln
/-- It may be. -/
def Mg.may (m : Mg) : Prop :=
  1 ≤ m.kind ∧ m.kind ≤ 6 ∧ 1 ≤ m.epoch ∧ m.epoch ≤ top ∧ m.current ≤ m.epoch ∧ 0 ≤ m.at_ ∧ m.at_ ≤ 256 ∧ 0 ≤ m.commit ∧ m.commit ≤ 256 ∧ m.lines.length ≤ 256 ∧
    (∀ x ∈ m.lines, lineB x = true) ∧ (m.kind = 2 ∨ m.current = 0) ∧ (m.kind = 5 ∨ m.commit = 0) ∧ (m.kind = 5 ∨ m.kind = 6 ∨ m.at_ = 0) ∧ (m.kind = 2 ∨ m.kind = 4 ∨ m.kind = 5 ∨ m.lines.length = 0)
instance (m : Mg) : Decidable m.may := by unfold Mg.may; infer_instance
/-- It is a message of the language's own types. -/
structure Mg.Ok (m : Mg) : Prop where
  kind : m.kind < 256
  epoch : m.epoch < 18446744073709551616
  current : m.current < 18446744073709551616
  at0 : -9223372036854775808 ≤ m.at_
  at1 : m.at_ ≤ 9223372036854775807
  commit0 : -9223372036854775808 ≤ m.commit
  commit1 : m.commit ≤ 9223372036854775807
  many : m.lines.length ≤ 140737488355328
  each : ∀ x ∈ m.lines, x.epoch < 18446744073709551616 ∧ x.bytes.length ≤ 140737488355328

/-- A number of the language as one that has no sign. -/
def u64 (z : Int) : Nat := (z % 18446744073709551616).toNat
theorem u64_of {z : Int} (h : 0 ≤ z) (h2 : z < 18446744073709551616) : (u64 z : Int) = z := by unfold u64; omega
theorem u64_lt (z : Int) : u64 z < 18446744073709551616 := by unfold u64; omega
theorem u64_nat {n : Nat} (h : n < 18446744073709551616) : u64 (n : Int) = n := by unfold u64; omega

/-- The bytes of a line, of a message. -/
def encL (x : Ln) : List UInt8 := be 8 x.epoch ++ (be 4 x.bytes.length ++ x.bytes)
def encLs (l : List Ln) : List UInt8 := l.flatMap encL
def Mg.enc (m : Mg) : List UInt8 := be 1 m.kind ++ (be 8 m.epoch ++ (be 8 m.current ++ (be 8 (u64 m.at_) ++ (be 8 (u64 m.commit) ++ (be 8 m.lines.length ++ encLs m.lines)))))
theorem encLs_snoc (l : List Ln) (x : Ln) : encLs (l ++ [x]) = encLs l ++ encL x := by simp [encLs]
theorem encLs_cons (l : List Ln) (x : Ln) : encLs (x :: l) = encL x ++ encLs l := by simp [encLs]
theorem encL_length (x : Ln) : (encL x).length = 12 + x.bytes.length := by simp [encL, be_length]; omega
theorem encLs_length_le {l : List Ln} {b : Nat} (h : ∀ x ∈ l, x.bytes.length ≤ b) : (encLs l).length ≤ l.length * (12 + b) := by
  induction l with
  | nil => simp [encLs]
  | cons x l ih =>
    have h1 := h x List.mem_cons_self
    have h2 := ih fun y hy => h y (List.mem_cons_of_mem _ hy)
    rw [encLs_cons, List.length_append, encL_length, List.length_cons, Nat.succ_mul]
    omega
theorem enc_length (m : Mg) : m.enc.length = 41 + (encLs m.lines).length := by simp [Mg.enc, be_length]; omega

/-- A line is read, lines are read. -/
def lineS (s : List UInt8 × Bool) : Ln × (List UInt8 × Bool) := (⟨val (takeS 8 s).1, (textS (takeS 8 s).2).1⟩, (textS (takeS 8 s).2).2)
def linesS : Nat → List UInt8 × Bool → List Ln × (List UInt8 × Bool)
  | 0, s => ([], s)
  | k + 1, s => ((linesS k s).1 ++ [(lineS (linesS k s).2).1], (lineS (linesS k s).2).2)
theorem linesS_length (k : Nat) (s : List UInt8 × Bool) : (linesS k s).1.length = k := by
  induction k with
  | zero => rfl
  | succ k ih => simp [linesS, ih]
theorem linesS_front (k : Nat) (s : List UInt8 × Bool) : linesS (k + 1) s = ((lineS s).1 :: (linesS k (lineS s).2).1, (linesS k (lineS s).2).2) := by
  induction k with
  | zero => rfl
  | succ k ih => rw [linesS, ih]; rfl
theorem lineS_app {x : Ln} (he : x.epoch < 18446744073709551616) (hb : x.bytes.length < 4294967296) (rest : List UInt8) : lineS (encL x ++ rest, false) = (x, (rest, false)) := by
  obtain ⟨h1, h2⟩ := takeS_be 8 x.epoch (be 4 x.bytes.length ++ x.bytes ++ rest) (by omega)
  unfold lineS encL
  rw [List.append_assoc (be 8 _), h1]
  simp only
  rw [h2, textS_app' _ _ hb]
theorem linesS_app : ∀ (l : List Ln) (_ : ∀ x ∈ l, x.epoch < 18446744073709551616 ∧ x.bytes.length < 4294967296) (rest : List UInt8), linesS l.length (encLs l ++ rest, false) = (l, (rest, false)) := by
  intro l
  induction l with
  | nil => intro _ rest; simp [linesS, encLs]
  | cons x l ih =>
    intro h rest
    obtain ⟨h1, h2⟩ := h x List.mem_cons_self
    rw [List.length_cons, linesS_front, encLs_cons, List.append_assoc, lineS_app h1 h2, ih fun y hy => h y (List.mem_cons_of_mem _ hy)]
theorem lineS_inv {s : List UInt8 × Bool} (h : (lineS s).2.2 = false) : s.2 = false ∧ s.1 = encL (lineS s).1 ++ (lineS s).2.1 := by
  obtain ⟨h1, h2, h3⟩ := textS_inv h
  obtain ⟨h4, h5, h6⟩ := takeS_inv h1
  refine ⟨h4, ?_⟩
  unfold lineS encL
  simp only
  rw [be_val _ 8 h6, h5, h2]
  simp
theorem linesS_inv : ∀ (k : Nat) {s : List UInt8 × Bool} (_ : (linesS k s).2.2 = false), s.2 = false ∧ s.1 = encLs (linesS k s).1 ++ (linesS k s).2.1 := by
  intro k
  induction k with
  | zero => intro s h; exact ⟨h, by simp [linesS, encLs]⟩
  | succ k ih =>
    intro s h
    obtain ⟨h1, h2⟩ := lineS_inv h
    obtain ⟨h3, h4⟩ := ih h1
    refine ⟨h3, ?_⟩
    rw [linesS, encLs_snoc, List.append_assoc, ← h2]
    exact h4
/-- Once it is bad it stays so. -/
theorem takeS_bad2 (k : Nat) {s : List UInt8 × Bool} (h : s.2 = true) : (takeS k s).2 = s ∧ (takeS k s).1 = [] := by
  obtain ⟨a, b⟩ := s
  simp only at h
  subst h
  simp [takeS]
theorem lineS_bad {s : List UInt8 × Bool} (h : s.2 = true) : (lineS s).2 = s := by
  have h1 := (takeS_bad2 8 h).1
  have h2 := (takeS_bad2 4 h).1
  unfold lineS textS
  simp only
  rw [h1, h2]
  exact (takeS_bad2 _ h).1
theorem linesS_bad (k : Nat) {s : List UInt8 × Bool} (h : s.2 = true) : (linesS k s).2 = s := by
  induction k with
  | zero => rfl
  | succ k ih => rw [linesS]; show (lineS _).2 = s; rw [ih]; exact lineS_bad h
/-- Bad at one line, bad at all that come behind. -/
theorem linesS_bad_le {j k : Nat} {s : List UInt8 × Bool} (hjk : j ≤ k) (h : (linesS j s).2.2 = true) : (linesS k s).2 = (linesS j s).2 := by
  induction k with
  | zero =>
    have : j = 0 := by omega
    subst this
    rfl
  | succ k ih =>
    rcases Nat.lt_or_ge j (k + 1) with hlt | hge
    · have e := ih (by omega)
      rw [linesS]
      show (lineS _).2 = _
      rw [e]
      exact lineS_bad h
    · have : j = k + 1 := by omega
      rw [this]

/-- The states in which a message is read. -/
def s1 (b : List UInt8) : List UInt8 × Bool := (takeS 1 (b, false)).2
def s2 (b : List UInt8) : List UInt8 × Bool := (takeS 8 (s1 b)).2
def s3 (b : List UInt8) : List UInt8 × Bool := (takeS 8 (s2 b)).2
def s4 (b : List UInt8) : List UInt8 × Bool := (countS 256 (s3 b)).2
def s5 (b : List UInt8) : List UInt8 × Bool := (countS 256 (s4 b)).2
def s6 (b : List UInt8) : List UInt8 × Bool := (countS 256 (s5 b)).2
def nOf (b : List UInt8) : Nat := (countS 256 (s5 b)).1
/-- What bytes say, and what is left. -/
def said (b : List UInt8) : Mg := ⟨val (takeS 1 (b, false)).1, val (takeS 8 (s1 b)).1, val (takeS 8 (s2 b)).1, ((countS 256 (s3 b)).1 : Int), ((countS 256 (s4 b)).1 : Int), (linesS (nOf b) (s6 b)).1⟩
def left (b : List UInt8) : List UInt8 × Bool := (linesS (nOf b) (s6 b)).2
/-- What Get answers: a message, or none. -/
def getOk (b : List UInt8) : Prop := (left b).2 = false ∧ (left b).1 = [] ∧ (said b).may
instance (b : List UInt8) : Decidable (getOk b) := by unfold getOk; infer_instance
def Mg.zero : Mg := ⟨0, 0, 0, 0, 0, []⟩
def getM (b : List UInt8) : Mg := if getOk b then said b else Mg.zero
def getE (b : List UInt8) : Int := if getOk b then 0 else 2

theorem nOf_le (b : List UInt8) : nOf b ≤ 256 := by
  unfold nOf countS
  split
  · exact Nat.zero_le _
  · next h => simp only; omega
theorem count_le (s : List UInt8 × Bool) : (countS 256 s).1 ≤ 256 := by
  unfold countS
  split
  · exact Nat.zero_le _
  · next h => simp only; omega
theorem said_ok (b : List UInt8) : (said b).kind < 256 ∧ (said b).epoch < 18446744073709551616 ∧ (said b).current < 18446744073709551616 := by
  refine ⟨?_, takeS_val8 8 _ (by omega), takeS_val8 8 _ (by omega)⟩
  have := val_lt (takeS 1 (b, false)).1
  have h2 := takeS_len 1 (b, false)
  exact Nat.lt_of_lt_of_le this (Nat.le_trans (Nat.pow_le_pow_right (by omega) h2) (by decide))

theorem line_ok {x : Ln} (h : lineB x = true) : x.epoch < 18446744073709551616 ∧ x.bytes.length < 4294967296 := by
  obtain ⟨h1, h2, h3, h4⟩ := lineB_iff.1 h
  unfold top at h2
  omega
theorem top_lt : top < 18446744073709551616 := by unfold top; omega
/-- What is put is read. -/
theorem said_enc {m : Mg} (h : m.may) (rest : List UInt8) : said (m.enc ++ rest) = m ∧ left (m.enc ++ rest) = (rest, false) := by
  obtain ⟨h1, h2, h3, h4, h5, h6, h7, h8, h9, h10, h11, -⟩ := h
  have ht := top_lt
  obtain ⟨kind, epoch, current, at_, commit, lines⟩ := m
  simp only at h1 h2 h3 h4 h5 h6 h7 h8 h9 h10 h11
  obtain ⟨a, rfl⟩ := Int.eq_ofNat_of_zero_le h6
  obtain ⟨c, rfl⟩ := Int.eq_ofNat_of_zero_le h8
  have ea : u64 ((a : Nat) : Int) = a := u64_nat (by omega)
  have ec : u64 ((c : Nat) : Int) = c := u64_nat (by omega)
  have e0 : (⟨kind, epoch, current, (a : Int), (c : Int), lines⟩ : Mg).enc ++ rest = be 1 kind ++ (be 8 epoch ++ (be 8 current ++ (be 8 a ++ (be 8 c ++ (be 8 lines.length ++ (encLs lines ++ rest)))))) := by
    unfold Mg.enc
    simp only [ea, ec, List.append_assoc]
  rw [e0]
  clear e0
  obtain ⟨p1, q1⟩ := takeS_be 1 kind (be 8 epoch ++ (be 8 current ++ (be 8 a ++ (be 8 c ++ (be 8 lines.length ++ (encLs lines ++ rest)))))) (by omega)
  obtain ⟨p2, q2⟩ := takeS_be 8 epoch (be 8 current ++ (be 8 a ++ (be 8 c ++ (be 8 lines.length ++ (encLs lines ++ rest))))) (by omega)
  obtain ⟨p3, q3⟩ := takeS_be 8 current (be 8 a ++ (be 8 c ++ (be 8 lines.length ++ (encLs lines ++ rest)))) (by omega)
  have p4 := countS_app 256 a (be 8 c ++ (be 8 lines.length ++ (encLs lines ++ rest))) (by omega) h7
  have p5 := countS_app 256 c (be 8 lines.length ++ (encLs lines ++ rest)) (by omega) h9
  have p6 := countS_app 256 lines.length (encLs lines ++ rest) (by omega) (by omega)
  have p7 := linesS_app lines (fun x hx => line_ok (h11 x hx)) rest
  generalize be 1 kind ++ (be 8 epoch ++ (be 8 current ++ (be 8 a ++ (be 8 c ++ (be 8 lines.length ++ (encLs lines ++ rest)))))) = B at *
  have t1 : s1 B = (be 8 epoch ++ (be 8 current ++ (be 8 a ++ (be 8 c ++ (be 8 lines.length ++ (encLs lines ++ rest))))), false) := congrArg Prod.snd p1
  have t2 : s2 B = (be 8 current ++ (be 8 a ++ (be 8 c ++ (be 8 lines.length ++ (encLs lines ++ rest)))), false) := by unfold s2; rw [t1, p2]
  have t3 : s3 B = (be 8 a ++ (be 8 c ++ (be 8 lines.length ++ (encLs lines ++ rest))), false) := by unfold s3; rw [t2, p3]
  have t4 : s4 B = (be 8 c ++ (be 8 lines.length ++ (encLs lines ++ rest)), false) := by unfold s4; rw [t3, p4]
  have t5 : s5 B = (be 8 lines.length ++ (encLs lines ++ rest), false) := by unfold s5; rw [t4, p5]
  have t6 : s6 B = (encLs lines ++ rest, false) := by unfold s6; rw [t5, p6]
  have tn : nOf B = lines.length := by unfold nOf; rw [t5, p6]
  unfold said left
  rw [t6, tn, p7, t1, t2, t3, t4, p1, p2, p3, p4, p5]
  simp only [q1, q2, q3, and_self]
/-- What is read was put so. -/
theorem enc_said {b : List UInt8} (h : (left b).2 = false) : (said b).enc ++ (left b).1 = b := by
  obtain ⟨a6, b6⟩ := linesS_inv _ h
  obtain ⟨a5, b5, c5⟩ := countS_inv (s := s5 b) a6
  obtain ⟨a4, b4, c4⟩ := countS_inv (s := s4 b) a5
  obtain ⟨a3, b3, c3⟩ := countS_inv (s := s3 b) a4
  obtain ⟨a2, b2, c2⟩ := takeS_inv (s := s2 b) a3
  obtain ⟨a1, b1, c1⟩ := takeS_inv (s := s1 b) a2
  obtain ⟨a0, b0, c0⟩ := takeS_inv (s := (b, false)) a1
  have e1 := u64_nat (n := (countS 256 (s3 b)).1) (by omega)
  have e2 := u64_nat (n := (countS 256 (s4 b)).1) (by omega)
  have hlen : (linesS (nOf b) (s6 b)).1.length = nOf b := linesS_length _ _
  have d0 := be_val _ 1 c0
  have d1 := be_val _ 8 c1
  have d2 := be_val _ 8 c2
  unfold said Mg.enc
  simp only
  rw [e1, e2, hlen, d0, d1, d2]
  simp only [List.append_assoc]
  have f6 : encLs (linesS (nOf b) (s6 b)).1 ++ (left b).1 = (s6 b).1 := b6.symm
  rw [f6]
  have f5 : be 8 (nOf b) ++ (s6 b).1 = (s5 b).1 := b5.symm
  rw [f5]
  have f4 : be 8 (countS 256 (s4 b)).1 ++ (s5 b).1 = (s4 b).1 := b4.symm
  rw [f4]
  have f3 : be 8 (countS 256 (s3 b)).1 ++ (s4 b).1 = (s3 b).1 := b3.symm
  rw [f3]
  have f2 : (takeS 8 (s2 b)).1 ++ (s3 b).1 = (s2 b).1 := b2.symm
  rw [f2]
  have f1 : (takeS 8 (s1 b)).1 ++ (s2 b).1 = (s1 b).1 := b1.symm
  rw [f1]
  exact b0.symm
theorem get_enc {m : Mg} (h : m.may) : getOk m.enc ∧ getM m.enc = m := by
  have h1 := said_enc h []
  rw [List.append_nil] at h1
  obtain ⟨h1, h2⟩ := h1
  have h3 : getOk m.enc := ⟨by rw [h2], by rw [h2], by rw [h1]; exact h⟩
  exact ⟨h3, by unfold getM; rw [if_pos h3, h1]⟩
theorem enc_get {b : List UInt8} (h : getOk b) : (said b).may ∧ (said b).enc = b := by
  refine ⟨h.2.2, ?_⟩
  have := enc_said h.1
  rwa [h.2.1, List.append_nil] at this
theorem get_more {m : Mg} (h : m.may) : ¬ getOk (m.enc ++ [0]) := by
  intro hg
  have := (said_enc h [0]).2
  have h2 := hg.2.1
  rw [this] at h2
  cases h2
theorem get_less {m : Mg} (h : m.may) : ¬ getOk m.enc.dropLast := by
  intro hg
  obtain ⟨h1, h2⟩ := enc_get hg
  have hne : m.enc ≠ [] := by
    intro e
    have := enc_length m
    rw [e] at this
    simp at this
    omega
  have e : (said m.enc.dropLast).enc ++ [m.enc.getLast hne] = m.enc := by
    rw [h2]
    exact List.dropLast_concat_getLast hne
  have h3 := (said_enc h1 [m.enc.getLast hne]).2
  rw [e] at h3
  have h4 := (get_enc h).1.2.1
  rw [h3] at h4
  cases h4
theorem enc_inj {m n : Mg} (hm : m.may) (hn : n.may) : m.enc = n.enc ↔ m = n := by
  refine ⟨fun h => ?_, fun h => by rw [h]⟩
  have h1 := (get_enc hm).2
  rw [h] at h1
  exact h1.symm.trans (get_enc hn).2
theorem linesS_ok : ∀ (k : Nat) (s : List UInt8 × Bool), ∀ x ∈ (linesS k s).1, x.epoch < 18446744073709551616 ∧ x.bytes.length ≤ s.1.length := by
  intro k
  induction k with
  | zero => intro s x hx; simp [linesS] at hx
  | succ k ih =>
    intro s x hx
    rw [linesS_front] at hx
    have hle : ∀ (j : Nat) (u : List UInt8 × Bool), (takeS j u).1.length ≤ u.1.length ∧ (takeS j u).2.1.length ≤ u.1.length := fun j u => by
      unfold takeS
      split
      · simp
      · simp
        omega
    rcases List.mem_cons.1 hx with rfl | hx
    · refine ⟨takeS_val8 8 _ (by omega), ?_⟩
      have h1 := (hle 8 s).2
      have h2 := (hle 4 (takeS 8 s).2).2
      have h3 := (hle (val (takeS 4 (takeS 8 s).2).1) (takeS 4 (takeS 8 s).2).2).1
      show (takeS _ _).1.length ≤ _
      omega
    · have h0 := ih (lineS s).2 x hx
      have h1 := (hle 8 s).2
      have h2 := (hle 4 (takeS 8 s).2).2
      have h3 := (hle (val (takeS 4 (takeS 8 s).2).1) (takeS 4 (takeS 8 s).2).2).2
      have h4 : (lineS s).2.1.length ≤ s.1.length := by
        show (takeS _ _).2.1.length ≤ _
        omega
      exact ⟨h0.1, by omega⟩
theorem states_le (b : List UInt8) : (s6 b).1.length ≤ b.length := by
  have hle : ∀ (j : Nat) (u : List UInt8 × Bool), (takeS j u).2.1.length ≤ u.1.length := fun j u => by
    unfold takeS
    split
    · simp
    · simp
  have hc : ∀ u : List UInt8 × Bool, (countS 256 u).2.1.length ≤ u.1.length := fun u => by
    have := hle 8 u
    unfold countS
    split <;> exact this
  have h1 := hle 1 (b, false)
  have h2 := hle 8 (s1 b)
  have h3 := hle 8 (s2 b)
  have h4 := hc (s3 b)
  have h5 := hc (s4 b)
  have h6 := hc (s5 b)
  show (countS 256 (s5 b)).2.1.length ≤ _
  have e1 : (takeS 1 (b, false)).2 = s1 b := rfl
  have e2 : (takeS 8 (s1 b)).2 = s2 b := rfl
  have e3 : (takeS 8 (s2 b)).2 = s3 b := rfl
  have e4 : (countS 256 (s3 b)).2 = s4 b := rfl
  have e5 : (countS 256 (s4 b)).2 = s5 b := rfl
  rw [e1] at h1
  rw [e2] at h2
  rw [e3] at h3
  rw [e4] at h4
  rw [e5] at h5
  simp only at h1
  omega
theorem said_good (b : List UInt8) (hb : b.length ≤ 1000000) : (said b).Ok := by
  obtain ⟨h1, h2, h3⟩ := said_ok b
  have h4 := count_le (s3 b)
  have h5 := count_le (s4 b)
  refine ⟨h1, h2, h3, ?_, ?_, ?_, ?_, ?_, fun x hx => ?_⟩
  · show -9223372036854775808 ≤ ((countS 256 (s3 b)).1 : Int); omega
  · show ((countS 256 (s3 b)).1 : Int) ≤ 9223372036854775807; omega
  · show -9223372036854775808 ≤ ((countS 256 (s4 b)).1 : Int); omega
  · show ((countS 256 (s4 b)).1 : Int) ≤ 9223372036854775807; omega
  · show (linesS (nOf b) (s6 b)).1.length ≤ _
    rw [linesS_length]
    have := nOf_le b
    omega
  · obtain ⟨q1, q2⟩ := linesS_ok (nOf b) (s6 b) x hx
    have := states_le b
    exact ⟨q1, by omega⟩
theorem take_snoc1 {α : Type} (l : List α) (k : Nat) (a : α) (h : l[k]? = some a) : l.take (k + 1) = l.take k ++ [a] := by
  obtain ⟨hk, rfl⟩ := List.getElem?_eq_some_iff.1 h
  rw [List.take_append_getElem hk]
end Go.Proofs.Ytobdkgmlkchggaa.Zm
