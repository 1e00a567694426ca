/- The contracts of wire's reader. -/
import Derived.Test.YtobdkgmlkchggaaPut
namespace Go.Proofs.Ytobdkgmlkchggaa
open Go.RowKit

/-- The number that bytes are, the highest first. -/
def val (bs : List UInt8) : Nat := bs.foldl (fun v b => v * 256 + b.toNat) 0

theorem val_snoc (bs : List UInt8) (b : UInt8) : val (bs ++ [b]) = val bs * 256 + b.toNat := by simp [val]
theorem val_lt (bs : List UInt8) : val bs < 256 ^ bs.length := by
  suffices h : ∀ r : List UInt8, val r.reverse < 256 ^ r.length by
    have := h bs.reverse
    simpa using this
  intro r
  induction r with
  | nil => simp [val]
  | cons b r ih =>
    rw [List.reverse_cons, val_snoc, List.length_cons, Nat.pow_succ]
    have := b.toNat_lt
    omega

theorem or_byte (v b : Nat) (hv : v * 256 < 18446744073709551616) (hb : b < 256) : bits .or .u64 (IntKind.u64.wrap ((v : Int) * 256)) (b : Int) = ((v * 256 + b : Nat) : Int) := by
  have h1 : IntKind.u64.wrap ((v : Int) * 256) = ((v * 256 : Nat) : Int) := by rw [IntKind.wrap_u64]; omega
  rw [h1, u64_or_nat _ _ hv (by omega)]
  have := Nat.two_pow_add_eq_or_of_lt (i := 8) (show b < 2 ^ 8 from hb) v
  rw [Nat.mul_comm v 256]
  exact congrArg _ this.symm

theorem pow_le_7 {k : Nat} (h : k ≤ 7) : 256 ^ k ≤ 72057594037927936 := Nat.le_trans (Nat.pow_le_pow_right (by omega) h) (by decide)
theorem val_lt8 (bs : List UInt8) (h : bs.length ≤ 8) : val bs < 18446744073709551616 := Nat.lt_of_lt_of_le (val_lt bs) (Nat.le_trans (Nat.pow_le_pow_right (by omega) h) (by decide))

set_option maxHeartbeats 400000 in
theorem num_any (A : Option Addr) (n c : Nat) (bs : List UInt8) (w : World) (h : Rd w A n bs) (hn : n ≤ 8) :
    Calls Try.prog 46 #[.slice A n c] w fun e w' => e = .returned (.int .u64 (val bs : Int)) ∧ w = w' := by
  have H := Lib.hid h
  clear h
  go_enter Try.func46, Try.ntmps46
  go_wp2_with fail
  go_loop [3, 5, 8] (fun v _ i => ∃ k : Nat, k ≤ n ∧ i = .int .i64 (k : Int) ∧ v = .int .u64 (val (bs.take k) : Int)) (fun _ _ i => n - (intOf i).toNat)
  case atStart => exact ⟨0, by omega, rfl, rfl⟩
  case round =>
    obtain ⟨k, hk, rfl, rfl⟩ := hrel
    by_cases hlt : k < n
    · obtain ⟨ad, rfl, hc⟩ := H.out.cells (by omega)
      have hkl : k < bs.length := by rw [H.out.len]; exact hlt
      have hcell := hc k _ (List.getElem?_eq_getElem hkl)
      clear hc
      have HV : Hid (bits .or .u64 (IntKind.u64.wrap ((val (bs.take k) : Int) * 256)) ((bs[k]).toNat : Int) = (val (bs.take (k + 1)) : Int)) := by
        have hp := pow_le_7 (show k ≤ 7 by omega)
        have hv := val_lt (bs.take k)
        have hbv := (bs[k]).toNat_lt
        rw [List.length_take, Nat.min_eq_left (by omega)] at hv
        have := or_byte (val (bs.take k)) (bs[k]).toNat (by omega) (by omega)
        rw [← List.take_append_getElem hkl, val_snoc]
        exact this
      unfold U at hcell
      have hbv := (bs[k]).toNat_lt
      go_wp2_with fail
      exact ⟨⟨k + 1, by omega, rfl, congrArg (Value.int .u64) HV.out⟩, by simp [intOf]; omega⟩
    · obtain rfl : k = n := by omega
      have HL : Hid (bs.take k = bs) := List.take_of_length_le (by rw [H.out.len]; omega)
      go_wp2_with fail
      go_ret
      rw [HL.out]
      exact ⟨rfl, rfl⟩

/-- A reader's state: the bytes that are left, and whether it is bad. -/
def takeS (k : Nat) (s : List UInt8 × Bool) : List UInt8 × (List UInt8 × Bool) :=
  if s.2 = true ∨ s.1.length < k then ([], (s.1, true)) else (s.1.take k, (s.1.drop k, false))

/-- Block r is a reader in state s. -/
def Rdr (w : World) (r : Nat) (s : List UInt8 × Bool) : Prop :=
  ∃ A n c, Bk w r 69 #[.slice A n c, .bool s.2] ∧ n ≤ c ∧ c ≤ 1000000000000 ∧ Rd w A n s.1

theorem rdr_nobyte (A : Option Addr) (n c : Nat) (b : Bool) : ∀ (i : Nat) (x : UInt8), (#[Value.slice A n c, Value.bool b] : Array Value)[i]? ≠ some (U x) := by
  intro i x h
  match i with
  | 0 => simp [U] at h
  | 1 => simp [U] at h
  | i + 2 => simp at h

set_option maxHeartbeats 400000 in
theorem readU_ok (r : Nat) (A : Option Addr) (n c k : Nat) (kk : Int) (bs : List UInt8) (w : World) (hb : Bk w r 69 #[.slice A n c, .bool false]) (hnc : n ≤ c) (hc : c ≤ 1000000000000) (h : Rd w A n bs) (hkk : kk = k) (hk : k ≤ n) (hk8 : k ≤ 8) :
    Calls Try.prog 45 #[.pointer (some ⟨r, 0, none⟩), .int .u64 kk, .func (.func 46) #[] #[]] w fun e w' => e = .returned (.int .u64 (val (bs.take k) : Int)) ∧ w' = w.setCell ⟨r, 0, none⟩ (.slice (if c = k then A else A.map (·.add k)) (n - k) (c - k)) := by
  subst hkk
  have H := Lib.hid h
  have HB := Lib.hid hb
  have c0 := hb.cell 0
  have c1 := hb.cell 1
  have f0 := hb.frozen 0
  clear h hb
  simp at c0 c1
  go_enter Try.func45, Try.ntmps45
  go_wp2_with fail
  refine (num_any A k c (bs.take k) w (H.out.take hk) hk8).mono ?_
  rintro e w' ⟨rfl, rfl⟩
  go_wp2_with fail
  all_goals
    go_ret
    exact ⟨rfl, rfl⟩

set_option maxHeartbeats 400000 in
theorem readU_bad (r : Nat) (A : Option Addr) (n c : Nat) (kk : Int) (f : Value) (w : World) (hb : Bk w r 69 #[.slice A n c, .bool true]) :
    Calls Try.prog 45 #[.pointer (some ⟨r, 0, none⟩), .int .u64 kk, f] w fun e w' => e = .returned (.int .u64 0) ∧ w = w' := by
  have c1 := hb.cell 1
  clear hb
  simp at c1
  go_enter Try.func45, Try.ntmps45
  go_wp2_with fail
  go_ret
  exact ⟨rfl, rfl⟩

set_option maxHeartbeats 400000 in
theorem readU_nil (kk : Int) (f : Value) (w : World) :
    Calls Try.prog 45 #[.pointer none, .int .u64 kk, f] w fun e w' => e = .returned (.int .u64 0) ∧ w = w' := by
  go_enter Try.func45, Try.ntmps45
  go_wp2_with fail
  go_ret
  exact ⟨rfl, rfl⟩

set_option maxHeartbeats 400000 in
theorem readU_short (r : Nat) (A : Option Addr) (n c k : Nat) (kk : Int) (f : Value) (w : World) (hb : Bk w r 69 #[.slice A n c, .bool false]) (hnc : n ≤ 1000000000000) (hkk : kk = k) (hk : n < k) :
    Calls Try.prog 45 #[.pointer (some ⟨r, 0, none⟩), .int .u64 kk, f] w fun e w' => e = .returned (.int .u64 0) ∧ w' = w.setCell ⟨r, 1, none⟩ (.bool true) := by
  subst hkk
  have c0 := hb.cell 0
  have c1 := hb.cell 1
  have f0 := hb.frozen 1
  clear hb
  simp at c0 c1
  go_enter Try.func45, Try.ntmps45
  go_wp2_with fail
  go_ret
  exact ⟨rfl, rfl⟩

theorem rdr_set0 {w : World} {r : Nat} {A A' : Option Addr} {n c n' c' : Nat} {b : Bool} {bs' : List UInt8} (hb : Bk w r 69 #[.slice A n c, .bool b]) (hnc : n' ≤ c') (hc : c' ≤ 1000000000000) (h : Rd w A' n' bs') :
    Rdr (w.setCell ⟨r, 0, none⟩ (.slice A' n' c')) r (bs', b) :=
  ⟨A', n', c', by simpa using hb.set 0 (.slice A' n' c'), hnc, hc, Rd.setCell hb (rdr_nobyte _ _ _ _) h 0 _⟩
theorem rdr_set1 {w : World} {r : Nat} {A : Option Addr} {n c : Nat} {b b' : Bool} {bs : List UInt8} (hb : Bk w r 69 #[.slice A n c, .bool b]) (hnc : n ≤ c) (hc : c ≤ 1000000000000) (h : Rd w A n bs) :
    Rdr (w.setCell ⟨r, 1, none⟩ (.bool b')) r (bs, b') :=
  ⟨A, n, c, by simpa using hb.set 1 (.bool b'), hnc, hc, Rd.setCell hb (rdr_nobyte _ _ _ _) h 1 _⟩
theorem grown_set (w : World) (r i : Nat) (u : Value) : w.grownBy (w.setCell ⟨r, i, none⟩ u) (some r) :=
  ⟨rfl, rfl, rfl, by simp [World.setCell], fun k _ hk => Below.heap_setCell w _ u k (fun e => hk (by rw [e]))⟩
theorem grown_refl (w : World) (row : Option Nat) : w.grownBy w row := ⟨rfl, rfl, rfl, Nat.le_refl _, fun _ _ _ => rfl⟩

/-- What a reading call leaves: block r is a reader in state s, nothing else has turned. -/
def Red (w : World) (r : Nat) (v : Value) (s : List UInt8 × Bool) (e : Ending) (w' : World) : Prop := e = .returned v ∧ Rdr w' r s ∧ w.grownBy w' (some r)

theorem readU_any (r k : Nat) (kk : Int) (s : List UInt8 × Bool) (w : World) (h : Rdr w r s) (hkk : kk = k) (hk8 : k ≤ 8) :
    Calls Try.prog 45 #[.pointer (some ⟨r, 0, none⟩), .int .u64 kk, .func (.func 46) #[] #[]] w (Red w r (.int .u64 (val (takeS k s).1 : Int)) (takeS k s).2) := by
  obtain ⟨bs, bad⟩ := s
  obtain ⟨A, n, c, hb, hnc, hc, hr⟩ := h
  have hl := hr.len
  simp only at hb hr hl
  cases bad with
  | true =>
    refine (readU_bad r A n c kk _ w hb).mono ?_
    rintro e w' ⟨rfl, rfl⟩
    simp only [takeS, true_or, if_true]
    exact ⟨rfl, ⟨A, n, c, hb, hnc, hc, hr⟩, grown_refl _ _⟩
  | false =>
    by_cases hk : n < k
    · refine (readU_short r A n c k kk _ w hb (by omega) hkk hk).mono ?_
      rintro e w' ⟨rfl, rfl⟩
      simp only [takeS, hl, hk, or_true, if_true]
      exact ⟨rfl, rdr_set1 hb hnc hc hr, grown_set _ _ _ _⟩
    · refine (readU_ok r A n c k kk bs w hb hnc hc hr hkk (by omega) hk8).mono ?_
      rintro e w' ⟨rfl, rfl⟩
      have hs : takeS k (bs, false) = (bs.take k, (bs.drop k, false)) := by simp [takeS, hl, hk]
      rw [hs]
      exact ⟨rfl, rdr_set0 hb (by omega) (by omega) (hr.drop (by omega) hnc), grown_set _ _ _ _⟩

set_option maxHeartbeats 400000 in
theorem number_any (r k : Nat) (kk : Int) (s : List UInt8 × Bool) (w : World) (h : Rdr w r s) (hkk : kk = k) (hk8 : k ≤ 8) :
    Calls Try.prog 41 #[.pointer (some ⟨r, 0, none⟩), .int .u64 kk] w (Red w r (.int .u64 (val (takeS k s).1 : Int)) (takeS k s).2) := by
  have H := Lib.hid h
  have HE := Lib.hid hkk
  clear h hkk
  go_enter Try.func41, Try.ntmps41
  go_wp2_with fail
  refine (readU_any r k kk s w H.out HE.out hk8).mono ?_
  rintro e w' ⟨rfl, h1, h2⟩
  have H1 := Lib.hid h1
  have H2 := Lib.hid h2
  clear h1 h2
  go_wp2_with fail
  go_ret
  exact ⟨rfl, H1.out, H2.out⟩

set_option maxHeartbeats 400000 in
theorem number_nil (kk : Int) (w : World) :
    Calls Try.prog 41 #[.pointer none, .int .u64 kk] w fun e w' => e = .returned (.int .u64 0) ∧ w = w' := by
  go_enter Try.func41, Try.ntmps41
  go_wp2_with fail
  refine (readU_nil kk _ w).mono ?_
  rintro e w' ⟨rfl, rfl⟩
  go_wp2_with fail
  go_ret
  exact ⟨rfl, rfl⟩

end Go.Proofs.Ytobdkgmlkchggaa
