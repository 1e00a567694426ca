/- The contracts of the reader's own calls: New, Byte, Uint, Int, Text, Count, Bad, Done. -/
import Derived.Test.YtobdkgmlkchggaaRead
namespace Go.Proofs.Ytobdkgmlkchggaa
open Go.RowKit

theorem val_nil : val [] = 0 := rfl
theorem takeS_len (k : Nat) (s : List UInt8 × Bool) : (takeS k s).1.length ≤ k := by
  unfold takeS
  split
  · simp
  · exact List.length_take_le _ _
theorem takeS_val8 (k : Nat) (s : List UInt8 × Bool) (hk : k ≤ 8) : val (takeS k s).1 < 18446744073709551616 := val_lt8 _ (Nat.le_trans (takeS_len k s) hk)

set_option maxHeartbeats 400000 in
theorem rByte_any (r : Nat) (s : List UInt8 × Bool) (w : World) (h : Rdr w r s) :
    Calls Try.prog 25 #[.pointer (some ⟨r, 0, none⟩)] w (Red w r (.int .u8 (val (takeS 1 s).1 : Int)) (takeS 1 s).2) := by
  have H := Lib.hid h
  clear h
  have hv : val (takeS 1 s).1 < 256 := Nat.lt_of_lt_of_le (val_lt _) (Nat.le_trans (Nat.pow_le_pow_right (by omega) (takeS_len 1 s)) (by decide))
  go_enter Try.func25, Try.ntmps25
  go_wp2_with fail
  refine (number_any r 1 1 s w H.out rfl (by omega)).mono ?_
  rintro e w' ⟨rfl, h1, h2⟩
  have H1 := Lib.hid h1
  have H2 := Lib.hid h2
  clear h1 h2
  go_wp2_with fail
  go_ret
  exact ⟨rfl, H1.out, H2.out⟩

set_option maxHeartbeats 400000 in
theorem rUint_any (r : Nat) (s : List UInt8 × Bool) (w : World) (h : Rdr w r s) :
    Calls Try.prog 26 #[.pointer (some ⟨r, 0, none⟩)] w (Red w r (.int .u64 (val (takeS 8 s).1 : Int)) (takeS 8 s).2) := by
  have H := Lib.hid h
  clear h
  go_enter Try.func26, Try.ntmps26
  go_wp2_with fail
  refine (number_any r 8 8 s w H.out rfl (by omega)).mono ?_
  rintro e w' ⟨rfl, h1, h2⟩
  have H1 := Lib.hid h1
  have H2 := Lib.hid h2
  clear h1 h2
  go_wp2_with fail
  go_ret
  exact ⟨rfl, H1.out, H2.out⟩

set_option maxHeartbeats 400000 in
theorem rBad_any (r : Nat) (s : List UInt8 × Bool) (w : World) (h : Rdr w r s) :
    Calls Try.prog 42 #[.pointer (some ⟨r, 0, none⟩)] w (Red w r (.tuple #[]) (s.1, true)) := by
  obtain ⟨A, n, c, hb, hnc, hc, hr⟩ := h
  have HB := Lib.hid hb
  have HR := Lib.hid hr
  have c1 := hb.cell 1
  have f0 := hb.frozen 1
  clear hb hr
  simp at c1
  go_enter Try.func42, Try.ntmps42
  go_wp2_with fail
  go_end0
  exact ⟨rfl, rdr_set1 HB.out hnc hc HR.out, grown_set _ _ _ _⟩

set_option maxHeartbeats 400000 in
theorem rDone_any (r : Nat) (s : List UInt8 × Bool) (w : World) (h : Rdr w r s) :
    Calls Try.prog 29 #[.pointer (some ⟨r, 0, none⟩)] w (fun e w' => e = .returned (.int .i64 (if s.2 = true ∨ 0 < s.1.length then 2 else 0)) ∧ w = w') := by
  obtain ⟨bs, bad⟩ := s
  obtain ⟨A, n, c, hb, hnc, hc, hr⟩ := h
  have HR := Lib.hid hr
  have hl := hr.len
  have c0 := hb.cell 0
  have c1 := hb.cell 1
  clear hb hr
  simp at c0 c1
  simp only at hl ⊢
  rw [hl]
  clear hl
  cases bad with
  | true =>
    simp only [true_or, if_true]
    go_enter Try.func29, Try.ntmps29
    go_wp2_with fail
    go_ret
    exact ⟨rfl, rfl⟩
  | false =>
    by_cases h0 : 0 < n
    · simp only [h0, or_true, if_true]
      go_enter Try.func29, Try.ntmps29
      go_wp2_with fail
      go_ret
      exact ⟨rfl, rfl⟩
    · rw [if_neg (by simp [h0])]
      go_enter Try.func29, Try.ntmps29
      go_wp2_with fail
      go_ret
      exact ⟨rfl, rfl⟩

set_option maxHeartbeats 400000 in
theorem rNew_any (A : Option Addr) (n c : Nat) (bs : List UInt8) (w : World) (h : Rd w A n bs) (hn : n ≤ 1000000000000) :
    Calls Try.prog 24 #[.slice A n c] w (fun e w' => ∃ r, e = .returned (.pointer (some ⟨r, 0, none⟩)) ∧ w.heap.size ≤ r ∧ Rdr w' r (bs, false) ∧ Below w.heap.size w w') := by
  have H := Lib.hid h
  clear h
  go_enter Try.func24, Try.ntmps24
  go_wp2_with fail
  refine (withRoom_own A n c 0 bs w H.out (by omega) (by omega)).mono ?_
  rintro e w1 ⟨rfl, hown1, hb1⟩
  have HO1 := Lib.hid hown1
  have HB1 := Lib.hid hb1
  clear hown1 hb1
  go_wp2_with fail
  go_ret
  have hr1 := Rd.of_own HO1.out
  exact ⟨w1.heap.size, rfl, HB1.out.size, ⟨_, n, n, Bk.new w1 _ _, Nat.le_refl _, hn, hr1.1.below ((Below.refl _ _).alloc (Nat.le_refl _) _)⟩, HB1.out.alloc HB1.out.size _⟩

set_option maxHeartbeats 400000 in
theorem tell_any (A : Option Addr) (n c : Nat) (bs : List UInt8) (w : World) (h : Rd w A n bs) (hn : n ≤ 1000000000000) :
    Calls Try.prog 44 #[.slice A n c] w fun e w' => e = .returned (.slice (some ⟨w.heap.size, 0, none⟩) n n) ∧ w'.ownsRow w.heap.size 5 1 (.slice (some ⟨w.heap.size, 0, none⟩) n n) n (bs.map U) ∧ Below w.heap.size w w' := by
  have H := Lib.hid h
  clear h
  go_enter Try.func44, Try.ntmps44
  go_wp2_with fail
  refine (withRoom_own A n c 0 bs w H.out (by omega) (by omega)).mono ?_
  rintro e w1 ⟨rfl, hown1, hb1⟩
  have HO1 := Lib.hid hown1
  have HB1 := Lib.hid hb1
  clear hown1 hb1
  go_wp2_with fail
  go_ret
  exact ⟨rfl, HO1.out, HB1.out⟩

/-- What a reading call of bytes leaves. -/
def RedB (w : World) (r : Nat) (bs : List UInt8) (s : List UInt8 × Bool) (e : Ending) (w' : World) : Prop :=
  ∃ A n c, e = .returned (.slice A n c) ∧ w'.ownsRow w.heap.size 5 1 (.slice A n c) n (bs.map U) ∧ Rdr w' r s ∧ w.grownBy w' (some r)

/-- Bytes were told, then the reader's slice was set. -/
def ToldB (w : World) (r k : Nat) (bs : List UInt8) (u : Value) (e : Ending) (w' : World) : Prop :=
  ∃ w1, e = .returned (.slice (some ⟨w.heap.size, 0, none⟩) k k) ∧ w1.ownsRow w.heap.size 5 1 (.slice (some ⟨w.heap.size, 0, none⟩) k k) k (bs.map U) ∧ Below w.heap.size w w1 ∧ w' = w1.setCell ⟨r, 0, none⟩ u

theorem own_base {w : World} {base base' : Nat} {e : TypeId} {size : Nat} {v : Value} {n : Nat} {xs : List Value} (h : w.ownsRow base e size v n xs) (hb : base' ≤ base) : w.ownsRow base' e size v n xs := by
  refine ⟨h.1, ?_⟩
  rcases h.2 with h2 | ⟨g, cap, cur, e, hg, hr⟩
  · exact Or.inl h2
  · exact Or.inr ⟨g, cap, cur, e, Nat.le_trans hb hg, hr⟩

set_option maxHeartbeats 400000 in
theorem readB_ok (r : Nat) (A : Option Addr) (n c k : Nat) (kk : Int) (bs : List UInt8) (w : World) (hb : Bk w r 69 #[.slice A n c, .bool false]) (hnc : n ≤ c) (hc : c ≤ 1000000000000) (h : Rd w A n bs) (hkk : kk = k) (hk : k ≤ n) :
    Calls Try.prog 43 #[.pointer (some ⟨r, 0, none⟩), .int .u64 kk, .func (.func 44) #[] #[]] w (ToldB w r k (bs.take k) (.slice (if c = k then A else A.map (·.add k)) (n - k) (c - k))) := by
  subst hkk
  have H := Lib.hid h
  have HB := Lib.hid hb
  have c0 := hb.cell 0
  have c1 := hb.cell 1
  clear h hb
  simp at c0 c1
  go_enter Try.func43, Try.ntmps43
  go_wp2_with fail
  refine (tell_any A k c (bs.take k) w (H.out.take hk) (by omega)).mono ?_
  rintro e w1 ⟨rfl, hown1, hb1⟩
  have c01 : w1.cell? ⟨r, 0, none⟩ = some (.slice A n c) := (hb1.cell HB.out.lt).trans c0
  have f01 : w1.frozen? ⟨r, 0, none⟩ = false := (hb1.frozen HB.out.lt).trans (HB.out.frozen 0)
  have HO1 := Lib.hid hown1
  have HB1 := Lib.hid hb1
  clear hown1 hb1 c0 c1
  go_wp2_with fail
  all_goals
    go_ret
    exact ⟨w1, rfl, HO1.out, HB1.out, rfl⟩

set_option maxHeartbeats 400000 in
theorem readB_bad (r : Nat) (A : Option Addr) (n c : Nat) (kk : Int) (f : Value) (w : World) (hb : Bk w r 69 #[.slice A n c, .bool true]) :
    Calls Try.prog 43 #[.pointer (some ⟨r, 0, none⟩), .int .u64 kk, f] w fun e w' => e = .returned (.slice none 0 0) ∧ w = w' := by
  have c1 := hb.cell 1
  clear hb
  simp at c1
  go_enter Try.func43, Try.ntmps43
  go_wp2_with fail
  go_ret
  exact ⟨rfl, rfl⟩

set_option maxHeartbeats 400000 in
theorem readB_nil (kk : Int) (f : Value) (w : World) :
    Calls Try.prog 43 #[.pointer none, .int .u64 kk, f] w fun e w' => e = .returned (.slice none 0 0) ∧ w = w' := by
  go_enter Try.func43, Try.ntmps43
  go_wp2_with fail
  go_ret
  exact ⟨rfl, rfl⟩

set_option maxHeartbeats 400000 in
theorem readB_short (r : Nat) (A : Option Addr) (n c k : Nat) (kk : Int) (f : Value) (w : World) (hb : Bk w r 69 #[.slice A n c, .bool false]) (hnc : n ≤ 1000000000000) (hkk : kk = k) (hk : n < k) :
    Calls Try.prog 43 #[.pointer (some ⟨r, 0, none⟩), .int .u64 kk, f] w fun e w' => e = .returned (.slice none 0 0) ∧ w' = w.setCell ⟨r, 1, none⟩ (.bool true) := by
  subst hkk
  have c0 := hb.cell 0
  have c1 := hb.cell 1
  have f0 := hb.frozen 1
  clear hb
  simp at c0 c1
  go_enter Try.func43, Try.ntmps43
  go_wp2_with fail
  go_ret
  exact ⟨rfl, rfl⟩

theorem grown_of_below {w w1 : World} (h : Below w.heap.size w w1) (row : Option Nat) : w.grownBy w1 row := ⟨h.os, h.tape, h.output, h.size, fun k hk _ => h.block k hk⟩
theorem grown_trans {w w1 w2 : World} {row : Option Nat} (h : w.grownBy w1 row) (k : w1.grownBy w2 row) : w.grownBy w2 row :=
  ⟨k.os.trans h.os, k.tape.trans h.tape, k.output.trans h.output, Nat.le_trans h.size k.size, fun i hi hn => (k.block i (Nat.lt_of_lt_of_le hi h.size) hn).trans (h.block i hi hn)⟩

theorem readB_any (r k : Nat) (kk : Int) (s : List UInt8 × Bool) (w : World) (h : Rdr w r s) (hkk : kk = k) :
    Calls Try.prog 43 #[.pointer (some ⟨r, 0, none⟩), .int .u64 kk, .func (.func 44) #[] #[]] w (RedB w r (takeS k s).1 (takeS k s).2) := by
  obtain ⟨bs, bad⟩ := s
  obtain ⟨A, n, c, hb, hnc, hc, hr⟩ := h
  have hl := hr.len
  simp only at hb hr hl
  cases bad with
  | true =>
    refine (readB_bad r A n c kk _ w hb).mono ?_
    rintro e w' ⟨rfl, rfl⟩
    simp only [takeS, true_or, if_true]
    exact ⟨none, 0, 0, rfl, World.ownsRow_nil _ _ _ _, ⟨A, n, c, hb, hnc, hc, hr⟩, grown_refl _ _⟩
  | false =>
    by_cases hk : n < k
    · refine (readB_short r A n c k kk _ w hb (by omega) hkk hk).mono ?_
      rintro e w' ⟨rfl, rfl⟩
      simp only [takeS, hl, hk, or_true, if_true]
      exact ⟨none, 0, 0, rfl, World.ownsRow_nil _ _ _ _, rdr_set1 hb hnc hc hr, grown_set _ _ _ _⟩
    · refine (readB_ok r A n c k kk bs w hb hnc hc hr hkk (by omega)).mono ?_
      rintro e w' ⟨w1, rfl, hown, hbel, rfl⟩
      have hs : takeS k (bs, false) = (bs.take k, (bs.drop k, false)) := by simp [takeS, hl, hk]
      rw [hs]
      exact ⟨_, k, k, rfl, ownsRow_setCell_below hown hb.lt _, rdr_set0 (hb.below hbel) (by omega) (by omega) ((hr.below hbel).drop (by omega) hnc), grown_trans (grown_of_below hbel _) (grown_set _ _ _ _)⟩

/-- What Text reads. -/
def textS (s : List UInt8 × Bool) : List UInt8 × (List UInt8 × Bool) := takeS (val (takeS 4 s).1) (takeS 4 s).2

set_option maxHeartbeats 400000 in
theorem rText_any (r : Nat) (s : List UInt8 × Bool) (w : World) (h : Rdr w r s) :
    Calls Try.prog 28 #[.pointer (some ⟨r, 0, none⟩)] w (RedB w r (textS s).1 (textS s).2) := by
  have H := Lib.hid h
  clear h
  go_enter Try.func28, Try.ntmps28
  go_wp2_with fail
  refine (number_any r 4 4 s w H.out rfl (by omega)).mono ?_
  rintro e w1 ⟨rfl, h1, h2⟩
  have H1 := Lib.hid h1
  have H2 := Lib.hid h2
  clear h1 h2
  go_wp2_with fail
  refine (readB_any r _ _ (takeS 4 s).2 w1 H1.out rfl).mono ?_
  rintro e w2 ⟨A, n, c, rfl, hown, h3, h4⟩
  have HO := Lib.hid hown
  have H3 := Lib.hid h3
  have H4 := Lib.hid h4
  clear hown h3 h4
  go_wp2_with fail
  go_ret
  exact ⟨A, n, c, rfl, own_base HO.out H2.out.size, H3.out, grown_trans H2.out H4.out⟩

end Go.Proofs.Ytobdkgmlkchggaa
