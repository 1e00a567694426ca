/- The document's own reader (the reference's State), held by the same states as the program's. -/
import Derived.Test.YtobdkgmlkchggaaRead3
import Derived.Deep.QuietTactic
import Derived.BigQuiet
namespace Go.Proofs.Ytobdkgmlkchggaa
open Go.RowKit

set_option maxHeartbeats 400000 in
theorem Value_any (A : Option Addr) (n c : Nat) (bs : List UInt8) (w : World) (h : Rd w A n bs) (hn : n ≤ 8) :
    Calls Try.prog 30 #[.slice A n c] w fun e w' => e = .returned (.int .u64 (val bs : Int)) ∧ w = w' := by
  have H := Lib.hid h
  clear h
  go_enter Try.func30, Try.ntmps30
  go_wp2_with fail
  go_loop [3, 4] (fun v i => ∃ k : Nat, k ≤ n ∧ i = .int .i64 (k : Int) ∧ v = .int .u64 (val (bs.take k) : Int)) (fun _ i => n - (intOf i).toNat)
  case atStart => exact ⟨0, by omega, rfl, rfl⟩
  case round =>
    obtain ⟨k, hk, rfl, rfl⟩ := hrel
    by_cases hlt : k < n
    · obtain ⟨ad, rfl, hc⟩ := H.out.cells (by omega)
      have hkl : k < bs.length := by rw [H.out.len]; exact hlt
      have hcell := hc k _ (List.getElem?_eq_getElem hkl)
      clear hc
      have HV : Hid (((val (bs.take k) : Nat) : Int) * 256 + ((bs[k]).toNat : Int) = (val (bs.take (k + 1)) : Int)) := by
        show _ = _
        rw [← List.take_append_getElem hkl, val_snoc]
        omega
      have hv1 : val (bs.take k) < 72057594037927936 := by
        have hp := pow_le_7 (show k ≤ 7 by omega)
        have hv := val_lt (bs.take k)
        rw [List.length_take, Nat.min_eq_left (by omega)] at hv
        omega
      unfold U at hcell
      have hbv := (bs[k]).toNat_lt
      go_wp2_with fail
      exact ⟨⟨k + 1, by omega, rfl, congrArg (Value.int .u64) HV.out⟩, by simp [intOf]; omega⟩
    · obtain rfl : k = n := by omega
      have HL : Hid (bs.take k = bs) := List.take_of_length_le (by rw [H.out.len]; omega)
      go_wp2_with fail
      go_ret
      rw [HL.out]
      exact ⟨rfl, rfl⟩

/-- Block q is the reference's reader in state s. -/
def Ref (w : World) (q : Nat) (s : List UInt8 × Bool) : Prop :=
  ∃ A n c pos bs, Bk w q 55 #[.slice A n c, .int .i64 (pos : Nat), .bool s.2] ∧ n ≤ c ∧ n ≤ 100000 ∧ pos ≤ n ∧ Rd w A n bs ∧ s.1 = bs.drop pos

theorem ref_nobyte (A : Option Addr) (n c : Nat) (x : Int) (b : Bool) : ∀ (i : Nat) (y : UInt8), (#[Value.slice A n c, Value.int .i64 x, Value.bool b] : Array Value)[i]? ≠ some (U y) := by
  intro i y h
  match i with
  | 0 => simp [U] at h
  | 1 => simp [U] at h
  | 2 => simp [U] at h
  | i + 3 => simp at h

/-- What Take leaves. -/
def Taken (w : World) (q : Nat) (bs : List UInt8) (s : List UInt8 × Bool) (e : Ending) (w' : World) : Prop :=
  ∃ A n c, e = .returned (.slice A n c) ∧ Rd w' A n bs ∧ Ref w' q s ∧ w.grownBy w' (some q)

/-- It is bad now: draws, then the mark. -/
def TakeNo (w : World) (q : Nat) (e : Ending) (w' : World) : Prop := ∃ m, e = .returned (.slice none 0 0) ∧ w' = (w.drewN m).setCell ⟨q, 2, none⟩ (.bool true)
/-- It went on: draws, the new place, draws. -/
def TakeYes (w : World) (q pos k : Nat) (v : Value) (e : Ending) (w' : World) : Prop := ∃ m m2 x, e = .returned v ∧ x = pos + k ∧ w' = ((w.drewN m).setCell ⟨q, 1, none⟩ (.int .i64 ((x : Nat) : Int))).drewN m2

set_option maxHeartbeats 1000000 in
theorem Take_bad (q : Nat) (A : Option Addr) (n c pos : Nat) (kk : Int) (w : World) (hb : Bk w q 55 #[.slice A n c, .int .i64 (pos : Nat), .bool true]) :
    Calls Try.prog 31 #[.pointer (some ⟨q, 0, none⟩), .int .u64 kk] w (TakeNo w q) := by
  have c0 := hb.cell 0
  have c1 := hb.cell 1
  have c2 := hb.cell 2
  have f2 := hb.frozen 2
  clear hb
  simp at c0 c1 c2
  go_enter Try.func31, Try.ntmps31
  go_wp2_with fail
  go_quiet (fail)
  go_wp2_with fail
  go_ret
  exact ⟨_, rfl, rfl⟩

set_option maxHeartbeats 1000000 in
theorem Take_short (q : Nat) (A : Option Addr) (n c pos k : Nat) (kk : Int) (w : World) (hb : Bk w q 55 #[.slice A n c, .int .i64 (pos : Nat), .bool false]) (hn : n ≤ 100000) (hp : pos ≤ n) (hkk : kk = k) (hk : n - pos < k) :
    Calls Try.prog 31 #[.pointer (some ⟨q, 0, none⟩), .int .u64 kk] w (TakeNo w q) := by
  subst hkk
  have c0 := hb.cell 0
  have c1 := hb.cell 1
  have c2 := hb.cell 2
  have f2 := hb.frozen 2
  clear hb
  simp at c0 c1 c2
  have hw : IntKind.i64.wrap ((n : Int) - pos) = (n : Int) - pos := IntWalk.i64_in _ (by omega)
  have hu : IntKind.u64.wrap ((n : Int) - pos) = (n : Int) - pos := by rw [IntKind.wrap_u64]; omega
  have hd : decide ((n : Int) - pos < (k : Int)) = true := by simp; omega
  go_enter Try.func31, Try.ntmps31
  go_wp2_with fail
  go_quiet (fail)
  clear hw hu hd
  go_wp2_with fail
  go_ret
  exact ⟨_, rfl, rfl⟩

set_option maxHeartbeats 1000000 in
theorem Take_ok (q : Nat) (A : Option Addr) (n c pos k : Nat) (kk : Int) (w : World) (hb : Bk w q 55 #[.slice A n c, .int .i64 (pos : Nat), .bool false]) (hn : n ≤ 100000) (hnc : n ≤ c) (hp : pos ≤ n) (hkk : kk = k) (hk : k ≤ n - pos) :
    Calls Try.prog 31 #[.pointer (some ⟨q, 0, none⟩), .int .u64 kk] w (TakeYes w q pos k (.slice (if c = pos then A else A.map (·.add pos)) k (c - pos))) := by
  subst hkk
  have c0 := hb.cell 0
  have c1 := hb.cell 1
  have c2 := hb.cell 2
  have f1 := hb.frozen 1
  have HB := Lib.hid hb
  clear hb
  simp at c0 c1 c2
  have hw : IntKind.i64.wrap ((n : Int) - pos) = (n : Int) - pos := IntWalk.i64_in _ (by omega)
  have hu : IntKind.u64.wrap ((n : Int) - pos) = (n : Int) - pos := by rw [IntKind.wrap_u64]; omega
  have hd : decide ((n : Int) - pos < (k : Int)) = false := by simp; omega
  go_enter Try.func31, Try.ntmps31
  go_wp2_with fail
  go_quiet (fail)
  clear hw hu hd
  go_wp2_with fail
  obtain ⟨e, he⟩ : ∃ e : Nat, e = pos + k := ⟨_, rfl⟩
  have HE := Lib.hid he
  rw [show (pos : Int) + (k : Int) = (e : Int) from by omega]
  have d0 : ((w.drewN nq).setCell ⟨q, 1, none⟩ (.int .i64 (e : Int))).cell? ⟨q, 0, none⟩ = some (.slice A n c) := by
    have hb2 : Bk (w.drewN nq) q 55 #[.slice A n c, .int .i64 (pos : Nat), .bool false] := HB.out
    exact (hb2.set 1 (.int .i64 (e : Int))).cell 0
  have d1 : ((w.drewN nq).setCell ⟨q, 1, none⟩ (.int .i64 (e : Int))).cell? ⟨q, 1, none⟩ = some (.int .i64 (e : Int)) := by
    have hb2 : Bk (w.drewN nq) q 55 #[.slice A n c, .int .i64 (pos : Nat), .bool false] := HB.out
    exact (hb2.set 1 (.int .i64 (e : Int))).cell 1
  obtain ⟨W, hW⟩ : ∃ W, W = (w.drewN nq).setCell ⟨q, 1, none⟩ (.int .i64 (e : Int)) := ⟨_, rfl⟩
  rw [← hW] at d0 d1 ⊢
  have HW := Lib.hid hW
  have g1 : IntKind.i64.wrap (k : Int) = (k : Int) := IntWalk.i64_in _ (by omega)
  have g2 : IntKind.i64.wrap ((e : Int) - (k : Int)) = (pos : Int) := by rw [he]; rw [IntWalk.i64_in _ (by omega)]; omega
  have b1 : pos ≤ e := by omega
  have b2 : e ≤ c := by omega
  clear he hW c0 c1 c2 f1
  go_quiet (fail)
  clear g1 g2
  go_wp2_with fail
  all_goals
    go_ret
    refine ⟨_, nq, e, ?_, HE.out, by rw [HW.out]⟩
    have hke : e - pos = k := by have := HE.out; omega
    rw [← hke]
    rfl

theorem rd_drewN' {w : World} {A : Option Addr} {n : Nat} {bs : List UInt8} (h : Rd w A n bs) (q : Nat) : Rd (w.drewN q) A n bs := h.keep fun _ _ hp => hp
theorem grown_drewN {w w' : World} {row : Option Nat} (h : w.grownBy w' row) (m : Nat) : w.grownBy (w'.drewN m) row := ⟨h.os, h.tape, h.output, h.size, h.block⟩
theorem grown_drewN_l {w w' : World} {row : Option Nat} {m : Nat} (h : (w.drewN m).grownBy w' row) : w.grownBy w' row := ⟨h.os, h.tape, h.output, h.size, h.block⟩

theorem Take_any (q k : Nat) (kk : Int) (s : List UInt8 × Bool) (w : World) (h : Ref w q s) (hkk : kk = k) :
    Calls Try.prog 31 #[.pointer (some ⟨q, 0, none⟩), .int .u64 kk] w (Taken w q (takeS k s).1 (takeS k s).2) := by
  obtain ⟨rs, bad⟩ := s
  obtain ⟨A, n, c, pos, bs, hb, hnc, hn, hp, hr, e0⟩ := h
  simp only at hb e0
  subst e0
  have hl : (bs.drop pos).length = n - pos := by rw [List.length_drop, hr.len]
  have no : ∀ (b : Bool) (e : Ending) (w' : World), Bk w q 55 #[.slice A n c, .int .i64 (pos : Nat), .bool b] → TakeNo w q e w' → Taken w q [] (bs.drop pos, true) e w' := by
    rintro b e w' hb ⟨m, rfl, rfl⟩
    have hb2 : Bk (w.drewN m) q 55 #[.slice A n c, .int .i64 (pos : Nat), .bool b] := hb
    exact ⟨none, 0, 0, rfl, Rd.nil_ _ _, ⟨A, n, c, pos, bs, by simpa using hb2.set 2 (.bool true), hnc, hn, hp, Rd.setCell hb2 (ref_nobyte _ _ _ _ _) (rd_drewN' hr m) 2 _, rfl⟩, grown_drewN_l (grown_set (w.drewN m) _ _ _)⟩
  cases bad with
  | true =>
    have hs : takeS k (bs.drop pos, true) = ([], (bs.drop pos, true)) := by simp [takeS]
    rw [hs]
    exact (Take_bad q A n c pos kk w hb).mono fun e w' h => no _ e w' hb h
  | false =>
    by_cases hk : n - pos < k
    · have hs : takeS k (bs.drop pos, false) = ([], (bs.drop pos, true)) := by unfold takeS; rw [if_pos (.inr (by rw [hl]; exact hk))]
      rw [hs]
      exact (Take_short q A n c pos k kk w hb hn hp hkk hk).mono fun e w' h => no _ e w' hb h
    · have hs : takeS k (bs.drop pos, false) = ((bs.drop pos).take k, ((bs.drop pos).drop k, false)) := by unfold takeS; rw [if_neg (by simp only [hl]; simp; omega)]
      rw [hs]
      refine (Take_ok q A n c pos k kk w hb hn hnc hp hkk (by omega)).mono ?_
      rintro e w' ⟨m, m2, x, rfl, rfl, rfl⟩
      have hb2 : Bk (w.drewN m) q 55 #[.slice A n c, .int .i64 (pos : Nat), .bool false] := hb
      have hr2 := Rd.setCell hb2 (ref_nobyte _ _ _ _ _) (rd_drewN' hr m) 1 (.int .i64 ((pos + k : Nat) : Int))
      refine ⟨_, _, _, rfl, ?_, ⟨A, n, c, pos + k, bs, ?_, hnc, hn, by omega, rd_drewN' hr2 m2, by rw [List.drop_drop]⟩, grown_drewN (grown_drewN_l (grown_set (w.drewN m) _ _ _)) m2⟩
      · exact rd_drewN' ((hr2.drop (k := pos) hp hnc).take (by omega)) m2
      · have := hb2.set 1 (.int .i64 ((pos + k : Nat) : Int))
        have h3 : Bk ((w.drewN m).setCell ⟨q, 1, none⟩ (.int .i64 ((pos + k : Nat) : Int))) q 55 #[.slice A n c, .int .i64 ((pos + k : Nat) : Int), .bool false] := by simpa using this
        exact h3

/-- What a reading call of a number leaves, at the reference. -/
def RefV (w : World) (q : Nat) (v : Value) (s : List UInt8 × Bool) (e : Ending) (w' : World) : Prop := e = .returned v ∧ Ref w' q s ∧ w.grownBy w' (some q)

set_option maxHeartbeats 400000 in
theorem sUint_any (q : Nat) (s : List UInt8 × Bool) (w : World) (h : Ref w q s) :
    Calls Try.prog 32 #[.pointer (some ⟨q, 0, none⟩)] w (RefV w q (.int .u64 (val (takeS 8 s).1 : Int)) (takeS 8 s).2) := by
  have H := Lib.hid h
  clear h
  go_enter Try.func32, Try.ntmps32
  go_wp2_with fail
  refine (Take_any q 8 8 s w H.out rfl).mono ?_
  rintro e w1 ⟨A1, n1, c1, rfl, hr, hR, hg⟩
  have HD := Lib.hid hr
  have HR := Lib.hid hR
  have HG := Lib.hid hg
  clear hr hR hg
  go_wp2_with fail
  refine (Value_any A1 n1 c1 _ w1 HD.out (by have := HD.out.len; have := takeS_len 8 s; omega)).mono ?_
  rintro e w1 ⟨rfl, rfl⟩
  go_wp2_with fail
  go_ret
  exact ⟨rfl, HR.out, HG.out⟩

/-- What Text leaves at the reference. -/
theorem textS_of_bad (s : List UInt8 × Bool) (h : (takeS 4 s).2.2 = true) : textS s = ([], (takeS 4 s).2) := by
  unfold textS
  generalize (takeS 4 s).2 = t at *
  obtain ⟨a, b⟩ := t
  simp only at h
  subst h
  simp [takeS]

set_option maxHeartbeats 1000000 in
theorem sText_any (q : Nat) (s : List UInt8 × Bool) (w : World) (h : Ref w q s) :
    Calls Try.prog 34 #[.pointer (some ⟨q, 0, none⟩)] w (Taken w q (textS s).1 (textS s).2) := by
  have H := Lib.hid h
  clear h
  go_enter Try.func34, Try.ntmps34
  go_wp2_with fail
  refine (Take_any q 4 4 s w H.out rfl).mono ?_
  rintro e w1 ⟨A1, n1, c1, rfl, hr, hR, hg⟩
  have HD := Lib.hid hr
  have HR := Lib.hid hR
  have HG := Lib.hid hg
  clear hr hR hg
  go_wp2_with fail
  refine (Value_any A1 n1 c1 _ w1 HD.out (by have := HD.out.len; have := takeS_len 4 s; omega)).mono ?_
  rintro e w1 ⟨rfl, rfl⟩
  obtain ⟨A2, n2, c2, p2, b2, hb2, _⟩ := HR.out
  have c2 := hb2.cell 2
  clear hb2
  simp at c2
  by_cases hbad : (takeS 4 s).2.2 = true
  · have HT := Lib.hid (textS_of_bad s hbad)
    rw [hbad] at c2
    clear hbad
    go_wp2_with fail
    go_ret
    rw [HT.out]
    exact ⟨none, 0, 0, rfl, Rd.nil_ _ _, HR.out, HG.out⟩
  · have hbad' : (takeS 4 s).2.2 = false := by simpa using hbad
    rw [hbad'] at c2
    clear hbad hbad'
    go_wp2_with fail
    refine (Take_any q _ _ (takeS 4 s).2 w1 HR.out rfl).mono ?_
    rintro e w2 ⟨A3, n3, c3, rfl, hr, hR, hg⟩
    have HD3 := Lib.hid hr
    have HR3 := Lib.hid hR
    have HG3 := Lib.hid (grown_trans HG.out hg)
    clear hr hR hg c2
    go_wp2_with fail
    go_ret
    exact ⟨A3, n3, c3, rfl, HD3.out, HR3.out, HG3.out⟩

theorem ref_bad {w : World} {q : Nat} {s : List UInt8 × Bool} (h : Ref w q s) : Ref (w.setCell ⟨q, 2, none⟩ (.bool true)) q (s.1, true) := by
  obtain ⟨A, n, c, pos, bs, hb, hnc, hn, hp, hr, e0⟩ := h
  exact ⟨A, n, c, pos, bs, by simpa using hb.set 2 (.bool true), hnc, hn, hp, Rd.setCell hb (ref_nobyte _ _ _ _ _) hr 2 _, e0⟩
theorem ref_cells {w : World} {q : Nat} {s : List UInt8 × Bool} (h : Ref w q s) : w.cell? ⟨q, 2, none⟩ = some (.bool s.2) ∧ w.frozen? ⟨q, 2, none⟩ = false := by
  obtain ⟨A, n, c, pos, bs, hb, _⟩ := h
  exact ⟨by simpa using hb.cell 2, hb.frozen 2⟩

/-- Done of the reference. -/
def RefDone (w : World) (b : Bool) (e : Ending) (w' : World) : Prop := ∃ m, e = .returned (.bool b) ∧ w' = w.drewN m

set_option maxHeartbeats 1000000 in
theorem sDone_any (q : Nat) (s : List UInt8 × Bool) (w : World) (h : Ref w q s) :
    Calls Try.prog 35 #[.pointer (some ⟨q, 0, none⟩)] w (RefDone w (!s.2 && decide (s.1.length = 0))) := by
  obtain ⟨rs, bad⟩ := s
  obtain ⟨A, n, c, pos, bs, hb, hnc, hn, hp, hr, e0⟩ := h
  simp only at hb e0
  subst e0
  have hl : (bs.drop pos).length = n - pos := by rw [List.length_drop, hr.len]
  simp only [hl]
  have c0 := hb.cell 0
  have c1 := hb.cell 1
  have c2 := hb.cell 2
  clear hb hr hl
  simp at c0 c1 c2
  cases bad with
  | true =>
    simp only [Bool.not_true, Bool.false_and]
    go_enter Try.func35, Try.ntmps35
    go_wp2_with fail
    go_quiet (fail)
    go_wp2_with fail
    go_ret
    exact ⟨_, rfl, rfl⟩
  | false =>
    simp only [Bool.not_false, Bool.true_and]
    by_cases hz : n - pos = 0
    · have hd : decide (n - pos = 0) = true := by simp [hz]
      rw [hd]
      have t1 : ((pos : Int) == (n : Int)) = true := beq_iff_eq.2 (by omega)
      clear hd hz
      go_enter Try.func35, Try.ntmps35
      go_wp2_with fail
      go_quiet (fail)
      go_wp2_with fail
      go_ret
      exact ⟨_, rfl, rfl⟩
    · have hd : decide (n - pos = 0) = false := by simp [hz]
      rw [hd]
      have t1 : ((pos : Int) == (n : Int)) = false := beq_eq_false_iff_ne.2 (by omega)
      clear hd hz
      go_enter Try.func35, Try.ntmps35
      go_wp2_with fail
      go_quiet (fail)
      go_wp2_with fail
      go_ret
      exact ⟨_, rfl, rfl⟩
end Go.Proofs.Ytobdkgmlkchggaa
