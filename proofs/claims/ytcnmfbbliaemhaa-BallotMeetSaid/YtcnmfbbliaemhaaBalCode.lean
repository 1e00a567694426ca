/- Contracts of ballot's functions on numbers. -/
import Derived.Test.YtcnmfbbliaemhaaCrcBase
import Derived.Laws.StructEq
import Derived.Deep.QuietTactic
import Derived.BigQuiet
import Derived.Test.YtcnmfbbliaemhaaBalMore
namespace Go.Proofs.Ytcnmfbbliaemhaa.Bal
open Go.RowKit

theorem below_drewN (b : Nat) (w : World) (n : Nat) : Below b w (w.drewN n) := ⟨rfl, rfl, rfl, Nat.le_refl _, fun _ _ => rfl⟩
theorem ret_i {k : IntKind} {a b : Int} (h : a = b) : Ending.returned (.int k a) = .returned (.int k b) := by rw [h]
set_option maxHeartbeats 1000000 in
theorem next_no (a : Nat) (i n : Int) (w : World) (h : i < 0 ∨ n ≤ i ∨ 281474976710656 < a) :
    Calls Try.prog 9 #[.int .u64 (a : Int), .int .i64 i, .int .i64 n] w fun e w' => e = .returned (.int .u64 0) ∧ w = w' := by
  by_cases h1 : i < 0
  · clear h
    go_enter Try.func9, Try.ntmps9
    go_wp2_with fail
    go_ret
    exact ⟨rfl, rfl⟩
  · by_cases h2 : n ≤ i
    · clear h
      go_enter Try.func9, Try.ntmps9
      go_wp2_with fail
      go_ret
      exact ⟨rfl, rfl⟩
    · have h3 : (281474976710656 : Int) < (a : Int) := by omega
      clear h
      go_enter Try.func9, Try.ntmps9
      go_wp2_with fail
      go_ret
      exact ⟨rfl, rfl⟩
set_option maxHeartbeats 1000000 in
theorem next_yes (a i n : Nat) (w : World) (hi : i < n) (hn : n < 9223372036854775808) (ha : a ≤ 281474976710656) :
    Calls Try.prog 9 #[.int .u64 (a : Int), .int .i64 (i : Int), .int .i64 (n : Int)] w fun e w' => e = .returned (.int .u64 (next a i n : Int)) ∧ w = w' := by
  have hv := next_val (a := a) hi
  have hr1 := Nat.mod_lt a (show 0 < n by omega)
  have hr2 := Nat.mod_le a n
  have he : (a : Int) % (n : Int) = ((a % n : Nat) : Int) := (Int.natCast_emod a n).symm
  generalize a % n = r at *
  by_cases hc : i ≤ r
  · rw [if_pos hc] at hv
    have HV := Lib.hid hv
    clear hv
    go_enter Try.func9, Try.ntmps9
    go_wp2_with fail
    go_ret
    exact ⟨ret_i (a := (a : Int) - r + i + n) (by rw [HV.out]; omega), rfl⟩
  · rw [if_neg hc] at hv
    have HV := Lib.hid hv
    clear hv
    go_enter Try.func9, Try.ntmps9
    go_wp2_with fail
    go_ret
    exact ⟨ret_i (a := (a : Int) - r + i) (by rw [HV.out]; omega), rfl⟩
set_option maxHeartbeats 1000000 in
theorem owner_yes (e n : Nat) (w : World) (h : 0 < n) (hn : n < 9223372036854775808) :
    Calls Try.prog 11 #[.int .u64 (e : Int), .int .i64 (n : Int)] w fun r w' => r = .returned (.int .i64 ((e % n : Nat) : Int)) ∧ w = w' := by
  have hr1 := Nat.mod_lt e h
  have he : (e : Int) % (n : Int) = ((e % n : Nat) : Int) := (Int.natCast_emod e n).symm
  generalize e % n = r at *
  go_enter Try.func11, Try.ntmps11
  go_wp2_with fail
  go_ret
  exact ⟨rfl, rfl⟩
theorem owner_no (e : Nat) (n : Int) (w : World) (h : n < 1) :
    Calls Try.prog 11 #[.int .u64 (e : Int), .int .i64 n] w fun r w' => r = .returned (.int .i64 (-1)) ∧ w = w' := by
  go_enter Try.func11, Try.ntmps11
  go_wp2_with fail
  go_ret
  exact ⟨rfl, rfl⟩
theorem quorum_no (n : Int) (w : World) (h : n < 1) :
    Calls Try.prog 12 #[.int .i64 n] w fun r w' => r = .returned (.int .i64 0) ∧ w = w' := by
  go_enter Try.func12, Try.ntmps12
  go_wp2_with fail
  go_ret
  exact ⟨rfl, rfl⟩
theorem quorum_yes (n : Nat) (w : World) (h : 0 < n) (hn : n < 9223372036854775808) :
    Calls Try.prog 12 #[.int .i64 (n : Int)] w fun r w' => r = .returned (.int .i64 (quorum n : Int)) ∧ w = w' := by
  have hq : ((quorum n : Nat) : Int) = (n : Int) / 2 + 1 := by unfold quorum; omega
  have HQ := Lib.hid hq
  clear hq
  go_enter Try.func12, Try.ntmps12
  go_wp2_with fail
  go_ret
  exact ⟨by rw [HQ.out]; rfl, rfl⟩
theorem ty_pair : Try.prog.underlying 39 = some (.array 2 22) := by kernel_rfl
theorem size_pair (w : World) : (Go.sizeOf 22).run Try.prog w = .ok 1 w := by kernel_rfl
theorem part_0 (a b : Value) (w : World) : (part 22 #[a, b] 0).run Try.prog w = .ok a w := by kernel_rfl
theorem part_1 (a b : Value) (w : World) : (part 22 #[a, b] 1).run Try.prog w = .ok b w := by kernel_rfl
theorem eql_pair (c d l m : Int) (w : World) : (Op.equalIn 10000 39 (.agg #[.int .u64 c, .int .u64 l]) (.agg #[.int .u64 d, .int .u64 m])).run Try.prog w = .ok (c == d && l == m) w := by
  show (Op.equalIn (9998 + 1 + 1) _ _ _).run _ _ = _
  rw [Op.equalIn]
  simp only [Sem.run_bind, run_underlying ty_pair, Result.andThen_ok, size_pair]
  have hr : List.range' 0 2 = [0, 1] := rfl
  have he := fun (x y : Int) => run_equalIn_int (P := Try.prog) w 9998 22 .u64 .u64 x y ty_u64
  simp [hr, part_0, part_1, he]
  by_cases h1 : c = d <;> by_cases h2 : l = m <;> simp [h1, h2]
theorem xor_top (b : Nat) (h : b < 2 ^ 63) : b ^^^ 2 ^ 63 = 2 ^ 63 + b := by
  apply Nat.eq_of_testBit_eq
  intro j
  rw [Nat.testBit_xor, Nat.testBit_two_pow]
  rcases Nat.lt_trichotomy j 63 with h1 | h1 | h1
  · rw [Nat.testBit_two_pow_add_gt h1]
    have : ¬ 63 = j := by omega
    simp [this]
  · subst h1
    rw [Nat.testBit_two_pow_add_eq]
    simp
  · have h2 : (2:Nat) ^ 64 ≤ 2 ^ j := Nat.pow_le_pow_right (by decide) h1
    rw [Nat.testBit_lt_two_pow (x := b) (by omega), Nat.testBit_lt_two_pow (x := 2 ^ 63 + b) (by omega)]
    have : ¬ 63 = j := by omega
    simp [this]
theorem lift_bits (l : Int) (h1 : -9223372036854775808 ≤ l) (h2 : l < 9223372036854775808) : bits .xor .u64 (IntKind.u64.wrap l) 9223372036854775808 = l + 9223372036854775808 := by
  by_cases h : 0 ≤ l
  · have e : IntKind.u64.wrap l = ((l.toNat : Nat) : Int) := by
      simp [IntKind.wrap, IntKind.bits, IntKind.signed]; omega
    have := u64_xor_nat l.toNat (2 ^ 63) (by omega) (by decide)
    rw [xor_top _ (by omega)] at this
    rw [e]
    have e2 : (((2 ^ 63 : Nat)) : Int) = 9223372036854775808 := by decide
    rw [e2] at this
    rw [this]
    omega
  · have e : IntKind.u64.wrap l = (((l + 18446744073709551616).toNat : Nat) : Int) := by
      simp [IntKind.wrap, IntKind.bits, IntKind.signed]; omega
    have := u64_xor_nat (l + 18446744073709551616).toNat (2 ^ 63) (by omega) (by decide)
    have e3 : (l + 18446744073709551616).toNat = (l + 9223372036854775808).toNat ^^^ 2 ^ 63 := by rw [xor_top _ (by omega)]; omega
    rw [e3, Nat.xor_assoc, Nat.xor_self, Nat.xor_zero, ← e3] at this
    rw [e]
    have e2 : (((2 ^ 63 : Nat)) : Int) = 9223372036854775808 := by decide
    rw [e2] at this
    rw [this]
    omega
/-- Better, as a function: numbers below 0 among the lines' ones. -/
def btr (c l d m : Int) : Bool := decide (d < c) || (decide (c = d) && decide (m < l))
theorem lift_any (l : Int) (w : World) (h1 : -9223372036854775808 ≤ l) (h2 : l < 9223372036854775808) :
    Calls Try.prog 18 #[.int .i64 l] w fun r w' => r = .returned (.int .u64 (l + 9223372036854775808)) ∧ w = w' := by
  have hb := lift_bits l h1 h2
  go_enter Try.func18, Try.ntmps18
  go_wp2_with fail
  go_ret
  exact ⟨rfl, rfl⟩
def RelAt (c d : Int) (W : World) (v : Value) (wr : World) : Prop := ∃ k : Nat, k ≤ 1 ∧ v = .int .i64 (k : Int) ∧ (k = 1 → c = d) ∧ Below W.heap.size W wr
set_option maxHeartbeats 1000000 in
theorem above_any (c l d m : Int) (w : World) :
    Calls Try.prog 17 #[.agg #[.int .u64 c, .int .u64 l], .agg #[.int .u64 d, .int .u64 m]] w fun r w' => r = .returned (.bool (btr c l d m)) ∧ Below w.heap.size w w' := by
  have hq := eql_pair c d l m
  obtain ⟨W, hW⟩ : ∃ W, W = (w.alloc (.cells #[.int .u64 c, .int .u64 l] 39)).alloc (.cells #[.int .u64 d, .int .u64 m] 39) := ⟨_, rfl⟩
  have HB : Hid (Below w.heap.size w W) := by show Below _ _ _; rw [hW]; exact ((Below.refl _ _).alloc (Nat.le_refl _) _).alloc (by simp) _
  have HA : Hid (Bk W w.heap.size 39 #[.int .u64 c, .int .u64 l]) := by show Bk _ _ _ _; rw [hW]; exact (Bk.new w _ _).alloc _
  have HD : Hid (Bk W (w.heap.size + 1) 39 #[.int .u64 d, .int .u64 m]) := by
    show Bk _ _ _ _
    rw [hW]
    have := Bk.new (w.alloc (.cells #[.int .u64 c, .int .u64 l] 39)) 39 #[.int .u64 d, .int .u64 m]
    rwa [World.size_alloc] at this
  have HW := Lib.hid hW
  clear hW
  by_cases h1 : c = d
  · subst h1
    by_cases h2 : l = m
    · subst h2
      have hr : btr c l c l = false := by simp [btr]
      rw [hr]
      have e1 : (c == c && l == l) = true := by simp
      rw [e1] at hq
      clear hr e1
      go_enter Try.func17, Try.ntmps17
      go_wp2_with fail
      rw [← HW.out]
      go_ret
      exact ⟨rfl, HB.out⟩
    · have hr : btr c l c m = decide (m < l) := by simp [btr]
      rw [hr]
      have e1 : (c == c && l == m) = false := by simp [h2]
      rw [e1] at hq
      have hlm : (l == m) = false := by simp [h2]
      clear hr e1 h2
      go_enter Try.func17, Try.ntmps17
      go_wp2_with fail
      rw [← HW.out]
      go_loopw [5] (fun v wr => RelAt c c W v wr) (fun v _ => 1 - (intOf v).toNat)
      case atStart => exact ⟨0, by omega, rfl, fun _ => rfl, Below.refl _ _⟩
      case round =>
        obtain ⟨k, hk, rfl, -, hb⟩ := hrel
        have HBR := Lib.hid hb
        have a0 : wr.cell? ⟨w.heap.size, 0, none⟩ = some (.int .u64 c) := (HA.out.below hb).cell 0
        have a1 : wr.cell? ⟨w.heap.size, 1, none⟩ = some (.int .u64 l) := (HA.out.below hb).cell 1
        have b0 : wr.cell? ⟨w.heap.size + 1, 0, none⟩ = some (.int .u64 c) := (HD.out.below hb).cell 0
        have b1 : wr.cell? ⟨w.heap.size + 1, 1, none⟩ = some (.int .u64 m) := (HD.out.below hb).cell 1
        clear hb
        rcases (show k = 0 ∨ k = 1 by omega) with rfl | rfl
        · go_wp2_with fail
          go_quiet (fail)
          go_wp2_with fail
          exact ⟨⟨1, Nat.le_refl _, rfl, fun _ => rfl, HBR.out.trans (below_drewN _ _ nq)⟩, by simp [intOf]⟩
        · go_wp2_with fail
          go_quiet (fail)
          go_wp2_with fail
          have a1 : (wr.drewN nq).cell? ⟨w.heap.size, 1, none⟩ = some (.int .u64 l) := by rw [World.cell?_drewN]; exact a1
          have b1 : (wr.drewN nq).cell? ⟨w.heap.size + 1, 1, none⟩ = some (.int .u64 m) := by rw [World.cell?_drewN]; exact b1
          have HB2 : Hid (Below w.heap.size w (wr.drewN nq)) := HB.out.trans ((HBR.out.trans (below_drewN _ _ nq)).mono HB.out.size)
          generalize wr.drewN nq = wq at *
          go_quiet (fail)
          go_wp2_with fail
          go_ret
          exact ⟨rfl, HB2.out.trans (below_drewN _ _ _)⟩
  · have hr : btr c l d m = decide (d < c) := by simp [btr, h1]
    rw [hr]
    have e1 : (c == d && l == m) = false := by simp [h1]
    rw [e1] at hq
    have hcd : (c == d) = false := by simp [h1]
    clear hr e1 h1
    go_enter Try.func17, Try.ntmps17
    go_wp2_with fail
    rw [← HW.out]
    go_loopw [5] (fun v wr => RelAt c d W v wr) (fun v _ => 1 - (intOf v).toNat)
    case atStart => exact ⟨0, by omega, rfl, (fun h => absurd h (by decide)), Below.refl _ _⟩
    case round =>
      obtain ⟨k, hk, rfl, hkc, hb⟩ := hrel
      have HBR := Lib.hid hb
      have a0 : wr.cell? ⟨w.heap.size, 0, none⟩ = some (.int .u64 c) := (HA.out.below hb).cell 0
      have b0 : wr.cell? ⟨w.heap.size + 1, 0, none⟩ = some (.int .u64 d) := (HD.out.below hb).cell 0
      clear hb
      rcases (show k = 0 ∨ k = 1 by omega) with rfl | rfl
      · clear hkc
        go_wp2_with fail
        go_quiet (fail)
        go_wp2_with fail
        have a0 : (wr.drewN nq).cell? ⟨w.heap.size, 0, none⟩ = some (.int .u64 c) := by rw [World.cell?_drewN]; exact a0
        have b0 : (wr.drewN nq).cell? ⟨w.heap.size + 1, 0, none⟩ = some (.int .u64 d) := by rw [World.cell?_drewN]; exact b0
        have HB2 : Hid (Below w.heap.size w (wr.drewN nq)) := HB.out.trans ((HBR.out.trans (below_drewN _ _ nq)).mono HB.out.size)
        generalize wr.drewN nq = wq at *
        go_quiet (fail)
        go_wp2_with fail
        go_ret
        exact ⟨rfl, HB2.out.trans (below_drewN _ _ _)⟩
      · have := hkc rfl
        simp [this] at hcd
set_option maxHeartbeats 1000000 in
theorem better_any (c l d m : Int) (w : World) (h1 : -9223372036854775808 ≤ l ∧ l < 9223372036854775808) (h2 : -9223372036854775808 ≤ m ∧ m < 9223372036854775808) :
    Calls Try.prog 13 #[.int .u64 c, .int .i64 l, .int .u64 d, .int .i64 m] w fun r w' => r = .returned (.bool (btr c l d m)) ∧ Below w.heap.size w w' := by
  have C1 := Lib.hid (lift_any l w h1.1 h1.2)
  have C2 := Lib.hid (lift_any m w h2.1 h2.2)
  have C3 := above_any c (l + 9223372036854775808) d (m + 9223372036854775808) w
  have hr : btr c (l + 9223372036854775808) d (m + 9223372036854775808) = btr c l d m := by
    unfold btr
    by_cases h : m < l
    · simp [h]
    · have : ¬ m + 9223372036854775808 < l + 9223372036854775808 := by omega
      simp [h, this]
  rw [hr] at C3
  have C3 := Lib.hid C3
  clear hr
  generalize btr c l d m = b at *
  go_enter Try.func13, Try.ntmps13
  go_wp2_with fail
  refine C1.out.mono ?_
  rintro _ _ ⟨rfl, rfl⟩
  go_wp2_with fail
  refine C2.out.mono ?_
  rintro _ _ ⟨rfl, rfl⟩
  go_wp2_with fail
  refine C3.out.mono ?_
  rintro _ w' ⟨rfl, hb⟩
  have HB := Lib.hid hb
  clear hb
  go_wp2_with fail
  go_ret
  exact ⟨rfl, HB.out⟩
end Go.Proofs.Ytcnmfbbliaemhaa.Bal
