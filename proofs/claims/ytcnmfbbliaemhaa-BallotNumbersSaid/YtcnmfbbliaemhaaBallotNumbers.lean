/- BallotNumbers: every Next, Owner, Quorum and Better (of groups of at most 1,000 nodes) is the document's: for all numbers the call returns true, and nothing that was there has turned. No conditions. -/
import Derived.Test.YtcnmfbbliaemhaaBalFrame
namespace Go.Proofs.Ytcnmfbbliaemhaa.ballotNumbers
open Go.ChangeShapes Go.WideShapes Go.ChangeAt Go.RowKit Bal

theorem quo_pos {n : Int} (h : 0 < n) : quoI n = (n + 2) / 2 := by
  unfold quoI quorum
  rw [if_pos h]
  omega
theorem quo_none {n : Int} (h : ¬ 0 < n) : quoI n = 0 := if_neg h
theorem own_none (a : Int) {n : Int} (h : ¬ 0 < n) : ownI a n = -1 := if_neg h
theorem own_pos {a n : Int} (ha : 0 ≤ a) (h : 0 < n) : ownI a n = a % n := by
  unfold ownI
  rw [if_pos h, Int.natCast_emod]
  congr 1 <;> omega
set_option maxRecDepth 100000 in
set_option maxHeartbeats 4000000 in
theorem walk (a i n c l m : Int) (w : World) (a1 : 0 ≤ a) (a2 : a < 18446744073709551616) (l1 : -9223372036854775808 ≤ l) (l2 : l < 9223372036854775808) (m1 : -9223372036854775808 ≤ m) (m2 : m < 9223372036854775808) : Calls Try.prog 3 #[.int .u64 a, .int .i64 i, .int .i64 n, .int .u64 c, .int .i64 l, .int .i64 m] w fun r w' => r = .returned (.bool true) ∧ Below w.heap.size w w' := by
  by_cases hbig : 1000 < n
  · go_enter Try.func3, Try.ntmps3
    go_wp2_with fail
    go_ret
    exact ⟨rfl, Below.refl _ _⟩
  · by_cases hn : 0 < n
    · rcases Int.lt_trichotomy c a with h | h | h
      · have h5 : c < a := h
        have HR : Hid (btr a l c m = true) := btr_up l m h
        have HQ := Lib.hid (quo_pos hn)
        have HO := Lib.hid (own_pos a1 hn)
        have hr1 := Int.emod_nonneg a (show n ≠ 0 by omega)
        have hr2 := Int.emod_lt_of_pos a hn
        obtain ⟨r, hr⟩ : ∃ r, a % n = r := ⟨_, rfl⟩
        rw [hr] at HO hr1 hr2
        try clear h
        go_enter Try.func3, Try.ntmps3
        have C1 := Lib.hid (next_any a i n w a1 (by omega))
        go_wp2_with fail
        refine C1.out.mono ?_
        rintro e _ ⟨rfl, rfl⟩
        clear C1
        have C2 := Lib.hid (ref_any a i n w a1 (by omega))
        go_wp2_with fail
        refine C2.out.mono ?_
        rintro e _ ⟨rfl, rfl⟩
        clear C2
        have C3 := owner_any a n w a1 (by omega)
        rw [HO.out] at C3
        have C3 := Lib.hid C3
        go_wp2_with fail
        refine C3.out.mono ?_
        rintro e _ ⟨rfl, rfl⟩
        clear C3
        have C4 := quorum_any n w (by omega)
        rw [HQ.out] at C4
        have C4 := Lib.hid C4
        go_wp2_with fail
        refine C4.out.mono ?_
        rintro e _ ⟨rfl, rfl⟩
        clear C4
        have C5 := better_any a l c m w ⟨l1, l2⟩ ⟨m1, m2⟩
        rw [HR.out] at C5
        have C5 := Lib.hid C5
        go_wp2_with fail
        refine C5.out.mono ?_
        rintro e w5 ⟨rfl, hb⟩
        have HB5 := Lib.hid hb
        clear hb C5
        go_wp2_with fail
        refine (counts_any w5).mono ?_
        rintro e w6 ⟨rfl, hb⟩
        have HB6 := Lib.hid (HB5.out.trans (hb.mono HB5.out.size))
        clear hb
        go_wp2_with fail
        go_ret
        exact ⟨rfl, HB6.out⟩
      · subst h
        by_cases h : m < l
        · have h5 : m < l := h
          have HR : Hid (btr c l c m = true) := btr_yes _ h
          have HQ := Lib.hid (quo_pos hn)
          have HO := Lib.hid (own_pos a1 hn)
          have hr1 := Int.emod_nonneg c (show n ≠ 0 by omega)
          have hr2 := Int.emod_lt_of_pos c hn
          obtain ⟨r, hr⟩ : ∃ r, c % n = r := ⟨_, rfl⟩
          rw [hr] at HO hr1 hr2
          try clear h
          go_enter Try.func3, Try.ntmps3
          have C1 := Lib.hid (next_any c i n w a1 (by omega))
          go_wp2_with fail
          refine C1.out.mono ?_
          rintro e _ ⟨rfl, rfl⟩
          clear C1
          have C2 := Lib.hid (ref_any c i n w a1 (by omega))
          go_wp2_with fail
          refine C2.out.mono ?_
          rintro e _ ⟨rfl, rfl⟩
          clear C2
          have C3 := owner_any c n w a1 (by omega)
          rw [HO.out] at C3
          have C3 := Lib.hid C3
          go_wp2_with fail
          refine C3.out.mono ?_
          rintro e _ ⟨rfl, rfl⟩
          clear C3
          have C4 := quorum_any n w (by omega)
          rw [HQ.out] at C4
          have C4 := Lib.hid C4
          go_wp2_with fail
          refine C4.out.mono ?_
          rintro e _ ⟨rfl, rfl⟩
          clear C4
          have C5 := better_any c l c m w ⟨l1, l2⟩ ⟨m1, m2⟩
          rw [HR.out] at C5
          have C5 := Lib.hid C5
          go_wp2_with fail
          refine C5.out.mono ?_
          rintro e w5 ⟨rfl, hb⟩
          have HB5 := Lib.hid hb
          clear hb C5
          go_wp2_with fail
          refine (counts_any w5).mono ?_
          rintro e w6 ⟨rfl, hb⟩
          have HB6 := Lib.hid (HB5.out.trans (hb.mono HB5.out.size))
          clear hb
          go_wp2_with fail
          go_ret
          exact ⟨rfl, HB6.out⟩
        · have h5 : ¬ m < l := h
          have HR : Hid (btr c l c m = false) := btr_le _ h
          have HQ := Lib.hid (quo_pos hn)
          have HO := Lib.hid (own_pos a1 hn)
          have hr1 := Int.emod_nonneg c (show n ≠ 0 by omega)
          have hr2 := Int.emod_lt_of_pos c hn
          obtain ⟨r, hr⟩ : ∃ r, c % n = r := ⟨_, rfl⟩
          rw [hr] at HO hr1 hr2
          try clear h
          go_enter Try.func3, Try.ntmps3
          have C1 := Lib.hid (next_any c i n w a1 (by omega))
          go_wp2_with fail
          refine C1.out.mono ?_
          rintro e _ ⟨rfl, rfl⟩
          clear C1
          have C2 := Lib.hid (ref_any c i n w a1 (by omega))
          go_wp2_with fail
          refine C2.out.mono ?_
          rintro e _ ⟨rfl, rfl⟩
          clear C2
          have C3 := owner_any c n w a1 (by omega)
          rw [HO.out] at C3
          have C3 := Lib.hid C3
          go_wp2_with fail
          refine C3.out.mono ?_
          rintro e _ ⟨rfl, rfl⟩
          clear C3
          have C4 := quorum_any n w (by omega)
          rw [HQ.out] at C4
          have C4 := Lib.hid C4
          go_wp2_with fail
          refine C4.out.mono ?_
          rintro e _ ⟨rfl, rfl⟩
          clear C4
          have C5 := better_any c l c m w ⟨l1, l2⟩ ⟨m1, m2⟩
          rw [HR.out] at C5
          have C5 := Lib.hid C5
          go_wp2_with fail
          refine C5.out.mono ?_
          rintro e w5 ⟨rfl, hb⟩
          have HB5 := Lib.hid hb
          clear hb C5
          go_wp2_with fail
          refine (counts_any w5).mono ?_
          rintro e w6 ⟨rfl, hb⟩
          have HB6 := Lib.hid (HB5.out.trans (hb.mono HB5.out.size))
          clear hb
          go_wp2_with fail
          go_ret
          exact ⟨rfl, HB6.out⟩
      · have h5 : ¬ c < a := by omega
        have h6 : (a == c) = false := by simp; omega
        have HR : Hid (btr a l c m = false) := btr_down m l h
        have HQ := Lib.hid (quo_pos hn)
        have HO := Lib.hid (own_pos a1 hn)
        have hr1 := Int.emod_nonneg a (show n ≠ 0 by omega)
        have hr2 := Int.emod_lt_of_pos a hn
        obtain ⟨r, hr⟩ : ∃ r, a % n = r := ⟨_, rfl⟩
        rw [hr] at HO hr1 hr2
        try clear h
        go_enter Try.func3, Try.ntmps3
        have C1 := Lib.hid (next_any a i n w a1 (by omega))
        go_wp2_with fail
        refine C1.out.mono ?_
        rintro e _ ⟨rfl, rfl⟩
        clear C1
        have C2 := Lib.hid (ref_any a i n w a1 (by omega))
        go_wp2_with fail
        refine C2.out.mono ?_
        rintro e _ ⟨rfl, rfl⟩
        clear C2
        have C3 := owner_any a n w a1 (by omega)
        rw [HO.out] at C3
        have C3 := Lib.hid C3
        go_wp2_with fail
        refine C3.out.mono ?_
        rintro e _ ⟨rfl, rfl⟩
        clear C3
        have C4 := quorum_any n w (by omega)
        rw [HQ.out] at C4
        have C4 := Lib.hid C4
        go_wp2_with fail
        refine C4.out.mono ?_
        rintro e _ ⟨rfl, rfl⟩
        clear C4
        have C5 := better_any a l c m w ⟨l1, l2⟩ ⟨m1, m2⟩
        rw [HR.out] at C5
        have C5 := Lib.hid C5
        go_wp2_with fail
        refine C5.out.mono ?_
        rintro e w5 ⟨rfl, hb⟩
        have HB5 := Lib.hid hb
        clear hb C5
        go_wp2_with fail
        refine (counts_any w5).mono ?_
        rintro e w6 ⟨rfl, hb⟩
        have HB6 := Lib.hid (HB5.out.trans (hb.mono HB5.out.size))
        clear hb
        go_wp2_with fail
        go_ret
        exact ⟨rfl, HB6.out⟩
    · rcases Int.lt_trichotomy c a with h | h | h
      · have h5 : c < a := h
        have HR : Hid (btr a l c m = true) := btr_up l m h
        have HQ := Lib.hid (quo_none hn)
        have HO := Lib.hid (own_none a hn)
        try clear h
        go_enter Try.func3, Try.ntmps3
        have C1 := Lib.hid (next_any a i n w a1 (by omega))
        go_wp2_with fail
        refine C1.out.mono ?_
        rintro e _ ⟨rfl, rfl⟩
        clear C1
        have C2 := Lib.hid (ref_any a i n w a1 (by omega))
        go_wp2_with fail
        refine C2.out.mono ?_
        rintro e _ ⟨rfl, rfl⟩
        clear C2
        have C3 := owner_any a n w a1 (by omega)
        rw [HO.out] at C3
        have C3 := Lib.hid C3
        go_wp2_with fail
        refine C3.out.mono ?_
        rintro e _ ⟨rfl, rfl⟩
        clear C3
        have C4 := quorum_any n w (by omega)
        rw [HQ.out] at C4
        have C4 := Lib.hid C4
        go_wp2_with fail
        refine C4.out.mono ?_
        rintro e _ ⟨rfl, rfl⟩
        clear C4
        have C5 := better_any a l c m w ⟨l1, l2⟩ ⟨m1, m2⟩
        rw [HR.out] at C5
        have C5 := Lib.hid C5
        go_wp2_with fail
        refine C5.out.mono ?_
        rintro e w5 ⟨rfl, hb⟩
        have HB5 := Lib.hid hb
        clear hb C5
        go_wp2_with fail
        refine (counts_any w5).mono ?_
        rintro e w6 ⟨rfl, hb⟩
        have HB6 := Lib.hid (HB5.out.trans (hb.mono HB5.out.size))
        clear hb
        go_wp2_with fail
        go_ret
        exact ⟨rfl, HB6.out⟩
      · subst h
        by_cases h : m < l
        · have h5 : m < l := h
          have HR : Hid (btr c l c m = true) := btr_yes _ h
          have HQ := Lib.hid (quo_none hn)
          have HO := Lib.hid (own_none c hn)
          try clear h
          go_enter Try.func3, Try.ntmps3
          have C1 := Lib.hid (next_any c i n w a1 (by omega))
          go_wp2_with fail
          refine C1.out.mono ?_
          rintro e _ ⟨rfl, rfl⟩
          clear C1
          have C2 := Lib.hid (ref_any c i n w a1 (by omega))
          go_wp2_with fail
          refine C2.out.mono ?_
          rintro e _ ⟨rfl, rfl⟩
          clear C2
          have C3 := owner_any c n w a1 (by omega)
          rw [HO.out] at C3
          have C3 := Lib.hid C3
          go_wp2_with fail
          refine C3.out.mono ?_
          rintro e _ ⟨rfl, rfl⟩
          clear C3
          have C4 := quorum_any n w (by omega)
          rw [HQ.out] at C4
          have C4 := Lib.hid C4
          go_wp2_with fail
          refine C4.out.mono ?_
          rintro e _ ⟨rfl, rfl⟩
          clear C4
          have C5 := better_any c l c m w ⟨l1, l2⟩ ⟨m1, m2⟩
          rw [HR.out] at C5
          have C5 := Lib.hid C5
          go_wp2_with fail
          refine C5.out.mono ?_
          rintro e w5 ⟨rfl, hb⟩
          have HB5 := Lib.hid hb
          clear hb C5
          go_wp2_with fail
          refine (counts_any w5).mono ?_
          rintro e w6 ⟨rfl, hb⟩
          have HB6 := Lib.hid (HB5.out.trans (hb.mono HB5.out.size))
          clear hb
          go_wp2_with fail
          go_ret
          exact ⟨rfl, HB6.out⟩
        · have h5 : ¬ m < l := h
          have HR : Hid (btr c l c m = false) := btr_le _ h
          have HQ := Lib.hid (quo_none hn)
          have HO := Lib.hid (own_none c hn)
          try clear h
          go_enter Try.func3, Try.ntmps3
          have C1 := Lib.hid (next_any c i n w a1 (by omega))
          go_wp2_with fail
          refine C1.out.mono ?_
          rintro e _ ⟨rfl, rfl⟩
          clear C1
          have C2 := Lib.hid (ref_any c i n w a1 (by omega))
          go_wp2_with fail
          refine C2.out.mono ?_
          rintro e _ ⟨rfl, rfl⟩
          clear C2
          have C3 := owner_any c n w a1 (by omega)
          rw [HO.out] at C3
          have C3 := Lib.hid C3
          go_wp2_with fail
          refine C3.out.mono ?_
          rintro e _ ⟨rfl, rfl⟩
          clear C3
          have C4 := quorum_any n w (by omega)
          rw [HQ.out] at C4
          have C4 := Lib.hid C4
          go_wp2_with fail
          refine C4.out.mono ?_
          rintro e _ ⟨rfl, rfl⟩
          clear C4
          have C5 := better_any c l c m w ⟨l1, l2⟩ ⟨m1, m2⟩
          rw [HR.out] at C5
          have C5 := Lib.hid C5
          go_wp2_with fail
          refine C5.out.mono ?_
          rintro e w5 ⟨rfl, hb⟩
          have HB5 := Lib.hid hb
          clear hb C5
          go_wp2_with fail
          refine (counts_any w5).mono ?_
          rintro e w6 ⟨rfl, hb⟩
          have HB6 := Lib.hid (HB5.out.trans (hb.mono HB5.out.size))
          clear hb
          go_wp2_with fail
          go_ret
          exact ⟨rfl, HB6.out⟩
      · have h5 : ¬ c < a := by omega
        have h6 : (a == c) = false := by simp; omega
        have HR : Hid (btr a l c m = false) := btr_down m l h
        have HQ := Lib.hid (quo_none hn)
        have HO := Lib.hid (own_none a hn)
        try clear h
        go_enter Try.func3, Try.ntmps3
        have C1 := Lib.hid (next_any a i n w a1 (by omega))
        go_wp2_with fail
        refine C1.out.mono ?_
        rintro e _ ⟨rfl, rfl⟩
        clear C1
        have C2 := Lib.hid (ref_any a i n w a1 (by omega))
        go_wp2_with fail
        refine C2.out.mono ?_
        rintro e _ ⟨rfl, rfl⟩
        clear C2
        have C3 := owner_any a n w a1 (by omega)
        rw [HO.out] at C3
        have C3 := Lib.hid C3
        go_wp2_with fail
        refine C3.out.mono ?_
        rintro e _ ⟨rfl, rfl⟩
        clear C3
        have C4 := quorum_any n w (by omega)
        rw [HQ.out] at C4
        have C4 := Lib.hid C4
        go_wp2_with fail
        refine C4.out.mono ?_
        rintro e _ ⟨rfl, rfl⟩
        clear C4
        have C5 := better_any a l c m w ⟨l1, l2⟩ ⟨m1, m2⟩
        rw [HR.out] at C5
        have C5 := Lib.hid C5
        go_wp2_with fail
        refine C5.out.mono ?_
        rintro e w5 ⟨rfl, hb⟩
        have HB5 := Lib.hid hb
        clear hb C5
        go_wp2_with fail
        refine (counts_any w5).mono ?_
        rintro e w6 ⟨rfl, hb⟩
        have HB6 := Lib.hid (HB5.out.trans (hb.mono HB5.out.size))
        clear hb
        go_wp2_with fail
        go_ret
        exact ⟨rfl, HB6.out⟩

set_option maxRecDepth 100000 in
theorem lifted (os : Os) (started : os.Started) (H : Type) (enc : TypeId × Value → H) :
    ReturnsInHanded {} Try.checked os 3 .any (Rows.ballotNumbersSpec.pre6 enc Try.prog Try.f3 Rows.ballotNumbersRow.domain false) (Rows.ballotNumbersSpec.post enc Try.prog Try.f3 false true false false) := by
  refine returnsInHanded_of_change (C := Try.checked) own started (by kernel_rfl) Try.func3
    (ChangeSpec.witness6 (enc := enc) (C := Try.checked) false ⟨#[], #[.int .u64 0, .int .i64 0, .int .i64 0, .int .u64 0, .int .i64 0, .int .i64 0], []⟩ 8 (by kernel_rfl) (by kernel_rfl) (by kernel_rfl) (by kernel_rfl)) ?_
  intro W base args ds gs before hval0 hW hcnd _
  have hval : ∀ (j : Nat) t v, Try.f3.params[j]? = some t → args[j]? = some v → Value.okWide Try.prog W .any base t v := hval0
  have hW' := hW
  obtain ⟨p, q, hA0, hV, rfl, hfz, hnd⟩ := hW
  have hA : DataW.TrodAll enc Try.prog W 0 (fun _ => true) true Try.f3.params.toList args.toList ds p := hA0
  rw [Try.params3] at hA hval
  obtain ⟨v0, v1, v2, v3, v4, v5, d0, d1, d2, d3, d4, d5, p0, p1, p2, p3, p4, p5, rfl, rfl, rfl, h0, h1, h2, h3, h4, h5⟩ := trodAll_six hA
  obtain ⟨rfl, rfl⟩ := trodVars_none hV
  obtain ⟨a, rfl, a1, a2⟩ := open_u64 ty_u64 (hval 0 _ v0 rfl rfl) h0
  obtain ⟨i, rfl, i1, i2⟩ := open_i64 ty_int (hval 1 _ v1 rfl rfl) h1
  obtain ⟨n, rfl, n1, n2⟩ := open_i64 ty_int (hval 2 _ v2 rfl rfl) h2
  obtain ⟨c, rfl, c1, c2⟩ := open_u64 ty_u64 (hval 3 _ v3 rfl rfl) h3
  obtain ⟨l, rfl, l1, l2⟩ := open_i64 ty_int (hval 4 _ v4 rfl rfl) h4
  obtain ⟨m, rfl, m1, m2⟩ := open_i64 ty_int (hval 5 _ v5 rfl rfl) h5
  refine (walk a i n c l m W a1 a2 l1 l2 m1 m2).mono fun e W' ⟨he, hb⟩ => ?_
  subst he
  exact ⟨_, rfl, post_true laidOut (by kernel_rfl) ty_bool (by kernel_rfl) rfl hW' hb rfl⟩

theorem over : Rows.ballotNumbersRow.holds Try.pinned (OpenSpec.ofChange Rows.ballotNumbersSpec) :=
  OpenClaim.holds_of_wide 3 Try.f3 rfl rfl rfl rfl rfl rfl rfl ⟨rfl, rfl, rfl, rfl, rfl⟩ rfl rfl rfl rfl rfl (by kernel_rfl) Try.func3 (by kernel_rfl)
    (of_decide_eq_true (by kernel_rfl)) (by unfold Func.isWrapper; first | (rw [if_pos (by decide +kernel)]; kernel_rfl) | (rw [if_neg (by decide +kernel)]; exact ⟨rfl, rfl⟩))
    (fun os started H enc _ => lifted os started H enc)

theorem proved : Rows.BallotNumbersSaid :=
  over
end Go.Proofs.Ytcnmfbbliaemhaa.ballotNumbers
