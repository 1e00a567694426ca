/- BallotOrder: Better is an order: of any three pairs none is better than itself, of two that are not alike just one is better, and better than what is better is better: for all numbers the call returns true, and nothing that was there has turned. No conditions. -/
import Derived.Test.YtcnmfbbliaemhaaBalFrame
namespace Go.Proofs.Ytcnmfbbliaemhaa.ballotOrder
open Go.ChangeShapes Go.WideShapes Go.ChangeAt Go.RowKit Bal

theorem btr_self (c l : Int) : btr c l c l = false := by simp [btr]
theorem btr_up {c d : Int} (l m : Int) (h : d < c) : btr c l d m = true := by simp [btr, h]
theorem btr_down {c d : Int} (l m : Int) (h : d < c) : btr d m c l = false := by
  have h1 : ¬ c < d := by omega
  have h2 : ¬ d = c := by omega
  simp [btr, h1, h2]
theorem btr_yes {l m : Int} (c : Int) (h : m < l) : btr c l c m = true := by simp [btr, h]
theorem btr_no {l m : Int} (c : Int) (h : m < l) : btr c m c l = false := by
  have h1 : ¬ l < m := by omega
  simp [btr, h1]
theorem btr_trans {c l d m e n : Int} (h1 : btr c l d m = true) (h2 : btr d m e n = true) : btr c l e n = true := by
  simp [btr] at *
  omega
set_option maxRecDepth 100000 in
set_option maxHeartbeats 4000000 in
theorem walk (c d e l m n : Int) (w : World) (l1 : -9223372036854775808 ≤ l) (l2 : l < 9223372036854775808) (m1 : -9223372036854775808 ≤ m) (m2 : m < 9223372036854775808) (n1 : -9223372036854775808 ≤ n) (n2 : n < 9223372036854775808) : Calls Try.prog 7 #[.int .u64 c, .int .u64 d, .int .u64 e, .int .i64 l, .int .i64 m, .int .i64 n] w fun r w' => r = .returned (.bool true) ∧ Below w.heap.size w w' := by
  have HB := Lib.hid (Below.refl w.heap.size w)
  rcases Int.lt_trichotomy c d with h | h | h
  · have hcd : (c == d) = false := by simp; omega
    have hx : btr c l d m = false := btr_down m l h
    have hy : btr d m c l = true := btr_up m l h
    have hs := btr_self c l
    cases hz : btr d m e n
    · have HX := Lib.hid hx
      have HY := Lib.hid hy
      have HZ := Lib.hid hz
      have HS := Lib.hid hs
      clear hx hy hz hs
      clear h
      go_enter Try.func7, Try.ntmps7
      have C1 := better_any c l d m w ⟨l1, l2⟩ ⟨m1, m2⟩
      rw [HX.out] at C1
      have C1 := Lib.hid C1
      go_wp2_with fail
      refine C1.out.mono ?_
      rintro r w1 ⟨rfl, hb⟩
      have HB1 := Lib.hid (HB.out.trans (hb.mono HB.out.size))
      clear hb C1
      have C2 := better_any d m c l w1 ⟨m1, m2⟩ ⟨l1, l2⟩
      rw [HY.out] at C2
      have C2 := Lib.hid C2
      go_wp2_with fail
      refine C2.out.mono ?_
      rintro r w2 ⟨rfl, hb⟩
      have HB2 := Lib.hid (HB1.out.trans (hb.mono HB1.out.size))
      clear hb C2
      have C3 := better_any d m e n w2 ⟨m1, m2⟩ ⟨n1, n2⟩
      rw [HZ.out] at C3
      have C3 := Lib.hid C3
      go_wp2_with fail
      refine C3.out.mono ?_
      rintro r w3 ⟨rfl, hb⟩
      have HB3 := Lib.hid (HB2.out.trans (hb.mono HB2.out.size))
      clear hb C3
      have C4 := better_any c l c l w3 ⟨l1, l2⟩ ⟨l1, l2⟩
      rw [HS.out] at C4
      have C4 := Lib.hid C4
      go_wp2_with fail
      refine C4.out.mono ?_
      rintro r w4 ⟨rfl, hb⟩
      have HB4 := Lib.hid (HB3.out.trans (hb.mono HB3.out.size))
      clear hb C4
      go_wp2_with fail
      refine (counts_any w4).mono ?_
      rintro r w6 ⟨rfl, hb⟩
      have HB6 := Lib.hid (HB4.out.trans (hb.mono HB4.out.size))
      clear hb
      go_wp2_with fail
      go_ret
      exact ⟨rfl, HB6.out⟩
    · have HX := Lib.hid hx
      have HY := Lib.hid hy
      have HZ := Lib.hid hz
      have HS := Lib.hid hs
      clear hx hy hz hs
      clear h
      go_enter Try.func7, Try.ntmps7
      have C1 := better_any c l d m w ⟨l1, l2⟩ ⟨m1, m2⟩
      rw [HX.out] at C1
      have C1 := Lib.hid C1
      go_wp2_with fail
      refine C1.out.mono ?_
      rintro r w1 ⟨rfl, hb⟩
      have HB1 := Lib.hid (HB.out.trans (hb.mono HB.out.size))
      clear hb C1
      have C2 := better_any d m c l w1 ⟨m1, m2⟩ ⟨l1, l2⟩
      rw [HY.out] at C2
      have C2 := Lib.hid C2
      go_wp2_with fail
      refine C2.out.mono ?_
      rintro r w2 ⟨rfl, hb⟩
      have HB2 := Lib.hid (HB1.out.trans (hb.mono HB1.out.size))
      clear hb C2
      have C3 := better_any d m e n w2 ⟨m1, m2⟩ ⟨n1, n2⟩
      rw [HZ.out] at C3
      have C3 := Lib.hid C3
      go_wp2_with fail
      refine C3.out.mono ?_
      rintro r w3 ⟨rfl, hb⟩
      have HB3 := Lib.hid (HB2.out.trans (hb.mono HB2.out.size))
      clear hb C3
      have C4 := better_any c l c l w3 ⟨l1, l2⟩ ⟨l1, l2⟩
      rw [HS.out] at C4
      have C4 := Lib.hid C4
      go_wp2_with fail
      refine C4.out.mono ?_
      rintro r w4 ⟨rfl, hb⟩
      have HB4 := Lib.hid (HB3.out.trans (hb.mono HB3.out.size))
      clear hb C4
      go_wp2_with fail
      refine (counts_any w4).mono ?_
      rintro r w6 ⟨rfl, hb⟩
      have HB6 := Lib.hid (HB4.out.trans (hb.mono HB4.out.size))
      clear hb
      go_wp2_with fail
      go_ret
      exact ⟨rfl, HB6.out⟩
  · subst h
    rcases Int.lt_trichotomy l m with h | h | h
    · have hlm : (l == m) = false := by simp; omega
      have hx : btr c l c m = false := btr_no c h
      have hy : btr c m c l = true := btr_yes c h
      have hs := btr_self c l
      cases hz : btr c m e n
      · have HX := Lib.hid hx
        have HY := Lib.hid hy
        have HZ := Lib.hid hz
        have HS := Lib.hid hs
        clear hx hy hz hs
        clear h
        go_enter Try.func7, Try.ntmps7
        have C1 := better_any c l c m w ⟨l1, l2⟩ ⟨m1, m2⟩
        rw [HX.out] at C1
        have C1 := Lib.hid C1
        go_wp2_with fail
        refine C1.out.mono ?_
        rintro r w1 ⟨rfl, hb⟩
        have HB1 := Lib.hid (HB.out.trans (hb.mono HB.out.size))
        clear hb C1
        have C2 := better_any c m c l w1 ⟨m1, m2⟩ ⟨l1, l2⟩
        rw [HY.out] at C2
        have C2 := Lib.hid C2
        go_wp2_with fail
        refine C2.out.mono ?_
        rintro r w2 ⟨rfl, hb⟩
        have HB2 := Lib.hid (HB1.out.trans (hb.mono HB1.out.size))
        clear hb C2
        have C3 := better_any c m e n w2 ⟨m1, m2⟩ ⟨n1, n2⟩
        rw [HZ.out] at C3
        have C3 := Lib.hid C3
        go_wp2_with fail
        refine C3.out.mono ?_
        rintro r w3 ⟨rfl, hb⟩
        have HB3 := Lib.hid (HB2.out.trans (hb.mono HB2.out.size))
        clear hb C3
        have C4 := better_any c l c l w3 ⟨l1, l2⟩ ⟨l1, l2⟩
        rw [HS.out] at C4
        have C4 := Lib.hid C4
        go_wp2_with fail
        refine C4.out.mono ?_
        rintro r w4 ⟨rfl, hb⟩
        have HB4 := Lib.hid (HB3.out.trans (hb.mono HB3.out.size))
        clear hb C4
        go_wp2_with fail
        refine (counts_any w4).mono ?_
        rintro r w6 ⟨rfl, hb⟩
        have HB6 := Lib.hid (HB4.out.trans (hb.mono HB4.out.size))
        clear hb
        go_wp2_with fail
        go_ret
        exact ⟨rfl, HB6.out⟩
      · have HX := Lib.hid hx
        have HY := Lib.hid hy
        have HZ := Lib.hid hz
        have HS := Lib.hid hs
        clear hx hy hz hs
        clear h
        go_enter Try.func7, Try.ntmps7
        have C1 := better_any c l c m w ⟨l1, l2⟩ ⟨m1, m2⟩
        rw [HX.out] at C1
        have C1 := Lib.hid C1
        go_wp2_with fail
        refine C1.out.mono ?_
        rintro r w1 ⟨rfl, hb⟩
        have HB1 := Lib.hid (HB.out.trans (hb.mono HB.out.size))
        clear hb C1
        have C2 := better_any c m c l w1 ⟨m1, m2⟩ ⟨l1, l2⟩
        rw [HY.out] at C2
        have C2 := Lib.hid C2
        go_wp2_with fail
        refine C2.out.mono ?_
        rintro r w2 ⟨rfl, hb⟩
        have HB2 := Lib.hid (HB1.out.trans (hb.mono HB1.out.size))
        clear hb C2
        have C3 := better_any c m e n w2 ⟨m1, m2⟩ ⟨n1, n2⟩
        rw [HZ.out] at C3
        have C3 := Lib.hid C3
        go_wp2_with fail
        refine C3.out.mono ?_
        rintro r w3 ⟨rfl, hb⟩
        have HB3 := Lib.hid (HB2.out.trans (hb.mono HB2.out.size))
        clear hb C3
        have C4 := better_any c l c l w3 ⟨l1, l2⟩ ⟨l1, l2⟩
        rw [HS.out] at C4
        have C4 := Lib.hid C4
        go_wp2_with fail
        refine C4.out.mono ?_
        rintro r w4 ⟨rfl, hb⟩
        have HB4 := Lib.hid (HB3.out.trans (hb.mono HB3.out.size))
        clear hb C4
        go_wp2_with fail
        refine (counts_any w4).mono ?_
        rintro r w6 ⟨rfl, hb⟩
        have HB6 := Lib.hid (HB4.out.trans (hb.mono HB4.out.size))
        clear hb
        go_wp2_with fail
        go_ret
        exact ⟨rfl, HB6.out⟩
    · subst h
      have hx : btr c l c l = false := btr_self c l
      have hy : btr c l c l = false := btr_self c l
      have hs := btr_self c l
      cases hz : btr c l e n
      · have HX := Lib.hid hx
        have HY := Lib.hid hy
        have HZ := Lib.hid hz
        have HS := Lib.hid hs
        clear hx hy hz hs
        go_enter Try.func7, Try.ntmps7
        have C1 := better_any c l c l w ⟨l1, l2⟩ ⟨l1, l2⟩
        rw [HX.out] at C1
        have C1 := Lib.hid C1
        go_wp2_with fail
        refine C1.out.mono ?_
        rintro r w1 ⟨rfl, hb⟩
        have HB1 := Lib.hid (HB.out.trans (hb.mono HB.out.size))
        clear hb C1
        have C2 := better_any c l c l w1 ⟨l1, l2⟩ ⟨l1, l2⟩
        rw [HY.out] at C2
        have C2 := Lib.hid C2
        go_wp2_with fail
        refine C2.out.mono ?_
        rintro r w2 ⟨rfl, hb⟩
        have HB2 := Lib.hid (HB1.out.trans (hb.mono HB1.out.size))
        clear hb C2
        have C3 := better_any c l e n w2 ⟨l1, l2⟩ ⟨n1, n2⟩
        rw [HZ.out] at C3
        have C3 := Lib.hid C3
        go_wp2_with fail
        refine C3.out.mono ?_
        rintro r w3 ⟨rfl, hb⟩
        have HB3 := Lib.hid (HB2.out.trans (hb.mono HB2.out.size))
        clear hb C3
        have C4 := better_any c l c l w3 ⟨l1, l2⟩ ⟨l1, l2⟩
        rw [HS.out] at C4
        have C4 := Lib.hid C4
        go_wp2_with fail
        refine C4.out.mono ?_
        rintro r w4 ⟨rfl, hb⟩
        have HB4 := Lib.hid (HB3.out.trans (hb.mono HB3.out.size))
        clear hb C4
        go_wp2_with fail
        refine (counts_any w4).mono ?_
        rintro r w6 ⟨rfl, hb⟩
        have HB6 := Lib.hid (HB4.out.trans (hb.mono HB4.out.size))
        clear hb
        go_wp2_with fail
        go_ret
        exact ⟨rfl, HB6.out⟩
      · have HX := Lib.hid hx
        have HY := Lib.hid hy
        have HZ := Lib.hid hz
        have HS := Lib.hid hs
        clear hx hy hz hs
        go_enter Try.func7, Try.ntmps7
        have C1 := better_any c l c l w ⟨l1, l2⟩ ⟨l1, l2⟩
        rw [HX.out] at C1
        have C1 := Lib.hid C1
        go_wp2_with fail
        refine C1.out.mono ?_
        rintro r w1 ⟨rfl, hb⟩
        have HB1 := Lib.hid (HB.out.trans (hb.mono HB.out.size))
        clear hb C1
        have C2 := better_any c l c l w1 ⟨l1, l2⟩ ⟨l1, l2⟩
        rw [HY.out] at C2
        have C2 := Lib.hid C2
        go_wp2_with fail
        refine C2.out.mono ?_
        rintro r w2 ⟨rfl, hb⟩
        have HB2 := Lib.hid (HB1.out.trans (hb.mono HB1.out.size))
        clear hb C2
        have C3 := better_any c l e n w2 ⟨l1, l2⟩ ⟨n1, n2⟩
        rw [HZ.out] at C3
        have C3 := Lib.hid C3
        go_wp2_with fail
        refine C3.out.mono ?_
        rintro r w3 ⟨rfl, hb⟩
        have HB3 := Lib.hid (HB2.out.trans (hb.mono HB2.out.size))
        clear hb C3
        have C4 := better_any c l c l w3 ⟨l1, l2⟩ ⟨l1, l2⟩
        rw [HS.out] at C4
        have C4 := Lib.hid C4
        go_wp2_with fail
        refine C4.out.mono ?_
        rintro r w4 ⟨rfl, hb⟩
        have HB4 := Lib.hid (HB3.out.trans (hb.mono HB3.out.size))
        clear hb C4
        go_wp2_with fail
        refine (counts_any w4).mono ?_
        rintro r w6 ⟨rfl, hb⟩
        have HB6 := Lib.hid (HB4.out.trans (hb.mono HB4.out.size))
        clear hb
        go_wp2_with fail
        go_ret
        exact ⟨rfl, HB6.out⟩
    · have hlm : (l == m) = false := by simp; omega
      have hx : btr c l c m = true := btr_yes c h
      have hy : btr c m c l = false := btr_no c h
      have hs := btr_self c l
      cases hz : btr c m e n
      · have HX := Lib.hid hx
        have HY := Lib.hid hy
        have HZ := Lib.hid hz
        have HS := Lib.hid hs
        clear hx hy hz hs
        clear h
        go_enter Try.func7, Try.ntmps7
        have C1 := better_any c l c m w ⟨l1, l2⟩ ⟨m1, m2⟩
        rw [HX.out] at C1
        have C1 := Lib.hid C1
        go_wp2_with fail
        refine C1.out.mono ?_
        rintro r w1 ⟨rfl, hb⟩
        have HB1 := Lib.hid (HB.out.trans (hb.mono HB.out.size))
        clear hb C1
        have C2 := better_any c m c l w1 ⟨m1, m2⟩ ⟨l1, l2⟩
        rw [HY.out] at C2
        have C2 := Lib.hid C2
        go_wp2_with fail
        refine C2.out.mono ?_
        rintro r w2 ⟨rfl, hb⟩
        have HB2 := Lib.hid (HB1.out.trans (hb.mono HB1.out.size))
        clear hb C2
        have C3 := better_any c m e n w2 ⟨m1, m2⟩ ⟨n1, n2⟩
        rw [HZ.out] at C3
        have C3 := Lib.hid C3
        go_wp2_with fail
        refine C3.out.mono ?_
        rintro r w3 ⟨rfl, hb⟩
        have HB3 := Lib.hid (HB2.out.trans (hb.mono HB2.out.size))
        clear hb C3
        have C4 := better_any c l c l w3 ⟨l1, l2⟩ ⟨l1, l2⟩
        rw [HS.out] at C4
        have C4 := Lib.hid C4
        go_wp2_with fail
        refine C4.out.mono ?_
        rintro r w4 ⟨rfl, hb⟩
        have HB4 := Lib.hid (HB3.out.trans (hb.mono HB3.out.size))
        clear hb C4
        go_wp2_with fail
        refine (counts_any w4).mono ?_
        rintro r w6 ⟨rfl, hb⟩
        have HB6 := Lib.hid (HB4.out.trans (hb.mono HB4.out.size))
        clear hb
        go_wp2_with fail
        go_ret
        exact ⟨rfl, HB6.out⟩
      · have ht := btr_trans hx hz
        have HT := Lib.hid ht
        clear ht
        have HX := Lib.hid hx
        have HY := Lib.hid hy
        have HZ := Lib.hid hz
        have HS := Lib.hid hs
        clear hx hy hz hs
        clear h
        go_enter Try.func7, Try.ntmps7
        have C1 := better_any c l c m w ⟨l1, l2⟩ ⟨m1, m2⟩
        rw [HX.out] at C1
        have C1 := Lib.hid C1
        go_wp2_with fail
        refine C1.out.mono ?_
        rintro r w1 ⟨rfl, hb⟩
        have HB1 := Lib.hid (HB.out.trans (hb.mono HB.out.size))
        clear hb C1
        have C2 := better_any c m c l w1 ⟨m1, m2⟩ ⟨l1, l2⟩
        rw [HY.out] at C2
        have C2 := Lib.hid C2
        go_wp2_with fail
        refine C2.out.mono ?_
        rintro r w2 ⟨rfl, hb⟩
        have HB2 := Lib.hid (HB1.out.trans (hb.mono HB1.out.size))
        clear hb C2
        have C3 := better_any c m e n w2 ⟨m1, m2⟩ ⟨n1, n2⟩
        rw [HZ.out] at C3
        have C3 := Lib.hid C3
        go_wp2_with fail
        refine C3.out.mono ?_
        rintro r w3 ⟨rfl, hb⟩
        have HB3 := Lib.hid (HB2.out.trans (hb.mono HB2.out.size))
        clear hb C3
        have C4 := better_any c l c l w3 ⟨l1, l2⟩ ⟨l1, l2⟩
        rw [HS.out] at C4
        have C4 := Lib.hid C4
        go_wp2_with fail
        refine C4.out.mono ?_
        rintro r w4 ⟨rfl, hb⟩
        have HB4 := Lib.hid (HB3.out.trans (hb.mono HB3.out.size))
        clear hb C4
        have C5 := better_any c l e n w4 ⟨l1, l2⟩ ⟨n1, n2⟩
        rw [HT.out] at C5
        have C5 := Lib.hid C5
        go_wp2_with fail
        refine C5.out.mono ?_
        rintro r w5 ⟨rfl, hb⟩
        have HB5 := Lib.hid (HB4.out.trans (hb.mono HB4.out.size))
        clear hb C5
        go_wp2_with fail
        refine (counts_any w5).mono ?_
        rintro r w6 ⟨rfl, hb⟩
        have HB6 := Lib.hid (HB5.out.trans (hb.mono HB5.out.size))
        clear hb
        go_wp2_with fail
        go_ret
        exact ⟨rfl, HB6.out⟩
  · have hcd : (c == d) = false := by simp; omega
    have hx : btr c l d m = true := btr_up l m h
    have hy : btr d m c l = false := btr_down l m h
    have hs := btr_self c l
    cases hz : btr d m e n
    · have HX := Lib.hid hx
      have HY := Lib.hid hy
      have HZ := Lib.hid hz
      have HS := Lib.hid hs
      clear hx hy hz hs
      clear h
      go_enter Try.func7, Try.ntmps7
      have C1 := better_any c l d m w ⟨l1, l2⟩ ⟨m1, m2⟩
      rw [HX.out] at C1
      have C1 := Lib.hid C1
      go_wp2_with fail
      refine C1.out.mono ?_
      rintro r w1 ⟨rfl, hb⟩
      have HB1 := Lib.hid (HB.out.trans (hb.mono HB.out.size))
      clear hb C1
      have C2 := better_any d m c l w1 ⟨m1, m2⟩ ⟨l1, l2⟩
      rw [HY.out] at C2
      have C2 := Lib.hid C2
      go_wp2_with fail
      refine C2.out.mono ?_
      rintro r w2 ⟨rfl, hb⟩
      have HB2 := Lib.hid (HB1.out.trans (hb.mono HB1.out.size))
      clear hb C2
      have C3 := better_any d m e n w2 ⟨m1, m2⟩ ⟨n1, n2⟩
      rw [HZ.out] at C3
      have C3 := Lib.hid C3
      go_wp2_with fail
      refine C3.out.mono ?_
      rintro r w3 ⟨rfl, hb⟩
      have HB3 := Lib.hid (HB2.out.trans (hb.mono HB2.out.size))
      clear hb C3
      have C4 := better_any c l c l w3 ⟨l1, l2⟩ ⟨l1, l2⟩
      rw [HS.out] at C4
      have C4 := Lib.hid C4
      go_wp2_with fail
      refine C4.out.mono ?_
      rintro r w4 ⟨rfl, hb⟩
      have HB4 := Lib.hid (HB3.out.trans (hb.mono HB3.out.size))
      clear hb C4
      go_wp2_with fail
      refine (counts_any w4).mono ?_
      rintro r w6 ⟨rfl, hb⟩
      have HB6 := Lib.hid (HB4.out.trans (hb.mono HB4.out.size))
      clear hb
      go_wp2_with fail
      go_ret
      exact ⟨rfl, HB6.out⟩
    · have ht := btr_trans hx hz
      have HT := Lib.hid ht
      clear ht
      have HX := Lib.hid hx
      have HY := Lib.hid hy
      have HZ := Lib.hid hz
      have HS := Lib.hid hs
      clear hx hy hz hs
      clear h
      go_enter Try.func7, Try.ntmps7
      have C1 := better_any c l d m w ⟨l1, l2⟩ ⟨m1, m2⟩
      rw [HX.out] at C1
      have C1 := Lib.hid C1
      go_wp2_with fail
      refine C1.out.mono ?_
      rintro r w1 ⟨rfl, hb⟩
      have HB1 := Lib.hid (HB.out.trans (hb.mono HB.out.size))
      clear hb C1
      have C2 := better_any d m c l w1 ⟨m1, m2⟩ ⟨l1, l2⟩
      rw [HY.out] at C2
      have C2 := Lib.hid C2
      go_wp2_with fail
      refine C2.out.mono ?_
      rintro r w2 ⟨rfl, hb⟩
      have HB2 := Lib.hid (HB1.out.trans (hb.mono HB1.out.size))
      clear hb C2
      have C3 := better_any d m e n w2 ⟨m1, m2⟩ ⟨n1, n2⟩
      rw [HZ.out] at C3
      have C3 := Lib.hid C3
      go_wp2_with fail
      refine C3.out.mono ?_
      rintro r w3 ⟨rfl, hb⟩
      have HB3 := Lib.hid (HB2.out.trans (hb.mono HB2.out.size))
      clear hb C3
      have C4 := better_any c l c l w3 ⟨l1, l2⟩ ⟨l1, l2⟩
      rw [HS.out] at C4
      have C4 := Lib.hid C4
      go_wp2_with fail
      refine C4.out.mono ?_
      rintro r w4 ⟨rfl, hb⟩
      have HB4 := Lib.hid (HB3.out.trans (hb.mono HB3.out.size))
      clear hb C4
      have C5 := better_any c l e n w4 ⟨l1, l2⟩ ⟨n1, n2⟩
      rw [HT.out] at C5
      have C5 := Lib.hid C5
      go_wp2_with fail
      refine C5.out.mono ?_
      rintro r w5 ⟨rfl, hb⟩
      have HB5 := Lib.hid (HB4.out.trans (hb.mono HB4.out.size))
      clear hb C5
      go_wp2_with fail
      refine (counts_any w5).mono ?_
      rintro r w6 ⟨rfl, hb⟩
      have HB6 := Lib.hid (HB5.out.trans (hb.mono HB5.out.size))
      clear hb
      go_wp2_with fail
      go_ret
      exact ⟨rfl, HB6.out⟩

set_option maxRecDepth 100000 in
theorem lifted (os : Os) (started : os.Started) (H : Type) (enc : TypeId × Value → H) :
    ReturnsInHanded {} Try.checked os 7 .any (Rows.ballotOrderSpec.pre6 enc Try.prog Try.f7 Rows.ballotOrderRow.domain false) (Rows.ballotOrderSpec.post enc Try.prog Try.f7 false true false false) := by
  refine returnsInHanded_of_change (C := Try.checked) own started (by kernel_rfl) Try.func7
    (ChangeSpec.witness6 (enc := enc) (C := Try.checked) false ⟨#[], #[.int .u64 0, .int .u64 0, .int .u64 0, .int .i64 0, .int .i64 0, .int .i64 0], []⟩ 8 (by kernel_rfl) (by kernel_rfl) (by kernel_rfl) (by kernel_rfl)) ?_
  intro W base args ds gs before hval0 hW hcnd _
  have hval : ∀ (j : Nat) t v, Try.f7.params[j]? = some t → args[j]? = some v → Value.okWide Try.prog W .any base t v := hval0
  have hW' := hW
  obtain ⟨p, q, hA0, hV, rfl, hfz, hnd⟩ := hW
  have hA : DataW.TrodAll enc Try.prog W 0 (fun _ => true) true Try.f7.params.toList args.toList ds p := hA0
  rw [Try.params7] at hA hval
  obtain ⟨v0, v1, v2, v3, v4, v5, d0, d1, d2, d3, d4, d5, p0, p1, p2, p3, p4, p5, rfl, rfl, rfl, h0, h1, h2, h3, h4, h5⟩ := trodAll_six hA
  obtain ⟨rfl, rfl⟩ := trodVars_none hV
  obtain ⟨c, rfl, c1, c2⟩ := open_u64 ty_u64 (hval 0 _ v0 rfl rfl) h0
  obtain ⟨d, rfl, d1, d2⟩ := open_u64 ty_u64 (hval 1 _ v1 rfl rfl) h1
  obtain ⟨e, rfl, e1, e2⟩ := open_u64 ty_u64 (hval 2 _ v2 rfl rfl) h2
  obtain ⟨l, rfl, l1, l2⟩ := open_i64 ty_int (hval 3 _ v3 rfl rfl) h3
  obtain ⟨m, rfl, m1, m2⟩ := open_i64 ty_int (hval 4 _ v4 rfl rfl) h4
  obtain ⟨n, rfl, n1, n2⟩ := open_i64 ty_int (hval 5 _ v5 rfl rfl) h5
  refine (walk c d e l m n W l1 l2 m1 m2 n1 n2).mono fun e W' ⟨he, hb⟩ => ?_
  subst he
  exact ⟨_, rfl, post_true laidOut (by kernel_rfl) ty_bool (by kernel_rfl) rfl hW' hb rfl⟩

theorem over : Rows.ballotOrderRow.holds Try.pinned (OpenSpec.ofChange Rows.ballotOrderSpec) :=
  OpenClaim.holds_of_wide 7 Try.f7 rfl rfl rfl rfl rfl rfl rfl ⟨rfl, rfl, rfl, rfl, rfl⟩ rfl rfl rfl rfl rfl (by kernel_rfl) Try.func7 (by kernel_rfl)
    (of_decide_eq_true (by kernel_rfl)) (by unfold Func.isWrapper; first | (rw [if_pos (by decide +kernel)]; kernel_rfl) | (rw [if_neg (by decide +kernel)]; exact ⟨rfl, rfl⟩))
    (fun os started H enc _ => lifted os started H enc)

theorem proved : Rows.BallotOrderSaid :=
  over
end Go.Proofs.Ytcnmfbbliaemhaa.ballotOrder
