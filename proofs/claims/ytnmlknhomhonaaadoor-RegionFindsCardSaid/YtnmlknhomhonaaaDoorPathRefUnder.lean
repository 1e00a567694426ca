/- The document's own answers for paths: Under. -/
import Derived.Test.YtnmlknhomhonaaaDoorPathRefOf
namespace Go.Proofs.YtnmlknhomhonaaaDoor.Path
open Go.RowKit

set_option maxRecDepth 8000 in
set_option maxHeartbeats 1000000 in
theorem refUnder_any (l m : List UInt8) (w : World) (hl : l.length ≤ 1000000) (hm : m.length ≤ 1000000) : Calls Tryd.prog 28 #[.string (S l), .string (S m)] w fun e w' => e = .returned (.bool (underF l m)) ∧ Below w.heap.size w w' := by
  go_enter Tryd.func28, Tryd.ntmps28
  go_wp2_with fail
  refine (refParts_any l w hl).mono ?_
  rintro e w1 ⟨A, n, c, ok1, rfl, hb1, hs1, hn1⟩
  have HB1 := Lib.hid hb1
  have HS1 := Lib.hid hs1
  have HN1 := Lib.hid hn1
  clear hb1 hs1 hn1
  go_wp2_with fail
  refine (refParts_any m w1 hm).mono ?_
  rintro e w2 ⟨B, k, d, ok2, rfl, hb2, hs2, hn2⟩
  have HB2 := Lib.hid (HB1.out.trans (hb2.mono HB1.out.size))
  have HB12 := Lib.hid hb2
  have HS2 := Lib.hid hs2
  have HN2 := Lib.hid hn2
  clear hb2 hs2 hn2
  cases hp1 : partsF l with
  | none =>
    obtain ⟨rfl, rfl, rfl, rfl⟩ := HN1.out hp1
    have HU : Hid (underF l m = false) := by show _ = _; unfold underF; rw [hp1]
    go_wp2_with fail
    go_ret
    rw [HU.out]
    exact ⟨rfl, HB2.out⟩
  | some a =>
    obtain ⟨rfl, ho1⟩ := HS1.out a hp1
    have HA := Lib.hid ((RdV.of_own ho1).1.below HB12.out)
    have hna : a.length = n := by rw [← sv_length, HA.out.len]
    clear ho1
    cases hp2 : partsF m with
    | none =>
      obtain ⟨rfl, rfl, rfl, rfl⟩ := HN2.out hp2
      have HU : Hid (underF l m = false) := by show _ = _; unfold underF; rw [hp1, hp2]
      go_wp2_with fail
      go_ret
      rw [HU.out]
      exact ⟨rfl, HB2.out⟩
    | some b =>
      obtain ⟨rfl, ho2⟩ := HS2.out b hp2
      have HBb := Lib.hid ((RdV.of_own ho2).1)
      have hkb : b.length = k := by rw [← sv_length, HBb.out.len]
      clear ho2
      have HU : Hid (underF l m = decide (b = a.take b.length)) := by show _ = _; unfold underF; rw [hp1, hp2]
      have hn64 : a.length ≤ 64 := by
        have := ((parts_iff l a).1 hp1)
        have h2 := this.2.1
        rw [this.1] at h2
        exact Nat.le_trans (ofL_length a) h2
      have hk64 : b.length ≤ 64 := by
        have := ((parts_iff m b).1 hp2)
        have h2 := this.2.1
        rw [this.1] at h2
        exact Nat.le_trans (ofL_length b) h2
      clear hp1 hp2 HN1 HN2 HS1 HS2
      by_cases hle : n < k
      · have HF : Hid (decide (b = a.take b.length) = false) := by
          show _ = _
          refine decide_eq_false fun h => ?_
          have := congrArg List.length h
          rw [List.length_take] at this
          omega
        go_wp2_with fail
        go_ret
        rw [HU.out, HF.out]
        exact ⟨rfl, HB2.out⟩
      · go_wp2_with fail
        go_loopw [9] (fun i wr => ∃ j : Nat, j ≤ k ∧ i = .int .i64 (j : Int) ∧ a.take j = b.take j ∧ Below w2.heap.size w2 wr) (fun i _ => k - (intOf i).toNat)
        case atStart => exact ⟨0, by omega, rfl, rfl, Below.refl _ _⟩
        case round =>
          obtain ⟨j, hj, rfl, htj, hbel⟩ := hrel
          have HT := Lib.hid htj
          have HBe := Lib.hid hbel
          clear htj hbel
          by_cases hlt : j < k
          · have hka : j < a.length := by omega
            have hkb : j < b.length := by omega
            obtain ⟨p, q, rfl, rfl, hc⟩ := two_at HA.out HBb.out hka hkb
            have hc1 := fun r => (hc wr HBe.out r).1
            have hc2 := fun r => (hc wr HBe.out r).2
            clear hc
            have v1 : (j : Int) < (n : Int) := by omega
            have v2 : (j : Int) < (k : Int) := by omega
            have hy1 := S_list a[j]
            have hy2 := S_list b[j]
            have HNE := Lib.hid (take_ne hka hkb)
            have HEQ := Lib.hid (take_eq hka hkb HT.out)
            generalize S a[j] = X at *
            generalize S b[j] = Y at *
            by_cases he : a[j] = b[j]
            · have HT2 := Lib.hid (HEQ.out he)
              have hq : (!(X.toList == Y.toList)) = false := by rw [hy1, hy2, he]; simp
              clear hy1 hy2 HNE HEQ he
              go_wp2_with fail
              go_quiet (fail)
              have HBq := Lib.hid (below_drewN HBe.out nq)
              generalize wr.drewN nq = wq at *
              clear hc1 hc2
              go_wp2_with fail
              exact ⟨⟨j + 1, by omega, rfl, HT2.out, HBq.out⟩, by simp [intOf]; omega⟩
            · have HD : Hid (decide (b = a.take b.length) = false) := by
                show _ = _
                refine decide_eq_false ?_
                intro h
                apply HNE.out he
                have h2 := congrArg (List.take (j + 1)) h
                rw [List.take_take, Nat.min_eq_left (by omega)] at h2
                exact h2.symm
              have hq : (!(X.toList == Y.toList)) = true := by rw [hy1, hy2]; simp [he]
              clear hy1 hy2 HNE HEQ he
              go_wp2_with fail
              go_quiet (fail)
              have HBq := Lib.hid (HB2.out.trans ((below_drewN HBe.out nq).mono HB2.out.size))
              generalize wr.drewN nq = wq at *
              clear hc1 hc2
              go_wp2_with fail
              go_ret
              rw [HU.out, HD.out]
              exact ⟨rfl, HBq.out⟩
          · obtain rfl : j = k := by omega
            have HD : Hid (decide (b = a.take b.length) = true) := by
              show _ = _
              refine decide_eq_true ?_
              have := HT.out
              rw [List.take_of_length_le (l := b) (by omega)] at this
              rw [hkb]
              exact this.symm
            go_wp2_with fail
            go_ret
            rw [HU.out, HD.out]
            exact ⟨rfl, HB2.out.trans (HBe.out.mono HB2.out.size)⟩
end Go.Proofs.YtnmlknhomhonaaaDoor.Path
