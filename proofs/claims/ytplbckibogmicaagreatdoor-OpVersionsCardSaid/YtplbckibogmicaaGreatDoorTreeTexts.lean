/- Texts that are the same (the laws' own). -/
import Derived.Test.YtplbckibogmicaaGreatDoorTreeBase
import Derived.BigQuiet
namespace Go.Proofs.YtplbckibogmicaaGreatDoor.Tree
open Go.RowKit Path

set_option maxRecDepth 8000 in
set_option maxHeartbeats 1000000 in
theorem Texts_any (A B : Option Addr) (n c m d : Nat) (a b : List (List UInt8)) (w : World) (ha : RdV w A n (sv a)) (hb : RdV w B m (sv b)) (hn : n ≤ 1000000) (hm : m ≤ 1000000) :
    Calls Tryz.prog 35 #[.slice A n c, .slice B m d] w fun e w' => e = .returned (.bool (decide (a = b))) ∧ Below w.heap.size w w' := by
  have hna : a.length = n := by rw [← ha.len, sv_length]
  have hmb : b.length = m := by rw [← hb.len, sv_length]
  have HA := Lib.hid ha
  have HB := Lib.hid hb
  clear ha hb
  by_cases hnm : n = m
  · subst hnm
    have z0 : ((n : Int) != (n : Int)) = false := by simp
    go_enter Tryz.func35, Tryz.ntmps35
    go_wp2_with fail
    go_loopw [5] (fun i wr => ∃ k : Nat, k ≤ n ∧ i = .int .i64 (k : Int) ∧ a.take k = b.take k ∧ Below w.heap.size w wr) (fun i _ => n - (intOf i).toNat)
    case atStart => exact ⟨0, by omega, rfl, rfl, Below.refl _ _⟩
    case round =>
      obtain ⟨k, hk, rfl, htk, hbel⟩ := hrel
      have HT := Lib.hid htk
      have HBe := Lib.hid hbel
      clear htk hbel
      by_cases hlt : k < n
      · have hka : k < a.length := by omega
        have hkb : k < b.length := by omega
        obtain ⟨p, q, rfl, rfl, hc⟩ := two_at HA.out HB.out hka hkb
        have hc1 := fun r => (hc wr HBe.out r).1
        have hc2 := fun r => (hc wr HBe.out r).2
        clear hc
        have v1 : (k : Int) < (n : Int) := by omega
        have hy1 := S_list a[k]
        have hy2 := S_list b[k]
        have HNE := Lib.hid (take_ne hka hkb)
        have HEQ := Lib.hid (take_eq hka hkb HT.out)
        generalize S a[k] = X at *
        generalize S b[k] = Y at *
        by_cases he : a[k] = b[k]
        · have HT2 := Lib.hid (HEQ.out he)
          have hq : (!(X.toList == Y.toList)) = false := by rw [hy1, hy2, he]; simp
          clear hy1 hy2 HNE HEQ he
          go_wp2_with fail
          go_quiet (fail)
          have HBq := Lib.hid (below_drewN HBe.out nq)
          generalize wr.drewN nq = wq at *
          clear hc1 hc2
          go_wp2_with fail
          exact ⟨⟨k + 1, by omega, rfl, HT2.out, HBq.out⟩, by simp [intOf]; omega⟩
        · have HD : Hid (decide (a = b) = false) := by
            show _ = _
            refine decide_eq_false ?_
            rintro rfl
            exact HNE.out he rfl
          have hq : (!(X.toList == Y.toList)) = true := by rw [hy1, hy2]; simp [he]
          clear hy1 hy2 HNE HEQ he
          go_wp2_with fail
          go_quiet (fail)
          have HBq := Lib.hid (below_drewN HBe.out nq)
          generalize wr.drewN nq = wq at *
          clear hc1 hc2
          go_wp2_with fail
          go_ret
          rw [HD.out]
          exact ⟨rfl, HBq.out⟩
      · obtain rfl : k = n := by omega
        have HD : Hid (decide (a = b) = true) := by
          show _ = _
          refine decide_eq_true ?_
          have := HT.out
          rwa [List.take_of_length_le (by omega), List.take_of_length_le (by omega)] at this
        go_wp2_with fail
        go_ret
        rw [HD.out]
        exact ⟨rfl, HBe.out⟩
  · have z0 : ((n : Int) != (m : Int)) = true := bne_iff_ne.2 (by omega)
    have HD : Hid (decide (a = b) = false) := by
      show _ = _
      refine decide_eq_false ?_
      rintro rfl
      omega
    go_enter Tryz.func35, Tryz.ntmps35
    go_wp2_with fail
    go_ret
    rw [HD.out]
    exact ⟨rfl, Below.refl _ _⟩
end Go.Proofs.YtplbckibogmicaaGreatDoor.Tree
