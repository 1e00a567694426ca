/- The document's own answers for paths: its names. -/
import Derived.Test.YtnmlknhomhonaaaDoorPathRef
namespace Go.Proofs.YtnmlknhomhonaaaDoor.Path
open Go.RowKit

theorem r1_no {m : List UInt8} (h : (r1 m).1 = 0) : okR (dec m).1 = false := by
  unfold r1 at h
  split at h
  · next e => rw [e]; rfl
  · have := dec_pos m
    simp only at h
    omega
theorem r1_yes {m : List UInt8} (h : ¬ (r1 m).1 = 0) : r1 m = ((dec m).2, (dec m).1) := by
  unfold r1 at h ⊢
  split
  · next e => rw [if_pos e] at h; exact absurd rfl h
  · rfl

set_option maxRecDepth 8000 in
set_option maxHeartbeats 1000000 in
theorem refName_any (l : List UInt8) (w : World) (hl : l.length ≤ 1000000) :
    Calls Tryd.prog 38 #[.string (S l)] w fun e w' => e = .returned (.bool (name l)) ∧ w = w' := by
  have hz : ((S l).size : Int) = (l.length : Int) := by rw [S_size]
  have hsl := S_list l
  have HR1 : Hid (∀ i W, i < l.length → Calls Tryd.prog 47 #[.string (S l), .int .i64 (i : Int)] W fun e w' => e = .returned (.tuple #[.int .i64 ((r1 (l.drop i)).1 : Int), .int .i64 ((r1 (l.drop i)).2 : Int)]) ∧ W = w') := fun i W hi => rune1_any l i W hi hl
  generalize S l = s at *
  by_cases h0 : l = []
  · have HN : Hid (name l = false) := by subst h0; rfl
    go_enter Tryd.func38, Tryd.ntmps38
    go_wp2_with fail
    go_ret
    rw [HN.out]
    exact ⟨rfl, rfl⟩
  · by_cases h1 : l = [46]
    · have HN : Hid (name l = false) := by subst h1; rfl
      go_enter Tryd.func38, Tryd.ntmps38
      go_wp2_with fail
      go_ret
      rw [HN.out]
      exact ⟨rfl, rfl⟩
    · by_cases h2 : l = [46, 46]
      · have HN : Hid (name l = false) := by subst h2; rfl
        go_enter Tryd.func38, Tryd.ntmps38
        go_wp2_with fail
        go_ret
        rw [HN.out]
        exact ⟨rfl, rfl⟩
      · have HN : Hid (name l = runes l) := by
          show _ = _
          unfold name
          cases l with
          | nil => exact absurd rfl h0
          | cons a l => simp [h1, h2]
        have e0 : (l == []) = false := beq_eq_false_iff_ne.2 h0
        have e1 : (l == [46]) = false := beq_eq_false_iff_ne.2 h1
        have e2 : (l == [46, 46]) = false := beq_eq_false_iff_ne.2 h2
        go_enter Tryd.func38, Tryd.ntmps38
        go_wp2_with fail
        go_loop [3] (fun i => ∃ k : Nat, k ≤ l.length ∧ i = .int .i64 (k : Int) ∧ runes l = runes (l.drop k)) (fun i => l.length - (intOf i).toNat)
        case atStart => exact ⟨0, by omega, rfl, rfl⟩
        case round =>
          obtain ⟨k, hk, rfl, hrun⟩ := hrel
          have HRUN := Lib.hid hrun
          clear hrun
          by_cases hlt : k < l.length
          · have hne : l.drop k ≠ [] := by intro h; have := congrArg List.length h; simp at this; omega
            have HSTEP := Lib.hid (runes_step hne)
            have HLE : Hid (k + (dec (l.drop k)).2 ≤ l.length) := by
              have := dec_le hne
              rw [List.length_drop] at this
              show _ ≤ _
              omega
            have HPOS := Lib.hid (dec_pos (l.drop k))
            have HDD : Hid ((l.drop k).drop (dec (l.drop k)).2 = l.drop (k + (dec (l.drop k)).2)) := List.drop_drop
            have HC := Lib.hid (HR1.out k w hlt)
            clear hne
            by_cases hz1 : (r1 (l.drop k)).1 = 0
            · have HNO := Lib.hid (r1_no hz1)
              have HF : Hid (name l = false) := by show _ = _; rw [HN.out, HRUN.out, HSTEP.out, HNO.out]; rfl
              rw [hz1] at HC
              generalize (r1 (l.drop k)).2 = v2 at *
              clear HSTEP HLE HPOS HDD HNO HRUN hz1
              go_wp2_with fail
              refine HC.out.mono ?_
              rintro e we ⟨rfl, rfl⟩
              go_wp2_with fail
              go_ret
              rw [HF.out]
              exact ⟨rfl, rfl⟩
            · have HY := r1_yes hz1
              rw [HY] at HC
              clear HY hz1
              generalize hd1 : (dec (l.drop k)).1 = v at *
              generalize hd2 : (dec (l.drop k)).2 = n at *
              clear hd1 hd2
              have hn0 : 1 ≤ n := HPOS.out
              have hn1 : k + n ≤ l.length := HLE.out
              by_cases hok : okR v = true
              · obtain ⟨a1, a2, a3, a4⟩ := okR_ne hok
                have HF : Hid (runes l = runes (l.drop (k + n))) := by show _ = _; rw [HRUN.out, HSTEP.out, hok, Bool.true_and, HDD.out]
                have b1 : ((v : Int) == 65533) = false := beq_eq_false_iff_ne.2 (by omega)
                have b2 : ((v : Int) == 47) = false := beq_eq_false_iff_ne.2 (by omega)
                have b3 : ((v : Int) == 127) = false := beq_eq_false_iff_ne.2 (by omega)
                have b4 : ¬ (v : Int) < 32 := by omega
                have b5 : ((n : Int) == 0) = false := beq_eq_false_iff_ne.2 (by omega)
                clear hok a1 a2 a3 a4 HSTEP HDD HRUN
                generalize (v : Int) = z at *
                go_wp2_with fail
                refine HC.out.mono ?_
                rintro e we ⟨rfl, rfl⟩
                go_wp2_with fail
                exact ⟨⟨k + n, by omega, rfl, HF.out⟩, by simp [intOf]; omega⟩
              · have HF : Hid (name l = false) := by show _ = _; rw [HN.out, HRUN.out, HSTEP.out]; simp [hok]
                have HOK : Hid (¬ okR v = true) := hok
                clear HSTEP HDD HRUN hok
                have b5 : ((n : Int) == 0) = false := beq_eq_false_iff_ne.2 (by omega)
                have bq : (((v : Int) == 47) || decide ((v : Int) < 32) || ((v : Int) == 127) || ((v : Int) == 65533)) = true := by
                  rw [← Bool.not_eq_false]
                  intro h
                  apply HOK.out
                  simp at h
                  unfold okR
                  simp
                  omega
                generalize (v : Int) = z at *
                go_wp2_with fail
                refine HC.out.mono ?_
                rintro e we ⟨rfl, rfl⟩
                go_wp2_with fail
                all_goals
                  go_ret
                  rw [HF.out]
                  exact ⟨rfl, rfl⟩
          · obtain rfl : k = l.length := by omega
            have HF : Hid (name l = true) := by show _ = _; rw [HN.out, HRUN.out, List.drop_length]; rfl
            go_wp2_with fail
            go_ret
            rw [HF.out]
            exact ⟨rfl, rfl⟩
end Go.Proofs.YtnmlknhomhonaaaDoor.Path
