/- The document's own: Same. -/
import Derived.Test.YtephciglcikllaaNetLts
import Derived.Test.YtephciglcikllaaStoStill
import Derived.WalkLawsBesides
namespace Go.Proofs.Ytephciglcikllaa.Net
open Go.RowKit Disk Zab Sto

theorem S_list (l : List UInt8) : (S l).toList = l := ByteArray.toList_mk l
theorem S_eq (a b : List UInt8) : ((S a).toList == (S b).toList) = (a == b) := by rw [S_list, S_list]
theorem S_inj {a b : List UInt8} : S a = S b ↔ a = b := by
  unfold S
  constructor
  · intro h
    injection h with h
    exact List.toArray_inj h
  · rintro rfl; rfl
def SameP (b : Bool) (w : World) (e : Ending) (w' : World) : Prop := e = .returned (.bool b) ∧ Below w.heap.size w w'
def RelSame (w : World) (ls ks : List Lt) (n : Nat) (i : Value) (wr : World) : Prop := ∃ k : Nat, k ≤ n ∧ i = .int .i64 (k : Int) ∧ ls.take k = ks.take k ∧ Below w.heap.size w wr
theorem take_next {ls ks : List Lt} {k : Nat} {x : Lt} (h : ls.take k = ks.take k) (hx : ls[k]? = some x) (hy : ks[k]? = some x) : ls.take (k + 1) = ks.take (k + 1) := by
  obtain ⟨h1, e1⟩ := List.getElem?_eq_some_iff.1 hx
  obtain ⟨h2, e2⟩ := List.getElem?_eq_some_iff.1 hy
  rw [List.take_succ_eq_append_getElem h1, List.take_succ_eq_append_getElem h2, h, e1, e2]
set_option maxRecDepth 100000 in
set_option maxHeartbeats 4000000 in
theorem Same_any {P Q : Nat → Prop} {w : World} {A B : Option Addr} {n m : Nat} {ls ks : List Lt} (h1 : LtS P w A n ls) (h2 : LtS Q w B m ks) (c d : Nat) (hn : n ≤ 1000000) (hm : m ≤ 1000000) : Calls Try.prog 16 #[.slice A n c, .slice B m d] w (SameP (decide (ls = ks)) w) := by
  obtain ⟨r, hr⟩ : ∃ r, r = decide (ls = ks) := ⟨_, rfl⟩
  rw [← hr]
  have HR := Lib.hid hr
  by_cases hnm : n = m
  · subst hnm
    have H1 := Lib.hid h1
    have H2 := Lib.hid h2
    clear h1 h2 hr
    go_enter Try.func16, Try.ntmps16
    go_wp2_with fail
    go_loopw [5] (fun i wr => RelSame w ls ks n i wr) (fun i _ => n - (intOf i).toNat)
    case atStart => exact ⟨0, Nat.zero_le _, rfl, rfl, Below.refl _ _⟩
    case round =>
      obtain ⟨k, hk, rfl, htk, hb⟩ := hrel
      by_cases hlt : k < n
      · have hk1 : k < ls.length := by rw [H1.out.len]; exact hlt
        have hk2 : k < ks.length := by rw [H2.out.len]; exact hlt
        have hx := List.getElem?_eq_getElem hk1
        have hy := List.getElem?_eq_getElem hk2
        generalize ls[k] = x at hx
        generalize ks[k] = y at hy
        have hbd : Below w.heap.size w wr.drew := below_drewN hb 1
        obtain ⟨b, o, X, mx, cx, rfl, -, x0, x1, x2, x3, x4, -, xr, -⟩ := (H1.out.below hbd).get hx
        obtain ⟨b', o', Y, my, cy, rfl, -, y0, y1, y2, y3, y4, -, yr, -⟩ := (H2.out.below hbd).get hy
        have cx' := conv_string xr cx
        have cy' := conv_string yr cy
        have HX := Lib.hid hx
        have HY := Lib.hid hy
        have HTK := Lib.hid htk
        have HBD := Lib.hid hbd
        have hi0 : (0 : Int) ≤ (k : Int) := by omega
        have hi1 : (k : Int) < (n : Int) := by omega
        obtain ⟨⟨xg, xn⟩, ⟨xh, xo⟩, xb⟩ := x
        obtain ⟨⟨yg, yn⟩, ⟨yh, yo⟩, yb⟩ := y
        dsimp only at *
        obtain ⟨sx, hsx⟩ : ∃ sx, sx = S xb := ⟨_, rfl⟩
        obtain ⟨sy, hsy⟩ : ∃ sy, sy = S yb := ⟨_, rfl⟩
        rw [← hsx] at cx'
        rw [← hsy] at cy'
        have HSX := Lib.hid hsx
        have HSY := Lib.hid hsy
        have HNE : Hid ((⟨⟨xg, xn⟩, ⟨xh, xo⟩, xb⟩ : Lt) ≠ ⟨⟨yg, yn⟩, ⟨yh, yo⟩, yb⟩ → r = false) := fun hne => by
          rw [HR.out]
          refine decide_eq_false fun e => hne ?_
          have := HX.out
          rw [e, HY.out] at this
          exact (Option.some.inj this).symm
        clear hx hy xr yr htk hb hbd hk1 hk2 hsx hsy
        by_cases q1 : xg = yg
        · subst q1
          by_cases q2 : xn = yn
          · subst q2
            by_cases q3 : xh = yh
            · subst q3
              by_cases q4 : xo = yo
              · subst q4
                by_cases q5 : xb = yb
                · have e5 : Hid (sx = sy) := by show _ = _; rw [HSX.out, HSY.out, q5]
                  have HREL : Hid (RelSame w ls ks n (.int .i64 ((k + 1 : Nat) : Int)) wr.drew) := ⟨k + 1, by omega, rfl, take_next HTK.out HX.out (by rw [HY.out, q5]), HBD.out⟩
                  obtain rfl : sx = sy := e5.out
                  clear HNE e5 q5
                  go_wp2_with fail
                  refine ws_tail 38 (by kernel_rfl) (by kernel_rfl) ?_
                  simp only [List.take_succ_cons, List.take_zero, List.drop_succ_cons, List.drop_zero]
                  iterate 38
                    refine ws_want (by kernel_rfl) ?_
                    apply Exists.intro
                    refine And.intro ?_ ?_
                    · unfold StillAt
                      first
                        | (go_simp; done)
                        | (go_simp; exact rfl)
                    try simp only [Act.put, List.setIfInBounds_toArray, List.set_cons_zero, List.set_cons_succ]
                  refine ws_nil ?_
                  change wpList _ _ _ _ _ wr.drew
                  go_wp2_with fail
                  exact ⟨HREL.out, by simp [intOf]; omega⟩
                · have HNO : Hid (r = false) := HNE.out fun e => q5 (by injection e)
                  have hq : (sx.toList == sy.toList) = false := by rw [HSX.out, HSY.out, S_eq]; exact beq_eq_false_iff_ne.2 q5
                  clear HNE q5
                  go_wp2_with fail
                  refine ws_tail 38 (by kernel_rfl) (by kernel_rfl) ?_
                  simp only [List.take_succ_cons, List.take_zero, List.drop_succ_cons, List.drop_zero]
                  iterate 38
                    refine ws_want (by kernel_rfl) ?_
                    apply Exists.intro
                    refine And.intro ?_ ?_
                    · unfold StillAt
                      first
                        | (go_simp; done)
                        | (go_simp; exact rfl)
                    try simp only [Act.put, List.setIfInBounds_toArray, List.set_cons_zero, List.set_cons_succ]
                  refine ws_nil ?_
                  change wpList _ _ _ _ _ wr.drew
                  go_wp2_with fail
                  go_ret
                  exact ⟨by rw [HNO.out]; exact rfl, HBD.out⟩
              · have HNO : Hid (r = false) := HNE.out fun e => q4 (by injection e with e1 e2 e3; injection e2)
                have hq : (xo == yo) = false := beq_eq_false_iff_ne.2 q4
                clear q4
                go_wp2_with fail
                refine ws_tail 38 (by kernel_rfl) (by kernel_rfl) ?_
                simp only [List.take_succ_cons, List.take_zero, List.drop_succ_cons, List.drop_zero]
                iterate 25
                  refine ws_want (by kernel_rfl) ?_
                  apply Exists.intro
                  refine And.intro ?_ ?_
                  · unfold StillAt
                    first
                      | (go_simp; done)
                      | (go_simp; exact rfl)
                  try simp only [Act.put, List.setIfInBounds_toArray, List.set_cons_zero, List.set_cons_succ]
                iterate 13
                  refine ws_skip (by kernel_rfl) ?_
                  try simp only [Act.put, List.setIfInBounds_toArray, List.set_cons_zero, List.set_cons_succ]
                refine ws_nil ?_
                change wpList _ _ _ _ _ wr.drew
                go_wp2_with fail
                go_ret
                exact ⟨by rw [HNO.out]; exact rfl, HBD.out⟩
            · have HNO : Hid (r = false) := HNE.out fun e => q3 (by injection e with e1 e2 e3; injection e2)
              have hq : (xh == yh) = false := beq_eq_false_iff_ne.2 q3
              clear q3
              go_wp2_with fail
              refine ws_tail 38 (by kernel_rfl) (by kernel_rfl) ?_
              simp only [List.take_succ_cons, List.take_zero, List.drop_succ_cons, List.drop_zero]
              iterate 25
                refine ws_want (by kernel_rfl) ?_
                apply Exists.intro
                refine And.intro ?_ ?_
                · unfold StillAt
                  first
                    | (go_simp; done)
                    | (go_simp; exact rfl)
                try simp only [Act.put, List.setIfInBounds_toArray, List.set_cons_zero, List.set_cons_succ]
              iterate 13
                refine ws_skip (by kernel_rfl) ?_
                try simp only [Act.put, List.setIfInBounds_toArray, List.set_cons_zero, List.set_cons_succ]
              refine ws_nil ?_
              change wpList _ _ _ _ _ wr.drew
              go_wp2_with fail
              go_ret
              exact ⟨by rw [HNO.out]; exact rfl, HBD.out⟩
          · have HNO : Hid (r = false) := HNE.out fun e => q2 (by injection e with e1 e2 e3; injection e1)
            have hq : (xn == yn) = false := beq_eq_false_iff_ne.2 q2
            clear q2
            go_wp2_with fail
            refine ws_tail 38 (by kernel_rfl) (by kernel_rfl) ?_
            simp only [List.take_succ_cons, List.take_zero, List.drop_succ_cons, List.drop_zero]
            iterate 12
              refine ws_want (by kernel_rfl) ?_
              apply Exists.intro
              refine And.intro ?_ ?_
              · unfold StillAt
                first
                  | (go_simp; done)
                  | (go_simp; exact rfl)
              try simp only [Act.put, List.setIfInBounds_toArray, List.set_cons_zero, List.set_cons_succ]
            iterate 11
              refine ws_skip (by kernel_rfl) ?_
              try simp only [Act.put, List.setIfInBounds_toArray, List.set_cons_zero, List.set_cons_succ]
            iterate 2
              refine ws_want (by kernel_rfl) ?_
              apply Exists.intro
              refine And.intro ?_ ?_
              · unfold StillAt
                first
                  | (go_simp; done)
                  | (go_simp; exact rfl)
              try simp only [Act.put, List.setIfInBounds_toArray, List.set_cons_zero, List.set_cons_succ]
            iterate 13
              refine ws_skip (by kernel_rfl) ?_
              try simp only [Act.put, List.setIfInBounds_toArray, List.set_cons_zero, List.set_cons_succ]
            refine ws_nil ?_
            change wpList _ _ _ _ _ wr.drew
            go_wp2_with fail
            go_ret
            exact ⟨by rw [HNO.out]; exact rfl, HBD.out⟩
        · have HNO : Hid (r = false) := HNE.out fun e => q1 (by injection e with e1 e2 e3; injection e1)
          have hq : (xg == yg) = false := beq_eq_false_iff_ne.2 q1
          clear q1
          go_wp2_with fail
          refine ws_tail 38 (by kernel_rfl) (by kernel_rfl) ?_
          simp only [List.take_succ_cons, List.take_zero, List.drop_succ_cons, List.drop_zero]
          iterate 12
            refine ws_want (by kernel_rfl) ?_
            apply Exists.intro
            refine And.intro ?_ ?_
            · unfold StillAt
              first
                | (go_simp; done)
                | (go_simp; exact rfl)
            try simp only [Act.put, List.setIfInBounds_toArray, List.set_cons_zero, List.set_cons_succ]
          iterate 11
            refine ws_skip (by kernel_rfl) ?_
            try simp only [Act.put, List.setIfInBounds_toArray, List.set_cons_zero, List.set_cons_succ]
          iterate 2
            refine ws_want (by kernel_rfl) ?_
            apply Exists.intro
            refine And.intro ?_ ?_
            · unfold StillAt
              first
                | (go_simp; done)
                | (go_simp; exact rfl)
            try simp only [Act.put, List.setIfInBounds_toArray, List.set_cons_zero, List.set_cons_succ]
          iterate 13
            refine ws_skip (by kernel_rfl) ?_
            try simp only [Act.put, List.setIfInBounds_toArray, List.set_cons_zero, List.set_cons_succ]
          refine ws_nil ?_
          change wpList _ _ _ _ _ wr.drew
          go_wp2_with fail
          go_ret
          exact ⟨by rw [HNO.out]; exact rfl, HBD.out⟩
      · obtain rfl : k = n := by omega
        have HYES : Hid (r = true) := by
          show _ = _
          rw [HR.out]
          refine decide_eq_true ?_
          have e1 := List.take_of_length_le (l := ls) (i := k) (by rw [H1.out.len]; exact Nat.le_refl _)
          have e2 := List.take_of_length_le (l := ks) (i := k) (by rw [H2.out.len]; exact Nat.le_refl _)
          rw [← e1, ← e2]
          exact htk
        have HB := Lib.hid hb
        have v1 : ¬ (k : Int) < (k : Int) := by omega
        clear hlt htk hb
        go_wp2_with fail
        go_ret
        exact ⟨by rw [HYES.out]; exact rfl, HB.out⟩
  · have HNO : Hid (r = false) := by
      show _ = _
      rw [hr]
      refine decide_eq_false fun e => hnm ?_
      rw [← h1.len, ← h2.len, e]
    have hq : ((n : Int) == (m : Int)) = false := beq_eq_false_iff_ne.2 (by omega)
    clear hr h1 h2 hnm
    go_enter Try.func16, Try.ntmps16
    go_wp2_with fail
    go_ret
    exact ⟨by rw [HNO.out]; exact rfl, Below.refl _ _⟩
end Go.Proofs.Ytephciglcikllaa.Net
