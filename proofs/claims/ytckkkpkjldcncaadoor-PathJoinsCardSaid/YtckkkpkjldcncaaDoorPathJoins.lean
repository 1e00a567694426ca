/- PathJoins: every Join and Under. For every input the call returns true, and each argument reads afterwards as it read before. No conditions. -/
import Derived.Test.YtckkkpkjldcncaaDoorPathGoes
import Derived.Test.YtckkkpkjldcncaaDoorPathFrame
namespace Go.Proofs.YtckkkpkjldcncaaDoor.pathJoins
open Go.ChangeShapes Go.WideShapes Go.ChangeAt Go.RowKit Path

theorem length_of {l : List UInt8} {ps : List (List UInt8)} (h : partsF l = some ps) : ps.length ≤ 64 := by
  have h1 := (parts_iff l ps).1 h
  have h2 := h1.2.1
  rw [h1.1] at h2
  exact Nat.le_trans (ofL_length ps) h2
theorem flat_le (ps : List (List UInt8)) : (ps.flatMap (47 :: ·)).length ≤ (ofL ps).length := by
  unfold ofL
  split
  · next h => subst h; simp
  · exact Nat.le_refl _
theorem own_lit0 (w : World) (e : TypeId) : (w.alloc (.cells #[] e)).ownsRow w.heap.size e 1 (.slice (some ⟨w.heap.size, 0, none⟩) 0 0) 0 [] := World.ownsRow_lit w #[] 0 (Nat.le_refl _) (Nat.zero_le _) rfl

set_option maxRecDepth 8000 in
set_option maxHeartbeats 4000000 in
theorem walk (l m : List UInt8) (w : World) : Calls Tryd.prog 4 #[.string (S l), .string (S m)] w fun e w' => e = .returned (.bool true) ∧ Below w.heap.size w w' := by
  have hz : ((S l).size : Int) = (l.length : Int) := by rw [S_size]
  have hzm : ((S m).size : Int) = (m.length : Int) := by rw [S_size]
  have hsl := S_list
  obtain ⟨i0, hi, hz0, hz1, hz2⟩ := infos info_text
  have HI := Lib.hid hi
  have HZ0 := Lib.hid hz0
  have HZ1 := Lib.hid hz1
  have HZ2 := Lib.hid hz2
  clear hi hz0 hz1 hz2
  by_cases hn : 500 < l.length
  · go_enter Tryd.func4, Tryd.ntmps4
    go_wp2_with fail
    go_ret
    exact ⟨rfl, Below.refl _ _⟩
  · by_cases hn2 : 500 < m.length
    · go_enter Tryd.func4, Tryd.ntmps4
      go_wp2_with fail
      go_ret
      exact ⟨rfl, Below.refl _ _⟩
    · have hl : l.length ≤ 1000000 := by omega
      have hm : m.length ≤ 1000000 := by omega
      have HL := Lib.hid hl
      have HM := Lib.hid hm
      have B0 := Lib.hid (Below.refl w.heap.size w)
      go_enter Tryd.func4, Tryd.ntmps4
      go_wp2_with fail
      refine (Join_any l m w HL.out HM.out).mono ?_
      rintro e w1 ⟨rfl, hb⟩
      have B1 := Lib.hid hb
      clear hb
      generalize hx : (joinF l m).1 = x
      generalize he : (joinF l m).2 = ee
      have HX := Lib.hid hx
      have HEE := Lib.hid he
      clear hx he
      go_wp2_with fail
      refine (refParts_any l w1 HL.out).mono ?_
      rintro e w2 ⟨A, n, c, ok, rfl, hb, hs, hno⟩
      have B2 := Lib.hid (B1.out.trans (hb.mono B1.out.size))
      have HS := Lib.hid hs
      have HNO := Lib.hid hno
      clear hb hs hno
      go_wp2_with fail
      refine (Under_any l m w2 HL.out HM.out).mono ?_
      rintro e w3 ⟨rfl, hb⟩
      have HB23 := Lib.hid hb
      have B3 := Lib.hid (B2.out.trans (hb.mono B2.out.size))
      clear hb
      go_wp2_with fail
      refine (refUnder_any l m w3 HL.out HM.out).mono ?_
      rintro e w4 ⟨rfl, hb⟩
      have HB24 := Lib.hid (HB23.out.trans (hb.mono HB23.out.size))
      have B4 := Lib.hid (B3.out.trans (hb.mono B3.out.size))
      clear hb
      have hu : (!(underF l m == underF l m)) = false := by simp
      generalize underF l m = u at *
      cases hp : partsF l with
      | none =>
        obtain ⟨rfl, rfl, rfl, rfl⟩ := HNO.out hp
        have hj : joinF l m = ([], 30) := by unfold joinF; rw [hp]
        obtain rfl : [] = x := by have := HX.out; rw [hj] at this; exact this
        obtain rfl : 30 = ee := by have := HEE.out; rw [hj] at this; exact this
        clear hp hj HX HEE HS HNO
        go_wp2_with fail
        refine (goes_any w4).mono ?_
        rintro e w5 ⟨rfl, hb⟩
        have B5 := Lib.hid (B4.out.trans (hb.mono B4.out.size))
        clear hb
        go_wp2_with fail
        go_ret
        exact ⟨rfl, B5.out⟩
      | some ps =>
        obtain ⟨rfl, ho⟩ := HS.out ps hp
        have HO := Lib.hid ((RdV.of_own ho).1.below HB24.out)
        have hpn : ps.length = n := by rw [← sv_length, HO.out.len]
        have hn64 := length_of hp
        have HFL : Hid (((ps ++ [m]).flatMap (47 :: ·)).length ≤ 1000000) := by
          have h1 := (parts_iff l ps).1 hp
          have h3 := flat_le ps
          rw [← h1.1] at h3
          show _ ≤ _
          rw [List.flatMap_append, List.length_append]
          simp
          simp at h3
          omega
        have HRN := Lib.hid (refName_any m w4 HM.out)
        cases hnm : name m
        · have hj : joinF l m = ([], 30) := by unfold joinF; rw [hp, hnm]; rfl
          obtain rfl : [] = x := by have := HX.out; rw [hj] at this; exact this
          obtain rfl : 30 = ee := by have := HEE.out; rw [hj] at this; exact this
          rw [hnm] at HRN
          clear hp hj HX HEE HS HNO ho hnm
          go_wp2_with fail
          refine HRN.out.mono ?_
          rintro e w5 ⟨rfl, rfl⟩
          go_wp2_with fail
          refine (goes_any w4).mono ?_
          rintro e w5 ⟨rfl, hb⟩
          have B5 := Lib.hid (B4.out.trans (hb.mono B4.out.size))
          clear hb
          go_wp2_with fail
          go_ret
          exact ⟨rfl, B5.out⟩
        · rw [hnm] at HRN
          have HJ : Hid (joinF l m = if (ofL (ps ++ [m])).length ≤ 64 then (ofL (ps ++ [m]), 0) else ([], 3)) := by show _ = _; unfold joinF; rw [hp, hnm]; rfl
          clear hp HS HNO ho hnm
          have HBa := Lib.hid ((Below.refl w4.heap.size w4).alloc (Nat.le_refl _) (.cells #[] 9))
          go_wp2_with fail
          refine HRN.out.mono ?_
          rintro e w5 ⟨rfl, rfl⟩
          go_wp2_with (at_builtin; refine wpList_append_RdV rfl (.tmp 52) (.tmp 53) _ rfl ty_texts HI.out HZ0.out HZ1.out HZ2.out rfl rfl (own_lit0 w4 9) rfl (HO.out.below HBa.out) (sv_all ps) (by unfold maxLen; omega) (by omega) (by simp) ?_)
          intro v1 w6 hown1 hg1
          have hown2 : w6.ownsRow w4.heap.size 9 1 v1 n (sv ps) := by simpa using hown1
          have hb6 := HBa.out.grown hg1 (by simp) (fun g hg => ((own_lit0 w4 9).lt g hg).1)
          have HO2 := Lib.hid hown2
          have HB6 := Lib.hid hb6
          clear hown1 hg1 hown2 hb6
          go_wp2_with (at_builtin; refine wpList_append_own _ rfl (.tmp 54) (.tmp 56) _ rfl w4.heap.size 9 i0 _ 1 16 ty_texts HI.out HZ0.out HZ1.out HZ2.out rfl (by decide) _ n _ rfl (HO2.out.alloc _) ⟨w6.heap.size, 0, none⟩ 1 1 _ rfl rfl (one_new _ _ _) (by simp [Value.oneCell']) (by unfold maxLen; omega) (by omega) (by simp; have := HB6.out.size; omega) ?_)
          intro v2 w7 hown3 hg3 _
          have hown4 : w7.ownsRow w4.heap.size 9 1 v2 (n + 1) (sv (ps ++ [m])) := by rw [sv_append]; simpa [sv] using hown3
          have hb7 := (HB6.out.alloc HB6.out.size _).grown hg3 (by simp; have := HB6.out.size; omega) (fun g hg => (HO2.out.lt g hg).1)
          obtain ⟨A3, c3, rfl⟩ := own_slice hown4
          have HO3 := Lib.hid (RdV.of_own hown4).1
          have B7 := Lib.hid (B4.out.trans (hb7.mono B4.out.size))
          clear hown3 hg3 hown4 hb7
          go_wp2_with fail
          refine (refOf_any A3 (n + 1) c3 (ps ++ [m]) w7 HO3.out (by omega) HFL.out).mono ?_
          rintro e w8 ⟨rfl, rfl⟩
          have hzo : ((S (ofL (ps ++ [m]))).size : Int) = ((ofL (ps ++ [m])).length : Int) := by rw [S_size]
          by_cases h64 : (ofL (ps ++ [m])).length ≤ 64
          · rw [HJ.out, if_pos h64] at HX HEE
            have hx : ofL (ps ++ [m]) = x := HX.out
            obtain rfl : 0 = ee := HEE.out
            rw [hx] at hzo h64
            rw [hx]
            clear hx HX HEE HJ HFL
            have h64z : (x.length : Int) ≤ 64 := by omega
            go_wp2_with fail
            refine (goes_any w7).mono ?_
            rintro e w8 ⟨rfl, hb⟩
            have B8 := Lib.hid (B7.out.trans (hb.mono B7.out.size))
            clear hb
            go_wp2_with fail
            go_ret
            exact ⟨rfl, B8.out⟩
          · rw [HJ.out, if_neg h64] at HX HEE
            obtain rfl : [] = x := HX.out
            obtain rfl : 3 = ee := HEE.out
            clear HX HEE HJ HFL
            generalize ofL (ps ++ [m]) = y at *
            have h64z : (64 : Int) < (y.length : Int) := by omega
            go_wp2_with fail
            refine (goes_any w7).mono ?_
            rintro e w8 ⟨rfl, hb⟩
            have B8 := Lib.hid (B7.out.trans (hb.mono B7.out.size))
            clear hb
            go_wp2_with fail
            go_ret
            exact ⟨rfl, B8.out⟩

set_option maxRecDepth 100000 in
theorem lifted (os : Os) (started : os.Started) (H : Type) (enc : TypeId × Value → H) :
    ReturnsInHanded {} Tryd.checked os 4 .any (fun w args => (Rows.pathJoinsSpec.pre enc Tryd.prog Tryd.f4 Rows.pathJoinsRow.domain false w args ∧ laidMetH Tryd.prog Rows.pathJoinsRow.laid w) ∧ sizedMet enc Tryd.prog Tryd.f4 (OpenSpec.ofChange Rows.pathJoinsSpec) false w args) (Rows.pathJoinsSpec.post enc Tryd.prog Tryd.f4 false true false false) := by
  refine returnsInHanded_of_change_and (C := Tryd.checked) (X := fun w _ => laidMetH Tryd.prog Rows.pathJoinsRow.laid w) (fun _ _ _ hh h => h.of_heap hh) own started (by kernel_rfl) Tryd.func4
    (ChangeSpec.witness_shaped (enc := enc) (C := Tryd.checked) (os := os) (X := fun w _ => laidMetH Tryd.prog Rows.pathJoinsRow.laid w) false (World.laidAll Tryd.prog os Rows.pathJoinsRow.laid) #[.string ⟨#[]⟩, .string ⟨#[]⟩] 8 (World.laidAll_os _ _ _)
      (World.shaped_of_ZipB (by kernel_rfl) (by kernel_rfl)) (by kernel_rfl) (by kernel_rfl) (by kernel_rfl)
      (by rw [MakeChecks.laidMetH_plain _ _ _ (by kernel_rfl)]; exact laidMet_laidAll _ (by kernel_rfl) (by kernel_rfl))) ?_
  intro W base args ds gs before hval0 hW _ _ _ _
  have hval : ∀ (j : Nat) t v, Tryd.f4.params[j]? = some t → args[j]? = some v → Value.okWide Tryd.prog W .any base t v := hval0
  have hW' := hW
  obtain ⟨p, q, hA0, hV, rfl, hfz, hnd⟩ := hW
  have hA : DataW.TrodAll enc Tryd.prog W 0 (fun _ => true) true Tryd.f4.params.toList args.toList ds p := hA0
  rw [Tryd.params4] at hA hval
  obtain ⟨v0, v1, d0, d1, p0, p1, rfl, rfl, rfl, h0, h1⟩ := trodAll_two hA
  obtain ⟨rfl, rfl⟩ := trodVars_none hV
  obtain ⟨l, rfl⟩ := open_text ty_string (hval 0 _ v0 rfl rfl)
  obtain ⟨m, rfl⟩ := open_text ty_string (hval 1 _ v1 rfl rfl)
  refine (walk l m W).mono fun e W' ⟨he, hb⟩ => ?_
  subst he
  exact ⟨_, rfl, post_true laidOut (by kernel_rfl) ty_bool (by kernel_rfl) rfl hW' hb rfl⟩

theorem over : Rows.pathJoinsRow.holds Tryd.pinned (OpenSpec.ofChange Rows.pathJoinsSpec) :=
  OpenClaim.holds_of_wide 4 Tryd.f4 rfl rfl rfl rfl rfl rfl rfl ⟨rfl, rfl, rfl, rfl, rfl⟩ rfl rfl rfl rfl rfl (by kernel_rfl) Tryd.func4 (by kernel_rfl)
    (of_decide_eq_true (by kernel_rfl)) (by unfold Func.isWrapper; first | (rw [if_pos (by decide +kernel)]; kernel_rfl) | (rw [if_neg (by decide +kernel)]; exact ⟨rfl, rfl⟩))
    (fun os started H enc _ => lifted os started H enc)

theorem proved : Rows.PathJoinsCardSaid :=
  Claim7.holds_tied_plain_at .later [] [.data, .pinned] true Rows.pathJoinsCard.stood.harness false over (fun _ h => by cases h) (by kernel_rfl) (fun _ h => by cases h) pathJoins_row_tie rfl ⟨rfl, rfl⟩ (by kernel_rfl) rfl
    (fun f fn hf hfn => by
      obtain rfl : f = 4 := Option.some.inj ((show Tryd.pinned.checked.prog.funcNamed Rows.pathJoinsRow.func = some 4 by kernel_rfl).symm.trans hf) |>.symm
      obtain rfl : fn = Tryd.f4 := (Option.some.inj (Tryd.func4.symm.trans hfn)).symm
      exact ⟨by kernel_rfl, fun j t ht => by
        have hall : (Tryd.f4.params.toList.all fun u => !Tryd.prog.wantsStandIn u) = true := by kernel_rfl
        exact (show Tryd.prog.wantsStandIn t = false by simpa using List.all_eq_true.1 hall t (by simpa using Array.mem_of_getElem? ht))⟩)
    (by kernel_rfl)
end Go.Proofs.YtckkkpkjldcncaaDoor.pathJoins
