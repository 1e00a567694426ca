/- ZmsgApart: two messages have the same bytes where they are the same, and only there. For every input the call returns true, and each argument reads afterwards as it read before. No conditions. -/
import Derived.Test.YtobdkgmlkchggaaZmAll
import Derived.Test.YtobdkgmlkchggaaZmArgs
import Derived.Deep.RegionHeld3
namespace Go.Proofs.Ytobdkgmlkchggaa.zmsgApart
open Go.ChangeShapes Go.WideShapes Go.ChangeAt Go.RowKit Disk Log Sto Zm

set_option maxRecDepth 100000 in
set_option maxHeartbeats 4000000 in
theorem walk (m p : Mg) (A B : Option Addr) (c d : Nat) (w : World) (h : LnS (fun b => b < w.heap.size) w A m.lines.length m.lines) (hok : m.Ok) (h2 : LnS (fun b => b < w.heap.size) w B p.lines.length p.lines) (hok2 : p.Ok) : Calls Try.prog 6 #[.agg (mgC m A m.lines.length c), .agg (mgC p B p.lines.length d)] w fun e w' => e = .returned (.bool true) ∧ Below w.heap.size w w' := by
  have HL := Lib.hid h
  have HOK := Lib.hid hok
  have HL2 := Lib.hid h2
  have HOK2 := Lib.hid hok2
  obtain ⟨V0, hV0⟩ : ∃ V0, V0 = w.alloc (.cells (mgC m A m.lines.length c) 25) := ⟨_, rfl⟩
  have hs0 : V0.heap.size = w.heap.size + 1 := by rw [hV0, World.size_alloc]
  have hb0 : Below w.heap.size w V0 := by rw [hV0]; exact (Below.refl _ _).alloc (Nat.le_refl _) _
  have hm0 : Bk V0 w.heap.size 25 (mgC m A m.lines.length c) := by rw [hV0]; exact Bk.new _ _ _
  obtain ⟨W0, hW0⟩ : ∃ W0, W0 = V0.alloc (.cells (mgC p B p.lines.length d) 25) := ⟨_, rfl⟩
  have hb0' : Below w.heap.size w W0 := by rw [hW0]; exact hb0.alloc (by omega) _
  have hm1 : Bk W0 w.heap.size 25 (mgC m A m.lines.length c) := by rw [hW0]; exact hm0.alloc _
  have hn1 : Bk W0 (w.heap.size + 1) 25 (mgC p B p.lines.length d) := by rw [hW0, ← hs0]; exact Bk.new _ _ _
  have HB0 := Lib.hid hb0'
  have HM0 := Lib.hid hm1
  have HN0 := Lib.hid hn1
  have CH := Lib.hid (heavy_any A m.lines.length c m W0 hok (h.below hb0'))
  clear h hok h2 hok2 hb0 hb0' hm0 hm1 hn1 hs0
  have a0 := HM0.out.cell 0
  have a1 := HM0.out.cell 1
  have a2 := HM0.out.cell 2
  have a3 := HM0.out.cell 3
  have a4 := HM0.out.cell 4
  have a5 := HM0.out.cell 5
  unfold mgC at a0 a1 a2 a3 a4 a5
  simp at a0 a1 a2 a3 a4 a5
  have b0 := HN0.out.cell 0
  have b1 := HN0.out.cell 1
  have b2 := HN0.out.cell 2
  have b3 := HN0.out.cell 3
  have b4 := HN0.out.cell 4
  have b5 := HN0.out.cell 5
  unfold mgC at b0 b1 b2 b3 b4 b5
  simp at b0 b1 b2 b3 b4 b5
  unfold mgC at hV0 hW0
  unfold mgC at CH ⊢
  rw [hW0, hV0] at a0 a1 a2 a3 a4 a5 b0 b1 b2 b3 b4 b5 CH
  go_enter Try.func6, Try.ntmps6
  go_wp2_with fail
  refine CH.out.mono ?_
  rw [← hV0, ← hW0]
  rintro e w1 ⟨f, rfl, hb1, hf⟩
  have HB1 := Lib.hid (HB0.out.trans (hb1.mono HB0.out.size))
  have HM1 := Lib.hid (HM0.out.below hb1)
  have HN1 := Lib.hid (HN0.out.below hb1)
  clear hb1 CH a0 a1 a2 a3 a4 a5 b0 b1 b2 b3 b4 b5 HM0 HN0 HB0 hW0 hV0
  cases f with
  | true =>
    go_wp2_with fail
    go_ret
    exact ⟨rfl, HB1.out⟩
  | false =>
    have HFEW := Lib.hid (hf rfl)
    clear hf
    have CH := Lib.hid (heavy_any B p.lines.length d p w1 HOK2.out (HL2.out.below HB1.out))
    have b0 := HN1.out.cell 0
    have b1 := HN1.out.cell 1
    have b2 := HN1.out.cell 2
    have b3 := HN1.out.cell 3
    have b4 := HN1.out.cell 4
    have b5 := HN1.out.cell 5
    unfold mgC at b0 b1 b2 b3 b4 b5
    simp at b0 b1 b2 b3 b4 b5
    unfold mgC at CH
    go_wp2_with fail
    refine CH.out.mono ?_
    rintro e w2 ⟨f, rfl, hb2, hf⟩
    have HB2 := Lib.hid (HB1.out.trans (hb2.mono HB1.out.size))
    have HM2 := Lib.hid (HM1.out.below hb2)
    have HN2 := Lib.hid (HN1.out.below hb2)
    clear hb2 CH b0 b1 b2 b3 b4 b5 HM1 HN1
    cases f with
    | true =>
      go_wp2_with fail
      go_ret
      exact ⟨rfl, HB2.out⟩
    | false =>
      have HFEW2 := Lib.hid (hf rfl)
      clear hf
      by_cases hm : m.may
      · have CP := Lib.hid (put_yes A m.lines.length c m w2 HOK.out (HL.out.below HB2.out) hm)
        have HMY := Lib.hid hm
        clear hm
        have a0 := HM2.out.cell 0
        have a1 := HM2.out.cell 1
        have a2 := HM2.out.cell 2
        have a3 := HM2.out.cell 3
        have a4 := HM2.out.cell 4
        have a5 := HM2.out.cell 5
        unfold mgC at a0 a1 a2 a3 a4 a5
        simp at a0 a1 a2 a3 a4 a5
        unfold mgC at CP
        go_wp2_with fail
        refine CP.out.mono ?_
        rintro e w3 ⟨A3, n3, c3, rfl, hn3, hc3, hown3, hb3⟩
        have HB3 := Lib.hid (HB2.out.trans (hb3.mono HB2.out.size))
        have HM3 := Lib.hid (HM2.out.below hb3)
        have HN3 := Lib.hid (HN2.out.below hb3)
        have HR3 := Lib.hid (Rd.of_own hown3).1
        clear hn3 hc3 hown3 hb3 CP HM2 HN2 a0 a1 a2 a3 a4 a5
        by_cases hp : p.may
        · have CP := Lib.hid (put_yes B p.lines.length d p w3 HOK2.out (HL2.out.below HB3.out) hp)
          have HPY := Lib.hid hp
          clear hp
          have b0 := HN3.out.cell 0
          have b1 := HN3.out.cell 1
          have b2 := HN3.out.cell 2
          have b3 := HN3.out.cell 3
          have b4 := HN3.out.cell 4
          have b5 := HN3.out.cell 5
          unfold mgC at b0 b1 b2 b3 b4 b5
          simp at b0 b1 b2 b3 b4 b5
          unfold mgC at CP
          go_wp2_with fail
          refine CP.out.mono ?_
          rintro e w4 ⟨A4, n4, c4, rfl, hn4, hc4, hown4, hb4⟩
          have HB4 := Lib.hid (HB3.out.trans (hb4.mono HB3.out.size))
          have HM4 := Lib.hid (HM3.out.below hb4)
          have HN4 := Lib.hid (HN3.out.below hb4)
          have HR4 := Lib.hid (Rd.of_own hown4).1
          have HR5 := Lib.hid (HR3.out.below hb4)
          clear hn4 hc4 hown4 hb4 CP HM3 HN3 HR3 b0 b1 b2 b3 b4 b5
          have hq : (((S m.enc).toList == (S p.enc).toList) == decide (m = p)) = true := by
            rw [S_eq, beq_iff_eq, Bool.eq_iff_iff, beq_iff_eq, decide_eq_true_iff]
            exact enc_inj HMY.out HPY.out
          have hlm : m.lines.length ≤ 300 := HFEW.out.1
          have hlp : p.lines.length ≤ 300 := HFEW2.out.1
          obtain ⟨t1, ht1⟩ : ∃ t1, t1 = S m.enc := ⟨_, rfl⟩
          obtain ⟨t2, ht2⟩ : ∃ t2, t2 = S p.enc := ⟨_, rfl⟩
          rw [← ht1, ← ht2] at hq
          have HALL : Hid (∀ V, Below w4.heap.size w4 V → (convert 27 9 (.slice A3 n3 c3)).run Try.prog V = .ok (.string t1) V ∧ (convert 27 9 (.slice A4 n4 c4)).run Try.prog V = .ok (.string t2) V ∧ V.cell? ⟨w.heap.size, 0, none⟩ = some (.int .u8 (m.kind : Int)) ∧ V.cell? ⟨w.heap.size, 1, none⟩ = some (.int .u64 (m.epoch : Int)) ∧ V.cell? ⟨w.heap.size, 2, none⟩ = some (.int .u64 (m.current : Int)) ∧ V.cell? ⟨w.heap.size, 3, none⟩ = some (.int .i64 m.at_) ∧ V.cell? ⟨w.heap.size, 4, none⟩ = some (.int .i64 m.commit) ∧ V.cell? ⟨w.heap.size, 5, none⟩ = some (.slice A m.lines.length c) ∧ V.cell? ⟨w.heap.size + 1, 0, none⟩ = some (.int .u8 (p.kind : Int)) ∧ V.cell? ⟨w.heap.size + 1, 1, none⟩ = some (.int .u64 (p.epoch : Int)) ∧ V.cell? ⟨w.heap.size + 1, 2, none⟩ = some (.int .u64 (p.current : Int)) ∧ V.cell? ⟨w.heap.size + 1, 3, none⟩ = some (.int .i64 p.at_) ∧ V.cell? ⟨w.heap.size + 1, 4, none⟩ = some (.int .i64 p.commit) ∧ V.cell? ⟨w.heap.size + 1, 5, none⟩ = some (.slice B p.lines.length d)) := fun V hV => by
            have hm := HM4.out.below hV
            have hn := HN4.out.below hV
            exact ⟨by rw [ht1]; exact conv_string (HR5.out.below hV) c3, by rw [ht2]; exact conv_string (HR4.out.below hV) c4, hm.cell 0, hm.cell 1, hm.cell 2, hm.cell 3, hm.cell 4, hm.cell 5, hn.cell 0, hn.cell 1, hn.cell 2, hn.cell 3, hn.cell 4, hn.cell 5⟩
          have HSM : Hid (∀ V, Below w4.heap.size w4 V → Calls Try.prog 12 #[.agg #[.int .u8 (m.kind : Int), .int .u64 (m.epoch : Int), .int .u64 (m.current : Int), .int .i64 m.at_, .int .i64 m.commit, .slice A m.lines.length c], .agg #[.int .u8 (p.kind : Int), .int .u64 (p.epoch : Int), .int .u64 (p.current : Int), .int .i64 p.at_, .int .i64 p.commit, .slice B p.lines.length d]] V fun e w' => e = .returned (.bool (decide (m = p))) ∧ Below V.heap.size V w') := fun V hV => by
            have hb := HB4.out.trans (hV.mono HB4.out.size)
            exact same_any A B m.lines.length p.lines.length c d m p V (HL.out.below hb) (HL2.out.below hb) (by omega) (by omega)
          clear ht1 ht2 hlm hlp HM4 HN4 HR4 HR5
          generalize decide (m = p) = dq at *
          have B1 := Lib.hid (Below.refl w4.heap.size w4).drew
          go_wp2_with fail
          go_region_held3 (fun w' => (convert 27 9 (.slice A3 n3 c3)).run Try.prog w' = .ok (.string t1) w' ∧ (convert 27 9 (.slice A4 n4 c4)).run Try.prog w' = .ok (.string t2) w' ∧ w'.cell? ⟨w.heap.size, 0, none⟩ = some (.int .u8 (m.kind : Int)) ∧ w'.cell? ⟨w.heap.size, 1, none⟩ = some (.int .u64 (m.epoch : Int)) ∧ w'.cell? ⟨w.heap.size, 2, none⟩ = some (.int .u64 (m.current : Int)) ∧ w'.cell? ⟨w.heap.size, 3, none⟩ = some (.int .i64 m.at_) ∧ w'.cell? ⟨w.heap.size, 4, none⟩ = some (.int .i64 m.commit) ∧ w'.cell? ⟨w.heap.size, 5, none⟩ = some (.slice A m.lines.length c) ∧ w'.cell? ⟨w.heap.size + 1, 0, none⟩ = some (.int .u8 (p.kind : Int)) ∧ w'.cell? ⟨w.heap.size + 1, 1, none⟩ = some (.int .u64 (p.epoch : Int)) ∧ w'.cell? ⟨w.heap.size + 1, 2, none⟩ = some (.int .u64 (p.current : Int)) ∧ w'.cell? ⟨w.heap.size + 1, 3, none⟩ = some (.int .i64 p.at_) ∧ w'.cell? ⟨w.heap.size + 1, 4, none⟩ = some (.int .i64 p.commit) ∧ w'.cell? ⟨w.heap.size + 1, 5, none⟩ = some (.slice B p.lines.length d))
            (first | exact HALL.out _ B1.out | exact HALL.out _ HE2.out | exact HALL.out _ HE3.out)
            (first
              | (go_at_call 12; refine (HSM.out _ B1.out).mono ?_; rintro e we ⟨rfl, hb⟩; have HE2 := Lib.hid (B1.out.trans (hb.mono B1.out.size)); clear hb)
              | (go_at_call 13; refine (tells_any _).mono ?_; rintro e wg ⟨rfl, hb⟩; have HE3 := Lib.hid (HE2.out.trans (hb.mono HE2.out.size)); clear hb))
          all_goals
            go_wp2_with fail
            go_ret
            exact ⟨rfl, HB4.out.trans (HE3.out.mono HB4.out.size)⟩
        · have CP := Lib.hid (put_no B p.lines.length d p w3 HOK2.out (HL2.out.below HB3.out) hp)
          clear hp
          have b0 := HN3.out.cell 0
          have b1 := HN3.out.cell 1
          have b2 := HN3.out.cell 2
          have b3 := HN3.out.cell 3
          have b4 := HN3.out.cell 4
          have b5 := HN3.out.cell 5
          unfold mgC at b0 b1 b2 b3 b4 b5
          simp at b0 b1 b2 b3 b4 b5
          unfold mgC at CP
          go_wp2_with fail
          refine CP.out.mono ?_
          rintro e w4 ⟨rfl, hb4⟩
          have HB4 := Lib.hid (HB3.out.trans (hb4.mono HB3.out.size))
          clear hb4 CP HN3 b0 b1 b2 b3 b4 b5
          go_wp2_with fail
          refine (tells_any _).mono ?_
          rintro e w15 ⟨rfl, hb⟩
          have HB15 := Lib.hid (HB4.out.trans (hb.mono HB4.out.size))
          clear hb
          go_wp2_with fail
          go_ret
          exact ⟨rfl, HB15.out⟩
      · have CP := Lib.hid (put_no A m.lines.length c m w2 HOK.out (HL.out.below HB2.out) hm)
        clear hm
        have a0 := HM2.out.cell 0
        have a1 := HM2.out.cell 1
        have a2 := HM2.out.cell 2
        have a3 := HM2.out.cell 3
        have a4 := HM2.out.cell 4
        have a5 := HM2.out.cell 5
        unfold mgC at a0 a1 a2 a3 a4 a5
        simp at a0 a1 a2 a3 a4 a5
        unfold mgC at CP
        go_wp2_with fail
        refine CP.out.mono ?_
        rintro e w3 ⟨rfl, hb3⟩
        have HB3 := Lib.hid (HB2.out.trans (hb3.mono HB2.out.size))
        have HN3 := Lib.hid (HN2.out.below hb3)
        clear hb3 CP HM2 HN2 a0 a1 a2 a3 a4 a5
        have CP := Lib.hid (put_any B p.lines.length d p w3 HOK2.out (HL2.out.below HB3.out))
        have b0 := HN3.out.cell 0
        have b1 := HN3.out.cell 1
        have b2 := HN3.out.cell 2
        have b3 := HN3.out.cell 3
        have b4 := HN3.out.cell 4
        have b5 := HN3.out.cell 5
        unfold mgC at b0 b1 b2 b3 b4 b5
        simp at b0 b1 b2 b3 b4 b5
        unfold mgC at CP
        go_wp2_with fail
        refine CP.out.mono ?_
        rintro e w4 ⟨A4, n4, c4, rfl, -, -, -, hb4⟩
        have HB4 := Lib.hid (HB3.out.trans (hb4.mono HB3.out.size))
        clear hb4 CP HN3 b0 b1 b2 b3 b4 b5
        go_wp2_with fail
        refine (tells_any _).mono ?_
        rintro e w15 ⟨rfl, hb⟩
        have HB15 := Lib.hid (HB4.out.trans (hb.mono HB4.out.size))
        clear hb
        go_wp2_with fail
        go_ret
        exact ⟨rfl, HB15.out⟩

set_option maxRecDepth 100000 in
theorem lifted (os : Os) (started : os.Started) (H : Type) (enc : TypeId × Value → H) :
    ReturnsInHanded {} Try.checked os 6 .any (Rows.zmsgApartSpec.pre6 enc Try.prog Try.f6 Rows.zmsgApartRow.domain false) (Rows.zmsgApartSpec.post enc Try.prog Try.f6 false true false false) := by
  refine returnsInHanded_of_change_sized (C := Try.checked) own started (by kernel_rfl) Try.func6
    (ChangeSpec.witness6 (enc := enc) (C := Try.checked) false ⟨#[], #[.agg #[.int .u8 0, .int .u64 0, .int .u64 0, .int .i64 0, .int .i64 0, .slice none 0 0], .agg #[.int .u8 0, .int .u64 0, .int .u64 0, .int .i64 0, .int .i64 0, .slice none 0 0]], []⟩ 8 (by kernel_rfl) (by kernel_rfl) (by kernel_rfl) (by kernel_rfl)) ?_
  intro W base args ds gs before hval0 hW hcnd hsz _
  have hval : ∀ (j : Nat) t v, Try.f6.params[j]? = some t → args[j]? = some v → Value.okWide Try.prog W .any base t v := hval0
  have hW' := hW
  obtain ⟨p, q, hA0, hV, rfl, hfz, hnd⟩ := hW
  have hA : DataW.TrodAll enc Try.prog W 0 (fun _ => true) true Try.f6.params.toList args.toList ds p := hA0
  rw [Try.params6] at hA hval
  obtain ⟨v0, v1, d0, d1, p0, p1, rfl, rfl, rfl, h0, h1⟩ := trodAll_two hA
  obtain ⟨rfl, rfl⟩ := trodVars_none hV
  obtain ⟨m, A, c, rfl, _, hl, hok⟩ := arg_msg (hval 0 _ v0 rfl rfl) h0 (fun n hn => by have := List.all_eq_true.1 hsz _ (DataW.weights_mem_each (j := 0) (t := 25) rfl rfl n hn); simpa using this)
  obtain ⟨p, B, d, rfl, _, hl2, hok2⟩ := arg_msg (hval 1 _ v1 rfl rfl) h1 (fun n hn => by have := List.all_eq_true.1 hsz _ (DataW.weights_mem_each (j := 1) (t := 25) rfl rfl n hn); simpa using this)
  refine (walk m p A B c d W hl hok hl2 hok2).mono fun e W' ⟨he, hb⟩ => ?_
  subst he
  exact ⟨_, rfl, post_true laidOut (by kernel_rfl) ty_bool (by kernel_rfl) rfl hW' hb rfl⟩

theorem over : Rows.zmsgApartRow.holds Try.pinned (OpenSpec.ofChange Rows.zmsgApartSpec) :=
  OpenClaim.holds_of_wide 6 Try.f6 rfl rfl rfl rfl rfl rfl rfl ⟨rfl, rfl, rfl, rfl, rfl⟩ rfl rfl rfl rfl rfl (by kernel_rfl) Try.func6 (by kernel_rfl)
    (of_decide_eq_true (by kernel_rfl)) (by unfold Func.isWrapper; first | (rw [if_pos (by decide +kernel)]; kernel_rfl) | (rw [if_neg (by decide +kernel)]; exact ⟨rfl, rfl⟩))
    (fun os started H enc _ => lifted os started H enc)

theorem proved : Rows.ZmsgApartSaid :=
  over
end Go.Proofs.Ytobdkgmlkchggaa.zmsgApart
