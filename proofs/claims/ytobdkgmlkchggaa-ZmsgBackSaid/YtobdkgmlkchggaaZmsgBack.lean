/- ZmsgBack: a message that may be is put, and got back as it was; its bytes but the last, or with one behind them, are no message; a message that may not be has no bytes. For every input the call returns true, and the argument reads afterwards as it read before. No conditions. -/
import Derived.Test.YtobdkgmlkchggaaZmAll
import Derived.Test.YtobdkgmlkchggaaZmArgs
import Derived.Lib.AppendZeros
namespace Go.Proofs.Ytobdkgmlkchggaa.zmsgBack
open Go.ChangeShapes Go.WideShapes Go.ChangeAt Go.RowKit Disk Log Sto Zm
open PhaseG (own_slice out_grownBy run_append_rd)

theorem getM_few (bs : List UInt8) : (getM bs).lines.length ≤ 256 := by
  unfold getM
  split
  · next h => exact h.2.2.2.2.2.2.2.2.2.2.2.1
  · exact Nat.zero_le _
set_option maxRecDepth 100000 in
set_option maxHeartbeats 4000000 in
theorem walk (m : Mg) (A : Option Addr) (c : Nat) (w : World) (h : LnS (fun b => b < w.heap.size) w A m.lines.length m.lines) (hok : m.Ok) : Calls Try.prog 5 #[.agg (mgC m A m.lines.length c)] w fun e w' => e = .returned (.bool true) ∧ Below w.heap.size w w' := by
  have HL := Lib.hid h
  have HOK := Lib.hid hok
  have hb0 : Below w.heap.size w (w.alloc (.cells (mgC m A m.lines.length c) 25)) := (Below.refl _ _).alloc (Nat.le_refl _) _
  have hm0 : Bk (w.alloc (.cells (mgC m A m.lines.length c) 25)) w.heap.size 25 (mgC m A m.lines.length c) := Bk.new _ _ _
  obtain ⟨W0, hW0⟩ : ∃ W0, W0 = w.alloc (.cells (mgC m A m.lines.length c) 25) := ⟨_, rfl⟩
  rw [← hW0] at hb0 hm0
  have HB0 := Lib.hid hb0
  have HM0 := Lib.hid hm0
  have CH := Lib.hid (heavy_any A m.lines.length c m W0 hok (h.below hb0))
  clear h hok hb0 hm0
  have a0 := HM0.out.cell 0
  have a1 := HM0.out.cell 1
  have a2 := HM0.out.cell 2
  have a3 := HM0.out.cell 3
  have a4 := HM0.out.cell 4
  have a5 := HM0.out.cell 5
  unfold mgC at a0 a1 a2 a3 a4 a5
  simp at a0 a1 a2 a3 a4 a5
  rw [hW0] at a0 a1 a2 a3 a4 a5 CH
  unfold mgC at hW0 CH a0 a1 a2 a3 a4 a5 ⊢
  go_enter Try.func5, Try.ntmps5
  go_wp2_with fail
  refine CH.out.mono ?_
  rw [← hW0]
  rintro e w1 ⟨f, rfl, hb1, hf⟩
  have HB1 := Lib.hid (HB0.out.trans (hb1.mono HB0.out.size))
  have HM1 := Lib.hid (HM0.out.below hb1)
  have HG1 : Hid (w.heap.size < w1.heap.size) := HM1.out.lt
  clear hb1 CH a0 a1 a2 a3 a4 a5 HM0 HB0 hW0
  cases f with
  | true =>
    go_wp2_with fail
    go_ret
    exact ⟨rfl, HB1.out⟩
  | false =>
    have HFEW := Lib.hid (hf rfl)
    have hlen : m.lines.length ≤ 300 := HFEW.out.1
    clear hf
    by_cases hm : m.may
    · have CP := Lib.hid (put_yes A m.lines.length c m w1 HOK.out (HL.out.below HB1.out) hm)
      have HM := Lib.hid (show decide m.may = true by simp [hm])
      have HMY := Lib.hid hm
      clear hm
      have a0 := HM1.out.cell 0
      have a1 := HM1.out.cell 1
      have a2 := HM1.out.cell 2
      have a3 := HM1.out.cell 3
      have a4 := HM1.out.cell 4
      have a5 := HM1.out.cell 5
      unfold mgC at a0 a1 a2 a3 a4 a5
      simp at a0 a1 a2 a3 a4 a5
      unfold mgC at CP
      go_wp2_with fail
      refine CP.out.mono ?_
      rintro e w2 ⟨A2, n2, c2, rfl, hn2, hc2, hown2, hb2⟩
      have HB2 := Lib.hid (HB1.out.trans (hb2.mono HB1.out.size))
      have HM2 := Lib.hid (HM1.out.below hb2)
      have HR2 := Lib.hid (Rd.of_own hown2).1
      have HN := Lib.hid hn2
      have HN9 : Hid (n2 ≤ 9641) := by show n2 ≤ 9641; rw [hn2]; exact HFEW.out.enc
      have hn96 := HN9.out
      have hn41 : 41 ≤ n2 := by rw [hn2, enc_length]; omega
      have hpos : ((n2 : Int) == 0) = false := by simp only [beq_eq_false_iff_ne]; omega
      clear hn2 hown2 hb2 CP HM1 a0 a1 a2 a3 a4 a5
      have CP := Lib.hid (rmay_any A m.lines.length c m w2 HOK.out (HL.out.below HB2.out))
      have a0 := HM2.out.cell 0
      have a1 := HM2.out.cell 1
      have a2 := HM2.out.cell 2
      have a3 := HM2.out.cell 3
      have a4 := HM2.out.cell 4
      have a5 := HM2.out.cell 5
      unfold mgC at a0 a1 a2 a3 a4 a5
      simp at a0 a1 a2 a3 a4 a5
      unfold mgC at CP
      go_wp2_with fail
      refine CP.out.mono ?_
      rw [HM.out]
      rintro e w3 ⟨rfl, hb3⟩
      have HB3 := Lib.hid (HB2.out.trans (hb3.mono HB2.out.size))
      have HM3 := Lib.hid (HM2.out.below hb3)
      have HR3 := Lib.hid (HR2.out.below hb3)
      clear hb3 CP HM2 HR2 a0 a1 a2 a3 a4 a5
      have K1 := get_any A2 n2 c2 m.enc w3 HR3.out (by have := HN9.out; omega)
      unfold GetPost at K1
      have hg : getOk m.enc := (get_enc HMY.out).1
      have e1 : getM m.enc = m := (get_enc HMY.out).2
      have e2 : getE m.enc = 0 := by unfold getE; rw [if_pos hg]
      rw [e1, e2] at K1
      have CG := Lib.hid K1
      clear K1 hg e1 e2
      go_wp2_with fail
      refine CG.out.mono ?_
      clear CG
      rintro e w4 ⟨A4, c4, rfl, hown4, hb4⟩
      have HB4 := Lib.hid (HB3.out.trans (hb4.mono HB3.out.size))
      have HM4 := Lib.hid (HM3.out.below hb4)
      have HR4 := Lib.hid (HR3.out.below hb4)
      have HL4 := Lib.hid hown4.lns
      clear hown4 hb4 HM3 HR3
      unfold mgC
      have hb5 : Below w4.heap.size w4 (w4.alloc (.cells #[.int .u8 (m.kind : Int), .int .u64 (m.epoch : Int), .int .u64 (m.current : Int), .int .i64 m.at_, .int .i64 m.commit, .slice A4 m.lines.length c4] 25)) := (Below.refl _ _).alloc (Nat.le_refl _) _
      have hm5 : Bk (w4.alloc (.cells #[.int .u8 (m.kind : Int), .int .u64 (m.epoch : Int), .int .u64 (m.current : Int), .int .i64 m.at_, .int .i64 m.commit, .slice A4 m.lines.length c4] 25)) w4.heap.size 25 (mgC m A4 m.lines.length c4) := Bk.new _ _ _
      obtain ⟨W4, hW4⟩ : ∃ W4, W4 = w4.alloc (.cells #[.int .u8 (m.kind : Int), .int .u64 (m.epoch : Int), .int .u64 (m.current : Int), .int .i64 m.at_, .int .i64 m.commit, .slice A4 m.lines.length c4] 25) := ⟨_, rfl⟩
      rw [← hW4] at hb5 hm5
      have HB5 := Lib.hid (HB4.out.trans (hb5.mono HB4.out.size))
      have HM5 := Lib.hid (HM4.out.below hb5)
      have HN5 := Lib.hid hm5
      have HR5 := Lib.hid (HR4.out.below hb5)
      have HL5 := Lib.hid (HL4.out.below hb5)
      clear hb5 hm5 HM4 HR4 HL4
      have K1 := get_any A2 (n2 - 1) c2 (m.enc.take (n2 - 1)) W4 (HR5.out.take (by omega)) (by have := HN9.out; omega)
      unfold GetPost at K1
      have hg : ¬ getOk (m.enc.take (n2 - 1)) := by
        rw [HN.out, ← List.dropLast_eq_take]
        exact get_less HMY.out
      have e1 : getM (m.enc.take (n2 - 1)) = Mg.zero := by unfold getM; rw [if_neg hg]
      have e2 : getE (m.enc.take (n2 - 1)) = 2 := by unfold getE; rw [if_neg hg]
      rw [e1, e2] at K1
      have CG := Lib.hid K1
      clear K1 hg e1 e2
      rw [hW4] at CG
      go_wp2_with fail
      refine CG.out.mono ?_
      rw [← hW4]
      clear CG hW4
      rintro e w6 ⟨A6, c6, rfl, -, hb6⟩
      have HB6 := Lib.hid (HB5.out.trans (hb6.mono HB5.out.size))
      have HM6 := Lib.hid (HM5.out.below hb6)
      have HN6 := Lib.hid (HN5.out.below hb6)
      have HR6 := Lib.hid (HR5.out.below hb6)
      have HL6 := Lib.hid (HL5.out.below hb6)
      clear hb6 HM5 HN5 HR5 HL5
      unfold mgC Mg.zero
      obtain ⟨W6, hW6⟩ : ∃ W6, W6 = w6.alloc (.cells #[.int .u8 0, .int .u64 0, .int .u64 0, .int .i64 0, .int .i64 0, .slice A6 0 c6] 25) := ⟨_, rfl⟩
      have hb7 : Below w6.heap.size w6 W6 := by rw [hW6]; exact (Below.refl _ _).alloc (Nat.le_refl _) _
      have hs6 : W6.heap.size = w6.heap.size + 1 := by rw [hW6, World.size_alloc]
      obtain ⟨W7, hW7⟩ : ∃ W7, W7 = W6.alloc (.cells #[] 5) := ⟨_, rfl⟩
      have hb8 : Below w6.heap.size w6 W7 := by rw [hW7]; exact hb7.alloc (by omega) _
      have ho8 : W7.ownsRow W6.heap.size 5 1 (.slice (some ⟨W6.heap.size, 0, none⟩) 0 0) 0 ([].map U) := by rw [hW7]; exact World.ownsRow_lit W6 #[] 0 (Nat.le_refl _) (Nat.zero_le _) rfl
      have hs7 : W7.heap.size = W6.heap.size + 1 := by rw [hW7, World.size_alloc]
      obtain ⟨i0, hi, hz0, hz1, hz2⟩ := info_parts info_byte
      obtain ⟨v1, W8, hr1, ho9, hg9, -⟩ := run_append_rd (P := Try.prog) (t := 27) (ty := 27) ty_bytes hi hz0 hz1 hz2 rfl ho8 (HR6.out.below hb8) c2 (by omega) (by omega)
      have ho9 : W8.ownsRow W6.heap.size 5 1 v1 n2 (m.enc.map U) := by simpa using ho9
      have hb9 : Below w6.heap.size w6 W8 := hb8.grown hg9 (by omega) (fun g hg => by have := (ho8.lt g hg).1; omega)
      have hs8 : W7.heap.size ≤ W8.heap.size := hg9.size
      obtain ⟨W9, hW9⟩ : ∃ W9, W9 = W8.alloc (.cells #[.int .u8 0] 5) := ⟨_, rfl⟩
      have hb10 : Below w6.heap.size w6 W9 := by rw [hW9]; exact hb9.alloc (by omega) _
      have hb10' : Below W8.heap.size W8 W9 := by rw [hW9]; exact (Below.refl _ _).alloc (Nat.le_refl _) _
      have ho10 := ho9.alloc (.cells #[.int .u8 0] 5)
      have hrd : Rd W9 (some ⟨W8.heap.size, 0, none⟩) 1 [0] := by rw [hW9]; exact rd_lit W8 5 (0, 0) [0]
      rw [← hW9] at ho10
      have hs9 : W9.heap.size = W8.heap.size + 1 := by rw [hW9, World.size_alloc]
      obtain ⟨v2, W10, hr2, ho11, hg11, -⟩ := run_append_rd (P := Try.prog) (t := 27) (ty := 27) ty_bytes hi hz0 hz1 hz2 rfl ho10 hrd 1 (by omega) (by omega)
      have hb11 : Below w6.heap.size w6 W10 := hb10.grown hg11 (by omega) (fun g hg => by have := (ho9.lt g hg).1; omega)
      have ho11 : W10.ownsRow W6.heap.size 5 1 v2 (n2 + 1) ((m.enc ++ [0]).map U) := by
        have q := ho11
        rw [← List.map_append] at q
        exact q
      obtain ⟨A11, c11, rfl, hc11⟩ := own_slice ho11
      have HB11 := Lib.hid (HB6.out.trans (hb11.mono HB6.out.size))
      have HM11 := Lib.hid (HM6.out.below hb11)
      have HN11 := Lib.hid (HN6.out.below hb11)
      have HL11 := Lib.hid (HL6.out.below hb11)
      have K1 := get_any A11 (n2 + 1) c11 (m.enc ++ [0]) W10 (Rd.of_own ho11).1 (by omega)
      rw [hs6] at hr1
      have HR1 := Lib.hid hr1
      have HR2 := Lib.hid hr2
      have hg : ¬ getOk (m.enc ++ [0]) := get_more HMY.out
      have e1 : getM (m.enc ++ [0]) = Mg.zero := by unfold getM; rw [if_neg hg]
      have e2 : getE (m.enc ++ [0]) = 2 := by unfold getE; rw [if_neg hg]
      unfold GetPost at K1
      rw [e1, e2] at K1
      have CG := Lib.hid K1
      clear K1 hg e1 e2 HM6 HN6 HR6 HL6 hb7 hb8 hb9 hb10 hb10' hb11 hs6 hs7 hs8 hs9 ho8 ho9 ho10 ho11 hrd hg9 hg11 hr1 hr2 hi hz0 hz1 hz2 hn96
      rw [hW7, hW6] at HR1
      rw [hW9] at HR2
      go_wp2_with (at_builtin; first | refine Lib.wpList_append_run _ rfl _ _ _ _ rfl _ _ rfl rfl _ _ HR1.out ?_ | refine Lib.wpList_append_run _ rfl _ _ _ _ rfl _ _ rfl rfl _ _ HR2.out ?_)
      refine CG.out.mono ?_
      clear CG HR1 HR2 hW6 hW7 hW9
      rintro e w12 ⟨A12, c12, rfl, -, hb12⟩
      have HB12 := Lib.hid (HB11.out.trans (hb12.mono HB11.out.size))
      have HM12 := Lib.hid (HM11.out.below hb12)
      have HN12 := Lib.hid (HN11.out.below hb12)
      have HL12 := Lib.hid (HL11.out.below hb12)
      clear hb12 HM11 HN11 HL11
      obtain ⟨W12, hW12⟩ : ∃ W12, W12 = w12.alloc (.cells #[.int .u8 0, .int .u64 0, .int .u64 0, .int .i64 0, .int .i64 0, .slice A12 0 c12] 25) := ⟨_, rfl⟩
      have hb13 : Below w12.heap.size w12 W12 := by rw [hW12]; exact (Below.refl _ _).alloc (Nat.le_refl _) _
      have HB13 := Lib.hid (HB12.out.trans (hb13.mono HB12.out.size))
      have HM13 := Lib.hid (HM12.out.below hb13)
      have HN13 := Lib.hid (HN12.out.below hb13)
      have CS := Lib.hid (same_any A A4 m.lines.length m.lines.length c c4 m m W12 (HL.out.below HB13.out) (HL12.out.below hb13) (by omega) (by omega))
      clear hb13 HM12 HN12 HL12
      have a0 := HM13.out.cell 0
      have a1 := HM13.out.cell 1
      have a2 := HM13.out.cell 2
      have a3 := HM13.out.cell 3
      have a4 := HM13.out.cell 4
      have a5 := HM13.out.cell 5
      unfold mgC at a0 a1 a2 a3 a4 a5
      simp at a0 a1 a2 a3 a4 a5
      have b0 := HN13.out.cell 0
      have b1 := HN13.out.cell 1
      have b2 := HN13.out.cell 2
      have b3 := HN13.out.cell 3
      have b4 := HN13.out.cell 4
      have b5 := HN13.out.cell 5
      unfold mgC at b0 b1 b2 b3 b4 b5
      simp at b0 b1 b2 b3 b4 b5
      unfold mgC at CS
      unfold mgC Mg.zero
      rw [hW12] at a0 a1 a2 a3 a4 a5 b0 b1 b2 b3 b4 b5 CS
      go_wp2_with fail
      refine CS.out.mono ?_
      rw [← hW12]
      rintro e w14 ⟨rfl, hb14⟩
      simp only [decide_true]
      have HB14 := Lib.hid (HB13.out.trans (hb14.mono HB13.out.size))
      clear hb14 CS hW12 HM13 HN13 a0 a1 a2 a3 a4 a5 b0 b1 b2 b3 b4 b5
      go_wp2_with fail
      refine (tells_any _).mono ?_
      rintro e w15 ⟨rfl, hb⟩
      have HB15 := Lib.hid (HB14.out.trans (hb.mono HB14.out.size))
      clear hb
      go_wp2_with fail
      go_ret
      exact ⟨rfl, HB15.out⟩
    · have CP := Lib.hid (put_no A m.lines.length c m w1 HOK.out (HL.out.below HB1.out) hm)
      have HM := Lib.hid (show decide m.may = false by simp [hm])
      clear hm
      have a0 := HM1.out.cell 0
      have a1 := HM1.out.cell 1
      have a2 := HM1.out.cell 2
      have a3 := HM1.out.cell 3
      have a4 := HM1.out.cell 4
      have a5 := HM1.out.cell 5
      unfold mgC at a0 a1 a2 a3 a4 a5
      simp at a0 a1 a2 a3 a4 a5
      unfold mgC at CP
      go_wp2_with fail
      refine CP.out.mono ?_
      rintro e w2 ⟨rfl, hb2⟩
      have HB2 := Lib.hid (HB1.out.trans (hb2.mono HB1.out.size))
      have HM2 := Lib.hid (HM1.out.below hb2)
      clear hb2 CP HM1 a0 a1 a2 a3 a4 a5
      have CP := Lib.hid (rmay_any A m.lines.length c m w2 HOK.out (HL.out.below HB2.out))
      have a0 := HM2.out.cell 0
      have a1 := HM2.out.cell 1
      have a2 := HM2.out.cell 2
      have a3 := HM2.out.cell 3
      have a4 := HM2.out.cell 4
      have a5 := HM2.out.cell 5
      unfold mgC at a0 a1 a2 a3 a4 a5
      simp at a0 a1 a2 a3 a4 a5
      unfold mgC at CP
      go_wp2_with fail
      refine CP.out.mono ?_
      rw [HM.out]
      rintro e w3 ⟨rfl, hb3⟩
      have HB3 := Lib.hid (HB2.out.trans (hb3.mono HB2.out.size))
      clear hb3 CP HM2 a0 a1 a2 a3 a4 a5
      go_wp2_with fail
      refine (tells_any _).mono ?_
      rintro e w4 ⟨rfl, hb⟩
      have HB4 := Lib.hid (HB3.out.trans (hb.mono HB3.out.size))
      clear hb
      go_wp2_with fail
      go_ret
      exact ⟨rfl, HB4.out⟩

set_option maxRecDepth 100000 in
theorem lifted (os : Os) (started : os.Started) (H : Type) (enc : TypeId × Value → H) :
    ReturnsInHanded {} Try.checked os 5 .any (Rows.zmsgBackSpec.pre6 enc Try.prog Try.f5 Rows.zmsgBackRow.domain false) (Rows.zmsgBackSpec.post enc Try.prog Try.f5 false true false false) := by
  refine returnsInHanded_of_change_sized (C := Try.checked) own started (by kernel_rfl) Try.func5
    (ChangeSpec.witness6 (enc := enc) (C := Try.checked) false ⟨#[], #[.agg #[.int .u8 0, .int .u64 0, .int .u64 0, .int .i64 0, .int .i64 0, .slice none 0 0]], []⟩ 8 (by kernel_rfl) (by kernel_rfl) (by kernel_rfl) (by kernel_rfl)) ?_
  intro W base args ds gs before hval0 hW hcnd hsz _
  have hval : ∀ (j : Nat) t v, Try.f5.params[j]? = some t → args[j]? = some v → Value.okWide Try.prog W .any base t v := hval0
  have hW' := hW
  obtain ⟨p, q, hA0, hV, rfl, hfz, hnd⟩ := hW
  have hA : DataW.TrodAll enc Try.prog W 0 (fun _ => true) true Try.f5.params.toList args.toList ds p := hA0
  rw [Try.params5] at hA hval
  obtain ⟨v0, d0, rfl, rfl, h0⟩ := trodAll_one hA
  obtain ⟨rfl, rfl⟩ := trodVars_none hV
  obtain ⟨m, A, c, rfl, _, hl, hok⟩ := arg_msg (hval 0 _ v0 rfl rfl) h0 (fun n hn => by have := List.all_eq_true.1 hsz _ (DataW.weights_mem_each (j := 0) (t := 25) rfl rfl n hn); simpa using this)
  refine (walk m A c W hl hok).mono fun e W' ⟨he, hb⟩ => ?_
  subst he
  exact ⟨_, rfl, post_true laidOut (by kernel_rfl) ty_bool (by kernel_rfl) rfl hW' hb rfl⟩

theorem over : Rows.zmsgBackRow.holds Try.pinned (OpenSpec.ofChange Rows.zmsgBackSpec) :=
  OpenClaim.holds_of_wide 5 Try.f5 rfl rfl rfl rfl rfl rfl rfl ⟨rfl, rfl, rfl, rfl, rfl⟩ rfl rfl rfl rfl rfl (by kernel_rfl) Try.func5 (by kernel_rfl)
    (of_decide_eq_true (by kernel_rfl)) (by unfold Func.isWrapper; first | (rw [if_pos (by decide +kernel)]; kernel_rfl) | (rw [if_neg (by decide +kernel)]; exact ⟨rfl, rfl⟩))
    (fun os started H enc _ => lifted os started H enc)

theorem proved : Rows.ZmsgBackSaid :=
  over
end Go.Proofs.Ytobdkgmlkchggaa.zmsgBack
