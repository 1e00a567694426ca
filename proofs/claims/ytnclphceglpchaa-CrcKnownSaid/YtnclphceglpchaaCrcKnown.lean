/- CrcKnown: the chapter's examples, closed: the call returns true, and nothing that was there has turned. No conditions. -/
import Derived.Test.YtnclphceglpchaaCrcGoes
namespace Go.Proofs.Ytnclphceglpchaa.crcKnown
open Go.ChangeShapes Go.WideShapes Go.ChangeAt Go.RowKit

set_option maxHeartbeats 1000000 in
theorem walk (w : World) : Calls Try.prog 7 #[] w fun e w' => e = .returned (.bool true) ∧ Below w.heap.size w w' := by
  have hcv := conv_const
  go_enter Try.func7, Try.ntmps7
  go_wp2_with fail
  have B1 := Lib.hid ((Below.refl w.heap.size w).alloc (Nat.le_refl _) (.cells #[.int .u8 49, .int .u8 50, .int .u8 51, .int .u8 52, .int .u8 53, .int .u8 54, .int .u8 55, .int .u8 56, .int .u8 57] 5 (9, 10)))
  refine (Crc.Sum_any _ 9 9 [49, 50, 51, 52, 53, 54, 55, 56, 57] _ (rd_lit w 5 (9, 10) [49, 50, 51, 52, 53, 54, 55, 56, 57]) (by omega)).mono ?_
  rw [Crc.sum_known]
  rintro e w1 ⟨rfl, hb⟩
  have B2 := Lib.hid (B1.out.trans (hb.mono B1.out.size))
  clear hb
  go_wp2_with fail
  have B3 := Lib.hid (B2.out.alloc B2.out.size (.cells #[] 5))
  refine (Crc.Sum_any _ 0 0 [] _ (Rd.nil_ _ _) (by omega)).mono ?_
  rw [Crc.sum_none]
  rintro e w2 ⟨rfl, hb⟩
  have B4 := Lib.hid (B3.out.trans (hb.mono B3.out.size))
  clear hb
  go_wp2_with fail
  have B5 := Lib.hid (B4.out.alloc B4.out.size (.cells #[.int .u8 0] 5))
  refine (Crc.Sum_any _ 1 1 [0] _ (rd_lit w2 5 (0, 0) [0]) (by omega)).mono ?_
  rintro e w3 ⟨rfl, hb⟩
  have B6 := Lib.hid (B5.out.trans (hb.mono B5.out.size))
  clear hb
  go_wp2_with fail
  have B7 := Lib.hid (B6.out.alloc B6.out.size (.cells #[.int .u8 1] 5))
  refine (Crc.Sum_any _ 1 1 [1] _ (rd_lit w3 5 (0, 0) [1]) (by omega)).mono ?_
  rintro e w4 ⟨rfl, hb⟩
  have B8 := Lib.hid (B7.out.trans (hb.mono B7.out.size))
  clear hb
  have hne : (((Crc.sum [0] : Nat) : Int) != ((Crc.sum [1] : Nat) : Int)) = true := by decide +kernel
  generalize ((Crc.sum [0] : Nat) : Int) = x0 at *
  generalize ((Crc.sum [1] : Nat) : Int) = x1 at *
  go_wp2_with fail
  refine (Crc.goes_any w4).mono ?_
  rintro e w5 ⟨rfl, hb⟩
  have B9 := Lib.hid (B8.out.trans (hb.mono B8.out.size))
  clear hb
  go_wp2_with fail
  go_ret
  exact ⟨rfl, B9.out⟩

set_option maxRecDepth 100000 in
theorem lifted (os : Os) (started : os.Started) (H : Type) (enc : TypeId × Value → H) :
    ReturnsInHanded {} Try.checked os 7 .any (Rows.crcKnownSpec.pre6 enc Try.prog Try.f7 Rows.crcKnownRow.domain false) (Rows.crcKnownSpec.post enc Try.prog Try.f7 false true false false) := by
  refine returnsInHanded_of_change (C := Try.checked) own started (by kernel_rfl) Try.func7
    (ChangeSpec.witness6 (enc := enc) (C := Try.checked) false ⟨#[], #[], []⟩ 8 (by kernel_rfl) (by kernel_rfl) (by kernel_rfl) (by kernel_rfl)) ?_
  intro W base args ds gs before hval0 hW hcnd _
  have hval : ∀ (j : Nat) t v, Try.f7.params[j]? = some t → args[j]? = some v → Value.okWide Try.prog W .any base t v := hval0
  have hW' := hW
  obtain ⟨p, q, hA0, hV, rfl, hfz, hnd⟩ := hW
  have hA : DataW.TrodAll enc Try.prog W 0 (fun _ => true) true Try.f7.params.toList args.toList ds p := hA0
  rw [Try.params7] at hA hval
  obtain ⟨rfl, rfl, rfl⟩ := trodAll_none hA
  obtain ⟨rfl, rfl⟩ := trodVars_none hV

  refine (walk W).mono fun e W' ⟨he, hb⟩ => ?_
  subst he
  exact ⟨_, rfl, post_true laidOut (by kernel_rfl) ty_bool (by kernel_rfl) rfl hW' hb rfl⟩

theorem over : Rows.crcKnownRow.holds Try.pinned (OpenSpec.ofChange Rows.crcKnownSpec) :=
  OpenClaim.holds_of_wide 7 Try.f7 rfl rfl rfl rfl rfl rfl rfl ⟨rfl, rfl, rfl, rfl, rfl⟩ rfl rfl rfl rfl rfl (by kernel_rfl) Try.func7 (by kernel_rfl)
    (of_decide_eq_true (by kernel_rfl)) (by unfold Func.isWrapper; first | (rw [if_pos (by decide +kernel)]; kernel_rfl) | (rw [if_neg (by decide +kernel)]; exact ⟨rfl, rfl⟩))
    (fun os started H enc _ => lifted os started H enc)

theorem proved : Rows.CrcKnownSaid :=
  over
end Go.Proofs.Ytnclphceglpchaa.crcKnown
