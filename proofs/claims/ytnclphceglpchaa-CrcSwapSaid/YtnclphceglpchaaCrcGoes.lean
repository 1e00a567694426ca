/- The example that every law of layer 2 tries besides. -/
import Derived.Test.YtnclphceglpchaaCrcSum
import Derived.Test.YtnclphceglpchaaCrcBase
namespace Go.Proofs.Ytnclphceglpchaa.Crc
open Go.RowKit

set_option maxHeartbeats 1000000 in
theorem goes_any (w : World) : Calls Try.prog 10 #[] w fun e w' => e = .returned (.bool true) ∧ Below w.heap.size w w' := by
  have hcv := conv_const
  go_enter Try.func10, Try.ntmps10
  go_wp2_with fail
  have B1 := Lib.hid ((Below.refl w.heap.size w).alloc (Nat.le_refl _) (.cells #[.int .u8 49, .int .u8 50, .int .u8 51, .int .u8 52, .int .u8 53, .int .u8 54, .int .u8 55, .int .u8 56, .int .u8 57] 5 (9, 10)))
  refine (Sum_any _ 9 9 [49, 50, 51, 52, 53, 54, 55, 56, 57] _ (rd_lit w 5 (9, 10) [49, 50, 51, 52, 53, 54, 55, 56, 57]) (by omega)).mono ?_
  rw [sum_known]
  rintro e w1 ⟨rfl, hb⟩
  have B2 := Lib.hid (B1.out.trans (hb.mono B1.out.size))
  clear hb
  go_wp2_with fail
  refine (Sum_any none 0 0 [] w1 (Rd.nil_ _ _) (by omega)).mono ?_
  rw [sum_none]
  rintro e w2 ⟨rfl, hb⟩
  have B3 := Lib.hid (B2.out.trans (hb.mono B2.out.size))
  clear hb
  go_wp2_with fail
  go_ret
  exact ⟨rfl, B3.out⟩
end Go.Proofs.Ytnclphceglpchaa.Crc
