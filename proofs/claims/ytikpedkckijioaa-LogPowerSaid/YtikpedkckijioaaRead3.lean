/- Count, and the calls of a nil reader. -/
import Derived.Test.YtikpedkckijioaaRead2
namespace Go.Proofs.Ytikpedkckijioaa
open Go.RowKit

/-- What Count reads. -/
def countS (most : Int) (s : List UInt8 × Bool) : Nat × (List UInt8 × Bool) :=
  if most < 0 ∨ most < (val (takeS 8 s).1 : Int) then (0, ((takeS 8 s).2.1, true)) else (val (takeS 8 s).1, (takeS 8 s).2)

set_option maxHeartbeats 400000 in
theorem nByte (w : World) : Calls Try.prog 74 #[.pointer none] w fun e w' => e = .returned (.int .u8 0) ∧ w = w' := by
  go_enter Try.func74, Try.ntmps74
  go_wp2_with fail
  refine (number_nil _ w).mono ?_
  rintro e w' ⟨rfl, rfl⟩
  go_wp2_with fail
  go_ret
  exact ⟨rfl, rfl⟩
set_option maxHeartbeats 400000 in
theorem nUint (w : World) : Calls Try.prog 50 #[.pointer none] w fun e w' => e = .returned (.int .u64 0) ∧ w = w' := by
  go_enter Try.func50, Try.ntmps50
  go_wp2_with fail
  refine (number_nil _ w).mono ?_
  rintro e w' ⟨rfl, rfl⟩
  go_wp2_with fail
  go_ret
  exact ⟨rfl, rfl⟩
set_option maxHeartbeats 400000 in
theorem nText (w : World) : Calls Try.prog 52 #[.pointer none] w fun e w' => e = .returned (.slice none 0 0) ∧ w = w' := by
  go_enter Try.func52, Try.ntmps52
  go_wp2_with fail
  refine (number_nil _ w).mono ?_
  rintro e w' ⟨rfl, rfl⟩
  go_wp2_with fail
  refine (readB_nil _ _ w).mono ?_
  rintro e w' ⟨rfl, rfl⟩
  go_wp2_with fail
  go_ret
  exact ⟨rfl, rfl⟩
end Go.Proofs.Ytikpedkckijioaa
