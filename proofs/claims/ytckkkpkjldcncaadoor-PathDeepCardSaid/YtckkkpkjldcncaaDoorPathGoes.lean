/- The example that every law of layer 3 tries besides. -/
import Derived.Test.YtckkkpkjldcncaaDoorPathCode
import Derived.WalkLawsBesides
namespace Go.Proofs.YtckkkpkjldcncaaDoor.Path
open Go.RowKit

set_option maxRecDepth 8000 in
set_option maxHeartbeats 1000000 in
theorem goes_any (w : World) : Calls Tryd.prog 17 #[] w fun e w' => e = .returned (.bool true) ∧ Below w.heap.size w w' := by
  have j1 : joinF [47, 97] [98] = ([47, 97, 47, 98], 0) := by decide +kernel
  have c1 : checkE [47, 97, 47, 46, 46, 47, 98] = 30 := by decide +kernel
  have u1 : underF [47, 97, 47, 98] [47, 97] = true := by decide +kernel
  have u2 : underF [47, 97, 98] [47, 97] = false := by decide +kernel
  have p1 : parentF [47, 97, 47, 98] = [47, 97] := by decide +kernel
  have b1 : baseF [47, 97, 47, 98] = [98] := by decide +kernel
  have J1 := Lib.hid j1
  have C1 := Lib.hid c1
  have U1 := Lib.hid u1
  have U2 := Lib.hid u2
  have P1 := Lib.hid p1
  have BB := Lib.hid b1
  clear j1 c1 u1 u2 p1 b1
  have hsl := S_list
  go_enter Tryd.func17, Tryd.ntmps17
  go_wp2_with fail
  refine (Join_any [47, 97] [98] w (by simp) (by simp)).mono ?_
  rw [J1.out]
  rintro e w1 ⟨rfl, hb⟩
  have B1 := Lib.hid hb
  clear hb
  go_wp2_with fail
  refine (Check_any [47, 97, 47, 46, 46, 47, 98] w1 (by simp)).mono ?_
  rw [C1.out]
  rintro e w2 ⟨rfl, hb⟩
  have B2 := Lib.hid (B1.out.trans (hb.mono B1.out.size))
  clear hb
  go_wp2_with fail
  refine (Under_any [47, 97, 47, 98] [47, 97] w2 (by simp) (by simp)).mono ?_
  rw [U1.out]
  rintro e w3 ⟨rfl, hb⟩
  have B3 := Lib.hid (B2.out.trans (hb.mono B2.out.size))
  clear hb
  go_wp2_with fail
  refine (Under_any [47, 97, 98] [47, 97] w3 (by simp) (by simp)).mono ?_
  rw [U2.out]
  rintro e w4 ⟨rfl, hb⟩
  have B4 := Lib.hid (B3.out.trans (hb.mono B3.out.size))
  clear hb
  go_wp2_with fail
  refine (Parent_any [47, 97, 47, 98] w4 (by simp)).mono ?_
  rw [P1.out]
  rintro e w5 ⟨rfl, hb⟩
  have B5 := Lib.hid (B4.out.trans (hb.mono B4.out.size))
  clear hb
  go_wp2_with fail
  refine (Base_any [47, 97, 47, 98] w5 (by simp)).mono ?_
  rw [BB.out]
  rintro e w6 ⟨rfl, hb⟩
  have B6 := Lib.hid (B5.out.trans (hb.mono B5.out.size))
  clear hb
  go_wp2_with fail
  go_ret
  exact ⟨rfl, B6.out⟩
end Go.Proofs.YtckkkpkjldcncaaDoor.Path
