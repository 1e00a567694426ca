/- RegionKnown: the chapter's examples, and limits, closed: the call returns true, and nothing that was there has turned. No conditions. -/
import Derived.Test.YtnmlknhomhonaaaDoorRegFinds
import Derived.Test.YtnmlknhomhonaaaDoorPathFrame
namespace Go.Proofs.YtnmlknhomhonaaaDoor.regionKnown
open Go.ChangeShapes Go.WideShapes Go.ChangeAt Go.RowKit Path Reg

set_option maxRecDepth 100000 in
set_option maxHeartbeats 8000000 in
theorem walk (w : World) : Calls Tryd.prog 7 #[] w fun e w' => e = .returned (.bool true) ∧ Below w.heap.size w w' := by
  have Bw := Lib.hid (Below.refl w.heap.size w)
  obtain ⟨W1, hW1⟩ : ∃ x, w.alloc (.cells #[.string ⟨#[47, 97]⟩, .string ⟨#[47, 97, 47, 98]⟩, .string ⟨#[47, 99]⟩] 9) = x := ⟨_, rfl⟩
  have RW1 : Hid (RdV W1 (some ⟨w.heap.size, 0, none⟩) 3 (sv [[47, 97], [47, 97, 47, 98], [47, 99]])) := by show RdV _ _ _ _; rw [← hW1]; exact rdv_lit w 9 (sv [[47, 97], [47, 97, 47, 98], [47, 99]])
  have BW1 : Hid (Below w.heap.size w W1) := by show Below _ _ _; rw [← hW1]; exact (Bw.out).alloc Bw.out.size _
  have CW1 : Hid (Below w.heap.size w W1) := by show Below _ _ _; rw [← hW1]; exact (Below.refl _ _).alloc (Nat.le_refl _) _
  go_enter Tryd.func7, Tryd.ntmps7
  have cc := all_lit [[47, 97], [47, 97, 47, 98], [47, 99]] ⟨0, [47, 120], none, 0, 0, 0, false, false, none, 0, 0⟩ [] (some ⟨w.heap.size, 0, none⟩) 3 3 W1 (0) (60) RW1.out (by decide) (by decide) (OrS.nil_ W1 none) (show 0 ≤ 1000000 from by decide) (show ([47, 120]).length ≤ 1000000 from by decide) (by decide) (show allF [[47, 97], [47, 97, 47, 98], [47, 99]] [47, 120] (pathsL []) = (0, 60) from by decide +kernel)
  go_wp2_with fail
  refine cc.mono ?_
  rintro e W2 ⟨rfl, hb⟩
  have BW2 := Lib.hid (BW1.out.trans (hb.mono BW1.out.size))
  have RW1 := Lib.hid (RW1.out.below hb)
  clear hb cc
  have cc := all_lit ([] : List (List UInt8)) ⟨0, [47, 120], none, 0, 0, 0, false, false, none, 0, 0⟩ [] none 0 0 W2 (0) (60) (RdV.nil_ W2 none) (by decide) (by decide) (OrS.nil_ W2 none) (show 0 ≤ 1000000 from by decide) (show ([47, 120]).length ≤ 1000000 from by decide) (by decide) (show allF ([] : List (List UInt8)) [47, 120] (pathsL []) = (0, 60) from by decide +kernel)
  go_wp2_with fail
  refine cc.mono ?_
  rintro e W3 ⟨rfl, hb⟩
  have BW3 := Lib.hid (BW2.out.trans (hb.mono BW2.out.size))
  have RW1 := Lib.hid (RW1.out.below hb)
  clear hb cc
  obtain ⟨W4, hW4⟩ : ∃ x, W3.alloc (.cells #[.string ⟨#[47]⟩] 9) = x := ⟨_, rfl⟩
  have RW4 : Hid (RdV W4 (some ⟨W3.heap.size, 0, none⟩) 1 (sv [[47]])) := by show RdV _ _ _ _; rw [← hW4]; exact rdv_lit W3 9 (sv [[47]])
  have BW4 : Hid (Below w.heap.size w W4) := by show Below _ _ _; rw [← hW4]; exact (BW3.out).alloc BW3.out.size _
  have CW4 : Hid (Below W3.heap.size W3 W4) := by show Below _ _ _; rw [← hW4]; exact (Below.refl _ _).alloc (Nat.le_refl _) _
  have RW1 := Lib.hid (RW1.out.below CW4.out)
  have cc := all_lit [[47]] ⟨0, [47, 120], none, 0, 0, 0, false, false, none, 0, 0⟩ [] (some ⟨W3.heap.size, 0, none⟩) 1 1 W4 (0) (0) RW4.out (by decide) (by decide) (OrS.nil_ W4 none) (show 0 ≤ 1000000 from by decide) (show ([47, 120]).length ≤ 1000000 from by decide) (by decide) (show allF [[47]] [47, 120] (pathsL []) = (0, 0) from by decide +kernel)
  go_wp2_with fail
  refine cc.mono ?_
  rintro e W5 ⟨rfl, hb⟩
  have BW5 := Lib.hid (BW4.out.trans (hb.mono BW4.out.size))
  have RW1 := Lib.hid (RW1.out.below hb)
  have RW4 := Lib.hid (RW4.out.below hb)
  clear hb cc
  obtain ⟨X6, hX6⟩ : ∃ x, W5.alloc (.cells #[.int .u8 0, .string ⟨#[47, 120]⟩, .slice none 0 0, .int .i64 0, .bool false, .bool false, .slice none 0 0] 32) = x := ⟨_, rfl⟩
  have OX6 : Hid (OrS X6 (some ⟨W5.heap.size, 0, none⟩) 1 [⟨0, [47, 120], none, 0, 0, 0, false, false, none, 0, 0⟩]) := by show OrS _ _ _ _; rw [← hX6]; exact or_lit W5 [⟨0, [47, 120], none, 0, 0, 0, false, false, none, 0, 0⟩]
  have BX6 : Hid (Below w.heap.size w X6) := by show Below _ _ _; rw [← hX6]; exact (BW5.out).alloc BW5.out.size _
  have CX6 : Hid (Below W5.heap.size W5 X6) := by show Below _ _ _; rw [← hX6]; exact (Below.refl _ _).alloc (Nat.le_refl _) _
  have RW1 := Lib.hid (RW1.out.below CX6.out)
  have RW4 := Lib.hid (RW4.out.below CX6.out)
  have cc := all_lit [[47, 97], [47, 97, 47, 98], [47, 99]] ⟨0, [47, 97], none, 0, 0, 0, false, false, (some ⟨W5.heap.size, 0, none⟩), 1, 1⟩ [⟨0, [47, 120], none, 0, 0, 0, false, false, none, 0, 0⟩] (some ⟨w.heap.size, 0, none⟩) 3 3 X6 (0) (60) RW1.out (by decide) (by decide) OX6.out (show 1 ≤ 1000000 from by decide) (show ([47, 97]).length ≤ 1000000 from by decide) (by decide) (show allF [[47, 97], [47, 97, 47, 98], [47, 99]] [47, 97] (pathsL [⟨0, [47, 120], none, 0, 0, 0, false, false, none, 0, 0⟩]) = (0, 60) from by decide +kernel)
  go_wp2_with fail
  refine cc.mono ?_
  rintro e W7 ⟨rfl, hb⟩
  have BW7 := Lib.hid (BX6.out.trans (hb.mono BX6.out.size))
  have RW1 := Lib.hid (RW1.out.below hb)
  have RW4 := Lib.hid (RW4.out.below hb)
  clear hb cc
  have cc := of_lit [[47, 97], [47, 97, 47, 98], [47, 99]] [47, 99] (some ⟨w.heap.size, 0, none⟩) 3 3 W7 (2) RW1.out (by decide) (by decide) (by decide) (by decide +kernel)
  go_wp2_with fail
  refine cc.mono ?_
  rintro e W8 ⟨rfl, hb⟩
  have BW8 := Lib.hid (BW7.out.trans (hb.mono BW7.out.size))
  have RW1 := Lib.hid (RW1.out.below hb)
  have RW4 := Lib.hid (RW4.out.below hb)
  clear hb cc
  have cc := of_lit [[47, 97], [47, 97, 47, 98], [47, 99]] [99] (some ⟨w.heap.size, 0, none⟩) 3 3 W8 (-1) RW1.out (by decide) (by decide) (by decide) (by decide +kernel)
  go_wp2_with fail
  refine cc.mono ?_
  rintro e W9 ⟨rfl, hb⟩
  have BW9 := Lib.hid (BW8.out.trans (hb.mono BW8.out.size))
  have RW1 := Lib.hid (RW1.out.below hb)
  have RW4 := Lib.hid (RW4.out.below hb)
  clear hb cc
  have cc := of_lit ([] : List (List UInt8)) [47, 99] none 0 0 W9 (-1) (RdV.nil_ W9 none) (by decide) (by decide) (by decide) (by decide +kernel)
  go_wp2_with fail
  refine cc.mono ?_
  rintro e W10 ⟨rfl, hb⟩
  have BW10 := Lib.hid (BW9.out.trans (hb.mono BW9.out.size))
  have RW1 := Lib.hid (RW1.out.below hb)
  have RW4 := Lib.hid (RW4.out.below hb)
  clear hb cc
  obtain ⟨W11, hW11⟩ : ∃ x, W10.alloc (.cells #[.string ⟨#[47, 97]⟩, .string ⟨#[47, 97]⟩] 9) = x := ⟨_, rfl⟩
  have RW11 : Hid (RdV W11 (some ⟨W10.heap.size, 0, none⟩) 2 (sv [[47, 97], [47, 97]])) := by show RdV _ _ _ _; rw [← hW11]; exact rdv_lit W10 9 (sv [[47, 97], [47, 97]])
  have BW11 : Hid (Below w.heap.size w W11) := by show Below _ _ _; rw [← hW11]; exact (BW10.out).alloc BW10.out.size _
  have CW11 : Hid (Below W10.heap.size W10 W11) := by show Below _ _ _; rw [← hW11]; exact (Below.refl _ _).alloc (Nat.le_refl _) _
  have RW1 := Lib.hid (RW1.out.below CW11.out)
  have RW4 := Lib.hid (RW4.out.below CW11.out)
  have cc := of_lit [[47, 97], [47, 97]] [47, 97] (some ⟨W10.heap.size, 0, none⟩) 2 2 W11 (0) RW11.out (by decide) (by decide) (by decide) (by decide +kernel)
  go_wp2_with fail
  refine cc.mono ?_
  rintro e W12 ⟨rfl, hb⟩
  have BW12 := Lib.hid (BW11.out.trans (hb.mono BW11.out.size))
  have RW1 := Lib.hid (RW1.out.below hb)
  have RW4 := Lib.hid (RW4.out.below hb)
  have RW11 := Lib.hid (RW11.out.below hb)
  clear hb cc
  obtain ⟨W13, hW13⟩ : ∃ x, W12.alloc (.cells #[.string ⟨#[47, 97]⟩, .string ⟨#[47, 97]⟩] 9) = x := ⟨_, rfl⟩
  have RW13 : Hid (RdV W13 (some ⟨W12.heap.size, 0, none⟩) 2 (sv [[47, 97], [47, 97]])) := by show RdV _ _ _ _; rw [← hW13]; exact rdv_lit W12 9 (sv [[47, 97], [47, 97]])
  have BW13 : Hid (Below w.heap.size w W13) := by show Below _ _ _; rw [← hW13]; exact (BW12.out).alloc BW12.out.size _
  have CW13 : Hid (Below W12.heap.size W12 W13) := by show Below _ _ _; rw [← hW13]; exact (Below.refl _ _).alloc (Nat.le_refl _) _
  have RW1 := Lib.hid (RW1.out.below CW13.out)
  have RW4 := Lib.hid (RW4.out.below CW13.out)
  have RW11 := Lib.hid (RW11.out.below CW13.out)
  have cc := check_lit [[47, 97], [47, 97]] (some ⟨W12.heap.size, 0, none⟩) 2 2 W13 (1) RW13.out (by decide) (by decide) (by decide) (by decide +kernel)
  go_wp2_with fail
  refine cc.mono ?_
  rintro e W14 ⟨rfl, hb⟩
  have BW14 := Lib.hid (BW13.out.trans (hb.mono BW13.out.size))
  have RW1 := Lib.hid (RW1.out.below hb)
  have RW4 := Lib.hid (RW4.out.below hb)
  have RW11 := Lib.hid (RW11.out.below hb)
  have RW13 := Lib.hid (RW13.out.below hb)
  clear hb cc
  have cc := check_lit ([] : List (List UInt8)) none 0 0 W14 (1) (RdV.nil_ W14 none) (by decide) (by decide) (by decide) (by decide +kernel)
  go_wp2_with fail
  refine cc.mono ?_
  rintro e W15 ⟨rfl, hb⟩
  have BW15 := Lib.hid (BW14.out.trans (hb.mono BW14.out.size))
  have RW1 := Lib.hid (RW1.out.below hb)
  have RW4 := Lib.hid (RW4.out.below hb)
  have RW11 := Lib.hid (RW11.out.below hb)
  have RW13 := Lib.hid (RW13.out.below hb)
  clear hb cc
  obtain ⟨W16, hW16⟩ : ∃ x, W15.alloc (.cells #[.string ⟨#[47]⟩, .string ⟨#[47, 97]⟩, .string ⟨#[47, 98]⟩, .string ⟨#[47, 99]⟩, .string ⟨#[47, 100]⟩] 9) = x := ⟨_, rfl⟩
  have RW16 : Hid (RdV W16 (some ⟨W15.heap.size, 0, none⟩) 5 (sv [[47], [47, 97], [47, 98], [47, 99], [47, 100]])) := by show RdV _ _ _ _; rw [← hW16]; exact rdv_lit W15 9 (sv [[47], [47, 97], [47, 98], [47, 99], [47, 100]])
  have BW16 : Hid (Below w.heap.size w W16) := by show Below _ _ _; rw [← hW16]; exact (BW15.out).alloc BW15.out.size _
  have CW16 : Hid (Below W15.heap.size W15 W16) := by show Below _ _ _; rw [← hW16]; exact (Below.refl _ _).alloc (Nat.le_refl _) _
  have RW1 := Lib.hid (RW1.out.below CW16.out)
  have RW4 := Lib.hid (RW4.out.below CW16.out)
  have RW11 := Lib.hid (RW11.out.below CW16.out)
  have RW13 := Lib.hid (RW13.out.below CW16.out)
  have cc := check_lit [[47], [47, 97], [47, 98], [47, 99], [47, 100]] (some ⟨W15.heap.size, 0, none⟩) 5 5 W16 (1) RW16.out (by decide) (by decide) (by decide) (by decide +kernel)
  go_wp2_with fail
  refine cc.mono ?_
  rintro e W17 ⟨rfl, hb⟩
  have BW17 := Lib.hid (BW16.out.trans (hb.mono BW16.out.size))
  have RW1 := Lib.hid (RW1.out.below hb)
  have RW4 := Lib.hid (RW4.out.below hb)
  have RW11 := Lib.hid (RW11.out.below hb)
  have RW13 := Lib.hid (RW13.out.below hb)
  have RW16 := Lib.hid (RW16.out.below hb)
  clear hb cc
  obtain ⟨W18, hW18⟩ : ∃ x, W17.alloc (.cells #[.string ⟨#[97]⟩] 9) = x := ⟨_, rfl⟩
  have RW18 : Hid (RdV W18 (some ⟨W17.heap.size, 0, none⟩) 1 (sv [[97]])) := by show RdV _ _ _ _; rw [← hW18]; exact rdv_lit W17 9 (sv [[97]])
  have BW18 : Hid (Below w.heap.size w W18) := by show Below _ _ _; rw [← hW18]; exact (BW17.out).alloc BW17.out.size _
  have CW18 : Hid (Below W17.heap.size W17 W18) := by show Below _ _ _; rw [← hW18]; exact (Below.refl _ _).alloc (Nat.le_refl _) _
  have RW1 := Lib.hid (RW1.out.below CW18.out)
  have RW4 := Lib.hid (RW4.out.below CW18.out)
  have RW11 := Lib.hid (RW11.out.below CW18.out)
  have RW13 := Lib.hid (RW13.out.below CW18.out)
  have RW16 := Lib.hid (RW16.out.below CW18.out)
  have cc := check_lit [[97]] (some ⟨W17.heap.size, 0, none⟩) 1 1 W18 (30) RW18.out (by decide) (by decide) (by decide) (by decide +kernel)
  go_wp2_with fail
  refine cc.mono ?_
  rintro e W19 ⟨rfl, hb⟩
  have BW19 := Lib.hid (BW18.out.trans (hb.mono BW18.out.size))
  have RW1 := Lib.hid (RW1.out.below hb)
  have RW4 := Lib.hid (RW4.out.below hb)
  have RW11 := Lib.hid (RW11.out.below hb)
  have RW13 := Lib.hid (RW13.out.below hb)
  have RW16 := Lib.hid (RW16.out.below hb)
  have RW18 := Lib.hid (RW18.out.below hb)
  clear hb cc
  obtain ⟨W20, hW20⟩ : ∃ x, W19.alloc (.cells #[.string ⟨#[97]⟩, .string ⟨#[97]⟩] 9) = x := ⟨_, rfl⟩
  have RW20 : Hid (RdV W20 (some ⟨W19.heap.size, 0, none⟩) 2 (sv [[97], [97]])) := by show RdV _ _ _ _; rw [← hW20]; exact rdv_lit W19 9 (sv [[97], [97]])
  have BW20 : Hid (Below w.heap.size w W20) := by show Below _ _ _; rw [← hW20]; exact (BW19.out).alloc BW19.out.size _
  have CW20 : Hid (Below W19.heap.size W19 W20) := by show Below _ _ _; rw [← hW20]; exact (Below.refl _ _).alloc (Nat.le_refl _) _
  have RW1 := Lib.hid (RW1.out.below CW20.out)
  have RW4 := Lib.hid (RW4.out.below CW20.out)
  have RW11 := Lib.hid (RW11.out.below CW20.out)
  have RW13 := Lib.hid (RW13.out.below CW20.out)
  have RW16 := Lib.hid (RW16.out.below CW20.out)
  have RW18 := Lib.hid (RW18.out.below CW20.out)
  have cc := check_lit [[97], [97]] (some ⟨W19.heap.size, 0, none⟩) 2 2 W20 (1) RW20.out (by decide) (by decide) (by decide) (by decide +kernel)
  go_wp2_with fail
  refine cc.mono ?_
  rintro e W21 ⟨rfl, hb⟩
  have BW21 := Lib.hid (BW20.out.trans (hb.mono BW20.out.size))
  have RW1 := Lib.hid (RW1.out.below hb)
  have RW4 := Lib.hid (RW4.out.below hb)
  have RW11 := Lib.hid (RW11.out.below hb)
  have RW13 := Lib.hid (RW13.out.below hb)
  have RW16 := Lib.hid (RW16.out.below hb)
  have RW18 := Lib.hid (RW18.out.below hb)
  have RW20 := Lib.hid (RW20.out.below hb)
  clear hb cc
  obtain ⟨W22, hW22⟩ : ∃ x, W21.alloc (.cells #[.string ⟨#[47]⟩, .string ⟨#[47, 97]⟩, .string ⟨#[47, 98]⟩, .string ⟨#[47, 99]⟩] 9) = x := ⟨_, rfl⟩
  have RW22 : Hid (RdV W22 (some ⟨W21.heap.size, 0, none⟩) 4 (sv [[47], [47, 97], [47, 98], [47, 99]])) := by show RdV _ _ _ _; rw [← hW22]; exact rdv_lit W21 9 (sv [[47], [47, 97], [47, 98], [47, 99]])
  have BW22 : Hid (Below w.heap.size w W22) := by show Below _ _ _; rw [← hW22]; exact (BW21.out).alloc BW21.out.size _
  have CW22 : Hid (Below W21.heap.size W21 W22) := by show Below _ _ _; rw [← hW22]; exact (Below.refl _ _).alloc (Nat.le_refl _) _
  have RW1 := Lib.hid (RW1.out.below CW22.out)
  have RW4 := Lib.hid (RW4.out.below CW22.out)
  have RW11 := Lib.hid (RW11.out.below CW22.out)
  have RW13 := Lib.hid (RW13.out.below CW22.out)
  have RW16 := Lib.hid (RW16.out.below CW22.out)
  have RW18 := Lib.hid (RW18.out.below CW22.out)
  have RW20 := Lib.hid (RW20.out.below CW22.out)
  have cc := check_lit [[47], [47, 97], [47, 98], [47, 99]] (some ⟨W21.heap.size, 0, none⟩) 4 4 W22 (0) RW22.out (by decide) (by decide) (by decide) (by decide +kernel)
  go_wp2_with fail
  refine cc.mono ?_
  rintro e W23 ⟨rfl, hb⟩
  have BW23 := Lib.hid (BW22.out.trans (hb.mono BW22.out.size))
  have RW1 := Lib.hid (RW1.out.below hb)
  have RW4 := Lib.hid (RW4.out.below hb)
  have RW11 := Lib.hid (RW11.out.below hb)
  have RW13 := Lib.hid (RW13.out.below hb)
  have RW16 := Lib.hid (RW16.out.below hb)
  have RW18 := Lib.hid (RW18.out.below hb)
  have RW20 := Lib.hid (RW20.out.below hb)
  have RW22 := Lib.hid (RW22.out.below hb)
  clear hb cc
  have cc := finds_any W23
  go_wp2_with fail
  refine cc.mono ?_
  rintro e W24 ⟨rfl, hb⟩
  have BW24 := Lib.hid (BW23.out.trans (hb.mono BW23.out.size))
  have RW1 := Lib.hid (RW1.out.below hb)
  have RW4 := Lib.hid (RW4.out.below hb)
  have RW11 := Lib.hid (RW11.out.below hb)
  have RW13 := Lib.hid (RW13.out.below hb)
  have RW16 := Lib.hid (RW16.out.below hb)
  have RW18 := Lib.hid (RW18.out.below hb)
  have RW20 := Lib.hid (RW20.out.below hb)
  have RW22 := Lib.hid (RW22.out.below hb)
  clear hb cc
  go_wp2_with fail
  go_ret
  exact ⟨rfl, BW24.out⟩

set_option maxRecDepth 100000 in
theorem lifted (os : Os) (started : os.Started) (H : Type) (enc : TypeId × Value → H) :
    ReturnsInHanded {} Tryd.checked os 7 .any (fun w args => (Rows.regionKnownSpec.pre enc Tryd.prog Tryd.f7 Rows.regionKnownRow.domain false w args ∧ laidMetH Tryd.prog Rows.regionKnownRow.laid w) ∧ sizedMet enc Tryd.prog Tryd.f7 (OpenSpec.ofChange Rows.regionKnownSpec) false w args) (Rows.regionKnownSpec.post enc Tryd.prog Tryd.f7 false true false false) := by
  refine returnsInHanded_of_change_and (C := Tryd.checked) (X := fun w _ => laidMetH Tryd.prog Rows.regionKnownRow.laid w) (fun _ _ _ hh h => h.of_heap hh) own started (by kernel_rfl) Tryd.func7
    (ChangeSpec.witness_shaped (enc := enc) (C := Tryd.checked) (os := os) (X := fun w _ => laidMetH Tryd.prog Rows.regionKnownRow.laid w) false (World.laidAll Tryd.prog os Rows.regionKnownRow.laid) #[] 8 (World.laidAll_os _ _ _)
      (World.shaped_of_ZipB (by kernel_rfl) (by kernel_rfl)) (by kernel_rfl) (by kernel_rfl) (by kernel_rfl)
      (by rw [MakeChecks.laidMetH_plain _ _ _ (by kernel_rfl)]; exact laidMet_laidAll _ (by kernel_rfl) (by kernel_rfl))) ?_
  intro W base args ds gs before hval0 hW _ _ _ _
  have hval : ∀ (j : Nat) t v, Tryd.f7.params[j]? = some t → args[j]? = some v → Value.okWide Tryd.prog W .any base t v := hval0
  have hW' := hW
  obtain ⟨p, q, hA0, hV, rfl, hfz, hnd⟩ := hW
  have hA : DataW.TrodAll enc Tryd.prog W 0 (fun _ => true) true Tryd.f7.params.toList args.toList ds p := hA0
  rw [Tryd.params7] at hA hval
  obtain ⟨rfl, rfl, rfl⟩ := trodAll_none hA
  obtain ⟨rfl, rfl⟩ := trodVars_none hV

  refine (walk W).mono fun e W' ⟨he, hb⟩ => ?_
  subst he
  exact ⟨_, rfl, post_true laidOut (by kernel_rfl) ty_bool (by kernel_rfl) rfl hW' hb rfl⟩

theorem over : Rows.regionKnownRow.holds Tryd.pinned (OpenSpec.ofChange Rows.regionKnownSpec) :=
  OpenClaim.holds_of_wide 7 Tryd.f7 rfl rfl rfl rfl rfl rfl rfl ⟨rfl, rfl, rfl, rfl, rfl⟩ rfl rfl rfl rfl rfl (by kernel_rfl) Tryd.func7 (by kernel_rfl)
    (of_decide_eq_true (by kernel_rfl)) (by unfold Func.isWrapper; first | (rw [if_pos (by decide +kernel)]; kernel_rfl) | (rw [if_neg (by decide +kernel)]; exact ⟨rfl, rfl⟩))
    (fun os started H enc _ => lifted os started H enc)

theorem proved : Rows.RegionKnownCardSaid :=
  Claim7.holds_tied_plain_at .later [] Rows.regionKnownCard.laidKinds true Rows.regionKnownCard.stood.harness Rows.regionKnownCard.stood.looks over (fun _ h => by cases h) (by kernel_rfl) (fun _ h => by cases h) regionKnown_row_tie rfl ⟨rfl, rfl⟩ (by kernel_rfl) rfl
    (fun f fn hf hfn => by
      obtain rfl : f = 7 := Option.some.inj ((show Tryd.pinned.checked.prog.funcNamed Rows.regionKnownRow.func = some 7 by kernel_rfl).symm.trans hf) |>.symm
      obtain rfl : fn = Tryd.f7 := (Option.some.inj (Tryd.func7.symm.trans hfn)).symm
      exact ⟨by kernel_rfl, fun j t ht => by
        have hall : (Tryd.f7.params.toList.all fun u => !Tryd.prog.wantsStandIn u) = true := by kernel_rfl
        exact (show Tryd.prog.wantsStandIn t = false by simpa using List.all_eq_true.1 hall t (by simpa using Array.mem_of_getElem? ht))⟩)
    (by kernel_rfl)
end Go.Proofs.YtnmlknhomhonaaaDoor.regionKnown
