/- BallotKnown: the chapter's examples, and limits, closed: the call returns true, and nothing that was there has turned. No conditions. -/
import Derived.Test.YtcnmfbbliaemhaaBalFrame
namespace Go.Proofs.Ytcnmfbbliaemhaa.ballotKnown
open Go.ChangeShapes Go.WideShapes Go.ChangeAt Go.RowKit Bal

set_option maxRecDepth 100000 in
set_option maxHeartbeats 4000000 in
theorem walk (w : World) : Calls Try.prog 8 #[] w fun e w' => e = .returned (.bool true) ∧ Below w.heap.size w w' := by
  have HB := Lib.hid (Below.refl w.heap.size w)
  go_enter Try.func8, Try.ntmps8
  have C1 := next_any 0 (1) 3 w (by decide) (by decide)
  rw [show nextI 0 (1) 3 = 1 from by decide +kernel] at C1
  have C1 := Lib.hid C1
  go_wp2_with fail
  refine C1.out.mono ?_
  rintro e _ ⟨rfl, rfl⟩
  clear C1
  have C2 := next_any 7 (3) 3 w (by decide) (by decide)
  rw [show nextI 7 (3) 3 = 0 from by decide +kernel] at C2
  have C2 := Lib.hid C2
  go_wp2_with fail
  refine C2.out.mono ?_
  rintro e _ ⟨rfl, rfl⟩
  clear C2
  have C3 := next_any 7 (-1) 3 w (by decide) (by decide)
  rw [show nextI 7 (-1) 3 = 0 from by decide +kernel] at C3
  have C3 := Lib.hid C3
  go_wp2_with fail
  refine C3.out.mono ?_
  rintro e _ ⟨rfl, rfl⟩
  clear C3
  have C4 := next_any 7 (0) 0 w (by decide) (by decide)
  rw [show nextI 7 (0) 0 = 0 from by decide +kernel] at C4
  have C4 := Lib.hid C4
  go_wp2_with fail
  refine C4.out.mono ?_
  rintro e _ ⟨rfl, rfl⟩
  clear C4
  have C5 := next_any 7 (0) 1 w (by decide) (by decide)
  rw [show nextI 7 (0) 1 = 8 from by decide +kernel] at C5
  have C5 := Lib.hid C5
  go_wp2_with fail
  refine C5.out.mono ?_
  rintro e _ ⟨rfl, rfl⟩
  clear C5
  have C6 := next_any 281474976710657 (0) 1 w (by decide) (by decide)
  rw [show nextI 281474976710657 (0) 1 = 0 from by decide +kernel] at C6
  have C6 := Lib.hid C6
  go_wp2_with fail
  refine C6.out.mono ?_
  rintro e _ ⟨rfl, rfl⟩
  clear C6
  have C7 := next_any 281474976710656 (0) 1 w (by decide) (by decide)
  rw [show nextI 281474976710656 (0) 1 = 281474976710657 from by decide +kernel] at C7
  have C7 := Lib.hid C7
  go_wp2_with fail
  refine C7.out.mono ?_
  rintro e _ ⟨rfl, rfl⟩
  clear C7
  have C8 := owner_any 7 0 w (by decide) (by decide)
  rw [show ownI 7 0 = -1 from by decide +kernel] at C8
  have C8 := Lib.hid C8
  go_wp2_with fail
  refine C8.out.mono ?_
  rintro e _ ⟨rfl, rfl⟩
  clear C8
  have C9 := quorum_any (0) w (by decide)
  rw [show quoI (0) = 0 from by decide +kernel] at C9
  have C9 := Lib.hid C9
  go_wp2_with fail
  refine C9.out.mono ?_
  rintro e _ ⟨rfl, rfl⟩
  clear C9
  have C10 := quorum_any (-1) w (by decide)
  rw [show quoI (-1) = 0 from by decide +kernel] at C10
  have C10 := Lib.hid C10
  go_wp2_with fail
  refine C10.out.mono ?_
  rintro e _ ⟨rfl, rfl⟩
  clear C10
  have C11 := quorum_any (1) w (by decide)
  rw [show quoI (1) = 1 from by decide +kernel] at C11
  have C11 := Lib.hid C11
  go_wp2_with fail
  refine C11.out.mono ?_
  rintro e _ ⟨rfl, rfl⟩
  clear C11
  have C12 := quorum_any (2) w (by decide)
  rw [show quoI (2) = 2 from by decide +kernel] at C12
  have C12 := Lib.hid C12
  go_wp2_with fail
  refine C12.out.mono ?_
  rintro e _ ⟨rfl, rfl⟩
  clear C12
  have C13 := quorum_any (5) w (by decide)
  rw [show quoI (5) = 3 from by decide +kernel] at C13
  have C13 := Lib.hid C13
  go_wp2_with fail
  refine C13.out.mono ?_
  rintro e _ ⟨rfl, rfl⟩
  clear C13
  have C14 := commit_nil none 0 w
  have C14 := Lib.hid C14
  go_wp2_with fail
  refine C14.out.mono ?_
  rintro e _ ⟨rfl, rfl⟩
  clear C14
  have C15 := commit_lit [5, -1, -1] (-1) 3 w rfl (by decide) ⟨by decide, by decide, by decide⟩
  have C15 := Lib.hid C15
  go_wp2_with fail
  refine C15.out.mono ?_
  rintro e w15 ⟨rfl, hb⟩
  have HB15 := Lib.hid ((HB.out.alloc HB.out.size _).trans (hb.mono (Nat.le_trans HB.out.size (Nat.le_succ _))))
  clear hb C15
  have C16 := commit_lit [7] (7) 1 w15 rfl (by decide) ⟨by decide, by decide, by decide⟩
  have C16 := Lib.hid C16
  go_wp2_with fail
  refine C16.out.mono ?_
  rintro e w16 ⟨rfl, hb⟩
  have HB16 := Lib.hid ((HB15.out.alloc HB15.out.size _).trans (hb.mono (Nat.le_trans HB15.out.size (Nat.le_succ _))))
  clear hb C16
  have C17 := commit_lit [1, 2] (1) 2 w16 rfl (by decide) ⟨by decide, by decide, by decide⟩
  have C17 := Lib.hid C17
  go_wp2_with fail
  refine C17.out.mono ?_
  rintro e w17 ⟨rfl, hb⟩
  have HB17 := Lib.hid ((HB16.out.alloc HB16.out.size _).trans (hb.mono (Nat.le_trans HB16.out.size (Nat.le_succ _))))
  clear hb C17
  have C18 := better_any 1 5 1 5 w17 (by decide) (by decide)
  rw [show btr 1 5 1 5 = false from by decide +kernel] at C18
  have C18 := Lib.hid C18
  go_wp2_with fail
  refine C18.out.mono ?_
  rintro e w18 ⟨rfl, hb⟩
  have HB18 := Lib.hid (HB17.out.trans (hb.mono HB17.out.size))
  clear hb C18
  have C19 := better_any 1 0 1 (-1) w18 (by decide) (by decide)
  rw [show btr 1 0 1 (-1) = true from by decide +kernel] at C19
  have C19 := Lib.hid C19
  go_wp2_with fail
  refine C19.out.mono ?_
  rintro e w19 ⟨rfl, hb⟩
  have HB19 := Lib.hid (HB18.out.trans (hb.mono HB18.out.size))
  clear hb C19
  have C20 := counts_any w19
  have C20 := Lib.hid C20
  go_wp2_with fail
  refine C20.out.mono ?_
  rintro e w20 ⟨rfl, hb⟩
  have HB20 := Lib.hid (HB19.out.trans (hb.mono HB19.out.size))
  clear hb C20
  go_wp2_with fail
  go_ret
  exact ⟨rfl, HB20.out⟩

set_option maxRecDepth 100000 in
theorem lifted (os : Os) (started : os.Started) (H : Type) (enc : TypeId × Value → H) :
    ReturnsInHanded {} Try.checked os 8 .any (Rows.ballotKnownSpec.pre6 enc Try.prog Try.f8 Rows.ballotKnownRow.domain false) (Rows.ballotKnownSpec.post enc Try.prog Try.f8 false true false false) := by
  refine returnsInHanded_of_change (C := Try.checked) own started (by kernel_rfl) Try.func8
    (ChangeSpec.witness6 (enc := enc) (C := Try.checked) false ⟨#[], #[], []⟩ 8 (by kernel_rfl) (by kernel_rfl) (by kernel_rfl) (by kernel_rfl)) ?_
  intro W base args ds gs before hval0 hW hcnd _
  have hW' := hW
  obtain ⟨p, q, hA0, hV, rfl, hfz, hnd⟩ := hW
  have hA : DataW.TrodAll enc Try.prog W 0 (fun _ => true) true Try.f8.params.toList args.toList ds p := hA0
  rw [Try.params8] at hA
  obtain ⟨rfl, rfl, rfl⟩ := trodAll_none hA
  obtain ⟨rfl, rfl⟩ := trodVars_none hV

  refine (walk W).mono fun e W' ⟨he, hb⟩ => ?_
  subst he
  exact ⟨_, rfl, post_true laidOut (by kernel_rfl) ty_bool (by kernel_rfl) rfl hW' hb rfl⟩

theorem over : Rows.ballotKnownRow.holds Try.pinned (OpenSpec.ofChange Rows.ballotKnownSpec) :=
  OpenClaim.holds_of_wide 8 Try.f8 rfl rfl rfl rfl rfl rfl rfl ⟨rfl, rfl, rfl, rfl, rfl⟩ rfl rfl rfl rfl rfl (by kernel_rfl) Try.func8 (by kernel_rfl)
    (of_decide_eq_true (by kernel_rfl)) (by unfold Func.isWrapper; first | (rw [if_pos (by decide +kernel)]; kernel_rfl) | (rw [if_neg (by decide +kernel)]; exact ⟨rfl, rfl⟩))
    (fun os started H enc _ => lifted os started H enc)

theorem proved : Rows.BallotKnownSaid :=
  over
end Go.Proofs.Ytcnmfbbliaemhaa.ballotKnown
