/- WireKnown: the chapter's examples, closed: the call returns true, and nothing that was there has turned. No conditions. -/
import Derived.Test.YtjpiaeidaoklaaaFrame
namespace Go.Proofs.Ytjpiaeidaoklaaa.wireKnown
open Go.ChangeShapes Go.WideShapes Go.ChangeAt Go.RowKit

set_option maxHeartbeats 2000000 in
theorem walk (w : World) : Calls Try.prog 8 #[] w fun e w' => e = .returned (.bool true) ∧ Below w.heap.size w w' := by
  go_enter Try.func8, Try.ntmps8
  go_wp2_with fail
  have B1 := Lib.hid ((Below.refl w.heap.size w).alloc (Nat.le_refl _) (.cells #[.int .u8 0, .int .u8 0, .int .u8 0, .int .u8 2, .int .u8 97] 5))
  refine (rNew_any _ 5 5 [0, 0, 0, 2, 97] _ (rd_lit w 5 (0, 0) [0, 0, 0, 2, 97]) (by omega)).mono ?_
  rintro e w1 ⟨r, rfl, hr, hR, hb⟩
  have HR := Lib.hid hR
  have hrw : w.heap.size ≤ r := Nat.le_trans B1.out.size hr
  have B2 := Lib.hid (B1.out.trans (hb.mono B1.out.size))
  clear hR hb hr
  go_wp2_with fail
  have K1 : Calls Try.prog 26 #[.pointer (some ⟨r, 0, none⟩)] w1 (RedB w1 r [] ([97], true)) := rText_any r _ w1 HR.out
  refine K1.mono ?_
  clear K1
  rintro e w2 ⟨A2, n2, c2, rfl, hown, hR, hg⟩
  have hn2 : Hid (n2 = 0) := (Rd.of_own hown).1.len.symm
  obtain rfl : n2 = 0 := hn2.out
  have HR2 := Lib.hid hR
  have B3 := Lib.hid (B2.out.grown hg B2.out.size (fun g hg => by injection hg with hg; omega))
  clear hR hg hown hn2
  go_wp2_with fail
  have K1 : Calls Try.prog 23 #[.pointer (some ⟨r, 0, none⟩)] w2 (Red w2 r (.int .u8 0) ([97], true)) := rByte_any r _ w2 HR2.out
  refine K1.mono ?_
  clear K1
  rintro e w3 ⟨rfl, hR, hg⟩
  have HR3 := Lib.hid hR
  have B4 := Lib.hid (B3.out.grown hg B3.out.size (fun g hg => by injection hg with hg; omega))
  clear hR hg
  go_wp2_with fail
  have K1 : Calls Try.prog 21 #[.pointer (some ⟨r, 0, none⟩)] w3 (fun e w' => e = .returned (.int .i64 2) ∧ w3 = w') := rDone_any r _ w3 HR3.out
  refine K1.mono ?_
  clear K1
  rintro e w3 ⟨rfl, rfl⟩
  go_wp2_with fail
  refine (Uint_any none 0 0 3 3 [] w3 (Rd.nil_ _ _) rfl (by omega) (by omega)).mono ?_
  rintro e w4 ⟨A4, n4, c4, rfl, hl, _, hown, hb⟩
  have HA4 := Lib.hid (Rd.of_own hown).1
  have HN4 : Hid (n4 = 8) := hl
  have B4a := Lib.hid (B4.out.trans (hb.mono B4.out.size))
  clear hl hown hb
  go_wp2_with fail
  refine (rNew_any A4 n4 c4 _ w4 HA4.out (by rw [HN4.out]; decide)).mono ?_
  rintro e w4n ⟨r4, rfl, hr, hR, hb⟩
  have HR4 := Lib.hid hR
  have hrw4 : w.heap.size ≤ r4 := Nat.le_trans B4a.out.size hr
  have B4b := Lib.hid (B4a.out.trans (hb.mono B4a.out.size))
  clear hR hb hr
  go_wp2_with fail
  have K1 : Calls Try.prog 27 #[.pointer (some ⟨r4, 0, none⟩), .int .i64 (2)] w4n (Red w4n r4 (.int .i64 0) ([], true)) := rCount_any r4 (2) _ w4n HR4.out (by omega) (by omega)
  refine K1.mono ?_
  clear K1
  rintro e w4c ⟨rfl, hR, hg⟩
  have HR4c := Lib.hid hR
  have B4c := Lib.hid (B4b.out.grown hg B4b.out.size (fun g hg => by injection hg with hg; omega))
  clear hR hg
  go_wp2_with fail
  have K1 : Calls Try.prog 21 #[.pointer (some ⟨r4, 0, none⟩)] w4c (fun e w' => e = .returned (.int .i64 2) ∧ w4c = w') := rDone_any r4 _ w4c HR4c.out
  refine K1.mono ?_
  clear K1
  rintro e w4c ⟨rfl, rfl⟩
  go_wp2_with fail
  have B5 := B4c
  refine (Uint_any none 0 0 3 3 [] w4c (Rd.nil_ _ _) rfl (by omega) (by omega)).mono ?_
  rintro e w5 ⟨A5, n5, c5, rfl, hl, _, hown, hb⟩
  have HA5 := Lib.hid (Rd.of_own hown).1
  have HN5 : Hid (n5 = 8) := hl
  have B5a := Lib.hid (B5.out.trans (hb.mono B5.out.size))
  clear hl hown hb
  go_wp2_with fail
  refine (rNew_any A5 n5 c5 _ w5 HA5.out (by rw [HN5.out]; decide)).mono ?_
  rintro e w5n ⟨r5, rfl, hr, hR, hb⟩
  have HR5 := Lib.hid hR
  have hrw5 : w.heap.size ≤ r5 := Nat.le_trans B5a.out.size hr
  have B5b := Lib.hid (B5a.out.trans (hb.mono B5a.out.size))
  clear hR hb hr
  go_wp2_with fail
  have K1 : Calls Try.prog 27 #[.pointer (some ⟨r5, 0, none⟩), .int .i64 (3)] w5n (Red w5n r5 (.int .i64 3) ([], false)) := rCount_any r5 (3) _ w5n HR5.out (by omega) (by omega)
  refine K1.mono ?_
  clear K1
  rintro e w5c ⟨rfl, hR, hg⟩
  have HR5c := Lib.hid hR
  have B5c := Lib.hid (B5b.out.grown hg B5b.out.size (fun g hg => by injection hg with hg; omega))
  clear hR hg
  go_wp2_with fail
  have K1 : Calls Try.prog 21 #[.pointer (some ⟨r5, 0, none⟩)] w5c (fun e w' => e = .returned (.int .i64 0) ∧ w5c = w') := rDone_any r5 _ w5c HR5c.out
  refine K1.mono ?_
  clear K1
  rintro e w5c ⟨rfl, rfl⟩
  go_wp2_with fail
  have B6 := B5c
  refine (Uint_any none 0 0 0 0 [] w5c (Rd.nil_ _ _) rfl (by omega) (by omega)).mono ?_
  rintro e w6 ⟨A6, n6, c6, rfl, hl, _, hown, hb⟩
  have HA6 := Lib.hid (Rd.of_own hown).1
  have HN6 : Hid (n6 = 8) := hl
  have B6a := Lib.hid (B6.out.trans (hb.mono B6.out.size))
  clear hl hown hb
  go_wp2_with fail
  refine (rNew_any A6 n6 c6 _ w6 HA6.out (by rw [HN6.out]; decide)).mono ?_
  rintro e w6n ⟨r6, rfl, hr, hR, hb⟩
  have HR6 := Lib.hid hR
  have hrw6 : w.heap.size ≤ r6 := Nat.le_trans B6a.out.size hr
  have B6b := Lib.hid (B6a.out.trans (hb.mono B6a.out.size))
  clear hR hb hr
  go_wp2_with fail
  have K1 : Calls Try.prog 27 #[.pointer (some ⟨r6, 0, none⟩), .int .i64 (-1)] w6n (Red w6n r6 (.int .i64 0) ([], true)) := rCount_any r6 (-1) _ w6n HR6.out (by omega) (by omega)
  refine K1.mono ?_
  clear K1
  rintro e w6c ⟨rfl, hR, hg⟩
  have HR6c := Lib.hid hR
  have B6c := Lib.hid (B6b.out.grown hg B6b.out.size (fun g hg => by injection hg with hg; omega))
  clear hR hg
  go_wp2_with fail
  have K1 : Calls Try.prog 21 #[.pointer (some ⟨r6, 0, none⟩)] w6c (fun e w' => e = .returned (.int .i64 2) ∧ w6c = w') := rDone_any r6 _ w6c HR6c.out
  refine K1.mono ?_
  clear K1
  rintro e w6c ⟨rfl, rfl⟩
  go_wp2_with fail
  refine (rNew_any none 0 0 [] w6c (Rd.nil_ _ _) (by omega)).mono ?_
  rintro e w7 ⟨r7, rfl, hr, hR, hb⟩
  have HR7 := Lib.hid hR
  have hrw7 : w.heap.size ≤ r7 := Nat.le_trans B6c.out.size hr
  have B7 := Lib.hid (B6c.out.trans (hb.mono B6c.out.size))
  clear hR hb hr
  go_wp2_with fail
  have K1 : Calls Try.prog 21 #[.pointer (some ⟨r7, 0, none⟩)] w7 (fun e w' => e = .returned (.int .i64 0) ∧ w7 = w') := rDone_any r7 _ w7 HR7.out
  refine K1.mono ?_
  clear K1
  rintro e w7 ⟨rfl, rfl⟩
  go_wp2_with fail
  refine (Int_any none 0 0 18446744073709551615 (-1) [] w7 (Rd.nil_ _ _) (by rw [IntKind.wrap_u64]; rfl) (by omega) (by omega)).mono ?_
  rintro e w8 ⟨A8, n8, c8, rfl, hl, _, hown, hb⟩
  have s8 : (convert 22 9 (.slice A8 n8 c8)).run Try.prog w8 = .ok (.string ⟨#[255, 255, 255, 255, 255, 255, 255, 255]⟩) w8 := conv_string (Rd.of_own hown).1 c8
  have B8 := Lib.hid (B7.out.trans (hb.mono B7.out.size))
  clear hl hown hb
  go_wp2_with fail
  clear s8
  refine (Text_any none none 0 0 0 0 [] [] w8 (Rd.nil_ _ _) (Rd.nil_ _ _) (by omega) (by omega)).mono ?_
  rintro e w9 ⟨A9, n9, c9, rfl, hl, _, hown, hb⟩
  have s9 : (convert 22 9 (.slice A9 n9 c9)).run Try.prog w9 = .ok (.string ⟨#[0, 0, 0, 0]⟩) w9 := conv_string (Rd.of_own hown).1 c9
  have B9 := Lib.hid (B8.out.trans (hb.mono B8.out.size))
  clear hl hown hb
  go_wp2_with fail
  clear s9
  refine (puts_any w9).mono ?_
  rintro e w10 ⟨rfl, hb⟩
  have B10 := Lib.hid (B9.out.trans (hb.mono B9.out.size))
  clear hb
  go_wp2_with fail
  go_ret
  exact ⟨rfl, B10.out⟩

set_option maxRecDepth 100000 in
theorem lifted (os : Os) (started : os.Started) (H : Type) (enc : TypeId × Value → H) :
    ReturnsInHanded {} Try.checked os 8 .any (Rows.wireKnownSpec.pre6 enc Try.prog Try.f8 Rows.wireKnownRow.domain false) (Rows.wireKnownSpec.post enc Try.prog Try.f8 false true false false) := by
  refine returnsInHanded_of_change (C := Try.checked) own started (by kernel_rfl) Try.func8
    (ChangeSpec.witness6 (enc := enc) (C := Try.checked) false ⟨#[], #[], []⟩ 8 (by kernel_rfl) (by kernel_rfl) (by kernel_rfl) (by kernel_rfl)) ?_
  intro W base args ds gs before hval0 hW hcnd _
  have hW' := hW
  obtain ⟨p, q, hA0, hV, rfl, hfz, hnd⟩ := hW
  have hA : DataW.TrodAll enc Try.prog W 0 (fun _ => true) true Try.f8.params.toList args.toList ds p := hA0
  rw [Try.params8] at hA
  obtain ⟨rfl, rfl, rfl⟩ := trodAll_none hA
  obtain ⟨rfl, rfl⟩ := trodVars_none hV
  refine (walk W).mono fun e W' ⟨he, hb⟩ => ?_
  subst he
  exact ⟨_, rfl, post_true laidOut (by kernel_rfl) ty_bool (by kernel_rfl) rfl hW' hb rfl⟩

theorem over : Rows.wireKnownRow.holds Try.pinned (OpenSpec.ofChange Rows.wireKnownSpec) :=
  OpenClaim.holds_of_wide 8 Try.f8 rfl rfl rfl rfl rfl rfl rfl ⟨rfl, rfl, rfl, rfl, rfl⟩ rfl rfl rfl rfl rfl (by kernel_rfl) Try.func8 (by kernel_rfl)
    (of_decide_eq_true (by kernel_rfl)) (by unfold Func.isWrapper; first | (rw [if_pos (by decide +kernel)]; kernel_rfl) | (rw [if_neg (by decide +kernel)]; exact ⟨rfl, rfl⟩))
    (fun os started H enc _ => lifted os started H enc)

theorem proved : Rows.WireKnownSaid :=
  over
end Go.Proofs.Ytjpiaeidaoklaaa.wireKnown
