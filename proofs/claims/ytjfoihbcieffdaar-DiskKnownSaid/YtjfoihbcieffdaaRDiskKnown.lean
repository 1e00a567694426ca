/- DiskKnown: the chapter's examples, and what may not be, closed: the call returns true, and nothing that was there has turned. No conditions. -/
import Derived.Test.YtjfoihbcieffdaaRDiskWakes
namespace Go.Proofs.YtjfoihbcieffdaaR.diskKnown
open Go.ChangeShapes Go.WideShapes Go.ChangeAt Go.RowKit Disk

/-- A block beside the disk's. -/
structure Apart (w : World) (X : Nat → Prop) (h : Nat) (t : TypeId) (cs : Array Value) : Prop where
  bk : Bk w h t cs
  no : ¬ X h
theorem Apart.below_ {w w' : World} {X : Nat → Prop} {h : Nat} {t : TypeId} {cs : Array Value} (a : Apart w X h t cs) (hb : Below w.heap.size w w') : Apart w' X h t cs := ⟨a.bk.below hb, a.no⟩
theorem Apart.step {w w' : World} {X X' : Nat → Prop} {h : Nat} {t : TypeId} {cs : Array Value} (a : Apart w X h t cs) (ho : Out X w w') (hx : ∀ k, X' k → X k ∨ w.heap.size ≤ k) : Apart w' X' h t cs :=
  ⟨a.bk.kept (ho.block h a.bk.lt a.no), fun h' => (hx h h').elim a.no (fun h2 => by have := a.bk.lt; omega)⟩

def d0 : DK := DK.new 2
def d1 : DK := d0.fuse 1
def d2 : DK := (d1.write 1 (sheet 97 0)).2
def d3 : DK := d2.sync.2
def d4 : DK := d3.restart [512]
def d5 : DK := (d4.write 0 (sheet 98 0)).2
def d6 : DK := d5.restart [-1]
def d7 : DK := (d6.write 0 (sheet 99 0)).2
def d8 : DK := d7.restart [513]
set_option maxRecDepth 100000 in
theorem facts : (d1.write 1 (sheet 97 0)).1 = 0 ∧ d2.sync.1 = 9 ∧ d3.faultAt 1 = 9 ∧ d4.faultAt 1 = 0 ∧ (d4.seen 1)[511]? = some 97 ∧ d6.faultAt 0 = 0 ∧ d8.faultAt 0 = 0 ∧ (d6.seen 0)[511]? = some 98 ∧ (d8.seen 0)[0]? = some 98 := by
  refine ⟨?_, ?_, ?_, ?_, ?_, ?_, ?_, ?_, ?_⟩ <;> kernel_rfl
set_option maxRecDepth 100000 in
theorem rows : d0.row.length = 0 ∧ d1.row.length = 0 ∧ d2.row.length = 1 ∧ d3.row.length = 1 ∧ d4.row.length = 0 ∧ d5.row.length = 1 ∧ d6.row.length = 0 ∧ d7.row.length = 1 ∧ d8.row.length = 0 := by
  refine ⟨?_, ?_, ?_, ?_, ?_, ?_, ?_, ?_, ?_⟩ <;> kernel_rfl
set_option maxRecDepth 100000 in
set_option maxHeartbeats 2000000 in
theorem walk (w : World) : Calls Try.prog 7 #[] w fun e w' => e = .returned (.bool true) ∧ Below w.heap.size w w' := by
  obtain ⟨f1, f2, f3, f4, f5, f6, f7, f8, f9⟩ := facts
  obtain ⟨r0, r1, r2, r3, r4, r5, r6, r7, r8⟩ := rows
  have F1 := Lib.hid f1
  have F2 := Lib.hid f2
  have F3 := Lib.hid f3
  have F4 := Lib.hid f4
  have F5 := Lib.hid f5
  have F6 := Lib.hid f6
  have F7 := Lib.hid f7
  have F8 := Lib.hid f8
  have F9 := Lib.hid f9
  have R0 := Lib.hid r0
  have R1 := Lib.hid r1
  have R2 := Lib.hid r2
  have R3 := Lib.hid r3
  have R4 := Lib.hid r4
  have R5 := Lib.hid r5
  have R6 := Lib.hid r6
  have R7 := Lib.hid r7
  have R8 := Lib.hid r8
  clear f1 f2 f3 f4 f5 f6 f7 f8 f9 r0 r1 r2 r3 r4 r5 r6 r7 r8
  go_enter Try.func7, Try.ntmps7
  go_wp2_with fail
  refine (new_no 0 w (by omega)).mono ?_
  rintro e w ⟨rfl, rfl⟩
  go_wp2_with fail
  refine (new_no 4097 w (by omega)).mono ?_
  rintro e w ⟨rfl, rfl⟩
  go_wp2_with fail
  have cn : Calls Try.prog 10 #[.int .i64 2] w (NewSt 2 w w) := new_st 2 w w (by omega) (by omega) (Below.refl _ _)
  refine cn.mono ?_
  clear cn
  rintro e w1 ⟨g, X1, rfl, hs, -, -⟩
  have HS := Lib.hid hs
  clear hs
  go_wp2_with fail
  have cw := fuse_st HS.out 1 (by omega) (by omega)
  refine cw.mono ?_
  clear cw
  rintro e w2 ⟨rfl, X2, hs, ho, hx⟩
  replace HS : Hid (St w w2 X2 g (d1)) := hs
  clear hs ho hx
  go_wp2_with fail
  have cs : Calls Try.prog 19 #[.int .u8 97, .int .u8 0] w2 (SheetPost 97 0 w2) := sheet_any 97 0 w2
  refine cs.mono ?_
  clear cs
  rintro e w3 ⟨gs3, cs3, rfl, ho, hb, hg, hl⟩
  have HO3 := Lib.hid ho
  have HR3 := Lib.hid (Rd.of_own' ho)
  have HX3 : Hid (¬ X2 gs3) := fun hx => by
    have := HS.out.at_.lt _ hx
    omega
  have HL3 := Lib.hid hl
  replace HS := Lib.hid (HS.out.below_ hb)
  clear ho hb hg hl
  go_wp2_with fail
  have cw := write_st HS.out 1 (some ⟨gs3, 0, none⟩) 512 cs3 (sheet 97 0) HR3.out (fun a ha hx => by injection ha with ha; subst ha; exact HX3.out hx) (by omega) (by rw [R1.out]; omega)
  rw [F1.out] at cw
  refine cw.mono ?_
  clear cw
  rintro e w4 ⟨rfl, X4, hs, ho, hx⟩
  replace HS : Hid (St w w4 X4 g (d2)) := hs
  clear hs ho hx
  go_wp2_with fail
  have cw := sync_st HS.out (by rw [R2.out]; omega)
  rw [F2.out] at cw
  refine cw.mono ?_
  clear cw
  rintro e w5 ⟨rfl, X5, hs, ho, hx⟩
  replace HS : Hid (St w w5 X5 g (d3)) := hs
  clear hs ho hx
  go_wp2_with fail
  have cw : Calls Try.prog 17 #[.pointer (some ⟨g, 0, none⟩), .int .i64 1] w5 _ := read_no HS.out.at_ 1 (by rw [F3.out]; decide)
  rw [F3.out] at cw
  refine cw.mono ?_
  clear cw
  rintro e wz ⟨rfl, rfl⟩
  go_wp2_with fail
  have hbz : Below w5.heap.size w5 (w5.alloc (.cells #[.int .i64 (512)] 3)) := (Below.refl _ _).alloc (Nat.le_refl _) _
  have hsz := HS.out.below_ hbz
  clear hbz
  have cw := restart_st hsz (some ⟨w5.heap.size, 0, none⟩) 1 1 [512] (rdI_lit w5 3 [512] (by simp)) (fun _ a ha hx => by
    injection ha with ha
    subst ha
    have := HS.out.at_.lt _ hx
    have : w5.heap.size < w5.heap.size := this
    omega) (by omega) (by rw [R3.out]; omega)
  clear hsz
  refine cw.mono ?_
  clear cw
  rintro e w6 ⟨rfl, X6, hs, ho, hx⟩
  replace HS : Hid (St w w6 X6 g (d4)) := hs
  clear hs ho hx
  go_wp2_with fail
  have cw : Calls Try.prog 17 #[.pointer (some ⟨g, 0, none⟩), .int .i64 1] w6 _ := read_st HS.out 1 F4.out (by rw [R4.out]; omega)
  refine cw.mono ?_
  clear cw
  rintro e w7 ⟨h1, rfl, hk, hh, hs, hb⟩
  have HKh1 : Hid (Apart w7 X6 h1 63 _) := ⟨hk, fun hx => by have := HS.out.at_.lt _ hx; omega⟩
  replace HS := Lib.hid hs
  clear hk hh hs hb
  have hx1 : w7.cell? ⟨h1, 511, none⟩ = some (.int .u8 97) := page_cell HKh1.out.bk F5.out
  go_wp2_with fail
  clear hx1 HKh1
  have cs : Calls Try.prog 19 #[.int .u8 98, .int .u8 0] w7 (SheetPost 98 0 w7) := sheet_any 98 0 w7
  refine cs.mono ?_
  clear cs
  rintro e w8 ⟨gs8, cs8, rfl, ho, hb, hg, hl⟩
  have HO8 := Lib.hid ho
  have HR8 := Lib.hid (Rd.of_own' ho)
  have HX8 : Hid (¬ X6 gs8) := fun hx => by
    have := HS.out.at_.lt _ hx
    omega
  have HL8 := Lib.hid hl
  replace HS := Lib.hid (HS.out.below_ hb)
  clear ho hb hg hl
  go_wp2_with fail
  have cw := write_st HS.out 0 (some ⟨gs8, 0, none⟩) 512 cs8 (sheet 98 0) HR8.out (fun a ha hx => by injection ha with ha; subst ha; exact HX8.out hx) (by omega) (by rw [R4.out]; omega)
  refine cw.mono ?_
  clear cw
  rintro e w9 ⟨rfl, X9, hs, ho, hx⟩
  replace HS : Hid (St w w9 X9 g (d5)) := hs
  clear hs ho hx
  go_wp2_with fail
  have hbz : Below w9.heap.size w9 (w9.alloc (.cells #[.int .i64 (-1)] 3)) := (Below.refl _ _).alloc (Nat.le_refl _) _
  have hsz := HS.out.below_ hbz
  clear hbz
  have cw := restart_st hsz (some ⟨w9.heap.size, 0, none⟩) 1 1 [-1] (rdI_lit w9 3 [-1] (by simp)) (fun _ a ha hx => by
    injection ha with ha
    subst ha
    have := HS.out.at_.lt _ hx
    have : w9.heap.size < w9.heap.size := this
    omega) (by omega) (by rw [R5.out]; omega)
  clear hsz
  refine cw.mono ?_
  clear cw
  rintro e w10 ⟨rfl, X10, hs, ho, hx⟩
  replace HS : Hid (St w w10 X10 g (d6)) := hs
  clear hs ho hx
  go_wp2_with fail
  have cw : Calls Try.prog 17 #[.pointer (some ⟨g, 0, none⟩), .int .i64 0] w10 _ := read_st HS.out 0 F6.out (by rw [R6.out]; omega)
  refine cw.mono ?_
  clear cw
  rintro e w11 ⟨h2, rfl, hk, hh, hs, hb⟩
  have HKh2 : Hid (Apart w11 X10 h2 63 _) := ⟨hk, fun hx => by have := HS.out.at_.lt _ hx; omega⟩
  replace HS := Lib.hid hs
  clear hk hh hs hb
  go_wp2_with fail
  have cs : Calls Try.prog 19 #[.int .u8 99, .int .u8 0] w11 (SheetPost 99 0 w11) := sheet_any 99 0 w11
  refine cs.mono ?_
  clear cs
  rintro e w12 ⟨gs12, cs12, rfl, ho, hb, hg, hl⟩
  have HO12 := Lib.hid ho
  have HR12 := Lib.hid (Rd.of_own' ho)
  have HX12 : Hid (¬ X10 gs12) := fun hx => by
    have := HS.out.at_.lt _ hx
    omega
  have HL12 := Lib.hid hl
  replace HS := Lib.hid (HS.out.below_ hb)
  replace HKh2 := Lib.hid (HKh2.out.below_ hb)
  clear ho hb hg hl
  go_wp2_with fail
  have cw := write_st HS.out 0 (some ⟨gs12, 0, none⟩) 512 cs12 (sheet 99 0) HR12.out (fun a ha hx => by injection ha with ha; subst ha; exact HX12.out hx) (by omega) (by rw [R6.out]; omega)
  refine cw.mono ?_
  clear cw
  rintro e w13 ⟨rfl, X13, hs, ho, hx⟩
  replace HKh2 := Lib.hid (HKh2.out.step ho hx)
  replace HS : Hid (St w w13 X13 g (d7)) := hs
  clear hs ho hx
  go_wp2_with fail
  have hbz : Below w13.heap.size w13 (w13.alloc (.cells #[.int .i64 (513)] 3)) := (Below.refl _ _).alloc (Nat.le_refl _) _
  have hsz := HS.out.below_ hbz
  replace HKh2 := Lib.hid (HKh2.out.below_ hbz)
  clear hbz
  have cw := restart_st hsz (some ⟨w13.heap.size, 0, none⟩) 1 1 [513] (rdI_lit w13 3 [513] (by simp)) (fun _ a ha hx => by
    injection ha with ha
    subst ha
    have := HS.out.at_.lt _ hx
    have : w13.heap.size < w13.heap.size := this
    omega) (by omega) (by rw [R7.out]; omega)
  clear hsz
  refine cw.mono ?_
  clear cw
  rintro e w14 ⟨rfl, X14, hs, ho, hx⟩
  replace HKh2 := Lib.hid (HKh2.out.step ho hx)
  replace HS : Hid (St w w14 X14 g (d8)) := hs
  clear hs ho hx
  go_wp2_with fail
  have cw : Calls Try.prog 17 #[.pointer (some ⟨g, 0, none⟩), .int .i64 0] w14 _ := read_st HS.out 0 F7.out (by rw [R8.out]; omega)
  refine cw.mono ?_
  clear cw
  rintro e w15 ⟨h3, rfl, hk, hh, hs, hb⟩
  replace HKh2 := Lib.hid (HKh2.out.below_ hb)
  have HKh3 : Hid (Apart w15 X14 h3 63 _) := ⟨hk, fun hx => by have := HS.out.at_.lt _ hx; omega⟩
  replace HS := Lib.hid hs
  clear hk hh hs hb
  have hy : w15.cell? ⟨h2, 511, none⟩ = some (.int .u8 98) := page_cell HKh2.out.bk F8.out
  have hz : w15.cell? ⟨h3, 0, none⟩ = some (.int .u8 98) := page_cell HKh3.out.bk F9.out
  go_wp2_with fail
  refine (wakes_any w15).mono ?_
  rintro e w16 ⟨rfl, hb⟩
  have HBZ : Hid (Below w.heap.size w w16) := HS.out.below.trans (hb.mono HS.out.below.size)
  clear hb
  go_wp2_with fail
  go_ret
  exact ⟨rfl, HBZ.out⟩

set_option maxRecDepth 100000 in
theorem lifted (os : Os) (started : os.Started) (H : Type) (enc : TypeId × Value → H) :
    ReturnsInHanded {} Try.checked os 7 .any (Rows.diskKnownSpec.pre6 enc Try.prog Try.f7 Rows.diskKnownRow.domain false) (Rows.diskKnownSpec.post enc Try.prog Try.f7 false true false false) := by
  refine returnsInHanded_of_change (C := Try.checked) own started (by kernel_rfl) Try.func7
    (ChangeSpec.witness6 (enc := enc) (C := Try.checked) false ⟨#[], #[], []⟩ 8 (by kernel_rfl) (by kernel_rfl) (by kernel_rfl) (by kernel_rfl)) ?_
  intro W base args ds gs before hval0 hW hcnd _
  have hW' := hW
  obtain ⟨p, q, hA0, hV, rfl, hfz, hnd⟩ := hW
  have hA : DataW.TrodAll enc Try.prog W 0 (fun _ => true) true Try.f7.params.toList args.toList ds p := hA0
  rw [Try.params7] at hA
  obtain ⟨rfl, rfl, rfl⟩ := trodAll_none hA
  obtain ⟨rfl, rfl⟩ := trodVars_none hV

  refine (walk W).mono fun e W' ⟨he, hb⟩ => ?_
  subst he
  exact ⟨_, rfl, post_true laidOut (by kernel_rfl) ty_bool (by kernel_rfl) rfl hW' hb rfl⟩

theorem over : Rows.diskKnownRow.holds Try.pinned (OpenSpec.ofChange Rows.diskKnownSpec) :=
  OpenClaim.holds_of_wide 7 Try.f7 rfl rfl rfl rfl rfl rfl rfl ⟨rfl, rfl, rfl, rfl, rfl⟩ rfl rfl rfl rfl rfl (by kernel_rfl) Try.func7 (by kernel_rfl)
    (of_decide_eq_true (by kernel_rfl)) (by unfold Func.isWrapper; first | (rw [if_pos (by decide +kernel)]; kernel_rfl) | (rw [if_neg (by decide +kernel)]; exact ⟨rfl, rfl⟩))
    (fun os started H enc _ => lifted os started H enc)

theorem proved : Rows.DiskKnownSaid :=
  over
end Go.Proofs.YtjfoihbcieffdaaR.diskKnown
