/- DiskNil: of nil, each call answers so; what is handed in is not kept, what is handed out is no part of the disk. For every input the call returns true, and each argument reads afterwards as it read before. No conditions. -/
import Derived.Test.YtjfoihbcieffdaaRDiskWakes
namespace Go.Proofs.YtjfoihbcieffdaaR.diskNil
open Go.ChangeShapes Go.WideShapes Go.ChangeAt Go.RowKit Disk

/-- A block beside the disk's. -/
structure Apart (w : World) (X : Nat → Prop) (h : Nat) (t : TypeId) (cs : Array Value) : Prop where
  bk : Bk w h t cs
  no : ¬ X h
theorem Apart.below_ {w w' : World} {X : Nat → Prop} {h : Nat} {t : TypeId} {cs : Array Value} (a : Apart w X h t cs) (hb : Below w.heap.size w w') : Apart w' X h t cs := ⟨a.bk.below hb, a.no⟩
theorem Apart.step {w w' : World} {X X' : Nat → Prop} {h : Nat} {t : TypeId} {cs : Array Value} (a : Apart w X h t cs) (ho : Out X w w') (hx : ∀ k, X' k → X k ∨ w.heap.size ≤ k) : Apart w' X' h t cs :=
  ⟨a.bk.kept (ho.block h a.bk.lt a.no), fun h' => (hx h h').elim a.no (fun h2 => by have := a.bk.lt; omega)⟩

theorem write_nil (k : Int) (A : Option Addr) (n c : Nat) (w : World) : Calls Try.prog 24 #[.pointer none, .int .i64 k, .slice A n c] w (Ans (.int .i64 8) w) := by
  go_enter Try.func24, Try.ntmps24
  go_wp2_with fail
  refine (faultAt_nil k w).mono ?_
  rintro e w1 ⟨rfl, rfl⟩
  go_wp2_with fail
  go_ret
  exact ⟨rfl, rfl⟩
theorem stepN_zero (b : UInt8) : ∀ n, stepN b 0 n = b
  | 0 => rfl
  | n + 1 => by rw [stepN_succ, stepN_zero b n, UInt8.add_zero]
theorem sheetN_get (b : UInt8) : ∀ (n i : Nat), i < n → (sheetN b 0 n)[i]? = some b
  | 0, _, h => by omega
  | n + 1, 0, _ => rfl
  | n + 1, i + 1, h => by
    rw [sheetN, UInt8.add_zero, List.getElem?_cons_succ]
    exact sheetN_get b n i (by omega)
theorem St.cell {w0 w : World} {X : Nat → Prop} {g : Nat} {d : DK} (h : St w0 w X g d) {a : Nat} (ha : ¬ X a) (h0 : w0.heap.size ≤ a) (i : Nat) (u : Value) : St w0 (w.setCell ⟨a, i, none⟩ u) X g d := by
  have ho := Out.setCell (X := (· = a)) w (p := ⟨a, i, none⟩) rfl u
  exact ⟨h.at_.out ho (fun k hk e => ha (e ▸ hk)), ho.below h.below (fun k e => e ▸ h0) h.below.size, h.own⟩
def d2 (b : UInt8) : DK := ((DK.new 1).write 0 (sheet b 0)).2
theorem d2_eq (b : UInt8) : (DK.new 1).write 0 (sheet b 0) = (0, ⟨(DK.new 1).pages, [(0, sheet b 0)], false, -1⟩) := by
  have hl := sheet_length b 0
  have hf : (DK.new 1).faultAt 0 = 0 := rfl
  have hb : (DK.new 1).burn = (0, DK.new 1) := rfl
  unfold DK.write
  rw [if_neg (by rw [hf]; decide), if_neg (by rw [hl]; decide), hb, if_neg (by decide)]
  rfl
theorem d2_ok (b : UInt8) : ((DK.new 1).write 0 (sheet b 0)).1 = 0 := by rw [d2_eq]
theorem d2_row (b : UInt8) : (d2 b).row.length = 1 := by unfold d2; rw [d2_eq]; rfl
theorem d2_at (b : UInt8) : (d2 b).faultAt 0 = 0 := by unfold d2; rw [d2_eq]; rfl
theorem d2_seen (b : UInt8) : (d2 b).seen 0 = sheet b 0 := by unfold d2; rw [d2_eq]; rfl
set_option maxRecDepth 100000 in
set_option maxHeartbeats 2000000 in
theorem walk (b : UInt8) (w : World) : Calls Try.prog 6 #[U b] w fun e w' => e = .returned (.bool true) ∧ Below w.heap.size w w' := by
  have F1 := Lib.hid (d2_ok b)
  have F2 := Lib.hid (d2_row b)
  have F3 := Lib.hid (d2_at b)
  have F4 := Lib.hid (d2_seen b)
  have R0 : Hid ((DK.new 1).row.length = 0) := rfl
  unfold U
  go_enter Try.func6, Try.ntmps6
  go_wp2_with fail
  refine (fuse_nil 0 w).mono ?_
  rintro e w ⟨rfl, rfl⟩
  go_wp2_with fail
  refine (kill_nil w).mono ?_
  rintro e w ⟨rfl, rfl⟩
  go_wp2_with fail
  refine (restart_nil none 0 0 w).mono ?_
  rintro e w ⟨rfl, rfl⟩
  go_wp2_with fail
  refine (read_nil 0 w).mono ?_
  rintro e w ⟨rfl, rfl⟩
  go_wp2_with fail
  refine (write_nil 0 none 0 0 w).mono ?_
  rintro e w ⟨rfl, rfl⟩
  go_wp2_with fail
  refine (sync_nil w).mono ?_
  rintro e w ⟨rfl, rfl⟩
  go_wp2_with fail
  refine (dead_nil w).mono ?_
  rintro e w ⟨rfl, rfl⟩
  go_wp2_with fail
  refine (size_nil w).mono ?_
  rintro e w ⟨rfl, rfl⟩
  go_wp2_with fail
  refine (waiting_nil w).mono ?_
  rintro e w ⟨rfl, rfl⟩
  go_wp2_with fail
  have cn : Calls Try.prog 10 #[.int .i64 1] w (NewSt 1 w w) := new_st 1 w w (by omega) (by omega) (Below.refl _ _)
  refine cn.mono ?_
  clear cn
  rintro e w1 ⟨g, X1, rfl, hs, -, -⟩
  have HS := Lib.hid hs
  have HBW : Hid (Below w.heap.size w w1) := hs.below
  clear hs
  go_wp2_with fail
  have cs : Calls Try.prog 19 #[.int .u8 (b.toNat : Int), .int .u8 0] w1 (SheetPost b 0 w1) := sheet_any b 0 w1
  refine cs.mono ?_
  clear cs
  rintro e w2 ⟨gs2, cs2, rfl, ho, hb, hg, hl⟩
  have HO2 := Lib.hid ho
  have HR2 := Lib.hid (Rd.of_own' ho)
  have HX2 : Hid (¬ X1 gs2) := fun hx => by
    have := HS.out.at_.lt _ hx
    omega
  have HL2 := Lib.hid hl
  replace HS := Lib.hid (HS.out.below_ hb)
  clear ho hb hg hl
  go_wp2_with fail
  have hform := HO2.out.2
  obtain ⟨cur, hcur, h3⟩ : ∃ cur, Bk w2 gs2 5 cur ∧ cur[3]? = some (.int .u8 (b.toNat : Int)) := by
    rcases hform with ⟨h1, _⟩ | ⟨g', cap', cur, h1, _, hg, _, _, _, h7⟩
    · cases h1
    · injection h1 with e1
      injection e1 with e1
      injection e1 with e1
      subst e1
      refine ⟨cur, hg, ?_⟩
      have h8 : (cur.toList.take (512 * 1))[3]? = some (U b) := by
        rw [h7, List.getElem?_map]
        unfold sheet
        rw [sheetN_get b 512 3 (by omega)]
        rfl
      rw [List.getElem?_take, if_pos (by omega)] at h8
      have h9 : cur[3]? = some (U b) := by simpa using h8
      exact h9
  have HKx : Hid (Apart w2 X1 gs2 5 cur) := ⟨hcur, HX2.out⟩
  have HC3 := Lib.hid h3
  have HG0 : Hid (w.heap.size ≤ gs2) := by
    have := HO2.out.lt gs2 rfl
    have := HBW.out.size
    show _ ≤ _
    omega
  clear hform hcur h3
  have cw := write_st HS.out 0 (some ⟨gs2, 0, none⟩) 512 cs2 (sheet b 0) HR2.out (fun a ha hx => by injection ha with ha; subst ha; exact HX2.out hx) (by omega) (by rw [R0.out]; omega)
  rw [F1.out] at cw
  refine cw.mono ?_
  clear cw
  rintro e w3 ⟨rfl, X3, hs, ho, hx⟩
  replace HKx := Lib.hid (HKx.out.step ho hx)
  replace HS : Hid (St w w3 X3 g (d2 b)) := hs
  clear hs ho hx
  have hc3 : w3.cell? ⟨gs2, 3, none⟩ = some (.int .u8 (b.toNat : Int)) := by rw [HKx.out.bk.cell]; exact HC3.out
  have hf3 : w3.frozen? ⟨gs2, 3, none⟩ = false := HKx.out.bk.frozen 3
  have HSc := Lib.hid (fun u => St.cell HS.out HKx.out.no HG0.out 3 u)
  go_wp2_with fail
  clear hc3 hf3 HKx
  have hsn := HSc.out (.int .u8 (((b.toNat : Int) + 1) % 256))
  generalize w3.setCell ⟨gs2, 3, none⟩ (.int .u8 (((b.toNat : Int) + 1) % 256)) = wx at *
  replace HS := Lib.hid hsn
  clear hsn HSc
  have cw : Calls Try.prog 17 #[.pointer (some ⟨g, 0, none⟩), .int .i64 0] wx _ := read_st HS.out 0 F3.out (by rw [F2.out]; omega)
  refine cw.mono ?_
  clear cw
  rintro e w4 ⟨h2, rfl, hk, hh, hs, hb⟩
  have HG2 : Hid (w.heap.size ≤ h2) := Nat.le_trans HS.out.below.size hh
  have HKh2 : Hid (Apart w4 X3 h2 63 _) := ⟨hk, fun hx => by have := HS.out.at_.lt _ hx; omega⟩
  replace HS := Lib.hid hs
  clear hk hh hs hb
  have hy : ∀ i, i < 512 → w4.cell? ⟨h2, i, none⟩ = some (.int .u8 (b.toNat : Int)) := fun i hi => page_cell HKh2.out.bk (by rw [F4.out]; exact sheetN_get b 512 i hi)
  have hy3 := hy 3 (by omega)
  have hy4 := hy 4 (by omega)
  have hf4 : w4.frozen? ⟨h2, 4, none⟩ = false := HKh2.out.bk.frozen 4
  have HSc := Lib.hid (fun u => St.cell HS.out HKh2.out.no HG2.out 4 u)
  clear hy
  go_wp2_with fail
  clear hy3 hy4 hf4 HKh2
  have hsn := HSc.out (.int .u8 (((b.toNat : Int) + 1) % 256))
  generalize w4.setCell ⟨h2, 4, none⟩ (.int .u8 (((b.toNat : Int) + 1) % 256)) = wy at *
  replace HS := Lib.hid hsn
  clear hsn HSc
  have cw : Calls Try.prog 17 #[.pointer (some ⟨g, 0, none⟩), .int .i64 0] wy _ := read_st HS.out 0 F3.out (by rw [F2.out]; omega)
  refine cw.mono ?_
  clear cw
  rintro e w5 ⟨h4, rfl, hk, hh, hs, hb⟩
  have HKh4 : Hid (Apart w5 X3 h4 63 _) := ⟨hk, fun hx => by have := HS.out.at_.lt _ hx; omega⟩
  replace HS := Lib.hid hs
  clear hk hh hs hb
  have hz4 : w5.cell? ⟨h4, 4, none⟩ = some (.int .u8 (b.toNat : Int)) := page_cell HKh4.out.bk (by rw [F4.out]; exact sheetN_get b 512 4 (by omega))
  go_wp2_with fail
  refine (wakes_any w5).mono ?_
  rintro e w6 ⟨rfl, hb⟩
  have HBZ : Hid (Below w.heap.size w w6) := HS.out.below.trans (hb.mono HS.out.below.size)
  clear hb
  go_wp2_with fail
  go_ret
  exact ⟨rfl, HBZ.out⟩
section
variable {H : Type} {enc : TypeId × Value → H} {P : Program}
theorem open_u8 {t : TypeId} (ht : P.underlying t = some (.int .u8)) {w : World} {base b0 : Nat} {r : Reach} {spare : Nat → Bool} {held : Bool} {v : Value} {d : DataW H} {ps : List MemPlace}
    (hv : Value.okWide P w r b0 t v) (h : DataW.Trod enc P w base spare held t v d ps) : ∃ b : UInt8, v = U b := by
  obtain ⟨z, rfl, _, _, hw⟩ := open_int ht hv h
  have hb := bounds_u8 hw
  refine ⟨UInt8.ofNat z.toNat, ?_⟩
  unfold U
  congr 1
  simp
  omega
end

set_option maxRecDepth 100000 in
theorem lifted (os : Os) (started : os.Started) (H : Type) (enc : TypeId × Value → H) :
    ReturnsInHanded {} Try.checked os 6 .any (Rows.diskNilSpec.pre6 enc Try.prog Try.f6 Rows.diskNilRow.domain false) (Rows.diskNilSpec.post enc Try.prog Try.f6 false true false false) := by
  refine returnsInHanded_of_change (C := Try.checked) own started (by kernel_rfl) Try.func6
    (ChangeSpec.witness6 (enc := enc) (C := Try.checked) false ⟨#[], #[.int .u8 0], []⟩ 8 (by kernel_rfl) (by kernel_rfl) (by kernel_rfl) (by kernel_rfl)) ?_
  intro W base args ds gs before hval0 hW hcnd _
  have hval : ∀ (j : Nat) t v, Try.f6.params[j]? = some t → args[j]? = some v → Value.okWide Try.prog W .any base t v := hval0
  have hW' := hW
  obtain ⟨p, q, hA0, hV, rfl, hfz, hnd⟩ := hW
  have hA : DataW.TrodAll enc Try.prog W 0 (fun _ => true) true Try.f6.params.toList args.toList ds p := hA0
  rw [Try.params6] at hA hval
  obtain ⟨v0, d0, rfl, rfl, h0⟩ := trodAll_one hA
  obtain ⟨rfl, rfl⟩ := trodVars_none hV
  obtain ⟨b, rfl⟩ := open_u8 ty_byte (hval 0 _ v0 rfl rfl) h0
  refine (walk b W).mono fun e W' ⟨he, hb⟩ => ?_
  subst he
  exact ⟨_, rfl, post_true laidOut (by kernel_rfl) ty_bool (by kernel_rfl) rfl hW' hb rfl⟩

theorem over : Rows.diskNilRow.holds Try.pinned (OpenSpec.ofChange Rows.diskNilSpec) :=
  OpenClaim.holds_of_wide 6 Try.f6 rfl rfl rfl rfl rfl rfl rfl ⟨rfl, rfl, rfl, rfl, rfl⟩ rfl rfl rfl rfl rfl (by kernel_rfl) Try.func6 (by kernel_rfl)
    (of_decide_eq_true (by kernel_rfl)) (by unfold Func.isWrapper; first | (rw [if_pos (by decide +kernel)]; kernel_rfl) | (rw [if_neg (by decide +kernel)]; exact ⟨rfl, rfl⟩))
    (fun os started H enc _ => lifted os started H enc)

theorem proved : Rows.DiskNilSaid :=
  over
end Go.Proofs.YtjfoihbcieffdaaR.diskNil
