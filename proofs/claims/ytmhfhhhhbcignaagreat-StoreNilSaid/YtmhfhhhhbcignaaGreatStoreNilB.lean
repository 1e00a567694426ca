/- StoreNil: the calls of a nil disk and of a nil store, and that what is handed in is not kept and what is handed out is new memory: for every number and all bytes the call returns true, and nothing that was there has turned. No conditions. -/
import Derived.Test.YtmhfhhhhbcignaaGreatBase27
namespace Go.Proofs.YtmhfhhhhbcignaaGreat.storeNil
open Go.ChangeShapes Go.WideShapes Go.ChangeAt Go.RowKit Disk Log Sto

def kN (bs : List UInt8) : Kp := ⟨1, 1, [⟨1, 120 :: bs⟩]⟩
theorem nil_adopt {bs : List UInt8} (hb : bs.length ≤ 500) : ans (.adopt 1 [⟨1, 120 :: bs⟩]) Kp.zero (20 / 2) = 0 ∧ thn (.adopt 1 [⟨1, 120 :: bs⟩]) Kp.zero (20 / 2) = kN bs := by
  have a : (Deed.adopt 1 [⟨1, 120 :: bs⟩]).may Kp.zero = true := by
    refine may_adopt.2 ⟨by decide, by decide, by decide, by simp, fun x hx => ?_⟩
    rw [List.mem_singleton.1 hx]
    exact ⟨lineB_iff.2 ⟨Nat.le_refl _, by show 1 ≤ top; unfold top; omega, by simp, by simp; omega⟩, by show 1 ≤ _; omega⟩
  have b : fits ((Deed.adopt 1 [⟨1, 120 :: bs⟩]).run Kp.zero) (20 / 2) = true := by
    refine decide_eq_true ?_
    show 64 + lineSum [⟨1, 120 :: bs⟩] ≤ _
    simp [lineSum]
    omega
  exact ⟨by unfold ans; rw [if_pos a, if_pos b], by unfold thn; rw [if_pos ⟨a, b⟩]; rfl⟩
set_option maxRecDepth 100000 in
set_option maxHeartbeats 4000000 in
theorem walk (e : Nat) (A : Option Addr) (m c : Nat) (bs : List UInt8) (w : World) (_he : e < 18446744073709551616) (hr : Rd w A m bs) : Calls Tryz.prog 6 #[.int .u64 (e : Int), .slice A m c] w fun r w' => r = .returned (.bool true) ∧ Below w.heap.size w w' := by
  by_cases h3 : 500 < m
  · have h3' : (500 : Int) < (m : Int) := by omega
    go_enter Tryz.func6, Tryz.ntmps6
    go_wp2_with fail
    go_ret
    exact ⟨rfl, Below.refl _ _⟩
  have h3' : ¬ (500 : Int) < (m : Int) := by omega
  have hm5 : bs.length ≤ 500 := by rw [hr.len]; omega
  have hml : m = bs.length := hr.len.symm
  obtain ⟨i0, hi, hz0, hz1, hz2⟩ := info_parts info_byte
  have HI := Lib.hid hi
  have HZ0 := Lib.hid hz0
  have HZ1 := Lib.hid hz1
  have HZ2 := Lib.hid hz2
  have HR := Lib.hid hr
  have HML := Lib.hid hml
  clear hi hz0 hz1 hz2 hr hml
  go_enter Tryz.func6, Tryz.ntmps6
  go_wp2_with fail
  refine (sopen_nil w).mono ?_
  rintro e0 w0 ⟨rfl, rfl⟩
  go_wp2_with fail
  refine (kept_nil w).mono ?_
  rintro e0 wk ⟨A0, c0, rfl, -, hb⟩
  have HBK := Lib.hid hb
  clear hb
  rw [show kpV Kp.zero A0 c0 = .agg #[.int .u64 0, .int .u64 0, .slice A0 0 c0] from rfl]
  obtain ⟨W, hW⟩ : ∃ W, W = wk.alloc (.cells #[.int .u64 0, .int .u64 0, .slice A0 0 c0] 51) := ⟨_, rfl⟩
  have hbw : Below wk.heap.size wk W := by rw [hW]; exact (Below.refl _ _).alloc (Nat.le_refl _) _
  have HBW := Lib.hid (HBK.out.trans (hbw.mono HBK.out.size))
  have HW := Lib.hid hW
  clear hW hbw
  go_wp2_with fail
  rw [← HW.out]
  refine (promise_nil e W).mono ?_
  rintro e0 w1 ⟨rfl, hb⟩
  have HB1 := Lib.hid (HBW.out.trans (hb.mono HBW.out.size))
  clear hb
  go_wp2_with fail
  refine (adopt_nil e w1).mono ?_
  rintro e0 w2 ⟨rfl, hb⟩
  have HB2 := Lib.hid (HB1.out.trans (hb.mono HB1.out.size))
  clear hb
  go_wp2_with fail
  refine (append_nil w2).mono ?_
  rintro e0 w3 ⟨rfl, hb⟩
  have HB3 := Lib.hid (HB2.out.trans (hb.mono HB2.out.size))
  clear hb
  go_wp2_with fail
  refine (Sto.dead_nil w3).mono ?_
  rintro e0 w4 ⟨rfl, rfl⟩
  have CN := Lib.hid (ds_new (w0 := w) (w := w3) (n := 20) (by decide) (by decide) HB3.out)
  clear HB1 HB2 HBK HBW HW
  go_wp2_with fail
  refine CN.out.mono ?_
  rintro e0 w4 ⟨gd, X, rfl, hd, hx, hb⟩
  have CO := Lib.hid (hd.open_ (by decide))
  clear hd hx hb CN HB3
  go_wp2_with fail
  refine CO.out.mono ?_
  rintro e0 w5 ⟨gs, Z, rfl, hs, -, -, -⟩
  have HS := Lib.hid hs
  clear hs CO
  have HCV : Hid ((convert 57 57 (.slice (some ⟨w5.heap.size, 0, none⟩) 1 1)).run Tryz.prog (w5.alloc (.cells #[.int .u8 120] 5)) = .ok (.slice (some ⟨w5.heap.size, 0, none⟩) 1 1) (xW w5)) := Lib.run_convert_bytes_const w5 _ _ #[.int .u8 120] 1 1 ty_bytes ty_byte
  have HRa := HR.out.below (HS.out.below.trans ((xW_below w5).mono HS.out.below.size))
  obtain ⟨g, cap, w6, hrun, hb6, hg5, hg6, hcap, hr6, hf6⟩ := x_append c HRa (by omega)
  have HRUN := Lib.hid hrun
  have hcv := HCV.out
  clear hrun
  go_wp2_with (at_builtin; refine Lib.wpList_append_run _ rfl _ _ _ _ rfl _ _ rfl rfl _ _ HRUN.out ?_)
  obtain ⟨W7, hW7⟩ : ∃ W7, W7 = w6.alloc (.cells #[.int .u64 1, .slice (some ⟨g, 0, none⟩) (m + 1) cap] 63) := ⟨_, rfl⟩
  have hb67 : Below w6.heap.size w6 W7 := by rw [hW7]; exact (Below.refl _ _).alloc (Nat.le_refl _) _
  have hb7 : Below w5.heap.size w5 W7 := hb6.trans (hb67.mono hb6.size)
  have hs7 : W7.heap.size = w6.heap.size + 1 := by rw [hW7]; simp
  have hr7 : Rd W7 (some ⟨g, 0, none⟩) (m + 1) (120 :: bs) := hr6.below hb67
  have hl7 : LnS (fun b => w5.heap.size ≤ b ∧ b < W7.heap.size) W7 (some ⟨w6.heap.size, 0, none⟩) 1 [⟨1, 120 :: bs⟩] := lns_one _ (by rw [hW7]; exact Bk.new w6 _ _) hcap hr7 ⟨hb6.size, by omega⟩ (fun a ha => by injection ha with ha; subst ha; exact ⟨hg5, by show g < _; omega⟩)
  have CA0 := (HS.out.below_ hb7).adopt (by decide) 1 [⟨1, 120 :: bs⟩] (by decide) _ 1 1 hl7 (laid_one (by decide) (by rw [List.length_cons]; omega)) (apart_new HS.out)
  rw [(nil_adopt hm5).1, (nil_adopt hm5).2] at CA0
  have CA := Lib.hid CA0
  have HR7 := Lib.hid hr7
  have HF7 : Hid (W7.frozen? ⟨g, 0, none⟩ = false) := (World.frozen?_of_block (a := ⟨g, 0, none⟩) (hb67.block g hg6)).trans hf6
  have HW7 := Lib.hid hW7
  have HG5 := Lib.hid hg5
  have HG6 : Hid (g < W7.heap.size) := by show _ < _; omega
  clear hb6 hr6 hf6 hb67 hb7 hs7 hr7 hl7 CA0 hW7 hg5 hg6 hcap HRa HCV HRUN hcv
  go_wp2_with fail
  rw [← HW7.out]
  refine CA.out.mono ?_
  rintro e0 w8 ⟨rfl, Z8, hs, hgr⟩
  have hZg : ¬ Z8 g := fun q => by
    have h5 := HG5.out
    have h6 := HG6.out
    rcases hgr.2 g q with r | r
    · have := HS.out.lt g r
      omega
    · omega
  have hgw : w.heap.size ≤ g := Nat.le_trans HS.out.below.size HG5.out
  have hnz : ¬ Z g := fun q => by have := HS.out.lt g q; have := HG5.out; omega
  have hblk := hgr.1.block g HG6.out hnz
  have hc8 : w8.cell? ⟨g, 0, none⟩ = some (.int .u8 120) := by
    obtain ⟨ad, hA, hc⟩ := HR7.out.cells (by omega)
    injection hA with hA
    subst hA
    exact (World.cell?_of_block (w := W7) hblk).trans (hc 0 120 rfl)
  have hf8 : w8.frozen? ⟨g, 0, none⟩ = false := (World.frozen?_of_block (a := ⟨g, 0, none⟩) hblk).trans HF7.out
  have HS9 := Lib.hid (hs.out (Out.setCell (X := (· = g)) w8 (p := ⟨g, 0, none⟩) rfl (.int .u8 121)) (fun b hb => by rw [hb]; exact ⟨hZg, hgw⟩))
  have CK := Lib.hid HS9.out.kept
  clear hs hgr hZg hgw CA HR7 HF7 hblk hnz HW7 HG5 HG6
  go_wp2_with fail
  refine CK.out.mono ?_
  rintro e0 wa ⟨A2, c2, rfl, hown, hb⟩
  obtain ⟨b, B, ca, rfl, hbb, hBB, hne, l0, l1, l2, f0, f1⟩ := own_one (e := 1) (y := 120) (bs := bs) hown
  rw [show kpV (kN bs) (some ⟨b, 0, none⟩) c2 = .agg #[.int .u64 1, .int .u64 1, .slice (some ⟨b, 0, none⟩) 1 c2] from rfl]
  have hOS : Out (fun x => x = b ∨ x = B) wa ((wa.setCell ⟨B, 0, none⟩ (.int .u8 122)).setCell ⟨b, 0, none⟩ (.int .u64 9)) := (Out.setCell (X := fun x => x = b ∨ x = B) wa (p := ⟨B, 0, none⟩) (.inr rfl) (.int .u8 122)).trans (Out.setCell (X := fun x => x = b ∨ x = B) _ (p := ⟨b, 0, none⟩) (.inl rfl) (.int .u64 9)) fun _ q => .inl q
  have hZA : ∀ x, x = b ∨ x = B → ¬ Z8 x ∧ w.heap.size ≤ x := fun x hx => by
    have h9 := HS9.out.below.size
    have h10 := HS9.out.lt x
    rcases hx with rfl | rfl
    · exact ⟨fun q => by have := h10 q; omega, by omega⟩
    · exact ⟨fun q => by have := h10 q; omega, by omega⟩
  have hsA := ((HS9.out.below_ hb).out hOS hZA).below_ ((Below.refl _ _).alloc (Nat.le_refl _) (.cells #[.int .u64 1, .int .u64 1, .slice (some ⟨b, 0, none⟩) 1 c2] 51))
  have CK2 := Lib.hid hsA.kept
  have HBA := Lib.hid hsA.below
  rw [← HML.out] at l1
  have hb1 := hbb.2
  have hB1 := hBB.2
  have f0 := f0 0
  have f1 := f1 0
  have l0 : wa.cell? ⟨b, 0, none⟩ = some (.int .u64 1) := l0
  have l2 : wa.cell? ⟨B, 0, none⟩ = some (.int .u8 120) := l2
  clear hown hb hOS hZA hsA CK HS9 hf8 hc8 hbb hBB
  go_wp2_with fail
  refine CK2.out.mono ?_
  rintro e0 wl ⟨A3, c3, rfl, hown, hb⟩
  obtain ⟨b3, B3, ca3, rfl, hbb, hBB, -, k0, k1, k2, -, -⟩ := own_one (e := 1) (y := 120) (bs := bs) hown
  have HBL := Lib.hid (HBA.out.trans (hb.mono HBA.out.size))
  rw [show kpV (kN bs) (some ⟨b3, 0, none⟩) c3 = .agg #[.int .u64 1, .int .u64 1, .slice (some ⟨b3, 0, none⟩) 1 c3] from rfl]
  obtain ⟨WL, hWL⟩ : ∃ WL, WL = wl.alloc (.cells #[.int .u64 1, .int .u64 1, .slice (some ⟨b3, 0, none⟩) 1 c3] 51) := ⟨_, rfl⟩
  have HBW : Hid (Below wl.heap.size wl WL) := by show Below _ _ _; rw [hWL]; exact (Below.refl _ _).alloc (Nat.le_refl _) _
  have HWL := Lib.hid hWL
  have hb3 := hbb.2
  have hB3 := hBB.2
  rw [← HML.out] at k1
  have k0 : wl.cell? ⟨b3, 0, none⟩ = some (.int .u64 1) := k0
  have k2 : wl.cell? ⟨B3, 0, none⟩ = some (.int .u8 120) := k2
  clear hown hb hWL CK2 HBA hbb hBB f0 f1 l0 l1 l2 hne hb1 hB1
  go_wp2_with fail
  rw [← HWL.out]
  refine (keeps_any WL).mono ?_
  rintro e0 w9 ⟨rfl, hb⟩
  have HB9 := Lib.hid ((HBL.out.trans (HBW.out.mono HBL.out.size)).trans (hb.mono (Nat.le_trans HBL.out.size HBW.out.size)))
  clear hb
  go_wp2_with fail
  go_ret
  exact ⟨rfl, HB9.out⟩

set_option maxRecDepth 100000 in
theorem lifted (os : Os) (started : os.Started) (H : Type) (enc : TypeId × Value → H) :
    ReturnsInHanded {} Tryz.checked os 6 .any (Rows.storeNilSpec.pre6 enc Tryz.prog Tryz.f6 Rows.storeNilRow.domain false) (Rows.storeNilSpec.post enc Tryz.prog Tryz.f6 false true false false) := by
  refine returnsInHanded_of_change (C := Tryz.checked) own started (by kernel_rfl) Tryz.func6
    (ChangeSpec.witness6 (enc := enc) (C := Tryz.checked) false ⟨#[], #[.int .u64 0, .slice none 0 0], []⟩ 8 (by kernel_rfl) (by kernel_rfl) (by kernel_rfl) (by kernel_rfl)) ?_
  intro W base args ds gs before hval0 hW hcnd _
  have hval : ∀ (j : Nat) t v, Tryz.f6.params[j]? = some t → args[j]? = some v → Value.okWide Tryz.prog W .any base t v := hval0
  have hW' := hW
  obtain ⟨p, q, hA0, hV, rfl, hfz, hnd⟩ := hW
  have hA : DataW.TrodAll enc Tryz.prog W 0 (fun _ => true) true Tryz.f6.params.toList args.toList ds p := hA0
  rw [Tryz.params6] at hA hval
  obtain ⟨v0, v1, d0, d1, p0, p1, rfl, rfl, rfl, h0, h1⟩ := trodAll_two hA
  obtain ⟨rfl, rfl⟩ := trodVars_none hV
  obtain ⟨z, rfl, _, _, hw⟩ := open_int (show Tryz.prog.underlying 32 = some (.int .u64) by kernel_rfl) (hval 0 _ v0 rfl rfl) h0
  simp [Lit.wf, IntKind.min, IntKind.max, IntKind.signed, IntKind.bits] at hw
  obtain ⟨e, rfl⟩ : ∃ e : Nat, z = (e : Int) := ⟨z.toNat, by omega⟩
  obtain ⟨A, m, c, bs, rfl, _, _, hr⟩ := open_bytes ty_bytes ty_byte cells_byte (hval 1 _ v1 rfl rfl) h1
  refine (walk e A m c bs W (by omega) hr).mono fun e W' ⟨he, hb⟩ => ?_
  subst he
  exact ⟨_, rfl, post_true laidOut (by kernel_rfl) ty_bool (by kernel_rfl) rfl hW' hb rfl⟩

theorem over : Rows.storeNilRow.holds Tryz.pinned (OpenSpec.ofChange Rows.storeNilSpec) :=
  OpenClaim.holds_of_wide 6 Tryz.f6 rfl rfl rfl rfl rfl rfl rfl ⟨rfl, rfl, rfl, rfl, rfl⟩ rfl rfl rfl rfl rfl (by kernel_rfl) Tryz.func6 (by kernel_rfl)
    (of_decide_eq_true (by kernel_rfl)) (by unfold Func.isWrapper; first | (rw [if_pos (by decide +kernel)]; kernel_rfl) | (rw [if_neg (by decide +kernel)]; exact ⟨rfl, rfl⟩))
    (fun os started H enc _ => lifted os started H enc)

theorem proved : Rows.StoreNilSaid :=
  over
end Go.Proofs.YtmhfhhhhbcignaaGreat.storeNil
