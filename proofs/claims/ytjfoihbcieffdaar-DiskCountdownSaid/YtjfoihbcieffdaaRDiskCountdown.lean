/- DiskCountdown: just as many calls are done as the countdown says, whichever of Write and Sync they are; refused ones do not count; what finds no power changes nothing. For every input the call returns true, and each argument reads afterwards as it read before. No conditions. -/
import Derived.Test.YtjfoihbcieffdaaRDiskWakes
namespace Go.Proofs.YtjfoihbcieffdaaR.diskCountdown
open Go.ChangeShapes Go.WideShapes Go.ChangeAt Go.RowKit Disk

/-- Where the countdown stands. -/
structure Cd (d : DK) (left : Int) (m : Nat) : Prop where
  dead : d.dead = false
  left : d.left = left
  pages : d.pages.length = 2
  row : d.row.length ≤ m
theorem Cd.at_ {d : DK} {l : Int} {m : Nat} (h : Cd d l m) (k : Int) : d.faultAt k = if k < 0 ∨ 2 ≤ k then 1 else 0 := by
  unfold DK.faultAt
  rw [h.dead, h.pages, if_neg (by decide)]
  rfl
theorem Cd.far {d : DK} {l : Int} {m : Nat} (h : Cd d l m) (b : List UInt8) : d.write 2 b = (1, d) := by
  unfold DK.write
  have h1 := h.at_ 2
  rw [if_pos (by decide)] at h1
  rw [h1, if_pos (by decide)]
theorem Cd.short {d : DK} {l : Int} {m : Nat} (h : Cd d l m) : d.write 0 [] = (1, d) := by
  unfold DK.write
  have h1 := h.at_ 0
  rw [if_neg (by decide)] at h1
  rw [if_neg (by rw [h1]; decide), if_pos (by decide)]
theorem Cd.burn_ {d : DK} {l : Int} {m : Nat} (h : Cd d l m) (hl : 0 < l) : d.burn = (0, { d with left := l - 1 }) := by
  unfold DK.burn
  rw [h.left, if_neg (by omega), if_pos hl]
theorem Cd.sync {d : DK} {l : Int} {m : Nat} (h : Cd d l m) (hl : 0 < l) : d.sync.1 = 0 ∧ Cd d.sync.2 (l - 1) (m + 1) := by
  unfold DK.sync
  rw [if_neg (by rw [h.dead]; decide), h.burn_ hl, if_neg (by simp)]
  exact ⟨rfl, h.dead, rfl, by show (lay _ _ _ _).length = 2; rw [lay_length]; exact h.pages, Nat.zero_le _⟩
theorem Cd.write {d : DK} {l : Int} {m : Nat} (h : Cd d l m) (hl : 0 < l) (b : List UInt8) (hb : b.length = 512) : (d.write 1 b).1 = 0 ∧ Cd (d.write 1 b).2 (l - 1) (m + 1) := by
  have h1 := h.at_ 1
  rw [if_neg (by decide)] at h1
  unfold DK.write
  rw [if_neg (by rw [h1]; decide), if_neg (by rw [hb]; decide), h.burn_ hl, if_neg (by simp)]
  refine ⟨rfl, h.dead, rfl, h.pages, ?_⟩
  have := h.row
  show (d.row ++ _).length ≤ m + 1
  rw [List.length_append, List.length_cons, List.length_nil]
  omega
theorem Cd.end_ {d : DK} {m : Nat} (h : Cd d 0 m) : d.sync = (9, { d with dead := true }) := by
  unfold DK.sync
  have hb : d.burn = (9, { d with dead := true }) := by unfold DK.burn; rw [h.left, if_pos rfl]
  rw [if_neg (by rw [h.dead]; decide), hb, if_pos (by simp)]
theorem dead_at (d : DK) (k : Int) : ({ d with dead := true } : DK).faultAt k = 9 := by unfold DK.faultAt; exact if_pos rfl
theorem dead_write (d : DK) (k : Int) (b : List UInt8) : ({ d with dead := true } : DK).write k b = (9, { d with dead := true }) := by
  unfold DK.write
  rw [dead_at, if_pos (by decide)]
theorem Cd.new (k : Nat) : Cd ((DK.new 2).fuse k) (k : Int) 0 := by
  unfold DK.fuse
  rw [if_neg (by decide)]
  exact ⟨rfl, rfl, rfl, Nat.le_refl _⟩
def RelC (w : World) (k g : Nat) (i : Value) (wr : World) : Prop := ∃ (m : Nat) (X : Nat → Prop) (d : DK), m ≤ k ∧ i = .int .i64 (m : Int) ∧ St w wr X g d ∧ Cd d ((k : Int) - m) m
set_option maxRecDepth 100000 in
set_option maxHeartbeats 2000000 in
theorem walk (n s : Nat) (hn : n < 256) (_ : s < 18446744073709551616) (w : World) : Calls Try.prog 5 #[.int .u8 (n : Int), .int .u64 (s : Int)] w fun e w' => e = .returned (.bool true) ∧ Below w.heap.size w w' := by
  obtain ⟨k, hk, hk40⟩ : ∃ k : Nat, (n : Int) % 40 = (k : Int) ∧ k < 40 := ⟨n % 40, by omega, by omega⟩
  go_enter Try.func5, Try.ntmps5
  go_wp2_with fail
  have cn : Calls Try.prog 10 #[.int .i64 2] w (NewSt 2 w w) := new_st 2 w w (by omega) (by omega) (Below.refl _ _)
  refine cn.mono ?_
  clear cn
  rintro e w1 ⟨g, X1, rfl, hs, -, -⟩
  have HS := Lib.hid hs
  clear hs
  go_wp2_with fail
  have cw := fuse_st HS.out (k : Int) (by omega) (by omega)
  refine cw.mono ?_
  clear cw
  rintro e w2 ⟨rfl, X2, hs, ho, hx⟩
  have HS2 := Lib.hid hs
  clear hs ho hx HS
  go_wp2_with fail
  go_loopw [8] (fun i wr => RelC w k g i wr) (fun i _ => k - (intOf i).toNat)
  case atStart => exact ⟨0, X2, _, Nat.zero_le _, rfl, HS2.out, by have := Cd.new k; simpa using this⟩
  case round =>
    obtain ⟨m, X, d, hm, rfl, hst, hcd⟩ := hrel
    have HS := Lib.hid hst
    have HC := Lib.hid hcd
    clear hst hcd
    by_cases hlt : m < k
    · go_wp2_with fail
      have cs : Calls Try.prog 19 #[.int .u8 1, .int .u8 0] wr (SheetPost 1 0 wr) := sheet_any 1 0 wr
      refine cs.mono ?_
      clear cs
      rintro e w11 ⟨gs11, cs11, rfl, ho, hb, hg, hl⟩
      have HO11 := Lib.hid ho
      have HR11 := Lib.hid (Rd.of_own' ho)
      have HX11 : Hid (¬ X gs11) := fun hx => by
        have := HS.out.at_.lt _ hx
        omega
      have HL11 := Lib.hid hl
      replace HS := Lib.hid (HS.out.below_ hb)
      clear ho hb hg hl
      go_wp2_with fail
      have cw := write_st HS.out 2 (some ⟨gs11, 0, none⟩) 512 cs11 (sheet 1 0) HR11.out (fun a ha hx => by injection ha with ha; subst ha; exact HX11.out hx) (by omega) (by have := HC.out.row; omega)
      rw [HC.out.far] at cw
      refine cw.mono ?_
      clear cw
      rintro e w12 ⟨rfl, X12, hs, ho, hx⟩
      replace HS : Hid (St w w12 X12 g (d)) := hs
      clear hs ho hx
      go_wp2_with fail
      have cw := write_st HS.out 0 none 0 0 [] (Rd.nil_ _ _) (fun a ha => (nomatch ha)) (by omega) (by have := HC.out.row; omega)
      rw [HC.out.short] at cw
      refine cw.mono ?_
      clear cw
      rintro e w13 ⟨rfl, X13, hs, ho, hx⟩
      replace HS : Hid (St w w13 X13 g (d)) := hs
      clear hs ho hx
      go_wp2_with fail
      have cw := dead_any HS.out.at_
      rw [HC.out.dead] at cw
      refine cw.mono ?_
      clear cw
      rintro e w' ⟨rfl, rfl⟩
      by_cases hq : (bits .and .u64 ((s : Int) / 2 ^ m) 1 == 1) = true
      · have hlm : (k : Int) - m - 1 = (k : Int) - ((m + 1 : Nat) : Int) := by omega
        have hcd := HC.out.sync (by omega)
        rw [hlm] at hcd
        have w1 : wrap64 ((m : Int) + 1) = (m : Int) + 1 := IntWalk.wrap64_in _ (by omega)
        have HCD := Lib.hid hcd.2
        have HZ := Lib.hid hcd.1
        clear hcd hlm
        go_wp2_with fail
        have cw := sync_st HS.out (by have := HC.out.row; omega)
        rw [HZ.out] at cw
        refine cw.mono ?_
        clear cw
        rintro e w21 ⟨rfl, X21, hs, ho, hx⟩
        replace HS : Hid (St w w21 X21 g (d.sync.2)) := hs
        clear hs ho hx
        go_wp2_with fail
        exact ⟨⟨m + 1, _, _, by omega, rfl, HS.out, HCD.out⟩, by simp [intOf]; omega⟩
      · have hq : (bits .and .u64 ((s : Int) / 2 ^ m) 1 == 1) = false := by simpa using hq
        have hm8 : ((UInt8.ofNat m).toNat : Int) = (m : Int) := by rw [UInt8.toNat_ofNat_of_lt' (by show m < 256; omega)]
        have hlm : (k : Int) - m - 1 = (k : Int) - ((m + 1 : Nat) : Int) := by omega
        have hcd := HC.out.write (by omega) (sheet (UInt8.ofNat m) 0) (sheet_length _ _)
        rw [hlm] at hcd
        have w1 : wrap64 ((m : Int) + 1) = (m : Int) + 1 := IntWalk.wrap64_in _ (by omega)
        have HCD := Lib.hid hcd.2
        have HZ := Lib.hid hcd.1
        clear hcd hlm
        go_wp2_with fail
        have cs : Calls Try.prog 19 #[.int .u8 (m : Int), .int .u8 0] w13 (SheetPost (UInt8.ofNat m) 0 w13) := by
          rw [← hm8]
          exact sheet_any (UInt8.ofNat m) 0 w13
        refine cs.mono ?_
        clear cs
        rintro e w21 ⟨gs21, cs21, rfl, ho, hb, hg, hl⟩
        have HO21 := Lib.hid ho
        have HR21 := Lib.hid (Rd.of_own' ho)
        have HX21 : Hid (¬ X13 gs21) := fun hx => by
          have := HS.out.at_.lt _ hx
          omega
        have HL21 := Lib.hid hl
        replace HS := Lib.hid (HS.out.below_ hb)
        clear ho hb hg hl
        go_wp2_with fail
        have cw := write_st HS.out 1 (some ⟨gs21, 0, none⟩) 512 cs21 (sheet (UInt8.ofNat m) 0) HR21.out (fun a ha hx => by injection ha with ha; subst ha; exact HX21.out hx) (by omega) (by have := HC.out.row; omega)
        rw [HZ.out] at cw
        refine cw.mono ?_
        clear cw
        rintro e w22 ⟨rfl, X22, hs, ho, hx⟩
        replace HS : Hid (St w w22 X22 g ((d.write 1 (sheet (UInt8.ofNat m) 0)).2)) := hs
        clear hs ho hx
        go_wp2_with fail
        exact ⟨⟨m + 1, _, _, by omega, rfl, HS.out, HCD.out⟩, by simp [intOf]; omega⟩
    · obtain rfl : m = k := by omega
      have hl0 : (m : Int) - m = 0 := by omega
      have hcd := HC.out
      rw [hl0] at hcd
      replace HC := Lib.hid hcd
      clear hcd hl0
      go_wp2_with fail
      have cw := waiting_any HS.out.at_
      refine cw.mono ?_
      clear cw
      rintro e w' ⟨rfl, rfl⟩
      go_wp2_with fail
      have cw := sync_st HS.out (by have := HC.out.row; omega)
      rw [HC.out.end_] at cw
      refine cw.mono ?_
      clear cw
      rintro e w31 ⟨rfl, X31, hs, ho, hx⟩
      replace HS : Hid (St w w31 X31 g ({ d with dead := true })) := hs
      clear hs ho hx
      go_wp2_with fail
      have cw : Calls Try.prog 17 #[.pointer (some ⟨g, 0, none⟩), .int .i64 0] w31 _ := read_no HS.out.at_ 0 (by rw [dead_at]; decide)
      rw [dead_at] at cw
      refine cw.mono ?_
      clear cw
      rintro e w' ⟨rfl, rfl⟩
      go_wp2_with fail
      have cw := dead_any HS.out.at_
      refine cw.mono ?_
      clear cw
      rintro e w' ⟨rfl, rfl⟩
      go_wp2_with fail
      have cw := waiting_any HS.out.at_
      refine cw.mono ?_
      clear cw
      rintro e w' ⟨rfl, rfl⟩
      go_wp2_with fail
      have cs : Calls Try.prog 19 #[.int .u8 1, .int .u8 0] w31 (SheetPost 1 0 w31) := sheet_any 1 0 w31
      refine cs.mono ?_
      clear cs
      rintro e w32 ⟨gs32, cs32, rfl, ho, hb, hg, hl⟩
      have HO32 := Lib.hid ho
      have HR32 := Lib.hid (Rd.of_own' ho)
      have HX32 : Hid (¬ X31 gs32) := fun hx => by
        have := HS.out.at_.lt _ hx
        omega
      have HL32 := Lib.hid hl
      replace HS := Lib.hid (HS.out.below_ hb)
      clear ho hb hg hl
      go_wp2_with fail
      have cw := write_st HS.out 0 (some ⟨gs32, 0, none⟩) 512 cs32 (sheet 1 0) HR32.out (fun a ha hx => by injection ha with ha; subst ha; exact HX32.out hx) (by omega) (by have := HC.out.row; show d.row.length ≤ 1000000; omega)
      rw [dead_write] at cw
      refine cw.mono ?_
      clear cw
      rintro e w33 ⟨rfl, X33, hs, ho, hx⟩
      replace HS : Hid (St w w33 X33 g ({ d with dead := true })) := hs
      clear hs ho hx
      go_wp2_with fail
      refine (wakes_any w33).mono ?_
      rintro e w34 ⟨rfl, hb⟩
      have HBZ : Hid (Below w.heap.size w w34) := HS.out.below.trans (hb.mono HS.out.below.size)
      clear hb
      go_wp2_with fail
      go_ret
      exact ⟨rfl, HBZ.out⟩
section
variable {H : Type} {enc : TypeId × Value → H} {P : Program}
theorem open_u8n {t : TypeId} (ht : P.underlying t = some (.int .u8)) {w : World} {base b0 : Nat} {r : Reach} {spare : Nat → Bool} {held : Bool} {v : Value} {d : DataW H} {ps : List MemPlace}
    (hv : Value.okWide P w r b0 t v) (h : DataW.Trod enc P w base spare held t v d ps) : ∃ a : Nat, v = .int .u8 (a : Int) ∧ a < 256 := by
  obtain ⟨z, rfl, _, _, hw⟩ := open_int ht hv h
  have hb := bounds_u8 hw
  exact ⟨z.toNat, by congr 1; omega, by omega⟩
theorem open_u64 {t : TypeId} (ht : P.underlying t = some (.int .u64)) {w : World} {base b0 : Nat} {r : Reach} {spare : Nat → Bool} {held : Bool} {v : Value} {d : DataW H} {ps : List MemPlace}
    (hv : Value.okWide P w r b0 t v) (h : DataW.Trod enc P w base spare held t v d ps) : ∃ a : Nat, v = .int .u64 (a : Int) ∧ a < 18446744073709551616 := by
  obtain ⟨z, rfl, _, _, hw⟩ := open_int ht hv h
  simp [Lit.wf, IntKind.min, IntKind.max, IntKind.signed, IntKind.bits] at hw
  exact ⟨z.toNat, by congr 1; omega, by omega⟩
end

set_option maxRecDepth 100000 in
theorem lifted (os : Os) (started : os.Started) (H : Type) (enc : TypeId × Value → H) :
    ReturnsInHanded {} Try.checked os 5 .any (Rows.diskCountdownSpec.pre6 enc Try.prog Try.f5 Rows.diskCountdownRow.domain false) (Rows.diskCountdownSpec.post enc Try.prog Try.f5 false true false false) := by
  refine returnsInHanded_of_change (C := Try.checked) own started (by kernel_rfl) Try.func5
    (ChangeSpec.witness6 (enc := enc) (C := Try.checked) false ⟨#[], #[.int .u8 0, .int .u64 0], []⟩ 8 (by kernel_rfl) (by kernel_rfl) (by kernel_rfl) (by kernel_rfl)) ?_
  intro W base args ds gs before hval0 hW hcnd _
  have hval : ∀ (j : Nat) t v, Try.f5.params[j]? = some t → args[j]? = some v → Value.okWide Try.prog W .any base t v := hval0
  have hW' := hW
  obtain ⟨p, q, hA0, hV, rfl, hfz, hnd⟩ := hW
  have hA : DataW.TrodAll enc Try.prog W 0 (fun _ => true) true Try.f5.params.toList args.toList ds p := hA0
  rw [Try.params5] at hA hval
  obtain ⟨v0, v1, d0, d1, p0, p1, rfl, rfl, rfl, h0, h1⟩ := trodAll_two hA
  obtain ⟨rfl, rfl⟩ := trodVars_none hV
  obtain ⟨n, rfl, hn⟩ := open_u8n ty_byte (hval 0 _ v0 rfl rfl) h0
  obtain ⟨s, rfl, hs⟩ := open_u64 ty_u64 (hval 1 _ v1 rfl rfl) h1
  refine (walk n s hn hs W).mono fun e W' ⟨he, hb⟩ => ?_
  subst he
  exact ⟨_, rfl, post_true laidOut (by kernel_rfl) ty_bool (by kernel_rfl) rfl hW' hb rfl⟩

theorem over : Rows.diskCountdownRow.holds Try.pinned (OpenSpec.ofChange Rows.diskCountdownSpec) :=
  OpenClaim.holds_of_wide 5 Try.f5 rfl rfl rfl rfl rfl rfl rfl ⟨rfl, rfl, rfl, rfl, rfl⟩ rfl rfl rfl rfl rfl (by kernel_rfl) Try.func5 (by kernel_rfl)
    (of_decide_eq_true (by kernel_rfl)) (by unfold Func.isWrapper; first | (rw [if_pos (by decide +kernel)]; kernel_rfl) | (rw [if_neg (by decide +kernel)]; exact ⟨rfl, rfl⟩))
    (fun os started H enc _ => lifted os started H enc)

theorem proved : Rows.DiskCountdownSaid :=
  over
end Go.Proofs.YtjfoihbcieffdaaR.diskCountdown
