/- WireBad: once a reader is bad all is 0, or nothing, and it stays so; a nil reader. For every input the call returns true, and each argument reads afterwards as it read before. No conditions. -/
import Derived.Test.YtjpiaeidaoklaaaAsks
namespace Go.Proofs.Ytjpiaeidaoklaaa.wireBad
open Go.ChangeShapes Go.WideShapes Go.ChangeAt Go.RowKit

theorem z0 : ((0 : Nat) : Int) = 0 := rfl
theorem w0 : wrap64 0 = 0 := IntWalk.wrap64_in 0 ⟨by omega, by omega⟩
theorem takeS_bad (k : Nat) (bs : List UInt8) : takeS k (bs, true) = ([], (bs, true)) := by simp [takeS]
theorem textS_bad (bs : List UInt8) : textS (bs, true) = ([], (bs, true)) := by simp [textS, takeS_bad]
theorem countS_bad (m : Int) (bs : List UInt8) : countS m (bs, true) = (0, (bs, true)) := by
  unfold countS
  rw [takeS_bad]
  split <;> rfl

set_option maxHeartbeats 2000000 in
theorem walk (A A2 : Option Addr) (n c n2 c2 : Nat) (bs : List UInt8) (l : List (Nat × Int)) (w : World) (h : Rd w A n bs) (h2 : AskRd w A2 n2 l) :
    Calls Try.prog 7 #[.slice A n c, .slice A2 n2 c2] w fun e w' => e = .returned (.bool true) ∧ Below w.heap.size w w' := by
  have H := Lib.hid h
  have H2 := Lib.hid h2
  clear h h2
  by_cases hn : 200 < n
  · go_enter Try.func7, Try.ntmps7
    go_wp2_with fail
    go_ret
    exact ⟨rfl, Below.refl _ _⟩
  · by_cases hn2 : 20 < n2
    · go_enter Try.func7, Try.ntmps7
      go_wp2_with fail
      go_ret
      exact ⟨rfl, Below.refl _ _⟩
    · go_enter Try.func7, Try.ntmps7
      go_wp2_with fail
      refine (rNew_any A n c bs w H.out (by omega)).mono ?_
      rintro e w1 ⟨r, rfl, hr, hR, hb⟩
      have HR := Lib.hid hR
      have B1 := Lib.hid hb
      clear hR hb
      go_wp2_with fail
      refine (rBad_any r _ w1 HR.out).mono ?_
      rintro e w2 ⟨rfl, hR, hg⟩
      have HR2 : Hid (Rdr w2 r (bs, true)) := hR
      have B2 := Lib.hid (B1.out.grown hg B1.out.size (fun g hg => by injection hg with hg; omega))
      clear hR hg
      go_wp2_with fail
      go_loopw [6] (fun i wr => ∃ k : Nat, k ≤ n2 ∧ i = .int .i64 (k : Int) ∧ Rdr wr r (bs, true) ∧ Below w.heap.size w wr) (fun i _ => n2 - (intOf i).toNat)
      case atStart => exact ⟨0, by omega, rfl, HR2.out, B2.out⟩
      case round =>
        obtain ⟨k, hk, rfl, hR, hb⟩ := hrel
        have HR3 := Lib.hid hR
        have B3 := Lib.hid hb
        clear hR hb
        by_cases hlt : k < n2
        · obtain ⟨⟨ad0, am⟩, hask⟩ : ∃ a, l[k]? = some a := ⟨_, List.getElem?_eq_getElem (by rw [H2.out.len]; exact hlt)⟩
          have HA := Lib.hid hask
          clear hask
          go_wp2_with fail
          have K1 : Calls Try.prog 23 #[.pointer (some ⟨r, 0, none⟩)] wr (Red wr r (.int .u8 0) (bs, true)) := by
            have := rByte_any r (bs, true) wr HR3.out
            simpa only [takeS_bad, textS_bad, countS_bad, val_nil, w0, z0] using this
          refine K1.mono ?_
          clear K1
          rintro e w4 ⟨rfl, hR, hg⟩
          have HR4 := Lib.hid hR
          have B4 := Lib.hid (B3.out.grown hg B3.out.size (fun g hg => by injection hg with hg; omega))
          clear hR hg
          go_wp2_with fail
          have K1 : Calls Try.prog 24 #[.pointer (some ⟨r, 0, none⟩)] w4 (Red w4 r (.int .u64 0) (bs, true)) := by
            have := rUint_any r (bs, true) w4 HR4.out
            simpa only [takeS_bad, textS_bad, countS_bad, val_nil, w0, z0] using this
          refine K1.mono ?_
          clear K1
          rintro e w5 ⟨rfl, hR, hg⟩
          have HR5 := Lib.hid hR
          have B5 := Lib.hid (B4.out.grown hg B4.out.size (fun g hg => by injection hg with hg; omega))
          clear hR hg
          go_wp2_with fail
          have K1 : Calls Try.prog 25 #[.pointer (some ⟨r, 0, none⟩)] w5 (Red w5 r (.int .i64 0) (bs, true)) := by
            have := rInt_any r (bs, true) w5 HR5.out
            simpa only [takeS_bad, textS_bad, countS_bad, val_nil, w0, z0] using this
          refine K1.mono ?_
          clear K1
          rintro e w6 ⟨rfl, hR, hg⟩
          have HR6 := Lib.hid hR
          have B6 := Lib.hid (B5.out.grown hg B5.out.size (fun g hg => by injection hg with hg; omega))
          clear hR hg
          go_wp2_with fail
          have K1 : Calls Try.prog 26 #[.pointer (some ⟨r, 0, none⟩)] w6 (RedB w6 r [] (bs, true)) := by
            have := rText_any r (bs, true) w6 HR6.out
            simpa only [takeS_bad, textS_bad, countS_bad, val_nil, w0, z0] using this
          refine K1.mono ?_
          clear K1
          rintro e w7 ⟨A7, n7, c7, rfl, hown, hR, hg⟩
          obtain rfl : n7 = 0 := (Rd.of_own hown).1.len.symm
          have HR7 := Lib.hid hR
          have B7 := Lib.hid (B6.out.grown hg B6.out.size (fun g hg => by injection hg with hg; omega))
          obtain ⟨ha1, ha2, ha3, bb, off, rfl, hc1, hc2⟩ := (H2.out.below B7.out).cells k _ HA.out
          simp only at ha1 ha2 ha3 hc1 hc2
          clear hR hg hown hc1
          go_wp2_with fail
          have K1 : Calls Try.prog 27 #[.pointer (some ⟨r, 0, none⟩), .int .i64 am] w7 (Red w7 r (.int .i64 0) (bs, true)) := by
            have := rCount_any r am (bs, true) w7 HR7.out (by omega) (by omega)
            simpa only [takeS_bad, textS_bad, countS_bad, val_nil, w0, z0] using this
          refine K1.mono ?_
          clear K1
          rintro e w8 ⟨rfl, hR, hg⟩
          have HR8 := Lib.hid hR
          have B8 := Lib.hid (B7.out.grown hg B7.out.size (fun g hg => by injection hg with hg; omega))
          clear hR hg hc2
          go_wp2_with fail
          have K1 : Calls Try.prog 21 #[.pointer (some ⟨r, 0, none⟩)] w8 (fun e w' => e = .returned (.int .i64 2) ∧ w8 = w') := by
            have := rDone_any r (bs, true) w8 HR8.out
            simpa only [true_or, if_true] using this
          refine K1.mono ?_
          clear K1
          rintro e w8 ⟨rfl, rfl⟩
          go_wp2_with fail
          exact ⟨⟨k + 1, by omega, rfl, HR8.out, B8.out⟩, by simp [intOf]; omega⟩
        · go_wp2_with fail
          refine (nBad wr).mono ?_
          rintro e wr ⟨rfl, rfl⟩
          go_wp2_with fail
          refine (nByte wr).mono ?_
          rintro e wr ⟨rfl, rfl⟩
          go_wp2_with fail
          refine (nUint wr).mono ?_
          rintro e wr ⟨rfl, rfl⟩
          go_wp2_with fail
          refine (nInt wr).mono ?_
          rintro e wr ⟨rfl, rfl⟩
          go_wp2_with fail
          refine (nText wr).mono ?_
          rintro e wr ⟨rfl, rfl⟩
          go_wp2_with fail
          refine (nCount wr).mono ?_
          rintro e wr ⟨rfl, rfl⟩
          go_wp2_with fail
          refine (nDone wr).mono ?_
          rintro e wr ⟨rfl, rfl⟩
          go_wp2_with fail
          refine (puts_any wr).mono ?_
          rintro e w9 ⟨rfl, hb⟩
          have B9 := Lib.hid (B3.out.trans (hb.mono B3.out.size))
          clear hb
          go_wp2_with fail
          go_ret
          exact ⟨rfl, B9.out⟩

set_option maxRecDepth 100000 in
theorem lifted (os : Os) (started : os.Started) (H : Type) (enc : TypeId × Value → H) :
    ReturnsInHanded {} Try.checked os 7 .any (Rows.wireBadSpec.pre6 enc Try.prog Try.f7 Rows.wireBadRow.domain false) (Rows.wireBadSpec.post enc Try.prog Try.f7 false true false false) := by
  refine returnsInHanded_of_change (C := Try.checked) own started (by kernel_rfl) Try.func7
    (ChangeSpec.witness6 (enc := enc) (C := Try.checked) false ⟨#[], #[.slice none 0 0, .slice none 0 0], []⟩ 8 (by kernel_rfl) (by kernel_rfl) (by kernel_rfl) (by kernel_rfl)) ?_
  intro W base args ds gs before hval0 hW hcnd _
  have hval : ∀ (j : Nat) t v, Try.f7.params[j]? = some t → args[j]? = some v → Value.okWide Try.prog W .any base t v := hval0
  have hW' := hW
  obtain ⟨p, q, hA0, hV, rfl, hfz, hnd⟩ := hW
  have hA : DataW.TrodAll enc Try.prog W 0 (fun _ => true) true Try.f7.params.toList args.toList ds p := hA0
  rw [Try.params7] at hA hval
  obtain ⟨v0, v1, d0, d1, p0, p1, rfl, rfl, rfl, h0, h1⟩ := trodAll_two hA
  obtain ⟨rfl, rfl⟩ := trodVars_none hV
  obtain ⟨A, n, c, bs, rfl, _, _, hr⟩ := open_bytes ty_bytes ty_byte cells_byte (hval 0 _ v0 rfl rfl) h0
  obtain ⟨A2, n2, c2, l, rfl, _, _, hr2⟩ := open_asks (hval 1 _ v1 rfl rfl) h1
  refine (walk A A2 n c n2 c2 bs l W hr hr2).mono fun e W' ⟨he, hb⟩ => ?_
  subst he
  exact ⟨_, rfl, post_true laidOut (by kernel_rfl) ty_bool (by kernel_rfl) rfl hW' hb rfl⟩

theorem over : Rows.wireBadRow.holds Try.pinned (OpenSpec.ofChange Rows.wireBadSpec) :=
  OpenClaim.holds_of_wide 7 Try.f7 rfl rfl rfl rfl rfl rfl rfl ⟨rfl, rfl, rfl, rfl, rfl⟩ rfl rfl rfl rfl rfl (by kernel_rfl) Try.func7 (by kernel_rfl)
    (of_decide_eq_true (by kernel_rfl)) (by unfold Func.isWrapper; first | (rw [if_pos (by decide +kernel)]; kernel_rfl) | (rw [if_neg (by decide +kernel)]; exact ⟨rfl, rfl⟩))
    (fun os started H enc _ => lifted os started H enc)

theorem proved : Rows.WireBadSaid :=
  over
end Go.Proofs.Ytjpiaeidaoklaaa.wireBad
