/- WirePuts: every Byte, Uint, Int, Text; what is handed in stays, also where there is room behind it. For every input the call returns true, and each argument reads afterwards as it read before. No conditions. -/
import Derived.Test.YtjpiaeidaoklaaaRefPut
import Derived.Deep.RegionHeld
import Derived.Deep.Draws
import Derived.WalkLawsBesides
import Derived.Lib.Strings
namespace Go.Proofs.Ytjpiaeidaoklaaa.wirePuts
open Go.ChangeShapes Go.WideShapes Go.ChangeAt Go.RowKit

theorem own_lit0 (w : World) (e : TypeId) : (w.alloc (.cells #[] e)).ownsRow w.heap.size e 1 (.slice (some ⟨w.heap.size, 0, none⟩) 0 0) 0 ([].map U) := World.ownsRow_lit w #[] 0 (Nat.le_refl _) (Nat.zero_le _) rfl

theorem S_list (l : List UInt8) : (S l).toList = l := ByteArray.toList_mk l
theorem S_app (l m : List UInt8) : (S l ++ S m).toList = l ++ m := by
  rw [ByteArray.toList_eq]
  simp [S]
theorem S_size (l : List UInt8) : (S l).size = l.length := by simp [S, ByteArray.size]
theorem eq_app (l m k : List UInt8) (h : k = l ++ m) : ((S k).toList == (S l ++ S m).toList) = true := by
  rw [S_app, S_list, h]
  exact beq_self_eq_true _

set_option maxRecDepth 100000 in
set_option maxHeartbeats 4000000 in
theorem walk (A A2 : Option Addr) (n c n2 c2 : Nat) (bs ss : List UInt8) (x : Nat) (w : World) (h : Rd w A n bs) (h2 : Rd w A2 n2 ss) (hx : x < 18446744073709551616) :
    Calls Try.prog 3 #[.slice A n c, .slice A2 n2 c2, .int .u64 (x : Int)] w fun e w' => e = .returned (.bool true) ∧ Below w.heap.size w w' := by
  have H := Lib.hid h
  have H2 := Lib.hid h2
  clear h h2
  obtain ⟨i0, hi, hz0, hz1, hz2⟩ := info_parts info_byte
  have HI := Lib.hid hi
  have HZ0 := Lib.hid hz0
  have HZ1 := Lib.hid hz1
  have HZ2 := Lib.hid hz2
  clear hi hz0 hz1 hz2
  by_cases hn : 2000 < n
  · go_enter Try.func3, Try.ntmps3
    go_wp2_with fail
    go_ret
    exact ⟨rfl, Below.refl _ _⟩
  · by_cases hn2 : 2000 < n2
    · go_enter Try.func3, Try.ntmps3
      go_wp2_with fail
      go_ret
      exact ⟨rfl, Below.refl _ _⟩
    · have HBa := Lib.hid ((Below.refl w.heap.size w).alloc (Nat.le_refl _) (.cells #[] 5))
      go_enter Try.func3, Try.ntmps3
      go_wp2_with (at_builtin; refine wpList_append_Rd rfl (.tmp 21) (.tmp 22) _ rfl ty_bytes HI.out HZ0.out HZ1.out HZ2.out rfl rfl (own_lit0 w 5) rfl (H.out.below HBa.out) (by omega) (by simp) ?_)
      intro v5 w5 hown5 hg5
      have HO5 := Lib.hid hown5
      have HBb := Lib.hid (HBa.out.grown hg5 (by simp) (fun g hg => ((own_lit0 w 5).lt g hg).1))
      clear hown5 hg5
      go_wp2_with (at_builtin; refine wpList_append_own _ rfl (.tmp 23) (.tmp 24) _ rfl w.heap.size 5 i0 _ 1 1 ty_bytes HI.out HZ0.out HZ1.out HZ2.out rfl (by decide) _ n _ rfl (HO5.out.alloc _) ⟨w5.heap.size, 0, none⟩ 1 1 _ rfl rfl (one_new _ _ _) (by simp [Value.oneCell']) (by unfold maxLen; omega) (by omega) (by simp; have := HBb.out.size; omega) ?_)
      intro v6 w6 hown6 hg6 _
      have HBc := Lib.hid ((HBb.out.alloc HBb.out.size _).grown hg6 (by simp; have := HBb.out.size; omega) (fun g hg => (HO5.out.lt g hg).1))
      have hown7 : w6.ownsRow w.heap.size 5 1 v6 (n + 1) ((bs ++ [9]).map U) := by
        have := hown6
        simpa [U] using this
      clear hown6 hg6
      obtain ⟨g, c6, rfl, hgw, hcap⟩ : ∃ g c6, v6 = .slice (some ⟨g, 0, none⟩) (n + 1) c6 ∧ w.heap.size ≤ g ∧ n + 1 ≤ c6 := by
        rcases hown7.2 with ⟨_, h0⟩ | ⟨g, cap, cur, h0, h1, _, h2, _⟩
        · omega
        · exact ⟨_, _, h0, h1, h2⟩
      have HY := Lib.hid (Rd.of_own hown7).1
      clear hown7 HO5 HBa HBb
      have HIn : Hid (Rd w6 (some ⟨g, 0, none⟩) n bs) := by
        have := HY.out.take (k := n) (by omega)
        rwa [List.take_left' H.out.len] at this
      go_wp2_with fail
      have hx8 : ((x % 256 : Nat) : Int) = (x : Int) % 256 := by omega
      refine (Byte_any _ n c6 (x % 256) _ bs w6 HIn.out hx8.symm (by omega) (by omega)).mono ?_
      rintro e w7 ⟨A7, n7, c7, rfl, hl, hc7, hown, hb⟩
      have HX7 := Lib.hid (Rd.of_own hown).1
      have HI7 := Lib.hid (HIn.out.below hb)
      have HY7 := Lib.hid (HY.out.below hb)
      have HB7 := Lib.hid (HBc.out.trans (hb.mono HBc.out.size))
      clear hl hown hb hx8
      go_wp2_with fail
      refine (Uint_any _ n c6 x _ bs w7 HI7.out rfl hx (by omega)).mono ?_
      rintro e w8 ⟨A8, n8, c8, rfl, hl, hc8, hown, hb⟩
      have HX8 := Lib.hid (HX7.out.below hb)
      have HY8 := Lib.hid (Rd.of_own hown).1
      have HI8 := Lib.hid (HI7.out.below hb)
      have HR8 := Lib.hid (HY7.out.below hb)
      have HB8 := Lib.hid (HB7.out.trans (hb.mono HB7.out.size))
      clear hl hown hb
      go_wp2_with fail
      refine (Int_any _ n c6 x _ bs w8 HI8.out (wrap_wrap64 x hx) hx (by omega)).mono ?_
      rintro e w9 ⟨A9, n9, c9, rfl, hl, hc9, hown, hb⟩
      have HX9 := Lib.hid (HX8.out.below hb)
      have HY9 := Lib.hid (HY8.out.below hb)
      have HZ9 := Lib.hid (Rd.of_own hown).1
      have HI9 := Lib.hid (HI8.out.below hb)
      have HR9 := Lib.hid (HR8.out.below hb)
      have HB9 := Lib.hid (HB8.out.trans (hb.mono HB8.out.size))
      clear hl hown hb
      go_wp2_with fail
      refine (Text_any _ A2 n c6 n2 c2 bs ss w9 HI9.out (H2.out.below HB9.out) (by omega) (by omega)).mono ?_
      rintro e wa ⟨Aa, na, ca, rfl, hl, hca, hown, hb⟩
      have HXa := Lib.hid (HX9.out.below hb)
      have HYa := Lib.hid (HY9.out.below hb)
      have HZa := Lib.hid (HZ9.out.below hb)
      have HWa := Lib.hid (Rd.of_own hown).1
      have HIa := Lib.hid (HI9.out.below hb)
      have HRa := Lib.hid (HR9.out.below hb)
      have HBA := Lib.hid (HB9.out.trans (hb.mono HB9.out.size))
      clear hl hown hb HX7 HI7 HY7 HB7 HX8 HY8 HI8 HR8 HB8 HX9 HY9 HZ9 HI9 HR9 HB9 HIn HY HBc
      have sb : (convert 22 9 (.slice A n c)).run Try.prog wa = .ok (.string (S bs)) wa := conv_string (H.out.below HBA.out) c
      have ALL : ∀ W, Below wa.heap.size wa W →
          (convert 22 9 (.slice A7 n7 c7)).run Try.prog W = .ok (.string (S (bs ++ be 1 (x % 256)))) W ∧ (convert 22 9 (.slice A8 n8 c8)).run Try.prog W = .ok (.string (S (bs ++ be 8 x))) W ∧
          (convert 22 9 (.slice A9 n9 c9)).run Try.prog W = .ok (.string (S (bs ++ be 8 x))) W ∧ (convert 22 9 (.slice Aa na ca)).run Try.prog W = .ok (.string (S (bs ++ (be 4 n2 ++ ss)))) W ∧
          (convert 22 9 (.slice (some ⟨g, 0, none⟩) n c6)).run Try.prog W = .ok (.string (S bs)) W ∧ W.cell? ⟨g, n, none⟩ = some (.int .u8 9) := fun W hW => by
        refine ⟨conv_string (HXa.out.below hW) c7, conv_string (HYa.out.below hW) c8, conv_string (HZa.out.below hW) c9, conv_string (HWa.out.below hW) ca, conv_string (HIa.out.below hW) c6, ?_⟩
        obtain ⟨ad, e, hc⟩ := (HRa.out.below hW).cells (by omega)
        injection e with e
        subst e
        have h9 := hc n 9 (by rw [List.getElem?_append_right (by rw [H.out.len]; omega), H.out.len, Nat.sub_self]; rfl)
        have hadd : (⟨g, 0, none⟩ : Addr).add n = ⟨g, n, none⟩ := by
          unfold Addr.add
          split
          · next h => rw [h]
          · simp
        rw [hadd] at h9
        exact h9
      have NEW : (convert 22 9 (.slice (some ⟨wa.heap.size, 0, none⟩) 1 1)).run Try.prog (wa.alloc (.cells #[.int .u8 ((x : Int) % 256)] 5)).drew = .ok (.string (S (be 1 (x % 256)))) (wa.alloc (.cells #[.int .u8 ((x : Int) % 256)] 5)).drew := by
        have h2 : be 1 (x % 256) = [UInt8.ofNat x] := by
          simp only [be, Nat.pow_zero, Nat.div_one]
          congr 1
          apply UInt8.toNat_inj.1
          simp
        rw [byte_mod, h2]
        have h3 : Rd (wa.alloc (.cells #[U (UInt8.ofNat x)] 5)).drew (some ⟨wa.heap.size, 0, none⟩) 1 [UInt8.ofNat x] := (rd_lit wa 5 (0, 0) [UInt8.ofNat x]).keep fun _ _ hp => hp
        exact conv_string h3 1
      have q1 := eq_app bs (be 1 (x % 256)) _ rfl
      have q2 := eq_app bs (be 8 x) _ rfl
      have q3 := eq_app bs (be 4 n2 ++ ss) _ rfl
      have z0 : (S bs).size ≤ 2000 := by rw [S_size, H.out.len]; omega
      have z1 : (S (be 1 (x % 256))).size ≤ 2000 := by rw [S_size, be_length]; omega
      have z2 : (S (be 8 x)).size ≤ 2000 := by rw [S_size, be_length]; omega
      have z3 : (S (be 4 n2 ++ ss)).size ≤ 3000 := by rw [S_size, List.length_append, be_length, H2.out.len]; omega
      have CN : ∀ (A : Option Addr) (m c : Nat) (W : World), Rd W A m (be 8 x) → (convert 22 9 (.slice A m c)).run Try.prog W = .ok (.string (S (be 8 x))) W := fun A m c W h => conv_string h c
      have CT : ∀ (A : Option Addr) (m c : Nat) (W : World), Rd W A m (be 4 n2 ++ ss) → (convert 22 9 (.slice A m c)).run Try.prog W = .ok (.string (S (be 4 n2 ++ ss))) W := fun A m c W h => conv_string h c
      generalize S bs = T at *
      generalize S (bs ++ be 1 (x % 256)) = X at *
      generalize S (bs ++ be 8 x) = Y at *
      generalize S (bs ++ (be 4 n2 ++ ss)) = Z at *
      generalize S (be 1 (x % 256)) = V1 at *
      generalize S (be 8 x) = V8 at *
      generalize S (be 4 n2 ++ ss) = VT at *
      have HALL := Lib.hid ALL
      have HCN := Lib.hid CN
      have HCT := Lib.hid CT
      have B1 := Lib.hid (((Below.refl wa.heap.size wa).alloc (Nat.le_refl _) (.cells #[.int .u8 ((x : Int) % 256)] 5)).drew)
      have k2 : (convert 22 9 (.slice (some ⟨wa.heap.size, 0, none⟩) 1 1)).run Try.prog (wa.alloc (.cells #[.int .u8 ((x : Int) % 256)] 5)).drew = .ok (.string V1) (wa.alloc (.cells #[.int .u8 ((x : Int) % 256)] 5)).drew := NEW
      have hwr : IntKind.u8.wrap (x : Int) = (x : Int) % 256 := by simp [IntKind.wrap, IntKind.bits, IntKind.signed]
      clear ALL CN CT HXa HYa HZa HWa HIa HRa NEW
      have h88 : (8 : Nat) ≤ 8 := Nat.le_refl _
      have hn2b : n2 ≤ 100000000 := by omega
      go_wp2_with fail
      clear sb
      have u2 : 0 ≤ (n : Int) + 1 := by omega
      have u4 : (n : Int) + 1 ≤ (c6 : Int) := by omega
      have u5 : (n : Int) < (n : Int) + 1 := by omega
      have u3 : ((n : Int) + 1).toNat = n + 1 := by omega
      have u1 : IntKind.i64.wrap ((n : Int) + 1) = (n : Int) + 1 := IntWalk.i64_in _ (by omega)
      go_region_held (fun w' => (convert 22 9 (.slice A7 n7 c7)).run Try.prog w' = .ok (.string X) w' ∧ (convert 22 9 (.slice A8 n8 c8)).run Try.prog w' = .ok (.string Y) w' ∧
          (convert 22 9 (.slice A9 n9 c9)).run Try.prog w' = .ok (.string Y) w' ∧ (convert 22 9 (.slice Aa na ca)).run Try.prog w' = .ok (.string Z) w' ∧
          (convert 22 9 (.slice (some ⟨g, 0, none⟩) n c6)).run Try.prog w' = .ok (.string T) w' ∧ w'.cell? ⟨g, n, none⟩ = some (.int .u8 9))
        (first | assumption | exact HALL.out _ HE3.out | exact HALL.out _ HE2.out | exact HALL.out _ HE1.out | exact HALL.out _ B1.out | exact HALL.out _ (Below.refl _ _).drew)
        (first
          | (go_at_call 14; refine (Number_any x 8 8 _ hx rfl h88).mono ?_; rintro e we ⟨Ae, ne, ce, rfl, hl, hce, hown, hb⟩; have sN := HCN.out Ae ne ce we (Rd.of_own hown).1; have HE1 := Lib.hid (B1.out.trans (hb.mono B1.out.size)); clear hl hown hb)
          | (go_at_call 15; refine (RText_any A2 n2 c2 ss _ (H2.out.below (HBA.out.trans (HE1.out.mono HBA.out.size))) hn2b).mono ?_; rintro e wf ⟨Af, nf, cf, rfl, hl, hcf, hown, hb⟩; have sT := HCT.out Af nf cf wf (Rd.of_own hown).1; have HE2 := Lib.hid (HE1.out.trans (hb.mono HE1.out.size)); clear hl hown hb)
          | (go_at_call 16; refine (puts_any _).mono ?_; rintro e wg ⟨rfl, hb⟩; have HE3 := Lib.hid (HE2.out.trans (hb.mono HE2.out.size)); clear hb))
      clear u1 u2 u3 u4 u5 q1 q2 q3
      have BF := Lib.hid (HBA.out.trans (HE3.out.mono HBA.out.size))
      go_wp2_with fail
      go_ret
      exact ⟨rfl, BF.out⟩

set_option maxRecDepth 100000 in
theorem lifted (os : Os) (started : os.Started) (H : Type) (enc : TypeId × Value → H) :
    ReturnsInHanded {} Try.checked os 3 .any (Rows.wirePutsSpec.pre6 enc Try.prog Try.f3 Rows.wirePutsRow.domain false) (Rows.wirePutsSpec.post enc Try.prog Try.f3 false true false false) := by
  refine returnsInHanded_of_change (C := Try.checked) own started (by kernel_rfl) Try.func3
    (ChangeSpec.witness6 (enc := enc) (C := Try.checked) false ⟨#[], #[.slice none 0 0, .slice none 0 0, .int .u64 0], []⟩ 8 (by kernel_rfl) (by kernel_rfl) (by kernel_rfl) (by kernel_rfl)) ?_
  intro W base args ds gs before hval0 hW hcnd _
  have hval : ∀ (j : Nat) t v, Try.f3.params[j]? = some t → args[j]? = some v → Value.okWide Try.prog W .any base t v := hval0
  have hW' := hW
  obtain ⟨p, q, hA0, hV, rfl, hfz, hnd⟩ := hW
  have hA : DataW.TrodAll enc Try.prog W 0 (fun _ => true) true Try.f3.params.toList args.toList ds p := hA0
  rw [Try.params3] at hA hval
  obtain ⟨v0, v1, v2, d0, d1, d2, p0, p1, p2, rfl, rfl, rfl, h0, h1, h2⟩ := trodAll_three hA
  obtain ⟨rfl, rfl⟩ := trodVars_none hV
  obtain ⟨A, n, c, bs, rfl, _, _, hr⟩ := open_bytes ty_bytes ty_byte cells_byte (hval 0 _ v0 rfl rfl) h0
  obtain ⟨A2, n2, c2, ss, rfl, _, _, hr2⟩ := open_bytes ty_bytes ty_byte cells_byte (hval 1 _ v1 rfl rfl) h1
  obtain ⟨x, rfl, rfl, rfl, hx⟩ := open_int ty_u64 (hval 2 _ v2 rfl rfl) h2
  simp [Lit.wf, IntKind.min, IntKind.max, IntKind.signed, IntKind.bits] at hx
  obtain ⟨x, rfl⟩ := Int.eq_ofNat_of_zero_le hx.1
  refine (walk A A2 n c n2 c2 bs ss x W hr hr2 (by omega)).mono fun e W' ⟨he, hb⟩ => ?_
  subst he
  exact ⟨_, rfl, post_true laidOut (by kernel_rfl) ty_bool (by kernel_rfl) rfl hW' hb rfl⟩

theorem over : Rows.wirePutsRow.holds Try.pinned (OpenSpec.ofChange Rows.wirePutsSpec) :=
  OpenClaim.holds_of_wide 3 Try.f3 rfl rfl rfl rfl rfl rfl rfl ⟨rfl, rfl, rfl, rfl, rfl⟩ rfl rfl rfl rfl rfl (by kernel_rfl) Try.func3 (by kernel_rfl)
    (of_decide_eq_true (by kernel_rfl)) (by unfold Func.isWrapper; first | (rw [if_pos (by decide +kernel)]; kernel_rfl) | (rw [if_neg (by decide +kernel)]; exact ⟨rfl, rfl⟩))
    (fun os started H enc _ => lifted os started H enc)

theorem proved : Rows.WirePutsSaid :=
  over
end Go.Proofs.Ytjpiaeidaoklaaa.wirePuts
