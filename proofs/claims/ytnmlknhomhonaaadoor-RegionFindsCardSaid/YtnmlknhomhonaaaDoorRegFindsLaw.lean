/- RegionFinds: every Check and every Of is as the document answers, and what is handed in stays. For every input the call returns true, and each argument reads afterwards as it read before. No conditions. -/
import Derived.Test.YtnmlknhomhonaaaDoorRegRef
import Derived.Test.YtnmlknhomhonaaaDoorPathFrame
namespace Go.Proofs.YtnmlknhomhonaaaDoor.regionFinds
open Go.ChangeShapes Go.WideShapes Go.ChangeAt Go.RowKit Path Reg

def RelF (w : World) (n : Nat) (i : Value) (wr : World) : Prop := ∃ k : Nat, k ≤ n ∧ i = .int .i64 (k : Int) ∧ Below w.heap.size w wr
theorem own_lit0 (w : World) (e : TypeId) : (w.alloc (.cells #[] e)).ownsRow w.heap.size e 1 (.slice (some ⟨w.heap.size, 0, none⟩) 0 0) 0 [] := World.ownsRow_lit w #[] 0 (Nat.le_refl _) (Nat.zero_le _) rfl
theorem own_cap {w : World} {base n m d : Nat} {e : TypeId} {B : Option Addr} {xs : List Value} (h : w.ownsRow base e 1 (.slice B n d) m xs) : n ≤ d := by
  rcases h.2 with ⟨h1, h2⟩ | ⟨g, cap, cur, h1, _, _, h2, _⟩
  · injection h1 with _ h1 h3
    omega
  · injection h1 with _ h1 h3
    omega
set_option maxRecDepth 100000 in
set_option maxHeartbeats 8000000 in
theorem walk (ls : List (List UInt8)) (p : List UInt8) (A : Option Addr) (n c : Nat)  (w : World) (hS : RdV w A n (sv ls)) (hc : n ≤ c) : Calls Tryd.prog 3 #[.slice A n c, .string (S p)] w fun e w' => e = .returned (.bool true) ∧ Below w.heap.size w w' := by
  have HS := Lib.hid hS
  have hln : ls.length = n := by rw [← hS.len, sv_length]
  have HLN := Lib.hid hln
  have cl := long_any ls A n c w hS
  have hsznp : (S p).size = p.length := S_size p
  have hszp : ((S p).size : Int) = (p.length : Int) := by rw [S_size]
  cases hlo : longF ls
  · have HLG := Lib.hid (long_no hlo)
    rw [hlo] at cl
    by_cases hpp : 200 < p.length
    · have hpip : (200 : Int) < (p.length : Int) := by omega
      clear hS hln hlo hpp
      generalize S p = sp at *
      go_enter Tryd.func3, Tryd.ntmps3
      go_wp2_with fail
      refine cl.mono ?_
      rintro e w1 ⟨rfl, hb⟩
      have B1 := Lib.hid hb
      clear hb cl
      go_wp2_with fail
      go_ret
      exact ⟨rfl, B1.out⟩
    · have hpip : ¬ (200 : Int) < (p.length : Int) := by omega
      have hpjp : decide ((200 : Int) < (p.length : Int)) = false := decide_eq_false hpip
      have HPp : Hid (p.length ≤ 200) := by show _ ≤ _; omega
      clear hpp
      obtain ⟨sp, hsp⟩ : ∃ sp, sp = S p := ⟨_, rfl⟩
      have HSp := Lib.hid hsp
      rw [← hsp] at hsznp hszp ⊢
      clear hsp
      have HN : Hid (n ≤ 1000000) := by show _ ≤ _; have := HLG.out.1; omega
      clear hS hln hlo
      go_enter Tryd.func3, Tryd.ntmps3
      go_wp2_with fail
      refine cl.mono ?_
      rintro e w1 ⟨rfl, hb⟩
      have B1 := Lib.hid hb
      clear hb cl
      obtain ⟨i0, hi, hz0, hz1, hz2⟩ := infos info_text
      have HI := Lib.hid hi
      have HZ0 := Lib.hid hz0
      have HZ1 := Lib.hid hz1
      have HZ2 := Lib.hid hz2
      have hbm : Hid (Below w1.heap.size w1 (w1.alloc (.cells #[] 9))) := (Below.refl _ w1).alloc (Nat.le_refl _) _
      have hown0 : Hid ((w1.alloc (.cells #[] 9)).ownsRow w1.heap.size 9 1 (.slice (some ⟨w1.heap.size, 0, none⟩) 0 0) 0 []) := own_lit0 w1 9
      clear hi hz0 hz1 hz2
      go_wp2_with (at_builtin; refine wpList_append_RdV rfl (.tmp 14) (.tmp 15) _ rfl ty_texts HI.out HZ0.out HZ1.out HZ2.out rfl rfl hown0.out rfl (HS.out.below (B1.out.alloc B1.out.size _)) (sv_all _) (by have := HN.out; unfold maxLen; omega) (by have := HN.out; omega) (by simp) ?_)
      intro v2 w2 hown hgr
      have HG : Hid (Below w1.heap.size w1 w2) := hbm.out.grown hgr hbm.out.size (fun g hg => (hown0.out.lt g hg).1)
      have B2 : Hid (Below w.heap.size w w2) := B1.out.trans (HG.out.mono B1.out.size)
      have h5 : w2.ownsRow w1.heap.size 9 1 v2 n (sv ls) := by simpa using hown
      obtain ⟨B, d, rfl⟩ := own_slice h5
      have hnd : n ≤ d := own_cap h5
      have HM := Lib.hid (RdV.of_own h5).1
      have HXL : Hid (∀ x ∈ ls, x.length ≤ 1000000) := fun x hx => by have := HLG.out.2 x hx; omega
      have c1 := check_any ls B n d w2 HM.out HN.out hnd HXL.out
      have C2 := Lib.hid (fun W (hW : Below w.heap.size w W) => refCheck_any ls A n c W (HS.out.below hW) HXL.out)
      have C3 := Lib.hid (fun W (hW : Below w2.heap.size w2 W) => of_any ls p B n d W (HM.out.below hW) HN.out (by have := HPp.out; omega) HXL.out)
      have C4 := Lib.hid (fun W (hW : Below w.heap.size w W) => refOfNo_any ls p A n c W (HS.out.below hW) HN.out (by have := HPp.out; omega) HXL.out)
      rw [← HSp.out] at C3 C4
      generalize chkF ls = z at *
      generalize ofF ls p = a at *
      have zz : (z != z) = false := bne_self_eq_false z
      have aa : (a != a) = false := bne_self_eq_false a
      clear hown hgr h5 HG hbm hown0 HI HZ0 HZ1 HZ2
      go_wp2_with fail
      refine c1.mono ?_
      rintro e w3 ⟨rfl, hb⟩
      have D3 := Lib.hid hb
      have B3 := Lib.hid (B2.out.trans (hb.mono B2.out.size))
      have c2 := C2.out w3 B3.out
      clear hb c1 C2
      go_wp2_with fail
      refine c2.mono ?_
      rintro e w4 ⟨rfl, hb⟩
      have D4 := Lib.hid (D3.out.trans (hb.mono D3.out.size))
      have B4 := Lib.hid (B3.out.trans (hb.mono B3.out.size))
      have c3 := C3.out w4 D4.out
      clear hb c2 C3
      go_wp2_with fail
      refine c3.mono ?_
      rintro e w5 ⟨rfl, hb⟩
      have D5 := Lib.hid (D4.out.trans (hb.mono D4.out.size))
      have B5 := Lib.hid (B4.out.trans (hb.mono B4.out.size))
      have c4 := C4.out w5 B5.out
      clear hb c3 C4
      go_wp2_with fail
      refine c4.mono ?_
      rintro e w6 ⟨rfl, hb⟩
      have D6 := Lib.hid (D5.out.trans (hb.mono D5.out.size))
      clear hb c4
      go_wp2_with fail
      go_loopw [6] (fun i wr => RelF w2 n i wr) (fun i _ => n - (intOf i).toNat)
      case atStart => exact ⟨0, Nat.zero_le _, rfl, D6.out⟩
      case round =>
        obtain ⟨k, hk, rfl, hb⟩ := hrel
        have DB := Lib.hid hb
        have HB := Lib.hid (B2.out.trans (hb.mono B2.out.size))
        clear hb
        by_cases hlt : k < n
        · have hjx : k < ls.length := by rw [HLN.out]; exact hlt
          obtain ⟨bb, oo, rfl, hca⟩ := text_at (HM.out.below DB.out) hjx
          obtain ⟨bb2, oo2, rfl, hcb⟩ := text_at (HS.out.below HB.out) hjx
          have hc1 := fun r => hca wr (Below.refl _ _) r
          have hc2 := fun r => hcb wr (Below.refl _ _) r
          clear hca hcb
          generalize ls[k] = y at *
          generalize S y = sy at *
          have hq : (!(sy.toList == sy.toList)) = false := by simp
          have hkm : k < 1000000 := by have := HN.out; omega
          have vk : (k : Int) < (n : Int) := by omega
          go_wp2_with fail
          go_quiet (fail)
          have DBq := Lib.hid (below_drewN DB.out nq)
          generalize wr.drewN nq = wq at *
          clear hc1 hc2
          go_wp2_with fail
          go_roundw
          case rel => exact ⟨k + 1, by omega, by go_num, DBq.out⟩
          case measure => simp [intOf]; omega
        · obtain rfl : k = n := by omega
          clear hlt
          have v1 : ¬ (k : Int) < (k : Int) := by omega
          go_wp2_with fail
          refine (finds_any _).mono ?_
          rintro e wf ⟨rfl, hb⟩
          have BF := Lib.hid (HB.out.trans (hb.mono HB.out.size))
          clear hb
          go_wp2_with fail
          go_ret
          exact ⟨rfl, BF.out⟩
  · rw [hlo] at cl
    clear hS hln hlo
    generalize S p = sp at *
    go_enter Tryd.func3, Tryd.ntmps3
    go_wp2_with fail
    refine cl.mono ?_
    rintro e w1 ⟨rfl, hb⟩
    have B1 := Lib.hid hb
    clear hb cl
    go_wp2_with fail
    go_ret
    exact ⟨rfl, B1.out⟩

set_option maxRecDepth 100000 in
theorem lifted (os : Os) (started : os.Started) (H : Type) (enc : TypeId × Value → H) :
    ReturnsInHanded {} Tryd.checked os 3 .any (fun w args => (Rows.regionFindsSpec.pre enc Tryd.prog Tryd.f3 Rows.regionFindsRow.domain false w args ∧ laidMetH Tryd.prog Rows.regionFindsRow.laid w) ∧ sizedMet enc Tryd.prog Tryd.f3 (OpenSpec.ofChange Rows.regionFindsSpec) false w args) (Rows.regionFindsSpec.post enc Tryd.prog Tryd.f3 false true false false) := by
  refine returnsInHanded_of_change_and (C := Tryd.checked) (X := fun w _ => laidMetH Tryd.prog Rows.regionFindsRow.laid w) (fun _ _ _ hh h => h.of_heap hh) own started (by kernel_rfl) Tryd.func3
    (ChangeSpec.witness_shaped (enc := enc) (C := Tryd.checked) (os := os) (X := fun w _ => laidMetH Tryd.prog Rows.regionFindsRow.laid w) false (World.laidAll Tryd.prog os Rows.regionFindsRow.laid) #[.slice none 0 0, .string ⟨#[]⟩] 8 (World.laidAll_os _ _ _)
      (World.shaped_of_ZipB (by kernel_rfl) (by kernel_rfl)) (by kernel_rfl) (by kernel_rfl) (by kernel_rfl)
      (by rw [MakeChecks.laidMetH_plain _ _ _ (by kernel_rfl)]; exact laidMet_laidAll _ (by kernel_rfl) (by kernel_rfl))) ?_
  intro W base args ds gs before hval0 hW _ _ _ _
  have hval : ∀ (j : Nat) t v, Tryd.f3.params[j]? = some t → args[j]? = some v → Value.okWide Tryd.prog W .any base t v := hval0
  have hW' := hW
  obtain ⟨p, q, hA0, hV, rfl, hfz, hnd⟩ := hW
  have hA : DataW.TrodAll enc Tryd.prog W 0 (fun _ => true) true Tryd.f3.params.toList args.toList ds p := hA0
  rw [Tryd.params3] at hA hval
  obtain ⟨v0, v1, d0, d1, p0, p1, rfl, rfl, rfl, h0, h1⟩ := trodAll_two hA
  obtain ⟨rfl, rfl⟩ := trodVars_none hV
  obtain ⟨A, n, c, ls, rfl, hc, hcm, hS⟩ := arg_texts (hval 0 _ v0 rfl rfl) h0
  obtain ⟨l, rfl⟩ := open_text ty_string (hval 1 _ v1 rfl rfl)
  refine (walk ls l A n c W hS hc).mono fun e W' ⟨he, hb⟩ => ?_
  subst he
  exact ⟨_, rfl, post_true laidOut (by kernel_rfl) ty_bool (by kernel_rfl) rfl hW' hb rfl⟩

theorem over : Rows.regionFindsRow.holds Tryd.pinned (OpenSpec.ofChange Rows.regionFindsSpec) :=
  OpenClaim.holds_of_wide 3 Tryd.f3 rfl rfl rfl rfl rfl rfl rfl ⟨rfl, rfl, rfl, rfl, rfl⟩ rfl rfl rfl rfl rfl (by kernel_rfl) Tryd.func3 (by kernel_rfl)
    (of_decide_eq_true (by kernel_rfl)) (by unfold Func.isWrapper; first | (rw [if_pos (by decide +kernel)]; kernel_rfl) | (rw [if_neg (by decide +kernel)]; exact ⟨rfl, rfl⟩))
    (fun os started H enc _ => lifted os started H enc)

theorem proved : Rows.RegionFindsCardSaid :=
  Claim7.holds_tied_plain_at .later [] Rows.regionFindsCard.laidKinds true Rows.regionFindsCard.stood.harness Rows.regionFindsCard.stood.looks over (fun _ h => by cases h) (by kernel_rfl) (fun _ h => by cases h) regionFinds_row_tie rfl ⟨rfl, rfl⟩ (by kernel_rfl) rfl
    (fun f fn hf hfn => by
      obtain rfl : f = 3 := Option.some.inj ((show Tryd.pinned.checked.prog.funcNamed Rows.regionFindsRow.func = some 3 by kernel_rfl).symm.trans hf) |>.symm
      obtain rfl : fn = Tryd.f3 := (Option.some.inj (Tryd.func3.symm.trans hfn)).symm
      exact ⟨by kernel_rfl, fun j t ht => by
        have hall : (Tryd.f3.params.toList.all fun u => !Tryd.prog.wantsStandIn u) = true := by kernel_rfl
        exact (show Tryd.prog.wantsStandIn t = false by simpa using List.all_eq_true.1 hall t (by simpa using Array.mem_of_getElem? ht))⟩)
    (by kernel_rfl)
end Go.Proofs.YtnmlknhomhonaaaDoor.regionFinds
