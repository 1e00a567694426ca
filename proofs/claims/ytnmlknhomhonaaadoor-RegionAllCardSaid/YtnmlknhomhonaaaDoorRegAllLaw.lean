/- RegionAll: every All is as the document answers. For every input the call returns true, and each argument reads afterwards as it read before. No conditions. -/
import Derived.Test.YtnmlknhomhonaaaDoorRegRefAll
import Derived.Test.YtnmlknhomhonaaaDoorPathFrame
namespace Go.Proofs.YtnmlknhomhonaaaDoor.regionAll
open Go.ChangeShapes Go.WideShapes Go.ChangeAt Go.RowKit Path Reg

def RelP (w : World) (os : List OR) (n : Nat) (i : Value) (wr : World) : Prop := ∃ k : Nat, k ≤ n ∧ i = .int .i64 (k : Int) ∧ (∀ o ∈ os.take k, o.path.length ≤ 200) ∧ Below w.heap.size w wr
set_option maxRecDepth 100000 in
set_option maxHeartbeats 8000000 in
theorem walk (ls : List (List UInt8)) (y : OR) (os : List OR) (A : Option Addr) (n c : Nat) (w : World) (hS : RdV w A n (sv ls)) (hO : OrS w y.pa y.pn os) : Calls Tryd.prog 4 #[.slice A n c, orV y] w fun e w' => e = .returned (.bool true) ∧ Below w.heap.size w w' := by
  obtain ⟨Y, hY⟩ : ∃ Y, Y = y := ⟨_, rfl⟩
  obtain ⟨knd, pth, da, dn, dc, ver, sq, ep, pa, pn, pc⟩ := y
  have hbA : Below w.heap.size w (w.alloc (.cells (orC ⟨knd, pth, da, dn, dc, ver, sq, ep, pa, pn, pc⟩).toArray 32)) := (Below.refl w.heap.size w).alloc (Nat.le_refl _) _
  have K : Bk (w.alloc (.cells (orC ⟨knd, pth, da, dn, dc, ver, sq, ep, pa, pn, pc⟩).toArray 32)) w.heap.size 32 (orC ⟨knd, pth, da, dn, dc, ver, sq, ep, pa, pn, pc⟩).toArray := Bk.new _ _ _
  have hyv : orV Y = .agg (orC ⟨knd, pth, da, dn, dc, ver, sq, ep, pa, pn, pc⟩).toArray := by rw [hY]; rfl
  unfold orV
  dsimp only [orC] at hbA K hO hyv ⊢
  have hln : ls.length = n := by rw [← hS.len, sv_length]
  have HLN := Lib.hid hln
  have HS := Lib.hid hS
  have HBA := Lib.hid hbA
  have HOS := Lib.hid hO
  have HLO := Lib.hid hO.len
  have HK := Lib.hid K
  have HYP : Hid (Y.path = pth ∧ Y.pn = pn ∧ Y.pa = pa) := by rw [hY]; exact ⟨rfl, rfl, rfl⟩
  have HYV := Lib.hid hyv
  have hszp : ((S pth).size : Int) = (pth.length : Int) := by rw [S_size]
  have hsznp : (S pth).size = pth.length := S_size pth
  have CL := Lib.hid (fun W (hW : Below w.heap.size w W) => long_any ls A n c W (hS.below hW))
  clear hY hyv hS hO
  generalize hW0 : w.alloc (.cells #[.int .u8 knd, .string (S pth), .slice da dn dc, .int .i64 ver, .bool sq, .bool ep, .slice pa pn pc] 32) = W0 at *
  have cl := CL.out W0 hbA
  clear hbA K CL
  cases hlo : longF ls
  · rw [hlo] at cl
    have HLG := Lib.hid (long_no hlo)
    have HN : Hid (n ≤ 1000000) := by show _ ≤ _; have := HLG.out.1; omega
    clear hln hlo
    go_enter Tryd.func4, Tryd.ntmps4
    go_wp2_with fail
    refine cl.mono ?_
    rintro e w1 ⟨rfl, hb⟩
    have B1 := Lib.hid hb
    have kc := (HK.out.below hb).cell
    have k1 := kc 1
    have k6 := kc 6
    obtain ⟨sp, hsp⟩ : ∃ sp, sp = S pth := ⟨_, rfl⟩
    have HSP := Lib.hid hsp
    rw [← hsp] at hszp hsznp hW0
    have k1' : w1.cell? ⟨w.heap.size, 1, none⟩ = some (.string sp) := by rw [hsp]; exact k1
    clear k1
    have k6' : w1.cell? ⟨w.heap.size, 6, none⟩ = some (.slice pa pn pc) := k6
    clear k6
    clear hb cl kc hsp
    by_cases hp : 200 < pth.length
    · have hpi : (200 : Int) < (pth.length : Int) := by omega
      clear hp
      go_wp2_with fail
      go_ret
      exact ⟨rfl, HBA.out.trans (B1.out.mono HBA.out.size)⟩
    · have hpi : ¬ (200 : Int) < (pth.length : Int) := by omega
      have hpj : decide ((200 : Int) < (pth.length : Int)) = false := decide_eq_false hpi
      have HP : Hid (pth.length ≤ 200) := by show _ ≤ _; omega
      clear hp
      by_cases hq : 10 < pn
      · have hqi : (10 : Int) < (pn : Int) := by omega
        clear hq
        go_wp2_with fail
        go_ret
        exact ⟨rfl, HBA.out.trans (B1.out.mono HBA.out.size)⟩
      · have hqi : ¬ (10 : Int) < (pn : Int) := by omega
        have hqj : decide ((10 : Int) < (pn : Int)) = false := decide_eq_false hqi
        have HQ : Hid (pn ≤ 10) := by show _ ≤ _; omega
        clear hq
        go_wp2_with fail
        clear k1' k6'
        go_loopw [5] (fun i wr => RelP W0 os pn i wr) (fun i _ => pn - (intOf i).toNat)
        case atStart => exact ⟨0, Nat.zero_le _, rfl, (by simp), B1.out⟩
        case round =>
          obtain ⟨k, hk, rfl, hall, hb⟩ := hrel
          have HALL := Lib.hid hall
          have HB := Lib.hid hb
          have kc := (HK.out.below HB.out).cell
          have k0 := kc 0
          have k1 : wr.cell? ⟨w.heap.size, 1, none⟩ = some (.string sp) := by rw [HSP.out]; exact kc 1
          have k2 := kc 2
          have k3 := kc 3
          have k4 := kc 4
          have k5 := kc 5
          have k6 := kc 6
          have HBR : Hid (Below w.heap.size w wr) := HBA.out.trans (HB.out.mono HBA.out.size)
          clear hall hb kc
          by_cases hlt : k < pn
          · have hjx : k < os.length := by rw [HLO.out]; exact hlt
            obtain ⟨bb, oo, rfl, hcells⟩ := (HOS.out.below HBR.out).cells k hjx
            have vk : (k : Int) < (pn : Int) := by omega
            have hkm : k < 1000000 := by have := HQ.out; omega
            have q1 := hcells 1 _ rfl
            rw [show oo + (7 * k + 1) = oo + k * 7 + 1 by omega] at q1
            have HTK : Hid (os.take (k + 1) = os.take k ++ [os[k]]) := List.take_succ_eq_append_getElem hjx
            obtain ⟨x, hx⟩ : ∃ x, os[k] = x := ⟨_, rfl⟩
            rw [hx] at HTK q1
            have szx : ((S x.path).size : Int) = (x.path.length : Int) := by rw [S_size]
            have szxn : (S x.path).size = x.path.length := S_size x.path
            have HXX : Hid (x.path.length ≤ 200 → ∀ o ∈ os.take (k + 1), o.path.length ≤ 200) := by
              intro h o ho
              rw [HTK.out] at ho
              rcases List.mem_append.1 ho with h1 | h1
              · exact HALL.out o h1
              · rw [List.mem_singleton.1 h1]; exact h
            clear hcells hx k0 k1 k2 k3 k4 k5
            generalize x.path = px at *
            generalize S px = spx at *
            by_cases hr : 200 < px.length
            · have hri : (200 : Int) < (px.length : Int) := by omega
              clear hr
              go_wp2_with fail
              go_ret
              exact ⟨rfl, HBR.out⟩
            · have hri : ¬ (200 : Int) < (px.length : Int) := by omega
              have hrj : decide ((200 : Int) < (px.length : Int)) = false := decide_eq_false hri
              have HNX := Lib.hid (HXX.out (by omega))
              clear hr
              go_wp2_with fail
              go_roundw
              case rel => exact ⟨k + 1, by omega, by go_num, HNX.out, HB.out⟩
              case measure => simp [intOf]; omega
          · obtain rfl : k = pn := by omega
            clear hlt
            have v1 : ¬ (k : Int) < (k : Int) := by omega
            have HOL : Hid (∀ o ∈ os, o.path.length ≤ 1000000) := fun o ho => by
              have := HALL.out o (by rw [List.take_of_length_le (by rw [HLO.out]; exact Nat.le_refl _)]; exact ho)
              omega
            have HXL : Hid (∀ x ∈ ls, x.length ≤ 1000000) := fun x hx => by have := HLG.out.2 x hx; omega
            obtain ⟨yp, yn, ya⟩ := HYP.out
            have C1 := Lib.hid (fun W (hW : Below w.heap.size w W) => all_any ls Y os A n c W (HS.out.below hW) HN.out HXL.out (by rw [yn, ya]; exact HOS.out.below hW) (by rw [yn]; have := HQ.out; omega) (by rw [yp]; have := HP.out; omega) HOL.out)
            have C2 := Lib.hid (fun W (hW : Below w.heap.size w W) => refAll_any ls Y os A n c W (HS.out.below hW) HN.out HXL.out (by rw [yn, ya]; exact HOS.out.below hW) (by rw [yn]; have := HQ.out; omega) (by rw [yp]; have := HP.out; omega) HOL.out)
            obtain ⟨R, hR⟩ : ∃ R, R = allF ls Y.path (pathsL os) := ⟨_, rfl⟩
            rw [← hR, HYV.out, ← HSP.out] at C1 C2
            obtain ⟨r1, r2⟩ := R
            dsimp only at C1 C2
            have rr1 : (r1 == r1) = true := beq_self_eq_true _
            have rr2 : (r2 == r2) = true := beq_self_eq_true _
            have c1 := C1.out wr HBR.out
            have KK : Hid (∀ W, Below wr.heap.size wr W → W.cell? ⟨w.heap.size, 0, none⟩ = some (.int .u8 knd) ∧ W.cell? ⟨w.heap.size, 1, none⟩ = some (.string sp) ∧ W.cell? ⟨w.heap.size, 2, none⟩ = some (.slice da dn dc) ∧ W.cell? ⟨w.heap.size, 3, none⟩ = some (.int .i64 ver) ∧ W.cell? ⟨w.heap.size, 4, none⟩ = some (.bool sq) ∧ W.cell? ⟨w.heap.size, 5, none⟩ = some (.bool ep) ∧ W.cell? ⟨w.heap.size, 6, none⟩ = some (.slice pa k pc)) := by
              intro W hW
              have kd := ((HK.out.below HB.out).below hW).cell
              exact ⟨kd 0, by rw [HSP.out]; exact kd 1, kd 2, kd 3, kd 4, kd 5, kd 6⟩
            clear hR yp yn ya C1
            go_wp2_with fail
            refine c1.mono ?_
            rintro e w3 ⟨rfl, hb⟩
            have B3 := Lib.hid (HBR.out.trans (hb.mono HBR.out.size))
            have c2 := C2.out w3 B3.out
            obtain ⟨g0, g1, g2, g3, g4, g5, g6⟩ := KK.out w3 hb
            clear hb c1 C2 k0 k1 k2 k3 k4 k5 k6
            go_wp2_with fail
            refine c2.mono ?_
            rintro e w4 ⟨rfl, hb⟩
            have B4 := Lib.hid (B3.out.trans (hb.mono B3.out.size))
            clear hb c2 g0 g1 g2 g3 g4 g5 g6 KK
            go_wp2_with fail
            refine (finds_any _).mono ?_
            rintro e wf ⟨rfl, hb⟩
            have BF := Lib.hid (B4.out.trans (hb.mono B4.out.size))
            clear hb
            go_wp2_with fail
            go_ret
            exact ⟨rfl, BF.out⟩
  · rw [hlo] at cl
    clear hln hlo
    generalize S pth = sp at *
    go_enter Tryd.func4, Tryd.ntmps4
    go_wp2_with fail
    refine cl.mono ?_
    rintro e w1 ⟨rfl, hb⟩
    have B1 := Lib.hid hb
    clear hb cl
    go_wp2_with fail
    go_ret
    exact ⟨rfl, HBA.out.trans (B1.out.mono HBA.out.size)⟩

set_option maxRecDepth 100000 in
theorem lifted (os : Os) (started : os.Started) (H : Type) (enc : TypeId × Value → H) :
    ReturnsInHanded {} Tryd.checked os 4 .any (fun w args => (Rows.regionAllSpec.pre enc Tryd.prog Tryd.f4 Rows.regionAllRow.domain false w args ∧ laidMetH Tryd.prog Rows.regionAllRow.laid w) ∧ sizedMet enc Tryd.prog Tryd.f4 (OpenSpec.ofChange Rows.regionAllSpec) false w args) (Rows.regionAllSpec.post enc Tryd.prog Tryd.f4 false true false false) := by
  refine returnsInHanded_of_change_and (C := Tryd.checked) (X := fun w _ => laidMetH Tryd.prog Rows.regionAllRow.laid w) (fun _ _ _ hh h => h.of_heap hh) own started (by kernel_rfl) Tryd.func4
    (ChangeSpec.witness_shaped (enc := enc) (C := Tryd.checked) (os := os) (X := fun w _ => laidMetH Tryd.prog Rows.regionAllRow.laid w) false (World.laidAll Tryd.prog os Rows.regionAllRow.laid) #[.slice none 0 0, .agg #[.int .u8 0, .string ⟨#[]⟩, .slice none 0 0, .int .i64 0, .bool false, .bool false, .slice none 0 0]] 8 (World.laidAll_os _ _ _)
      (World.shaped_of_ZipB (by kernel_rfl) (by kernel_rfl)) (by kernel_rfl) (by kernel_rfl) (by kernel_rfl)
      (by rw [MakeChecks.laidMetH_plain _ _ _ (by kernel_rfl)]; exact laidMet_laidAll _ (by kernel_rfl) (by kernel_rfl))) ?_
  intro W base args ds gs before hval0 hW _ _ _ _
  have hval : ∀ (j : Nat) t v, Tryd.f4.params[j]? = some t → args[j]? = some v → Value.okWide Tryd.prog W .any base t v := hval0
  have hW' := hW
  obtain ⟨p, q, hA0, hV, rfl, hfz, hnd⟩ := hW
  have hA : DataW.TrodAll enc Tryd.prog W 0 (fun _ => true) true Tryd.f4.params.toList args.toList ds p := hA0
  rw [Tryd.params4] at hA hval
  obtain ⟨v0, v1, d0, d1, p0, p1, rfl, rfl, rfl, h0, h1⟩ := trodAll_two hA
  obtain ⟨rfl, rfl⟩ := trodVars_none hV
  obtain ⟨A, n, c, ls, rfl, hc, hcm, hS⟩ := arg_texts (hval 0 _ v0 rfl rfl) h0
  obtain ⟨y, os, rfl, hpc, hpm, hO⟩ := arg_op (hval 1 _ v1 rfl rfl) h1
  refine (walk ls y os A n c W hS hO).mono fun e W' ⟨he, hb⟩ => ?_
  subst he
  exact ⟨_, rfl, post_true laidOut (by kernel_rfl) ty_bool (by kernel_rfl) rfl hW' hb rfl⟩

theorem over : Rows.regionAllRow.holds Tryd.pinned (OpenSpec.ofChange Rows.regionAllSpec) :=
  OpenClaim.holds_of_wide 4 Tryd.f4 rfl rfl rfl rfl rfl rfl rfl ⟨rfl, rfl, rfl, rfl, rfl⟩ rfl rfl rfl rfl rfl (by kernel_rfl) Tryd.func4 (by kernel_rfl)
    (of_decide_eq_true (by kernel_rfl)) (by unfold Func.isWrapper; first | (rw [if_pos (by decide +kernel)]; kernel_rfl) | (rw [if_neg (by decide +kernel)]; exact ⟨rfl, rfl⟩))
    (fun os started H enc _ => lifted os started H enc)

theorem proved : Rows.RegionAllCardSaid :=
  Claim7.holds_tied_plain_at .later [] Rows.regionAllCard.laidKinds true Rows.regionAllCard.stood.harness Rows.regionAllCard.stood.looks over (fun _ h => by cases h) (by kernel_rfl) (fun _ h => by cases h) regionAll_row_tie rfl ⟨rfl, rfl⟩ (by kernel_rfl) rfl
    (fun f fn hf hfn => by
      obtain rfl : f = 4 := Option.some.inj ((show Tryd.pinned.checked.prog.funcNamed Rows.regionAllRow.func = some 4 by kernel_rfl).symm.trans hf) |>.symm
      obtain rfl : fn = Tryd.f4 := (Option.some.inj (Tryd.func4.symm.trans hfn)).symm
      exact ⟨by kernel_rfl, fun j t ht => by
        have hall : (Tryd.f4.params.toList.all fun u => !Tryd.prog.wantsStandIn u) = true := by kernel_rfl
        exact (show Tryd.prog.wantsStandIn t = false by simpa using List.all_eq_true.1 hall t (by simpa using Array.mem_of_getElem? ht))⟩)
    (by kernel_rfl)
end Go.Proofs.YtnmlknhomhonaaaDoor.regionAll
