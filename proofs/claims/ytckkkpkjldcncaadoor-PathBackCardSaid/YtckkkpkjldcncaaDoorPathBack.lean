/- PathBack: a path is its parts, joined one by one; Join of Parent and Base is it; each of these is a path, and the path is under them all. For every input the call returns true, and each argument reads afterwards as it read before. No conditions. -/
import Derived.Test.YtckkkpkjldcncaaDoorPathGoes
import Derived.Test.YtckkkpkjldcncaaDoorPathFrame
import Derived.Test.YtckkkpkjldcncaaDoorPathUnder
import Derived.Deep.RegionHeld
namespace Go.Proofs.YtckkkpkjldcncaaDoor.pathBack
open Go.ChangeShapes Go.WideShapes Go.ChangeAt Go.RowKit Path

set_option maxRecDepth 8000 in
set_option maxHeartbeats 4000000 in
theorem walk (l : List UInt8) (w : World) : Calls Tryd.prog 5 #[.string (S l)] w fun e w' => e = .returned (.bool true) ∧ Below w.heap.size w w' := by
  have hz : ∀ x : List UInt8, ((S x).size : Int) = (x.length : Int) := fun x => by rw [S_size]
  have hsl := S_list
  by_cases hn : 200 < l.length
  · go_enter Tryd.func5, Tryd.ntmps5
    go_wp2_with fail
    go_ret
    exact ⟨rfl, Below.refl _ _⟩
  · have hl : l.length ≤ 1000000 := by omega
    have HL := Lib.hid hl
    have B0 := Lib.hid (Below.refl w.heap.size w)
    have HUR := Lib.hid (under_root l)
    cases hp : partsF l with
    | none =>
      have HC : Hid (checkE l = 30) := by show _ = _; unfold checkE; rw [hp]; rfl
      have HU : Hid (underF l [47] = false) := by show _ = _; rw [HUR.out, hp]; rfl
      clear hp
      go_enter Tryd.func5, Tryd.ntmps5
      go_wp2_with fail
      refine (Check_any l w HL.out).mono ?_
      rw [HC.out]
      rintro e w1 ⟨rfl, hb⟩
      have B1 := Lib.hid (B0.out.trans (hb.mono B0.out.size))
      clear hb
      go_wp2_with fail
      refine (Under_any l [47] w1 HL.out (by simp)).mono ?_
      rw [HU.out]
      rintro e w2 ⟨rfl, hb⟩
      have B2 := Lib.hid (B1.out.trans (hb.mono B1.out.size))
      clear hb
      go_wp2_with fail
      refine (goes_any w2).mono ?_
      rintro e w3 ⟨rfl, hb⟩
      have B3 := Lib.hid (B2.out.trans (hb.mono B2.out.size))
      clear hb
      go_wp2_with fail
      go_ret
      exact ⟨rfl, B3.out⟩
    | some ps =>
      have HC : Hid (checkE l = 0) := by show _ = _; unfold checkE; rw [hp]; rfl
      have HPL : Hid (partsL l = ps) := by show _ = _; unfold partsL; rw [hp]; rfl
      have HU : Hid (underF l [47] = true) := by show _ = _; rw [HUR.out, hp]; rfl
      have HUS : Hid (underF l l = true) := by
        show _ = _
        have := under_take hp ps.length (Nat.le_refl _)
        rwa [List.take_length, ← parts_back hp] at this
      have h64 : ps.length ≤ 64 := by
        have h1 := (parts_iff l ps).1 hp
        have h2 := h1.2.1
        rw [h1.1] at h2
        exact Nat.le_trans (ofL_length ps) h2
      have H64 : Hid (∀ i, (ofL (ps.take i)).length ≤ 64) := fun i => by
        have := ofL_take ps i
        have h1 := (parts_iff l ps).1 hp
        rw [← h1.1] at this
        omega
      have HNM : Hid (∀ i (h : i < ps.length), name ps[i] = true) := fun i h => ((parts_iff l ps).1 hp).2.2 _ (List.getElem_mem h)
      have HPT : Hid (∀ i, partsF (ofL (ps.take i)) = some (ps.take i)) := fun i => take_path hp i
      have HUN : Hid (∀ i, i ≤ ps.length → underF l (ofL (ps.take i)) = true) := fun i hi => under_take hp i hi
      have HNU : Hid (∀ i, i < ps.length → underF (ofL (ps.take i)) l = false) := fun i hi => not_under hp i hi
      have HAT : Hid (ofL (ps.take ps.length) = l) := by
        show _ = _
        rw [List.take_length]
        exact (parts_back hp).symm
      have HSL : Hid (∀ i (h : i < ps.length), (ps[i]).length ≤ 1000000) := fun i h => by
        have h1 := H64.out (i + 1)
        have h2 : ps.take (i + 1) ≠ [] := by intro h; have := congrArg List.length h; rw [List.length_take, List.length_nil] at this; omega
        have h3 : ofL (ps.take (i + 1)) = (ps.take i).flatMap (47 :: ·) ++ 47 :: ps[i] := by rw [← ofL_next i h]; unfold ofL; rw [if_neg h2]
        rw [h3, List.length_append, List.length_cons] at h1
        omega
      clear hp HUR
      go_enter Tryd.func5, Tryd.ntmps5
      go_wp2_with fail
      refine (Check_any l w HL.out).mono ?_
      rw [HC.out]
      rintro e w1 ⟨rfl, hb⟩
      have B1 := Lib.hid (B0.out.trans (hb.mono B0.out.size))
      clear hb
      go_wp2_with fail
      refine (Parts_any l w1 HL.out).mono ?_
      rw [HPL.out]
      rintro e w2 ⟨A, c, rfl, hb, hr⟩
      have B2 := Lib.hid (B1.out.trans (hb.mono B1.out.size))
      have HR := Lib.hid hr
      clear hb hr
      go_wp2_with fail
      go_loopw [4, 5, 6, 7] (fun at_ i _ _ wr => ∃ k : Nat, k ≤ ps.length ∧ i = .int .i64 (k : Int) ∧ at_ = .string (S (ofL (ps.take k))) ∧ Below w2.heap.size w2 wr) (fun _ i _ _ _ => ps.length - (intOf i).toNat)
      case atStart => exact ⟨0, Nat.zero_le _, rfl, rfl, Below.refl _ _⟩
      case round =>
        obtain ⟨k, hk, rfl, rfl, hbel⟩ := hrel
        have HB3 := Lib.hid hbel
        have B3 := Lib.hid (B2.out.trans (hbel.mono B2.out.size))
        clear hbel
        by_cases hlt : k < ps.length
        · obtain ⟨ad, rfl, _⟩ := HR.out.cells (by omega)
          have HCELL : Hid (∀ W, Below w2.heap.size w2 W → W.cell? (ad.add k) = some (.string (S ps[k]))) := fun W hW => by
            obtain ⟨_, e, hc⟩ := (HR.out.below hW).cells (by omega)
            injection e with e
            subst e
            exact hc k _ (sv_get hlt)
          have hc := HCELL.out wr HB3.out
          have HN : Hid (nameE ps[k] = 0) := by show _ = _; unfold nameE; rw [HNM.out k hlt]; rfl
          have HU1 := Lib.hid (HUN.out k (by omega))
          have HU2 := Lib.hid (HNU.out k hlt)
          have HE0 : Hid ((ofL (ps.take k)).length ≤ 1000000) := Nat.le_trans (H64.out k) (by decide)
          have HE1 : Hid ((ofL (ps.take (k + 1))).length ≤ 1000000) := Nat.le_trans (H64.out (k + 1)) (by decide)
          have HTA : Hid (ps.take (k + 1) = ps.take k ++ [ps[k]]) := (List.take_append_getElem hlt).symm
          have HJ : Hid (joinF (ofL (ps.take k)) ps[k] = (ofL (ps.take (k + 1)), 0)) := by
            show _ = _
            unfold joinF
            rw [HPT.out k]
            simp only
            rw [if_pos (HNM.out k hlt), ← HTA.out, if_pos (H64.out (k + 1))]
          have HPA : Hid (parentF (ofL (ps.take (k + 1))) = ofL (ps.take k)) := by
            show _ = _
            unfold parentF
            rw [HPT.out (k + 1)]
            simp only
            rw [HTA.out, List.dropLast_concat]
          have HBA : Hid (baseF (ofL (ps.take (k + 1))) = ps[k]) := by
            show _ = _
            unfold baseF partsL
            rw [HPT.out (k + 1)]
            show (ps.take (k + 1)).getLastD [] = _
            rw [HTA.out, List.getLastD_concat]
          have HCN : Hid (checkE (ofL (ps.take (k + 1))) = 0) := by show _ = _; unfold checkE; rw [HPT.out (k + 1)]; rfl
          have HSK := Lib.hid (HSL.out k hlt)
          clear HTA
          generalize hx1 : ofL (ps.take (k + 1)) = x1 at *
          generalize ofL (ps.take k) = x0 at *
          generalize ps[k] = sk at *
          have HX1 := Lib.hid hx1
          clear hx1
          go_wp2_with fail
          refine (Name_any sk wr HSK.out).mono ?_
          rw [HN.out]
          rintro e w4 ⟨rfl, hb⟩
          have HB4 := Lib.hid (HB3.out.trans (hb.mono HB3.out.size))
          have B4 := Lib.hid (B3.out.trans (hb.mono B3.out.size))
          clear hb
          go_wp2_with fail
          refine (Under_any l x0 w4 HL.out HE0.out).mono ?_
          rw [HU1.out]
          rintro e w5 ⟨rfl, hb⟩
          have HB5 := Lib.hid (HB4.out.trans (hb.mono HB4.out.size))
          have B5 := Lib.hid (B4.out.trans (hb.mono B4.out.size))
          clear hb
          go_wp2_with fail
          have hc6 := fun W h => HCELL.out W h
          clear hc6
          refine (Under_any x0 l w5 HE0.out HL.out).mono ?_
          rw [HU2.out]
          rintro e w6 ⟨rfl, hb⟩
          have HB6 := Lib.hid (HB5.out.trans (hb.mono HB5.out.size))
          have B6 := Lib.hid (B5.out.trans (hb.mono B5.out.size))
          clear hb
          have hcb := HCELL.out w6 HB6.out
          clear hc
          go_wp2_with fail
          refine (Join_any x0 sk w6 HE0.out HSK.out).mono ?_
          rw [HJ.out]
          rintro e w7 ⟨rfl, hb⟩
          have HB7 := Lib.hid (HB6.out.trans (hb.mono HB6.out.size))
          have B7 := Lib.hid (B6.out.trans (hb.mono B6.out.size))
          clear hb
          go_wp2_with fail
          clear hcb
          have HZ7 := Lib.hid (below_drewN HB7.out 1)
          have v1 : k < ps.length := hlt
          have v2 : (k : Int) < (ps.length : Int) := by omega
          have HB7d : Hid (Below w2.heap.size w2 w7.drew) := ⟨HB7.out.os, HB7.out.tape, HB7.out.output, HB7.out.size, HB7.out.block⟩
          go_region_held (fun w' => w'.cell? (ad.add k) = some (.string (S sk)))
            (first | assumption | exact HCELL.out _ HF3.out | exact HCELL.out _ HF2.out | exact HCELL.out _ HF1.out | exact HCELL.out _ HB7d.out)
            (first
              | (go_at_call 15; refine (Parent_any x1 _ HE1.out).mono ?_; rw [HPA.out]; rintro e wa ⟨rfl, hb⟩; have HF1 := Lib.hid (HB7d.out.trans (hb.mono HB7d.out.size)); clear hb)
              | (go_at_call 16; refine (Base_any x1 _ HE1.out).mono ?_; rw [HBA.out]; rintro e wb ⟨rfl, hb⟩; have HF2 := Lib.hid (HF1.out.trans (hb.mono HF1.out.size)); clear hb)
              | (go_at_call 13; refine (Check_any x1 _ HE1.out).mono ?_; rw [HCN.out]; rintro e wc ⟨rfl, hb⟩; have HF3 := Lib.hid (HF2.out.trans (hb.mono HF2.out.size)); clear hb))
          all_goals
            go_wp2_with fail
            exact ⟨⟨k + 1, by omega, rfl, by rw [HX1.out], HF3.out⟩, by simp [intOf]; omega⟩
        · obtain rfl : k = ps.length := by omega
          rw [HAT.out]
          go_wp2_with fail
          refine (Under_any l l wr HL.out HL.out).mono ?_
          rw [HUS.out]
          rintro e w4 ⟨rfl, hb⟩
          have B4 := Lib.hid (B3.out.trans (hb.mono B3.out.size))
          clear hb
          go_wp2_with fail
          refine (Under_any l [47] w4 HL.out (by simp)).mono ?_
          rw [HU.out]
          rintro e w5 ⟨rfl, hb⟩
          have B5 := Lib.hid (B4.out.trans (hb.mono B4.out.size))
          clear hb
          go_wp2_with fail
          refine (goes_any w5).mono ?_
          rintro e w6 ⟨rfl, hb⟩
          have B6 := Lib.hid (B5.out.trans (hb.mono B5.out.size))
          clear hb
          go_wp2_with fail
          go_ret
          exact ⟨rfl, B6.out⟩

set_option maxRecDepth 100000 in
theorem lifted (os : Os) (started : os.Started) (H : Type) (enc : TypeId × Value → H) :
    ReturnsInHanded {} Tryd.checked os 5 .any (fun w args => (Rows.pathBackSpec.pre enc Tryd.prog Tryd.f5 Rows.pathBackRow.domain false w args ∧ laidMetH Tryd.prog Rows.pathBackRow.laid w) ∧ sizedMet enc Tryd.prog Tryd.f5 (OpenSpec.ofChange Rows.pathBackSpec) false w args) (Rows.pathBackSpec.post enc Tryd.prog Tryd.f5 false true false false) := by
  refine returnsInHanded_of_change_and (C := Tryd.checked) (X := fun w _ => laidMetH Tryd.prog Rows.pathBackRow.laid w) (fun _ _ _ hh h => h.of_heap hh) own started (by kernel_rfl) Tryd.func5
    (ChangeSpec.witness_shaped (enc := enc) (C := Tryd.checked) (os := os) (X := fun w _ => laidMetH Tryd.prog Rows.pathBackRow.laid w) false (World.laidAll Tryd.prog os Rows.pathBackRow.laid) #[.string ⟨#[]⟩] 8 (World.laidAll_os _ _ _)
      (World.shaped_of_ZipB (by kernel_rfl) (by kernel_rfl)) (by kernel_rfl) (by kernel_rfl) (by kernel_rfl)
      (by rw [MakeChecks.laidMetH_plain _ _ _ (by kernel_rfl)]; exact laidMet_laidAll _ (by kernel_rfl) (by kernel_rfl))) ?_
  intro W base args ds gs before hval0 hW _ _ _ _
  have hval : ∀ (j : Nat) t v, Tryd.f5.params[j]? = some t → args[j]? = some v → Value.okWide Tryd.prog W .any base t v := hval0
  have hW' := hW
  obtain ⟨p, q, hA0, hV, rfl, hfz, hnd⟩ := hW
  have hA : DataW.TrodAll enc Tryd.prog W 0 (fun _ => true) true Tryd.f5.params.toList args.toList ds p := hA0
  rw [Tryd.params5] at hA hval
  obtain ⟨v0, d0, rfl, rfl, h0⟩ := trodAll_one hA
  obtain ⟨rfl, rfl⟩ := trodVars_none hV
  obtain ⟨l, rfl⟩ := open_text ty_string (hval 0 _ v0 rfl rfl)
  refine (walk l W).mono fun e W' ⟨he, hb⟩ => ?_
  subst he
  exact ⟨_, rfl, post_true laidOut (by kernel_rfl) ty_bool (by kernel_rfl) rfl hW' hb rfl⟩

theorem over : Rows.pathBackRow.holds Tryd.pinned (OpenSpec.ofChange Rows.pathBackSpec) :=
  OpenClaim.holds_of_wide 5 Tryd.f5 rfl rfl rfl rfl rfl rfl rfl ⟨rfl, rfl, rfl, rfl, rfl⟩ rfl rfl rfl rfl rfl (by kernel_rfl) Tryd.func5 (by kernel_rfl)
    (of_decide_eq_true (by kernel_rfl)) (by unfold Func.isWrapper; first | (rw [if_pos (by decide +kernel)]; kernel_rfl) | (rw [if_neg (by decide +kernel)]; exact ⟨rfl, rfl⟩))
    (fun os started H enc _ => lifted os started H enc)

theorem proved : Rows.PathBackCardSaid :=
  Claim7.holds_tied_plain_at .later [] [.data, .pinned] true Rows.pathBackCard.stood.harness false over (fun _ h => by cases h) (by kernel_rfl) (fun _ h => by cases h) pathBack_row_tie rfl ⟨rfl, rfl⟩ (by kernel_rfl) rfl
    (fun f fn hf hfn => by
      obtain rfl : f = 5 := Option.some.inj ((show Tryd.pinned.checked.prog.funcNamed Rows.pathBackRow.func = some 5 by kernel_rfl).symm.trans hf) |>.symm
      obtain rfl : fn = Tryd.f5 := (Option.some.inj (Tryd.func5.symm.trans hfn)).symm
      exact ⟨by kernel_rfl, fun j t ht => by
        have hall : (Tryd.f5.params.toList.all fun u => !Tryd.prog.wantsStandIn u) = true := by kernel_rfl
        exact (show Tryd.prog.wantsStandIn t = false by simpa using List.all_eq_true.1 hall t (by simpa using Array.mem_of_getElem? ht))⟩)
    (by kernel_rfl)
end Go.Proofs.YtckkkpkjldcncaaDoor.pathBack
