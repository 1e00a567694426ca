/- PathDeep: from a path, by Parent again and again, one comes to / in as many steps as it has parts; each is above it, and shorter. For every input the call returns true, and each argument reads afterwards as it read before. No conditions. -/
import Derived.Test.YtckkkpkjldcncaaDoorPathGoes
import Derived.Test.YtckkkpkjldcncaaDoorPathFrame
import Derived.Test.YtckkkpkjldcncaaDoorPathUnder
namespace Go.Proofs.YtckkkpkjldcncaaDoor.pathDeep
open Go.ChangeShapes Go.WideShapes Go.ChangeAt Go.RowKit Path

set_option maxRecDepth 8000 in
set_option maxHeartbeats 4000000 in
theorem walk (l : List UInt8) (w : World) : Calls Tryd.prog 9 #[.string (S l)] w fun e w' => e = .returned (.bool true) ∧ Below w.heap.size w w' := by
  have hz : ∀ x : List UInt8, ((S x).size : Int) = (x.length : Int) := fun x => by rw [S_size]
  have hsl := S_list
  by_cases hn : 200 < l.length
  · go_enter Tryd.func9, Tryd.ntmps9
    go_wp2_with fail
    go_ret
    exact ⟨rfl, Below.refl _ _⟩
  · have hl : l.length ≤ 1000000 := by omega
    have HL := Lib.hid hl
    have B0 := Lib.hid (Below.refl w.heap.size w)
    cases hp : partsF l with
    | none =>
      have HC : Hid (checkE l = 30) := by show _ = _; unfold checkE; rw [hp]; rfl
      have HPA : Hid (parentF l = []) := by show _ = _; unfold parentF; rw [hp]
      clear hp
      go_enter Tryd.func9, Tryd.ntmps9
      go_wp2_with fail
      refine (Check_any l w HL.out).mono ?_
      rw [HC.out]
      rintro e w1 ⟨rfl, hb⟩
      have B1 := Lib.hid (B0.out.trans (hb.mono B0.out.size))
      clear hb
      go_wp2_with fail
      refine (Parent_any l w1 HL.out).mono ?_
      rw [HPA.out]
      rintro e w2 ⟨rfl, hb⟩
      have B2 := Lib.hid (B1.out.trans (hb.mono B1.out.size))
      clear hb
      go_wp2_with fail
      refine (goes_any w2).mono ?_
      rintro e w3 ⟨rfl, hb⟩
      have B3 := Lib.hid (B2.out.trans (hb.mono B2.out.size))
      clear hb
      go_wp2_with fail
      go_ret
      exact ⟨rfl, B3.out⟩
    | some ps =>
      have HP := Lib.hid hp
      have HC : Hid (checkE l = 0) := by show _ = _; unfold checkE; rw [hp]; rfl
      have HPL : Hid (partsL l = ps) := by show _ = _; unfold partsL; rw [hp]; rfl
      have h64 : ps.length ≤ 64 := by
        have h1 := (parts_iff l ps).1 hp
        have h2 := h1.2.1
        rw [h1.1] at h2
        exact Nat.le_trans (ofL_length ps) h2
      have HLE : Hid (∀ i, (ofL (ps.take i)).length ≤ 1000000) := fun i => by
        have := ofL_take ps i
        rw [← parts_back hp] at this
        omega
      have HPA : Hid (∀ i, i < ps.length → parentF (ofL (ps.take (i + 1))) = ofL (ps.take i)) := fun i hi => by
        unfold parentF
        rw [take_path hp (i + 1)]
        simp only
        congr 1
        rw [List.dropLast_eq_take, List.length_take, List.take_take]
        congr 1
        omega
      have HLT : Hid (∀ i, i < ps.length → (ofL (ps.take i)).length < (ofL (ps.take (i + 1))).length) := fun i hi => ofL_lt hp i hi
      have HUN : Hid (∀ i, i ≤ ps.length → underF l (ofL (ps.take i)) = true) := fun i hi => under_take hp i hi
      have HPN : Hid (∀ i, i ≤ ps.length → (partsL (ofL (ps.take i))).length = i) := fun i hi => by
        unfold partsL
        rw [take_path hp i]
        show (ps.take i).length = i
        rw [List.length_take]
        omega
      have HAT : Hid (l = ofL (ps.take ps.length)) := by
        show _ = _
        rw [List.take_length]
        exact parts_back hp
      clear hp
      go_enter Tryd.func9, Tryd.ntmps9
      go_wp2_with fail
      refine (Check_any l w HL.out).mono ?_
      rw [HC.out]
      rintro e w1 ⟨rfl, hb⟩
      have B1 := Lib.hid (B0.out.trans (hb.mono B0.out.size))
      clear hb
      go_wp2_with fail
      refine (Parts_any l w1 HL.out).mono ?_
      rw [HPL.out]
      rintro e w2 ⟨A, c, rfl, hb, _⟩
      have B2 := Lib.hid (B1.out.trans (hb.mono B1.out.size))
      clear hb
      go_wp2_with fail
      go_loopw [3, 4, 5] (fun at_ i _ wr => ∃ k : Nat, k ≤ ps.length ∧ i = .int .i64 (k : Int) ∧ at_ = .string (S (ofL (ps.take k))) ∧ Below w.heap.size w wr) (fun _ i _ _ => (intOf i).toNat)
      case atStart => exact ⟨ps.length, Nat.le_refl _, rfl, by rw [← HAT.out], B2.out⟩
      case round =>
        obtain ⟨k, hk, rfl, rfl, hbel⟩ := hrel
        have B3 := Lib.hid hbel
        clear hbel
        by_cases h0 : 0 < k
        · obtain ⟨j, rfl⟩ : ∃ j, k = j + 1 := ⟨k - 1, by omega⟩
          have HPJ := Lib.hid (HPA.out j (by omega))
          have hlt := HLT.out j (by omega)
          have HUJ := Lib.hid (HUN.out j (by omega))
          have HNJ := Lib.hid (HPN.out j (by omega))
          have HE1 := Lib.hid (HLE.out (j + 1))
          have HE0 := Lib.hid (HLE.out j)
          generalize ofL (ps.take (j + 1)) = x1 at *
          generalize hx0 : ofL (ps.take j) = x0 at *
          have HX0 := Lib.hid hx0
          clear hx0
          go_wp2_with fail
          refine (Parent_any x1 wr HE1.out).mono ?_
          rw [HPJ.out]
          rintro e w4 ⟨rfl, hb⟩
          have B4 := Lib.hid (B3.out.trans (hb.mono B3.out.size))
          clear hb
          go_wp2_with fail
          refine (Under_any l x0 w4 HL.out HE0.out).mono ?_
          rw [HUJ.out]
          rintro e w5 ⟨rfl, hb⟩
          have B5 := Lib.hid (B4.out.trans (hb.mono B4.out.size))
          clear hb
          go_wp2_with fail
          refine (Parts_any x0 w5 HE0.out).mono ?_
          rw [HNJ.out]
          rintro e w6 ⟨A2, c2, rfl, hb, _⟩
          have B6 := Lib.hid (B5.out.trans (hb.mono B5.out.size))
          clear hb
          go_wp2_with fail
          exact ⟨⟨j, by omega, rfl, by rw [HX0.out], B6.out⟩, by simp [intOf]⟩
        · obtain rfl : k = 0 := by omega
          have HR : Hid (ofL (ps.take 0) = [47]) := rfl
          rw [HR.out]
          have HPR : Hid (parentF [47] = [47]) := by show _ = _; decide +kernel
          go_wp2_with fail
          refine (Parent_any [47] wr (by simp)).mono ?_
          rw [HPR.out]
          rintro e w4 ⟨rfl, hb⟩
          have B4 := Lib.hid (B3.out.trans (hb.mono B3.out.size))
          clear hb
          go_wp2_with fail
          refine (goes_any w4).mono ?_
          rintro e w5 ⟨rfl, hb⟩
          have B5 := Lib.hid (B4.out.trans (hb.mono B4.out.size))
          clear hb
          go_wp2_with fail
          go_ret
          exact ⟨rfl, B5.out⟩

set_option maxRecDepth 100000 in
theorem lifted (os : Os) (started : os.Started) (H : Type) (enc : TypeId × Value → H) :
    ReturnsInHanded {} Tryd.checked os 9 .any (fun w args => (Rows.pathDeepSpec.pre enc Tryd.prog Tryd.f9 Rows.pathDeepRow.domain false w args ∧ laidMetH Tryd.prog Rows.pathDeepRow.laid w) ∧ sizedMet enc Tryd.prog Tryd.f9 (OpenSpec.ofChange Rows.pathDeepSpec) false w args) (Rows.pathDeepSpec.post enc Tryd.prog Tryd.f9 false true false false) := by
  refine returnsInHanded_of_change_and (C := Tryd.checked) (X := fun w _ => laidMetH Tryd.prog Rows.pathDeepRow.laid w) (fun _ _ _ hh h => h.of_heap hh) own started (by kernel_rfl) Tryd.func9
    (ChangeSpec.witness_shaped (enc := enc) (C := Tryd.checked) (os := os) (X := fun w _ => laidMetH Tryd.prog Rows.pathDeepRow.laid w) false (World.laidAll Tryd.prog os Rows.pathDeepRow.laid) #[.string ⟨#[]⟩] 8 (World.laidAll_os _ _ _)
      (World.shaped_of_ZipB (by kernel_rfl) (by kernel_rfl)) (by kernel_rfl) (by kernel_rfl) (by kernel_rfl)
      (by rw [MakeChecks.laidMetH_plain _ _ _ (by kernel_rfl)]; exact laidMet_laidAll _ (by kernel_rfl) (by kernel_rfl))) ?_
  intro W base args ds gs before hval0 hW _ _ _ _
  have hval : ∀ (j : Nat) t v, Tryd.f9.params[j]? = some t → args[j]? = some v → Value.okWide Tryd.prog W .any base t v := hval0
  have hW' := hW
  obtain ⟨p, q, hA0, hV, rfl, hfz, hnd⟩ := hW
  have hA : DataW.TrodAll enc Tryd.prog W 0 (fun _ => true) true Tryd.f9.params.toList args.toList ds p := hA0
  rw [Tryd.params9] at hA hval
  obtain ⟨v0, d0, rfl, rfl, h0⟩ := trodAll_one hA
  obtain ⟨rfl, rfl⟩ := trodVars_none hV
  obtain ⟨l, rfl⟩ := open_text ty_string (hval 0 _ v0 rfl rfl)
  refine (walk l W).mono fun e W' ⟨he, hb⟩ => ?_
  subst he
  exact ⟨_, rfl, post_true laidOut (by kernel_rfl) ty_bool (by kernel_rfl) rfl hW' hb rfl⟩

theorem over : Rows.pathDeepRow.holds Tryd.pinned (OpenSpec.ofChange Rows.pathDeepSpec) :=
  OpenClaim.holds_of_wide 9 Tryd.f9 rfl rfl rfl rfl rfl rfl rfl ⟨rfl, rfl, rfl, rfl, rfl⟩ rfl rfl rfl rfl rfl (by kernel_rfl) Tryd.func9 (by kernel_rfl)
    (of_decide_eq_true (by kernel_rfl)) (by unfold Func.isWrapper; first | (rw [if_pos (by decide +kernel)]; kernel_rfl) | (rw [if_neg (by decide +kernel)]; exact ⟨rfl, rfl⟩))
    (fun os started H enc _ => lifted os started H enc)

theorem proved : Rows.PathDeepCardSaid :=
  Claim7.holds_tied_plain_at .later [] [.data, .pinned] true Rows.pathDeepCard.stood.harness false over (fun _ h => by cases h) (by kernel_rfl) (fun _ h => by cases h) pathDeep_row_tie rfl ⟨rfl, rfl⟩ (by kernel_rfl) rfl
    (fun f fn hf hfn => by
      obtain rfl : f = 9 := Option.some.inj ((show Tryd.pinned.checked.prog.funcNamed Rows.pathDeepRow.func = some 9 by kernel_rfl).symm.trans hf) |>.symm
      obtain rfl : fn = Tryd.f9 := (Option.some.inj (Tryd.func9.symm.trans hfn)).symm
      exact ⟨by kernel_rfl, fun j t ht => by
        have hall : (Tryd.f9.params.toList.all fun u => !Tryd.prog.wantsStandIn u) = true := by kernel_rfl
        exact (show Tryd.prog.wantsStandIn t = false by simpa using List.all_eq_true.1 hall t (by simpa using Array.mem_of_getElem? ht))⟩)
    (by kernel_rfl)
end Go.Proofs.YtckkkpkjldcncaaDoor.pathDeep
