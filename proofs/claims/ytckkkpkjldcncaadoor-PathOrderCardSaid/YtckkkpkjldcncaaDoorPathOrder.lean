/- PathOrder: Under is an order: two that are under each other are the same; it goes on; of two that a third is under one is under the other. For every input the call returns true, and each argument reads afterwards as it read before. No conditions. -/
import Derived.Test.YtckkkpkjldcncaaDoorPathGoes
import Derived.Test.YtckkkpkjldcncaaDoorPathFrame
import Derived.Test.YtckkkpkjldcncaaDoorPathUnder
namespace Go.Proofs.YtckkkpkjldcncaaDoor.pathOrder
open Go.ChangeShapes Go.WideShapes Go.ChangeAt Go.RowKit Path

set_option maxRecDepth 8000 in
set_option maxHeartbeats 4000000 in
theorem walk (a b c : List UInt8) (w : World) : Calls Tryd.prog 6 #[.string (S a), .string (S b), .string (S c)] w fun e w' => e = .returned (.bool true) ∧ Below w.heap.size w w' := by
  have hza : ((S a).size : Int) = (a.length : Int) := by rw [S_size]
  have hzb : ((S b).size : Int) = (b.length : Int) := by rw [S_size]
  have hzc : ((S c).size : Int) = (c.length : Int) := by rw [S_size]
  have hsl := S_list
  by_cases hn : 200 < a.length ∨ 200 < b.length ∨ 200 < c.length
  · have hq : (decide ((200 : Int) < (a.length : Int)) || decide ((200 : Int) < (b.length : Int)) || decide ((200 : Int) < (c.length : Int))) = true := by
      simp
      omega
    rcases hn with hn | hn | hn
    all_goals
      go_enter Tryd.func6, Tryd.ntmps6
      go_wp2_with fail
    all_goals
      go_ret
      exact ⟨rfl, Below.refl _ _⟩
  · have h1 : a.length ≤ 200 := by omega
    have h2 : b.length ≤ 200 := by omega
    have h3 : c.length ≤ 200 := by omega
    clear hn
    have HA : Hid (a.length ≤ 1000000) := Nat.le_trans h1 (by decide)
    have HB : Hid (b.length ≤ 1000000) := Nat.le_trans h2 (by decide)
    have HC : Hid (c.length ≤ 1000000) := Nat.le_trans h3 (by decide)
    have B0 := Lib.hid (Below.refl w.heap.size w)
    have U1 : Hid (underF a b = true → underF b a = true → a = b) := under_same
    have U2 : Hid (underF a b = true → underF b c = true → underF a c = true) := under_on
    have U3 : Hid (underF a b = true → underF a c = true → underF b c = true ∨ underF c b = true) := under_two
    have KAC : Hid (∀ W, Calls Tryd.prog 21 #[.string (S a), .string (S c)] W fun e w' => e = .returned (.bool (underF a c)) ∧ Below W.heap.size W w') := fun W => Under_any a c W HA.out HC.out
    have KCB : Hid (∀ W, Calls Tryd.prog 21 #[.string (S c), .string (S b)] W fun e w' => e = .returned (.bool (underF c b)) ∧ Below W.heap.size W w') := fun W => Under_any c b W HC.out HB.out
    go_enter Tryd.func6, Tryd.ntmps6
    go_wp2_with fail
    refine (Under_any a b w HA.out HB.out).mono ?_
    rintro e w1 ⟨rfl, hb⟩
    have B1 := Lib.hid (B0.out.trans (hb.mono B0.out.size))
    clear hb
    go_wp2_with fail
    refine (Under_any b c w1 HB.out HC.out).mono ?_
    rintro e w2 ⟨rfl, hb⟩
    have B2 := Lib.hid (B1.out.trans (hb.mono B1.out.size))
    clear hb
    go_wp2_with fail
    refine (Under_any b a w2 HB.out HA.out).mono ?_
    rintro e w3 ⟨rfl, hb⟩
    have B3 := Lib.hid (B2.out.trans (hb.mono B2.out.size))
    clear hb
    generalize underF a b = x at *
    generalize underF b c = y at *
    generalize underF b a = z at *
    generalize underF a c = u at *
    generalize underF c b = v at *
    cases x
    · go_wp2_with fail
      refine (goes_any w3).mono ?_
      rintro e w4 ⟨rfl, hb⟩
      have B4 := Lib.hid (B3.out.trans (hb.mono B3.out.size))
      clear hb
      go_wp2_with fail
      go_ret
      exact ⟨rfl, B4.out⟩
    · cases z
      · cases y
        · cases u
          · go_wp2_with fail
            refine (KAC.out w3).mono ?_
            rintro e w4 ⟨rfl, hb⟩
            have B4 := Lib.hid (B3.out.trans (hb.mono B3.out.size))
            clear hb
            go_wp2_with fail
            refine (goes_any w4).mono ?_
            rintro e w5 ⟨rfl, hb⟩
            have B5 := Lib.hid (B4.out.trans (hb.mono B4.out.size))
            clear hb
            go_wp2_with fail
            go_ret
            exact ⟨rfl, B5.out⟩
          · obtain rfl : v = true := by rcases U3.out rfl rfl with h | h; cases h; exact h
            go_wp2_with fail
            refine (KAC.out w3).mono ?_
            rintro e w4 ⟨rfl, hb⟩
            have B4 := Lib.hid (B3.out.trans (hb.mono B3.out.size))
            clear hb
            go_wp2_with fail
            refine (KCB.out w4).mono ?_
            rintro e w5 ⟨rfl, hb⟩
            have B5 := Lib.hid (B4.out.trans (hb.mono B4.out.size))
            clear hb
            go_wp2_with fail
            refine (goes_any w5).mono ?_
            rintro e w6 ⟨rfl, hb⟩
            have B6 := Lib.hid (B5.out.trans (hb.mono B5.out.size))
            clear hb
            go_wp2_with fail
            go_ret
            exact ⟨rfl, B6.out⟩
        · obtain rfl : u = true := U2.out rfl rfl
          go_wp2_with fail
          refine (KAC.out w3).mono ?_
          rintro e w4 ⟨rfl, hb⟩
          have B4 := Lib.hid (B3.out.trans (hb.mono B3.out.size))
          clear hb
          go_wp2_with fail
          refine (KAC.out w4).mono ?_
          rintro e w5 ⟨rfl, hb⟩
          have B5 := Lib.hid (B4.out.trans (hb.mono B4.out.size))
          clear hb
          go_wp2_with fail
          refine (goes_any w5).mono ?_
          rintro e w6 ⟨rfl, hb⟩
          have B6 := Lib.hid (B5.out.trans (hb.mono B5.out.size))
          clear hb
          go_wp2_with fail
          go_ret
          exact ⟨rfl, B6.out⟩
      · have hab : (a == b) = true := beq_iff_eq.2 (U1.out rfl rfl)
        cases y
        · cases u
          · go_wp2_with fail
            refine (KAC.out w3).mono ?_
            rintro e w4 ⟨rfl, hb⟩
            have B4 := Lib.hid (B3.out.trans (hb.mono B3.out.size))
            clear hb
            go_wp2_with fail
            refine (goes_any w4).mono ?_
            rintro e w5 ⟨rfl, hb⟩
            have B5 := Lib.hid (B4.out.trans (hb.mono B4.out.size))
            clear hb
            go_wp2_with fail
            go_ret
            exact ⟨rfl, B5.out⟩
          · obtain rfl : v = true := by rcases U3.out rfl rfl with h | h; cases h; exact h
            go_wp2_with fail
            refine (KAC.out w3).mono ?_
            rintro e w4 ⟨rfl, hb⟩
            have B4 := Lib.hid (B3.out.trans (hb.mono B3.out.size))
            clear hb
            go_wp2_with fail
            refine (KCB.out w4).mono ?_
            rintro e w5 ⟨rfl, hb⟩
            have B5 := Lib.hid (B4.out.trans (hb.mono B4.out.size))
            clear hb
            go_wp2_with fail
            refine (goes_any w5).mono ?_
            rintro e w6 ⟨rfl, hb⟩
            have B6 := Lib.hid (B5.out.trans (hb.mono B5.out.size))
            clear hb
            go_wp2_with fail
            go_ret
            exact ⟨rfl, B6.out⟩
        · obtain rfl : u = true := U2.out rfl rfl
          go_wp2_with fail
          refine (KAC.out w3).mono ?_
          rintro e w4 ⟨rfl, hb⟩
          have B4 := Lib.hid (B3.out.trans (hb.mono B3.out.size))
          clear hb
          go_wp2_with fail
          refine (KAC.out w4).mono ?_
          rintro e w5 ⟨rfl, hb⟩
          have B5 := Lib.hid (B4.out.trans (hb.mono B4.out.size))
          clear hb
          go_wp2_with fail
          refine (goes_any w5).mono ?_
          rintro e w6 ⟨rfl, hb⟩
          have B6 := Lib.hid (B5.out.trans (hb.mono B5.out.size))
          clear hb
          go_wp2_with fail
          go_ret
          exact ⟨rfl, B6.out⟩

set_option maxRecDepth 100000 in
theorem lifted (os : Os) (started : os.Started) (H : Type) (enc : TypeId × Value → H) :
    ReturnsInHanded {} Tryd.checked os 6 .any (fun w args => (Rows.pathOrderSpec.pre enc Tryd.prog Tryd.f6 Rows.pathOrderRow.domain false w args ∧ laidMetH Tryd.prog Rows.pathOrderRow.laid w) ∧ sizedMet enc Tryd.prog Tryd.f6 (OpenSpec.ofChange Rows.pathOrderSpec) false w args) (Rows.pathOrderSpec.post enc Tryd.prog Tryd.f6 false true false false) := by
  refine returnsInHanded_of_change_and (C := Tryd.checked) (X := fun w _ => laidMetH Tryd.prog Rows.pathOrderRow.laid w) (fun _ _ _ hh h => h.of_heap hh) own started (by kernel_rfl) Tryd.func6
    (ChangeSpec.witness_shaped (enc := enc) (C := Tryd.checked) (os := os) (X := fun w _ => laidMetH Tryd.prog Rows.pathOrderRow.laid w) false (World.laidAll Tryd.prog os Rows.pathOrderRow.laid) #[.string ⟨#[]⟩, .string ⟨#[]⟩, .string ⟨#[]⟩] 8 (World.laidAll_os _ _ _)
      (World.shaped_of_ZipB (by kernel_rfl) (by kernel_rfl)) (by kernel_rfl) (by kernel_rfl) (by kernel_rfl)
      (by rw [MakeChecks.laidMetH_plain _ _ _ (by kernel_rfl)]; exact laidMet_laidAll _ (by kernel_rfl) (by kernel_rfl))) ?_
  intro W base args ds gs before hval0 hW _ _ _ _
  have hval : ∀ (j : Nat) t v, Tryd.f6.params[j]? = some t → args[j]? = some v → Value.okWide Tryd.prog W .any base t v := hval0
  have hW' := hW
  obtain ⟨p, q, hA0, hV, rfl, hfz, hnd⟩ := hW
  have hA : DataW.TrodAll enc Tryd.prog W 0 (fun _ => true) true Tryd.f6.params.toList args.toList ds p := hA0
  rw [Tryd.params6] at hA hval
  obtain ⟨v0, v1, v2, d0, d1, d2, p0, p1, p2, rfl, rfl, rfl, h0, h1, h2⟩ := trodAll_three hA
  obtain ⟨rfl, rfl⟩ := trodVars_none hV
  obtain ⟨a, rfl⟩ := open_text ty_string (hval 0 _ v0 rfl rfl)
  obtain ⟨b, rfl⟩ := open_text ty_string (hval 1 _ v1 rfl rfl)
  obtain ⟨c, rfl⟩ := open_text ty_string (hval 2 _ v2 rfl rfl)
  refine (walk a b c W).mono fun e W' ⟨he, hb⟩ => ?_
  subst he
  exact ⟨_, rfl, post_true laidOut (by kernel_rfl) ty_bool (by kernel_rfl) rfl hW' hb rfl⟩

theorem over : Rows.pathOrderRow.holds Tryd.pinned (OpenSpec.ofChange Rows.pathOrderSpec) :=
  OpenClaim.holds_of_wide 6 Tryd.f6 rfl rfl rfl rfl rfl rfl rfl ⟨rfl, rfl, rfl, rfl, rfl⟩ rfl rfl rfl rfl rfl (by kernel_rfl) Tryd.func6 (by kernel_rfl)
    (of_decide_eq_true (by kernel_rfl)) (by unfold Func.isWrapper; first | (rw [if_pos (by decide +kernel)]; kernel_rfl) | (rw [if_neg (by decide +kernel)]; exact ⟨rfl, rfl⟩))
    (fun os started H enc _ => lifted os started H enc)

theorem proved : Rows.PathOrderCardSaid :=
  Claim7.holds_tied_plain_at .later [] [.data, .pinned] true Rows.pathOrderCard.stood.harness false over (fun _ h => by cases h) (by kernel_rfl) (fun _ h => by cases h) pathOrder_row_tie rfl ⟨rfl, rfl⟩ (by kernel_rfl) rfl
    (fun f fn hf hfn => by
      obtain rfl : f = 6 := Option.some.inj ((show Tryd.pinned.checked.prog.funcNamed Rows.pathOrderRow.func = some 6 by kernel_rfl).symm.trans hf) |>.symm
      obtain rfl : fn = Tryd.f6 := (Option.some.inj (Tryd.func6.symm.trans hfn)).symm
      exact ⟨by kernel_rfl, fun j t ht => by
        have hall : (Tryd.f6.params.toList.all fun u => !Tryd.prog.wantsStandIn u) = true := by kernel_rfl
        exact (show Tryd.prog.wantsStandIn t = false by simpa using List.all_eq_true.1 hall t (by simpa using Array.mem_of_getElem? ht))⟩)
    (by kernel_rfl)
end Go.Proofs.YtckkkpkjldcncaaDoor.pathOrder
