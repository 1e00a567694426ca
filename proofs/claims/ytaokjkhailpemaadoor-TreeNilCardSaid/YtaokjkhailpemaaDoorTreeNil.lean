/- TreeNil: of nil; new memory. For every input the call returns true, and the argument reads afterwards as it read before. No conditions. -/
import Derived.Test.YtaokjkhailpemaaDoorTreeGrows
import Derived.Test.YtaokjkhailpemaaDoorPathFrame
namespace Go.Proofs.YtaokjkhailpemaaDoor.treeNil
open Go.ChangeShapes Go.WideShapes Go.ChangeAt Go.RowKit Path Tree

set_option maxRecDepth 8000 in
set_option maxHeartbeats 4000000 in
theorem walk (l : List UInt8) (w : World) : Calls Tryd.prog 6 #[.string (S l)] w fun e w' => e = .returned (.bool true) ∧ Below w.heap.size w w' := by
  have hz : ((S l).size : Int) = (l.length : Int) := by rw [S_size]
  by_cases hn : 500 < l.length
  · go_enter Tryd.func6, Tryd.ntmps6
    go_wp2_with fail
    go_ret
    exact ⟨rfl, Below.refl _ _⟩
  · have H0 := Lib.hid (St.start w)
    go_enter Tryd.func6, Tryd.ntmps6
    go_wp2_with fail
    clear hz hn
    refine (Get_nil l w).mono ?_
    rintro e w1 ⟨A, c, rfl, hb⟩
    have H1 := Lib.hid (H0.out.below hb)
    clear hb H0
    dsimp only [znV, znC, ZN.zero]
    go_wp2_with fail
    refine (Clone_nil _).mono ?_
    rintro e w2 ⟨rfl, hb⟩
    have H2 := Lib.hid ((H1.out.alloc _).below hb)
    clear hb H1
    go_wp2_with fail
    refine (Root_nil _).mono ?_
    rintro e w3 ⟨rfl, hb⟩
    have H3 := Lib.hid (H2.out.below hb)
    clear hb H2
    go_wp2_with fail
    refine (At_nil _).mono ?_
    rintro e w4 ⟨rfl, hb⟩
    have H4 := Lib.hid (H3.out.below hb)
    clear hb H3
    go_wp2_with fail
    refine (Kids_nil l _).mono ?_
    rintro e w5 ⟨A2, c2, rfl, hb⟩
    have H5 := Lib.hid (H4.out.below hb)
    clear hb H4
    go_wp2_with fail
    refine (Paths_nil _).mono ?_
    rintro e w6 ⟨A3, c3, rfl, hb⟩
    have H6 := Lib.hid (H5.out.below hb)
    clear hb H5
    go_wp2_with fail
    refine (Apply_nil none 0 0 _).mono ?_
    rintro e w7 ⟨rfl, hb⟩
    have H7 := Lib.hid (H6.out.below hb)
    clear hb H6
    go_wp2_with fail
    refine (Same_nil _).mono ?_
    rintro e w8 ⟨rfl, hb⟩
    have H8 := Lib.hid (H7.out.below hb)
    clear hb H7
    go_wp2_with fail
    refine (New_st pR w w8 [] _ (by decide) gr0 H8.out).mono ?_
    rintro e w9 ⟨a, X1, rfl, _, hS⟩
    have H9 := Lib.hid hS
    clear hS H8
    go_wp2_with fail
    refine (Same_right a _).mono ?_
    rintro e w10 ⟨rfl, hb⟩
    have H10 := Lib.hid (H9.out.below hb)
    clear hb H9
    go_wp2_with fail
    refine (Same_left a _).mono ?_
    rintro e w11 ⟨rfl, hb⟩
    have H11 := Lib.hid (H10.out.below hb)
    clear hb H10
    have c := put_any pRa w11 (by decide)
    go_wp2_with fail
    refine c.mono ?_
    rintro e w12 ⟨d12, rfl, hb, hd⟩
    have c3 := Apply_lit [(efPut pRa, d12)] w11.heap.size 0 a (TR.new pR) w w12 _ X1 (H11.out.below hb) rfl H11.out.lt hb.size (fun y hy => by simp at hy; subst hy; exact hd) (show ∀ x ∈ [efPut pRa], x.path.length ≤ 1000000 ∧ x.node.data.length ≤ 1000000 by decide) (by simp)
    rw [show List.map (·.1) [(efPut pRa, d12)] = [efPut pRa] from rfl, gr1] at c3
    clear hb hd c H11
    dsimp only [efV, efC, znC, efPut, ZN.zero]
    go_wp2_with fail
    refine c3.mono ?_
    rintro e w13 ⟨rfl, X2, hS, _, _⟩
    have H13 : Hid (St w w13 [(a, tR1)] X2) := hS
    clear hS c3
    go_wp2_with fail
    refine (Get_yes pRa { ZN.zero with data := pRa } 0 a tR1 _ _ X2 H13.out.1 rfl (by decide) gr4).mono ?_
    rintro e w14 ⟨A1, k1, c1, rfl, hb, hk1, hr, hf⟩
    have H14 := Lib.hid (H13.out.below hb)
    have HR1 := Lib.hid hr
    have HF1 := Lib.hid hf
    have HG0 : Hid (w.heap.size ≤ w13.heap.size) := H13.out.2.1.size
    have hlt := H13.out.lt
    have HLT : Hid (∀ k, X2 k → k < w13.heap.size) := hlt
    clear hb hr hf hlt H13
    obtain rfl : k1 = 4 := by rw [← HR1.out.len]; rfl
    obtain ⟨g, rfl, hg, hfz⟩ := HF1.out (by decide)
    have hcell : ∀ o, (w14.alloc o).cell? ⟨g, 0, none⟩ = some (U 47) := fun o => by
      obtain ⟨ad, e0, hc⟩ := HR1.out.cells (by decide)
      injection e0 with e0
      subst e0
      have h1 := hc 0 47 rfl
      rw [add_off] at h1
      exact (((Below.refl _ w14).alloc (Nat.le_refl _) o).cell (World.block_lt_of_cell? _ _ h1)).trans h1
    have hfz0 : ∀ o, (w14.alloc o).frozen? ⟨g, 0, none⟩ = false := fun o => by
      obtain ⟨ad, e0, hc⟩ := HR1.out.cells (by decide)
      injection e0 with e0
      subst e0
      have h1 := hc 0 47 rfl
      rw [add_off] at h1
      exact (((Below.refl _ w14).alloc (Nat.le_refl _) o).frozen (World.block_lt_of_cell? _ _ h1)).trans (hfz 0 (by decide))
    have HG : Hid (¬ X2 g ∧ w.heap.size ≤ g) := ⟨fun h => by have := HLT.out g h; omega, by have := HG0.out; omega⟩
    clear hfz HR1 HF1 HLT hg HG0
    dsimp only [znV, znC, ZN.zero]
    go_wp2_with fail
    refine (Get_yes pRa { ZN.zero with data := pRa } 0 a tR1 _ _ X2 ((H14.out.alloc _).setCell HG.out.1 HG.out.2 _).1 rfl (by decide) gr4).mono ?_
    rintro e w15 ⟨A4, k4, c4, rfl, hb, hk4, hr, _⟩
    have H15 := Lib.hid (((H14.out.alloc _).setCell HG.out.1 HG.out.2 _).below hb)
    have HR4 : Hid (Rd w15 A4 k4 pRa) := hr
    clear hb hr hcell hfz0 HG H14
    dsimp only [znV, znC, ZN.zero]
    go_wp2_with fail
    have hc0 := heap_alloc_new w15 (.cells #[.slice A4 k4 c4, .int .u32 0, .int .u32 0, .int .u32 0, .int .i64 0, .int .u32 0, .int .u64 0, .int .u64 0, .int .u64 0] 42)
    have HC0 := Lib.hid hc0
    have HRa := Lib.hid (HR4.out.below ((Below.refl _ _).alloc (Nat.le_refl _) (.cells #[.slice A4 k4 c4, .int .u32 0, .int .u32 0, .int .u32 0, .int .i64 0, .int .u32 0, .int .u64 0, .int .u64 0, .int .u64 0] 42)))
    clear hc0 HR4
    refine (Clone_st 0 a tR1 w _ _ X2 (H15.out.alloc _) rfl).mono ?_
    rintro e w16 ⟨b, X3, rfl, hb, hS⟩
    have H16 := Lib.hid hS
    have HC1 : Hid (w16.heap[w15.heap.size]? = some (.cells #[.slice A4 k4 c4, .int .u32 0, .int .u32 0, .int .u32 0, .int .i64 0, .int .u32 0, .int .u64 0, .int .u64 0, .int .u64 0] 42 (0, 0))) := (hb.block _ (by simp)).trans HC0.out
    have HRb := Lib.hid (HRa.out.below hb)
    obtain ⟨m, hm⟩ : ∃ m, m = w15.heap.size := ⟨_, rfl⟩
    rw [← hm] at HC1
    clear hb hS HC0 HRa H15
    rw [← hm]
    clear hm
    go_wp2_with fail
    refine (Get_yes pRa { ZN.zero with data := pRa } 0 b tR1 _ _ X3 H16.out.1 rfl (by decide) gr4).mono ?_
    rintro e w17 ⟨A5, k5, c5, rfl, hb, hk5, hr, _⟩
    have H17 := Lib.hid (H16.out.below hb)
    have HR5 : Hid (Rd w17 A5 k5 pRa) := hr
    have hml : m < w16.heap.size := by
      rcases Nat.lt_or_ge m w16.heap.size with h | h
      · exact h
      · have := HC1.out; rw [Array.getElem?_eq_none h] at this; cases this
    have hcell : ∀ o, (w17.alloc o).cell? ⟨m, 0, none⟩ = some (.slice A4 k4 c4) := fun o => by
      have h1 := (Below.heap_alloc w17 o m (Nat.lt_of_lt_of_le hml hb.size)).trans ((hb.block m hml).trans HC1.out)
      simp only [World.cell?, h1]
      rfl
    have hcv4 : ∀ o, (convert 37 9 (.slice A4 k4 c4)).run Tryd.prog (w17.alloc o) = .ok (.string (S pRa)) (w17.alloc o) := fun o => run_string_Rd (P := Tryd.prog) 37 9 5 Tree.ty_bytes Tree.ty_byte ty_string ((HRb.out.below hb).below ((Below.refl _ _).alloc (Nat.le_refl _) _)) c4
    have hcv5 : ∀ o, (convert 37 9 (.slice A5 k5 c5)).run Tryd.prog (w17.alloc o) = .ok (.string (S pRa)) (w17.alloc o) := fun o => run_string_Rd (P := Tryd.prog) 37 9 5 Tree.ty_bytes Tree.ty_byte ty_string ((HR5.out).below ((Below.refl _ _).alloc (Nat.le_refl _) _)) c5
    have hsl : (S pRa).toList = [47, 114, 47, 97] := S_list _
    clear hb hr HC1 HRb HR5 hml H16
    dsimp only [znV, znC, ZN.zero]
    go_wp2_with fail
    refine (grows_any _).mono ?_
    rintro e w18 ⟨rfl, hb⟩
    have H18 := Lib.hid ((H17.out.alloc _).below hb)
    clear hb H17
    go_wp2_with fail
    go_ret
    exact ⟨rfl, H18.out.2.1⟩

set_option maxRecDepth 100000 in
theorem lifted (os : Os) (started : os.Started) (H : Type) (enc : TypeId × Value → H) :
    ReturnsInHanded {} Tryd.checked os 6 .any (fun w args => (Rows.treeNilSpec.pre enc Tryd.prog Tryd.f6 Rows.treeNilRow.domain false w args ∧ laidMetH Tryd.prog Rows.treeNilRow.laid w) ∧ sizedMet enc Tryd.prog Tryd.f6 (OpenSpec.ofChange Rows.treeNilSpec) false w args) (Rows.treeNilSpec.post enc Tryd.prog Tryd.f6 false true false false) := by
  refine returnsInHanded_of_change_and (C := Tryd.checked) (X := fun w _ => laidMetH Tryd.prog Rows.treeNilRow.laid w) (fun _ _ _ hh h => h.of_heap hh) own started (by kernel_rfl) Tryd.func6
    (ChangeSpec.witness_shaped (enc := enc) (C := Tryd.checked) (os := os) (X := fun w _ => laidMetH Tryd.prog Rows.treeNilRow.laid w) false (World.laidAll Tryd.prog os Rows.treeNilRow.laid) #[.string ⟨#[]⟩] 8 (World.laidAll_os _ _ _)
      (World.shaped_of_ZipB (by kernel_rfl) (by kernel_rfl)) (by kernel_rfl) (by kernel_rfl) (by kernel_rfl)
      (by rw [MakeChecks.laidMetH_plain _ _ _ (by kernel_rfl)]; exact laidMet_laidAll _ (by kernel_rfl) (by kernel_rfl))) ?_
  intro W base args ds gs before hval0 hW _ _ _ _
  have hval : ∀ (j : Nat) t v, Tryd.f6.params[j]? = some t → args[j]? = some v → Value.okWide Tryd.prog W .any base t v := hval0
  have hW' := hW
  obtain ⟨p, q, hA0, hV, rfl, hfz, hnd⟩ := hW
  have hA : DataW.TrodAll enc Tryd.prog W 0 (fun _ => true) true Tryd.f6.params.toList args.toList ds p := hA0
  rw [Tryd.params6] at hA hval
  obtain ⟨v0, d0, rfl, rfl, h0⟩ := trodAll_one hA
  obtain ⟨rfl, rfl⟩ := trodVars_none hV
  obtain ⟨l, rfl⟩ := open_text ty_string (hval 0 _ v0 rfl rfl)
  refine (walk l W).mono fun e W' ⟨he, hb⟩ => ?_
  subst he
  exact ⟨_, rfl, post_true laidOut (by kernel_rfl) ty_bool (by kernel_rfl) rfl hW' hb rfl⟩

theorem over : Rows.treeNilRow.holds Tryd.pinned (OpenSpec.ofChange Rows.treeNilSpec) :=
  OpenClaim.holds_of_wide 6 Tryd.f6 rfl rfl rfl rfl rfl rfl rfl ⟨rfl, rfl, rfl, rfl, rfl⟩ rfl rfl rfl rfl rfl (by kernel_rfl) Tryd.func6 (by kernel_rfl)
    (of_decide_eq_true (by kernel_rfl)) (by unfold Func.isWrapper; first | (rw [if_pos (by decide +kernel)]; kernel_rfl) | (rw [if_neg (by decide +kernel)]; exact ⟨rfl, rfl⟩))
    (fun os started H enc _ => lifted os started H enc)

theorem proved : Rows.TreeNilCardSaid :=
  Claim7.holds_tied_plain_at .later [] Rows.treeNilCard.laidKinds true Rows.treeNilCard.stood.harness Rows.treeNilCard.stood.looks over (fun _ h => by cases h) (by kernel_rfl) (fun _ h => by cases h) treeNil_row_tie rfl ⟨rfl, rfl⟩ (by kernel_rfl) rfl
    (fun f fn hf hfn => by
      obtain rfl : f = 6 := Option.some.inj ((show Tryd.pinned.checked.prog.funcNamed Rows.treeNilRow.func = some 6 by kernel_rfl).symm.trans hf) |>.symm
      obtain rfl : fn = Tryd.f6 := (Option.some.inj (Tryd.func6.symm.trans hfn)).symm
      exact ⟨by kernel_rfl, fun j t ht => by
        have hall : (Tryd.f6.params.toList.all fun u => !Tryd.prog.wantsStandIn u) = true := by kernel_rfl
        exact (show Tryd.prog.wantsStandIn t = false by simpa using List.all_eq_true.1 hall t (by simpa using Array.mem_of_getElem? ht))⟩)
    (by kernel_rfl)
end Go.Proofs.YtaokjkhailpemaaDoor.treeNil
