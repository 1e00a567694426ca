/- TreeApart: effects below one child, and effects below another one, come to the same in either order. For every input the call returns true, and each argument reads afterwards as it read before. No conditions. -/
import Derived.Test.YtaokjkhailpemaaDoorTreeApartFin
import Derived.Test.YtaokjkhailpemaaDoorTreeGreat
import Derived.Test.YtaokjkhailpemaaDoorPathFrame
namespace Go.Proofs.YtaokjkhailpemaaDoor.treeApart
open Go.ChangeShapes Go.WideShapes Go.ChangeAt Go.RowKit Path Tree

def RelU (w : World) (l : List Ef) (q : List UInt8) (n : Nat) (i : Value) (wr : World) : Prop := ∃ j : Nat, j ≤ n ∧ i = .int .i64 (j : Int) ∧ (∀ x ∈ l.take j, underF x.path q = true) ∧ Below w.heap.size w wr
theorem take_all {l : List Ef} {q : List UInt8} {j : Nat} (h : j < l.length) (hs : ∀ x ∈ l.take j, underF x.path q = true) (hx : underF l[j].path q = true) : ∀ x ∈ l.take (j + 1), underF x.path q = true := by
  intro x hxs
  rw [← List.take_append_getElem h, List.mem_append] at hxs
  rcases hxs with hxs | hxs
  · exact hs x hxs
  · simp at hxs; subst hxs; exact hx

set_option maxRecDepth 8000 in
set_option maxHeartbeats 4000000 in
theorem walk (A B : Option Addr) (n c m d : Nat) (l k : List Ef) (w : World) (hl : EfS (fun j => j < w.heap.size) w A n l) (hm : EfS (fun j => j < w.heap.size) w B m k) (hnc : n ≤ c) (hmd : m ≤ d) (hc : c ≤ maxLen) (hd : d ≤ maxLen) :
    Calls Tryd.prog 8 #[.slice A n c, .slice B m d] w fun e w' => e = .returned (.bool true) ∧ Below w.heap.size w w' := by
  have hll := hl.len
  have hml := hm.len
  have HEl := Lib.hid hl
  have HEm := Lib.hid hm
  have cg := great_any (fun _ => True) (some ⟨w.heap.size, 0, none⟩) 2 2 [l, k] (w.alloc (.cells #[.slice A n c, .slice B m d] 30)) (EfSS.two hl hm hnc hmd hc hd)
  have B1 := Lib.hid ((Below.refl w.heap.size w).alloc (Nat.le_refl _) (.cells #[.slice A n c, .slice B m d] 30))
  clear hl hm
  go_enter Tryd.func8, Tryd.ntmps8
  go_wp2_with fail
  refine cg.mono ?_
  rintro e w1 ⟨rfl, rfl | ⟨rfl, hsm⟩⟩
  · go_wp2_with fail
    go_ret
    exact ⟨rfl, B1.out⟩
  · have HOKl : Hid (∀ x ∈ l, okE x) := fun x hx => hsm.2.2 l (by simp) x hx
    have HOKm : Hid (∀ x ∈ k, okE x) := fun x hx => hsm.2.2 k (by simp) x hx
    clear hsm cg
    by_cases h20 : 20 < n
    · have v1 : (20 : Int) < (n : Int) := by omega
      go_wp2_with fail
      go_ret
      exact ⟨rfl, B1.out⟩
    · by_cases h21 : 20 < m
      · have v1 : (20 : Int) < (m : Int) := by omega
        have v0 : ¬ (20 : Int) < (n : Int) := by omega
        go_wp2_with fail
        go_ret
        exact ⟨rfl, B1.out⟩
      · have v1 : ¬ (20 : Int) < (m : Int) := by omega
        have v0 : ¬ (20 : Int) < (n : Int) := by omega
        go_wp2_with fail
        go_loopw [5] (fun i wr => RelU w l pRa n i wr) (fun i _ => n - (intOf i).toNat)
        case atStart => exact ⟨0, by omega, rfl, fun x hx => by simp at hx, B1.out⟩
        case round =>
          obtain ⟨j, hj, rfl, hall, hbel⟩ := hrel
          have HALL := Lib.hid hall
          have HBL := Lib.hid hbel
          clear hall hbel
          by_cases hlt : j < n
          · have hjx : j < l.length := by omega
            obtain ⟨b, o, D, m2, c2, rfl, _, _, _, hc⟩ := (HEl.out.below HBL.out).at_ hjx
            have h0 := hc 0 _ rfl
            rw [show o + (11 * j + 0) = o + j * 11 by omega] at h0
            have HK := Lib.hid (take_all hjx HALL.out)
            have v1 : (j : Int) < (n : Int) := by omega
            have hpl : l[j].path.length ≤ 1000000 := by have := (HOKl.out _ (List.getElem_mem hjx)).1; omega
            have cu := Under_any l[j].path pRa wr hpl (by decide)
            clear hc hpl
            generalize hu : underF l[j].path pRa = u at *
            have HU := Lib.hid hu
            clear hu
            generalize S l[j].path = s at *
            go_wp2_with fail
            refine cu.mono ?_
            rintro e w2 ⟨rfl, hb⟩
            have HB2 := Lib.hid (HBL.out.trans (hb.mono HBL.out.size))
            clear hb cu h0
            cases u with
            | false =>
              go_wp2_with fail
              refine (grows_any w2).mono ?_
              rintro e w3 ⟨rfl, hb⟩
              have HB3 := Lib.hid (HB2.out.trans (hb.mono HB2.out.size))
              clear hb
              go_wp2_with fail
              go_ret
              exact ⟨rfl, HB3.out⟩
            | true =>
              have HK2 := Lib.hid (HK.out rfl)
              go_wp2_with fail
              exact ⟨⟨j + 1, by omega, rfl, HK2.out, HB2.out⟩, by simp [intOf]; omega⟩
          · obtain rfl : n = j := by omega
            have HlA : Hid (∀ x ∈ l, underF x.path pRa = true) := by
              have h := HALL.out
              rw [List.take_of_length_le (by omega)] at h
              exact h
            have v1 : ¬ (n : Int) < (n : Int) := by omega
            obtain ⟨wa, hwo⟩ : ∃ wa : World, wa = wr := ⟨_, rfl⟩
            rw [← hwo] at HBL
            rw [← hwo]
            have HBwa := Lib.hid HBL.out
            clear HBL HALL hwo
            go_wp2_with fail
            go_loopw [6] (fun i wr => RelU w k pRb m i wr) (fun i _ => m - (intOf i).toNat)
            case atStart => exact ⟨0, by omega, rfl, fun x hx => by simp at hx, HBwa.out⟩
            case round =>
              obtain ⟨j, hj, rfl, hall, hbel⟩ := hrel
              have HALL := Lib.hid hall
              have HBL := Lib.hid hbel
              clear hall hbel
              by_cases hlt : j < m
              · have hjx : j < k.length := by omega
                obtain ⟨b, o, D, m2, c2, rfl, _, _, _, hc⟩ := (HEm.out.below HBL.out).at_ hjx
                have h0 := hc 0 _ rfl
                rw [show o + (11 * j + 0) = o + j * 11 by omega] at h0
                have HK := Lib.hid (take_all hjx HALL.out)
                have v1 : (j : Int) < (m : Int) := by omega
                have hpl : k[j].path.length ≤ 1000000 := by have := (HOKm.out _ (List.getElem_mem hjx)).1; omega
                have cu := Under_any k[j].path pRb wr hpl (by decide)
                clear hc hpl
                generalize hu : underF k[j].path pRb = u at *
                have HU := Lib.hid hu
                clear hu
                generalize S k[j].path = s at *
                go_wp2_with fail
                refine cu.mono ?_
                rintro e w2 ⟨rfl, hb⟩
                have HB2 := Lib.hid (HBL.out.trans (hb.mono HBL.out.size))
                clear hb cu h0
                cases u with
                | false =>
                  go_wp2_with fail
                  refine (grows_any w2).mono ?_
                  rintro e w3 ⟨rfl, hb⟩
                  have HB3 := Lib.hid (HB2.out.trans (hb.mono HB2.out.size))
                  clear hb
                  go_wp2_with fail
                  go_ret
                  exact ⟨rfl, HB3.out⟩
                | true =>
                  have HK2 := Lib.hid (HK.out rfl)
                  go_wp2_with fail
                  exact ⟨⟨j + 1, by omega, rfl, HK2.out, HB2.out⟩, by simp [intOf]; omega⟩
              · obtain rfl : m = j := by omega
                have HmA : Hid (∀ x ∈ k, underF x.path pRb = true) := by
                  have h := HALL.out
                  rw [List.take_of_length_le (by omega)] at h
                  exact h
                have v1 : ¬ (m : Int) < (m : Int) := by omega
                obtain ⟨w0, hwo⟩ : ∃ w0 : World, w0 = wr := ⟨_, rfl⟩
                rw [← hwo] at HBL
                rw [← hwo]
                have HBw0 := Lib.hid HBL.out
                clear HBL HALL hwo
                go_wp2_with fail
                have H0 : Hid (St w w0 [] (fun _ => False)) := ⟨Trees.none_ w0, HBw0.out, fun _ h => h.elim⟩
                clear HBw0 HBwa B1
                refine (New_st pR w w0 [] _ (by decide) gr0 H0.out).mono ?_
                rintro e w1 ⟨a, X1, rfl, _, hS⟩
                have H1 := Lib.hid hS
                clear hS H0
                go_wp2_with fail
                refine (New_st pR w w1 [(a, TR.new pR)] X1 (by decide) gr0 H1.out).mono ?_
                rintro e w2 ⟨b, X2, rfl, _, hS⟩
                have H2 := Lib.hid hS
                clear hS H1
                have c := put_any pRa w2 (by decide)
                go_wp2_with fail
                refine c.mono ?_
                rintro e w3 ⟨d3, rfl, hb3, hd3⟩
                have HB3 := Lib.hid hb3
                have HD3 := Lib.hid hd3
                clear hb3 hd3 c
                dsimp only [efV, efC, znC, efPut, ZN.zero]
                have c := put_any pRb w3 (by decide)
                go_wp2_with fail
                refine c.mono ?_
                rintro e w4 ⟨d4, rfl, hb4, hd4⟩
                have HB4 := Lib.hid hb4
                have HD4 := Lib.hid hd4
                clear hb4 hd4 c
                dsimp only [efV, efC, znC, efPut, ZN.zero]
                have hbb : Below w2.heap.size w2 w4 := HB3.out.trans (HB4.out.mono HB3.out.size)
                have c3 := Apply_lit [(efPut pRa, d3), (efPut pRb, d4)] w2.heap.size 1 a (TR.new pR) w w4 _ X2 (H2.out.below hbb) rfl H2.out.lt hbb.size (fun y hy => by
                  simp at hy
                  rcases hy with rfl | rfl
                  · exact HD3.out.below HB4.out
                  · exact (HD4.out).mono (fun q hq => Nat.le_trans HB3.out.size hq)) (show ∀ x ∈ [efPut pRa, efPut pRb], x.path.length ≤ 1000000 ∧ x.node.data.length ≤ 1000000 by decide) (by simp)
                rw [show List.map (·.1) [(efPut pRa, d3), (efPut pRb, d4)] = [efPut pRa, efPut pRb] from rfl, ab1] at c3
                clear hbb H2 HB3 HB4 HD3 HD4
                go_wp2_with fail
                refine c3.mono ?_
                rintro e w5 ⟨rfl, X3, hS, _, _⟩
                have H5 : Hid (St w w5 [(b, TR.new pR), (a, tAB)] X3) := hS
                clear hS c3
                go_wp2_with fail
                have c := put_any pRa w5 (by decide)
                refine c.mono ?_
                rintro e w6 ⟨d6, rfl, hb6, hd6⟩
                have HB6 := Lib.hid hb6
                have HD6 := Lib.hid hd6
                clear hb6 hd6 c
                dsimp only [efV, efC, znC, efPut, ZN.zero]
                have c := put_any pRb w6 (by decide)
                go_wp2_with fail
                refine c.mono ?_
                rintro e w7 ⟨d7, rfl, hb7, hd7⟩
                have HB7 := Lib.hid hb7
                have HD7 := Lib.hid hd7
                clear hb7 hd7 c
                dsimp only [efV, efC, znC, efPut, ZN.zero]
                have hbb : Below w5.heap.size w5 w7 := HB6.out.trans (HB7.out.mono HB6.out.size)
                have c3 := Apply_lit [(efPut pRa, d6), (efPut pRb, d7)] w5.heap.size 0 b (TR.new pR) w w7 _ X3 (H5.out.below hbb) rfl H5.out.lt hbb.size (fun y hy => by
                  simp at hy
                  rcases hy with rfl | rfl
                  · exact HD6.out.below HB7.out
                  · exact (HD7.out).mono (fun q hq => Nat.le_trans HB6.out.size hq)) (show ∀ x ∈ [efPut pRa, efPut pRb], x.path.length ≤ 1000000 ∧ x.node.data.length ≤ 1000000 by decide) (by simp)
                rw [show List.map (·.1) [(efPut pRa, d6), (efPut pRb, d7)] = [efPut pRa, efPut pRb] from rfl, ab1] at c3
                clear hbb H5 HB6 HB7 HD6 HD7
                go_wp2_with fail
                refine c3.mono ?_
                rintro e w8 ⟨rfl, X4, hS, _, _⟩
                have H8 : Hid (St w w8 [(b, tAB), (a, tAB)] X4) := hS
                clear hS c3
                go_wp2_with fail
                have HAP := Lib.hid (apart HlA.out HmA.out (by omega) (by omega))
                have HPl : Hid (∀ x ∈ l, x.path.length ≤ 1000000 ∧ x.node.data.length ≤ 1000000) := fun x hx => by have := HOKl.out x hx; exact ⟨Nat.le_trans this.1 (by decide), Nat.le_trans this.2 (by decide)⟩
                have HPm : Hid (∀ x ∈ k, x.path.length ≤ 1000000 ∧ x.node.data.length ≤ 1000000) := fun x hx => by have := HOKm.out x hx; exact ⟨Nat.le_trans this.1 (by decide), Nat.le_trans this.2 (by decide)⟩
                obtain ⟨e1, t1, h1⟩ : ∃ e1 t1, tAB.apply l = (e1, t1) := ⟨_, _, rfl⟩
                obtain ⟨e2, t2, h2⟩ : ∃ e2 t2, t1.apply k = (e2, t2) := ⟨_, _, rfl⟩
                obtain ⟨e3, t3, h3⟩ : ∃ e3 t3, tAB.apply k = (e3, t3) := ⟨_, _, rfl⟩
                obtain ⟨e4, t4, h4⟩ : ∃ e4 t4, t3.apply l = (e4, t4) := ⟨_, _, rfl⟩
                have hap := HAP.out
                rw [h1, h3] at hap
                dsimp only at hap
                rw [h2, h4] at hap
                obtain ⟨q1, q2, q3⟩ := hap
                dsimp only at q1 q2 q3
                subst q1 q2 q3
                have H1x := Lib.hid h1
                have H2x := Lib.hid h2
                have H3x := Lib.hid h3
                have H4x := Lib.hid h4
                clear h1 h2 h3 h4 HAP
                have ca := Apply_any (fun j => j < w.heap.size) A n c l 1 a tAB w8 _ X4 H8.out.1 rfl (HEl.out.below H8.out.2.1) (fun j hj hx => by have := H8.out.2.2 j hx; omega) HPl.out (by omega)
                rw [H1x.out] at ca
                refine ca.mono ?_
                rintro e w9 ⟨rfl, hm⟩
                obtain ⟨Y1, hS, _, _⟩ := H8.out.made hm
                have H9 : Hid (St w w9 [(b, tAB), (a, t1)] Y1) := hS
                clear hm hS ca H8
                go_wp2_with fail
                have ca := Apply_any (fun j => j < w.heap.size) B m d k 1 a t1 w9 _ Y1 H9.out.1 rfl (HEm.out.below H9.out.2.1) (fun j hj hx => by have := H9.out.2.2 j hx; omega) HPm.out (by omega)
                rw [H2x.out] at ca
                refine ca.mono ?_
                rintro e w10 ⟨rfl, hm⟩
                obtain ⟨Y2, hS, _, _⟩ := H9.out.made hm
                have H10 : Hid (St w w10 [(b, tAB), (a, t2)] Y2) := hS
                clear hm hS ca H9
                go_wp2_with fail
                have ca := Apply_any (fun j => j < w.heap.size) B m d k 0 b tAB w10 _ Y2 H10.out.1 rfl (HEm.out.below H10.out.2.1) (fun j hj hx => by have := H10.out.2.2 j hx; omega) HPm.out (by omega)
                rw [H3x.out] at ca
                refine ca.mono ?_
                rintro e w11 ⟨rfl, hm⟩
                obtain ⟨Y3, hS, _, _⟩ := H10.out.made hm
                have H11 : Hid (St w w11 [(b, t3), (a, t2)] Y3) := hS
                clear hm hS ca H10
                go_wp2_with fail
                have ca := Apply_any (fun j => j < w.heap.size) A n c l 0 b t3 w11 _ Y3 H11.out.1 rfl (HEl.out.below H11.out.2.1) (fun j hj hx => by have := H11.out.2.2 j hx; omega) HPl.out (by omega)
                rw [H4x.out] at ca
                refine ca.mono ?_
                rintro e w12 ⟨rfl, hm⟩
                obtain ⟨Y4, hS, _, _⟩ := H11.out.made hm
                have H12 : Hid (St w w12 [(b, t2), (a, t2)] Y4) := hS
                clear hm hS ca H11
                go_wp2_with fail
                have cs := Same_any 1 0 a b t2 t2 w12 _ Y4 H12.out.1 rfl rfl
                rw [decide_eq_true (⟨rfl, rfl, rfl⟩ : t2.root = t2.root ∧ t2.cnt = t2.cnt ∧ t2.row = t2.row)] at cs
                refine cs.mono ?_
                rintro e w13 ⟨rfl, hb⟩
                have H13 := Lib.hid (H12.out.below hb)
                clear hb cs H12
                go_wp2_with fail
                refine (grows_any w13).mono ?_
                rintro e w14 ⟨rfl, hb⟩
                have H14 := Lib.hid (H13.out.below hb)
                clear hb H13
                go_wp2_with fail
                go_ret
                exact ⟨rfl, H14.out.2.1⟩

set_option maxRecDepth 100000 in
theorem lifted (os : Os) (started : os.Started) (H : Type) (enc : TypeId × Value → H) :
    ReturnsInHanded {} Tryd.checked os 8 .any (fun w args => (Rows.treeApartSpec.pre enc Tryd.prog Tryd.f8 Rows.treeApartRow.domain false w args ∧ laidMetH Tryd.prog Rows.treeApartRow.laid w) ∧ sizedMet enc Tryd.prog Tryd.f8 (OpenSpec.ofChange Rows.treeApartSpec) false w args) (Rows.treeApartSpec.post enc Tryd.prog Tryd.f8 false true false false) := by
  refine returnsInHanded_of_change_and (C := Tryd.checked) (X := fun w _ => laidMetH Tryd.prog Rows.treeApartRow.laid w) (fun _ _ _ hh h => h.of_heap hh) own started (by kernel_rfl) Tryd.func8
    (ChangeSpec.witness_shaped (enc := enc) (C := Tryd.checked) (os := os) (X := fun w _ => laidMetH Tryd.prog Rows.treeApartRow.laid w) false (World.laidAll Tryd.prog os Rows.treeApartRow.laid) #[.slice none 0 0, .slice none 0 0] 8 (World.laidAll_os _ _ _)
      (World.shaped_of_ZipB (by kernel_rfl) (by kernel_rfl)) (by kernel_rfl) (by kernel_rfl) (by kernel_rfl)
      (by rw [MakeChecks.laidMetH_plain _ _ _ (by kernel_rfl)]; exact laidMet_laidAll _ (by kernel_rfl) (by kernel_rfl))) ?_
  intro W base args ds gs before hval0 hW _ _ _ _
  have hval : ∀ (j : Nat) t v, Tryd.f8.params[j]? = some t → args[j]? = some v → Value.okWide Tryd.prog W .any base t v := hval0
  have hW' := hW
  obtain ⟨p, q, hA0, hV, rfl, hfz, hnd⟩ := hW
  have hA : DataW.TrodAll enc Tryd.prog W 0 (fun _ => true) true Tryd.f8.params.toList args.toList ds p := hA0
  rw [Tryd.params8] at hA hval
  obtain ⟨v0, v1, d0, d1, p0, p1, rfl, rfl, rfl, h0, h1⟩ := trodAll_two hA
  obtain ⟨rfl, rfl⟩ := trodVars_none hV
  obtain ⟨A, n, c, l, rfl, hnc, hc, hl⟩ := arg_effs (hval 0 _ v0 rfl rfl) h0
  obtain ⟨B, m, d, k, rfl, hmd, hd, hm⟩ := arg_effs (hval 1 _ v1 rfl rfl) h1
  refine (walk A B n c m d l k W hl hm hnc hmd hc hd).mono fun e W' ⟨he, hb⟩ => ?_
  subst he
  exact ⟨_, rfl, post_true laidOut (by kernel_rfl) ty_bool (by kernel_rfl) rfl hW' hb rfl⟩

theorem over : Rows.treeApartRow.holds Tryd.pinned (OpenSpec.ofChange Rows.treeApartSpec) :=
  OpenClaim.holds_of_wide 8 Tryd.f8 rfl rfl rfl rfl rfl rfl rfl ⟨rfl, rfl, rfl, rfl, rfl⟩ rfl rfl rfl rfl rfl (by kernel_rfl) Tryd.func8 (by kernel_rfl)
    (of_decide_eq_true (by kernel_rfl)) (by unfold Func.isWrapper; first | (rw [if_pos (by decide +kernel)]; kernel_rfl) | (rw [if_neg (by decide +kernel)]; exact ⟨rfl, rfl⟩))
    (fun os started H enc _ => lifted os started H enc)

theorem proved : Rows.TreeApartCardSaid :=
  Claim7.holds_tied_plain_at .later [] Rows.treeApartCard.laidKinds true Rows.treeApartCard.stood.harness Rows.treeApartCard.stood.looks over (fun _ h => by cases h) (by kernel_rfl) (fun _ h => by cases h) treeApart_row_tie rfl ⟨rfl, rfl⟩ (by kernel_rfl) rfl
    (fun f fn hf hfn => by
      obtain rfl : f = 8 := Option.some.inj ((show Tryd.pinned.checked.prog.funcNamed Rows.treeApartRow.func = some 8 by kernel_rfl).symm.trans hf) |>.symm
      obtain rfl : fn = Tryd.f8 := (Option.some.inj (Tryd.func8.symm.trans hfn)).symm
      exact ⟨by kernel_rfl, fun j t ht => by
        have hall : (Tryd.f8.params.toList.all fun u => !Tryd.prog.wantsStandIn u) = true := by kernel_rfl
        exact (show Tryd.prog.wantsStandIn t = false by simpa using List.all_eq_true.1 hall t (by simpa using Array.mem_of_getElem? ht))⟩)
    (by kernel_rfl)
end Go.Proofs.YtaokjkhailpemaaDoor.treeApart
