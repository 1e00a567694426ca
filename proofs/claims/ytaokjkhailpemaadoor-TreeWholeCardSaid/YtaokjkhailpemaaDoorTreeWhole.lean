/- TreeWhole: behind any effects the root is there, each other node is under it and has its parent there, among whose kids it is; there are at most MaxZnodes; what is refused changes nothing. For every input the call returns true, and each argument reads afterwards as it read before. No conditions. -/
import Derived.Test.YtaokjkhailpemaaDoorTreeGreat
import Derived.Test.YtaokjkhailpemaaDoorTreeWholePure
import Derived.Test.YtaokjkhailpemaaDoorPathFrame
import Derived.Deep.RegionHeld3
namespace Go.Proofs.YtaokjkhailpemaaDoor.treeWhole
open Go.ChangeShapes Go.WideShapes Go.ChangeAt Go.RowKit Path Tree

def RelW (w : World) (a : Addr) (n : Nat) (i : Value) (wr : World) : Prop := ∃ (j : Nat) (X : Nat → Prop) (t : TR), j ≤ n ∧ i = .int .i64 (j : Int) ∧ t.root = pR ∧ St w wr [(a, t)] X
def RelK (w x : World) (cc a : Addr) (t : TR) (X : Nat → Prop) (len : Nat) (s i : Value) (wr : World) : Prop := ∃ (k : Nat) (u : TR), k ≤ len ∧ i = .int .i64 (k : Int) ∧ s = .int .i64 (sumK pR t.row k : Int) ∧ St w wr [(cc, u), (a, t)] X ∧ Below x.heap.size x wr

theorem pred_wrap {k m : Nat} (h : k - 1 = m) (h0 : 0 < k) (hk : k ≤ 48) : wrap64 ((k : Int) - 1) = (m : Int) := by
  rw [show (k : Int) - 1 = (m : Int) by omega]
  exact IntWalk.wrap64_in _ (by omega)
theorem pred_wrap' {k m : Nat} (h : k - 1 = m) (h0 : 0 < k) (hk : k ≤ 48) : IntKind.i64.wrap ((k : Int) - 1) = (m : Int) := by
  rw [show (k : Int) - 1 = (m : Int) by omega]
  exact IntWalk.i64_in _ (by omega)
theorem pred_lt {k m n : Nat} (h : k - 1 = m) (h0 : 0 < k) (hk : k < n) : (m : Int) < (n : Int) := by omega
@[local go_sem] theorem op_geq (t : TypeId) (a b : ByteArray) : binOp .geq t (.string a) (.string b) = pure (.bool !(Op.bytesLess a.toList b.toList)) := by simp [binOp, Op.stringOp]

set_option maxRecDepth 8000 in
set_option maxHeartbeats 4000000 in
theorem walk (A : Option Addr) (n c : Nat) (xss : List (List Ef)) (w : World) (hl : EfSS (fun j => j < w.heap.size) w A n xss) :
    Calls Tryd.prog 3 #[.slice A n c] w fun e w' => e = .returned (.bool true) ∧ Below w.heap.size w w' := by
  have hll := hl.len
  have HEl := Lib.hid hl
  have cg := great_any (fun j => j < w.heap.size) A n c xss w hl
  clear hl
  go_enter Tryd.func3, Tryd.ntmps3
  go_wp2_with fail
  refine cg.mono ?_
  rintro e w4 ⟨rfl, rfl | ⟨rfl, hsm⟩⟩
  · go_wp2_with fail
    go_ret
    exact ⟨rfl, Below.refl _ _⟩
  · have hn40 : n ≤ 40 := by have := hsm.1; omega
    have HOK : Hid (∀ j, (hj : j < xss.length) → ∀ x ∈ xss[j], x.path.length ≤ 1000000 ∧ x.node.data.length ≤ 1000000) := fun j hj x hx => by
      have := hsm.2.2 xss[j] (by simp) x hx
      exact ⟨Nat.le_trans this.1 (by decide), Nat.le_trans this.2 (by decide)⟩
    have HLN : Hid (∀ j, (hj : j < xss.length) → xss[j].length ≤ 200) := fun j hj => by
      have h1 := hsm.2.1
      have h2 : xss[j].length ≤ sumL xss := by
        unfold sumL
        have : ∀ (l : List (List Ef)) (z : List Ef), z ∈ l → z.length ≤ (l.map List.length).sum := by
          intro l z hz
          induction l with
          | nil => cases hz
          | cons y l ih =>
            rw [List.map_cons, List.sum_cons]
            rcases List.mem_cons.1 hz with rfl | hz
            · omega
            · have := ih hz; omega
        exact this _ _ (by simp)
      omega
    clear hsm cg
    go_wp2_with fail
    refine (New_st pR w4 w4 [] _ (by decide) gr0 (St.start w4)).mono ?_
    rintro e w5 ⟨a, X1, rfl, _, hS⟩
    have H1 := Lib.hid hS
    clear hS
    go_wp2_with fail
    go_loopw [5] (fun i wr => RelW w4 a n i wr) (fun i _ => n - (intOf i).toNat)
    case atStart => exact ⟨0, X1, TR.new pR, by omega, rfl, rfl, H1.out⟩
    case round =>
      obtain ⟨j, X, t, hj, rfl, hroot, hS⟩ := hrel
      have HS := Lib.hid hS
      have HR := Lib.hid hroot
      clear hS H1 hroot
      by_cases hlt : j < n
      · have hjx : j < xss.length := by omega
        obtain ⟨bb, oo, C, k, ck, rfl, hcell, hkc, hck, hE⟩ := HEl.out.at_ hjx
        have HALL : Hid (∀ W, Below w4.heap.size w4 W → W.cell? ⟨bb, oo + j, none⟩ = some (.slice C k ck)) := fun W hW => (hW.cell (World.block_lt_of_cell? _ _ hcell)).trans hcell
        have HE := Lib.hid hE
        have hkl := hE.len
        have hk200 : k ≤ 200 := by have := HLN.out j hjx; omega
        have HP := Lib.hid (HOK.out j hjx)
        have v1 : (j : Int) < (n : Int) := by omega
        clear hcell hE
        go_wp2_with fail
        refine (Clone_st 0 a t w4 wr _ X HS.out rfl).mono ?_
        rintro e x1 ⟨cc, Y1, rfl, _, hS⟩
        have K1 := Lib.hid hS
        have hcell := HALL.out _ hS.2.1
        clear hS HS
        go_wp2_with fail
        have ca := Apply_any (fun j => j < w4.heap.size) C k ck xss[j] 1 a t x1 _ Y1 K1.out.1 rfl (HE.out.below K1.out.2.1) (fun q hq hx => by have := K1.out.2.2 q hx; omega) HP.out (by omega)
        refine ca.mono ?_
        rintro e x2 ⟨rfl, hm⟩
        obtain ⟨Y2, hS, _, _⟩ := K1.out.made hm
        have HR2' : (t.apply xss[j]).2.root = pR := (apply_root t xss[j]).trans HR.out
        have hno := apply_no (t := t) (xs := xss[j])
        have hok := apply_ok (t := t) (xs := xss[j])
        have hS' : St w4 x2 [(cc, t), (a, (t.apply xss[j]).2)] Y2 := hS
        generalize (t.apply xss[j]).2 = t' at *
        generalize (t.apply xss[j]).1 = e1 at *
        have K2 := Lib.hid hS'
        have HR2 := Lib.hid HR2'
        clear hm hS hS' HR2' ca K1 hcell HE HP
        rcases Classical.em (e1 = 0) with h0 | h0
        all_goals
          first
            | (have h0' : e1 = 0 := h0
               subst h0'
               have hcw : IntKind.u64.wrap ((t.cnt : Int) + 1) = (t'.cnt : Int) := by
                 rw [hok rfl]
                 simp [IntKind.wrap, IntKind.signed, IntKind.bits]
               have hcn : ((t'.cnt : Int) != (t'.cnt : Int)) = false := by simp
               clear hno hok h0
               go_wp2_with fail
               refine (At_any 1 a t' x2 _ Y2 K2.out.1 rfl).mono ?_
               rintro e x3 ⟨rfl, hb⟩
               have K3 := Lib.hid (K2.out.below hb)
               clear hb K2
               go_wp2_with fail
               refine (At_any 0 cc t x3 _ Y2 K3.out.1 rfl).mono ?_
               rintro e x4 ⟨rfl, hb⟩
               have K4 : Hid (St w4 x4 [(cc, t), (a, t')] Y2) := K3.out.below hb
               clear hb K3
               go_wp2_with fail)
            | (have h0' : ¬ e1 = 0 := h0
               obtain rfl := hno h0'
               clear hno hok h0
               go_wp2_with fail
               have cs := Same_any 0 1 cc a t' t' x2 _ Y2 K2.out.1 rfl rfl
               rw [decide_eq_true (⟨rfl, rfl, rfl⟩ : t'.root = t'.root ∧ t'.cnt = t'.cnt ∧ t'.row = t'.row)] at cs
               refine cs.mono ?_
               rintro e x4 ⟨rfl, hb⟩
               have K4 : Hid (St w4 x4 [(cc, t'), (a, t')] Y2) := K2.out.below hb
               clear hb K2 cs
               go_wp2_with fail)
          have hG := (K4.out.1.good 1 a t' rfl).1
          rw [HR2.out] at hG
          obtain ⟨hz, hroot0⟩ := at_zero hG
          have hmax := hG.max
          have hlen := length_paths t'.row
          have HG := Lib.hid hG
          clear hG
          refine (Paths_any 1 a t' x4 _ Y2 K4.out.1 rfl).mono ?_
          rintro e x5 ⟨A5, c5, rfl, hb, hr, _⟩
          have K5 := Lib.hid (K4.out.below hb)
          rw [← hlen] at hr
          have HRV := Lib.hid hr
          obtain ⟨b5, o5, rfl, hcells⟩ := texts_at hr hz
          have q0 := hcells 0 hz
          rw [hroot0, Nat.add_zero] at q0
          have hsl := S_list pR
          have HLEN := Lib.hid hlen
          obtain ⟨len, hle⟩ : ∃ len, t'.row.length = len := ⟨_, rfl⟩
          rw [hle] at hmax hlen ⊢
          have h0l : 0 < len := by omega
          have u0 : ((len : Int) == 0) = false := beq_eq_false_iff_ne.2 (by omega)
          have HLE := Lib.hid hle
          have HC : Hid (∀ W, Below x5.heap.size x5 W → ∀ i, (hi : i < (paths t'.row).length) → W.cell? ⟨b5, o5 + i, none⟩ = some (.string (S (paths t'.row)[i]))) := fun W hW i hi => (hW.cell (World.block_lt_of_cell? _ _ (hcells i hi))).trans (hcells i hi)
          have hs0 : sumK pR t'.row 0 = 0 := rfl
          clear hb K4 hr hcells hroot0 hlen hle hz HRV
          have hpR : S pR = S [47, 114] := rfl
          unfold pR at q0 hsl
          go_wp2_with fail
          clear q0 u0
          go_loopw [9, 10] (fun s i wr => RelK w4 x5 cc a t' Y2 len s i wr) (fun _ i _ => len - (intOf i).toNat)
          case atStart => exact ⟨0, _, by omega, rfl, by rw [hs0]; rfl, K5.out, Below.refl _ _⟩
          case round =>
            obtain ⟨k, u, hk, rfl, rfl, hS, hB⟩ := hrel
            have HS := Lib.hid hS
            have HB := Lib.hid hB
            clear hS hB K5
            by_cases hkl : k < len
            · have hkp : k < (paths t'.row).length := by rw [HLEN.out, HLE.out]; exact hkl
              have hck := HC.out wr HB.out k hkp
              have v2 : (k : Int) < (len : Int) := by omega
              have hp64 := path_64 HG.out hkp
              have ck := Kids_any (paths t'.row)[k] 1 a t' wr _ Y2 HS.out.1 rfl (by omega)
              have hsu := sumK_succ (root := pR) (l := t'.row) hkp
              have h48 := sumK_48 HG.out (k + 1)
              rw [HR2.out] at ck
              have HPK : Hid ((paths t'.row)[k].length ≤ 64) := hp64
              clear hp64
              go_wp2_with fail
              refine ck.mono ?_
              rintro e x6 ⟨A6, c6, rfl, hb, _⟩
              have K6 := Lib.hid (HS.out.below hb)
              have HB6 := Lib.hid (HB.out.trans (hb.mono HB.out.size))
              clear hb ck HS hck
              have hw : IntKind.i64.wrap ((sumK pR t'.row k : Int) + ((kids pR t'.row (paths t'.row)[k]).length : Int)) = (sumK pR t'.row (k + 1) : Int) := by
                rw [hsu]
                rw [hsu] at h48
                rw [IntWalk.i64_in _ (by omega)]; omega
              have HSU := Lib.hid hsu
              have H48 := Lib.hid h48
              clear hsu h48
              rcases Nat.eq_zero_or_pos k with h0 | h0
              · subst h0
                have z0 : (((0 : Nat) : Int) == 0) = true := rfl
                have hw1 : wrap64 ((kids pR t'.row (paths t'.row)[0]).length : Int) = (sumK pR t'.row 1 : Int) := by
                  have h1 := HSU.out
                  have h2 := H48.out
                  simp only [hs0, Nat.zero_add] at h1 h2
                  rw [h1]
                  rw [h1] at h2
                  exact IntWalk.wrap64_in _ (by omega)
                clear hw
                have HW1 := Lib.hid hw1
                go_wp2_with fail
                exact ⟨⟨1, u, by omega, rfl, by first | rfl | exact congrArg (Value.int .i64) HW1.out, K6.out, HB6.out⟩, by simp [intOf]; omega⟩
              · obtain ⟨m, hkm⟩ : ∃ m, k - 1 = m := ⟨_, rfl⟩
                have z0 : ((k : Int) == 0) = false := beq_eq_false_iff_ne.2 (by omega)
                obtain ⟨⟨nd, hget⟩, hun, hless⟩ := at_pos HG.out h0 hkp
                have hk1 : k - 1 < (paths t'.row).length := by omega
                have hc6 := HC.out x6 HB6.out k hkp
                have HGET := Lib.hid hget
                have HPAR : Hid ((parentF (paths t'.row)[k]).length ≤ 1000000) := Lib.hid (parentF_len _ (by have := HPK.out; omega))
                have cp := Parent_any (paths t'.row)[k] x6 (by have := HPK.out; omega)
                clear hget
                go_wp2_with fail
                refine cp.mono ?_
                rintro e x7 ⟨rfl, hb⟩
                have K7 := Lib.hid (K6.out.below hb)
                have HB7 := Lib.hid (HB6.out.trans (hb.mono HB6.out.size))
                clear hb cp K6 hc6
                go_wp2_with fail
                refine (Get_yes _ nd 1 a t' x7 _ Y2 K7.out.1 rfl (HPAR.out) HGET.out).mono ?_
                rintro e x8 ⟨A8, k8, c8, rfl, hb, _, _, _⟩
                have K8 := Lib.hid (K7.out.below hb)
                have HB8 := Lib.hid (HB7.out.trans (hb.mono HB7.out.size))
                clear hb K7
                have v3 : (m : Int) < (len : Int) := pred_lt hkm h0 hkl
                have v6 : wrap64 ((k : Int) - 1) = (m : Int) := pred_wrap hkm h0 (by omega)
                have v7 : IntKind.i64.wrap ((k : Int) - 1) = (m : Int) := pred_wrap' hkm h0 (by omega)
                have HC1 : Hid (∀ W, Below x5.heap.size x5 W → W.cell? ⟨b5, o5 + k, none⟩ = some (.string (S (paths t'.row)[k]))) := fun W hW => HC.out W hW k hkp
                have HC2 : Hid (∀ W, Below x5.heap.size x5 W → W.cell? ⟨b5, o5 + m, none⟩ = some (.string (S (paths t'.row)[k - 1]))) := fun W hW => by have h := HC.out W hW (k - 1) hk1; rw [show o5 + m = o5 + (k - 1) by rw [hkm]]; exact h
                have HUN : Hid (∀ W, Calls Tryd.prog 19 #[.string (S (paths t'.row)[k]), .string (S pR)] W fun e w' => e = .returned (.bool true) ∧ Below W.heap.size W w') := fun W => by
                  have cu := Under_any (paths t'.row)[k] pR W (by have := HPK.out; omega) (by decide)
                  rw [hun] at cu
                  exact cu
                clear hun
                dsimp only [znV, znC]
                go_wp2_with fail
                have hs1 := S_list (paths t'.row)[k]
                have hs2 := S_list (paths t'.row)[k - 1]
                clear hkm
                generalize (paths t'.row)[k - 1] = pk1 at *
                generalize (paths t'.row)[k] = pkk at *
                have HB8a : Hid (∀ o, Below x5.heap.size x5 (x8.alloc o)) := fun o => HB8.out.alloc HB8.out.size o
                have HB8d : Hid (∀ o, Below x5.heap.size x5 (x8.alloc o).drew) := fun o => (HB8.out.alloc HB8.out.size o).drew
                have HK8 : Hid (∀ o, St w4 (x8.alloc o).drew [(cc, u), (a, t')] Y2) := fun o => (K8.out.alloc o).below (Below.refl _ _).drew
                clear K8
                go_region_held3 (fun w' => w'.cell? ⟨b5, o5 + k, none⟩ = some (.string (S pkk)) ∧ w'.cell? ⟨b5, o5 + m, none⟩ = some (.string (S pk1)))
                  (first | assumption | exact ⟨HC1.out _ HB9.out, HC2.out _ HB9.out⟩ | exact ⟨HC1.out _ (HB8d.out _), HC2.out _ (HB8d.out _)⟩ | exact ⟨HC1.out _ (HB8a.out _), HC2.out _ (HB8a.out _)⟩)
                  (first
                    | (go_at_call 19; refine (HUN.out _).mono ?_; rintro e wa ⟨rfl, hb⟩; have HB9 := Lib.hid ((HB8d.out _).trans (hb.mono (HB8d.out _).size)); have K9 := Lib.hid ((HK8.out _).below hb); clear hb))
                all_goals
                  go_wp2_with fail
                  exact ⟨⟨k + 1, u, by omega, rfl, rfl, K9.out, HB9.out⟩, by simp [intOf]; omega⟩
            · obtain rfl : k = len := by omega
              have v2 : ¬ (k : Int) < (k : Int) := by omega
              have hall := sumK_all HG.out
              rw [HLEN.out, HLE.out] at hall
              obtain ⟨q, hq⟩ : ∃ q, sumK pR t'.row k = q := ⟨_, rfl⟩
              have v6 := pred_wrap (k := k) (m := q) (by omega) h0l hmax
              have v7 := pred_wrap' (k := k) (m := q) (by omega) h0l hmax
              have vne : ((q : Int) != (q : Int)) = false := by simp
              clear hall
              rw [hq]
              clear hq
              go_wp2_with fail
              exact ⟨⟨j + 1, Y2, t', by omega, rfl, HR2.out, HS.out.tail_⟩, by simp [intOf]; omega⟩
      · obtain rfl : n = j := by omega
        have v1 : ¬ (n : Int) < (n : Int) := by omega
        go_wp2_with fail
        refine (grows_any wr).mono ?_
        rintro e x8 ⟨rfl, hb⟩
        have K8 := Lib.hid (HS.out.below hb)
        clear hb HS
        go_wp2_with fail
        go_ret
        exact ⟨rfl, K8.out.2.1⟩
set_option maxRecDepth 100000 in
theorem lifted (os : Os) (started : os.Started) (H : Type) (enc : TypeId × Value → H) :
    ReturnsInHanded {} Tryd.checked os 3 .any (fun w args => (Rows.treeWholeSpec.pre enc Tryd.prog Tryd.f3 Rows.treeWholeRow.domain false w args ∧ laidMetH Tryd.prog Rows.treeWholeRow.laid w) ∧ sizedMet enc Tryd.prog Tryd.f3 (OpenSpec.ofChange Rows.treeWholeSpec) false w args) (Rows.treeWholeSpec.post enc Tryd.prog Tryd.f3 false true false false) := by
  refine returnsInHanded_of_change_and (C := Tryd.checked) (X := fun w _ => laidMetH Tryd.prog Rows.treeWholeRow.laid w) (fun _ _ _ hh h => h.of_heap hh) own started (by kernel_rfl) Tryd.func3
    (ChangeSpec.witness_shaped (enc := enc) (C := Tryd.checked) (os := os) (X := fun w _ => laidMetH Tryd.prog Rows.treeWholeRow.laid w) false (World.laidAll Tryd.prog os Rows.treeWholeRow.laid) #[.slice none 0 0] 8 (World.laidAll_os _ _ _)
      (World.shaped_of_ZipB (by kernel_rfl) (by kernel_rfl)) (by kernel_rfl) (by kernel_rfl) (by kernel_rfl)
      (by rw [MakeChecks.laidMetH_plain _ _ _ (by kernel_rfl)]; exact laidMet_laidAll _ (by kernel_rfl) (by kernel_rfl))) ?_
  intro W base args ds gs before hval0 hW _ _ _ _
  have hval : ∀ (j : Nat) t v, Tryd.f3.params[j]? = some t → args[j]? = some v → Value.okWide Tryd.prog W .any base t v := hval0
  have hW' := hW
  obtain ⟨p, q, hA0, hV, rfl, hfz, hnd⟩ := hW
  have hA : DataW.TrodAll enc Tryd.prog W 0 (fun _ => true) true Tryd.f3.params.toList args.toList ds p := hA0
  rw [Tryd.params3] at hA hval
  obtain ⟨v0, d0, rfl, rfl, h0⟩ := trodAll_one hA
  obtain ⟨rfl, rfl⟩ := trodVars_none hV
  obtain ⟨A, n, c, xss, rfl, _, _, hl, _⟩ := arg_effss (hval 0 _ v0 rfl rfl) h0
  refine (walk A n c xss W hl).mono fun e W' ⟨he, hb⟩ => ?_
  subst he
  exact ⟨_, rfl, post_true laidOut (by kernel_rfl) ty_bool (by kernel_rfl) rfl hW' hb rfl⟩

theorem over : Rows.treeWholeRow.holds Tryd.pinned (OpenSpec.ofChange Rows.treeWholeSpec) :=
  OpenClaim.holds_of_wide 3 Tryd.f3 rfl rfl rfl rfl rfl rfl rfl ⟨rfl, rfl, rfl, rfl, rfl⟩ rfl rfl rfl rfl rfl (by kernel_rfl) Tryd.func3 (by kernel_rfl)
    (of_decide_eq_true (by kernel_rfl)) (by unfold Func.isWrapper; first | (rw [if_pos (by decide +kernel)]; kernel_rfl) | (rw [if_neg (by decide +kernel)]; exact ⟨rfl, rfl⟩))
    (fun os started H enc _ => lifted os started H enc)

theorem proved : Rows.TreeWholeCardSaid :=
  Claim7.holds_tied_plain_at .later [] Rows.treeWholeCard.laidKinds true Rows.treeWholeCard.stood.harness Rows.treeWholeCard.stood.looks over (fun _ h => by cases h) (by kernel_rfl) (fun _ h => by cases h) treeWhole_row_tie rfl ⟨rfl, rfl⟩ (by kernel_rfl) rfl
    (fun f fn hf hfn => by
      obtain rfl : f = 3 := Option.some.inj ((show Tryd.pinned.checked.prog.funcNamed Rows.treeWholeRow.func = some 3 by kernel_rfl).symm.trans hf) |>.symm
      obtain rfl : fn = Tryd.f3 := (Option.some.inj (Tryd.func3.symm.trans hfn)).symm
      exact ⟨by kernel_rfl, fun j t ht => by
        have hall : (Tryd.f3.params.toList.all fun u => !Tryd.prog.wantsStandIn u) = true := by kernel_rfl
        exact (show Tryd.prog.wantsStandIn t = false by simpa using List.all_eq_true.1 hall t (by simpa using Array.mem_of_getElem? ht))⟩)
    (by kernel_rfl)
end Go.Proofs.YtaokjkhailpemaaDoor.treeWhole
