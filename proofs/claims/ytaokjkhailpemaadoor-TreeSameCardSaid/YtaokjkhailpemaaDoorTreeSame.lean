/- TreeSame: the same effects make like trees; a clone goes on apart; one effect more makes them unlike, by At. For every input the call returns true, and each argument reads afterwards as it read before. No conditions. -/
import Derived.Test.YtaokjkhailpemaaDoorTreeGreat
import Derived.Test.YtaokjkhailpemaaDoorTreeGrows
import Derived.SizedLaws
namespace Go.Proofs.YtaokjkhailpemaaDoor.treeSame
open Go.ChangeShapes Go.WideShapes Go.ChangeAt Go.RowKit Path Tree

theorem info_sl : (Tryd.prog.info? 30).map (fun i => (i.zero, i.size, i.bytes)) = some (some (.slice none 0 0), 1, 24) := by kernel_rfl
theorem bytes_sl : Tryd.prog.bytesOf 30 = 24 := by kernel_rfl
theorem own_none (w : World) (e : TypeId) : (w.alloc (.cells #[] e)).ownsRow w.heap.size e 1 (.slice (some ⟨w.heap.size, 0, none⟩) 0 0) 0 [] := World.ownsRow_lit w #[] 0 (Nat.le_refl _) (Nat.zero_le _) rfl
theorem apply_tells {t t2 : TR} {ys : List Ef} {e2 : Int} (h : t.apply ys = (e2, t2)) : decide (t.root = t2.root ∧ t.cnt = t2.cnt ∧ t.row = t2.row) = (e2 != 0) := by
  unfold TR.apply at h
  split at h
  · injection h with h1 h2
    subst h1 h2
    rw [decide_eq_false]
    · rfl
    · rintro ⟨_, h, _⟩
      dsimp only at h
      omega
  · next h0 =>
    injection h with h1 h2
    subst h1 h2
    rw [decide_eq_true ⟨rfl, rfl, rfl⟩]
    simp [h0]
def RelS (w : World) (a b : Addr) (n : Nat) (i : Value) (wr : World) : Prop := ∃ (j : Nat) (X : Nat → Prop) (t : TR), j ≤ n ∧ i = .int .i64 (j : Int) ∧ St w wr [(b, t), (a, t)] X

set_option maxRecDepth 8000 in
set_option maxHeartbeats 4000000 in
theorem walk (A B : Option Addr) (n c m d : Nat) (xss : List (List Ef)) (ys : List Ef) (w : World) (hl : EfSS (fun j => j < w.heap.size) w A n xss) (hm : EfS (fun j => j < w.heap.size) w B m ys) (hmd : m ≤ d) (hd : d ≤ maxLen) (hn24 : (n + 1) * 24 ≤ 140737488355328) :
    Calls Tryd.prog 4 #[.slice A n c, .slice B m d] w fun e w' => e = .returned (.bool true) ∧ Below w.heap.size w w' := by
  have hll := hl.len
  have hml := hm.len
  have HEl := Lib.hid hl
  have HEm := Lib.hid hm
  obtain ⟨vs, hvr, hv1, hvv⟩ := hl.vals
  have HVR := Lib.hid hvr
  have HV1 := Lib.hid hv1
  have HVV := Lib.hid hvv
  obtain ⟨i0, hi0, hz0, hz1, hz2⟩ := infos info_sl
  have HI := Lib.hid hi0
  have HZ0 := Lib.hid hz0
  have HZ1 := Lib.hid hz1
  have HZ2 := Lib.hid hz2
  have B1 := Lib.hid ((Below.refl w.heap.size w).alloc (Nat.le_refl _) (.cells #[] 30))
  clear hl hm hvr hv1 hvv hi0 hz0 hz1 hz2
  go_enter Tryd.func4, Tryd.ntmps4
  go_wp2_with (at_builtin; refine wpList_append_RdV rfl (.tmp 12) (.tmp 13) _ rfl ty_effss HI.out HZ0.out HZ1.out HZ2.out rfl rfl (own_none w 30) rfl (HVR.out.below B1.out) HV1.out (by unfold maxLen; omega) (by omega) (by simp) ?_)
  intro v1 w2 hown1 hg1
  have hown2 : w2.ownsRow w.heap.size 30 1 v1 n vs := by simpa using hown1
  have hb2 := B1.out.grown hg1 (by simp) (fun g hg => ((own_none w 30).lt g hg).1)
  have HO2 := Lib.hid hown2
  have HB2 := Lib.hid hb2
  clear hown1 hg1 hown2 hb2 B1 HVR
  go_wp2_with (at_builtin; refine wpList_append_own _ rfl (.tmp 14) (.tmp 16) _ rfl w.heap.size 30 i0 _ 1 24 ty_effss HI.out HZ0.out HZ1.out HZ2.out rfl (by decide) _ n _ rfl (HO2.out.alloc _) ⟨w2.heap.size, 0, none⟩ 1 1 _ rfl rfl (one_new _ _ _) (by simp [Value.oneCell']) (by unfold maxLen; omega) (by omega) (by simp; have := HB2.out.size; omega) ?_)
  intro v2 w3 hown3 hg3 _
  have hb3 := (HB2.out.alloc HB2.out.size _).grown hg3 (by simp; have := HB2.out.size; omega) (fun g hg => (HO2.out.lt g hg).1)
  obtain ⟨A3, c3, rfl⟩ := own_slice hown3
  have HB3 := Lib.hid hb3
  have HG : Hid (EfSS (fun _ => True) w3 A3 (n + 1) (xss ++ [ys])) := EfSS.of_vals (RdV.of_own hown3).1 (by simp [hll]) (fun j hj => by
    by_cases hjn : j < n
    · obtain ⟨B', m', c', h0, h1, h2, h3⟩ := HVV.out j (by omega)
      refine ⟨B', m', c', ?_, h1, h2, ?_⟩
      · rw [List.getElem?_append_left (by have := HO2.out.1; omega)]
        exact h0
      · rw [List.getElem_append_left (by omega)]
        exact h3.below HB3.out
    · have hj2 : j = n := by simp at hj; omega
      subst hj2
      refine ⟨B, m, d, ?_, hmd, hd, ?_⟩
      · rw [List.getElem?_append_right (by have := HO2.out.1; omega), show j - vs.length = 0 by have := HO2.out.1; omega]
        rfl
      · rw [List.getElem_append_right (by omega)]
        simp
        exact HEm.out.below HB3.out)
  clear hown3 hg3 hb3 HO2 HB2 HV1 HVV HI HZ0 HZ1 HZ2
  have cg := great_any (fun _ => True) A3 (n + 1) c3 (xss ++ [ys]) w3 HG.out
  go_wp2_with fail
  refine cg.mono ?_
  rintro e w4 ⟨rfl, rfl | ⟨rfl, hsm⟩⟩
  · go_wp2_with fail
    go_ret
    exact ⟨rfl, HB3.out⟩
  · have hn40 : n ≤ 40 := by have := hsm.1; simp at this; omega
    have HOK : Hid (∀ j, (hj : j < xss.length) → ∀ x ∈ xss[j], x.path.length ≤ 1000000 ∧ x.node.data.length ≤ 1000000) := fun j hj x hx => by
      have := hsm.2.2 xss[j] (by simp) x hx
      exact ⟨Nat.le_trans this.1 (by decide), Nat.le_trans this.2 (by decide)⟩
    have HOKy : Hid (∀ x ∈ ys, x.path.length ≤ 1000000 ∧ x.node.data.length ≤ 1000000) := fun x hx => by
      have := hsm.2.2 ys (by simp) x hx
      exact ⟨Nat.le_trans this.1 (by decide), Nat.le_trans this.2 (by decide)⟩
    have HLN : Hid (∀ j, (hj : j < xss.length) → xss[j].length ≤ 200) := fun j hj => by
      have h1 := hsm.2.1
      have h2 : xss[j].length ≤ sumL (xss ++ [ys]) := by
        unfold sumL
        have : ∀ (l : List (List Ef)) (z : List Ef), z ∈ l → z.length ≤ (l.map List.length).sum := by
          intro l z hz
          induction l with
          | nil => cases hz
          | cons y l ih =>
            rw [List.map_cons, List.sum_cons]
            rcases List.mem_cons.1 hz with rfl | hz
            · omega
            · have := ih hz; omega
        exact this _ _ (by simp)
      omega
    have hm200 : m ≤ 200 := by
      have h1 := hsm.2.1
      unfold sumL at h1
      rw [List.map_append, List.sum_append] at h1
      simp at h1
      omega
    have H0 : Hid (St w w4 [] (fun _ => False)) := ⟨Trees.none_ w4, HB3.out, fun _ h => h.elim⟩
    clear hsm cg HG HB3
    go_wp2_with fail
    refine (New_st pR w w4 [] _ (by decide) gr0 H0.out).mono ?_
    rintro e w5 ⟨a, X1, rfl, _, hS⟩
    have H1 := Lib.hid hS
    clear hS H0
    go_wp2_with fail
    refine (New_st pR w w5 [(a, TR.new pR)] X1 (by decide) gr0 H1.out).mono ?_
    rintro e w6 ⟨b, X2, rfl, _, hS⟩
    have H2 := Lib.hid hS
    clear hS H1
    go_wp2_with fail
    go_loopw [9] (fun i wr => RelS w a b n i wr) (fun i _ => n - (intOf i).toNat)
    case atStart => exact ⟨0, X2, TR.new pR, by omega, rfl, H2.out⟩
    case round =>
      obtain ⟨j, X, t, hj, rfl, hS⟩ := hrel
      have HS := Lib.hid hS
      clear hS H2
      by_cases hlt : j < n
      · have hjx : j < xss.length := by omega
        obtain ⟨bb, oo, C, k, ck, rfl, hcell, hkc, hck, hE⟩ := HEl.out.at_ hjx
        have HALL : Hid (∀ W, Below w.heap.size w W → W.cell? ⟨bb, oo + j, none⟩ = some (.slice C k ck)) := fun W hW => (hW.cell (World.block_lt_of_cell? _ _ hcell)).trans hcell
        have HE := Lib.hid hE
        have hkl := hE.len
        have hk200 : k ≤ 200 := by have := HLN.out j hjx; omega
        have HP := Lib.hid (HOK.out j hjx)
        obtain ⟨e1, t1, h1⟩ : ∃ e1 t1, t.apply xss[j] = (e1, t1) := ⟨_, _, rfl⟩
        have HA : Hid (∀ W Y, St w W [(b, t), (a, t)] Y → Calls Tryd.prog 12 #[.pointer (some a), .slice C k ck] W fun e w' => e = .returned (.int .i64 e1) ∧ ∃ Y', St w w' [(b, t), (a, t1)] Y') := fun W Y hW => by
          have ca := Apply_any (fun j => j < w.heap.size) C k ck xss[j] 1 a t W _ Y hW.1 rfl (HE.out.below hW.2.1) (fun q hq hx => by have := hW.2.2 q hx; omega) HP.out (by omega)
          rw [h1] at ca
          refine ca.mono ?_
          rintro e w' ⟨rfl, hm⟩
          obtain ⟨Y', hS', _, _⟩ := hW.made hm
          exact ⟨rfl, Y', hS'⟩
        have HBb : Hid (∀ W Y, St w W [(b, t), (a, t1)] Y → Calls Tryd.prog 12 #[.pointer (some b), .slice C k ck] W fun e w' => e = .returned (.int .i64 e1) ∧ ∃ Y', St w w' [(b, t1), (a, t1)] Y') := fun W Y hW => by
          have ca := Apply_any (fun j => j < w.heap.size) C k ck xss[j] 0 b t W _ Y hW.1 rfl (HE.out.below hW.2.1) (fun q hq hx => by have := hW.2.2 q hx; omega) HP.out (by omega)
          rw [h1] at ca
          refine ca.mono ?_
          rintro e w' ⟨rfl, hm⟩
          obtain ⟨Y', hS', _, _⟩ := hW.made hm
          exact ⟨rfl, Y', hS'⟩
        have HSm : Hid (∀ W Y, St w W [(b, t1), (a, t1)] Y → Calls Tryd.prog 13 #[.pointer (some a), .pointer (some b)] W fun e w' => e = .returned (.bool true) ∧ St w w' [(b, t1), (a, t1)] Y) := fun W Y hW => by
          have cs := Same_any 1 0 a b t1 t1 W _ Y hW.1 rfl rfl
          rw [decide_eq_true (⟨rfl, rfl, rfl⟩ : t1.root = t1.root ∧ t1.cnt = t1.cnt ∧ t1.row = t1.row)] at cs
          refine cs.mono ?_
          rintro e w' ⟨rfl, hb⟩
          exact ⟨rfl, hW.below hb⟩
        have v1 : (j : Int) < (n : Int) := by omega
        have ez : (e1 != e1) = false := by simp
        clear hcell hE h1 HE HP hkl
        have HS1 := Lib.hid (HS.out.below (Below.refl wr.heap.size wr).drew)
        go_wp2_with fail
        go_region_held (fun w' => w'.cell? ⟨bb, oo + j, none⟩ = some (.slice C k ck))
          (first | assumption | exact HALL.out _ HSc.out.2.1 | exact HALL.out _ HSb.out.2.1 | exact HALL.out _ HSa.out.2.1 | exact HALL.out _ HS1.out.2.1)
          (first
            | (go_at_call 12; refine (HA.out _ _ HS1.out).mono ?_; rintro e wa ⟨rfl, Ya, hSa⟩; have HSa := Lib.hid hSa; clear HA hSa)
            | (go_at_call 12; refine (HBb.out _ _ HSa.out).mono ?_; rintro e wb ⟨rfl, Yb, hSb⟩; have HSb := Lib.hid hSb; clear hSb)
            | (go_at_call 13; refine (HSm.out _ _ HSb.out).mono ?_; rintro e wc ⟨rfl, hSc⟩; have HSc := Lib.hid hSc; clear hSc))
        all_goals
          go_wp2_with fail
          exact ⟨⟨j + 1, _, t1, by omega, rfl, HSc.out⟩, by simp [intOf]; omega⟩
      · obtain rfl : n = j := by omega
        have v1 : ¬ (n : Int) < (n : Int) := by omega
        obtain ⟨e2, t2, h2⟩ : ∃ e2 t2, t.apply ys = (e2, t2) := ⟨_, _, rfl⟩
        have HD : Hid (decide (t.root = t2.root ∧ t.cnt = t2.cnt ∧ t.row = t2.row) = (e2 != 0)) := apply_tells h2
        have HAP : Hid (t.apply ys = (e2, t2)) := h2
        clear h2
        go_wp2_with fail
        refine (Clone_st 1 a t w wr _ X HS.out rfl).mono ?_
        rintro e x1 ⟨cc, Y1, rfl, _, hS⟩
        have K1 := Lib.hid hS
        clear hS HS
        go_wp2_with fail
        have cs := Same_any 2 0 a cc t t x1 _ Y1 K1.out.1 rfl rfl
        rw [decide_eq_true (⟨rfl, rfl, rfl⟩ : t.root = t.root ∧ t.cnt = t.cnt ∧ t.row = t.row)] at cs
        refine cs.mono ?_
        rintro e x2 ⟨rfl, hb⟩
        have K2 := Lib.hid (K1.out.below hb)
        clear hb cs K1
        go_wp2_with fail
        have ca := Apply_any (fun j => j < w.heap.size) B m d ys 0 cc t x2 _ Y1 K2.out.1 rfl (HEm.out.below K2.out.2.1) (fun q hq hx => by have := K2.out.2.2 q hx; omega) HOKy.out (by omega)
        rw [HAP.out] at ca
        refine ca.mono ?_
        rintro e x3 ⟨rfl, hm⟩
        obtain ⟨Y2, hS, _, _⟩ := K2.out.made hm
        have K3 : Hid (St w x3 [(cc, t2), (b, t), (a, t)] Y2) := hS
        clear hm hS ca K2
        go_wp2_with fail
        have cs := Same_any 2 0 a cc t t2 x3 _ Y2 K3.out.1 rfl rfl
        rw [HD.out] at cs
        refine cs.mono ?_
        rintro e x4 ⟨rfl, hb⟩
        have K4 := Lib.hid (K3.out.below hb)
        clear hb cs K3
        have ex : ((e2 != 0) != (e2 != 0)) = false := by simp
        go_wp2_with fail
        have cs := Same_any 2 1 a b t t x4 _ Y2 K4.out.1 rfl rfl
        rw [decide_eq_true (⟨rfl, rfl, rfl⟩ : t.root = t.root ∧ t.cnt = t.cnt ∧ t.row = t.row)] at cs
        refine cs.mono ?_
        rintro e x5 ⟨rfl, hb⟩
        have K5 := Lib.hid (K4.out.below hb)
        clear hb cs K4
        go_wp2_with fail
        have ca := Apply_any (fun j => j < w.heap.size) B m d ys 2 a t x5 _ Y2 K5.out.1 rfl (HEm.out.below K5.out.2.1) (fun q hq hx => by have := K5.out.2.2 q hx; omega) HOKy.out (by omega)
        rw [HAP.out] at ca
        refine ca.mono ?_
        rintro e x6 ⟨rfl, hm⟩
        obtain ⟨Y3, hS, _, _⟩ := K5.out.made hm
        have K6 : Hid (St w x6 [(cc, t2), (b, t), (a, t2)] Y3) := hS
        clear hm hS ca K5
        have ey : (e2 == e2) = true := by simp
        go_wp2_with fail
        have cs := Same_any 2 0 a cc t2 t2 x6 _ Y3 K6.out.1 rfl rfl
        rw [decide_eq_true (⟨rfl, rfl, rfl⟩ : t2.root = t2.root ∧ t2.cnt = t2.cnt ∧ t2.row = t2.row)] at cs
        refine cs.mono ?_
        rintro e x7 ⟨rfl, hb⟩
        have K7 := Lib.hid (K6.out.below hb)
        clear hb cs K6
        go_wp2_with fail
        refine (grows_any x7).mono ?_
        rintro e x8 ⟨rfl, hb⟩
        have K8 := Lib.hid (K7.out.below hb)
        clear hb K7
        go_wp2_with fail
        go_ret
        exact ⟨rfl, K8.out.2.1⟩

set_option maxRecDepth 100000 in
theorem lifted (os : Os) (started : os.Started) (H : Type) (enc : TypeId × Value → H) :
    ReturnsInHanded {} Tryd.checked os 4 .any (fun w args => (Rows.treeSameSpec.pre enc Tryd.prog Tryd.f4 Rows.treeSameRow.domain false w args ∧ laidMetH Tryd.prog Rows.treeSameRow.laid w) ∧ sizedMet enc Tryd.prog Tryd.f4 (OpenSpec.ofChange Rows.treeSameSpec) false w args) (Rows.treeSameSpec.post enc Tryd.prog Tryd.f4 false true false false) := by
  refine returnsInHanded_of_change_and (C := Tryd.checked) (X := fun w _ => laidMetH Tryd.prog Rows.treeSameRow.laid w) (fun _ _ _ hh h => h.of_heap hh) own started (by kernel_rfl) Tryd.func4
    (ChangeSpec.witness_shaped (enc := enc) (C := Tryd.checked) (os := os) (X := fun w _ => laidMetH Tryd.prog Rows.treeSameRow.laid w) false (World.laidAll Tryd.prog os Rows.treeSameRow.laid) #[.slice none 0 0, .slice none 0 0] 8 (World.laidAll_os _ _ _)
      (World.shaped_of_ZipB (by kernel_rfl) (by kernel_rfl)) (by kernel_rfl) (by kernel_rfl) (by kernel_rfl)
      (by rw [MakeChecks.laidMetH_plain _ _ _ (by kernel_rfl)]; exact laidMet_laidAll _ (by kernel_rfl) (by kernel_rfl))) ?_
  intro W base args ds gs before hval0 hW _ hsz _ _
  have hval : ∀ (j : Nat) t v, Tryd.f4.params[j]? = some t → args[j]? = some v → Value.okWide Tryd.prog W .any base t v := hval0
  have hW' := hW
  obtain ⟨p, q, hA0, hV, rfl, hfz, hnd⟩ := hW
  have hA : DataW.TrodAll enc Tryd.prog W 0 (fun _ => true) true Tryd.f4.params.toList args.toList ds p := hA0
  rw [Tryd.params4] at hA hval
  obtain ⟨v0, v1, d0, d1, p0, p1, rfl, rfl, rfl, h0, h1⟩ := trodAll_two hA
  obtain ⟨rfl, rfl⟩ := trodVars_none hV
  obtain ⟨A, n, c, xss, rfl, _, _, hl, hes⟩ := arg_effss (hval 0 _ v0 rfl rfl) h0
  obtain ⟨B, m, d, ys, rfl, hmd, hd, hm⟩ := arg_effs (hval 1 _ v1 rfl rfl) h1
  have hn24 : (n + 1) * 24 ≤ 140737488355328 := by
    rcases hes with rfl | ⟨es, sp, rfl, hen⟩
    · decide
    · have this : (es.length + sp.length) * Tryd.prog.bytesOf 30 ≤ reachBytes := sized_slice hsz (j := 0) (t := 22) (e := 30) rfl rfl ty_effss
      rw [bytes_sl] at this
      unfold reachBytes at this
      omega
  refine (walk A B n c m d xss ys W hl hm hmd hd hn24).mono fun e W' ⟨he, hb⟩ => ?_
  subst he
  exact ⟨_, rfl, post_true laidOut (by kernel_rfl) ty_bool (by kernel_rfl) rfl hW' hb rfl⟩

theorem over : Rows.treeSameRow.holds Tryd.pinned (OpenSpec.ofChange Rows.treeSameSpec) :=
  OpenClaim.holds_of_wide 4 Tryd.f4 rfl rfl rfl rfl rfl rfl rfl ⟨rfl, rfl, rfl, rfl, rfl⟩ rfl rfl rfl rfl rfl (by kernel_rfl) Tryd.func4 (by kernel_rfl)
    (of_decide_eq_true (by kernel_rfl)) (by unfold Func.isWrapper; first | (rw [if_pos (by decide +kernel)]; kernel_rfl) | (rw [if_neg (by decide +kernel)]; exact ⟨rfl, rfl⟩))
    (fun os started H enc _ => lifted os started H enc)

theorem proved : Rows.TreeSameCardSaid :=
  Claim7.holds_tied_plain_at .later [] Rows.treeSameCard.laidKinds true Rows.treeSameCard.stood.harness Rows.treeSameCard.stood.looks over (fun _ h => by cases h) (by kernel_rfl) (fun _ h => by cases h) treeSame_row_tie rfl ⟨rfl, rfl⟩ (by kernel_rfl) rfl
    (fun f fn hf hfn => by
      obtain rfl : f = 4 := Option.some.inj ((show Tryd.pinned.checked.prog.funcNamed Rows.treeSameRow.func = some 4 by kernel_rfl).symm.trans hf) |>.symm
      obtain rfl : fn = Tryd.f4 := (Option.some.inj (Tryd.func4.symm.trans hfn)).symm
      exact ⟨by kernel_rfl, fun j t ht => by
        have hall : (Tryd.f4.params.toList.all fun u => !Tryd.prog.wantsStandIn u) = true := by kernel_rfl
        exact (show Tryd.prog.wantsStandIn t = false by simpa using List.all_eq_true.1 hall t (by simpa using Array.mem_of_getElem? ht))⟩)
    (by kernel_rfl)
end Go.Proofs.YtaokjkhailpemaaDoor.treeSame
