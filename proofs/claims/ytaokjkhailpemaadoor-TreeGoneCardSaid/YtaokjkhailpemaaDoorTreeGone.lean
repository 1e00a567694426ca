/- TreeGone: nodes that were put one below the other go from the deepest one on, and only so. For every input the call returns true, and each argument reads afterwards as it read before. No conditions. -/
import Derived.Test.YtaokjkhailpemaaDoorTreeGonePure
import Derived.Test.YtaokjkhailpemaaDoorPathFrame
namespace Go.Proofs.YtaokjkhailpemaaDoor.treeGone
open Go.ChangeShapes Go.WideShapes Go.ChangeAt Go.RowKit Path Tree

/-- The first loop: k effects are in the row. -/
def Rel1 (w w1 : World) (a : Addr) (X : Nat → Prop) (D : Nat) (v s i : Value) (wr : World) : Prop :=
  ∃ (k : Nat) (xds : List (Ef × Value)), k ≤ D ∧ i = .int .i64 (k : Int) ∧ s = .string (S (pa k)) ∧ xds.map (·.1) = chain k ∧ St w wr [(a, TR.new [47])] X ∧ w1.heap.size ≤ wr.heap.size ∧
    wr.ownsRow w1.heap.size 52 11 v k (xds.flatMap fun y => efC y.1 y.2) ∧ ∀ y ∈ xds, DataB w1.heap.size wr y.2 y.1.node.data

/-- The second loop: q nodes below the root are left. -/
def Rel2 (w : World) (P : Nat → Prop) (z : Nat) (a : Addr) (A : Option Addr) (k : Nat) (i : Value) (wr : World) : Prop :=
  ∃ (q c : Nat) (X : Nat → Prop), q ≤ k ∧ i = .int .i64 ((q : Int) - 1) ∧ St w wr [(a, ⟨[47], c, rowG q⟩)] X ∧ (∀ j, P j → ¬ X j) ∧ EfS P wr A k (chain k) ∧ z ≤ wr.heap.size
theorem ty_effs : Tryd.prog.underlying 30 = some (.slice 52) := by kernel_rfl

set_option maxRecDepth 8000 in
set_option maxHeartbeats 4000000 in
theorem walk (n m : Nat) (w : World) (hn : n < 256) (hm : m < 256) : Calls Tryd.prog 5 #[.int .u8 (n : Int), .int .u8 (m : Int)] w fun e w' => e = .returned (.bool true) ∧ Below w.heap.size w w' := by
  obtain ⟨D, hD⟩ : ∃ D, D = 1 + n % 20 := ⟨_, rfl⟩
  have hD1 : 1 ≤ D := by omega
  have hD2 : D ≤ 20 := by omega
  have eD : (1 : Int) + (n : Int) % 20 = (D : Int) := by omega
  clear hD
  obtain ⟨i0, hi0, hz0, hz1, hz2⟩ := infos info_ef
  have HI := Lib.hid hi0
  have HZ0 := Lib.hid hz0
  have HZ1 := Lib.hid hz1
  have HZ2 := Lib.hid hz2
  clear hi0 hz0 hz1 hz2
  have c1 := New_st [47] w w [] _ (by decide) gn0 (St.start w)
  go_enter Tryd.func5, Tryd.ntmps5
  go_wp2_with fail
  refine c1.mono ?_
  rintro e w1 ⟨a, X1, rfl, _, hS⟩
  have H1 := Lib.hid hS
  clear hS c1
  go_wp2_with fail
  go_loopw [8, 9, 10] (fun v s i wr => Rel1 w w1 a X1 D v s i wr) (fun _ _ i _ => D - (intOf i).toNat)
  case atStart => exact ⟨0, [], by omega, rfl, rfl, rfl, H1.out, Nat.le_refl _, ⟨rfl, .inl ⟨rfl, rfl⟩⟩, fun y hy => by cases hy⟩
  case round =>
    obtain ⟨k, xds, hk, rfl, rfl, hxd, hS, hsz, hown, hdb⟩ := hrel
    have HS := Lib.hid hS
    have HXD := Lib.hid hxd
    have HO := Lib.hid hown
    have HDB := Lib.hid hdb
    have HSZ := Lib.hid hsz
    clear hS hxd hown hdb hsz
    by_cases hlt : k < D
    · have v1 : (k : Int) < (D : Int) := by omega
      have cj := Join_any (pa k) [97] wr (by have := len_pa k; omega) (by decide)
      rw [join4 (by omega)] at cj
      go_wp2_with fail
      refine cj.mono ?_
      rintro e w2 ⟨rfl, hb⟩
      have HB2 := Lib.hid hb
      clear hb cj
      have cp := put_blk (pa (k + 1)) w2
      go_wp2_with fail
      refine cp.mono ?_
      rintro e w3 ⟨d, rfl, hb, hd⟩
      have HB3 := Lib.hid (HB2.out.trans (hb.mono HB2.out.size))
      have hwd : w1.heap.size ≤ w2.heap.size := Nat.le_trans HSZ.out HB2.out.size
      obtain ⟨g, c, hdd⟩ : ∃ g c, d = .slice (some ⟨g, 0, none⟩) (pa (k + 1)).length c := by
        obtain ⟨g, c, _, _, e, _⟩ := hd
        exact ⟨g, c, e⟩
      subst hdd
      have HD3 := Lib.hid (hd.mono hwd)
      have HO3 := Lib.hid (own_keep (own_keep HO.out HB3.out) ((Below.refl w3.heap.size w3).alloc (Nat.le_refl _) (.cells (efC (efPut (pa (k + 1))) (.slice (some ⟨g, 0, none⟩) (pa (k + 1)).length c)).toArray 52)))
      have HS3 := Lib.hid ((HS.out.below HB3.out).alloc (.cells (efC (efPut (pa (k + 1))) (.slice (some ⟨g, 0, none⟩) (pa (k + 1)).length c)).toArray 52))
      have HBA := Lib.hid ((Below.refl w3.heap.size w3).alloc (Nat.le_refl _) (.cells (efC (efPut (pa (k + 1))) (.slice (some ⟨g, 0, none⟩) (pa (k + 1)).length c)).toArray 52))
      have HEN := Lib.hid (ef_new w3 (efPut (pa (k + 1))) (.slice (some ⟨g, 0, none⟩) (pa (k + 1)).length c) 52)
      have HEO := Lib.hid (ef_one (efPut (pa (k + 1))) (some ⟨g, 0, none⟩) (pa (k + 1)).length c)
      have hw13 : w1.heap.size ≤ w3.heap.size := Nat.le_trans HSZ.out HB3.out.size
      clear hb hd cp HO HS hwd
      dsimp only [efV, efC, znC, efPut, ZN.zero] at HEN HEO HO3 HS3 HBA ⊢
      go_wp2_with (at_builtin; refine wpList_append_own _ rfl (.tmp 43) (.tmp 46) _ rfl w1.heap.size 52 i0 (.agg efZ) 11 104 ty_effs HI.out HZ0.out HZ1.out HZ2.out rfl (by decide) _ k _ rfl HO3.out ⟨w3.heap.size, 0, none⟩ 1 1 _ rfl rfl HEN.out HEO.out (by unfold maxLen; omega) (by omega) (by simp; omega) ?_)
      intro v' w4 hown hg _
      have HO4 : Hid (w4.ownsRow w1.heap.size 52 11 v' (k + 1) ((xds ++ [(efPut (pa (k + 1)), Value.slice (some ⟨g, 0, none⟩) (pa (k + 1)).length c)]).flatMap fun y => efC y.1 y.2)) := by
        show World.ownsRow _ _ _ _ _ _ _
        rw [List.flatMap_append]
        simpa [efC, znC, efPut, ZN.zero] using hown
      have HKEEP := Lib.hid (own_other HO3.out hg)
      have HS4 := Lib.hid (HS3.out.grown hg (fun q e => ⟨fun hx => by have := H1.out.lt q hx; have := own_blk HO3.out q e; omega, Nat.le_trans H1.out.2.1.size (own_blk HO3.out q e)⟩))
      have HDB4 : Hid (∀ y ∈ xds ++ [(efPut (pa (k + 1)), Value.slice (some ⟨g, 0, none⟩) (pa (k + 1)).length c)], DataB w1.heap.size w4 y.2 y.1.node.data) := by
        intro y hy
        rcases List.mem_append.1 hy with hy | hy
        · exact (((HDB.out y hy).below HB3.out).below HBA.out).keep HKEEP.out
        · simp at hy
          subst hy
          exact (HD3.out.below HBA.out).keep HKEEP.out
      have HSZ4 : Hid (w1.heap.size ≤ w4.heap.size) := Nat.le_trans hw13 (Nat.le_trans HBA.out.size hg.size)
      have HXD4 : Hid ((xds ++ [(efPut (pa (k + 1)), Value.slice (some ⟨g, 0, none⟩) (pa (k + 1)).length c)]).map (·.1) = chain (k + 1)) := by
        show _ = _
        rw [List.map_append, HXD.out, chain_succ]
        rfl
      clear hown hg HKEEP HO3 HS3 HBA HEN HEO HDB HD3 HXD
      go_wp2_with fail
      exact ⟨⟨k + 1, _, by omega, by simp, rfl, HXD4.out, HS4.out, HSZ4.out, HO4.out, HDB4.out⟩, by simp [intOf]; omega⟩
    · obtain rfl : k = D := by omega
      obtain ⟨A, c, rfl, hkc⟩ := own_is HO.out
      have hPk : ∀ q, w1.heap.size ≤ q → q < wr.heap.size → (fun q => w1.heap.size ≤ q ∧ q < wr.heap.size) q := fun q h1 h2 => ⟨h1, h2⟩
      have HE : Hid (EfS (fun q => w1.heap.size ≤ q ∧ q < wr.heap.size) wr A k (chain k)) := by
        rw [← HXD.out]
        exact EfS.of_own HO.out hPk (fun y hy => (HDB.out y hy).in_ hPk)
      have HPX : Hid (∀ q, (w1.heap.size ≤ q ∧ q < wr.heap.size) → ¬ X1 q) := fun q hq hx => by have := H1.out.lt q hx; omega
      clear hPk HO HXD HDB
      have ca := Apply_any (fun q => w1.heap.size ≤ q ∧ q < wr.heap.size) A k c (chain k) 0 a (TR.new [47]) wr [(a, TR.new [47])] X1 HS.out.1 rfl HE.out HPX.out (chain_ok (by omega)) (by omega)
      rw [gone1 (by omega)] at ca
      have v1 : ¬ (k : Int) < (k : Int) := by omega
      go_wp2_with fail
      refine ca.mono ?_
      rintro e w5 ⟨rfl, hm⟩
      obtain ⟨X2, hS, ho, hX⟩ := HS.out.made hm
      have H5 : Hid (St w w5 [(a, ⟨[47], 1, rowG k⟩)] X2) := hS
      have HE5 := Lib.hid (HE.out.out ho HPX.out)
      have HPX5 : Hid (∀ q, (w1.heap.size ≤ q ∧ q < wr.heap.size) → ¬ X2 q) := fun q hq hx => (hX q hx).elim (HPX.out q hq) (by omega)
      have HZ5 : Hid (wr.heap.size ≤ w5.heap.size) := ho.size
      clear hm hS ho hX ca HS HE HPX
      obtain ⟨z, hz⟩ : ∃ z, z = wr.heap.size := ⟨_, rfl⟩
      rw [← hz] at HE5 HPX5 HZ5
      clear hz
      go_wp2_with fail
      have hrl : (⟨[47], 1, rowG k⟩ : TR).row.length = k + 1 := len_rowG k
      have cp := Paths_any 0 a ⟨[47], 1, rowG k⟩ w5 _ X2 H5.out.1 rfl
      rw [hrl] at cp
      refine cp.mono ?_
      rintro e w6 ⟨A6, c6, rfl, hb, _, _⟩
      have H6 := Lib.hid (H5.out.below hb)
      have HE6 := Lib.hid (HE5.out.below hb)
      have HZ6 : Hid (z ≤ w6.heap.size) := Nat.le_trans HZ5.out hb.size
      clear hb cp hrl H5 HE5 HZ5
      obtain ⟨t, ht⟩ : ∃ t, t = m % k := ⟨_, rfl⟩
      have hmod : m % k < k := Nat.mod_lt _ (by omega)
      have htk : t < k := by omega
      have et : (m : Int) % (k : Int) = (t : Int) := by rw [ht]; omega
      clear ht hmod
      obtain ⟨b, o, rfl, hcell⟩ := chain_at HE6.out htk
      have v5 : (t : Int) < (k : Int) := by omega
      have vk : ((k : Int) == 0) = false := beq_eq_false_iff_ne.2 (by omega)
      obtain ⟨f, q, cq, hap, hqk, hout⟩ := gone_out hD2 htk
      have HAP := Lib.hid hap
      have HPT : Hid ((pa (t + 1)).length ≤ 1000000) := by have := len_pa (t + 1); show _ ≤ _; omega
      clear hap
      go_wp2_with fail
      refine (gone_any (pa (t + 1)) w6).mono ?_
      rintro e w7 ⟨rfl, hb⟩
      have c3 := Apply_lit [(efGone (pa (t + 1)), Value.slice none 0 0)] w6.heap.size 0 a ⟨[47], 1, rowG k⟩ w w7 _ X2 (H6.out.below hb) rfl H6.out.lt hb.size (fun y hy => by simp at hy; subst hy; exact DataS.nil_ _ _) (fun x hx => by simp at hx; subst hx; exact ⟨HPT.out, Nat.zero_le _⟩) (by simp)
      rw [show List.map (·.1) [(efGone (pa (t + 1)), Value.slice none 0 0)] = [efGone (pa (t + 1))] from rfl, HAP.out] at c3
      have HE7 := Lib.hid (HE6.out.below hb)
      have HZ7 : Hid (z ≤ w7.heap.size) := Nat.le_trans HZ6.out hb.size
      clear hb H6 HE6 HZ6 HAP HPT hcell
      dsimp only [efV, efC, znC, efGone, ZN.zero]
      go_wp2_with fail
      refine c3.mono ?_
      rintro e w8 ⟨rfl, X3, hS, ho, hX⟩
      have H8 : Hid (St w w8 [(a, ⟨[47], cq, rowG q⟩)] X3) := hS
      have HE8 := Lib.hid (HE7.out.out ho HPX5.out)
      have HPX8 : Hid (∀ j, (w1.heap.size ≤ j ∧ j < z) → ¬ X3 j) := fun j hj hx => (hX j hx).elim (HPX5.out j hj) (fun h => by have := HZ7.out; omega)
      have HZ8 : Hid (z ≤ w8.heap.size) := Nat.le_trans HZ7.out ho.size
      clear hS ho hX c3 HE7 HZ7 HPX5
      have hrl : (⟨[47], cq, rowG q⟩ : TR).row.length = q + 1 := len_rowG q
      have cp := Paths_any 0 a ⟨[47], cq, rowG q⟩ w8 _ X3 H8.out.1 rfl
      rw [hrl] at cp
      clear hrl
      have ek : (k : Int) - 1 = ((k - 1 : Nat) : Int) := by omega
      rcases hout with ⟨h1, rfl⟩ | ⟨h1, rfl⟩
      all_goals
        first
          | (have vt : ((t : Int) == (k : Int) - 1) = true := beq_iff_eq.2 (by omega))
          | (have vt : ((t : Int) == (k : Int) - 1) = false := beq_eq_false_iff_ne.2 (by omega))
        clear h1 ek
        go_wp2_with fail
        refine cp.mono ?_
        rintro e w9 ⟨A9, c9, rfl, hb, _, _⟩
        have H9 := Lib.hid (H8.out.below hb)
        have HE9 := Lib.hid (HE8.out.below hb)
        have HZ9 : Hid (z ≤ w9.heap.size) := Nat.le_trans HZ8.out hb.size
        have eq1 : ((q + 1 : Nat) : Int) - 2 = (q : Int) - 1 := by omega
        clear hb cp H8 HE8 HZ8 vt
        go_wp2_with fail
        go_loopw [15] (fun i wr => Rel2 w (fun j => w1.heap.size ≤ j ∧ j < z) z a (some ⟨b, o, none⟩) k i wr) (fun i _ => ((intOf i) + 1).toNat)
        case atStart => exact ⟨q, cq, X3, hqk, by congr 1, H9.out, HPX8.out, HE9.out, HZ9.out⟩
        case round =>
          obtain ⟨wo, rfl⟩ : ∃ wo : World, wo = w9 := ⟨_, rfl⟩
          obtain ⟨r, cr, X, hrk, rfl, hS, hPX, hE, hZ⟩ := hrel
          have HS := Lib.hid hS
          have HPX := Lib.hid hPX
          have HE := Lib.hid hE
          have HZ := Lib.hid hZ
          clear hS hPX hE hZ H9 HE9 HZ9 HPX8 eq1
          by_cases hr0 : 1 ≤ r
          · obtain ⟨j, rfl⟩ : ∃ j, r = j + 1 := ⟨r - 1, by omega⟩
            have ej : ((j + 1 : Nat) : Int) - 1 = (j : Int) := by omega
            rw [ej]
            obtain ⟨b', o', e', hcell⟩ := chain_at HE.out (show j < k by omega)
            injection e' with e'
            injection e' with e1 e2
            subst e1 e2
            have v6 : (j : Int) < (k : Int) := by omega
            have v7 : (0 : Int) ≤ (j : Int) := by omega
            have HPJ : Hid ((pa (j + 1)).length ≤ 1000000) := by have := len_pa (j + 1); show _ ≤ _; omega
            go_wp2_with fail
            refine (gone_any (pa (j + 1)) wr).mono ?_
            rintro e x2 ⟨rfl, hb⟩
            have c3 := Apply_lit [(efGone (pa (j + 1)), Value.slice none 0 0)] wr.heap.size 0 a ⟨[47], cr, rowG (j + 1)⟩ w x2 _ X (HS.out.below hb) rfl HS.out.lt hb.size (fun y hy => by simp at hy; subst hy; exact DataS.nil_ _ _) (fun x hx => by simp at hx; subst hx; exact ⟨HPJ.out, Nat.zero_le _⟩) (by simp)
            rw [show List.map (·.1) [(efGone (pa (j + 1)), Value.slice none 0 0)] = [efGone (pa (j + 1))] from rfl, gone2 (by omega)] at c3
            have HE2 := Lib.hid (HE.out.below hb)
            have HZ2' : Hid (z ≤ x2.heap.size) := Nat.le_trans HZ.out hb.size
            clear hb HS HE HZ HPJ hcell
            dsimp only [efV, efC, znC, efGone, ZN.zero]
            go_wp2_with fail
            refine c3.mono ?_
            rintro e x3 ⟨rfl, X4, hS, ho, hX⟩
            have HS3 : Hid (St w x3 [(a, ⟨[47], (cr + 1) % 18446744073709551616, rowG j⟩)] X4) := hS
            have HE3 := Lib.hid (HE2.out.out ho HPX.out)
            have HPX3 : Hid (∀ i, (w1.heap.size ≤ i ∧ i < z) → ¬ X4 i) := fun i hi hx => (hX i hx).elim (HPX.out i hi) (fun h => by have := HZ2'.out; omega)
            have HZ3 : Hid (z ≤ x3.heap.size) := Nat.le_trans HZ2'.out ho.size
            clear hS ho hX c3 HE2 HZ2' HPX
            go_wp2_with fail
            exact ⟨⟨j, _, X4, by omega, by congr 1, HS3.out, HPX3.out, HE3.out, HZ3.out⟩, by simp [intOf]⟩
          · obtain rfl : r = 0 := by omega
            have v7 : ¬ (0 : Int) ≤ ((0 : Nat) : Int) - 1 := by omega
            have cp := Paths_any 0 a ⟨[47], cr, rowG 0⟩ wr _ X HS.out.1 rfl
            rw [show (⟨[47], cr, rowG 0⟩ : TR).row.length = 1 from rfl] at cp
            go_wp2_with fail
            refine cp.mono ?_
            rintro e x2 ⟨A2, c2, rfl, hb, _, _⟩
            have HS2 := Lib.hid (HS.out.below hb)
            clear hb cp HS HE HZ HPX
            go_wp2_with fail
            refine (grows_any x2).mono ?_
            rintro e x3 ⟨rfl, hb⟩
            have HS3 := Lib.hid (HS2.out.below hb)
            clear hb HS2
            go_wp2_with fail
            go_ret
            exact ⟨rfl, HS3.out.2.1⟩

set_option maxRecDepth 100000 in
theorem lifted (os : Os) (started : os.Started) (H : Type) (enc : TypeId × Value → H) :
    ReturnsInHanded {} Tryd.checked os 5 .any (fun w args => (Rows.treeGoneSpec.pre enc Tryd.prog Tryd.f5 Rows.treeGoneRow.domain false w args ∧ laidMetH Tryd.prog Rows.treeGoneRow.laid w) ∧ sizedMet enc Tryd.prog Tryd.f5 (OpenSpec.ofChange Rows.treeGoneSpec) false w args) (Rows.treeGoneSpec.post enc Tryd.prog Tryd.f5 false true false false) := by
  refine returnsInHanded_of_change_and (C := Tryd.checked) (X := fun w _ => laidMetH Tryd.prog Rows.treeGoneRow.laid w) (fun _ _ _ hh h => h.of_heap hh) own started (by kernel_rfl) Tryd.func5
    (ChangeSpec.witness_shaped (enc := enc) (C := Tryd.checked) (os := os) (X := fun w _ => laidMetH Tryd.prog Rows.treeGoneRow.laid w) false (World.laidAll Tryd.prog os Rows.treeGoneRow.laid) #[.int .u8 0, .int .u8 0] 8 (World.laidAll_os _ _ _)
      (World.shaped_of_ZipB (by kernel_rfl) (by kernel_rfl)) (by kernel_rfl) (by kernel_rfl) (by kernel_rfl)
      (by rw [MakeChecks.laidMetH_plain _ _ _ (by kernel_rfl)]; exact laidMet_laidAll _ (by kernel_rfl) (by kernel_rfl))) ?_
  intro W base args ds gs before hval0 hW _ _ _ _
  have hval : ∀ (j : Nat) t v, Tryd.f5.params[j]? = some t → args[j]? = some v → Value.okWide Tryd.prog W .any base t v := hval0
  have hW' := hW
  obtain ⟨p, q, hA0, hV, rfl, hfz, hnd⟩ := hW
  have hA : DataW.TrodAll enc Tryd.prog W 0 (fun _ => true) true Tryd.f5.params.toList args.toList ds p := hA0
  rw [Tryd.params5] at hA hval
  obtain ⟨v0, v1, d0, d1, p0, p1, rfl, rfl, rfl, h0, h1⟩ := trodAll_two hA
  obtain ⟨rfl, rfl⟩ := trodVars_none hV
  obtain ⟨y, rfl, hy⟩ := open_u8 Go.Proofs.YtaokjkhailpemaaDoor.ty_byte (hval 0 _ v0 rfl rfl) h0
  obtain ⟨z, rfl, hz⟩ := open_u8 Go.Proofs.YtaokjkhailpemaaDoor.ty_byte (hval 1 _ v1 rfl rfl) h1
  refine (walk y z W hy hz).mono fun e W' ⟨he, hb⟩ => ?_
  subst he
  exact ⟨_, rfl, post_true laidOut (by kernel_rfl) ty_bool (by kernel_rfl) rfl hW' hb rfl⟩

theorem over : Rows.treeGoneRow.holds Tryd.pinned (OpenSpec.ofChange Rows.treeGoneSpec) :=
  OpenClaim.holds_of_wide 5 Tryd.f5 rfl rfl rfl rfl rfl rfl rfl ⟨rfl, rfl, rfl, rfl, rfl⟩ rfl rfl rfl rfl rfl (by kernel_rfl) Tryd.func5 (by kernel_rfl)
    (of_decide_eq_true (by kernel_rfl)) (by unfold Func.isWrapper; first | (rw [if_pos (by decide +kernel)]; kernel_rfl) | (rw [if_neg (by decide +kernel)]; exact ⟨rfl, rfl⟩))
    (fun os started H enc _ => lifted os started H enc)

theorem proved : Rows.TreeGoneCardSaid :=
  Claim7.holds_tied_plain_at .later [] Rows.treeGoneCard.laidKinds true Rows.treeGoneCard.stood.harness Rows.treeGoneCard.stood.looks over (fun _ h => by cases h) (by kernel_rfl) (fun _ h => by cases h) treeGone_row_tie rfl ⟨rfl, rfl⟩ (by kernel_rfl) rfl
    (fun f fn hf hfn => by
      obtain rfl : f = 5 := Option.some.inj ((show Tryd.pinned.checked.prog.funcNamed Rows.treeGoneRow.func = some 5 by kernel_rfl).symm.trans hf) |>.symm
      obtain rfl : fn = Tryd.f5 := (Option.some.inj (Tryd.func5.symm.trans hfn)).symm
      exact ⟨by kernel_rfl, fun j t ht => by
        have hall : (Tryd.f5.params.toList.all fun u => !Tryd.prog.wantsStandIn u) = true := by kernel_rfl
        exact (show Tryd.prog.wantsStandIn t = false by simpa using List.all_eq_true.1 hall t (by simpa using Array.mem_of_getElem? ht))⟩)
    (by kernel_rfl)
end Go.Proofs.YtaokjkhailpemaaDoor.treeGone
