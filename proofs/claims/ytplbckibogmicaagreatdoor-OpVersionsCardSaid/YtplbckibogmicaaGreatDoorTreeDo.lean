/- What an effect that fits does; Apply. -/
import Derived.Test.YtplbckibogmicaaGreatDoorTreeFault
import Derived.Deep.RegionHeldLaw
namespace Go.Proofs.YtplbckibogmicaaGreatDoor.Tree
open Go.Op Go.RowKit Path

/-- What 'do' leaves. -/
structure Done (D : Nat → Prop) (g b : Nat) (w w' : World) (t' : TR) : Prop where
  tree : ∃ D', TreeAt w' D' g b t' ∧ ∀ k, D' k → D k ∨ w.heap.size ≤ k
  out : Out (· = b) w w'
theorem out_of_grown {w w' : World} {b : Nat} (h : w.grownBy w' (some b)) : Out (· = b) w w' := ⟨h.os, h.tape, h.output, h.size, fun k hk hne => h.block k hk (fun e => hne (Option.some.inj e))⟩
theorem one_gone {root : List UInt8} {l : Row} {x : Ef} (h : (one root l x).1 = 0) (hg : x.gone = true) : (one root l x).2 = del x.path l := by
  unfold one at h ⊢
  by_cases h1 : underF x.path root = false ∨ (x.gone = true ∧ x.path = root)
  · rw [if_pos h1] at h; cases h
  · rw [if_neg h1, if_pos hg] at h ⊢
    by_cases h2 : has l x.path = false
    · rw [if_pos h2] at h; cases h
    · rw [if_neg h2] at h ⊢
      by_cases h3 : kids root l x.path ≠ []
      · rw [if_pos h3] at h; cases h
      · rw [if_neg h3]
theorem one_put {root : List UInt8} {l : Row} {x : Ef} (h : (one root l x).1 = 0) (hg : x.gone = false) : (one root l x).2 = ins x.path x.node l := by
  have hg' : ¬ x.gone = true := by rw [hg]; exact Bool.noConfusion
  unfold one at h ⊢
  by_cases h1 : underF x.path root = false ∨ (x.gone = true ∧ x.path = root)
  · rw [if_pos h1] at h; cases h
  · rw [if_neg h1, if_neg hg'] at h ⊢
    by_cases h2 : x.path ≠ root ∧ has l (parentF x.path) = false
    · rw [if_pos h2] at h; cases h
    · rw [if_neg h2] at h ⊢
      by_cases h3 : has l x.path = false ∧ 48 ≤ l.length
      · rw [if_pos h3] at h; cases h
      · rw [if_neg h3]
theorem TreeAt.done {D : Nat → Prop} {g b : Nat} {t : TR} {w w0 w1 w' : World} (h : TreeAt w D g b t) {D' : Nat → Prop} {n : Nat} {row' : Row} (hb1 : Below w.heap.size w w1) (hg : w1.grownBy w' (some b)) (hm : w'.ownsMap Tryz.prog 9 (zR D' w0) b n (mapD row')) (hk : ∀ k, D' k → w'.heap[k]? = w0.heap[k]?) (hG : Good t.root row') (hlt : ∀ k, D' k → k < w'.heap.size) (hD' : ∀ k, D' k → D k ∨ w.heap.size ≤ k) (hS : Small row') :
    Done D g b w w' ⟨t.root, t.cnt, row'⟩ := by
  have hs := hb1.size
  refine ⟨⟨D', ⟨?_, ?_, hG, h.cnt, hlt, hS⟩, hD'⟩, ⟨hg.os.trans hb1.os, hg.tape.trans hb1.tape, hg.output.trans hb1.output, Nat.le_trans hs hg.size, fun k hk hne => (hg.block k (by omega) (fun e => hne (Option.some.inj e))).trans (hb1.block k hk)⟩⟩
  · exact (h.bk.below hb1).kept (hg.block g (Nat.lt_of_lt_of_le h.bk.lt hs) (fun e => h.ne (Option.some.inj e)))
  · have := owns_kept (w := w') (w' := w') hm rfl hk (fun _ h => h)
    obtain ⟨es, clock, hb0, F, hsz, hD⟩ := this
    refine ⟨es, clock, hb0, F, ?_, hD⟩
    have h1 := congrArg Maps.size hD
    rw [size_mapD] at h1
    have h2 : Maps.size (DataW.map ((es.toList.map (WideElems.rg Tryz.prog 9 (zR D' w'))).foldr DataW.insert [])) = es.size := by simp [Maps.size, length_sorted]
    rw [h2] at h1
    exact Nat.le_of_eq h1.symm
set_option maxRecDepth 8000 in
theorem do_gone {P : Nat → Prop} (x : Ef) (d : Value) {D : Nat → Prop} {g b : Nat} {t : TR} (w : World) (h : TreeAt w D g b t) (hd : DataS P w d x.node.data) (hp : x.path.length ≤ 1000000) (h0 : (one t.root t.row x).1 = 0) (hg : x.gone = true) (hDb : ∀ k, D k → k ≠ b) :
    Calls Tryz.prog 44 #[.pointer (some ⟨g, 0, none⟩), efV x d] w fun e w' => e = .returned (.tuple #[]) ∧ Done D g b w w' ⟨t.root, t.cnt, (one t.root t.row x).2⟩ := by
  have HG : Hid (Good t.root (del x.path t.row)) := by
    have := good_one h.good h0
    rw [one_gone h0 hg] at this
    exact this
  rw [one_gone h0 hg]
  clear h0
  obtain ⟨p, gn, nd⟩ := x
  dsimp only at hg hp hd HG ⊢
  subst hg
  obtain ⟨A, k, c, rfl, _⟩ := hd
  have B0 := Lib.hid ((Below.refl w.heap.size w).alloc (Nat.le_refl _) (.cells (efC ⟨p, true, nd⟩ (.slice A k c)).toArray 41))
  have hm : ((w.alloc (.cells (efC ⟨p, true, nd⟩ (.slice A k c)).toArray 41)).drew).ownsMap Tryz.prog 9 (zR D w) b t.row.length (mapD t.row) := h.map.alloc _
  obtain ⟨w', hrun, hown, hturn⟩ := hm.drop keys ty_map (key_of p hp) 0
  rw [del_mapD] at hown
  have HO := Lib.hid hown
  have HT := Lib.hid hturn
  have H := Lib.hid h
  have K0 : Bk (w.alloc (.cells (efC ⟨p, true, nd⟩ (.slice A k c)).toArray 41)) w.heap.size 41 (efC ⟨p, true, nd⟩ (.slice A k c)).toArray := Bk.new _ _ _
  have hgc : (w.alloc (.cells (efC ⟨p, true, nd⟩ (.slice A k c)).toArray 41)).cell? ⟨g, 2, none⟩ = some (.map (some b)) := (B0.out.cell (p := ⟨g, 2, none⟩) h.bk.lt).trans (h.bk.cell 2)
  have hp0 : (w.alloc (.cells (efC ⟨p, true, nd⟩ (.slice A k c)).toArray 41)).cell? ⟨w.heap.size, 0, none⟩ = some (.string (S p)) := K0.cell 0
  have hp1 : (w.alloc (.cells (efC ⟨p, true, nd⟩ (.slice A k c)).toArray 41)).cell? ⟨w.heap.size, 1, none⟩ = some (.bool true) := K0.cell 1
  clear hm hown hturn h K0
  unfold efV
  dsimp only [efC, znC] at hgc hp0 hp1 hrun B0 HT ⊢
  go_enter Tryz.func44, Tryz.ntmps44
  go_wp2_with fail
  go_region
  go_wp2_with fail
  refine bodyPost_ret (results_none rfl _ _ _) rfl ?_
  have hB1 : Below w.heap.size w (w.alloc (.cells (efC ⟨p, true, nd⟩ (.slice A k c)).toArray 41)).drew := B0.out.drew
  exact ⟨rfl, H.out.done (w0 := w) hB1 HT.out.grown HO.out (fun j hj => (HT.out.grown.block j (Nat.lt_of_lt_of_le (H.out.dlt j hj) hB1.size) (fun e => hDb j hj (Option.some.inj e))).trans (hB1.block j (H.out.dlt j hj))) HG.out (fun j hj => Nat.lt_of_lt_of_le (H.out.dlt j hj) (Nat.le_trans hB1.size HT.out.grown.size)) (fun j hj => .inl hj) (small_del H.out.small _)⟩

theorem DataS.lt {P : Nat → Prop} {w : World} {d : Value} {bs : List UInt8} (h : DataS P w d bs) : DataS (fun j => P j ∧ j < w.heap.size) w d bs := by
  obtain ⟨A, n, c, e, hc, hP, hr⟩ := h
  refine ⟨A, n, c, e, hc, fun h0 ad ea => ⟨hP h0 ad ea, ?_⟩, hr⟩
  obtain ⟨ad', e2, hcell⟩ := hr.cells h0
  rw [ea] at e2
  injection e2 with e2
  subst e2
  have hl := hr.len
  have := World.block_lt_of_cell? w _ (hcell 0 (bs[0]'(by omega)) (List.getElem?_eq_getElem (by omega)))
  rwa [add_block] at this
theorem store_node {D : Nat → Prop} {b n : Nat} {row : Row} {w we : World} {d' : Value} {nd : ZN} (hb : Below w.heap.size w we) (hm : we.ownsMap Tryz.prog 9 (zR D w) b n (mapD row)) (hD : ∀ j, D j → j < w.heap.size) (hs : Sorted row) (hn : n ≤ 48) (hc : Copied w.heap.size we d' nd.data) (p : List UInt8) (hp : p.length ≤ 1000000) :
    ∃ A k c wf, d' = .slice A k c ∧ (Instr.mapUpdate 87 (.map (some b)) (.string (S p)) (znV nd (.slice A k c))).run Tryz.prog we = .ok () wf ∧ Hid (wf.ownsMap Tryz.prog 9 (zR (fun j => D j ∨ (w.heap.size ≤ j ∧ j < we.heap.size)) we) b (n + 1) (mapD (ins p nd row)) ∧ we.mapTurned wf b) := by
  have hm2 := owns_kept (D' := fun j => D j ∨ (w.heap.size ≤ j ∧ j < we.heap.size)) hm rfl (fun k hk => hb.block k (hD k hk)) (fun k hk => .inl hk)
  have hd : DataS (fun j => D j ∨ (w.heap.size ≤ j ∧ j < we.heap.size)) we d' nd.data := hc.dataS.lt.mono fun k hk => .inr hk
  obtain ⟨wf, h1, h2, h3⟩ := hm2.store keys ty_map (by unfold maxLen; omega) (key_of p hp) (zR_mk hd)
  rw [put_mapD hs] at h2
  obtain ⟨A, k, c, rfl, _⟩ := hd
  exact ⟨A, k, c, wf, rfl, h1, h2, h3⟩
set_option maxRecDepth 8000 in
theorem do_put {P : Nat → Prop} (x : Ef) (d : Value) {D : Nat → Prop} {g b : Nat} {t : TR} (w : World) (h : TreeAt w D g b t) (hd : DataS P w d x.node.data) (hp : x.path.length ≤ 1000000) (hn : x.node.data.length ≤ 1000000) (h0 : (one t.root t.row x).1 = 0) (hg : x.gone = false) (hDb : ∀ k, D k → k ≠ b) :
    Calls Tryz.prog 44 #[.pointer (some ⟨g, 0, none⟩), efV x d] w fun e w' => e = .returned (.tuple #[]) ∧ Done D g b w w' ⟨t.root, t.cnt, (one t.root t.row x).2⟩ := by
  have HG : Hid (Good t.root (ins x.path x.node t.row)) := by
    have := good_one h.good h0
    rw [one_put h0 hg] at this
    exact this
  rw [one_put h0 hg]
  clear h0
  obtain ⟨p, gn, nd⟩ := x
  dsimp only at hg hp hd hn HG ⊢
  subst hg
  have B0 := Lib.hid ((Below.refl w.heap.size w).alloc (Nat.le_refl _) (.cells (efC ⟨p, false, nd⟩ d).toArray 41))
  have B1 := Lib.hid (((Below.refl w.heap.size w).alloc (Nat.le_refl _) (.cells (efC ⟨p, false, nd⟩ d).toArray 41)).drew)
  have CC := Lib.hid (fun W (hW : Below w.heap.size w W) => copyOf_any nd d W (hd.below hW) hn)
  obtain ⟨A, k, c, rfl, _⟩ := hd
  have H := Lib.hid h
  have K0 : Bk (w.alloc (.cells (efC ⟨p, false, nd⟩ (.slice A k c)).toArray 41)) w.heap.size 41 (efC ⟨p, false, nd⟩ (.slice A k c)).toArray := Bk.new _ _ _
  have hgc : (w.alloc (.cells (efC ⟨p, false, nd⟩ (.slice A k c)).toArray 41)).cell? ⟨g, 2, none⟩ = some (.map (some b)) := (B0.out.cell (p := ⟨g, 2, none⟩) h.bk.lt).trans (h.bk.cell 2)
  have hp1 : (w.alloc (.cells (efC ⟨p, false, nd⟩ (.slice A k c)).toArray 41)).cell? ⟨w.heap.size, 1, none⟩ = some (.bool false) := K0.cell 1
  have HC : Hid (∀ W, Below (w.heap.size + 1) (w.alloc (.cells (efC ⟨p, false, nd⟩ (.slice A k c)).toArray 41)) W → W.cell? ⟨g, 2, none⟩ = some (.map (some b)) ∧ W.cell? ⟨w.heap.size, 0, none⟩ = some (.string (S p)) ∧ W.cell? ⟨w.heap.size, 2, none⟩ = some (.slice A k c) ∧ W.cell? ⟨w.heap.size, 3, none⟩ = some (.int .u32 nd.ver) ∧ W.cell? ⟨w.heap.size, 4, none⟩ = some (.int .u32 nd.kin) ∧ W.cell? ⟨w.heap.size, 5, none⟩ = some (.int .u32 nd.next) ∧ W.cell? ⟨w.heap.size, 6, none⟩ = some (.int .i64 nd.site) ∧ W.cell? ⟨w.heap.size, 7, none⟩ = some (.int .u32 nd.own) ∧ W.cell? ⟨w.heap.size, 8, none⟩ = some (.int .u64 nd.made) ∧ W.cell? ⟨w.heap.size, 9, none⟩ = some (.int .u64 nd.chg) ∧ W.cell? ⟨w.heap.size, 10, none⟩ = some (.int .u64 nd.tch)) := fun W hW => by
    have hk : ∀ i, W.cell? ⟨w.heap.size, i, none⟩ = (efC ⟨p, false, nd⟩ (.slice A k c)).toArray[i]? := fun i => (hW.cell (p := ⟨w.heap.size, i, none⟩) (by simp)).trans (K0.cell i)
    exact ⟨(hW.cell (p := ⟨g, 2, none⟩) (by have := h.bk.lt; simp; omega)).trans hgc, hk 0, hk 2, hk 3, hk 4, hk 5, hk 6, hk 7, hk 8, hk 9, hk 10⟩
  have BD : Hid (Below (w.heap.size + 1) (w.alloc (.cells (efC ⟨p, false, nd⟩ (.slice A k c)).toArray 41)) (w.alloc (.cells (efC ⟨p, false, nd⟩ (.slice A k c)).toArray 41)).drew) := by
    have := (Below.refl (w.alloc (.cells (efC ⟨p, false, nd⟩ (.slice A k c)).toArray 41)).heap.size (w.alloc (.cells (efC ⟨p, false, nd⟩ (.slice A k c)).toArray 41))).drew
    show Below _ _ _
    simpa using this
  have hgb : g ≠ b := h.ne
  have hbl := h.map.lt
  have HCF : Hid (∀ (W W' : World), (W.cell? ⟨g, 2, none⟩ = some (.map (some b)) ∧ W.cell? ⟨w.heap.size, 0, none⟩ = some (.string (S p)) ∧ W.cell? ⟨w.heap.size, 2, none⟩ = some (.slice A k c) ∧ W.cell? ⟨w.heap.size, 3, none⟩ = some (.int .u32 nd.ver) ∧ W.cell? ⟨w.heap.size, 4, none⟩ = some (.int .u32 nd.kin) ∧ W.cell? ⟨w.heap.size, 5, none⟩ = some (.int .u32 nd.next) ∧ W.cell? ⟨w.heap.size, 6, none⟩ = some (.int .i64 nd.site) ∧ W.cell? ⟨w.heap.size, 7, none⟩ = some (.int .u32 nd.own) ∧ W.cell? ⟨w.heap.size, 8, none⟩ = some (.int .u64 nd.made) ∧ W.cell? ⟨w.heap.size, 9, none⟩ = some (.int .u64 nd.chg) ∧ W.cell? ⟨w.heap.size, 10, none⟩ = some (.int .u64 nd.tch)) → W.grownBy W' (some b) → (W'.cell? ⟨g, 2, none⟩ = some (.map (some b)) ∧ W'.cell? ⟨w.heap.size, 0, none⟩ = some (.string (S p)) ∧ W'.cell? ⟨w.heap.size, 2, none⟩ = some (.slice A k c) ∧ W'.cell? ⟨w.heap.size, 3, none⟩ = some (.int .u32 nd.ver) ∧ W'.cell? ⟨w.heap.size, 4, none⟩ = some (.int .u32 nd.kin) ∧ W'.cell? ⟨w.heap.size, 5, none⟩ = some (.int .u32 nd.next) ∧ W'.cell? ⟨w.heap.size, 6, none⟩ = some (.int .i64 nd.site) ∧ W'.cell? ⟨w.heap.size, 7, none⟩ = some (.int .u32 nd.own) ∧ W'.cell? ⟨w.heap.size, 8, none⟩ = some (.int .u64 nd.made) ∧ W'.cell? ⟨w.heap.size, 9, none⟩ = some (.int .u64 nd.chg) ∧ W'.cell? ⟨w.heap.size, 10, none⟩ = some (.int .u64 nd.tch))) := fun W W' hS hg => by
    obtain ⟨a0, a1, a2, a3, a4, a5, a6, a7, a8, a9, a10⟩ := hS
    have hk : ∀ (i : Nat) (v : Value), W.cell? ⟨w.heap.size, i, none⟩ = some v → W'.cell? ⟨w.heap.size, i, none⟩ = some v := fun i v hv => (World.cell?_of_block (w := W) (hg.block w.heap.size (World.block_lt_of_cell? W _ hv) (fun e => by have := Option.some.inj e; omega))).trans hv
    exact ⟨(World.cell?_of_block (w := W) (hg.block g (World.block_lt_of_cell? W _ a0) (fun e => hgb (Option.some.inj e)))).trans a0, hk _ _ a1, hk _ _ a2, hk _ _ a3, hk _ _ a4, hk _ _ a5, hk _ _ a6, hk _ _ a7, hk _ _ a8, hk _ _ a9, hk _ _ a10⟩
  clear hgb hbl
  have HST := Lib.hid (fun (we : World) (d' : Value) (hW : Below w.heap.size w we) (hc : Copied w.heap.size we d' nd.data) => store_node (n := t.row.length) hW (h.map.kept (grown_of_below hW) (by simp)) h.dlt h.good.sorted h.good.max hc p hp)
  clear h K0 hgc
  unfold efV
  dsimp only [efC, znC] at HC B0 B1 BD ⊢
  dsimp only [znV, znC] at CC
  go_enter Tryz.func44, Tryz.ntmps44
  go_wp2_with fail
  clear hp1
  go_region_held3 (fun W => W.cell? ⟨g, 2, none⟩ = some (.map (some b)) ∧ W.cell? ⟨w.heap.size, 0, none⟩ = some (.string (S p)) ∧ W.cell? ⟨w.heap.size, 2, none⟩ = some (.slice A k c) ∧ W.cell? ⟨w.heap.size, 3, none⟩ = some (.int .u32 nd.ver) ∧ W.cell? ⟨w.heap.size, 4, none⟩ = some (.int .u32 nd.kin) ∧ W.cell? ⟨w.heap.size, 5, none⟩ = some (.int .u32 nd.next) ∧ W.cell? ⟨w.heap.size, 6, none⟩ = some (.int .i64 nd.site) ∧ W.cell? ⟨w.heap.size, 7, none⟩ = some (.int .u32 nd.own) ∧ W.cell? ⟨w.heap.size, 8, none⟩ = some (.int .u64 nd.made) ∧ W.cell? ⟨w.heap.size, 9, none⟩ = some (.int .u64 nd.chg) ∧ W.cell? ⟨w.heap.size, 10, none⟩ = some (.int .u64 nd.tch))
    (first | assumption | exact HC.out _ BD.out | exact HC.out _ BE.out | exact KF.out)
    (first | (go_at_call 61; refine (CC.out _ B1.out).mono ?_; rintro e we ⟨d', rfl, hb, hc⟩; have BE : Hid (Below (w.heap.size + 1) _ we) := BD.out.trans (hb.mono (by simp)); have BW : Hid (Below w.heap.size w we) := B1.out.trans (hb.mono B1.out.size); obtain ⟨A', k', c', wf, rfl, hrun, HST2⟩ := HST.out we _ BW.out (hc.mono (by simp)); dsimp only [znV, znC] at hrun; have KF := Lib.hid (HCF.out we wf (HC.out _ BE.out) HST2.out.2.grown); clear hb hc))
  go_wp2_with fail
  go_end0
  have hg := HST2.out.2.grown
  have hs := BW.out.size
  refine ⟨rfl, H.out.done (w0 := we) BW.out hg HST2.out.1 ?_ HG.out ?_ ?_ (small_ins H.out.small _ _ hn)⟩
  · intro j hj
    rcases hj with hj | ⟨h1, h2⟩
    · exact hg.block j (Nat.lt_of_lt_of_le (H.out.dlt j hj) hs) (fun e => hDb j hj (Option.some.inj e))
    · exact hg.block j h2 (fun e => by have := Option.some.inj e; have := H.out.map.lt; omega)
  · intro j hj
    rcases hj with hj | ⟨h1, h2⟩
    · exact Nat.lt_of_lt_of_le (H.out.dlt j hj) (Nat.le_trans hs hg.size)
    · exact Nat.lt_of_lt_of_le h2 hg.size
  · intro j hj
    rcases hj with hj | ⟨h1, h2⟩
    · exact .inl hj
    · exact .inr h1
theorem do_at {P : Nat → Prop} (x : Ef) (d : Value) {D : Nat → Prop} {g b : Nat} {t : TR} (w : World) (h : TreeAt w D g b t) (hd : DataS P w d x.node.data) (hp : x.path.length ≤ 1000000) (hn : x.node.data.length ≤ 1000000) (h0 : (one t.root t.row x).1 = 0) (hDb : ∀ k, D k → k ≠ b) :
    Calls Tryz.prog 44 #[.pointer (some ⟨g, 0, none⟩), efV x d] w fun e w' => e = .returned (.tuple #[]) ∧ Done D g b w w' ⟨t.root, t.cnt, (one t.root t.row x).2⟩ := by
  cases hg : x.gone with
  | true => exact do_gone x d w h hd hp h0 hg hDb
  | false => exact do_put x d w h hd hp hn h0 hg hDb
end Go.Proofs.YtplbckibogmicaaGreatDoor.Tree
