/- Kids and Paths. -/
import Derived.Test.YtplbckibogmicaaGreatDoorTreeKids
import Derived.Stop.RegionWithIn
namespace Go.Proofs.YtplbckibogmicaaGreatDoor.Tree
open Go.Op Go.RowKit Go.Maps Go.Sort Go.Shelf Path
attribute [local go_sem] Oper.semAt_some
/-- append, under a name that the walk does not open: its run is laid as an equation. -/
def appendO (ats : Array TypeId) (ty : TypeId) (args : Array Value) : Sem Value := Builtin.append_ ats ty args
theorem call_appendO (ats : Array TypeId) (ty : TypeId) (cs : Array Bool) (args : Array Value) : builtin .append ats ty cs args = (do pure (.value (← appendO ats ty args))) := rfl
attribute [local go_sem ↓ 2000] call_appendO

/-- What 'names = append(names, s)' leaves. -/
structure Longer (m n4 : Nat) (W W' : World) (v' : Value) (ys : List (List UInt8)) : Prop where
  box : Boxed W' m 48 v'
  row : W'.ownsRow n4 9 1 v' ys.length (sv ys)
  others : KeepsOthers W W'
  keep : Keep m W W'
  rest : ∀ k, k < n4 → k ≠ m → W'.heap[k]? = W.heap[k]?
  below : Below m W W'
theorem owns_base {W : World} {base base' : Nat} {e : TypeId} {v : Value} {k : Nat} {xs : List Value} (h : W.ownsRow base e 1 v k xs) (hb : base' ≤ base) : W.ownsRow base' e 1 v k xs :=
  ⟨h.1, or_map h.2 id fun ⟨g, cap, cur, e1, h1, h2⟩ => ⟨g, cap, cur, e1, Nat.le_trans hb h1, h2⟩⟩
/-- 'names = append(names, s)' behind a call, all that the walk owes. -/
theorem appended_all {W wb : World} {m n4 : Nat} {v : Value} {ss : List (List UInt8)} {s : List UInt8} {i : TypeInfo} (hm : m < n4) (hle : n4 ≤ W.heap.size) (hv : Boxed W m 48 v) (hrow : W.ownsRow n4 9 1 v ss.length (sv ss)) (hlen : ss.length ≤ 48) (hb : Below W.heap.size W wb)
    (hi : Tryz.prog.info? 9 = some i) (hz0 : i.zero = some (.string ⟨#[]⟩)) (hz1 : i.size = 1) (hz2 : i.bytes = 16) :
    ∃ gg cap w5, (appendO #[48, 48] 48 #[v, .slice (some ⟨wb.heap.size, 0, none⟩) 1 1]).run Tryz.prog (wb.alloc (.cells #[.string (S s)] 9)) = .ok (.slice (some ⟨gg, 0, none⟩) (ss.length + 1) cap) w5 ∧
      wb.cell? ⟨m, 0, none⟩ = some v ∧ (wb.alloc (.cells #[.string (S s)] 9)).cell? ⟨m, 0, none⟩ = some v ∧ w5.cell? ⟨m, 0, none⟩ = some v ∧ w5.frozen? ⟨m, 0, none⟩ = false ∧
      Hid (Longer m n4 W (w5.setCell ⟨m, 0, none⟩ (.slice (some ⟨gg, 0, none⟩) (ss.length + 1) cap)) (.slice (some ⟨gg, 0, none⟩) (ss.length + 1) cap) (ss ++ [s])) := by
  have kvb := hv.kept (grown_of_below hb) (by simp)
  have rowb := hrow.kept (grown_of_below hb) (by cases v.ownBlock <;> simp)
  have hsz := hb.size
  obtain ⟨v', w5, hrun, hown5, hgrow5, hnil5, hat5⟩ := run_append_own_at (P := Tryz.prog) (wb.alloc (.cells #[.string (S s)] 9)) n4 48 48 9 i _ 1 16 ty_texts hi hz0 hz1 hz2 rfl (by omega) v _ _ (rowb.alloc _) ⟨wb.heap.size, 0, none⟩ 1 1 (sv [s]) rfl (cell_one_new _ _ _) (sv_all _) (by unfold maxLen; omega) (by omega) (by simp; omega)
  obtain ⟨gg, cap, rfl⟩ := ownsRow_succ hown5
  obtain ⟨a1, a2, a3, a4, a5⟩ := Boxed.appended kvb (by decide) (owns_base rowb (Nat.le_of_lt hm)) (by omega) (Nat.le_refl _) (owns_base hown5 (Nat.le_of_lt hm)) hgrow5
  have hrest : ∀ k, k < n4 → k ≠ m → (w5.setCell ⟨m, 0, none⟩ (.slice (some ⟨gg, 0, none⟩) (ss.length + 1) cap)).heap[k]? = W.heap[k]? := fun k hk hne => by
    rw [heap_setCell_ne _ _ _ _ _ hne, hgrow5.block k (by simp; omega) ?_, Below.heap_alloc _ _ _ (by omega), hb.block k (by omega)]
    rcases hrow.2 with ⟨rfl, _⟩ | ⟨g, _, _, rfl, hbase, _⟩
    · simp [Value.ownBlock]
    · simp only [Value.ownBlock]
      intro e
      have := Option.some.inj e
      omega
  exact ⟨gg, cap, w5, hrun, kvb.cell, (kvb.alloc _).cell, a1.cell, a1.frozen, a2, by rw [List.length_append, sv_append]; exact hown5.kept (grownBy_setCell' w5 m _) (.inr (a1.not_row (by decide) hown5).symm), (KeepsOthers.of_grownBy (grown_of_below hb) (fun j o e => by cases e)).trans a4, (Keep.of_below hb (by omega)).trans (keep_appended kvb (by decide) (owns_base rowb (Nat.le_of_lt hm)) (owns_base hown5 (Nat.le_of_lt hm)) hgrow5 hat5 (Nat.le_refl _) (by omega)), hrest, (hb.mono (by omega)).trans a5⟩
set_option maxRecDepth 100000 in
set_option maxHeartbeats 4000000 in
theorem Kids_new (p : List UInt8) {D : Nat → Prop} {g b : Nat} {t : TR} (w : World) (h : TreeAt w D g b t) (hp : p.length ≤ 1000000) (hh : has t.row p = true) :
    Calls Tryz.prog 38 #[.pointer (some ⟨g, 0, none⟩), .string (S p)] w fun e w' => ∃ A c, e = .returned (.slice A (kids t.root t.row p).length c) ∧ Below w.heap.size w w' ∧ RdV w' A (kids t.root t.row p).length (sv (kids t.root t.row p)) ∧ ∀ ad, A = some ad → w.heap.size ≤ ad.block := by
  have c1 := has_any p w h hp
  rw [hh] at c1
  have HK : Hid (kids t.root t.row p = ((paths t.row).filter (isKidOf p)).map baseF) := kids_has h.good hh
  have HT := Lib.hid h
  clear hh h
  refine (callsIn_wide (n := 12)).1 ?_
  have h1 : 1 ≤ 12 := by decide
  refine callsIn_of_wp_marks Tryz.func38 rfl trivial ?_ rfl
  simp only [Tryz.ntmps38, List.size_toArray, List.length_cons, List.length_nil, Nat.reduceAdd, Nat.reduceSub, Array.replicate_succ, Array.replicate_zero, List.push_toArray, List.append_toArray, List.nil_append, List.cons_append]
  gi_wp2_with (refine ⟨trivial, ?_⟩; gi_at_call 60; refine (callsIn_wide.2 c1).mono ?_; rintro e w1 ⟨rfl, hb1⟩)
  have HB1 := Lib.hid hb1
  clear c1 hb1
  gi_wp2_with (first
    | (refine ⟨trivial, ?_⟩; gi_at_call 66; refine (callsIn_wide.2 (kidOf_any p _)).mono ?_; rintro e w' ⟨rfl, rfl⟩)
    | (refine ⟨trivial, ?_⟩; gi_at_call 65; refine (callsIn_wide.2 (inOrder_any _ _ ⟨_, rfl⟩)).mono ?_; rintro e w' ⟨rfl, rfl⟩))
  have hB0 : Below w1.heap.size w1 ((((w1.alloc (.cells #[.slice none 0 0] 48)).alloc (.cells #[.string (S p)] 9)).alloc (.cells #[.func (.func 92) #[] #[.pointer (some ⟨w1.heap.size + 1, 0, none⟩)]] 112)).alloc (.cells #[.pointer (some ⟨g, 0, none⟩)] 24)) := ((((Below.refl _ _).alloc (Nat.le_refl _) _).alloc (by simp) _).alloc (by simp; omega) _).alloc (by simp; omega) _
  have K0 : Boxed ((((w1.alloc (.cells #[.slice none 0 0] 48)).alloc (.cells #[.string (S p)] 9)).alloc (.cells #[.func (.func 92) #[] #[.pointer (some ⟨w1.heap.size + 1, 0, none⟩)]] 112)).alloc (.cells #[.pointer (some ⟨g, 0, none⟩)] 24)) w1.heap.size 48 (.slice none 0 0) := (((Boxed.new _ _ _).alloc _).alloc _).alloc _
  have K1 := ((Boxed.new (w1.alloc (.cells #[.slice none 0 0] 48)) 9 (.string (S p))).alloc (.cells #[.func (.func 92) #[] #[.pointer (some ⟨w1.heap.size + 1, 0, none⟩)]] 112)).alloc (.cells #[.pointer (some ⟨g, 0, none⟩)] 24)
  have K2 := (Boxed.new ((w1.alloc (.cells #[.slice none 0 0] 48)).alloc (.cells #[.string (S p)] 9)) 112 (.func (.func 92) #[] #[.pointer (some ⟨w1.heap.size + 1, 0, none⟩)])).alloc (.cells #[.pointer (some ⟨g, 0, none⟩)] 24)
  have K3 := Boxed.new (((w1.alloc (.cells #[.slice none 0 0] 48)).alloc (.cells #[.string (S p)] 9)).alloc (.cells #[.func (.func 92) #[] #[.pointer (some ⟨w1.heap.size + 1, 0, none⟩)]] 112)) 24 (.pointer (some ⟨g, 0, none⟩))
  simp only [World.size_alloc] at K1 K2 K3
  have hsz : ((((w1.alloc (.cells #[.slice none 0 0] 48)).alloc (.cells #[.string (S p)] 9)).alloc (.cells #[.func (.func 92) #[] #[.pointer (some ⟨w1.heap.size + 1, 0, none⟩)]] 112)).alloc (.cells #[.pointer (some ⟨g, 0, none⟩)] 24)).heap.size = w1.heap.size + 4 := by simp
  generalize ((((w1.alloc (.cells #[.slice none 0 0] 48)).alloc (.cells #[.string (S p)] 9)).alloc (.cells #[.func (.func 92) #[] #[.pointer (some ⟨w1.heap.size + 1, 0, none⟩)]] 112)).alloc (.cells #[.pointer (some ⟨g, 0, none⟩)] 24)) = W0 at *
  have hw1 := HB1.out.size
  have hB : Below w.heap.size w W0 := HB1.out.trans (hB0.mono hw1)
  have ht := HT.out.below hB
  have hmax := ht.good.max
  have hseq := inOrder1_stops 11 (by decide) w1.heap.size (w1.heap.size + 1 + 1 + 1) W0 ht K3.cell (by omega) (fun k hk => by unfold rowAt at hk; rw [K0.cell] at hk; cases hk)
  clear ht
  obtain ⟨i0, hi, hz0, hz1, hz2⟩ := infos info_text
  have HI := Lib.hid hi
  have HZ0 := Lib.hid hz0
  have HZ1 := Lib.hid hz1
  have HZ2 := Lib.hid hz2
  clear hi hz0 hz1 hz2
  refine wpIn_rangeFunc_ownF rfl h1 (gf := 89) (lb := #[.pointer (some ⟨w1.heap.size + 1 + 1 + 1, 0, none⟩)]) rfl trivial (enters_of Tryz.func89 (by kernel_rfl) rfl)
    hseq Keep.trans (Keep.put (by omega)) (Below.refl _ _) (fun _ => rfl)
    (fun pre W => (∃ v, Boxed W w1.heap.size 48 v ∧ W.ownsRow (w1.heap.size + 4) 9 1 v (sonsOf p pre).length (sv (sonsOf p pre)) ∧ True) ∧ Boxed W (w1.heap.size + 1) 9 (.string (S p)) ∧ Boxed W (w1.heap.size + 1 + 1) 112 (.func (.func 92) #[] #[.pointer (some ⟨w1.heap.size + 1, 0, none⟩)]) ∧ w1.heap.size + 4 ≤ W.heap.size ∧ Below w.heap.size w W)
    (fun _ _ _ => False)
    ((Own.from (holdsRow_own (w1.heap.size + 4) w1.heap.size 48 9 1 (fun pre => (sonsOf p pre).length) (fun pre => sv (sonsOf p pre)) (fun _ _ => True)) _).and ((Own.from (boxed_own _ _ _) _).and ((Own.from (boxed_own _ _ _) _).and (OwnFrom.and (fun _ _ _ _ hs hg _ => Nat.le_trans hs hg.size) (ownFrom_below (Nat.le_refl _) (by omega))))))
    (fun c => fun _ _ _ _ hs _ _ => hs)
    ⟨⟨_, K0, own_nil _ _ _, trivial⟩, K1, K2, by omega, hB⟩
    (fun x => { tmps := #[.pointer (some ⟨g, 0, none⟩), .string (S p), undef, undef, .slice none 0 0, .pointer (some ⟨w1.heap.size, 0, none⟩), .pointer (some ⟨w1.heap.size + 1 + 1, 0, none⟩), .string (S x.1), .pointer (some ⟨g, 0, none⟩), .string (S p), .bool true, .bool false, .string (S p), .func (.func 92) #[] #[.pointer (some ⟨w1.heap.size + 1, 0, none⟩)], .pointer (some ⟨g, 0, none⟩), .func (.func 89) #[] #[.pointer (some ⟨w1.heap.size + 1 + 1 + 1, 0, none⟩)], .string (S x.1), undef, undef, undef, undef, undef, undef, undef, undef, undef], defers := [] }) ?assign ?body ?done ?stop
  case assign =>
    intro l x W K hK
    dsimp only [encP]
    gi_wp2
    exact hK
  case body =>
    rintro l pre x W ⟨⟨v, kv, hrow, _⟩, k1, k2, hszW, hb⟩ hN
    have hc2 := k2.cell
    have HB := Lib.hid hb
    have hle : w1.heap.size < W.heap.size := kv.lt
    have hxl : x.1.length ≤ 1000000 := by have := x.2; omega
    have ck := (kid1_any p x.1 (w1.heap.size + 1) W hxl k1.cell).mono (R' := fun e w' => e = .returned (.bool (isKidOf p x.1)) ∧ Hid (Below W.heap.size W w'))
      fun e w' ⟨h1, h2⟩ => ⟨h1, h2⟩
    have KV := Lib.hid kv
    have K1' := Lib.hid k1
    have K2' := Lib.hid k2
    have HROW := Lib.hid hrow
    clear hb kv k1 k2 hrow
    cases hr : isKidOf p x.1 with
    | true =>
      rw [hr] at ck
      have HR := Lib.hid hr
      clear hr
      gi_wp2_with (refine ⟨trivial, ?_⟩; gi_at_call 92; refine (CallsIn.inRound l (callsIn_wide.2 ck)).mono ?_; rintro e w' ⟨rfl, hbk⟩)
      have hb' := hbk.out
      have HBd : Hid (Below W.heap.size W w'.drew) := hb'.drew
      have cB := (Base_any x.1 w'.drew hxl).mono (R' := fun e wb => e = .returned (.string (S (baseF x.1))) ∧ Hid (Below W.heap.size W wb))
        fun e wb ⟨h1, h2⟩ => ⟨h1, HBd.out.trans (h2.mono HBd.out.size)⟩
      have hca : w'.drew.cell? ⟨w1.heap.size, 0, none⟩ = some v := (hb'.cell (p := ⟨w1.heap.size, 0, none⟩) hle).trans KV.out.cell
      have hlen : (sonsOf p pre).length ≤ 48 := by
        have h1 : (sonsOf p pre).length ≤ pre.length := by
          unfold sonsOf
          rw [List.length_map]
          exact Nat.le_trans (List.length_filter_le _ _) (by simp)
        omega
      clear ck hb'
      gi_region_with (first
        | (refine ⟨trivial, ?_⟩; gi_at_call 67; refine (CallsIn.inRound l (callsIn_wide.2 cB)).mono ?_; rintro e wb ⟨rfl, hbb⟩; obtain ⟨gg, cap, w5, hrun, hca1, hca2, hcs, hfs, HALL⟩ := appended_all (s := baseF x.1) (by omega) hszW KV.out HROW.out hlen hbb.out HI.out HZ0.out HZ1.out HZ2.out))
      all_goals
        have hL := HALL.out
        refine ⟨hL.others, hL.keep, ⟨_, hL.box, ?_, trivial⟩, (hL.rest _ (by omega) (by omega)).trans K1'.out, (hL.rest _ (by omega) (by omega)).trans K2'.out, Nat.le_trans hszW hL.others.size, HB.out.trans (hL.below.mono hw1)⟩
        rw [sonsOf_yes HR.out]
        exact hL.row
    | false =>
      rw [hr] at ck
      have HR := Lib.hid hr
      clear hr
      gi_wp2_with (refine ⟨trivial, ?_⟩; gi_at_call 92; refine (CallsIn.inRound l (callsIn_wide.2 ck)).mono ?_; rintro e w' ⟨rfl, hbk⟩)
      have hb' := hbk.out
      refine ⟨KeepsOthers.of_grownBy (grown_of_below hb') (fun j o e => by cases e), Keep.of_below hb' hle, ⟨v, KV.out.kept (grown_of_below hb') (by simp), ?_, trivial⟩, K1'.out.kept (grown_of_below hb') (by simp), K2'.out.kept (grown_of_below hb') (by simp), Nat.le_trans hszW hb'.size, HB.out.trans (hb'.mono HB.out.size)⟩
      rw [sonsOf_no HR.out]
      exact HROW.out.kept (grown_of_below hb') (by cases v.ownBlock <;> simp)
  case done =>
    rintro D ys W hD hS ⟨⟨v, kv, hrow, _⟩, k1, k2, hszW, hb⟩ hK
    have hc0 := kv.cell
    have HNEW : Hid (∀ g, v.ownBlock = some g → w.heap.size ≤ g) := by
      intro g hg
      have := (hrow.lt g hg).1
      omega
    obtain ⟨A, c, rfl⟩ := own_slice hrow
    have HAD : Hid (∀ ad, A = some ad → w.heap.size ≤ ad.block) := by
      rintro ad rfl
      exact HNEW.out _ rfl
    have HKD : Hid (kids t.root t.row p = sonsOf p ys) := by show _ = _; rw [HK.out]; unfold sonsOf; rw [hS]
    have hlt : w1.heap.size < D := by omega
    have HFIN : Hid (RdV (W.putObj D (.deferred none)) A (sonsOf p ys).length (sv (sonsOf p ys))) := (RdV.of_own (ownsRow_putObj hrow (.deferred none) hK rfl)).1
    have HBF := Lib.hid (hb.grown (grownBy_putObj' W D (.deferred none)) hb.size (fun k e => by cases e; omega))
    clear hb hrow kv k1 k2 hS HNEW
    gi_wp2
    refine ⟨by simp, .inl ⟨_, _, rfl, run_takeDeferred hK, ?_⟩⟩
    refine ⟨_, results_tmp rfl _ _ _, ?_⟩
    rw [HKD.out]
    exact ⟨A, ⟨c, rfl⟩, HBF.out, HFIN.out, HAD.out⟩
  case stop =>
    rintro D c pre W _ _ hx _
    exact hx.elim
theorem Kids_at (p : List UInt8) {D : Nat → Prop} {g b : Nat} {t : TR} (w : World) (h : TreeAt w D g b t) (hp : p.length ≤ 1000000) (hh : has t.row p = true) :
    Calls Tryz.prog 38 #[.pointer (some ⟨g, 0, none⟩), .string (S p)] w fun e w' => ∃ A c, e = .returned (.slice A (kids t.root t.row p).length c) ∧ Below w.heap.size w w' ∧ RdV w' A (kids t.root t.row p).length (sv (kids t.root t.row p)) :=
  (Kids_new p w h hp hh).mono fun _ _ ⟨A, c, he, hb, hr, _⟩ => ⟨A, c, he, hb, hr⟩
theorem Kids_any_at (p : List UInt8) {D : Nat → Prop} {g b : Nat} {t : TR} (w : World) (h : TreeAt w D g b t) (hp : p.length ≤ 1000000) :
    Calls Tryz.prog 38 #[.pointer (some ⟨g, 0, none⟩), .string (S p)] w fun e w' => ∃ A c, e = .returned (.slice A (kids t.root t.row p).length c) ∧ Below w.heap.size w w' ∧ RdV w' A (kids t.root t.row p).length (sv (kids t.root t.row p)) := by
  cases hh : has t.row p with
  | true => exact Kids_at p w h hp hh
  | false =>
    rw [kids_none h.good hh]
    exact (Kids_none p w h hp hh).mono fun e w' ⟨A, c, he, hb⟩ => ⟨A, c, he, hb, RdV.nil_ _ _⟩

/-! ### Paths -/
def valsOf (pre : List Pth) : List (List UInt8) := pre.map (·.1)
theorem valsOf_snoc (pre : List Pth) (x : Pth) : valsOf (pre ++ [x]) = valsOf pre ++ [x.1] := by simp [valsOf]
theorem valsOf_length (pre : List Pth) : (valsOf pre).length = pre.length := by simp [valsOf]
set_option maxRecDepth 100000 in
set_option maxHeartbeats 4000000 in
theorem appendSeq_at {D : Nat → Prop} {g b : Nat} {t : TR} (Bt : Nat) (w : World) (h : TreeAt w D g b t) (hBt : w.cell? ⟨Bt, 0, none⟩ = some (.pointer (some ⟨g, 0, none⟩))) :
    Calls Tryz.prog 88 #[.slice none 0 0, .func (.func 89) #[] #[.pointer (some ⟨Bt, 0, none⟩)]] w fun e w' => ∃ A c, e = .returned (.slice A t.row.length c) ∧ Below w.heap.size w w' ∧ RdV w' A t.row.length (sv (paths t.row)) ∧ ∀ ad, A = some ad → w.heap.size ≤ ad.block := by
  refine (callsIn_wide (n := 12)).1 ?_
  have h1 : 1 ≤ 12 := by decide
  refine callsIn_of_wp_marks Tryz.func88 rfl trivial ?_ rfl
  simp only [Tryz.ntmps88, List.size_toArray, List.length_cons, List.length_nil, Nat.reduceAdd, Nat.reduceSub, Array.replicate_succ, Array.replicate_zero, List.push_toArray, List.append_toArray, List.nil_append, List.cons_append]
  gi_wp2
  have hB0 : Below w.heap.size w (w.alloc (.cells #[.slice none 0 0] 48)) := (Below.refl _ _).alloc (Nat.le_refl _) _
  have K0 : Boxed (w.alloc (.cells #[.slice none 0 0] 48)) w.heap.size 48 (.slice none 0 0) := Boxed.new _ _ _
  have hsz : (w.alloc (.cells #[.slice none 0 0] 48)).heap.size = w.heap.size + 1 := by simp
  generalize (w.alloc (.cells #[.slice none 0 0] 48)) = W0 at *
  have hmax := h.good.max
  have hseq := inOrder1_stops 11 (by decide) w.heap.size Bt W0 (h.below hB0) ((hB0.cell (p := ⟨Bt, 0, none⟩) (World.block_lt_of_cell? w _ hBt)).trans hBt) (by omega) (fun k hk => by unfold rowAt at hk; rw [K0.cell] at hk; cases hk)
  have HLEN : Hid ((paths t.row).length = t.row.length) := length_paths _
  clear h hBt
  obtain ⟨i0, hi, hz0, hz1, hz2⟩ := infos info_text
  have HI := Lib.hid hi
  have HZ0 := Lib.hid hz0
  have HZ1 := Lib.hid hz1
  have HZ2 := Lib.hid hz2
  clear hi hz0 hz1 hz2
  refine wpIn_rangeFunc_ownF rfl h1 (gf := 89) (lb := #[.pointer (some ⟨Bt, 0, none⟩)]) rfl trivial (enters_of Tryz.func89 (by kernel_rfl) rfl)
    hseq Keep.trans (Keep.put (by omega)) (Below.refl _ _) (fun _ => rfl)
    (fun pre W => (∃ v, Boxed W w.heap.size 48 v ∧ W.ownsRow (w.heap.size + 1) 9 1 v (valsOf pre).length (sv (valsOf pre)) ∧ True) ∧ w.heap.size + 1 ≤ W.heap.size ∧ Below w.heap.size w W)
    (fun _ _ _ => False)
    ((Own.from (holdsRow_own (w.heap.size + 1) w.heap.size 48 9 1 (fun pre : List Pth => (valsOf pre).length) (fun pre : List Pth => sv (valsOf pre)) (fun _ _ => True)) _).and (OwnFrom.and (fun _ _ _ _ hs hg _ => Nat.le_trans hs hg.size) (ownFrom_below (Nat.le_refl _) (by omega))))
    (fun c => fun _ _ _ _ hs _ _ => hs)
    ⟨⟨_, K0, own_nil _ _ _, trivial⟩, by omega, hB0⟩
    (fun x => { tmps := #[.slice none 0 0, .func (.func 89) #[] #[.pointer (some ⟨Bt, 0, none⟩)], .pointer (some ⟨w.heap.size, 0, none⟩), undef, .slice none 0 0, .string (S x.1), .func (.func 89) #[] #[.pointer (some ⟨Bt, 0, none⟩)], .string (S x.1), undef, undef, undef, undef, undef], defers := [] }) ?assign ?body ?done ?stop
  case assign =>
    intro l x W K hK
    dsimp only [encP]
    gi_wp2
    exact hK
  case body =>
    rintro l pre x W ⟨⟨v, kv, hrow, _⟩, hszW, hb⟩ hN
    have HB := Lib.hid hb
    have hlen : (valsOf pre).length ≤ 48 := by rw [valsOf_length]; omega
    have hca := kv.cell
    obtain ⟨gg, cap, w5, hrun, hca1, hca2, hcs, hfs, HALL⟩ := appended_all (s := x.1) (by omega) hszW kv hrow hlen (Below.refl _ _) HI.out HZ0.out HZ1.out HZ2.out
    clear kv hrow hb hlen hca1
    gi_wp2
    have hL := HALL.out
    refine ⟨hL.others, hL.keep, ⟨_, hL.box, ?_⟩, Nat.le_trans hszW hL.others.size, HB.out.trans hL.below⟩
    rw [valsOf_snoc]
    exact hL.row
  case done =>
    rintro D ys W hD hS ⟨⟨v, kv, hrow, _⟩, hszW, hb⟩ hK
    have hS' : valsOf ys = paths t.row := hS
    rw [hS', HLEN.out] at hrow
    have hc0 := kv.cell
    have HNEW : Hid (∀ g, v.ownBlock = some g → w.heap.size ≤ g) := by
      intro g hg
      rcases hrow.2 with ⟨rfl, _⟩ | ⟨g', _, _, rfl, hbase, _⟩
      · cases hg
      · simp only [Value.ownBlock] at hg
        have := Option.some.inj hg
        omega
    obtain ⟨A, c, rfl⟩ := own_slice hrow
    have hlt : w.heap.size < D := by omega
    have HFIN : Hid (RdV (W.putObj D (.deferred none)) A t.row.length (sv (paths t.row))) := (RdV.of_own (ownsRow_putObj hrow (.deferred none) hK rfl)).1
    have HBF := Lib.hid (hb.grown (grownBy_putObj' W D (.deferred none)) hb.size (fun k e => by cases e; omega))
    have HAD : Hid (∀ ad, A = some ad → w.heap.size ≤ ad.block) := by
      rintro ad rfl
      exact HNEW.out _ rfl
    clear hb hrow kv hS hS' HNEW
    gi_wp2
    refine ⟨by simp, .inl ⟨_, _, rfl, run_takeDeferred hK, ?_⟩⟩
    refine ⟨_, results_tmp rfl _ _ _, ?_⟩
    exact ⟨A, ⟨c, rfl⟩, HBF.out, HFIN.out, HAD.out⟩
  case stop =>
    rintro D c pre W _ _ hx _
    exact hx.elim
set_option maxRecDepth 8000 in
theorem Paths_at {D : Nat → Prop} {g b : Nat} {t : TR} (w : World) (h : TreeAt w D g b t) :
    Calls Tryz.prog 37 #[.pointer (some ⟨g, 0, none⟩)] w fun e w' => ∃ A c, e = .returned (.slice A t.row.length c) ∧ Below w.heap.size w w' ∧ RdV w' A t.row.length (sv (paths t.row)) ∧ ∀ ad, A = some ad → w.heap.size ≤ ad.block := by
  have hb : Below w.heap.size w (w.alloc (.cells #[.pointer (some ⟨g, 0, none⟩)] 24)) := (Below.refl _ _).alloc (Nat.le_refl _) _
  have c1 := appendSeq_at w.heap.size _ (h.below hb) (Boxed.new w 24 (.pointer (some ⟨g, 0, none⟩))).cell
  have HB := Lib.hid hb
  have HSZ : Hid ((w.alloc (.cells #[.pointer (some ⟨g, 0, none⟩)] 24)).heap.size = w.heap.size + 1) := by show _ = _; simp
  clear h hb
  have c0 : Calls Tryz.prog 64 #[.func (.func 89) #[] #[.pointer (some ⟨w.heap.size, 0, none⟩)]] (w.alloc (.cells #[.pointer (some ⟨g, 0, none⟩)] 24)) fun e w' => ∃ A c, e = .returned (.slice A t.row.length c) ∧ Hid (Below w.heap.size w w' ∧ RdV w' A t.row.length (sv (paths t.row)) ∧ ∀ ad, A = some ad → w.heap.size ≤ ad.block) := by
    go_enter Tryz.func64, Tryz.ntmps64
    go_wp2_with fail
    refine c1.mono ?_
    rintro e w1 ⟨A, c, rfl, h1, h2, h3⟩
    have HH : Hid (Below w.heap.size w w1 ∧ RdV w1 A t.row.length (sv (paths t.row)) ∧ ∀ ad, A = some ad → w.heap.size ≤ ad.block) := ⟨HB.out.trans (h1.mono (by rw [HSZ.out]; omega)), h2, fun ad e => by have := h3 ad e; rw [HSZ.out] at this; omega⟩
    clear h1 h2 h3 c1
    go_wp2_with fail
    go_ret
    exact ⟨A, c, rfl, HH⟩
  clear c1
  go_enter Tryz.func37, Tryz.ntmps37
  go_wp2_with (first | (go_at_call 65; refine (inOrder_any _ _ ⟨_, rfl⟩).mono ?_; rintro e w' ⟨rfl, rfl⟩))
  refine c0.mono ?_
  rintro e w1 ⟨A, c, rfl, hh⟩
  clear c0
  go_wp2_with fail
  go_ret
  have h := hh.out
  exact ⟨A, c, rfl, h.1, h.2.1, h.2.2⟩
theorem Paths_nil (w : World) : Calls Tryz.prog 37 #[.pointer none] w fun e w' => ∃ A c, e = .returned (.slice A 0 c) ∧ Below w.heap.size w w' := by
  go_enter Tryz.func37, Tryz.ntmps37
  go_wp2_with fail
  go_ret
  exact ⟨_, _, rfl, Below.refl _ _⟩
end Go.Proofs.YtplbckibogmicaaGreatDoor.Tree
