/- Who goes through all paths: hasKid, Kids, Paths. -/
import Derived.Test.YtplbckibogmicaaGreatDoorTreeIter
import Derived.Laws.EntriesVeiled
namespace Go.Proofs.YtplbckibogmicaaGreatDoor.Tree
open Go.Op Go.RowKit Go.Maps Go.Sort Go.Shelf Path
attribute [local go_sem] Oper.semAt_some

theorem kidOf_any (p : List UInt8) (w : World) : Calls Tryz.prog 66 #[.string (S p)] w fun e w' => e = .returned (.func (.func 92) #[] #[.pointer (some ⟨w.heap.size, 0, none⟩)]) ∧ w' = w.alloc (.cells #[.string (S p)] 9) := by
  go_enter Tryz.func66, Tryz.ntmps66
  go_wp2_with fail
  go_ret
  exact ⟨rfl, rfl⟩
theorem inOrder_any (a : Value) (w : World) (ha : ∃ x, a = .pointer x) : Calls Tryz.prog 65 #[a] w fun e w' => e = .returned (.func (.func 89) #[] #[.pointer (some ⟨w.heap.size, 0, none⟩)]) ∧ w' = w.alloc (.cells #[a] 24) := by
  obtain ⟨x, rfl⟩ := ha
  go_enter Tryz.func65, Tryz.ntmps65
  go_wp2_with fail
  go_ret
  exact ⟨rfl, rfl⟩
def isKidOf (p q : List UInt8) : Bool := q != p && parentF q == p
set_option maxRecDepth 8000 in
theorem kid1_any (p q : List UInt8) (B : Nat) (w : World) (hq : q.length ≤ 1000000) (hc : w.cell? ⟨B, 0, none⟩ = some (.string (S p))) :
    Calls Tryz.prog 92 #[.string (S q), .pointer (some ⟨B, 0, none⟩)] w fun e w' => e = .returned (.bool (isKidOf p q)) ∧ Below w.heap.size w w' := by
  have s1 := S_list p
  have s2 := S_list q
  by_cases h : q = p
  · have hr : isKidOf p q = false := by unfold isKidOf; simp [h]
    rw [hr]
    subst h
    clear hr
    go_enter Tryz.func92, Tryz.ntmps92
    go_wp2_with fail
    go_quiet (fail)
    go_wp2_with fail
    go_ret
    exact ⟨rfl, drewN_below _ _⟩
  · have hne : (q == p) = false := by simpa using h
    have hne2 : (q != p) = true := by simpa using h
    have s3 := S_list (parentF q)
    obtain ⟨r, hr⟩ : ∃ r, isKidOf p q = r := ⟨_, rfl⟩
    have hr2 : (parentF q == p) = r := by rw [← hr]; unfold isKidOf; rw [hne2, Bool.true_and]
    rw [hr]
    clear h hr
    have HC := Lib.hid (fun W (hW : Below w.heap.size w W) => (hW.cell (p := ⟨B, 0, none⟩) (World.block_lt_of_cell? w _ hc)).trans hc)
    have B1 := Lib.hid (Below.refl w.heap.size w).drew
    have CC := Lib.hid (fun W => Parent_any q W hq)
    go_enter Tryz.func92, Tryz.ntmps92
    go_wp2_with fail
    clear hc
    go_region_held3 (fun w' => w'.cell? ⟨B, 0, none⟩ = some (.string (S p)))
      (first | assumption | exact HC.out _ B1.out | exact HC.out _ BE.out)
      (first | (go_at_call 93; refine (CC.out _).mono ?_; rintro e we ⟨rfl, hg⟩; have BE : Hid (Below w.heap.size w we) := B1.out.trans (hg.mono B1.out.size); clear hg))
    go_wp2_with fail
    go_ret
    exact ⟨rfl, BE.out⟩

theorem results_bool {fn : Func} {p : Tmp} (h : fn.results = #[.cell p 4]) (tmps : Array Value) (w : World) (a : Addr) (x : Bool)
    (hp : tmps.getD p undef = .pointer (some a)) (hc : w.cell? a = some (.bool x)) : (results fn tmps).run Tryz.prog w = .ok (.bool x) w := by
  have hp' : tmps[p]?.getD undef = .pointer (some a) := by simpa using hp
  simp [results, h, hp', asAddr, loadVar, hc, go_sem, Result.andThen]
set_option maxRecDepth 100000 in
set_option maxHeartbeats 4000000 in
theorem hasKid_any (p : List UInt8) {D : Nat → Prop} {g b : Nat} {t : TR} (w : World) (h : TreeAt w D g b t) :
    Calls Tryz.prog 95 #[.pointer (some ⟨g, 0, none⟩), .string (S p)] w fun e w' => e = .returned (.bool ((paths t.row).any (isKidOf p))) ∧ Below w.heap.size w w' := by
  refine (callsIn_wide (n := 12)).1 ?_
  have h1 : 1 ≤ 12 := by decide
  refine callsIn_of_wp_marks Tryz.func95 rfl trivial ?_ rfl
  simp only [Tryz.ntmps95, List.size_toArray, List.length_cons, List.length_nil, Nat.reduceAdd, Nat.reduceSub, Array.replicate_succ, Array.replicate_zero, List.push_toArray, List.append_toArray, List.nil_append, List.cons_append]
  gi_wp2_with (first
    | (refine ⟨trivial, ?_⟩; gi_at_call 66; refine (callsIn_wide.2 (kidOf_any p _)).mono ?_; rintro e w' ⟨rfl, rfl⟩)
    | (refine ⟨trivial, ?_⟩; gi_at_call 65; refine (callsIn_wide.2 (inOrder_any _ _ ⟨_, rfl⟩)).mono ?_; rintro e w' ⟨rfl, rfl⟩))
  have hB0 : Below w.heap.size w ((((w.alloc (.cells #[.bool false] 4)).alloc (.cells #[.string (S p)] 9)).alloc (.cells #[.func (.func 92) #[] #[.pointer (some ⟨w.heap.size + 1, 0, none⟩)]] 112)).alloc (.cells #[.pointer (some ⟨g, 0, none⟩)] 24)) := ((((Below.refl _ _).alloc (Nat.le_refl _) _).alloc (by simp) _).alloc (by simp; omega) _).alloc (by simp; omega) _
  have K0 : Boxed ((((w.alloc (.cells #[.bool false] 4)).alloc (.cells #[.string (S p)] 9)).alloc (.cells #[.func (.func 92) #[] #[.pointer (some ⟨w.heap.size + 1, 0, none⟩)]] 112)).alloc (.cells #[.pointer (some ⟨g, 0, none⟩)] 24)) w.heap.size 4 (.bool false) := (((Boxed.new _ _ _).alloc _).alloc _).alloc _
  have K1 := ((Boxed.new (w.alloc (.cells #[.bool false] 4)) 9 (.string (S p))).alloc (.cells #[.func (.func 92) #[] #[.pointer (some ⟨w.heap.size + 1, 0, none⟩)]] 112)).alloc (.cells #[.pointer (some ⟨g, 0, none⟩)] 24)
  have K2 := (Boxed.new ((w.alloc (.cells #[.bool false] 4)).alloc (.cells #[.string (S p)] 9)) 112 (.func (.func 92) #[] #[.pointer (some ⟨w.heap.size + 1, 0, none⟩)])).alloc (.cells #[.pointer (some ⟨g, 0, none⟩)] 24)
  have K3 := Boxed.new (((w.alloc (.cells #[.bool false] 4)).alloc (.cells #[.string (S p)] 9)).alloc (.cells #[.func (.func 92) #[] #[.pointer (some ⟨w.heap.size + 1, 0, none⟩)]] 112)) 24 (.pointer (some ⟨g, 0, none⟩))
  simp only [World.size_alloc] at K1 K2 K3
  have hsz : ((((w.alloc (.cells #[.bool false] 4)).alloc (.cells #[.string (S p)] 9)).alloc (.cells #[.func (.func 92) #[] #[.pointer (some ⟨w.heap.size + 1, 0, none⟩)]] 112)).alloc (.cells #[.pointer (some ⟨g, 0, none⟩)] 24)).heap.size = w.heap.size + 4 := by simp
  generalize ((((w.alloc (.cells #[.bool false] 4)).alloc (.cells #[.string (S p)] 9)).alloc (.cells #[.func (.func 92) #[] #[.pointer (some ⟨w.heap.size + 1, 0, none⟩)]] 112)).alloc (.cells #[.pointer (some ⟨g, 0, none⟩)] 24)) = W0 at *
  have hseq := inOrder1_stops 11 (by decide) w.heap.size (w.heap.size + 1 + 1 + 1) W0 (h.below hB0) K3.cell (by omega) (fun k hk => by unfold rowAt at hk; rw [K0.cell] at hk; cases hk)
  refine wpIn_rangeFunc_ownF rfl h1 (gf := 89) (lb := #[.pointer (some ⟨w.heap.size + 1 + 1 + 1, 0, none⟩)]) rfl trivial (enters_of Tryz.func89 (by kernel_rfl) rfl)
    hseq Keep.trans (Keep.put (by omega)) (Below.refl _ _) (fun _ => rfl)
    (fun pre W => Boxed W w.heap.size 4 (.bool false) ∧ Boxed W (w.heap.size + 1) 9 (.string (S p)) ∧ Boxed W (w.heap.size + 1 + 1) 112 (.func (.func 92) #[] #[.pointer (some ⟨w.heap.size + 1, 0, none⟩)]) ∧ ((pre.map (·.1)).any (isKidOf p) = false) ∧ Below w.heap.size w W)
    (fun c pre W => c = .ret ∧ Boxed W w.heap.size 4 (.bool true) ∧ ((pre.map (·.1)).any (isKidOf p) = true) ∧ Below w.heap.size w W)
    ((Own.from (boxed_own _ _ _) _).and ((Own.from (boxed_own _ _ _) _).and ((Own.from (boxed_own _ _ _) _).and ((ownFrom_pure _ _).and (ownFrom_below (Nat.le_refl _) (by omega))))))
    (fun c => (ownFrom_pure _ _).and ((Own.from (boxed_own _ _ _) _).and ((ownFrom_pure _ _).and (ownFrom_below (Nat.le_refl _) (by omega)))))
    ⟨K0, K1, K2, rfl, hB0⟩
    (fun x => { tmps := #[.pointer (some ⟨g, 0, none⟩), .string (S p), undef, undef, .pointer (some ⟨w.heap.size, 0, none⟩), .pointer (some ⟨w.heap.size + 1 + 1, 0, none⟩), .string (S x.1), .string (S p), .func (.func 92) #[] #[.pointer (some ⟨w.heap.size + 1, 0, none⟩)], .pointer (some ⟨g, 0, none⟩), .func (.func 89) #[] #[.pointer (some ⟨w.heap.size + 1 + 1 + 1, 0, none⟩)], .string (S x.1), undef, undef, undef], defers := [] }) ?assign ?body ?done ?stop
  case assign =>
    intro l x W K hK
    dsimp only [encP]
    gi_wp2
    exact hK
  case body =>
    rintro l pre x W ⟨k0, k1, k2, hany, hb⟩ _
    have hc2 := k2.cell
    have HANY := Lib.hid hany
    have HB := Lib.hid hb
    have hle : w.heap.size < W.heap.size := k0.lt
    have ck := (kid1_any p x.1 (w.heap.size + 1) W (by have := x.2; omega) k1.cell).mono (R' := fun e w' => e = .returned (.bool (isKidOf p x.1)) ∧ Hid (Below W.heap.size W w') ∧ w'.cell? ⟨w.heap.size, 0, none⟩ = some (.bool false) ∧ w'.frozen? ⟨w.heap.size, 0, none⟩ = false)
      fun e w' ⟨h1, h2⟩ => ⟨h1, h2, (h2.cell (p := ⟨w.heap.size, 0, none⟩) hle).trans k0.cell, (h2.frozen (p := ⟨w.heap.size, 0, none⟩) hle).trans k0.frozen⟩
    have K0' := Lib.hid k0
    have K1' := Lib.hid k1
    have K2' := Lib.hid k2
    clear hany hb k0 k1 k2
    cases hr : isKidOf p x.1 with
    | true =>
      rw [hr] at ck
      have HR := Lib.hid hr
      clear hr
      gi_wp2_with (refine ⟨trivial, ?_⟩; gi_at_call 92; refine (CallsIn.inRound l (callsIn_wide.2 ck)).mono ?_; rintro e w' ⟨rfl, hbk, hcc, hff⟩)
      have hb' := hbk.out
      refine ⟨(KeepsOthers.of_grownBy (grown_of_below hb') (fun j o e => by cases e)).trans (KeepsOthers.setCell _ _ _), rfl, (K0'.out.kept (grown_of_below hb') (by simp)).set _, ?_, (HB.out.trans (hb'.mono HB.out.size)).setCell (Nat.le_refl _) _⟩
      rw [List.map_append, List.any_append, HANY.out, Bool.false_or]
      simpa using HR.out
    | false =>
      rw [hr] at ck
      have HR := Lib.hid hr
      clear hr
      gi_wp2_with (refine ⟨trivial, ?_⟩; gi_at_call 92; refine (CallsIn.inRound l (callsIn_wide.2 ck)).mono ?_; rintro e w' ⟨rfl, hbk, hcc, hff⟩)
      have hb' := hbk.out
      refine ⟨KeepsOthers.of_grownBy (grown_of_below hb') (fun j o e => by cases e), Keep.of_below hb' hle, K0'.out.kept (grown_of_below hb') (by simp), K1'.out.kept (grown_of_below hb') (by simp), K2'.out.kept (grown_of_below hb') (by simp), ?_, HB.out.trans (hb'.mono HB.out.size)⟩
      rw [List.map_append, List.any_append, HANY.out, Bool.false_or]
      simpa using HR.out
  case done =>
    rintro D ys W hD hS ⟨k0, k1, k2, hany, hb⟩ hK
    have hc0 := k0.cell
    have hf0 := k0.frozen
    gi_wp2
    refine ⟨by simp, .inl ⟨_, _, rfl, run_takeDeferred ((KeepsOthers.setCell _ _ _).same D _ hK rfl), ?_⟩⟩
    have k0' := k0.set (.bool false)
    have hlt : w.heap.size < D := by omega
    rw [hS] at hany
    refine ⟨_, results_bool rfl _ _ ⟨w.heap.size, 0, none⟩ false rfl ?_, by rw [hany], ?_⟩
    · exact (k0'.kept (grownBy_putObj' _ D _) (by simp; omega)).cell
    · exact (hb.setCell (Nat.le_refl _) _).grown (grownBy_putObj' _ D _) (hb.setCell (Nat.le_refl _) _).size (fun k e => by cases e; omega)
  case stop =>
    rintro D c pre W hD hSp ⟨rfl, k0, hany, hb⟩ hK
    gi_wp2
    refine ⟨by simp, .inl ⟨_, _, rfl, run_takeDeferred hK, ?_⟩⟩
    have hlt : w.heap.size < D := by omega
    have hall : (paths t.row).any (isKidOf p) = true := by
      obtain ⟨r, hr⟩ := hSp
      rw [← hr, List.any_append, hany, Bool.true_or]
    refine ⟨_, results_bool rfl _ _ ⟨w.heap.size, 0, none⟩ true rfl ?_, by rw [hall], ?_⟩
    · exact (k0.kept (grownBy_putObj' _ D _) (by simp; omega)).cell
    · exact hb.grown (grownBy_putObj' _ D _) hb.size (fun k e => by cases e; omega)
/-! ### Kids -/
theorem kidOf_isKid {root : List UInt8} {l : Row} (hG : Good root l) {p q : List UInt8} (hp : p ∈ paths l) (hq : q ∈ paths l) : isKid root p q = isKidOf p q := by
  unfold isKid isKidOf
  by_cases he : parentF q = p
  · have h2 : (parentF q == p) = true := by simpa using he
    rw [h2, Bool.and_true, Bool.and_true]
    by_cases hr : q = root
    · by_cases hqp : q = p
      · rw [← hqp, hr]
      · exfalso
        obtain ⟨ps, rs, h1, h3, h4⟩ := under_iff.1 (hG.under p hp)
        rw [hr] at he
        have h5 := parent_parts h3
        rw [he, h1] at h5
        have h6 := Option.some.inj h5
        have h7 : rs.length ≤ rs.length - 1 := by
          have := congrArg List.length h4
          rw [List.length_take, h6, List.length_dropLast] at this
          omega
        have h8 : rs = [] := List.eq_nil_of_length_eq_zero (by omega)
        subst h8
        subst h6
        exact hqp (by rw [hr]; exact parts_eq h3 h1)
    · have hqp : q ≠ p := by
        obtain ⟨_, qs, hqs, h0⟩ := under_parent (hG.under q hq) hr
        intro e
        exact parent_ne hqs h0 (he.trans e.symm)
      rw [show (q != root) = true by simpa using hr, show (q != p) = true by simpa using hqp]
  · rw [show (parentF q == p) = false by simpa using he, Bool.and_false, Bool.and_false]
theorem kids_has {root : List UInt8} {l : Row} (hG : Good root l) {p : List UInt8} (hp : has l p = true) : kids root l p = ((paths l).filter (isKidOf p)).map baseF := by
  unfold kids
  rw [List.filter_congr fun q hq => kidOf_isKid hG (has_iff.1 hp) hq]
theorem kids_none {root : List UInt8} {l : Row} (hG : Good root l) {p : List UInt8} (hp : has l p = false) : kids root l p = [] := by
  unfold kids
  rw [List.map_eq_nil_iff, List.filter_eq_nil_iff]
  intro q hq h
  unfold isKid at h
  rw [Bool.and_eq_true] at h
  have h1 : q ≠ root := by simpa using h.1
  have h2 : parentF q = p := by simpa using h.2
  have := hG.par q hq h1
  rw [h2] at this
  exact has_false.1 hp this
theorem kids_any {root : List UInt8} {l : Row} (hG : Good root l) {p : List UInt8} (hp : has l p = true) : (paths l).any (isKidOf p) = decide (kids root l p ≠ []) := by
  rw [kids_has hG hp]
  cases h : (paths l).any (isKidOf p) with
  | true =>
    obtain ⟨q, hq, hk⟩ := List.any_eq_true.1 h
    symm
    refine decide_eq_true fun e => ?_
    rw [List.map_eq_nil_iff, List.filter_eq_nil_iff] at e
    exact e q hq hk
  | false =>
    symm
    refine decide_eq_false fun e => e ?_
    rw [List.map_eq_nil_iff, List.filter_eq_nil_iff]
    intro q hq hk
    rw [List.any_eq_false] at h
    exact h q hq hk

def sonsOf (p : List UInt8) (pre : List Pth) : List (List UInt8) := ((pre.map (·.1)).filter (isKidOf p)).map baseF
theorem sonsOf_yes {p : List UInt8} {pre : List Pth} {x : Pth} (h : isKidOf p x.1 = true) : sonsOf p (pre ++ [x]) = sonsOf p pre ++ [baseF x.1] := by
  unfold sonsOf
  rw [List.map_append, List.filter_append, List.map_append]
  simp [h]
theorem sonsOf_no {p : List UInt8} {pre : List Pth} {x : Pth} (h : isKidOf p x.1 = false) : sonsOf p (pre ++ [x]) = sonsOf p pre := by
  unfold sonsOf
  rw [List.map_append, List.filter_append, List.map_append]
  simp [h]
theorem keep_appended {W w1 : World} {n₀ B : Nat} {t e : TypeId} {v v' : Value} {k m : Nat} {xs ys : List Value} {tmp : Obj}
    (hv : Boxed W B t v) (hte : t ≠ e) (hrow : W.ownsRow n₀ e 1 v k xs) (hown' : w1.ownsRow n₀ e 1 v' m ys) (hgrow : (W.alloc tmp).grownBy w1 v.ownBlock) (hat : v'.ownBlock = v.ownBlock ∨ v'.ownBlock = some (W.alloc tmp).heap.size) (hB : n₀ ≤ B) (hn₀ : n₀ ≤ W.heap.size) :
    Keep B W (w1.setCell ⟨B, 0, none⟩ v') := by
  obtain ⟨_, h2, _, h4, _⟩ := Boxed.appended hv hte hrow hn₀ hB hown' hgrow
  have hrv : rowAt W B = v.ownBlock := by unfold rowAt; rw [hv.cell]; rfl
  refine ⟨h4.size, fun j o hj _ hne hr => ?_, ?_⟩
  · rw [hrv] at hr
    rw [heap_setCell_ne _ _ _ _ _ hne]
    have hlt : j < W.heap.size := (Array.getElem?_eq_some_iff.1 hj).1
    rw [hgrow.block j (by simp; omega) (fun e => hr e.symm)]
    exact (Below.heap_alloc _ _ _ hlt).trans hj
  · have hrv' : rowAt (w1.setCell ⟨B, 0, none⟩ v') B = v'.ownBlock := by unfold rowAt; rw [h2.cell]; rfl
    rw [hrv, hrv']
    rcases hat with h | h
    · exact .inl h
    · exact .inr ⟨_, h, by simp⟩

set_option maxRecDepth 8000 in
theorem Kids_none (p : List UInt8) {D : Nat → Prop} {g b : Nat} {t : TR} (w : World) (h : TreeAt w D g b t) (hp : p.length ≤ 1000000) (hh : has t.row p = false) :
    Calls Tryz.prog 38 #[.pointer (some ⟨g, 0, none⟩), .string (S p)] w fun e w' => ∃ A c, e = .returned (.slice A 0 c) ∧ Below w.heap.size w w' := by
  have c1 := has_any p w h hp
  rw [hh] at c1
  clear hh h
  go_enter Tryz.func38, Tryz.ntmps38
  go_wp2_with fail
  refine c1.mono ?_
  rintro e w1 ⟨rfl, hb⟩
  have HB := Lib.hid hb
  clear c1 hb
  go_wp2_with fail
  go_ret
  exact ⟨_, _, rfl, HB.out⟩
set_option maxRecDepth 8000 in
theorem Kids_nil (p : List UInt8) (w : World) : Calls Tryz.prog 38 #[.pointer none, .string (S p)] w fun e w' => ∃ A c, e = .returned (.slice A 0 c) ∧ Below w.heap.size w w' := by
  go_enter Tryz.func38, Tryz.ntmps38
  go_wp2_with fail
  refine (has_nil p w).mono ?_
  rintro e w1 ⟨rfl, rfl⟩
  go_wp2_with fail
  go_ret
  exact ⟨_, _, rfl, Below.refl _ _⟩
end Go.Proofs.YtplbckibogmicaaGreatDoor.Tree
