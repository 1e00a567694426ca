/- Same. -/
import Derived.Test.YtplbckibogmicaaGreatDoorTreeEqual
namespace Go.Proofs.YtplbckibogmicaaGreatDoor.Tree
open Go.Op Go.RowKit Path

theorem sub_eq : ∀ (l' l : Row), Sorted l → Sorted l' → (∀ x ∈ l, x ∈ l') → l.length ≤ l'.length ∧ (l.length = l'.length → l = l')
  | [], [], _, _, _ => ⟨Nat.le_refl _, fun _ => rfl⟩
  | [], x :: r, _, _, h => absurd (h x (by simp)) (by simp)
  | y :: r', [], _, _, _ => ⟨by simp, fun e => by simp at e⟩
  | y :: r', x :: r, hs, hs', h => by
    have h1 : (x.1 :: paths r).Pairwise fun a b => bytesLess a b = true := hs
    have h2 : (y.1 :: paths r').Pairwise fun a b => bytesLess a b = true := hs'
    rw [List.pairwise_cons] at h1 h2
    by_cases hxy : x = y
    · subst hxy
      obtain ⟨ih1, ih2⟩ := sub_eq r' r h1.2 h2.2 fun z hz => by
        rcases List.mem_cons.1 (h z (List.mem_cons_of_mem _ hz)) with e | e
        · subst e
          have := h1.1 z.1 (List.mem_map.2 ⟨z, hz, rfl⟩)
          rw [less_irrefl] at this
          cases this
        · exact e
      exact ⟨by simpa using ih1, fun e => by rw [ih2 (by simpa using e)]⟩
    · have hx : x ∈ r' := (List.mem_cons.1 (h x (by simp))).resolve_left hxy
      have hlt := h2.1 x.1 (List.mem_map.2 ⟨x, hx, rfl⟩)
      obtain ⟨ih1, _⟩ := sub_eq r' (x :: r) hs h2.2 fun z hz => by
        rcases List.mem_cons.1 (h z hz) with e | e
        · subst e
          rcases List.mem_cons.1 hz with e | e
          · exact absurd e.symm hxy
          · have := less_trans (h1.1 z.1 (List.mem_map.2 ⟨z, e, rfl⟩)) hlt
            rw [less_irrefl] at this
            cases this
        · exact e
      exact ⟨by simp only [List.length_cons] at ih1 ⊢; omega, fun e => by simp only [List.length_cons] at ih1 e; omega⟩
theorem equal_rows {l l' : Row} (hs : Sorted l) (hs' : Sorted l') : Lib.equalFuncD eqZ (mapD l) (mapD l') = decide (l = l') := by
  unfold Lib.equalFuncD
  rw [size_mapD, size_mapD]
  have hgood : ∀ p n, (p, n) ∈ l → Lib.goodD eqZ (mapD l') (.string p, .held n) = decide ((p, n) ∈ l') := by
    intro p n _
    unfold Lib.goodD
    rw [has_mapD, atKey_mapD, has_get]
    cases hg : get l' p with
    | none =>
      have : (p, n) ∉ l' := fun h => by rw [(get_some_iff hs').2 h] at hg; cases hg
      simp [this]
    | some m =>
      by_cases hm : n = m
      · subst hm
        have := (get_some_iff hs').1 hg
        simp [eqZ, this]
      · have : (p, n) ∉ l' := fun h => by
          rw [(get_some_iff hs').2 h] at hg
          exact hm (Option.some.inj hg)
        simp [eqZ, this, hm]
  by_cases he : l = l'
  · subst he
    rw [decide_eq_true rfl, decide_eq_true rfl, Bool.true_and]
    refine List.all_eq_true.2 fun x hx => ?_
    obtain ⟨y, hy, rfl⟩ := List.mem_map.1 hx
    rw [hgood y.1 y.2 hy]
    exact decide_eq_true hy
  · rw [decide_eq_false he]
    by_cases hl : l.length = l'.length
    · rw [decide_eq_true hl, Bool.true_and]
      refine Bool.eq_false_iff.2 fun hall => he ((sub_eq l' l hs hs' fun x hx => ?_).2 hl)
      have := List.all_eq_true.1 hall (.string x.1, .held x.2) (List.mem_map.2 ⟨x, hx, rfl⟩)
      rw [hgood x.1 x.2 hx] at this
      exact of_decide_eq_true this
    · rw [decide_eq_false hl, Bool.false_and]

theorem Same_nil (w : World) : Calls Tryz.prog 25 #[.pointer none, .pointer none] w fun e w' => e = .returned (.bool true) ∧ Below w.heap.size w w' := by
  go_enter Tryz.func25, Tryz.ntmps25
  go_wp2_with fail
  go_ret
  exact ⟨rfl, Below.refl _ _⟩
theorem Same_left (a : Addr) (w : World) : Calls Tryz.prog 25 #[.pointer none, .pointer (some a)] w fun e w' => e = .returned (.bool false) ∧ Below w.heap.size w w' := by
  go_enter Tryz.func25, Tryz.ntmps25
  go_wp2_with fail
  go_ret
  exact ⟨rfl, Below.refl _ _⟩
theorem Same_right (a : Addr) (w : World) : Calls Tryz.prog 25 #[.pointer (some a), .pointer none] w fun e w' => e = .returned (.bool false) ∧ Below w.heap.size w w' := by
  go_enter Tryz.func25, Tryz.ntmps25
  go_wp2_with fail
  go_ret
  exact ⟨rfl, Below.refl _ _⟩

theorem drewN_below (w : World) : ∀ n, Below w.heap.size w (w.drewN n) := fun n => below_drewN (Below.refl _ _) n
set_option maxRecDepth 8000 in
theorem Same_at {D D' : Nat → Prop} {g b g' b' : Nat} {t u : TR} (w : World) (h : TreeAt w D g b t) (h' : TreeAt w D' g' b' u) :
    Calls Tryz.prog 25 #[.pointer (some ⟨g, 0, none⟩), .pointer (some ⟨g', 0, none⟩)] w fun e w' => e = .returned (.bool (decide (t.root = u.root ∧ t.cnt = u.cnt ∧ t.row = u.row))) ∧ Below w.heap.size w w' := by
  have hc0 : w.cell? ⟨g, 0, none⟩ = some (.string (S t.root)) := h.bk.cell 0
  have hc1 : w.cell? ⟨g, 1, none⟩ = some (.int .u64 (t.cnt : Int)) := h.bk.cell 1
  have hc2 : w.cell? ⟨g, 2, none⟩ = some (.map (some b)) := h.bk.cell 2
  have hd0 : w.cell? ⟨g', 0, none⟩ = some (.string (S u.root)) := h'.bk.cell 0
  have hd1 : w.cell? ⟨g', 1, none⟩ = some (.int .u64 (u.cnt : Int)) := h'.bk.cell 1
  have hd2 : w.cell? ⟨g', 2, none⟩ = some (.map (some b')) := h'.bk.cell 2
  have s1 := S_list t.root
  have s2 := S_list u.root
  have hcall := fun (W : World) (hW : Below w.heap.size w W) => by
    have := equalFunc_any b b' _ _ _ _ W (h.below hW).dlt (h'.below hW).dlt (h.below hW).map (h'.below hW).map
    rw [equal_rows h.good.sorted h'.good.sorted] at this
    exact this
  have HCALL := Lib.hid hcall
  clear hcall h h'
  generalize hres : decide (t.root = u.root ∧ t.cnt = u.cnt ∧ t.row = u.row) = res
  have HRES := Lib.hid hres
  clear hres
  by_cases e0 : t.root = u.root
  · by_cases e1 : t.cnt = u.cnt
    · obtain rfl : res = decide (t.row = u.row) := by rw [← HRES.out]; simp [e0, e1]
      clear HRES
      generalize decide (t.row = u.row) = r at *
      rw [e0] at hc0
      rw [e1] at hc1
      clear e0 e1 s1
      have HC : Hid (∀ (W : World), Below w.heap.size w W → W.cell? ⟨g, 0, none⟩ = some (.string (S u.root)) ∧ W.cell? ⟨g, 1, none⟩ = some (.int .u64 (u.cnt : Int)) ∧ W.cell? ⟨g, 2, none⟩ = some (.map (some b)) ∧ W.cell? ⟨g', 0, none⟩ = some (.string (S u.root)) ∧ W.cell? ⟨g', 1, none⟩ = some (.int .u64 (u.cnt : Int)) ∧ W.cell? ⟨g', 2, none⟩ = some (.map (some b'))) :=
        fun W hW => ⟨(hW.cell (p := ⟨g, 0, none⟩) (World.block_lt_of_cell? w _ hc0)).trans hc0, (hW.cell (p := ⟨g, 1, none⟩) (World.block_lt_of_cell? w _ hc1)).trans hc1, (hW.cell (p := ⟨g, 2, none⟩) (World.block_lt_of_cell? w _ hc2)).trans hc2, (hW.cell (p := ⟨g', 0, none⟩) (World.block_lt_of_cell? w _ hd0)).trans hd0, (hW.cell (p := ⟨g', 1, none⟩) (World.block_lt_of_cell? w _ hd1)).trans hd1, (hW.cell (p := ⟨g', 2, none⟩) (World.block_lt_of_cell? w _ hd2)).trans hd2⟩
      have B1 := Lib.hid (Below.refl w.heap.size w).drew
      go_enter Tryz.func25, Tryz.ntmps25
      go_wp2_with fail
      clear hc0 hc1 hc2 hd0 hd1 hd2
      go_region_held3 (fun w' => w'.cell? ⟨g, 0, none⟩ = some (.string (S u.root)) ∧ w'.cell? ⟨g, 1, none⟩ = some (.int .u64 (u.cnt : Int)) ∧ w'.cell? ⟨g, 2, none⟩ = some (.map (some b)) ∧ w'.cell? ⟨g', 0, none⟩ = some (.string (S u.root)) ∧ w'.cell? ⟨g', 1, none⟩ = some (.int .u64 (u.cnt : Int)) ∧ w'.cell? ⟨g', 2, none⟩ = some (.map (some b')))
        (first | assumption | exact HC.out _ B1.out | exact HC.out _ BE.out)
        (first | (go_at_call 54; refine (HCALL.out w.drew B1.out).mono ?_; rintro e we ⟨rfl, hg⟩; have BE : Hid (Below w.heap.size w we) := B1.out.grown hg B1.out.size (fun k e => by cases e); clear hg))
      go_wp2_with fail
      go_ret
      exact ⟨rfl, BE.out⟩
    · obtain rfl : res = false := by rw [← HRES.out]; exact decide_eq_false fun e => e1 e.2.1
      have e1' : ((t.cnt : Int) == (u.cnt : Int)) = false := by
        have : ¬ (t.cnt : Int) = (u.cnt : Int) := by omega
        simpa using this
      clear HRES HCALL
      go_enter Tryz.func25, Tryz.ntmps25
      go_wp2_with fail
      go_quiet (fail)
      go_wp2_with fail
      go_ret
      exact ⟨rfl, drewN_below _ _⟩
  · obtain rfl : res = false := by rw [← HRES.out]; exact decide_eq_false fun e => e0 e.1
    have e0' : (t.root == u.root) = false := by simpa using e0
    clear HRES HCALL
    go_enter Tryz.func25, Tryz.ntmps25
    go_wp2_with fail
    go_quiet (fail)
    go_wp2_with fail
    go_ret
    exact ⟨rfl, drewN_below _ _⟩
end Go.Proofs.YtplbckibogmicaaGreatDoor.Tree
