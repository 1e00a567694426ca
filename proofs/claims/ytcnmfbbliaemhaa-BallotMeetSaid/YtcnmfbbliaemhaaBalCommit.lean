/- Commit, and what all of layer 10's statements ask at their ends. -/
import Derived.Test.YtcnmfbbliaemhaaShelf
import Derived.Test.YtcnmfbbliaemhaaShelf3
import Derived.Test.YtcnmfbbliaemhaaBalNums
import Derived.Test.YtcnmfbbliaemhaaPathTexts
import Derived.Sort.OwnSortedInts
namespace Go.Proofs.Ytcnmfbbliaemhaa.Bal
open Go.RowKit Go.Shelf Go.Lib Go.Sort

/-- Numbers as cells. -/
def vi (zs : List Int) : List Value := zs.map (Value.int .i64)
theorem vi_length (zs : List Int) : (vi zs).length = zs.length := List.length_map ..
theorem vi_one (zs : List Int) : ∀ v ∈ vi zs, v.oneCell' = true := by
  intro v hv
  obtain ⟨z, _, rfl⟩ := List.mem_map.1 hv
  rfl
theorem ty_ints : Try.prog.underlying 29 = some (.slice 3) := by kernel_rfl
theorem ty_int : Try.prog.underlying 3 = some (.int .i64) := by kernel_rfl
/-- The comparison: the greater one first. -/
def cfD (x y : Int) : Int := Lib.compareInt y x
theorem ltD (x y : Int) : ltOf cfD x y = decide (y < x) := by
  unfold ltOf cfD Lib.compareInt
  by_cases h1 : y < x
  · simp [h1]
  · by_cases h2 : x < y <;> simp [h1, h2]
theorem swoD : SWO (ltOf cfD) where
  irrefl x := by rw [ltD]; simp
  trans x y z h1 h2 := by rw [ltD] at *; simp at *; omega
  ntrans x y z h1 h2 := by rw [ltD] at *; simp at *; omega
theorem totD (x y : Int) (h1 : ltOf cfD x y = false) (h2 : ltOf cfD y x = false) : x = y := by rw [ltD] at *; simp at *; omega
theorem geD : (fun x y : Int => !ltOf cfD y x) = fun x y => decide (y ≤ x) := by
  funext x y
  rw [ltD]
  by_cases h : y ≤ x
  · have h' : ¬ x < y := by omega
    simp [h, h']
  · have h' : x < y := by omega
    simp [h, h']
set_option maxHeartbeats 1000000 in
theorem closure_any (x y : Int) (W : World) : Calls Try.prog 21 #[.int .i64 x, .int .i64 y] W fun e w' => e = .returned (.int .i64 (cfD x y)) ∧ ∃ q, w' = W.drewN q := by
  have hcon := AnyG.cmp_Compare_int Try.cmpF y x W
  change Calls Try.prog 22 _ _ _ at hcon
  unfold cfD
  generalize Lib.compareInt y x = r at hcon ⊢
  go_enter Try.func21, Try.ntmps21
  go_wp2_with (go_at_call 22; refine hcon.mono ?_; rintro e w' ⟨rfl, rfl⟩)
  go_ret
  exact ⟨rfl, 0, rfl⟩
theorem cmp_reads (blk off size : Nat) (w : World) : CmpReads Try.prog 21 #[] (Value.int .i64) cfD blk off size w := fun _ _ _ _ x y => closure_any x y _
/-- A row of one's own, sorted in place, the greatest first. -/
theorem sort_own {base n c : Nat} {A : Option Addr} {zs : List Int} {w : World} (h : w.ownsRow base 3 1 (.slice A n c) n (vi zs)) (h0 : 0 < n) (hn : n < 4611686018427387904) :
    Calls Try.prog 20 #[.slice A n c, .func (.func 21) #[] #[]] w fun e w' =>
      e = .returned (.tuple #[]) ∧ w'.ownsRow base 3 1 (.slice A n c) n (vi (zs.mergeSort fun x y => decide (y ≤ x))) ∧ Below base w w' := by
  have hl : zs.length = n := by have := h.1; rw [vi_length] at this; omega
  rcases h.2 with ⟨e1, e2⟩ | ⟨g, cap, cur, e1, hg, hh, hnc, hcm, hs, ht⟩
  · injection e1 with _ e1; omega
  · injection e1 with e1 e2 e3
    subst e1 e3
    have eg : ∀ args w, (callFunc 21 args).run Try.prog w = .ok (.enter 21 args) w := enters_of Try.func21 (by kernel_rfl) rfl
    have hH := holds_of_blockI (ss := zs) hh (by rw [hl, Nat.mul_one] at *; exact ht)
    have hsz : zs.toArray.size = n := by simpa using hl
    have hS := Any.slices_SortFunc_total Try.sortF (Value.int .i64) (fun _ => rfl) cfD swoD 21 #[] g 0 c zs.toArray w eg (cmp_reads g 0 zs.toArray.size w).lays hH (Array.getElem?_eq_some_iff.1 hh).1 (by rw [hsz]; exact hn) totD
    rw [geD, hsz] at hS
    change Calls Try.prog 20 _ _ _ at hS
    refine hS.mono fun e w' ⟨he, q, os, hw⟩ => ⟨he, ?_, ?_⟩
    · rw [hw]
      have := ownsRow_sortedI (n := q) (os := os) (ss := zs) (ts := zs.mergeSort fun x y => decide (y ≤ x)) (List.length_mergeSort _) hg hh (by rw [hl]; exact hnc) hcm hs
      rw [hl] at this
      exact this
    · rw [hw]
      exact (Below.refl base w).grown (row := some g) (grownBy_sortedI _) (Nat.le_trans hg (Nat.le_of_lt (Array.getElem?_eq_some_iff.1 hh).1)) (fun k hk => by injection hk with hk; omega)
set_option maxHeartbeats 1000000 in
theorem commit_nil (A : Option Addr) (c : Nat) (w : World) : Calls Try.prog 15 #[.slice A 0 c] w fun e w' => e = .returned (.int .i64 0) ∧ w = w' := by
  go_enter Try.func15, Try.ntmps15
  go_wp2_with fail
  go_ret
  exact ⟨rfl, rfl⟩
theorem clone_any {A : Option Addr} {n c : Nat} {zs : List Int} {w : World} (h : RdV w A n (vi zs)) (h0 : 0 < n) (hn : n ≤ 1000000) :
    Calls Try.prog 19 #[.slice A n c] w fun e w' => ∃ B d, e = .returned (.slice B n d) ∧ w'.ownsRow w.heap.size 3 1 (.slice B n d) n (vi zs) ∧ Below w.heap.size w w' := by
  have hl : zs.length = n := by rw [← h.len, vi_length]
  obtain ⟨ad, rfl, hc⟩ := h.cells h0
  have h1 := hc 0 (.int .i64 zs[0]) (by simp [vi])
  have hp : ad = ⟨ad.block, ad.off, none⟩ := by
    obtain ⟨b, o, s⟩ := ad
    cases s with
    | none => rfl
    | some x =>
      simp [Addr.add, World.cell?] at h1
      split at h1 <;> simp at h1
  generalize ad.block = b at hp
  generalize ad.off = o at hp
  subst hp
  have := Try.slices_Clone_int b o n c zs w (by omega) (by omega) (fun j hj => by
    have := hc j (.int .i64 zs[j]) (by simp [vi])
    have e : (⟨b, o, none⟩ : Addr).add j = ⟨b, o + j, none⟩ := by unfold Addr.add; split <;> simp_all
    rw [e] at this
    rw [this, List.getD_eq_getElem?_getD, List.getElem?_eq_getElem hj]
    rfl)
  refine this.mono fun e w' ⟨v', he, hown, _, hb⟩ => ?_
  obtain ⟨B, d, rfl⟩ := own_slice hown
  rw [List.take_of_length_le (by omega)] at hown
  exact ⟨B, d, he, hown, hb⟩
set_option maxHeartbeats 1000000 in
theorem commit_any {A : Option Addr} {n c : Nat} {zs : List Int} {w : World} (h : RdV w A n (vi zs)) (hn : n ≤ 1000000) :
    Calls Try.prog 15 #[.slice A n c] w fun e w' => e = .returned (.int .i64 (best zs)) ∧ Below w.heap.size w w' := by
  have hl : zs.length = n := by rw [← h.len, vi_length]
  rcases Nat.eq_zero_or_pos n with rfl | h0
  · obtain rfl : zs = [] := List.eq_nil_of_length_eq_zero hl
    rw [best_nil]
    exact (commit_nil A c w).mono fun _ _ ⟨he, hw⟩ => ⟨he, hw ▸ Below.refl _ _⟩
  · have CC := Lib.hid (clone_any (c := c) h h0 hn)
    have HB : Hid ((zs.mergeSort fun x y => decide (y ≤ x))[n / 2]? = some (best zs)) := by
      show _ = _
      rw [← hl]
      exact best_at (by intro e; rw [e] at hl; simp at hl; omega)
    have CQ := Lib.hid (quorum_yes n · h0 (by omega))
    have hq : ((quorum n : Nat) : Int) - 1 = ((n / 2 : Nat) : Int) := by unfold quorum; omega
    have hqb : quorum n ≤ n ∧ 0 < quorum n := by unfold quorum; omega
    have hn2 : n / 2 < n := by omega
    generalize best zs = r at *
    generalize quorum n = qn at *
    generalize n / 2 = m at *
    have hne : ((n : Int) == 0) = false := by simp; omega
    clear h hl
    go_enter Try.func15, Try.ntmps15
    go_wp2_with fail
    refine CC.out.mono ?_
    rintro e w1 ⟨B, d, rfl, hown, hb⟩
    have CS := Lib.hid (sort_own hown h0 (by omega))
    have HB1 := Lib.hid hb
    clear hown hb CC
    go_wp2_with fail
    refine CS.out.mono ?_
    rintro e w2 ⟨rfl, hown, hb⟩
    have HB2 := Lib.hid hb
    have HR := Lib.hid (RdV.of_own hown).1
    clear hown hb CS
    go_wp2_with fail
    refine (CQ.out w2).mono ?_
    rintro e _ ⟨rfl, rfl⟩
    obtain ⟨ad, rfl, hc⟩ := HR.out.cells h0
    have hcell := hc m (.int .i64 r) (by simp only [vi, List.getElem?_map, HB.out, Option.map_some])
    clear hc
    go_wp2_with fail
    go_ret
    exact ⟨rfl, HB1.out.trans HB2.out⟩
theorem rdv_lit (w : World) (e : TypeId) (vs : List Value) : RdV (w.alloc (.cells vs.toArray e)) (some ⟨w.heap.size, 0, none⟩) vs.length vs :=
  ⟨rfl, fun _ => ⟨_, rfl, fun j b hb => by
    have hh : (w.alloc (.cells vs.toArray e)).heap[w.heap.size]? = some (.cells vs.toArray e (0, 0)) := heap_alloc_new w _
    have : ((⟨w.heap.size, 0, none⟩ : Addr).add j) = ⟨w.heap.size, j, none⟩ := by
      unfold Addr.add
      split
      · next h => rw [h]
      · simp
    rw [this]
    unfold World.cell?
    rw [hh]
    simpa using hb⟩⟩
theorem commit_lit (zs : List Int) (z : Int) (n : Nat) (w : World) (hn : zs.length = n) (h : n ≤ 1000000) (hh : Has zs z) :
    Calls Try.prog 15 #[.slice (some ⟨w.heap.size, 0, none⟩) n n] (w.alloc (.cells (vi zs).toArray 3)) fun e w' => e = .returned (.int .i64 z) ∧ Below (w.heap.size + 1) (w.alloc (.cells (vi zs).toArray 3)) w' := by
  have hz : best zs = z := Has.only (best_has (List.ne_nil_of_mem hh.mem)) hh
  subst hn hz
  have := rdv_lit w 3 (vi zs)
  rw [vi_length] at this
  have h2 := commit_any (c := zs.length) this h
  rwa [World.size_alloc] at h2
set_option maxRecDepth 8000 in
set_option maxHeartbeats 1000000 in
theorem counts_any (w : World) : Calls Try.prog 14 #[] w fun e w' => e = .returned (.bool true) ∧ Below w.heap.size w w' := by
  have C1 := Lib.hid (next_any 0 0 3 w (by decide) (by decide))
  have C2 := Lib.hid (next_any 4 1 3 w (by decide) (by decide))
  have C3 := Lib.hid (quorum_any 3 w (by decide))
  have C4 := Lib.hid (commit_lit [5, 3, 4] 4 3 w rfl (by decide) ⟨by decide, by decide, by decide⟩)
  have C5 := fun W => owner_any 7 3 W (by decide) (by decide)
  have C6 := fun W => better_any 2 0 1 9 W (by decide) (by decide)
  have e1 : nextI 0 0 3 = 3 := by decide +kernel
  have e2 : nextI 4 1 3 = 7 := by decide +kernel
  have e3 : quoI 3 = 2 := by decide +kernel
  have e5 : ownI 7 3 = 1 := by decide +kernel
  have e6 : btr 2 0 1 9 = true := by decide +kernel
  rw [e1] at C1
  rw [e2] at C2
  rw [e3] at C3
  rw [e5] at C5
  rw [e6] at C6
  have C5 := Lib.hid C5
  have C6 := Lib.hid C6
  clear e1 e2 e3 e5 e6
  go_enter Try.func14, Try.ntmps14
  go_wp2_with fail
  refine C1.out.mono ?_
  rintro e _ ⟨rfl, rfl⟩
  go_wp2_with fail
  refine C2.out.mono ?_
  rintro e _ ⟨rfl, rfl⟩
  go_wp2_with fail
  refine C3.out.mono ?_
  rintro e _ ⟨rfl, rfl⟩
  go_wp2_with fail
  refine C4.out.mono ?_
  rintro e w1 ⟨rfl, hb⟩
  have HB := Lib.hid (((Below.refl w.heap.size w).alloc (Nat.le_refl _) _).trans (hb.mono (by omega)))
  clear hb
  go_wp2_with fail
  refine (C5.out w1).mono ?_
  rintro e _ ⟨rfl, rfl⟩
  go_wp2_with fail
  refine (C6.out w1).mono ?_
  rintro e w2 ⟨rfl, hb⟩
  have HB2 := Lib.hid (HB.out.trans (hb.mono HB.out.size))
  clear hb
  go_wp2_with fail
  go_ret
  exact ⟨rfl, HB2.out⟩
end Go.Proofs.Ytcnmfbbliaemhaa.Bal
