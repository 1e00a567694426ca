/- The record that leaves begin with. -/
import Derived.Test.YtikpedkckijioaaLogLeaves
namespace Go.Proofs.Ytikpedkckijioaa.Log
open Go.RowKit Disk

/-- The first k leaves from the page e on go on as the first one says, and none is the last. -/
def Going (ps : Pages) (last e k : Nat) : Prop := ∀ j, j < k → last < (leafF (pg ps e)).1 ∧ (leafF (pg ps (e + j))).1 = (leafF (pg ps e)).1 ∧ (leafF (pg ps (e + j))).2.1 = j ∧ (leafF (pg ps (e + j))).2.2.1 = (leafF (pg ps e)).2.2.1 ∧ j + 1 ≠ (leafF (pg ps e)).2.2.1
theorem leaves_of {ps : Pages} {s m : Nat} (hs : 0 < s) : ∀ (k e i : Nat), (∀ j, j < k → (leafF (pg ps (e + j))).1 = s ∧ (leafF (pg ps (e + j))).2.1 = i + j ∧ (leafF (pg ps (e + j))).2.2.1 = m) → leaves ps s m e i k = some ((List.range k).map fun j => (leafF (pg ps (e + j))).2.2.2).flatten
  | 0, _, _, _ => rfl
  | k + 1, e, i, h => by
    have h0 := h 0 (by omega)
    have hp := leafF_pos (p := pg ps e) (by have := h0.1; rw [Nat.add_zero] at this; omega)
    rw [Nat.add_zero] at h0
    rw [leaves, hp]
    rcases hx : leafF (pg ps e) with ⟨s', i', m', b'⟩
    rw [hx] at h0
    dsimp only at h0 ⊢
    rw [if_pos ⟨h0.1, by omega, h0.2.2⟩, leaves_of hs k (e + 1) (i + 1) fun j hj => by
      have := h (j + 1) (by omega)
      rw [show e + 1 + j = e + (j + 1) from by omega]
      exact ⟨this.1, by omega, this.2.2⟩]
    rw [Option.map_some, List.range_succ_eq_map, List.map_cons, List.flatten_cons, show leafF (pg ps (e + 0)) = (s', i', m', b') from hx, List.map_map]
    congr 4
    funext j
    show _ = (leafF (pg ps (e + (j + 1)))).2.2.2
    rw [show e + 1 + j = e + (j + 1) from by omega]
theorem rec1_leaf {ps : Pages} {last e s m : Nat} {b : List UInt8} (h : rec1 ps last e = some (s, m, b)) : last < s ∧ 1 ≤ m ∧ e + m ≤ ps.length ∧ (leafF (pg ps e)).1 = s ∧ (leafF (pg ps e)).2.2.1 = m ∧ ∀ j, j < m → (leafF (pg ps (e + j))).1 = s ∧ (leafF (pg ps (e + j))).2.1 = j ∧ (leafF (pg ps (e + j))).2.2.1 = m := by
  obtain ⟨h1, h2, h3, h4, c, h5⟩ := rec1_some h
  refine ⟨h1, h2, h3, by rw [leafF_some h5], by rw [leafF_some h5], fun j hj => ?_⟩
  obtain ⟨c', h6⟩ := leaves_says h4 j hj
  rw [leafF_some h6]
  exact ⟨rfl, by dsimp only; omega, rfl⟩
/-- A leaf that does not go on so: no record. -/
theorem rec1_stop {ps : Pages} {last e k : Nat} (hg : Going ps last e k) (hbad : (leafF (pg ps (e + k))).1 ≤ last ∨ (leafF (pg ps (e + k))).1 ≠ (leafF (pg ps e)).1 ∨ (leafF (pg ps (e + k))).2.2.1 ≠ (leafF (pg ps e)).2.2.1 ∨ (leafF (pg ps (e + k))).2.1 ≠ k) : rec1 ps last e = none := by
  cases h : rec1 ps last e with
  | none => rfl
  | some x =>
    obtain ⟨s, m, b⟩ := x
    obtain ⟨h1, h2, h3, h4, h5, h6⟩ := rec1_leaf h
    have hk : k < m := by
      refine Nat.lt_of_not_le fun hle => ?_
      have := (hg (m - 1) (by omega)).2.2.2.2
      rw [h5] at this
      omega
    have := h6 k hk
    rw [h4, h5] at hbad
    omega
/-- The leaves have run out: no record. -/
theorem rec1_out {ps : Pages} {last e k : Nat} (hg : Going ps last e k) (hk : ps.length ≤ e + k) : rec1 ps last e = none := by
  cases h : rec1 ps last e with
  | none => rfl
  | some x =>
    obtain ⟨s, m, b⟩ := x
    obtain ⟨h1, h2, h3, h4, h5, h6⟩ := rec1_leaf h
    have := (hg (m - 1) (by omega)).2.2.2.2
    rw [h5] at this
    omega
/-- The record is whole. -/
theorem rec1_whole {ps : Pages} {last e k : Nat} (hg : Going ps last e k) (hl : e + k < ps.length) (h1 : last < (leafF (pg ps (e + k))).1) (h2 : (leafF (pg ps (e + k))).1 = (leafF (pg ps e)).1) (h3 : (leafF (pg ps (e + k))).2.2.1 = (leafF (pg ps e)).2.2.1) (h4 : (leafF (pg ps (e + k))).2.1 = k) (h5 : k + 1 = (leafF (pg ps e)).2.2.1) :
    rec1 ps last e = some ((leafF (pg ps e)).1, k + 1, ((List.range (k + 1)).map fun j => (leafF (pg ps (e + j))).2.2.2).flatten) := by
  have hp : says (pg ps e) = some (leafF (pg ps e)) := leafF_pos (by omega)
  unfold rec1
  rw [hp]
  have hl' := leaves_of (ps := ps) (s := (leafF (pg ps e)).1) (m := (leafF (pg ps e)).2.2.1) (by omega) (k + 1) e 0 fun j hj => by
    by_cases hjk : j = k
    · rw [hjk]; exact ⟨h2, by omega, h3⟩
    · have := hg j (by omega)
      exact ⟨this.2.1, by omega, this.2.2.2.1⟩
  rcases hx : leafF (pg ps e) with ⟨s', i', m', b'⟩
  rw [hx] at hl' h2 h3 h5
  dsimp only at hl' h2 h3 h5 ⊢
  rw [if_pos ⟨by omega, by omega, by omega⟩, ← h5]
  rw [← h5] at hl'
  rw [hl']
  rfl
def FirstPost (ps : Pages) (last e B o c : Nat) (w : World) (x : Ending) (w' : World) : Prop :=
  Below w.heap.size w w' ∧ match rec1 ps last e with
  | none => x = .returned (.slice none 0 0)
  | some (_, m, _) => x = .returned (.slice (some ⟨B, o, none⟩) m c)
theorem first_zero (A : Option Addr) (c last : Nat) (w : World) : Calls Try.prog 56 #[.slice A 0 c, .int .u64 (last : Int)] w (Ans (.slice none 0 0) w) := by
  go_enter Try.func56, Try.ntmps56
  go_wp2_with fail
  go_loopw [10] (fun i wr => i = .int .i64 0 ∧ wr = w) (fun _ _ => 1)
  case atStart => exact ⟨rfl, rfl⟩
  case round =>
    obtain ⟨rfl, rfl⟩ := hrel
    go_wp2_with fail
    go_ret
    exact ⟨rfl, rfl⟩
def RelFirst (ps : Pages) (last e n : Nat) (w : World) (i : Value) (wr : World) : Prop := ∃ k : Nat, k ≤ n ∧ i = .int .i64 (k : Int) ∧ Below w.heap.size w wr ∧ Going ps last e k
theorem going_zero (ps : Pages) (last e : Nat) : Going ps last e 0 := fun j hj => absurd hj (by omega)
set_option maxRecDepth 100000 in
set_option maxHeartbeats 4000000 in
theorem first_any (B o n c last e : Nat) (ps : Pages) (w : World) (h : LvS w B o n ((ps.drop e).map leafF)) (h0 : 0 < n) (hn : n ≤ 100000) (hnc : n ≤ c) (hne : e + n = ps.length) :
    Calls Try.prog 56 #[.slice (some ⟨B, o, none⟩) n c, .int .u64 (last : Int)] w (FirstPost ps last e B o c w) := by
  have hget : ∀ j, j < n → ((ps.drop e).map leafF)[j]? = some (leafF (pg ps (e + j))) := fun j hj => by
    unfold pg
    rw [List.getElem?_map, List.getElem?_drop, List.getD_eq_getElem?_getD, List.getElem?_eq_getElem (by omega)]
    rfl
  have HG := Lib.hid hget
  have H := Lib.hid h
  have HNE := Lib.hid hne
  have HNC := Lib.hid hnc
  clear h hget hne
  go_enter Try.func56, Try.ntmps56
  go_wp2_with fail
  go_loopw [10] (fun i wr => RelFirst ps last e n w i wr) (fun i _ => n - (intOf i).toNat)
  case atStart => exact ⟨0, by omega, rfl, Below.refl _ _, going_zero _ _ _⟩
  case round =>
    obtain ⟨k, hk, rfl, hb, hg⟩ := hrel
    have HB := Lib.hid hb
    have HGO := Lib.hid hg
    clear hb hg
    by_cases hlt : k < n
    · obtain ⟨A1, m1, c1, _, _, x0, x1, x2, x3⟩ := (H.out.below HB.out).at_ k _ (HG.out k hlt)
      have hg0 := HG.out 0 h0
      rw [Nat.add_zero] at hg0
      obtain ⟨A2, m2, c2, _, _, y0, y1, y2, y3⟩ := (H.out.below HB.out).at_ 0 _ hg0
      rw [Nat.zero_mul, Nat.add_zero] at y0 y1 y2 y3
      have HSTOP := Lib.hid (fun hbad => rec1_stop (ps := ps) (last := last) (e := e) (k := k) HGO.out hbad)
      have HWHOLE := Lib.hid (rec1_whole (ps := ps) (last := last) (e := e) (k := k) HGO.out (by have := HNE.out; omega))
      have hbd1 := leafF_bounds (pg ps (e + k))
      have hbd2 := leafF_bounds (pg ps e)
      have HNEXT : Hid (last < (leafF (pg ps e)).1 → (leafF (pg ps (e + k))).1 = (leafF (pg ps e)).1 → (leafF (pg ps (e + k))).2.1 = k → (leafF (pg ps (e + k))).2.2.1 = (leafF (pg ps e)).2.2.1 → k + 1 ≠ (leafF (pg ps e)).2.2.1 → Going ps last e (k + 1)) := fun a1 a2 a3 a4 a5 j hj => by
        by_cases hjk : j = k
        · rw [hjk]; exact ⟨a1, a2, a3, a4, a5⟩
        · exact HGO.out j (by omega)
      clear hg0
      obtain ⟨FL, hFL⟩ : ∃ FL, FL = ((List.range (k + 1)).map fun j => (leafF (pg ps (e + j))).2.2.2).flatten := ⟨_, rfl⟩
      rw [← hFL] at HWHOLE
      clear hFL
      generalize (leafF (pg ps (e + k))).1 = s1 at *
      generalize (leafF (pg ps (e + k))).2.1 = a1 at *
      generalize (leafF (pg ps (e + k))).2.2.1 = o1 at *
      generalize (leafF (pg ps e)).1 = s0 at *
      generalize (leafF (pg ps e)).2.1 = a0 at *
      generalize (leafF (pg ps e)).2.2.1 = o0 at *
      have hb1 : Below wr.heap.size wr (wr.alloc (.cells #[.int .u64 (s1 : Int), .int .u16 (a1 : Int), .int .u16 (o1 : Int), .slice A1 m1 c1] 79)) := (Below.refl _ _).alloc (Nat.le_refl _) _
      have z0 := (hb1.cell (World.block_lt_of_cell? wr _ y0)).trans y0
      have z1 := (hb1.cell (World.block_lt_of_cell? wr _ y1)).trans y1
      have z2 := (hb1.cell (World.block_lt_of_cell? wr _ y2)).trans y2
      have z3 := (hb1.cell (World.block_lt_of_cell? wr _ y3)).trans y3
      have HB2 : Hid (Below w.heap.size w ((wr.alloc (.cells #[.int .u64 (s1 : Int), .int .u16 (a1 : Int), .int .u16 (o1 : Int), .slice A1 m1 c1] 79)).alloc (.cells #[.int .u64 (s0 : Int), .int .u16 (a0 : Int), .int .u16 (o0 : Int), .slice A2 m2 c2] 79))) :=
        (HB.out.alloc HB.out.size _).alloc (Nat.le_trans HB.out.size hb1.size) _
      have HBD : Hid (s1 < 18446744073709551616 ∧ a1 < 65536 ∧ o1 < 65536 ∧ o0 < 65536) := ⟨hbd1.1, hbd1.2.1, hbd1.2.2.1, hbd2.2.2.1⟩
      have w1 : IntKind.i64.wrap (a1 : Int) = (a1 : Int) := by rw [IntKind.wrap_i64]; have := HBD.out.2.1; omega
      have w2 : IntKind.i64.wrap (o0 : Int) = (o0 : Int) := by rw [IntKind.wrap_i64]; have := HBD.out.2.2.2; omega
      clear y0 y1 y2 y3 hb1 hbd1 hbd2
      by_cases q1 : s1 ≤ last
      · have HRES := Lib.hid (HSTOP.out (Or.inl q1))
        have g1 : decide ((s1 : Int) ≤ (last : Int)) = true := decide_eq_true (by omega)
        go_wp2_with fail
        go_ret
        refine ⟨HB2.out, ?_⟩
        rw [HRES.out]
        exact rfl
      · have g1 : decide ((s1 : Int) ≤ (last : Int)) = false := decide_eq_false (by omega)
        by_cases q2 : s1 = s0
        · subst q2
          by_cases q3 : o1 = o0
          · subst q3
            by_cases q4 : a1 = k
            · subst q4
              by_cases q5 : a1 + 1 = o1
              · have HRES := Lib.hid (HWHOLE.out (by omega) rfl rfl rfl q5)
                rw [q5] at HRES
                have g5 : (a1 : Int) + 1 = (o1 : Int) := by omega
                have g7 : (o1 : Int) ≤ (c : Int) := by omega
                have g8 : o1 ≤ c := by omega
                have g9 : ¬ (c < o1) := by omega
                clear q5 w1
                go_wp2_with fail
                go_ret
                refine ⟨HB2.out, ?_⟩
                rw [HRES.out]
                exact rfl
              · have HNX := Lib.hid (HNEXT.out (by omega) rfl rfl rfl q5)
                have g5 : ¬ ((a1 : Int) + 1 = (o1 : Int)) := by omega
                go_wp2_with fail
                exact ⟨⟨a1 + 1, by omega, rfl, HB2.out, HNX.out⟩, by simp [intOf]; omega⟩
            · have HRES := Lib.hid (HSTOP.out (Or.inr (Or.inr (Or.inr q4))))
              have g2 : ¬ ((a1 : Int) = (k : Int)) := by omega
              go_wp2_with fail
              go_ret
              refine ⟨HB2.out, ?_⟩
              rw [HRES.out]
              exact rfl
          · have HRES := Lib.hid (HSTOP.out (Or.inr (Or.inr (Or.inl q3))))
            have g2 : ¬ ((o1 : Int) = (o0 : Int)) := by omega
            go_wp2_with fail
            go_ret
            refine ⟨HB2.out, ?_⟩
            rw [HRES.out]
            exact rfl
        · have HRES := Lib.hid (HSTOP.out (Or.inr (Or.inl q2)))
          have g2 : ¬ ((s1 : Int) = (s0 : Int)) := by omega
          go_wp2_with fail
          go_ret
          refine ⟨HB2.out, ?_⟩
          rw [HRES.out]
          exact rfl
    · obtain rfl : k = n := by omega
      have HRES := Lib.hid (rec1_out HGO.out (by have := HNE.out; omega))
      go_wp2_with fail
      go_ret
      refine ⟨HB.out, ?_⟩
      rw [HRES.out]
      exact rfl
end Go.Proofs.Ytikpedkckijioaa.Log
