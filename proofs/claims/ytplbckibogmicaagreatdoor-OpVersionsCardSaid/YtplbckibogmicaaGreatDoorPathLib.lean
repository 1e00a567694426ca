/- The library's calls that path makes: cut, split, join, held against each other . -/
import Derived.Test.YtplbckibogmicaaGreatDoorPathName
import Derived.Test.YtplbckibogmicaaGreatDoorPathSplitPure
import Derived.Test.YtplbckibogmicaaGreatDoorShelf
namespace Go.Proofs.YtplbckibogmicaaGreatDoor.Path
open Go.RowKit

/-- The slice at A reads as these texts; its cells lie in a row. -/
def RdS (w : World) (A : Option Addr) (ps : List (List UInt8)) : Prop :=
  0 < ps.length → ∃ g, A = some ⟨g, 0, none⟩ ∧ ∀ j, (h : j < ps.length) → w.cell? ⟨g, j, none⟩ = some (.string (S ps[j]))

theorem RdS.below {w w' : World} {A : Option Addr} {ps : List (List UInt8)} (h : RdS w A ps) (hb : Below w.heap.size w w') : RdS w' A ps := fun h0 => by
  obtain ⟨g, e, hc⟩ := h h0
  exact ⟨g, e, fun j hj => (hb.cell (World.block_lt_of_cell? w _ (hc j hj))).trans (hc j hj)⟩
theorem RdS.take {w : World} {A : Option Addr} {ps : List (List UInt8)} (h : RdS w A ps) (k : Nat) : RdS w A (ps.take k) := fun h0 => by
  rw [List.length_take] at h0
  obtain ⟨g, e, hc⟩ := h (by omega)
  refine ⟨g, e, fun j hj => ?_⟩
  rw [List.length_take] at hj
  rw [List.getElem_take]
  exact hc j (by omega)
theorem RdS.rdV {w : World} {A : Option Addr} {ps : List (List UInt8)} (h : RdS w A ps) : RdV w A ps.length (sv ps) :=
  ⟨sv_length ps, fun h0 => by
    obtain ⟨g, e, hc⟩ := h h0
    refine ⟨_, e, fun j v hv => ?_⟩
    have hj : j < ps.length := by
      have := (List.getElem?_eq_some_iff.1 hv).1
      rwa [sv_length] at this
    rw [sv_get hj] at hv
    rw [← hv, ← hc j hj]
    unfold Addr.add
    by_cases hj0 : j = 0
    · subst hj0; simp
    · simp [hj0]⟩

/-- A row of texts of the call's own. -/
theorem RdS.of_own {w : World} {base : Nat} {e : TypeId} {A : Option Addr} {n c : Nat} {ps : List (List UInt8)} (h : w.ownsRow base e 1 (.slice A n c) n (sv ps)) : RdS w A ps := fun h0 => by
  have hl := h.1
  rw [Nat.mul_one, sv_length] at hl
  rcases h.2 with ⟨e1, rfl⟩ | ⟨g, cap, cur, e1, _, hh, hnc, _, hs, ht⟩
  · omega
  · injection e1 with e1 e2 e3
    subst e1 e3
    refine ⟨g, rfl, fun j hj => ?_⟩
    simp only [World.cell?, hh]
    rw [Nat.mul_one] at ht
    have h2 : (cur.toList.take n)[j]? = some (.string (S ps[j])) := by rw [ht, sv_get hj]
    rw [List.getElem?_take, if_pos (by omega)] at h2
    simpa using h2
theorem own_below {w w' : World} {base : Nat} {e : TypeId} {v : Value} {n : Nat} {xs : List Value} (h : w.ownsRow base e 1 v n xs) (hb : Below w.heap.size w w') : w'.ownsRow base e 1 v n xs :=
  ⟨h.1, by
    rcases h.2 with h1 | ⟨g, cap, cur, e1, e2, hh, r⟩
    · exact .inl h1
    · have hg : g < w.heap.size := by
        rcases Nat.lt_or_ge g w.heap.size with h | h
        · exact h
        · rw [Array.getElem?_eq_none h] at hh; cases hh
      exact .inr ⟨g, cap, cur, e1, e2, (hb.block g hg).trans hh, r⟩⟩
theorem own_mono {w : World} {base base' : Nat} {e : TypeId} {v : Value} {n : Nat} {xs : List Value} (h : w.ownsRow base e 1 v n xs) (hb : base' ≤ base) : w.ownsRow base' e 1 v n xs :=
  ⟨h.1, by
    rcases h.2 with h1 | ⟨g, cap, cur, e1, e2, r⟩
    · exact .inl h1
    · exact .inr ⟨g, cap, cur, e1, by omega, r⟩⟩

theorem cut_yes (t : List UInt8) (w : World) : Calls Tryz.prog 85 #[.string (S (47 :: t)), .string ⟨#[47]⟩] w fun e w' => e = .returned (.tuple #[.string (S t), .bool true]) ∧ w' = w := by
  refine (Tryz.strings_CutPrefix (S (47 :: t)) ⟨#[47]⟩ w).mono ?_
  rintro e w' ⟨rfl, rfl⟩
  refine ⟨?_, rfl⟩
  have h1 : Lib.hasPrefix (S (47 :: t)).data.toList [47] = true := by simp [S, Lib.hasPrefix]
  have h2 : Lib.trimPrefix (S (47 :: t)).data.toList [47] = t := by
    unfold Lib.trimPrefix
    rw [if_pos h1]
    simp [S]
  show Ending.returned (Value.tuple #[.string ⟨(Lib.trimPrefix (S (47 :: t)).data.toList [47]).toArray⟩, .bool (Lib.hasPrefix (S (47 :: t)).data.toList [47])]) = _
  rw [h1, h2]
  rfl
theorem cut_no (l : List UInt8) (w : World) (h : ∀ t, l ≠ 47 :: t) : Calls Tryz.prog 85 #[.string (S l), .string ⟨#[47]⟩] w fun e w' => e = .returned (.tuple #[.string (S l), .bool false]) ∧ w' = w := by
  refine (Tryz.strings_CutPrefix (S l) ⟨#[47]⟩ w).mono ?_
  rintro e w' ⟨rfl, rfl⟩
  refine ⟨?_, rfl⟩
  have h0 : (S l).data.toList = l := by simp [S]
  have h1 : Lib.hasPrefix l [47] = false := by
    cases l with
    | nil => rfl
    | cons b t =>
      have hb : ¬ (47 : UInt8) = b := fun e => h t (by rw [e])
      show ((47 : UInt8) == b && [].isPrefixOf t) = false
      rw [beq_eq_false_iff_ne.2 hb]
      rfl
  have h2 : Lib.trimPrefix l [47] = l := by
    unfold Lib.trimPrefix
    rw [h1]
    rfl
  show Ending.returned (Value.tuple #[.string ⟨(Lib.trimPrefix (S l).data.toList [47]).toArray⟩, .bool (Lib.hasPrefix (S l).data.toList [47])]) = _
  rw [h0, h1, h2]
  rfl
theorem index_any (x : ByteArray) (w : World) : Calls Tryz.prog 121 #[.string x, .string ⟨#[47]⟩] w fun e w' => e = .returned (.int .i64 (Lib.indexB x ⟨#[47]⟩)) ∧ w' = w := by
  refine (Tryz.strings_Index_one x 47 w).mono ?_
  rintro e w' ⟨rfl, rfl⟩
  refine ⟨?_, rfl⟩
  rw [← Lib.index_one]
theorem count_any (x : ByteArray) (w : World) : Calls Tryz.prog 120 #[.string x, .string ⟨#[47]⟩] w fun e w' => e = .returned (.int .i64 (Lib.countB x ⟨#[47]⟩)) ∧ w' = w := by
  refine (Tryz.strings_Count_one x 47 w).mono ?_
  rintro e w' ⟨rfl, rfl⟩
  refine ⟨?_, rfl⟩
  show _ = Ending.returned (Value.int .i64 ((Lib.count x.data.toList [47] : Nat) : Int))
  rw [Lib.count_one]
  rfl
theorem info_text' : (Tryz.prog.info? 9).map (fun i => (i.zero, i.size, i.bytes)) = some (some (.string ByteArray.empty), 1, 16) := by kernel_rfl
theorem genSplit_any (s : ByteArray) (w : World) (h : s.size ≤ 1000000) : Calls Tryz.prog 106 #[.string s, .string ⟨#[47]⟩, .int .i64 0, .int .i64 (-1)] w fun e w' =>
    e = .returned (.slice (some ⟨w.heap.size, 0, none⟩) (Lib.splitB ⟨#[47]⟩ 0 (Lib.countB s ⟨#[47]⟩) s).length (Lib.countB s ⟨#[47]⟩ + 1)) ∧ w' = w.alloc (.cells (Lib.cellsOf (Lib.splitB ⟨#[47]⟩ 0 (Lib.countB s ⟨#[47]⟩) s) (Lib.countB s ⟨#[47]⟩ + 1)) 9) := by
  have hle := Lib.countB_le ⟨#[47]⟩ (Nat.le_refl _) s.size s (Nat.le_refl _)
  exact Any.strings_genSplit_core Tryz.lays221 info_text' s ⟨#[47]⟩ 0 (-1) (Lib.countB s ⟨#[47]⟩ + 1) w (by omega) (Nat.le_refl _) (Nat.zero_le _) (fun x c _ => index_any x _) (count_any s w) (by decide) (by decide) (by rw [if_pos (by decide)]; omega)
set_option maxRecDepth 8000 in
theorem strSplit_any (t : List UInt8) (w : World) (h : t.length ≤ 1000000) : Calls Tryz.prog 86 #[.string (S t), .string ⟨#[47]⟩] w fun e w' => e = .returned (.slice (some ⟨w.heap.size, 0, none⟩) (segs t).length (segs t).length) ∧ Below w.heap.size w w' ∧ w'.ownsRow w.heap.size 9 1 (.slice (some ⟨w.heap.size, 0, none⟩) (segs t).length (segs t).length) (segs t).length (sv (segs t)) := by
  have c := genSplit_any (S t) w (by rw [S_size]; exact h)
  have e1 : Lib.splitB ⟨#[47]⟩ 0 (Lib.countB (S t) ⟨#[47]⟩) (S t) = (segs t).map S := splitB_segs t
  have e2 : Lib.countB (S t) ⟨#[47]⟩ + 1 = (segs t).length := countB_segs t
  have e3 : Lib.cellsOf ((segs t).map S) (segs t).length = (sv (segs t)).toArray := by
    have := Lib.cellsOf_full ((segs t).map S)
    rw [List.length_map] at this
    rw [this, List.map_map]
    rfl
  have hlen : (segs t).length ≤ 1000001 := by
    have h1 := ofL_length (segs t)
    have h2 := flat_segs t
    unfold ofL at h1
    rw [if_neg (segs_ne t), h2] at h1
    simp at h1
    omega
  rw [e1, e2, e3, List.length_map] at c
  have HO : Hid ((w.alloc (.cells (sv (segs t)).toArray 9)).ownsRow w.heap.size 9 1 (.slice (some ⟨w.heap.size, 0, none⟩) (segs t).length (segs t).length) (segs t).length (sv (segs t))) := by
    refine ⟨by rw [sv_length, Nat.mul_one], .inr ⟨w.heap.size, (segs t).length, (sv (segs t)).toArray, rfl, Nat.le_refl _, by show (w.heap.push _)[w.heap.size]? = _; simp, Nat.le_refl _, by unfold maxLen; omega, by simp [sv_length], ?_⟩⟩
    rw [Nat.mul_one, ← sv_length]
    simp
  have HB := Lib.hid ((Below.refl w.heap.size w).alloc (Nat.le_refl _) (.cells (sv (segs t)).toArray 9))
  clear e1 e2 e3 hlen
  generalize (segs t).length = n at *
  generalize (sv (segs t)) = vs at *
  generalize S t = s at *
  go_enter Tryz.func86, Tryz.ntmps86
  go_wp2_with fail
  refine c.mono ?_
  rintro e w' ⟨rfl, hw⟩
  have HW := Lib.hid hw
  clear hw c
  go_wp2_with fail
  go_ret
  rw [HW.out]
  exact ⟨rfl, HB.out, HO.out⟩
theorem map_data (ps : List (List UInt8)) : (ps.map S).map (·.data.toList) = ps := by
  rw [List.map_map]
  conv => rhs; rw [← List.map_id ps]
  apply List.map_congr_left
  intro x _
  simp [S]
theorem strJoin_any (A : Option Addr) (c : Nat) (ps : List (List UInt8)) (w : World) (h : RdS w A ps) (hc : ps.length ≤ c) (hN : ps.length ≤ 1000) (hl : (Lib.join ps [47]).length ≤ 1000000000) : Calls Tryz.prog 124 #[.slice A (ps.length : Nat) c, .string ⟨#[47]⟩] w fun e w' => e = .returned (.string (S (Lib.join ps [47]))) ∧ Below w.heap.size w w' := by
  by_cases h0 : ps = []
  · subst h0
    refine (Tryz.strings_Join_none A c ⟨#[47]⟩ w).mono ?_
    rintro e w' ⟨rfl, rfl⟩
    exact ⟨rfl, Below.refl _ _⟩
  · have hpos : 0 < ps.length := List.length_pos_iff.2 h0
    obtain ⟨g, rfl, hcs⟩ := h hpos
    have hg : g < w.heap.size := World.block_lt_of_cell? w _ (hcs 0 hpos)
    have hm := map_data ps
    have cj := Tryz.strings_Join g 0 c (ps.map S) ⟨#[47]⟩ w (by
      intro j x hx
      rw [List.getElem?_map] at hx
      have hj : j < ps.length := by
        rcases Nat.lt_or_ge j ps.length with h | h
        · exact h
        · rw [List.getElem?_eq_none h] at hx; cases hx
      rw [List.getElem?_eq_getElem hj] at hx
      injection hx with hx
      rw [← hx, Nat.zero_add]
      exact hcs j hj) hg (by rw [List.length_map]; omega) (by rw [List.length_map]; omega) (by
      rw [hm]
      exact Nat.le_trans hl (by decide))
    rw [hm, List.length_map] at cj
    exact cj
theorem S_inj {a b : List UInt8} (h : S a = S b) : a = b := by
  have := congrArg (fun x : ByteArray => x.data.toList) h
  simpa [S] using this
theorem map_S_inj {ps qs : List (List UInt8)} : ps.map S = qs.map S ↔ ps = qs :=
  ⟨fun h => (List.map_inj_right fun _ _ h => S_inj h).1 h, fun h => by rw [h]⟩
theorem equal_any (A B : Option Addr) (n c d : Nat) (ps qs : List (List UInt8)) (w : World) (h1 : RdS w A ps) (h2 : RdS w B qs) (e1 : ps.length = n) (e2 : qs.length = n) (hn : n ≤ 1000) : Calls Tryz.prog 63 #[.slice A n c, .slice B n d] w fun e w' => e = .returned (.bool (decide (ps = qs))) ∧ Below w.heap.size w w' := by
  by_cases h0 : n = 0
  · subst h0
    obtain rfl := List.eq_nil_of_length_eq_zero e1
    obtain rfl := List.eq_nil_of_length_eq_zero e2
    refine (Tryz.slices_Equal_string_empty A B c 0 d w (by decide)).mono ?_
    rintro e w' ⟨rfl, rfl⟩
    exact ⟨rfl, Below.refl _ _⟩
  · obtain ⟨g1, rfl, hc1⟩ := h1 (by omega)
    obtain ⟨g2, rfl, hc2⟩ := h2 (by omega)
    have ce := Tryz.slices_Equal_string g1 0 n c g2 0 n d (ps.map S) (qs.map S) w (by rw [List.length_map]; omega) (by rw [List.length_map]; omega) (by omega) (by omega)
      (fun j hj => by
        rw [List.length_map] at hj
        rw [Nat.zero_add, List.getD_eq_getElem?_getD, List.getElem?_map, List.getElem?_eq_getElem hj]
        exact hc1 j hj)
      (fun j hj => by
        rw [List.length_map] at hj
        rw [Nat.zero_add, List.getD_eq_getElem?_getD, List.getElem?_map, List.getElem?_eq_getElem hj]
        exact hc2 j hj)
    refine ce.mono ?_
    rintro e w' ⟨rfl, k, rfl⟩
    refine ⟨?_, below_drewN (Below.refl _ _) k⟩
    rw [List.take_of_length_le (by rw [List.length_map]; omega), List.take_of_length_le (by rw [List.length_map]; omega)]
    rw [decide_eq_decide.2 map_S_inj]
end Go.Proofs.YtplbckibogmicaaGreatDoor.Path
