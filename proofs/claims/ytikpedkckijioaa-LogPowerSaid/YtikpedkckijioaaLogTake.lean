/- How a log takes the records out of its part's leaves. -/
import Derived.Test.YtikpedkckijioaaLogCalls
namespace Go.Proofs.Ytikpedkckijioaa.Log
open Go.RowKit Disk

theorem headS_headP (ps : Pages) : headS (leafF (pg ps 0)) = (headP ps).getD 0 ∧ ∀ s, headP ps = some s → 0 < s ∧ s < 18446744073709551616 := by
  unfold headP headS
  cases h : says (pg ps 0) with
  | none =>
    rw [leafF_none h]
    exact ⟨rfl, fun s hs => by cases hs⟩
  | some x =>
    obtain ⟨s, a, o, b⟩ := x
    rw [leafF_some h]
    have hb := says_bounds h
    dsimp only
    by_cases hc : a = 0 ∧ o = 0 ∧ b = []
    · rw [if_pos hc, if_pos hc]
      exact ⟨rfl, fun s' hs => by injection hs with hs; omega⟩
    · rw [if_neg hc, if_neg hc]
      exact ⟨rfl, fun s hs => by cases hs⟩
theorem recs_sits {ps : Pages} {h l e : Nat} {bs : List (List UInt8)} (hh : headP ps = some h) (hr : Run ps h 1 bs l e) (hn : rec1 ps l e = none) : Recs ps = (true, bs, e) := by
  unfold Recs
  rw [hh]
  dsimp only
  rw [recs_of hr hn (by omega)]
theorem recs_headless {ps : Pages} (hh : headP ps = none) : Recs ps = (false, [], 1) := by
  unfold Recs
  rw [hh]
/-- The block of a log's struct holds no bytes. -/
theorem log_nobyte (gd : Nat) (f n : Int) (hd : Bool) (R : Option Addr) (k c : Nat) (e t : Int) (m : Bool) : ∀ (i : Nat) (y : UInt8), (#[.pointer (some ⟨gd, 0, none⟩), .int .i64 f, .int .i64 n, .bool hd, .slice R k c, .int .i64 e, .int .u64 t, .bool m] : Array Value)[i]? ≠ some (U y) := by
  intro i y h
  have n64 : ∀ (z : Int) (b : UInt8), Value.int .u64 z ≠ U b := fun z b h => by unfold U at h; injection h with h; cases h
  have i64 : ∀ (z : Int) (b : UInt8), Value.int .i64 z ≠ U b := fun z b h => by unfold U at h; injection h with h; cases h
  match i with
  | 0 => simp at h; cases h
  | 1 => simp at h; exact i64 _ _ h
  | 2 => simp at h; exact i64 _ _ h
  | 3 => simp at h; cases h
  | 4 => simp at h; cases h
  | 5 => simp at h; exact i64 _ _ h
  | 6 => simp at h; exact n64 _ _ h
  | 7 => simp at h; cases h
  | i + 8 => simp at h
theorem LvS.out {W W' : World} {B o n g : Nat} {fs : List Lf} (h : LvS W B o n fs) (ho : Out (· = g) W W') (hB : B ≠ g) (hg : ∃ t cs, Bk W g t cs ∧ ∀ (i : Nat) (y : UInt8), cs[i]? ≠ some (U y)) : LvS W' B o n fs :=
  ⟨h.len, fun j f hj => by
    obtain ⟨A, m, c, h0, h1, c0, c1, c2, c3⟩ := h.at_ j f hj
    have k := fun (i : Nat) (v : Value) (hc : W.cell? ⟨B, i, none⟩ = some v) => (ho.cell (World.block_lt_of_cell? W _ hc) hB).trans hc
    exact ⟨A, m, c, h0, rd_out h1 ho (fun b hb => by subst hb; exact hg), k _ _ c0, k _ _ c1, k _ _ c2, k _ _ c3⟩⟩
theorem LgAt.nobyte {w : World} {Y : Nat → Prop} {g gd : Nat} {f : Int} {n : Nat} {L : LK} (h : LgAt w Y g gd f n L) : ∃ t cs, Bk w g t cs ∧ ∀ (i : Nat) (y : UInt8), cs[i]? ≠ some (U y) := by
  obtain ⟨R, c, vs, h⟩ := h
  exact ⟨_, _, h.bk, log_nobyte _ _ _ _ _ _ _ _ _ _⟩
theorem LgAt.headTo {w : World} {Y : Nat → Prop} {g gd : Nat} {f : Int} {n : Nat} {L : LK} (h : LgAt w Y g gd f n L) (hd : Bool) (e : Nat) : LgAt ((w.setCell ⟨g, 3, none⟩ (.bool hd)).setCell ⟨g, 5, none⟩ (.int .i64 (e : Int))) Y g gd f n { L with head := hd, end_ := e } := by
  obtain ⟨R, c, vs, h⟩ := h
  exact ⟨R, c, vs, (h.set (L' := { L with head := hd }) 3 (.bool hd) rfl (by simp)).set (L' := { L with head := hd, end_ := e }) 5 _ rfl (by simp)⟩
def RelTake (w : World) (g gd : Nat) (f : Int) (n t : Nat) (ps : Pages) (h0 : Nat) (v : Value) (wr : World) : Prop :=
  ∃ (bs : List (List UInt8)) (l e : Nat) (Y : Nat → Prop), v = .int .u64 (l : Int) ∧ Run ps h0 1 bs l e ∧ LgAt wr Y g gd f n ⟨true, bs, e, t, false⟩ ∧ Out (· = g) w wr ∧ (∀ k, Y k → k = g ∨ w.heap.size ≤ k) ∧ bs.length ≤ e
def TakePost (w : World) (g gd : Nat) (f : Int) (n t : Nat) (ps : Pages) (x : Ending) (w' : World) : Prop :=
  x = .returned (.tuple #[]) ∧ ∃ Y, LgAt w' Y g gd f n ⟨(Recs ps).1, (Recs ps).2.1, (Recs ps).2.2, t, false⟩ ∧ Out (· = g) w w' ∧ ∀ k, Y k → k = g ∨ w.heap.size ≤ k
set_option maxRecDepth 100000 in
set_option maxHeartbeats 4000000 in
theorem take_any {w : World} {g gd : Nat} {f : Int} {n t B o c : Nat} {ps : Pages} (h : LgAt w (· = g) g gd f n ⟨false, [], 0, t, false⟩) (hl : LvS w B o n (ps.map leafF)) (hB : B ≠ g) (hn : 2 ≤ n) (hn2 : n ≤ 5000) (hnc : n ≤ c) :
    Calls Try.prog 33 #[.pointer (some ⟨g, 0, none⟩), .slice (some ⟨B, o, none⟩) n c] w (TakePost w g gd f n t ps) := by
  have hps : ps.length = n := by have := hl.len; rwa [List.length_map] at this
  obtain ⟨hh1, hh2⟩ := headS_headP ps
  have hget0 : (ps.map leafF)[0]? = some (leafF (pg ps 0)) := by
    unfold pg
    rw [List.getElem?_map, List.getD_eq_getElem?_getD, List.getElem?_eq_getElem (by omega)]
    rfl
  obtain ⟨A0, m0, c0, hle0, hr0, x0, x1, x2, x3⟩ := hl.at_ 0 _ hget0
  rw [Nat.zero_mul, Nat.add_zero] at x0 x1 x2 x3
  have hbd := leafF_bounds (pg ps 0)
  have HCH := Lib.hid (headStamp_any (leafF (pg ps 0)).1 (leafF (pg ps 0)).2.1 (leafF (pg ps 0)).2.2.1 m0 c0 A0 (leafF (pg ps 0)).2.2.2 w hr0.len hbd.1 hbd.2.1 hbd.2.2.1 (by have := hr0.len; have := hbd.2.2.2; omega))
  have e0 : headS ((leafF (pg ps 0)).1, (leafF (pg ps 0)).2.1, (leafF (pg ps 0)).2.2.1, (leafF (pg ps 0)).2.2.2) = (headP ps).getD 0 := hh1
  rw [e0] at HCH
  have H := Lib.hid h
  have HL := Lib.hid hl
  have HH := Lib.hid hh2
  have HPS := Lib.hid hps
  have HBG := Lib.hid hB
  clear h hl hh1 hh2 hget0 hle0 hr0 e0 hbd hps hB
  generalize (leafF (pg ps 0)).1 = s0 at *
  generalize (leafF (pg ps 0)).2.1 = a0 at *
  generalize (leafF (pg ps 0)).2.2.1 = o0 at *
  go_enter Try.func33, Try.ntmps33
  go_wp2_with fail
  refine HCH.out.mono ?_
  rintro e w1 ⟨rfl, hb1⟩
  have H1 := Lib.hid (H.out.below hb1)
  have HL1 := Lib.hid (HL.out.below hb1)
  have HO1 : Hid (Out (· = g) w w1) := Out.of_below hb1
  obtain ⟨-, -, -, k3, k5, -, -, fr⟩ := H1.out.cell5
  have f3 := fr 3
  have f5 := fr 5
  have k5' : ∀ b : Value, (w1.setCell ⟨g, 3, none⟩ b).cell? ⟨g, 5, none⟩ = some (.int .i64 0) := fun b => by
    rw [World.cell?_setCell_other _ _ _ _ (by simp)]
    exact k5
  have HH0 := HH.out
  clear fr hb1 HCH x0 x1 x2 x3
  cases hp : headP ps with
  | none =>
    have HR := Lib.hid (recs_headless hp)
    have HFIN := Lib.hid (H1.out.headTo false 1)
    have HOF : Hid (Out (· = g) w ((w1.setCell ⟨g, 3, none⟩ (.bool false)).setCell ⟨g, 5, none⟩ (.int .i64 1))) := (HO1.out.trans (out_one (Y := (· = g)) rfl) (fun k hk => .inl hk)).trans (out_one (Y := (· = g)) rfl) (fun k hk => .inl hk)
    have z : ((none : Option Nat).getD 0 : Int) = 0 := rfl
    rw [Option.getD_none]
    go_wp2_with fail
    go_loopw [4] (fun v wr => v = .int .u64 0 ∧ wr = ((w1.setCell ⟨g, 3, none⟩ (.bool false)).setCell ⟨g, 5, none⟩ (.int .i64 1))) (fun _ _ => 1)
    case atStart => exact ⟨rfl, rfl⟩
    case round =>
      obtain ⟨rfl, rfl⟩ := hrel
      go_wp2_with fail
      go_end0
      refine ⟨rfl, _, ?_, HOF.out, fun k hk => .inl hk⟩
      rw [HR.out]
      exact HFIN.out
  | some h0 =>
    obtain ⟨hpos, hlt⟩ := HH0 h0 hp
    have HPOS := Lib.hid hpos
    have HHP := Lib.hid hp
    have HFIN := Lib.hid (H1.out.headTo true 1)
    have HOF : Hid (Out (· = g) w ((w1.setCell ⟨g, 3, none⟩ (.bool true)).setCell ⟨g, 5, none⟩ (.int .i64 1))) := (HO1.out.trans (out_one (Y := (· = g)) rfl) (fun k hk => .inl hk)).trans (out_one (Y := (· = g)) rfl) (fun k hk => .inl hk)
    have q1 : decide ((0 : Int) < (h0 : Int)) = true := decide_eq_true (by omega)
    rw [Option.getD_some]
    clear hp HH0 HH
    go_wp2_with fail
    go_loopw [4] (fun v wr => RelTake w g gd f n t ps h0 v wr) (fun v _ => 18446744073709551616 - (intOf v).toNat)
    case atStart => exact ⟨[], h0, 1, (· = g), rfl, .nil _ _, HFIN.out, HOF.out, fun k hk => .inl hk, by simp⟩
    case round =>
      obtain ⟨bs, l, e, Y, rfl, hrun, hlg, ho, hY, hbe⟩ := hrel
      have hrl := hrun.le
      have hlpos : 0 < l := by have := hrl.2.1; have := HPOS.out; omega
      have hen : e ≤ n := by have := hrl.2.2 (by rw [HPS.out]; omega); rw [HPS.out] at this; exact this
      have h1e := hrl.1
      have hlv := HL.out.out ho HBG.out H.out.nobyte
      obtain ⟨-, -, -, -, j5, -, -, -⟩ := hlg.cell5
      have HLV := Lib.hid hlv
      have HRUN := Lib.hid hrun
      have HLG := Lib.hid hlg
      have HO := Lib.hid ho
      have HY := Lib.hid hY
      have HBE := Lib.hid hbe
      have p1 : decide ((0 : Int) < (l : Int)) = true := decide_eq_true (by omega)
      clear hrl hlv hrun hlg ho hY hbe k3 k5 f3 f5 k5' q1
      have HNONE : Hid (rec1 ps l e = none → ∀ w', Below wr.heap.size wr w' → TakePost w g gd f n t ps (.returned (.tuple #[])) w') := fun hnone w' hb' => by
        refine ⟨rfl, Y, ?_, HO.out.trans (Out.of_below hb') (fun k hk => .inl hk), HY.out⟩
        rw [recs_sits HHP.out HRUN.out hnone]
        exact HLG.out.below hb'
      by_cases hlt2 : e < n
      · have HLD : Hid (LvS wr B (o + e * 4) (n - e) ((ps.drop e).map leafF)) := by
          have := HLV.out.drop e hen
          rwa [← List.map_drop] at this
        have HCF := Lib.hid (first_any B (o + e * 4) (n - e) (c - e) l e ps wr HLD.out (by omega) (by omega) (by omega) (by rw [HPS.out]; omega))
        have g1 : ((n - e : Nat) : Int) = (n : Int) - (e : Int) := by omega
        have g2 : ((c - e : Nat) : Int) = (c : Int) - (e : Int) := by omega
        have g3 : ¬ (c = e) := by omega
        have g4 : (e : Int) ≤ (n : Int) := by omega
        have g5 : (n : Int) ≤ (c : Int) := by omega
        have g6 : e ≤ n := hen
        have g7 : ¬ (c - e = 0) := by omega
        go_wp2_with fail
        refine HCF.out.mono ?_
        rintro x w2 ⟨hb2, hx⟩
        have HB2 := Lib.hid hb2
        clear hb2 g1 g2 g3 g4 g5 g6 g7
        cases hrec : rec1 ps l e with
        | none =>
          rw [hrec] at hx
          have hx : x = .returned (.slice none 0 0) := hx
          subst hx
          have HT := Lib.hid (HNONE.out hrec w2 HB2.out)
          clear hrec
          go_wp2_with fail
          go_end0
          exact HT.out
        | some y =>
          obtain ⟨s, m, b⟩ := y
          rw [hrec] at hx
          have hx : x = .returned (.slice (some ⟨B, o + e * 4, none⟩) m (c - e)) := hx
          subst hx
          obtain ⟨r1, r2, r3, r4, r5, r6⟩ := rec1_leaf hrec
          have hbd := leafF_bounds (pg ps e)
          have hget : ((ps.drop e).map leafF)[0]? = some (leafF (pg ps e)) := by
            unfold pg
            rw [List.getElem?_map, List.getElem?_drop, Nat.add_zero, List.getD_eq_getElem?_getD, List.getElem?_eq_getElem (by rw [HPS.out]; omega)]
            rfl
          have hmn : m ≤ n - e := by rw [HPS.out] at r3; omega
          have HLT := Lib.hid ((HLD.out.below HB2.out).take m hmn)
          obtain ⟨A2, m2, c2, _, _, y0, -, -, -⟩ := (HLD.out.below HB2.out).at_ 0 _ hget
          rw [r4, Nat.zero_mul, Nat.add_zero] at y0
          have HBT : Hid ((((ps.drop e).map leafF).take m).map (·.2.2.2) = (List.range m).map fun j => (leafF (pg ps (e + j))).2.2.2) := by
            refine List.ext_getElem? fun j => ?_
            rw [List.getElem?_map, List.getElem?_map]
            by_cases hj : j < m
            · rw [List.getElem?_take_of_lt hj, List.getElem?_map, List.getElem?_drop, List.getElem?_eq_getElem (by rw [HPS.out]; omega), List.getElem?_range hj]
              unfold pg
              rw [Option.map_some, Option.map_some, Option.map_some, List.getD_eq_getElem?_getD, List.getElem?_eq_getElem (by rw [HPS.out]; omega)]
              rfl
            · rw [List.getElem?_eq_none (by rw [List.length_take]; omega), List.getElem?_eq_none (by rw [List.length_range]; omega)]
              rfl
          have HB4 : Hid (((List.range m).map fun j => (leafF (pg ps (e + j))).2.2.2).flatten = b) := by
            have h1 := (rec1_some hrec).2.2.2.1
            have h2 := leaves_of (ps := ps) (s := s) (m := m) (by omega) m e 0 fun j hj => by
              have := r6 j hj
              exact ⟨this.1, by omega, this.2.2⟩
            rw [h1] at h2
            injection h2 with h2
            exact h2.symm
          have HCT := Lib.hid (textOf_any B (o + e * 4) m (c - e) (((ps.drop e).map leafF).take m) w2 HLT.out (fun f hf => by
            have := List.mem_of_mem_take hf
            obtain ⟨p, _, rfl⟩ := List.mem_map.1 this
            exact (leafF_bounds p).2.2.2) (by omega))
          rw [HBT.out, HB4.out] at HCT
          have HRN := Lib.hid (HRUN.out.snoc hrec)
          have hs64 : s < 18446744073709551616 := by have := hbd.1; omega
          have HS64 := Lib.hid hs64
          have HR1 := Lib.hid r1
          have HMN := Lib.hid hmn
          have HM1 := Lib.hid r2
          have HLG2 := Lib.hid (HLG.out.below HB2.out)
          have HO2 : Hid (Out (· = g) w w2) := HO.out.trans (Out.of_below HB2.out) (fun k hk => .inl hk)
          have m1 : ¬ ((m : Int) = 0) := by omega
          have m2' : (0 : Int) < (m : Int) := by omega
          have m3 : 0 < m := r2
          clear hrec hget r3 r4 r5 r6 hbd hmn HBT HB4 HLT HCF HNONE j5
          go_wp2_with fail
          refine HCT.out.mono ?_
          rintro e3 w3 ⟨A3, n3, c3, rfl, hn3, hc3, hown3, hb3⟩
          have HN3 := Lib.hid hn3
          clear hn3
          have HLG3 := Lib.hid (HLG2.out.below hb3)
          have HO3 : Hid (Out (· = g) w w3) := HO2.out.trans (Out.of_below hb3) (fun k hk => .inl hk)
          have hA : ∀ a, A3 = some a → ¬ Y a.block ∧ a.block < w3.heap.size := fun a ha => by
            have := hown3.lt a.block (by rw [ha]; rfl)
            exact ⟨fun hY => by have := HLG2.out.lt _ hY; omega, this.2⟩
          have HCK := Lib.hid (keep_any HLG3.out A3 n3 c3 b (Rd.of_own hown3).1 hc3 hA m (by dsimp only; have := HMN.out; omega) (by dsimp only; have := HBE.out; omega))
          have HAA : Hid (∀ a, A3 = some a → w2.heap.size ≤ a.block) := fun a ha => (hown3.lt a.block (by rw [ha]; rfl)).1
          clear hown3 hb3 hA hc3
          go_wp2_with fail
          refine HCK.out.mono ?_
          rintro e4 w4 ⟨rfl, Y4, hlg4, ho4, hY4⟩
          have HLG4 := Lib.hid hlg4
          have HO4 : Hid (Out (· = g) w w4) := HO3.out.trans ho4 (fun k hk => HY.out k hk)
          have HY4 : Hid (∀ k, Y4 k → k = g ∨ w.heap.size ≤ k) := fun k hk => by
            rcases hY4 k hk with h | h | ⟨a, ha, rfl⟩
            · exact HY.out k h
            · exact .inr (Nat.le_trans HO3.out.size h)
            · exact .inr (Nat.le_trans HO2.out.size (HAA.out a ha))
          have HBE4 : Hid ((bs ++ [b]).length ≤ e + m) := by have := HBE.out; have := HM1.out; show _ ≤ _; rw [List.length_append, List.length_singleton]; omega
          clear hlg4 ho4 hY4
          go_wp2_with fail
          refine ⟨⟨bs ++ [b], s, e + m, Y4, rfl, HRN.out, HLG4.out, HO4.out, HY4.out, HBE4.out⟩, ?_⟩
          have := HS64.out
          have := HR1.out
          simp [intOf]
          omega
      · obtain rfl : e = n := by omega
        have HN1 := Lib.hid (HNONE.out (rec1_out (k := 0) (going_zero _ _ _) (by rw [HPS.out]; omega)) wr (Below.refl _ _))
        have hsub : ∀ (A : Option Addr) (c' : Nat), Calls Try.prog 56 #[.slice A 0 c', .int .u64 (l : Int)] wr (Ans (.slice none 0 0) wr) := fun A c' => first_zero A c' l wr
        have HSUB := Lib.hid hsub
        have g5 : (e : Int) ≤ (c : Int) := by omega
        have g6 : e - e = 0 := Nat.sub_self e
        clear hsub
        go_wp2_with fail
        all_goals
          refine (HSUB.out _ _).mono ?_
          rintro x _ ⟨rfl, rfl⟩
          go_wp2_with fail
          go_end0
          exact HN1.out
end Go.Proofs.Ytikpedkckijioaa.Log
