/- DiskRow: any acts: each answer; behind each all pages, how long the row is, whether it is dead. For every input the call returns true, and each argument reads afterwards as it read before. No conditions. -/
import Derived.Test.YtjfoihbcieffdaaRDiskTold
import Derived.Test.YtjfoihbcieffdaaRPhaseStages
namespace Go.Proofs.YtjfoihbcieffdaaR.diskRow
open Go.ChangeShapes Go.WideShapes Go.ChangeAt Go.RowKit Disk
open PhaseG (wp_region_stagesF guardsB)
open Phase (reachB stepsL_cons stepsL_nil)

/-- The document's disk r stands as the disk d. -/
structure Sim (d r : DK) : Prop where
  pages : r.pages = d.pages
  row : r.row = d.row
  dead : r.dead = d.dead
  left : r.left = d.left ∨ (r.left < 0 ∧ d.left < 0)
theorem Sim.refl (d : DK) : Sim d d := ⟨rfl, rfl, rfl, .inl rfl⟩
theorem Sim.at_ {d r : DK} (h : Sim d r) (k : Int) : r.faultAt k = d.faultAt k := by
  unfold DK.faultAt
  rw [h.pages, h.dead]
theorem Sim.seen {d r : DK} (h : Sim d r) (k : Nat) : r.seen k = d.seen k := by
  unfold DK.seen
  rw [h.pages, h.row]
theorem Sim.burn {d r : DK} (h : Sim d r) : r.burn.1 = d.burn.1 ∧ Sim d.burn.2 r.burn.2 := by
  unfold DK.burn
  rcases h.left with h1 | ⟨h1, h2⟩
  · rw [h1]
    split
    · exact ⟨rfl, h.pages, h.row, rfl, .inl rfl⟩
    · split
      · exact ⟨rfl, h.pages, h.row, h.dead, .inl rfl⟩
      · exact ⟨rfl, h⟩
  · rw [if_neg (by omega), if_neg (by omega), if_neg (by omega), if_neg (by omega)]
    exact ⟨rfl, h⟩
theorem Sim.write {d r : DK} (h : Sim d r) (k : Int) (b : List UInt8) : (r.write k b).1 = (d.write k b).1 ∧ Sim (d.write k b).2 (r.write k b).2 := by
  obtain ⟨h1, h2⟩ := h.burn
  unfold DK.write
  rw [h.at_, h1]
  split
  · exact ⟨rfl, h⟩
  · split
    · exact ⟨rfl, h⟩
    · split
      · exact ⟨h1, h2⟩
      · exact ⟨rfl, h2.pages, by show r.burn.2.row ++ _ = d.burn.2.row ++ _; rw [h2.row], h2.dead, h2.left⟩
theorem Sim.sync {d r : DK} (h : Sim d r) : r.sync.1 = d.sync.1 ∧ Sim d.sync.2 r.sync.2 := by
  obtain ⟨h1, h2⟩ := h.burn
  unfold DK.sync
  rw [h.dead, h1]
  split
  · exact ⟨rfl, h⟩
  · split
    · exact ⟨h1, h2⟩
    · exact ⟨rfl, by show lay _ _ r.pages r.row = lay _ _ d.pages d.row; rw [h.pages, h.row], rfl, h2.dead, h2.left⟩
theorem Sim.fuse {d r : DK} (h : Sim d r) (n : Int) : Sim (d.fuse n) (r.rfuse n) := by
  unfold DK.fuse DK.rfuse
  rw [h.dead]
  split
  · exact h
  · refine ⟨h.pages, h.row, rfl, ?_⟩
    show max n (-1) = n ∨ (max n (-1) < 0 ∧ n < 0)
    omega
theorem Sim.act {d r : DK} (h : Sim d r) (a : Act1) : (r.ract a).1 = (d.act a).1 ∧ Sim (d.act a).2 (r.ract a).2 := by
  unfold DK.act DK.ract
  split
  · exact h.write _ _
  · split
    · exact h.sync
    · split
      · exact ⟨rfl, h.fuse _⟩
      · split
        · exact ⟨rfl, h.pages, h.row, rfl, h.left⟩
        · split
          · exact ⟨rfl, by show lay _ _ r.pages r.row = lay _ _ d.pages d.row; rw [h.pages, h.row], rfl, rfl, .inl rfl⟩
          · exact h.write _ _
theorem write_row (d : DK) (k : Int) (b : List UInt8) : (d.write k b).2.row.length ≤ d.row.length + 1 := by
  unfold DK.write
  split
  · exact Nat.le_succ _
  · split
    · exact Nat.le_succ _
    · split
      · rw [burn_row]; exact Nat.le_succ _
      · show (d.burn.2.row ++ _).length ≤ _
        rw [burn_row]
        simp
theorem act_row (d : DK) (a : Act1) : (d.act a).2.row.length ≤ d.row.length + 1 := by
  unfold DK.act
  split
  · exact write_row _ _ _
  · split
    · unfold DK.sync
      split
      · exact Nat.le_succ _
      · split
        · rw [burn_row]; exact Nat.le_succ _
        · exact Nat.zero_le _
    · split
      · unfold DK.fuse; split <;> exact Nat.le_succ _
      · split
        · exact Nat.le_succ _
        · split
          · exact Nat.zero_le _
          · exact write_row _ _ _
theorem act_pages (d : DK) (a : Act1) : (d.act a).2.pages.length = d.pages.length := by
  unfold DK.act
  split
  · rw [write_pages]
  · split
    · unfold DK.sync
      split
      · rfl
      · split
        · rw [burn_pages]
        · exact lay_length _ _ _ _
    · split
      · unfold DK.fuse; split <;> rfl
      · split
        · rfl
        · split
          · exact lay_length _ _ _ _
          · rw [write_pages]

/-- What the operations yield, where acts are done to both. -/
def vals (gd gr b o n c m : Nat) (act : Value) (zA : Int) (dd : Bool) (L : Nat) (A' : Option Addr) (c' : Nat) : Nat → Value
  | 0 => .pointer (some ⟨gd, 0, none⟩)
  | 1 => .slice (some ⟨b, o, none⟩) n c
  | 2 => .int .i64 (m : Int)
  | 3 => .pointer (some ⟨b, o + m * 5, none⟩)
  | 4 => act
  | 5 => .int .i64 zA
  | 6 => .pointer (some ⟨gr, 0, none⟩)
  | 7 => .slice (some ⟨b, o, none⟩) n c
  | 8 => .int .i64 (m : Int)
  | 9 => .pointer (some ⟨b, o + m * 5, none⟩)
  | 10 => act
  | 11 => .int .i64 zA
  | 12 => .bool false
  | 13 => .bool false
  | 14 => .pointer (some ⟨gd, 0, none⟩)
  | 15 => .bool dd
  | 16 => .pointer (some ⟨gr, 0, none⟩)
  | 17 => .pointer (some ⟨gr, 0, none⟩)
  | 18 => .pointer (some ⟨gr, 3, none⟩)
  | 19 => .bool dd
  | 20 => .bool false
  | 21 => .bool false
  | 22 => .bool false
  | 23 => .pointer (some ⟨gd, 0, none⟩)
  | 24 => .int .i64 (L : Int)
  | 25 => .pointer (some ⟨gr, 0, none⟩)
  | 26 => .pointer (some ⟨gr, 0, none⟩)
  | 27 => .pointer (some ⟨gr, 1, none⟩)
  | 28 => (.slice A' L c')
  | 29 => .int .i64 (L : Int)
  | 30 => .bool false
  | 31 => .bool false
  | _ => undef
def PhR (w : World) (gd gr b o n c m : Nat) (act : Value) (zA : Int) (dd : Bool) (L : Nat) (X Y : Nat → Prop) (d r d' r' : DK) (s : Nat) (v : Nat → Value) (W : World) : Prop :=
  ∃ A' c', v = vals gd gr b o n c m act zA dd L A' c' ∧ match s with
  | 0 => St w W X gd d ∧ RSt w W Y gr r
  | 1 => ∃ X', St w W X' gd d' ∧ RSt w W Y gr r ∧ ∀ k, X' k → ¬ Y k
  | _ => ∃ X' Y' p cp, St w W X' gd d' ∧ RAt W Y' gr p cp A' c' r' ∧ Below w.heap.size w W ∧ (∀ k, Y' k → w.heap.size ≤ k) ∧ ∀ k, X' k → ¬ Y' k
theorem PhR.vals {w : World} {gd gr b o n c m : Nat} {act : Value} {zA : Int} {dd : Bool} {L : Nat} {X Y : Nat → Prop} {d r d' r' : DK} {s : Nat} {v : Nat → Value} {W : World} (h : PhR w gd gr b o n c m act zA dd L X Y d r d' r' s v W) : ∃ A' c', v = vals gd gr b o n c m act zA dd L A' c' := by
  obtain ⟨A', c', h, _⟩ := h
  exact ⟨A', c', h⟩
theorem PhR.below {w : World} {gd gr b o n c m : Nat} {act : Value} {zA : Int} {dd : Bool} {L : Nat} {X Y : Nat → Prop} {d r d' r' : DK} {s : Nat} {v : Nat → Value} {W : World} (h : PhR w gd gr b o n c m act zA dd L X Y d r d' r' s v W) : Below w.heap.size w W := by
  obtain ⟨A', c', _, h⟩ := h
  match s, h with
  | 0, h => exact h.1.below
  | 1, h => obtain ⟨_, h, _⟩ := h; exact h.below
  | _ + 2, h => obtain ⟨_, _, _, _, _, _, h, _⟩ := h; exact h

def RelO (w : World) (n p gd gr : Nat) (i : Value) (wr : World) : Prop :=
  ∃ (m : Nat) (X Y : Nat → Prop) (d r : DK), m ≤ n ∧ i = .int .i64 (m : Int) ∧ St w wr X gd d ∧ RSt w wr Y gr r ∧ (∀ k, X k → ¬ Y k) ∧ Sim d r ∧ d.row.length ≤ m ∧ d.pages.length = p
def RelI (w : World) (p gd gr : Nat) (X Y : Nat → Prop) (d r : DK) (i : Value) (wr : World) : Prop :=
  ∃ q : Nat, q ≤ p + 2 ∧ i = .int .i64 ((q : Int) - 1) ∧ St w wr X gd d ∧ RSt w wr Y gr r
set_option maxRecDepth 100000 in
set_option maxHeartbeats 8000000 in
theorem walk (p0 : Int) (A : Option Addr) (n c : Nat) (xs : List Act1) (w : World) (h : ActS w A n xs) (hc : n ≤ maxLen) :
    Calls Try.prog 3 #[.int .i64 p0, .slice A n c] w fun e w' => e = .returned (.bool true) ∧ Below w.heap.size w w' := by
  have cm := many_any xs A n c w h hc
  have HA := Lib.hid h
  have hl := h.len
  clear h hc
  have wk : ∀ w1, Below w.heap.size w w1 → Calls Try.prog 9 #[] w1 fun e w' => e = .returned (.bool true) ∧ Below w.heap.size w w' := fun w1 hb => (wakes_any w1).mono fun e w' ⟨h1, h2⟩ => ⟨h1, hb.trans (h2.mono hb.size)⟩
  have WK := Lib.hid wk
  clear wk
  by_cases hbig : bigB xs = true
  · go_enter Try.func3, Try.ntmps3
    go_wp2_with fail
    refine cm.mono ?_
    rintro e w1 ⟨z, rfl, hzz, rfl⟩
    have hz0 : 0 < z := hzz.1 hbig
    clear cm hbig hzz
    go_wp2_with fail
    refine (WK.out _ (Below.refl _ _)).mono ?_
    rintro e w1 ⟨rfl, hb⟩
    have HB := Lib.hid hb
    clear hb
    go_wp2_with fail
    go_ret
    exact ⟨rfl, HB.out⟩
  · have hb2 : bigB xs = false := by simpa using hbig
    have HNB := Lib.hid (bigB_no hb2)
    by_cases hp : 10 < p0 ∧ p0 ≤ 4096
    · obtain ⟨hp1, hp2⟩ := hp
      go_enter Try.func3, Try.ntmps3
      go_wp2_with fail
      refine cm.mono ?_
      rintro e w1 ⟨z, rfl, hzz, rfl⟩
      have hz0 : ¬ 0 < z := fun hh => hbig (hzz.2 hh)
      clear cm hbig hzz hb2
      go_wp2_with fail
      refine (WK.out _ (Below.refl _ _)).mono ?_
      rintro e w1 ⟨rfl, hb⟩
      have HB := Lib.hid hb
      clear hb
      go_wp2_with fail
      go_ret
      exact ⟨rfl, HB.out⟩
    · by_cases hout : p0 < 1 ∨ 4096 < p0
      · have hnn := Lib.hid (new_no p0 w hout)
        clear hp
        by_cases hlo : p0 < 1
        · have hle : ¬ 10 < p0 := by omega
          clear hout
          go_enter Try.func3, Try.ntmps3
          go_wp2_with fail
          refine cm.mono ?_
          rintro e w1 ⟨z, rfl, hzz, rfl⟩
          have hz0 : ¬ 0 < z := fun hh => hbig (hzz.2 hh)
          clear cm hbig hzz hb2
          go_wp2_with fail
          refine hnn.out.mono ?_
          rintro e w1 ⟨rfl, rfl⟩
          go_wp2_with fail
          refine (WK.out _ (Below.refl _ _)).mono ?_
          rintro e w1 ⟨rfl, hb⟩
          have HB := Lib.hid hb
          clear hb
          go_wp2_with fail
          go_ret
          exact ⟨rfl, HB.out⟩
        · have hhi : 4096 < p0 := hout.resolve_left hlo
          have hle : ¬ p0 ≤ 4096 := by omega
          have h10 : 10 < p0 := by omega
          clear hout
          go_enter Try.func3, Try.ntmps3
          go_wp2_with fail
          refine cm.mono ?_
          rintro e w1 ⟨z, rfl, hzz, rfl⟩
          have hz0 : ¬ 0 < z := fun hh => hbig (hzz.2 hh)
          clear cm hbig hzz hb2
          go_wp2_with fail
          refine hnn.out.mono ?_
          rintro e w1 ⟨rfl, rfl⟩
          go_wp2_with fail
          refine (WK.out _ (Below.refl _ _)).mono ?_
          rintro e w1 ⟨rfl, hb⟩
          have HB := Lib.hid hb
          clear hb
          go_wp2_with fail
          go_ret
          exact ⟨rfl, HB.out⟩
      · obtain ⟨p, rfl⟩ : ∃ p : Nat, p0 = (p : Int) := ⟨p0.toNat, by omega⟩
        have hp1 : 1 ≤ p := by omega
        have hp10 : p ≤ 10 := by omega
        clear hp hout
        go_enter Try.func3, Try.ntmps3
        go_wp2_with fail
        refine cm.mono ?_
        rintro e w1 ⟨z, rfl, hzz, rfl⟩
        have hz0 : ¬ 0 < z := fun hh => hbig (hzz.2 hh)
        clear cm hbig hzz hb2
        have hn80 : n ≤ 80 := by rw [← hl]; exact HNB.out.1
        go_wp2_with fail
        refine (new_st p w w hp1 (by omega) (Below.refl _ _)).mono ?_
        rintro e w1 ⟨gd, X1, rfl, hs, -, -⟩
        have HS := Lib.hid hs
        have HSZ : Hid ((DK.new p).pages.length = p) := List.length_replicate
        clear hs
        go_wp2_with fail
        refine (rnew_any p w1 hp1 (by omega)).mono ?_
        rintro e w2 ⟨gr, Y1, rfl, hr, hy, hb⟩
        have HR : Hid (RSt w w2 Y1 gr (DK.new p)) := ⟨hr, HS.out.below.trans (hb.mono HS.out.below.size), fun k hk => Nat.le_trans HS.out.below.size (hy k hk)⟩
        have HS2 := Lib.hid (HS.out.below_ hb)
        have HXY : Hid (∀ k, X1 k → ¬ Y1 k) := fun k h1 h2 => by
          have := HS.out.at_.lt k h1
          have := hy k h2
          omega
        clear hr hy hb HS
        go_wp2_with fail
        have cw := size_any HS2.out.at_
        rw [HSZ.out] at cw
        refine cw.mono ?_
        clear cw
        rintro e w3 ⟨rfl, rfl⟩
        go_wp2_with fail
        go_loopw [8] (fun i wr => RelO w n p gd gr i wr) (fun i _ => n - (intOf i).toNat)
        case atStart => exact ⟨0, X1, Y1, _, _, Nat.zero_le _, rfl, HS2.out, HR.out, HXY.out, Sim.refl _, Nat.le_refl _, HSZ.out⟩
        case round =>
          obtain ⟨m, X, Y, d, r, hm, rfl, hst, hrt, hxy, hsim, hrow, hpg⟩ := hrel
          have HSm := Lib.hid hst
          have HRm := Lib.hid hrt
          have HXYm := Lib.hid hxy
          have HSim := Lib.hid hsim
          have HRW := Lib.hid hrow
          have HPG := Lib.hid hpg
          clear hst hrt hxy hsim hrow hpg
          by_cases hlt : m < n
          · have hmx : m < xs.length := by omega
            obtain ⟨b, o, B1, m1, c1, rfl, hft, hm1, hoka, hcw⟩ := HA.out.cells m hmx
            have hf60 := HNB.out.2 xs[m] (List.getElem_mem hmx)
            have hfl := hft.len
            have HFT := Lib.hid hft
            have HOKA := Lib.hid hoka
            have HM1 : Hid (m1 ≤ 1000000) := by show _ ≤ _; omega
            have HB1 : Hid (∀ X : Nat → Prop, (∀ k, X k → w.heap.size ≤ k) → 0 < m1 → ∀ p, B1 = some p → ¬ X p.block) := fun X hX hm0 p hp hXp => by
              obtain ⟨a', ha', hl'⟩ := HFT.out.lt hm0
              rw [hp] at ha'
              injection ha' with ha'
              subst ha'
              have := hX _ hXp
              omega
            have HCELLS : Hid (∀ W, Below w.heap.size w W → W.cell? ⟨b, o + m * 5, none⟩ = some (.int .u8 (xs[m].do_ : Int)) ∧ W.cell? ⟨b, o + m * 5 + 1, none⟩ = some (.int .i64 xs[m].at_) ∧ W.cell? ⟨b, o + m * 5 + 2, none⟩ = some (U xs[m].b) ∧ W.cell? ⟨b, o + m * 5 + 3, none⟩ = some (U xs[m].step) ∧ W.cell? ⟨b, o + m * 5 + 4, none⟩ = some (.slice B1 m1 c1)) := fun W hW => by
              have hcell := fun i v hv => (hW.cell (World.block_lt_of_cell? w _ (hcw i v hv))).trans (hcw i v hv)
              exact ⟨hcell 0 _ rfl, hcell 1 _ rfl, hcell 2 _ rfl, hcell 3 _ rfl, hcell 4 _ rfl⟩
            clear hft hm1 hoka hcw hf60 hfl
            generalize xs[m] = ac at *
            have HRB : Hid (d.row.length ≤ 1000000) := by show _ ≤ _; have := HRW.out; omega
            have HRBr : Hid (r.row.length ≤ 1000000) := by show _ ≤ _; rw [HSim.out.row]; exact HRB.out
            have HSA := Lib.hid (HSim.out.act ac)
            have HAR := Lib.hid (act_row d ac)
            have HAP := Lib.hid (act_pages d ac)
            obtain ⟨act, hact⟩ : ∃ act : Value, act = .agg (actC ac (.slice B1 m1 c1)).toArray := ⟨_, rfl⟩
            have HACT := Lib.hid hact
            obtain ⟨zA, hzA⟩ : ∃ zA, zA = (d.act ac).1 := ⟨_, rfl⟩
            have HZ := Lib.hid hzA
            have HZr : Hid ((r.ract ac).1 = zA) := by show _ = _; rw [hzA]; exact HSA.out.1
            have HSA2 := Lib.hid HSA.out.2
            have hxr := does_any HSm.out ac B1 m1 c1 HOKA.out (HFT.out.below HSm.out.below) (HB1.out _ HSm.out.own) HM1.out HRB.out
            clear hxr
            generalize hd' : (d.act ac).2 = d' at *
            generalize hr' : (r.ract ac).2 = r' at *
            obtain ⟨dd, hdd⟩ : ∃ dd, dd = d'.dead := ⟨_, rfl⟩
            have HDD : Hid (d'.dead = dd) := hdd.symm
            have HDDr : Hid (r'.dead = dd) := by show _ = _; rw [hdd]; exact HSA2.out.dead
            obtain ⟨L, hL⟩ : ∃ L, L = d'.row.length := ⟨_, rfl⟩
            have HLL : Hid (d'.row.length = L) := hL.symm
            have HLLr : Hid (r'.row.length = L) := by show _ = _; rw [hL, HSA2.out.row]
            have HD' := Lib.hid hd'
            have HR' := Lib.hid hr'
            have HMN : Hid (m < n) := hlt
            clear hzA hdd hL hd' hr' hact HSA
            go_wp2_with fail
            have HS0 : Hid (St w { wr with drawn := wr.drawn + 1 } X gd d) := HSm.out.below_ (Below.refl _ _).drew
            have HR0 : Hid (RSt w { wr with drawn := wr.drawn + 1 } Y gr r) := HRm.out.below_ (Below.refl _ _).drew
            refine wp_region_stagesF (vals gd gr b o n c m act zA dd L none 0) [5, 11] (PhR w gd gr b o n c m act zA dd L X Y d r d' r') 34 (by kernel_rfl) (by kernel_rfl) (fun s v W hp => ?_) ⟨none, 0, rfl, HS0.out, HR0.out⟩ (fun k y hk => ?_) (fun k y z' hy hz => ?_) ?_ (fun v => { tmps := #[Value.int IntKind.i64 (p : Int), .slice (some ⟨b, o, none⟩) n c, undef, undef, u4, Value.pointer (some { block := gd, off := 0 }), Value.int IntKind.i64 0, Value.pointer (some { block := gr, off := 0 }), Value.int IntKind.i64 (m : Int), u9, u10, u11, u12, u13, .slice (some ⟨b, o, none⟩) n c, Value.int IntKind.i64 z, Value.bool (decide (0 < z)), Value.bool (decide (0 < z)), Value.int IntKind.i64 (p : Int), Value.bool false, Value.bool false, undef, undef, Value.bool false, Value.bool (decide (0 < z)), undef, Value.tuple #[Value.pointer (some { block := gd, off := 0 }), Value.int IntKind.i64 0], Value.int IntKind.i64 (p : Int), Value.tuple #[Value.pointer (some { block := gd, off := 0 }), Value.int IntKind.i64 0], Value.pointer (some { block := gd, off := 0 }), Value.int IntKind.i64 0, Value.int IntKind.i64 (p : Int), Value.bool (decide ((p : Int) < 1)), Value.bool (decide ((p : Int) < 1)), Value.int IntKind.i64 (p : Int), Value.bool (decide (4096 < (p : Int))), Value.bool (decide ((p : Int) < 1) || decide (4096 < (p : Int))), undef, undef, undef, undef, undef, undef, undef, undef, undef, Value.int IntKind.i64 (p : Int), Value.pointer (some { block := gr, off := 0 }), Value.pointer (some { block := gd, off := 0 }), Value.bool false, Value.bool false, Value.int IntKind.i64 0, Value.bool false, Value.bool false, Value.bool false, Value.pointer (some { block := gd, off := 0 }), Value.int IntKind.i64 (p : Int), Value.int IntKind.i64 (p : Int), Value.bool false, Value.bool false, Value.int IntKind.i64 (m : Int), .slice (some ⟨b, o, none⟩) n c, Value.int IntKind.i64 (n : Int), Value.bool true, u64, u65, v 0, v 1, v 2, v 3, v 4, v 5, v 6, v 7, v 8, v 9, v 10, v 11, v 12, v 13, v 14, v 15, v 16, v 17, v 18, v 19, v 20, v 21, v 22, v 23, v 24, v 25, v 26, v 27, v 28, v 29, v 30, v 31, u98, u99, u100, u101, u102, u103, u104, u105, u106, u107, u108, u109, u110, u111, u112, u113, u114, u115, u116, u117, u118, u119, u120, u121, u122, u123, undef], defers := [] }) (fun v => by kernel_rfl) ?_
            · obtain ⟨A', c', rfl⟩ := hp.vals
              kernel_rfl
            · match k, hk with
              | 0, hk => injection hk with hk; subst hk; decide
              | 1, hk => injection hk with hk; subst hk; decide
              | _ + 2, hk => cases hk
            · match k, hy, hz with
              | 0, hy, hz => injection hy with hy; injection hz with hz; subst hy hz; show reachB _ _ _ _ = true; kernel_rfl
              | 1, _, hz => cases hz
              | _ + 2, hy, _ => cases hy
            · refine stepsL_cons ?_ (stepsL_cons ?_ (stepsL_cons ?_ (stepsL_cons ?_ (stepsL_cons ?_ (stepsL_cons ?_ (stepsL_cons ?_ (stepsL_cons ?_ (stepsL_cons ?_ (stepsL_cons ?_ (stepsL_cons ?_ (stepsL_cons ?_ (stepsL_cons ?_ (stepsL_cons ?_ (stepsL_cons ?_ (stepsL_cons ?_ (stepsL_cons ?_ (stepsL_cons ?_ (stepsL_cons ?_ (stepsL_cons ?_ (stepsL_cons ?_ (stepsL_cons ?_ (stepsL_cons ?_ (stepsL_cons ?_ (stepsL_cons ?_ (stepsL_cons ?_ (stepsL_cons ?_ (stepsL_cons ?_ (stepsL_cons ?_ (stepsL_cons ?_ (stepsL_cons ?_ (stepsL_cons ?_ (stepsL_nil))))))))))))))))))))))))))))))))
              · intro a s v W hs hd hp h1 h2 h3 K hK
                obtain ⟨A', c', rfl⟩ := hp.vals
                have k5 : a.tmps.getD 5 undef = .pointer (some ⟨gd, 0, none⟩) := hd.kept 5 (by kernel_rfl)
                have hno : ∀ k : Nat, ([5, 11] : List Nat)[k]? ≠ some 0 := fun k hk => by
                  match k, hk with
                  | 0, hk => cases hk
                  | 1, hk => cases hk
                  | _ + 2, hk => cases hk
                have hk := hK s _ W (fun _ => rfl) (fun k hk => absurd hk (hno k)) (fun k hk => absurd rfl hk) hp
                clear hK hp
                unfold Oper.wp
                go_simp
                exact hk
              · intro a s v W hs hd hp h1 h2 h3 K hK
                obtain ⟨A', c', rfl⟩ := hp.vals
                have k1 : a.tmps.getD 1 undef = .slice (some ⟨b, o, none⟩) n c := hd.kept 1 (by kernel_rfl)
                have hno : ∀ k : Nat, ([5, 11] : List Nat)[k]? ≠ some 1 := fun k hk => by
                  match k, hk with
                  | 0, hk => cases hk
                  | 1, hk => cases hk
                  | _ + 2, hk => cases hk
                have hk := hK s _ W (fun _ => rfl) (fun k hk => absurd hk (hno k)) (fun k hk => absurd rfl hk) hp
                clear hK hp
                unfold Oper.wp
                go_simp
                exact hk
              · intro a s v W hs hd hp h1 h2 h3 K hK
                obtain ⟨A', c', rfl⟩ := hp.vals
                have k8 : a.tmps.getD 8 undef = .int .i64 (m : Int) := hd.kept 8 (by kernel_rfl)
                have hno : ∀ k : Nat, ([5, 11] : List Nat)[k]? ≠ some 2 := fun k hk => by
                  match k, hk with
                  | 0, hk => cases hk
                  | 1, hk => cases hk
                  | _ + 2, hk => cases hk
                have hk := hK s _ W (fun _ => rfl) (fun k hk => absurd hk (hno k)) (fun k hk => absurd rfl hk) hp
                clear hK hp
                unfold Oper.wp
                go_simp
                exact hk
              · intro a s v W hs hd hp h1 h2 h3 K hK
                obtain ⟨A', c', rfl⟩ := hp.vals
                have h67 : a.tmps.getD 67 undef = .slice (some ⟨b, o, none⟩) n c := hd.done_ 1 _ 67 (by kernel_rfl) rfl rfl
                have h68 : a.tmps.getD 68 undef = .int .i64 (m : Int) := hd.done_ 2 _ 68 (by kernel_rfl) rfl rfl
                have hno : ∀ k : Nat, ([5, 11] : List Nat)[k]? ≠ some 3 := fun k hk => by
                  match k, hk with
                  | 0, hk => cases hk
                  | 1, hk => cases hk
                  | _ + 2, hk => cases hk
                have hk := hK s _ W (fun _ => rfl) (fun k hk => absurd hk (hno k)) (fun k hk => absurd rfl hk) hp
                clear hK hp
                have v1 := HMN.out
                have v2 : (m : Int) < (n : Int) := by omega
                unfold Oper.wp
                go_simp
                exact hk
              · intro a s v W hs hd hp h1 h2 h3 K hK
                obtain ⟨A', c', rfl⟩ := hp.vals
                have h69 : a.tmps.getD 69 undef = .pointer (some ⟨b, o + m * 5, none⟩) := hd.done_ 3 _ 69 (by kernel_rfl) rfl rfl
                have hno : ∀ k : Nat, ([5, 11] : List Nat)[k]? ≠ some 4 := fun k hk => by
                  match k, hk with
                  | 0, hk => cases hk
                  | 1, hk => cases hk
                  | _ + 2, hk => cases hk
                have hcs := HCELLS.out W hp.below
                obtain ⟨e0, e1, e2, e3, e4⟩ := hcs
                have hk := hK s _ W (fun _ => rfl) (fun k hk => absurd hk (hno k)) (fun k hk => absurd rfl hk) hp
                clear hK hp
                have hae := HACT.out
                subst hae
                unfold Oper.wp
                go_simp
                exact hk
              · intro a s v W hs hd hp h1 h2 h3 K hK
                obtain rfl := h1 0 rfl
                obtain ⟨A', c', rfl, hst, hrt⟩ := hp
                have h66 : a.tmps.getD 66 undef = .pointer (some ⟨gd, 0, none⟩) := hd.done_ 0 _ 66 (by kernel_rfl) rfl rfl
                have h70 : a.tmps.getD 70 undef = act := hd.done_ 4 _ 70 (by kernel_rfl) rfl rfl
                have cw := does_any hst ac B1 m1 c1 HOKA.out (HFT.out.below hst.below) (HB1.out _ hst.own) HM1.out HRB.out
                rw [← HACT.out, ← HZ.out, HD'.out] at cw
                have hsr := Lib.hid hrt
                have hdis := HXYm.out
                have hXl := hst.at_.lt
                unfold Oper.wp
                go_simp
                refine cw.mono ?_
                rintro e W' ⟨rfl, X', hs', ho', hx'⟩
                refine hK 1 _ W' (fun h => absurd rfl (h 0)) (fun k hk => by have := h1 k hk; omega) (fun k hk => absurd rfl hk) ⟨A', c', rfl, X', hs', ⟨hsr.out.at_.out ho' (fun k hk hX => hdis k hX hk), hs'.below, hsr.out.own⟩, fun k hk hY => ?_⟩
                rcases hx' k hk with h | h
                · exact hdis k h hY
                · have := hsr.out.at_.lt k hY
                  omega
              · intro a s v W hs hd hp h1 h2 h3 K hK
                obtain ⟨A', c', rfl⟩ := hp.vals
                have k7 : a.tmps.getD 7 undef = .pointer (some ⟨gr, 0, none⟩) := hd.kept 7 (by kernel_rfl)
                have hno : ∀ k : Nat, ([5, 11] : List Nat)[k]? ≠ some 6 := fun k hk => by
                  match k, hk with
                  | 0, hk => cases hk
                  | 1, hk => cases hk
                  | _ + 2, hk => cases hk
                have hk := hK s _ W (fun _ => rfl) (fun k hk => absurd hk (hno k)) (fun k hk => absurd rfl hk) hp
                clear hK hp
                unfold Oper.wp
                go_simp
                exact hk
              · intro a s v W hs hd hp h1 h2 h3 K hK
                obtain ⟨A', c', rfl⟩ := hp.vals
                have k1 : a.tmps.getD 1 undef = .slice (some ⟨b, o, none⟩) n c := hd.kept 1 (by kernel_rfl)
                have hno : ∀ k : Nat, ([5, 11] : List Nat)[k]? ≠ some 7 := fun k hk => by
                  match k, hk with
                  | 0, hk => cases hk
                  | 1, hk => cases hk
                  | _ + 2, hk => cases hk
                have hk := hK s _ W (fun _ => rfl) (fun k hk => absurd hk (hno k)) (fun k hk => absurd rfl hk) hp
                clear hK hp
                unfold Oper.wp
                go_simp
                exact hk
              · intro a s v W hs hd hp h1 h2 h3 K hK
                obtain ⟨A', c', rfl⟩ := hp.vals
                have k8 : a.tmps.getD 8 undef = .int .i64 (m : Int) := hd.kept 8 (by kernel_rfl)
                have hno : ∀ k : Nat, ([5, 11] : List Nat)[k]? ≠ some 8 := fun k hk => by
                  match k, hk with
                  | 0, hk => cases hk
                  | 1, hk => cases hk
                  | _ + 2, hk => cases hk
                have hk := hK s _ W (fun _ => rfl) (fun k hk => absurd hk (hno k)) (fun k hk => absurd rfl hk) hp
                clear hK hp
                unfold Oper.wp
                go_simp
                exact hk
              · intro a s v W hs hd hp h1 h2 h3 K hK
                obtain ⟨A', c', rfl⟩ := hp.vals
                have h73 : a.tmps.getD 73 undef = .slice (some ⟨b, o, none⟩) n c := hd.done_ 7 _ 73 (by kernel_rfl) rfl rfl
                have h74 : a.tmps.getD 74 undef = .int .i64 (m : Int) := hd.done_ 8 _ 74 (by kernel_rfl) rfl rfl
                have hno : ∀ k : Nat, ([5, 11] : List Nat)[k]? ≠ some 9 := fun k hk => by
                  match k, hk with
                  | 0, hk => cases hk
                  | 1, hk => cases hk
                  | _ + 2, hk => cases hk
                have hk := hK s _ W (fun _ => rfl) (fun k hk => absurd hk (hno k)) (fun k hk => absurd rfl hk) hp
                clear hK hp
                have v1 := HMN.out
                have v2 : (m : Int) < (n : Int) := by omega
                unfold Oper.wp
                go_simp
                exact hk
              · intro a s v W hs hd hp h1 h2 h3 K hK
                obtain ⟨A', c', rfl⟩ := hp.vals
                have h75 : a.tmps.getD 75 undef = .pointer (some ⟨b, o + m * 5, none⟩) := hd.done_ 9 _ 75 (by kernel_rfl) rfl rfl
                have hno : ∀ k : Nat, ([5, 11] : List Nat)[k]? ≠ some 10 := fun k hk => by
                  match k, hk with
                  | 0, hk => cases hk
                  | 1, hk => cases hk
                  | _ + 2, hk => cases hk
                have hcs := HCELLS.out W hp.below
                obtain ⟨e0, e1, e2, e3, e4⟩ := hcs
                have hk := hK s _ W (fun _ => rfl) (fun k hk => absurd hk (hno k)) (fun k hk => absurd rfl hk) hp
                clear hK hp
                have hae := HACT.out
                subst hae
                unfold Oper.wp
                go_simp
                exact hk
              · intro a s v W hs hd hp h1 h2 h3 K hK
                obtain rfl := h1 1 rfl
                obtain ⟨A', c', rfl, X', hst, hrt, hxy⟩ := hp
                have h72 : a.tmps.getD 72 undef = .pointer (some ⟨gr, 0, none⟩) := hd.done_ 6 _ 72 (by kernel_rfl) rfl rfl
                have h76 : a.tmps.getD 76 undef = act := hd.done_ 10 _ 76 (by kernel_rfl) rfl rfl
                have cw := told_any hrt ac B1 m1 c1 HOKA.out (HFT.out.below hrt.below) (HB1.out _ hrt.own) HM1.out HRBr.out
                rw [← HACT.out, HZr.out, HR'.out] at cw
                unfold Oper.wp
                go_simp
                refine cw.mono ?_
                rintro e W' ⟨rfl, Y', ⟨⟨p1, cp1, A2, c2, hat⟩, hbe, hown⟩, ho', hx'⟩
                have hvv : ∀ k, vals gd gr b o n c m act zA dd L A2 c2 k ≠ vals gd gr b o n c m act zA dd L A' c' k → k = 28 := fun k hk => by
                  refine Classical.byContradiction fun hn => hk ?_
                  unfold vals
                  split <;> first | rfl | exact absurd rfl hn
                refine hK 2 (vals gd gr b o n c m act zA dd L A2 c2) W' (fun h => absurd rfl (h 1)) (fun k hk => by have := h1 k hk; omega) (fun k hk => .inr (by rw [hvv k hk]; show reachB _ _ _ _ = true; kernel_rfl)) ⟨A2, c2, rfl, X', Y', p1, cp1, ⟨hst.at_.out ho' (fun k hk hY => hxy k hk hY), hbe, hst.own⟩, hat, hbe, hown, fun k hk hY => ?_⟩
                rcases hx' k hY with h | h
                · exact hxy k hk h
                · have := hst.at_.lt k hk
                  omega
              · intro a s v W hs hd hp h1 h2 h3 K hK
                obtain ⟨A', c', rfl⟩ := hp.vals
                have h71 : a.tmps.getD 71 undef = .int .i64 zA := hd.done_ 5 _ 71 (by kernel_rfl) rfl rfl
                have h77 : a.tmps.getD 77 undef = .int .i64 zA := hd.done_ 11 _ 77 (by kernel_rfl) rfl rfl
                have hno : ∀ k : Nat, ([5, 11] : List Nat)[k]? ≠ some 12 := fun k hk => by
                  match k, hk with
                  | 0, hk => cases hk
                  | 1, hk => cases hk
                  | _ + 2, hk => cases hk
                have hk := hK s _ W (fun _ => rfl) (fun k hk => absurd hk (hno k)) (fun k hk => absurd rfl hk) hp
                clear hK hp
                unfold Oper.wp
                go_simp
                exact hk
              · intro a s v W hs hd hp h1 h2 h3 K hK
                obtain ⟨A', c', rfl⟩ := hp.vals
                have h78 : a.tmps.getD 78 undef = .bool false := hd.done_ 12 _ 78 (by kernel_rfl) rfl rfl
                have hno : ∀ k : Nat, ([5, 11] : List Nat)[k]? ≠ some 13 := fun k hk => by
                  match k, hk with
                  | 0, hk => cases hk
                  | 1, hk => cases hk
                  | _ + 2, hk => cases hk
                have hk := hK s _ W (fun _ => rfl) (fun k hk => absurd hk (hno k)) (fun k hk => absurd rfl hk) hp
                clear hK hp
                unfold Oper.wp
                go_simp
                exact hk
              · intro a s v W hs hd hp h1 h2 h3 K hK
                obtain ⟨A', c', rfl⟩ := hp.vals
                have k5 : a.tmps.getD 5 undef = .pointer (some ⟨gd, 0, none⟩) := hd.kept 5 (by kernel_rfl)
                have hno : ∀ k : Nat, ([5, 11] : List Nat)[k]? ≠ some 14 := fun k hk => by
                  match k, hk with
                  | 0, hk => cases hk
                  | 1, hk => cases hk
                  | _ + 2, hk => cases hk
                have hk := hK s _ W (fun _ => rfl) (fun k hk => absurd hk (hno k)) (fun k hk => absurd rfl hk) hp
                clear hK hp
                unfold Oper.wp
                go_simp
                exact hk
              · intro a s v W hs hd hp h1 h2 h3 K hK
                have hs2 : s = 2 := by have := h3 1 11 rfl (by kernel_rfl); have hs' : s ≤ 2 := hs; omega
                subst hs2
                obtain ⟨A', c', rfl, X', Y', p1, cp1, hst, hrt, hbe, hown, hxy⟩ := hp
                have h80 : a.tmps.getD 80 undef = .pointer (some ⟨gd, 0, none⟩) := hd.done_ 14 _ 80 (by kernel_rfl) rfl rfl
                have hno : ∀ k : Nat, ([5, 11] : List Nat)[k]? ≠ some 15 := fun k hk => by
                  match k, hk with
                  | 0, hk => cases hk
                  | 1, hk => cases hk
                  | _ + 2, hk => cases hk
                have cw := dead_any hst.at_
                rw [HDD.out] at cw
                have hk := hK 2 _ W (fun _ => rfl) (fun k hk => absurd hk (hno k)) (fun k hk => absurd rfl hk) ⟨A', c', rfl, X', Y', p1, cp1, hst, hrt, hbe, hown, hxy⟩
                unfold Oper.wp
                go_simp
                refine cw.mono ?_
                rintro e W' ⟨rfl, rfl⟩
                exact hk
              · intro a s v W hs hd hp h1 h2 h3 K hK
                obtain ⟨A', c', rfl⟩ := hp.vals
                have k7 : a.tmps.getD 7 undef = .pointer (some ⟨gr, 0, none⟩) := hd.kept 7 (by kernel_rfl)
                have hno : ∀ k : Nat, ([5, 11] : List Nat)[k]? ≠ some 16 := fun k hk => by
                  match k, hk with
                  | 0, hk => cases hk
                  | 1, hk => cases hk
                  | _ + 2, hk => cases hk
                have hk := hK s _ W (fun _ => rfl) (fun k hk => absurd hk (hno k)) (fun k hk => absurd rfl hk) hp
                clear hK hp
                unfold Oper.wp
                go_simp
                exact hk
              · intro a s v W hs hd hp h1 h2 h3 K hK
                obtain ⟨A', c', rfl⟩ := hp.vals
                have h82 : a.tmps.getD 82 undef = .pointer (some ⟨gr, 0, none⟩) := hd.done_ 16 _ 82 (by kernel_rfl) rfl rfl
                have hno : ∀ k : Nat, ([5, 11] : List Nat)[k]? ≠ some 17 := fun k hk => by
                  match k, hk with
                  | 0, hk => cases hk
                  | 1, hk => cases hk
                  | _ + 2, hk => cases hk
                have hk := hK s _ W (fun _ => rfl) (fun k hk => absurd hk (hno k)) (fun k hk => absurd rfl hk) hp
                clear hK hp
                unfold Oper.wp
                go_simp
                exact hk
              · intro a s v W hs hd hp h1 h2 h3 K hK
                obtain ⟨A', c', rfl⟩ := hp.vals
                have h83 : a.tmps.getD 83 undef = .pointer (some ⟨gr, 0, none⟩) := hd.done_ 17 _ 83 (by kernel_rfl) rfl rfl
                have hno : ∀ k : Nat, ([5, 11] : List Nat)[k]? ≠ some 18 := fun k hk => by
                  match k, hk with
                  | 0, hk => cases hk
                  | 1, hk => cases hk
                  | _ + 2, hk => cases hk
                have hk := hK s _ W (fun _ => rfl) (fun k hk => absurd hk (hno k)) (fun k hk => absurd rfl hk) hp
                clear hK hp
                unfold Oper.wp
                go_simp
                exact hk
              · intro a s v W hs hd hp h1 h2 h3 K hK
                have hs2 : s = 2 := by have := h3 1 11 rfl (by kernel_rfl); have hs' : s ≤ 2 := hs; omega
                subst hs2
                obtain ⟨A', c', rfl, X', Y', p1, cp1, hst, hrt, hbe, hown, hxy⟩ := hp
                have h84 : a.tmps.getD 84 undef = .pointer (some ⟨gr, 3, none⟩) := hd.done_ 18 _ 84 (by kernel_rfl) rfl rfl
                have hno : ∀ k : Nat, ([5, 11] : List Nat)[k]? ≠ some 19 := fun k hk => by
                  match k, hk with
                  | 0, hk => cases hk
                  | 1, hk => cases hk
                  | _ + 2, hk => cases hk
                obtain ⟨-, -, -, q3, -⟩ := hrt.cells
                rw [HDDr.out] at q3
                have hk := hK 2 _ W (fun _ => rfl) (fun k hk => absurd hk (hno k)) (fun k hk => absurd rfl hk) ⟨A', c', rfl, X', Y', p1, cp1, hst, hrt, hbe, hown, hxy⟩
                clear hK hrt hst
                unfold Oper.wp
                go_simp
                exact hk
              · intro a s v W hs hd hp h1 h2 h3 K hK
                obtain ⟨A', c', rfl⟩ := hp.vals
                have h81 : a.tmps.getD 81 undef = .bool dd := hd.done_ 15 _ 81 (by kernel_rfl) rfl rfl
                have h85 : a.tmps.getD 85 undef = .bool dd := hd.done_ 19 _ 85 (by kernel_rfl) rfl rfl
                have hno : ∀ k : Nat, ([5, 11] : List Nat)[k]? ≠ some 20 := fun k hk => by
                  match k, hk with
                  | 0, hk => cases hk
                  | 1, hk => cases hk
                  | _ + 2, hk => cases hk
                have hk := hK s _ W (fun _ => rfl) (fun k hk => absurd hk (hno k)) (fun k hk => absurd rfl hk) hp
                clear hK hp
                cases dd
                all_goals
                  unfold Oper.wp
                  go_simp
                  exact hk
              · intro a s v W hs hd hp h1 h2 h3 K hK
                obtain ⟨A', c', rfl⟩ := hp.vals
                have h79 : a.tmps.getD 79 undef = .bool false := hd.done_ 13 _ 79 (by kernel_rfl) rfl rfl
                have h86 : a.tmps.getD 86 undef = .bool false := hd.done_ 20 _ 86 (by kernel_rfl) rfl rfl
                have hno : ∀ k : Nat, ([5, 11] : List Nat)[k]? ≠ some 21 := fun k hk => by
                  match k, hk with
                  | 0, hk => cases hk
                  | 1, hk => cases hk
                  | _ + 2, hk => cases hk
                have hk := hK s _ W (fun _ => rfl) (fun k hk => absurd hk (hno k)) (fun k hk => absurd rfl hk) hp
                clear hK hp
                unfold Oper.wp
                go_simp
                exact hk
              · intro a s v W hs hd hp h1 h2 h3 K hK
                obtain ⟨A', c', rfl⟩ := hp.vals
                have h87 : a.tmps.getD 87 undef = .bool false := hd.done_ 21 _ 87 (by kernel_rfl) rfl rfl
                have hno : ∀ k : Nat, ([5, 11] : List Nat)[k]? ≠ some 22 := fun k hk => by
                  match k, hk with
                  | 0, hk => cases hk
                  | 1, hk => cases hk
                  | _ + 2, hk => cases hk
                have hk := hK s _ W (fun _ => rfl) (fun k hk => absurd hk (hno k)) (fun k hk => absurd rfl hk) hp
                clear hK hp
                unfold Oper.wp
                go_simp
                exact hk
              · intro a s v W hs hd hp h1 h2 h3 K hK
                obtain ⟨A', c', rfl⟩ := hp.vals
                have k5 : a.tmps.getD 5 undef = .pointer (some ⟨gd, 0, none⟩) := hd.kept 5 (by kernel_rfl)
                have hno : ∀ k : Nat, ([5, 11] : List Nat)[k]? ≠ some 23 := fun k hk => by
                  match k, hk with
                  | 0, hk => cases hk
                  | 1, hk => cases hk
                  | _ + 2, hk => cases hk
                have hk := hK s _ W (fun _ => rfl) (fun k hk => absurd hk (hno k)) (fun k hk => absurd rfl hk) hp
                clear hK hp
                unfold Oper.wp
                go_simp
                exact hk
              · intro a s v W hs hd hp h1 h2 h3 K hK
                have hs2 : s = 2 := by have := h3 1 11 rfl (by kernel_rfl); have hs' : s ≤ 2 := hs; omega
                subst hs2
                obtain ⟨A', c', rfl, X', Y', p1, cp1, hst, hrt, hbe, hown, hxy⟩ := hp
                have h89 : a.tmps.getD 89 undef = .pointer (some ⟨gd, 0, none⟩) := hd.done_ 23 _ 89 (by kernel_rfl) rfl rfl
                have hno : ∀ k : Nat, ([5, 11] : List Nat)[k]? ≠ some 24 := fun k hk => by
                  match k, hk with
                  | 0, hk => cases hk
                  | 1, hk => cases hk
                  | _ + 2, hk => cases hk
                have cw := waiting_any hst.at_
                rw [HLL.out] at cw
                have hk := hK 2 _ W (fun _ => rfl) (fun k hk => absurd hk (hno k)) (fun k hk => absurd rfl hk) ⟨A', c', rfl, X', Y', p1, cp1, hst, hrt, hbe, hown, hxy⟩
                unfold Oper.wp
                go_simp
                refine cw.mono ?_
                rintro e W' ⟨rfl, rfl⟩
                exact hk
              · intro a s v W hs hd hp h1 h2 h3 K hK
                obtain ⟨A', c', rfl⟩ := hp.vals
                have k7 : a.tmps.getD 7 undef = .pointer (some ⟨gr, 0, none⟩) := hd.kept 7 (by kernel_rfl)
                have hno : ∀ k : Nat, ([5, 11] : List Nat)[k]? ≠ some 25 := fun k hk => by
                  match k, hk with
                  | 0, hk => cases hk
                  | 1, hk => cases hk
                  | _ + 2, hk => cases hk
                have hk := hK s _ W (fun _ => rfl) (fun k hk => absurd hk (hno k)) (fun k hk => absurd rfl hk) hp
                clear hK hp
                unfold Oper.wp
                go_simp
                exact hk
              · intro a s v W hs hd hp h1 h2 h3 K hK
                obtain ⟨A', c', rfl⟩ := hp.vals
                have h91 : a.tmps.getD 91 undef = .pointer (some ⟨gr, 0, none⟩) := hd.done_ 25 _ 91 (by kernel_rfl) rfl rfl
                have hno : ∀ k : Nat, ([5, 11] : List Nat)[k]? ≠ some 26 := fun k hk => by
                  match k, hk with
                  | 0, hk => cases hk
                  | 1, hk => cases hk
                  | _ + 2, hk => cases hk
                have hk := hK s _ W (fun _ => rfl) (fun k hk => absurd hk (hno k)) (fun k hk => absurd rfl hk) hp
                clear hK hp
                unfold Oper.wp
                go_simp
                exact hk
              · intro a s v W hs hd hp h1 h2 h3 K hK
                obtain ⟨A', c', rfl⟩ := hp.vals
                have h92 : a.tmps.getD 92 undef = .pointer (some ⟨gr, 0, none⟩) := hd.done_ 26 _ 92 (by kernel_rfl) rfl rfl
                have hno : ∀ k : Nat, ([5, 11] : List Nat)[k]? ≠ some 27 := fun k hk => by
                  match k, hk with
                  | 0, hk => cases hk
                  | 1, hk => cases hk
                  | _ + 2, hk => cases hk
                have hk := hK s _ W (fun _ => rfl) (fun k hk => absurd hk (hno k)) (fun k hk => absurd rfl hk) hp
                clear hK hp
                unfold Oper.wp
                go_simp
                exact hk
              · intro a s v W hs hd hp h1 h2 h3 K hK
                have hs2 : s = 2 := by have := h3 1 11 rfl (by kernel_rfl); have hs' : s ≤ 2 := hs; omega
                subst hs2
                obtain ⟨A', c', rfl, X', Y', p1, cp1, hst, hrt, hbe, hown, hxy⟩ := hp
                have h93 : a.tmps.getD 93 undef = .pointer (some ⟨gr, 1, none⟩) := hd.done_ 27 _ 93 (by kernel_rfl) rfl rfl
                have hno : ∀ k : Nat, ([5, 11] : List Nat)[k]? ≠ some 28 := fun k hk => by
                  match k, hk with
                  | 0, hk => cases hk
                  | 1, hk => cases hk
                  | _ + 2, hk => cases hk
                obtain ⟨-, q1, -, -, -⟩ := hrt.cells
                rw [HLLr.out] at q1
                have hk := hK 2 _ W (fun _ => rfl) (fun k hk => absurd hk (hno k)) (fun k hk => absurd rfl hk) ⟨A', c', rfl, X', Y', p1, cp1, hst, hrt, hbe, hown, hxy⟩
                clear hK hrt hst
                unfold Oper.wp
                go_simp
                exact hk
              · intro a s v W hs hd hp h1 h2 h3 K hK
                obtain ⟨A', c', rfl⟩ := hp.vals
                have h94 : a.tmps.getD 94 undef = (.slice A' L c') := hd.done_ 28 _ 94 (by kernel_rfl) rfl rfl
                have hno : ∀ k : Nat, ([5, 11] : List Nat)[k]? ≠ some 29 := fun k hk => by
                  match k, hk with
                  | 0, hk => cases hk
                  | 1, hk => cases hk
                  | _ + 2, hk => cases hk
                have hk := hK s _ W (fun _ => rfl) (fun k hk => absurd hk (hno k)) (fun k hk => absurd rfl hk) hp
                clear hK hp
                unfold Oper.wp
                go_simp
                exact hk
              · intro a s v W hs hd hp h1 h2 h3 K hK
                obtain ⟨A', c', rfl⟩ := hp.vals
                have h90 : a.tmps.getD 90 undef = .int .i64 (L : Int) := hd.done_ 24 _ 90 (by kernel_rfl) rfl rfl
                have h95 : a.tmps.getD 95 undef = .int .i64 (L : Int) := hd.done_ 29 _ 95 (by kernel_rfl) rfl rfl
                have hno : ∀ k : Nat, ([5, 11] : List Nat)[k]? ≠ some 30 := fun k hk => by
                  match k, hk with
                  | 0, hk => cases hk
                  | 1, hk => cases hk
                  | _ + 2, hk => cases hk
                have hk := hK s _ W (fun _ => rfl) (fun k hk => absurd hk (hno k)) (fun k hk => absurd rfl hk) hp
                clear hK hp
                unfold Oper.wp
                go_simp
                exact hk
              · intro a s v W hs hd hp h1 h2 h3 K hK
                obtain ⟨A', c', rfl⟩ := hp.vals
                have h88 : a.tmps.getD 88 undef = .bool false := hd.done_ 22 _ 88 (by kernel_rfl) rfl rfl
                have h96 : a.tmps.getD 96 undef = .bool false := hd.done_ 30 _ 96 (by kernel_rfl) rfl rfl
                have hno : ∀ k : Nat, ([5, 11] : List Nat)[k]? ≠ some 31 := fun k hk => by
                  match k, hk with
                  | 0, hk => cases hk
                  | 1, hk => cases hk
                  | _ + 2, hk => cases hk
                have hk := hK s _ W (fun _ => rfl) (fun k hk => absurd hk (hno k)) (fun k hk => absurd rfl hk) hp
                clear hK hp
                unfold Oper.wp
                go_simp
                exact hk
            · intro v W hp
              obtain ⟨A', c', rfl, X', Y', p1, cp1, hst, hrt, hbe, hown, hxy⟩ := hp
              have HS1 := Lib.hid hst
              have HR1 : Hid (RSt w W Y' gr r') := ⟨⟨p1, cp1, A', c', hrt⟩, hbe, hown⟩
              have HXY1 := Lib.hid hxy
              clear hst hrt hbe hown hxy
              dsimp only [vals]
              go_wp2_with fail
              have HPG1 : Hid (d'.pages.length = p) := by show _ = _; rw [HAP.out]; exact HPG.out
              have HRW1 : Hid (d'.row.length ≤ m + 1) := by show _ ≤ _; have := HAR.out; have := HRW.out; omega
              have HRB1 : Hid (d'.row.length ≤ 1000000) := by show _ ≤ _; have := HRW1.out; omega
              have HRB2 : Hid (r'.row.length ≤ 1000000) := by show _ ≤ _; rw [HSA2.out.row]; exact HRB1.out
              clear HCELLS HB1 HFT HOKA HM1 HSm HRm HXYm HSim HRW HPG HRB HRBr HAR HAP HACT HZ HZr HDD HDDr HLL HLLr HD' HR' HS0 HR0
              go_loopw [9] (fun i wr => RelI w p gd gr X' Y' d' r' i wr) (fun i _ => p + 2 - (intOf i + 1).toNat)
              case atStart => exact ⟨0, by omega, rfl, HS1.out, HR1.out⟩
              case round =>
                obtain ⟨q, hq, rfl, hst, hrt⟩ := hrel
                have HSq := Lib.hid hst
                have HRq := Lib.hid hrt
                clear hst hrt
                by_cases hqp : q ≤ p + 1
                · have hle : (q : Int) - 1 ≤ (p : Int) := by omega
                  obtain ⟨k, hk⟩ : ∃ k : Int, k = (q : Int) - 1 := ⟨_, rfl⟩
                  have w1 : wrap64 (k + 1) = k + 1 := IntWalk.wrap64_in _ (by omega)
                  rw [← hk] at hle ⊢
                  have HKQ := Lib.hid hk
                  clear hk
                  by_cases hf : d'.faultAt k = 0
                  · have hk0 := faultAt_zero hf
                    obtain ⟨kn, rfl⟩ : ∃ kn : Nat, k = (kn : Int) := ⟨k.toNat, by omega⟩
                    have HF := Lib.hid hf
                    have cd := read_st HSq.out kn hf HRB1.out
                    have hsl := HSq.out.at_.ok.seen (k := kn) (by have := hk0.2.2; omega)
                    generalize hP : d'.seen kn = P at *
                    have HP := Lib.hid hP
                    clear hk0 hf hP
                    go_wp2_with fail
                    refine cd.mono ?_
                    rintro e w5 ⟨h, rfl, hkb, -, hs5, hb5⟩
                    have HS5 := Lib.hid hs5
                    have HR5 := Lib.hid (HRq.out.below_ hb5)
                    have hcv := conv_string (page_rd hkb hsl) 512
                    clear hkb hs5 hb5 cd
                    go_wp2_with fail
                    have cr := rread_any HR5.out.at_ (kn : Int) HRB2.out
                    rw [HSA2.out.at_, if_pos HF.out, Int.toNat_natCast, HSA2.out.seen, HP.out] at cr
                    refine cr.mono ?_
                    rintro e w6 ⟨rfl, rfl⟩
                    clear cr
                    go_wp2_with fail
                    exact ⟨⟨q + 1, by omega, by congr 1; have := HKQ.out; omega, HS5.out, HR5.out⟩, by have := HKQ.out; simp [intOf]; omega⟩
                  · have cd := read_no HSq.out.at_ k hf
                    have HF := Lib.hid hf
                    clear hf
                    generalize hfa : d'.faultAt k = fa at *
                    have HFA := Lib.hid hfa
                    clear hfa
                    have hcv := conv_string (Rd.nil_ wr none) 0
                    have hS0 : S [] = ⟨#[]⟩ := rfl
                    rw [hS0] at hcv
                    clear hS0
                    go_wp2_with fail
                    refine cd.mono ?_
                    rintro e w5 ⟨rfl, rfl⟩
                    go_wp2_with fail
                    have cr := rread_any HRq.out.at_ k HRB2.out
                    rw [HSA2.out.at_, HFA.out, if_neg HF.out] at cr
                    refine cr.mono ?_
                    rintro e w6 ⟨rfl, rfl⟩
                    clear cr cd
                    go_wp2_with fail
                    exact ⟨⟨q + 1, by omega, by congr 1; have := HKQ.out; omega, HSq.out, HRq.out⟩, by have := HKQ.out; simp [intOf]; omega⟩
                · obtain rfl : q = p + 2 := by omega
                  have w1 : wrap64 ((m : Int) + 1) = (m : Int) + 1 := IntWalk.wrap64_in _ (by omega)
                  have hgt : ¬ (((p + 2 : Nat) : Int) - 1 ≤ (p : Int)) := by omega
                  go_wp2_with fail
                  exact ⟨⟨m + 1, X', Y', d', r', by omega, rfl, HSq.out, HRq.out, HXY1.out, HSA2.out, HRW1.out, HPG1.out⟩, by simp [intOf]; omega⟩
          · obtain rfl : m = n := by omega
            go_wp2_with fail
            refine (WK.out _ HSm.out.below).mono ?_
            rintro e w9 ⟨rfl, hb⟩
            have HB := Lib.hid hb
            clear hb
            go_wp2_with fail
            go_ret
            exact ⟨rfl, HB.out⟩

set_option maxRecDepth 100000 in
theorem lifted (os : Os) (started : os.Started) (H : Type) (enc : TypeId × Value → H) :
    ReturnsInHanded {} Try.checked os 3 .any (Rows.diskRowSpec.pre6 enc Try.prog Try.f3 Rows.diskRowRow.domain false) (Rows.diskRowSpec.post enc Try.prog Try.f3 false true false false) := by
  refine returnsInHanded_of_change (C := Try.checked) own started (by kernel_rfl) Try.func3
    (ChangeSpec.witness6 (enc := enc) (C := Try.checked) false ⟨#[], #[.int .i64 0, .slice none 0 0], []⟩ 8 (by kernel_rfl) (by kernel_rfl) (by kernel_rfl) (by kernel_rfl)) ?_
  intro W base args ds gs before hval0 hW hcnd _
  have hval : ∀ (j : Nat) t v, Try.f3.params[j]? = some t → args[j]? = some v → Value.okWide Try.prog W .any base t v := hval0
  have hW' := hW
  obtain ⟨p, q, hA0, hV, rfl, hfz, hnd⟩ := hW
  have hA : DataW.TrodAll enc Try.prog W 0 (fun _ => true) true Try.f3.params.toList args.toList ds p := hA0
  rw [Try.params3] at hA hval
  obtain ⟨v0, v1, d0, d1, q0, q1, rfl, rfl, rfl, h0, h1⟩ := trodAll_two hA
  obtain ⟨rfl, rfl⟩ := trodVars_none hV
  obtain ⟨p0, rfl, _, _, _⟩ := open_int ty_int (hval 0 _ v0 rfl rfl) h0
  obtain ⟨A, n, c, xs, rfl, hnc, hc, hxs⟩ := arg_acts (hval 1 _ v1 rfl rfl) h1
  refine (walk p0 A n c xs W hxs (Nat.le_trans hnc hc)).mono fun e W' ⟨he, hb⟩ => ?_
  subst he
  exact ⟨_, rfl, post_true laidOut (by kernel_rfl) ty_bool (by kernel_rfl) rfl hW' hb rfl⟩

theorem over : Rows.diskRowRow.holds Try.pinned (OpenSpec.ofChange Rows.diskRowSpec) :=
  OpenClaim.holds_of_wide 3 Try.f3 rfl rfl rfl rfl rfl rfl rfl ⟨rfl, rfl, rfl, rfl, rfl⟩ rfl rfl rfl rfl rfl (by kernel_rfl) Try.func3 (by kernel_rfl)
    (of_decide_eq_true (by kernel_rfl)) (by unfold Func.isWrapper; first | (rw [if_pos (by decide +kernel)]; kernel_rfl) | (rw [if_neg (by decide +kernel)]; exact ⟨rfl, rfl⟩))
    (fun os started H enc _ => lifted os started H enc)

theorem proved : Rows.DiskRowSaid :=
  over
end Go.Proofs.YtjfoihbcieffdaaR.diskRow
