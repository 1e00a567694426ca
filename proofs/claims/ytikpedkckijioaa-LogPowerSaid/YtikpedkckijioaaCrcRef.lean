/- The document's own check: the reference's step and Sum, held against the check's mathematics. -/
import Derived.Test.YtikpedkckijioaaChecked
import Derived.Test.YtikpedkckijioaaWords
import Derived.Test.YtikpedkckijioaaCrcPure
import Derived.KernelRfl
import Derived.Laws.Tables
import Derived.Laws.CopyOwn
import Derived.RegionTactic
namespace Go.Proofs.Ytikpedkckijioaa.Crc
open Go.RowKit

/-- 64 bits as cells, the lowest first. -/
def cellsF (f : Nat → Bool) : Array Value := ((List.range 64).map fun i => Value.bool (f i)).toArray
theorem cellsF_size (f : Nat → Bool) : (cellsF f).size = 64 := by simp [cellsF]
theorem cellsF_get (f : Nat → Bool) {i : Nat} (h : i < 64) : (cellsF f)[i]? = some (.bool (f i)) := by simp [cellsF, List.getElem?_range h]
theorem cellsF_set (f : Nat → Bool) {k : Nat} (h : k < 64) (b : Bool) : (cellsF f).setIfInBounds k (.bool b) = cellsF (fun i => if i = k then b else f i) := by
  apply Array.ext_getElem?
  intro j
  rw [Array.getElem?_setIfInBounds, cellsF_size]
  by_cases hj : j < 64
  · rw [cellsF_get _ hj, cellsF_get _ hj]
    by_cases e : k = j
    · subst e; simp [h]
    · have e' : ¬ j = k := fun h => e h.symm
      simp [e, e']
  · have h1 : (cellsF f)[j]? = none := Array.getElem?_eq_none (by rw [cellsF_size]; omega)
    have h2 : (cellsF fun i => if i = k then b else f i)[j]? = none := Array.getElem?_eq_none (by rw [cellsF_size]; omega)
    rw [h1, h2]
    split
    · omega
    · rfl
theorem cellsF_congr {f g : Nat → Bool} (h : ∀ i, i < 64 → f i = g i) : cellsF f = cellsF g := by
  unfold cellsF
  congr 1
  exact List.map_congr_left fun i hi => by rw [h i (List.mem_range.1 hi)]
theorem cellsF_one (f : Nat → Bool) : (cellsF f).all (·.oneCell') = true := by simp [cellsF, Value.oneCell']

/-- The first loop's row. -/
def sh (s k : Nat) : Nat → Bool := fun i => if i < k then s.testBit (i + 1) else false
/-- The second loop's row. -/
def ad (s k : Nat) : Nat → Bool := fun i => if i < k then ((s / 2).testBit i ^^ poly.testBit i) else (s / 2).testBit i

theorem Bk_far {w : World} {g : Nat} {t : TypeId} {cs : Array Value} (h : Bk w g t cs) {p : Addr} (hp : g ≠ p.block) (u : Value) : Bk (w.setCell p u) g t cs := h.kept (Below.heap_setCell w p u g hp)
theorem sh_next (s k : Nat) : ∀ i, i < 64 → (if i = k then s.testBit (k + 1) else sh s k i) = sh s (k + 1) i := by
  intro i _
  unfold sh
  by_cases h : i = k
  · subst h; simp
  · rw [if_neg h]
    by_cases h2 : i < k
    · rw [if_pos h2, if_pos (by omega)]
    · rw [if_neg h2, if_neg (by omega)]
theorem sh_end (s : Nat) (hs : s < 2 ^ 64) : ∀ i, i < 64 → sh s 63 i = (s / 2).testBit i := by
  intro i hi
  rw [Nat.testBit_div_two]
  unfold sh
  by_cases h : i < 63
  · rw [if_pos h]
  · rw [if_neg h]
    have : i = 63 := by omega
    subst this
    exact (Nat.testBit_lt_two_pow hs).symm
theorem ad_next (s k : Nat) : ∀ i, i < 64 → (if i = k then (ad s k k ^^ poly.testBit k) else ad s k i) = ad s (k + 1) i := by
  intro i _
  unfold ad
  by_cases h : i = k
  · subst h; simp
  · rw [if_neg h]
    by_cases h2 : i < k
    · rw [if_pos h2, if_pos (by omega)]
    · rw [if_neg h2, if_neg (by omega)]
theorem ad_end (s : Nat) (h1 : s % 2 = 1) : ∀ i, i < 64 → ad s 64 i = (step s).testBit i := by
  intro i hi
  unfold ad step
  rw [if_pos hi, if_pos h1, Nat.testBit_xor]
theorem ad_start (s : Nat) : ∀ i, i < 64 → ad s 0 i = (s / 2).testBit i := by
  intro i _
  unfold ad
  rw [if_neg (by omega)]

theorem and_bit (k : Nat) : (bits .and .u64 ((14514072000185962306 : Int) / 2 ^ k) 1 == 1) = poly.testBit k := by
  have h1 : (14514072000185962306 : Int) / 2 ^ k = ((poly / 2 ^ k : Nat) : Int) := by
    rw [Int.natCast_ediv]
    simp [poly]
  have h2 : poly / 2 ^ k < 18446744073709551616 := Nat.lt_of_le_of_lt (Nat.div_le_self _ _) (by decide)
  have h3 := u64_and_nat (poly / 2 ^ k) 1 h2 (by omega)
  rw [h1]
  have h4 : ((1 : Nat) : Int) = 1 := rfl
  rw [h4] at h3
  rw [h3, show poly / 2 ^ k &&& 1 = poly / 2 ^ k % 2 from Nat.and_one_is_mod _, Nat.testBit_eq_decide_div_mod_eq]
  generalize poly / 2 ^ k = y
  rcases Nat.mod_two_eq_zero_or_one y with h | h <;> rw [h] <;> rfl
theorem not_beq (a b : Bool) : (!(a == b)) = (a ^^ b) := by cases a <;> cases b <;> rfl

theorem info_bits : (Try.prog.info? 131).map (·.size) = some 64 := by kernel_rfl
theorem ty_bits : Try.prog.underlying 131 = some (.array 64 4) := by kernel_rfl

def Rel2 (w : World) (s : Nat) (i : Value) (wr : World) : Prop :=
  ∃ k : Nat, k ≤ 64 ∧ i = .int .i64 (k : Int) ∧ Bk wr (w.heap.size + 1) 131 (cellsF fun _ => false) ∧ Bk wr (w.heap.size + 2) 131 (cellsF (ad s k)) ∧ Below w.heap.size w wr

def Rel1 (w : World) (s : Nat) (i : Value) (wr : World) : Prop :=
  ∃ k : Nat, k ≤ 63 ∧ i = .int .i64 (k : Int) ∧ Bk wr w.heap.size 131 (cellsF s.testBit) ∧ Bk wr (w.heap.size + 1) 131 (cellsF fun _ => false) ∧ Bk wr (w.heap.size + 2) 131 (cellsF (sh s k)) ∧ Below w.heap.size w wr

set_option maxHeartbeats 1000000 in
theorem step_any (s : Nat) (w : World) (hs : s < 2 ^ 64) :
    Calls Try.prog 85 #[.agg (cellsF s.testBit)] w fun e w' => e = .returned (.agg (cellsF (step s).testBit)) ∧ Below w.heap.size w w' := by
  go_enter Try.func85, Try.ntmps85
  go_wp2_with fail
  go_loopw [4] (fun i wr => Rel1 w s i wr) (fun i _ => 63 - (intOf i).toNat)
  case atStart => 
    refine ⟨0, by omega, rfl, ?_, ?_, ?_, ?_⟩
    · exact ((Bk.new w _ _).alloc _).alloc _
    · have := (Bk.new (w.alloc (.cells (cellsF s.testBit) 131)) 131 (cellsF fun _ => false)).alloc (.cells (cellsF fun _ => false) 131)
      rw [World.size_alloc] at this
      exact this
    · have := Bk.new ((w.alloc (.cells (cellsF s.testBit) 131)).alloc (.cells (cellsF fun _ => false) 131)) 131 (cellsF fun _ => false)
      rw [World.size_alloc, World.size_alloc] at this
      exact this
    · exact (((Below.refl _ _).alloc (Nat.le_refl _) _).alloc (by simp) _).alloc (by simp; omega) _
  case round =>
    obtain ⟨k, hk, rfl, h1, h2, h3, hb⟩ := hrel
    have H1 := Lib.hid h1
    have H2 := Lib.hid h2
    have H3 := Lib.hid h3
    have HB := Lib.hid hb
    clear h1 h2 h3 hb
    by_cases hlt : k < 63
    · have c1 := H1.out.cell (k + 1)
      rw [cellsF_get _ (by omega)] at c1
      have c3 := H3.out.cell k
      rw [cellsF_get _ (by omega)] at c3
      have f3 := H3.out.frozen k
      go_wp2_with fail
      refine ⟨⟨k + 1, by omega, rfl, Bk_far H1.out (by simp only; omega) _, Bk_far H2.out (by simp only; omega) _, ?_, HB.out.setCell (by simp only; omega) _⟩, by simp [intOf]; omega⟩
      have := H3.out.set k (.bool (s.testBit (k + 1)))
      rw [cellsF_set _ (by omega), cellsF_congr (sh_next s k)] at this
      exact this
    · obtain rfl : k = 63 := by omega
      have H3' : Hid (Bk wr (w.heap.size + 2) 131 (cellsF (s / 2).testBit)) := by
        have := H3.out
        rwa [cellsF_congr (sh_end s hs)] at this
      have c1 := H1.out.cell 0
      rw [cellsF_get _ (by omega)] at c1
      clear H3
      by_cases h0 : s.testBit 0 = true
      · have h1 : s % 2 = 1 := by simpa [Nat.testBit_zero] using h0
        rw [h0] at c1
        clear h0
        have H1m := Lib.hid h1
        clear h1
        go_wp2_with fail
        obtain ⟨wo, rfl⟩ : ∃ wo : World, wo = wr := ⟨_, rfl⟩
        go_loopw [6] (fun i wr => Rel2 w s i wr) (fun i _ => 64 - (intOf i).toNat)
        case atStart => exact ⟨0, by omega, rfl, H2.out, by rw [cellsF_congr (ad_start s)]; exact H3'.out, HB.out⟩
        case round =>
          obtain ⟨k, hk, rfl, h2, h3, hb⟩ := hrel
          have G2 := Lib.hid h2
          have G3 := Lib.hid h3
          have GB := Lib.hid hb
          clear h2 h3 hb c1
          by_cases hlt : k < 64
          · have c3 := G3.out.cell k
            rw [cellsF_get _ (by omega)] at c3
            have f3 := G3.out.frozen k
            go_wp2_with fail
            go_region
            all_goals
              rw [and_bit, not_beq]
              have G3n : Hid (Bk (wr.setCell ⟨w.heap.size + 1 + 1, k, none⟩ (.bool (ad s k k ^^ poly.testBit k))).drew (w.heap.size + 2) 131 (cellsF (ad s (k + 1)))) := by
                have := G3.out.set k (.bool (ad s k k ^^ poly.testBit k))
                rw [cellsF_set _ (by omega), cellsF_congr (ad_next s k)] at this
                exact this
              have G2n : Hid (Bk (wr.setCell ⟨w.heap.size + 1 + 1, k, none⟩ (.bool (ad s k k ^^ poly.testBit k))).drew (w.heap.size + 1) 131 (cellsF fun _ => false)) := Bk_far G2.out (by simp only; omega) _
              have GBn := Lib.hid ((GB.out.setCell (p := ⟨w.heap.size + 1 + 1, k, none⟩) (by simp only; omega) (.bool (ad s k k ^^ poly.testBit k))).drew)
              generalize (wr.setCell ⟨w.heap.size + 1 + 1, k, none⟩ (.bool (ad s k k ^^ poly.testBit k))).drew = wn at *
              clear c3 f3
              go_wp2_with fail
              exact ⟨⟨k + 1, by omega, rfl, G2n.out, G3n.out, GBn.out⟩, by simp [intOf]; omega⟩
          · obtain rfl : k = 64 := by omega
            have G3' : Hid (Bk wr (w.heap.size + 2) 131 (cellsF (step s).testBit)) := by
              have := G3.out
              rwa [cellsF_congr (ad_end s H1m.out)] at this
            go_wp2_with (first
              | (refine wpList_load_row rfl _ (.tmp 3) rfl (w.heap.size + 2) rfl 131 (cellsF (step s).testBit) (0, 0) _ G3'.out ty_bits rfl (by rw [cellsF_size]; exact info_bits) ?_)
              | (refine wpList_store_row rfl _ (.tmp 2) (.tmp 36) rfl (w.heap.size + 1) (cellsF (step s).testBit) rfl rfl 131 (cellsF fun _ => false) G2.out (by rw [cellsF_size]; exact info_bits) (by rw [cellsF_size, cellsF_size]) (cellsF_one _) ?_))
            refine bodyPost_ret (results_cell_row rfl _ _ (w.heap.size + 1) 131 (cellsF (step s).testBit) (0, 0) _ rfl (setRow_heap _ _ (cellsF fun _ => false) _ 131 (0, 0) G2.out) ty_bits rfl (by rw [cellsF_size]; exact info_bits)) rfl ⟨?_, below_setRow GB.out (by omega) _⟩
            rfl
      · have h1 : ¬ s % 2 = 1 := by simpa [Nat.testBit_zero] using h0
        have h0' : s.testBit 0 = false := by simpa using h0
        rw [h0'] at c1
        have HS : Hid (step s = s / 2) := by unfold step; rw [if_neg h1]; rfl
        clear h0 h0' h1
        go_wp2_with (first
          | (refine wpList_load_row rfl _ (.tmp 3) rfl (w.heap.size + 2) rfl 131 (cellsF (s / 2).testBit) (0, 0) _ H3'.out ty_bits rfl (by rw [cellsF_size]; exact info_bits) ?_)
          | (refine wpList_store_row rfl _ (.tmp 2) (.tmp 20) rfl (w.heap.size + 1) (cellsF (s / 2).testBit) rfl rfl 131 (cellsF fun _ => false) H2.out (by rw [cellsF_size]; exact info_bits) (by rw [cellsF_size, cellsF_size]) (cellsF_one _) ?_))
        refine bodyPost_ret (results_cell_row rfl _ _ (w.heap.size + 1) 131 (cellsF (s / 2).testBit) (0, 0) _ rfl (setRow_heap _ _ (cellsF fun _ => false) _ 131 (0, 0) H2.out) ty_bits rfl (by rw [cellsF_size]; exact info_bits)) rfl ⟨?_, below_setRow HB.out (by omega) _⟩
        rw [HS.out]

theorem ones_bits : ∀ i, i < 64 → decide (i < 64) = ones.testBit i := by decide +kernel
theorem on_next (k : Nat) : ∀ i, i < 64 → (if i = k then true else decide (i < k)) = decide (i < k + 1) := by
  intro i _
  by_cases h : i = k
  · subst h; simp
  · rw [if_neg h]
    have : (i < k) ↔ (i < k + 1) := by omega
    simp [this]
/-- The row while a byte is added. -/
def mix (s b k : Nat) : Nat → Bool := fun i => if i < k then (s.testBit i ^^ b.testBit i) else s.testBit i
theorem mix_next (s b k : Nat) : ∀ i, i < 64 → (if i = k then (mix s b k k ^^ b.testBit k) else mix s b k i) = mix s b (k + 1) i := by
  intro i _
  unfold mix
  by_cases h : i = k
  · subst h; simp
  · rw [if_neg h]
    by_cases h2 : i < k
    · rw [if_pos h2, if_pos (by omega)]
    · rw [if_neg h2, if_neg (by omega)]
theorem mix_end (s b : Nat) (hb : b < 256) : ∀ i, i < 64 → mix s b 8 i = (s ^^^ b).testBit i := by
  intro i _
  unfold mix
  rw [Nat.testBit_xor]
  by_cases h : i < 8
  · rw [if_pos h]
  · have : b.testBit i = false := Nat.testBit_lt_two_pow (Nat.lt_of_lt_of_le (show b < 2 ^ 8 from hb) (Nat.pow_le_pow_right (by omega) (by omega)))
    rw [if_neg h, this, Bool.xor_false]
theorem mix_start (s b : Nat) : ∀ i, i < 64 → mix s b 0 i = s.testBit i := by
  intro i _
  unfold mix
  rw [if_neg (by omega)]
theorem and_bit8 (b k : Nat) (hb : b < 256) : (bits .and .u8 ((b : Int) / 2 ^ k) 1 == 1) = b.testBit k := by
  have h1 : (b : Int) / 2 ^ k = ((b / 2 ^ k : Nat) : Int) := by simp
  have h2 : b / 2 ^ k < 256 := Nat.lt_of_le_of_lt (Nat.div_le_self _ _) hb
  have h3 := u8_and_nat (b / 2 ^ k) 1 h2 (by omega)
  rw [h1]
  have h4 : ((1 : Nat) : Int) = 1 := rfl
  rw [h4] at h3
  rw [h3, show b / 2 ^ k &&& 1 = b / 2 ^ k % 2 from Nat.and_one_is_mod _, Nat.testBit_eq_decide_div_mod_eq]
  generalize b / 2 ^ k = y
  rcases Nat.mod_two_eq_zero_or_one y with h | h <;> rw [h] <;> rfl
theorem run_snoc (s : Nat) (bs : List UInt8) (b : UInt8) : run s (bs ++ [b]) = byteS (run s bs) b.toNat := by simp [run]
theorem steps_snoc (k s : Nat) : steps (k + 1) s = step (steps k s) := by rw [steps_add k 1 s]; rfl
theorem half_bit (x r : Nat) : x / 2 ^ r = 2 * (x / 2 ^ (r + 1)) + (if x.testBit r then 1 else 0) := by
  rw [Nat.testBit_eq_decide_div_mod_eq, Nat.pow_succ, ← Nat.div_div_eq_div_mul]
  generalize x / 2 ^ r = y
  by_cases h : y % 2 = 1
  · simp [h]; omega
  · simp [h]; omega
theorem not_bit (s i : Nat) (hi : i < 64) : (s ^^^ ones).testBit i = !s.testBit i := by
  rw [Nat.testBit_xor, ← ones_bits i hi]
  simp [hi]

def RelA (w : World) (i : Value) (wr : World) : Prop :=
  ∃ k : Nat, k ≤ 64 ∧ i = .int .i64 (k : Int) ∧ Bk wr w.heap.size 131 (cellsF fun i => decide (i < k)) ∧ Below w.heap.size w wr
def RelB (w : World) (n : Nat) (bs : List UInt8) (i : Value) (wr : World) : Prop :=
  ∃ k : Nat, k ≤ n ∧ i = .int .i64 (k : Int) ∧ Bk wr w.heap.size 131 (cellsF (run ones (bs.take k)).testBit) ∧ Below w.heap.size w wr
def RelC (w : World) (s b : Nat) (i : Value) (wr : World) : Prop :=
  ∃ k : Nat, k ≤ 8 ∧ i = .int .i64 (k : Int) ∧ Bk wr w.heap.size 131 (cellsF (mix s b k)) ∧ Below w.heap.size w wr
def RelD (w : World) (s : Nat) (i : Value) (wr : World) : Prop :=
  ∃ k : Nat, k ≤ 8 ∧ i = .int .i64 (k : Int) ∧ Bk wr w.heap.size 131 (cellsF (steps k s).testBit) ∧ Below w.heap.size w wr

set_option maxHeartbeats 2000000 in
theorem refSum_any (A : Option Addr) (n c : Nat) (bs : List UInt8) (w : World) (h : Rd w A n bs) (hn : n ≤ 1000000) :
    Calls Try.prog 70 #[.slice A n c] w fun e w' => e = .returned (.int .u64 (sum bs : Int)) ∧ Below w.heap.size w w' := by
  have H := Lib.hid h
  clear h
  go_enter Try.func70, Try.ntmps70
  go_wp2_with fail
  go_loopw [4] (fun i wr => RelA w i wr) (fun i _ => 64 - (intOf i).toNat)
  case atStart => exact ⟨0, by omega, rfl, Bk.new w 131 (cellsF fun i => decide (i < 0)), (Below.refl _ _).alloc (Nat.le_refl _) _⟩
  case round =>
    obtain ⟨k, hk, rfl, h1, hb⟩ := hrel
    have H1 := Lib.hid h1
    have HB := Lib.hid hb
    clear h1 hb
    by_cases hlt : k < 64
    · have c1 := H1.out.cell k
      rw [cellsF_get _ (by omega)] at c1
      have f1 := H1.out.frozen k
      go_wp2_with fail
      refine ⟨⟨k + 1, by omega, rfl, ?_, HB.out.setCell (Nat.le_refl _) _⟩, by simp [intOf]; omega⟩
      have := H1.out.set k (.bool true)
      rw [cellsF_set _ (by omega), cellsF_congr (on_next k)] at this
      exact this
    · obtain rfl : k = 64 := by omega
      have H2 : Hid (Bk wr w.heap.size 131 (cellsF ones.testBit)) := by
        have := H1.out
        rwa [cellsF_congr ones_bits] at this
      go_wp2_with fail
      obtain ⟨wo, rfl⟩ : ∃ wo : World, wo = wr := ⟨_, rfl⟩
      go_loopw [5, 6, 7] (fun i _ _ wr => RelB w n bs i wr) (fun i _ _ _ => n - (intOf i).toNat)
      case atStart => exact ⟨0, by omega, rfl, H2.out, HB.out⟩
      case round =>
        obtain ⟨k, hk, rfl, h1, hb⟩ := hrel
        have G1 := Lib.hid h1
        have GB := Lib.hid hb
        clear h1 hb
        by_cases hlt : k < n
        · obtain ⟨ad0, rfl, hc⟩ := H.out.cells (by omega)
          have hkl : k < bs.length := by rw [H.out.len]; exact hlt
          have hcell := hc k _ (List.getElem?_eq_getElem hkl)
          have HC := Lib.hid hcell
          have hblk := World.block_lt_of_cell? w _ hcell
          clear hc hcell
          have hbv := (bs[k]).toNat_lt
          have HN : Hid (run ones (bs.take (k + 1)) = steps 8 ((run ones (bs.take k)) ^^^ (bs[k]).toNat)) := by
            show _ = _
            rw [← List.take_append_getElem hkl, run_snoc]
            rfl
          have HS : Hid (run ones (bs.take k) < 2 ^ 64) := run_lt _ _ ones_lt
          generalize run ones (bs.take k) = s at *
          generalize hbb : (bs[k]) = bb at *
          have HX : Hid (s ^^^ bb.toNat < 2 ^ 64) := Nat.xor_lt_two_pow HS.out (Nat.lt_of_lt_of_le hbv (by decide))
          clear hbb
          go_wp2_with fail
          obtain ⟨wp, rfl⟩ : ∃ wo : World, wo = wr := ⟨_, rfl⟩
          go_loopw [6] (fun i wr => RelC w s bb.toNat i wr) (fun i _ => 8 - (intOf i).toNat)
          case atStart => exact ⟨0, by omega, rfl, by rw [cellsF_congr (mix_start s _)]; exact G1.out, GB.out⟩
          case round =>
            obtain ⟨j, hj, rfl, h1, hb⟩ := hrel
            have J1 := Lib.hid h1
            have JB := Lib.hid hb
            clear h1 hb
            by_cases hlt2 : j < 8
            · have c1 := J1.out.cell j
              rw [cellsF_get _ (by omega)] at c1
              have f1 := J1.out.frozen j
              have c2 : wr.cell? (ad0.add k) = some (.int .u8 (bb.toNat : Int)) := (JB.out.cell hblk).trans HC.out
              go_wp2_with fail
              go_region
              all_goals
                rw [and_bit8 _ _ hbv, not_beq]
                have J1n : Hid (Bk (wr.setCell ⟨w.heap.size, j, none⟩ (.bool (mix s bb.toNat j j ^^ bb.toNat.testBit j))).drew w.heap.size 131 (cellsF (mix s bb.toNat (j + 1)))) := by
                  have := J1.out.set j (.bool (mix s bb.toNat j j ^^ bb.toNat.testBit j))
                  rw [cellsF_set _ (by omega), cellsF_congr (mix_next s _ j)] at this
                  exact this
                have JBn := Lib.hid ((JB.out.setCell (p := ⟨w.heap.size, j, none⟩) (Nat.le_refl _) (.bool (mix s bb.toNat j j ^^ bb.toNat.testBit j))).drew)
                generalize (wr.setCell ⟨w.heap.size, j, none⟩ (.bool (mix s bb.toNat j j ^^ bb.toNat.testBit j))).drew = wn at *
                clear c1 f1 c2
                go_wp2_with fail
                exact ⟨⟨j + 1, by omega, rfl, J1n.out, JBn.out⟩, by simp [intOf]; omega⟩
            · obtain rfl : j = 8 := by omega
              have J2 : Hid (Bk wr w.heap.size 131 (cellsF (s ^^^ bb.toNat).testBit)) := by
                have := J1.out
                rwa [cellsF_congr (mix_end s _ hbv)] at this
              go_wp2_with fail
              obtain ⟨wq, rfl⟩ : ∃ wo : World, wo = wr := ⟨_, rfl⟩
              go_loopw [7] (fun i wr => RelD w (s ^^^ bb.toNat) i wr) (fun i _ => 8 - (intOf i).toNat)
              case atStart => exact ⟨0, by omega, rfl, J2.out, JB.out⟩
              case round =>
                obtain ⟨m, hm, rfl, h1, hb⟩ := hrel
                have M1 := Lib.hid h1
                have MB := Lib.hid hb
                clear h1 hb
                have HT := Lib.hid (steps_lt m _ HX.out)
                have HSn := Lib.hid (steps_snoc m (s ^^^ bb.toNat))
                generalize hsm : steps m (s ^^^ bb.toNat) = sm at *
                have HSM := Lib.hid hsm
                clear hsm
                by_cases hlt3 : m < 8
                · go_wp2_with (refine wpList_load_row rfl _ (.tmp 3) rfl w.heap.size rfl 131 (cellsF sm.testBit) (0, 0) _ M1.out ty_bits rfl (by rw [cellsF_size]; exact info_bits) ?_)
                  refine (step_any sm wr HT.out).mono ?_
                  rintro e w4 ⟨rfl, hb4⟩
                  have M4 : Hid (Bk w4 w.heap.size 131 (cellsF sm.testBit)) := M1.out.below hb4
                  have MB4 := Lib.hid (MB.out.trans (hb4.mono MB.out.size))
                  clear hb4
                  go_wp2_with (refine wpList_store_row rfl _ (.tmp 3) (.tmp 45) rfl w.heap.size (cellsF (step sm).testBit) rfl rfl 131 (cellsF sm.testBit) M4.out (by rw [cellsF_size]; exact info_bits) (by rw [cellsF_size, cellsF_size]) (cellsF_one _) ?_)
                  refine ⟨⟨_, _, _, _, _, _, _, ⟨m + 1, by omega, rfl, ?_, below_setRow MB4.out (Nat.le_refl _) _⟩, rfl⟩, by simp [intOf]; omega⟩
                  rw [HSn.out]
                  exact setRow_heap w4 _ (cellsF sm.testBit) _ 131 (0, 0) M4.out
                · obtain rfl : m = 8 := by omega
                  go_wp2_with fail
                  refine ⟨⟨k + 1, by omega, rfl, ?_, MB.out⟩, by simp [intOf]; omega⟩
                  rw [HN.out, HSM.out]
                  exact M1.out
        · obtain rfl : k = n := by omega
          have G2 : Hid (Bk wr w.heap.size 131 (cellsF (run ones bs).testBit)) := by
            have := G1.out
            rwa [List.take_of_length_le (by rw [H.out.len]; omega)] at this
          have HS : Hid (run ones bs < 2 ^ 64) := run_lt _ _ ones_lt
          have HSum : Hid (sum bs = (run ones bs) ^^^ ones) := rfl
          generalize run ones bs = s at *
          go_wp2_with fail
          obtain ⟨wp, rfl⟩ : ∃ wo : World, wo = wr := ⟨_, rfl⟩
          have HX : Hid (s ^^^ ones < 2 ^ 64) := Nat.xor_lt_two_pow HS.out ones_lt
          have HB0 : Hid (∀ i, i < 64 → (s ^^^ ones).testBit i = !s.testBit i) := fun i hi => not_bit s i hi
          generalize s ^^^ ones = x at *
          go_loopw [8, 9] (fun v i wr => ∃ r : Nat, r ≤ 64 ∧ i = .int .i64 ((r : Int) - 1) ∧ v = .int .u64 ((x / 2 ^ r : Nat) : Int) ∧ Bk wr w.heap.size 131 (cellsF s.testBit) ∧ Below w.heap.size w wr) (fun _ i _ => (intOf i + 1).toNat)
          case atStart => exact ⟨64, by omega, rfl, by rw [Nat.div_eq_of_lt HX.out]; rfl, G2.out, GB.out⟩
          case round =>
            obtain ⟨r, hr, rfl, rfl, h1, hb⟩ := hrel
            have L1 := Lib.hid h1
            have LB := Lib.hid hb
            clear h1 hb
            by_cases h0 : 0 < r
            · obtain ⟨r, rfl⟩ : ∃ r', r = r' + 1 := ⟨r - 1, by omega⟩
              have c1 := L1.out.cell r
              rw [cellsF_get _ (by omega)] at c1
              have HH := Lib.hid (half_bit x r)
              have HBr := Lib.hid (HB0.out r (by omega))
              have hv2 : x / 2 ^ (r + 1) < 9223372036854775808 := by
                have hx := HX.out
                have h3 : x / 2 ^ (r + 1) ≤ x / 2 := by
                  rw [Nat.pow_succ, Nat.mul_comm, ← Nat.div_div_eq_div_mul]
                  exact Nat.div_le_self _ _
                omega
              generalize hy : x / 2 ^ (r + 1) = y at *
              clear hy
              cases hbit : s.testBit r with
              | true =>
                rw [hbit] at c1 HBr
                have HF : Hid (x / 2 ^ r = 2 * y) := by
                  show _ = _
                  have := HH.out
                  rw [HBr.out] at this
                  simpa using this
                clear HH HBr
                go_wp2_with fail
                refine ⟨⟨r, by omega, rfl, ?_, L1.out, LB.out⟩, by simp [intOf]⟩
                rw [HF.out]
                simp
              | false =>
                rw [hbit] at c1 HBr
                have HF : Hid (x / 2 ^ r = 2 * y + 1) := by
                  show _ = _
                  have := HH.out
                  rw [HBr.out] at this
                  simpa using this
                clear HH HBr
                go_wp2_with fail
                refine ⟨⟨r, by omega, rfl, ?_, L1.out, LB.out⟩, by simp [intOf]⟩
                rw [HF.out]
                simp
            · obtain rfl : r = 0 := by omega
              go_wp2_with fail
              go_ret
              rw [HSum.out]
              exact ⟨by simp, LB.out⟩
end Go.Proofs.Ytikpedkckijioaa.Crc
