/- DiskSynced: behind a Sync nothing that becomes of the row changes a page; all that the row said is read. For every input the call returns true, and each argument reads afterwards as it read before. No conditions. -/
import Derived.Test.YtjfoihbcieffdaaRDiskArgs
import Derived.Lib.Strings
namespace Go.Proofs.YtjfoihbcieffdaaR.diskSynced
open Go.ChangeShapes Go.WideShapes Go.ChangeAt Go.RowKit Disk

/-- A block beside the disk's. -/
structure Apart (w : World) (X : Nat → Prop) (h : Nat) (t : TypeId) (cs : Array Value) : Prop where
  bk : Bk w h t cs
  no : ¬ X h
theorem Apart.below_ {w w' : World} {X : Nat → Prop} {h : Nat} {t : TypeId} {cs : Array Value} (a : Apart w X h t cs) (hb : Below w.heap.size w w') : Apart w' X h t cs := ⟨a.bk.below hb, a.no⟩
theorem Apart.step {w w' : World} {X X' : Nat → Prop} {h : Nat} {t : TypeId} {cs : Array Value} (a : Apart w X h t cs) (ho : Out X w w') (hx : ∀ k, X' k → X k ∨ w.heap.size ≤ k) : Apart w' X' h t cs :=
  ⟨a.bk.kept (ho.block h a.bk.lt a.no), fun h' => (hx h h').elim a.no (fun h2 => by have := a.bk.lt; omega)⟩

/-- The disk of the law: six pages, all 0, and what waits. -/
def dk (row : List (Nat × List UInt8)) : DK := ⟨List.replicate 6 (List.replicate 512 0), row, false, -1⟩
def lastL (row : List (Nat × List UInt8)) : List (List UInt8) := (List.range 6).map fun k => seenL row k []
def lastA (row : List (Nat × List UInt8)) : Array Value := ((lastL row).map fun l => Value.string (S l)).toArray
theorem dk_new : DK.new 6 = dk [] := rfl
theorem dk_write (row : List (Nat × List UInt8)) (k : Int) (b : List UInt8) (hb : b.length = 512) : (dk row).write k b = if 0 ≤ k ∧ k < 6 then (0, dk (row ++ [(k.toNat, b)])) else (1, dk row) := by
  have hf : (dk row).faultAt k = if k < 0 ∨ 6 ≤ k then 1 else 0 := by
    unfold DK.faultAt dk
    rw [if_neg (by show ¬ false = true; decide)]
    rfl
  have hbn : (dk row).burn = (0, dk row) := rfl
  unfold DK.write
  by_cases h : 0 ≤ k ∧ k < 6
  · have hf0 : (dk row).faultAt k = 0 := by rw [hf, if_neg (by omega)]
    rw [if_pos h, if_neg (by rw [hf0]; decide), if_neg (by rw [hb]; decide), hbn, if_neg (by simp)]
    rfl
  · have hf1 : (dk row).faultAt k = 1 := by rw [hf, if_pos (by omega)]
    rw [if_neg h, hf1, if_pos (by decide)]
theorem dk_act (row : List (Nat × List UInt8)) (a : Act1) (h : a.do_ % 6 = 0) : (dk row).act a = if 0 ≤ a.at_ ∧ a.at_ < 6 then (0, dk (row ++ [(a.at_.toNat, sheet a.b a.step)])) else (1, dk row) := by
  unfold DK.act
  rw [if_pos h, dk_write _ _ _ (sheet_length _ _)]
theorem lastA_size (row : List (Nat × List UInt8)) : (lastA row).size = 6 := by simp [lastA, lastL]
theorem lastA_get (row : List (Nat × List UInt8)) {k : Nat} (hk : k < 6) : (lastA row)[k]? = some (.string (S (seenL row k []))) := by
  unfold lastA lastL
  simp [hk]
theorem lastA_set (row : List (Nat × List UInt8)) {k : Nat} (hk : k < 6) (b : List UInt8) : (lastA row).setIfInBounds k (.string (S b)) = lastA (row ++ [(k, b)]) := by
  apply Array.ext_getElem?
  intro j
  by_cases hj : j < 6
  · rw [lastA_get _ hj, seenL_append]
    have e : seenL [(k, b)] j (seenL row j []) = if k = j then b else seenL row j [] := rfl
    rw [e]
    by_cases hkj : k = j
    · subst hkj
      rw [if_pos rfl, Array.getElem?_setIfInBounds_self_of_lt (by rw [lastA_size]; exact hk)]
    · rw [if_neg hkj, Array.getElem?_setIfInBounds_ne hkj, lastA_get _ hj]
  · rw [Array.getElem?_eq_none (by simp [lastA_size]; omega), Array.getElem?_eq_none (by rw [lastA_size]; omega)]
/-- What a whole row lays. -/
theorem lay_all : ∀ (row : List (Nat × List UInt8)) (i : Nat) (ps : List (List UInt8)), OkP ps → OkR ps.length row → ∀ k, k < ps.length → (lay (fun _ => 512) i ps row).getD k [] = seenL row k (ps.getD k [])
  | [], _, _, _, _, _, _ => rfl
  | x :: r, i, ps, hp, hr, k, hk => by
    have hx := hr x List.mem_cons_self
    rw [lay, lay_all r (i + 1) (lay1 ps x 512) (hp.lay1 hx.1 hx.2 _ (Nat.le_refl _)) (by rw [lay1_length]; exact fun y hy => hr y (List.mem_cons_of_mem _ hy)) k (by rw [lay1_length]; exact hk)]
    show _ = seenL r k (if x.1 = k then x.2 else ps.getD k [])
    congr 1
    unfold lay1
    rw [List.take_of_length_le (by omega), List.drop_eq_nil_of_le (by rw [hp.get hx.1]; exact Nat.le_refl _), List.append_nil]
    by_cases h : x.1 = k
    · subst h
      rw [if_pos rfl, List.getD_eq_getElem?_getD, List.getElem?_set_self hk]
      rfl
    · rw [if_neg h, List.getD_eq_getElem?_getD, List.getElem?_set_ne h, List.getD_eq_getElem?_getD]
theorem seen_dflt : ∀ (row : List (Nat × List UInt8)) (n k : Nat) (p q : List UInt8), OkR n row → (seenL row k q = q ∧ seenL row k p = p) ∨ (seenL row k q = seenL row k p ∧ (seenL row k p).length = 512)
  | [], _, _, _, _, _ => .inl ⟨rfl, rfl⟩
  | x :: r, n, k, p, q, hr => by
    have hr' : OkR n r := fun y hy => hr y (List.mem_cons_of_mem _ hy)
    show (seenL r k (if x.1 = k then x.2 else q) = q ∧ seenL r k (if x.1 = k then x.2 else p) = p) ∨ (seenL r k (if x.1 = k then x.2 else q) = seenL r k (if x.1 = k then x.2 else p) ∧ (seenL r k (if x.1 = k then x.2 else p)).length = 512)
    by_cases h : x.1 = k
    · rw [if_pos h, if_pos h]
      exact .inr ⟨rfl, seenL_length hr' (hr x List.mem_cons_self).2⟩
    · rw [if_neg h, if_neg h]
      exact seen_dflt r n k p q hr'


theorem info_string : (Try.prog.info? 9).map (fun i => (i.zero, i.size, i.bytes)) = some (some (.string ⟨#[]⟩), 1, 16) := by kernel_rfl
theorem ty_strings : Try.prog.underlying 37 = some (.slice 9) := by kernel_rfl
theorem made_last : madeCells (Value.string ⟨#[]⟩).cells 6 = lastA [] := by kernel_rfl
theorem make_last (W : World) : (Instr.makeSlice 37 (.int .i64 6) (.int .i64 6)).run Try.prog W = .ok (.slice (some ⟨W.heap.size, 0, none⟩) 6 6) (W.alloc (.cells (lastA []) 9)) := by
  obtain ⟨i0, hi0, hi1, hi2, hi3⟩ := info_three info_string
  have hmk := run_make (P := Try.prog) W 37 9 i0 _ ty_strings hi0 hi1 .i64 .i64 6 6 (by omega) (Int.le_refl _) (by rw [hi3]; omega) (by omega)
  rw [hi2, show Int.toNat 6 = 6 from rfl, show 6 * 1 = 6 from rfl, made_last] at hmk
  exact hmk
theorem make_512 (W : World) : (Instr.makeSlice 41 (.int .i64 512) (.int .i64 512)).run Try.prog W = .ok (.slice (some ⟨W.heap.size, 0, none⟩) 512 512) (W.alloc (.cells (zeros.map U).toArray 5)) := by
  obtain ⟨i0, hi0, hi1, hi2, hi3⟩ := info_three info_byte
  have hmk := run_make_bytes (P := Try.prog) ty_bytes hi0 hi1 hi2 hi3 .i64 .i64 512 512 (by omega) (by omega) W
  have e : zeros.map U = List.replicate 512 (U 0) := by unfold zeros; rw [List.map_replicate]
  rw [e]
  exact hmk
def dF (row : List (Nat × List UInt8)) : DK := ⟨lay (fun _ => 512) 0 (List.replicate 6 (List.replicate 512 0)) row, [], false, -1⟩
theorem dk_sync (row : List (Nat × List UInt8)) : (dk row).sync = (0, dF row) := by
  have hbn : (dk row).burn = (0, dk row) := rfl
  unfold DK.sync
  rw [if_neg (by show ¬ false = true; decide), hbn, if_neg (by simp)]
  rfl
theorem dF_back (row : List (Nat × List UInt8)) (zs : List Int) : (dF row).kill.restart zs = dF row := rfl
theorem dF_at (row : List (Nat × List UInt8)) (k : Nat) (hk : k < 6) : (dF row).faultAt (k : Int) = 0 := by
  unfold DK.faultAt
  rw [if_neg (by show ¬ false = true; decide), if_neg]
  rintro (h | h)
  · omega
  · have : (dF row).pages.length = 6 := by show (lay _ _ _ _).length = 6; rw [lay_length]; rfl
    rw [this] at h
    omega
theorem dF_seen {row : List (Nat × List UInt8)} (hr : OkR 6 row) {k : Nat} (hk : k < 6) : (dF row).seen k = seenL row k zeros := by
  show (lay _ _ _ _).getD k [] = _
  have h0 : OkP (List.replicate 6 (List.replicate 512 (0 : UInt8))) := (Ok.new (n := 6) (by omega) (by omega)).pages
  rw [lay_all row 0 _ h0 hr k hk]
  congr 1
  match k, hk with
  | 0, _ => rfl
  | 1, _ => rfl
  | 2, _ => rfl
  | 3, _ => rfl
  | 4, _ => rfl
  | 5, _ => rfl
theorem St.cell {w0 w : World} {X : Nat → Prop} {g : Nat} {d : DK} (h : St w0 w X g d) {a : Nat} (ha : ¬ X a) (h0 : w0.heap.size ≤ a) (i : Nat) (u : Value) : St w0 (w.setCell ⟨a, i, none⟩ u) X g d := by
  have ho := Out.setCell (X := (· = a)) w (p := ⟨a, i, none⟩) rfl u
  exact ⟨h.at_.out ho (fun k hk e => ha (e ▸ hk)), ho.below h.below (fun k e => e ▸ h0) h.below.size, h.own⟩
theorem S_none {l : List UInt8} (h : l.length = 512) : (S l).toList.isEmpty = false := by
  rw [show (S l).toList = l from ByteArray.toList_mk l]
  cases l with
  | nil => cases h
  | cons x r => rfl
def RelP (w : World) (g B : Nat) (row : List (Nat × List UInt8)) (i : Value) (wr : World) : Prop :=
  ∃ (p : Nat) (X : Nat → Prop), p ≤ 6 ∧ i = .int .i64 (p : Int) ∧ St w wr X g (dF row) ∧ Apart wr X B 9 (lastA row)
def RelL (w : World) (n g B : Nat) (i : Value) (wr : World) : Prop :=
  ∃ (m : Nat) (X : Nat → Prop) (row : List (Nat × List UInt8)), m ≤ n ∧ i = .int .i64 (m : Int) ∧ St w wr X g (dk row) ∧ row.length ≤ m ∧ Apart wr X B 9 (lastA row)
set_option maxRecDepth 100000 in
set_option maxHeartbeats 4000000 in
theorem walk (A : Option Addr) (n c : Nat) (xs : List Act1) (F : Option Addr) (m cF : Nat) (zs : List Int) (w : World) (h : ActS w A n xs) (hc : n ≤ maxLen) (hz : RdI w F m zs) (_ : m ≤ maxLen) :
    Calls Try.prog 4 #[.slice A n c, .slice F m cF] w fun e w' => e = .returned (.bool true) ∧ Below w.heap.size w w' := by
  have cm := many_any xs A n c w h hc
  have HA := Lib.hid h
  have HZ := Lib.hid hz
  have hl := h.len
  clear h hz hc
  by_cases hbig : bigB xs = true
  · go_enter Try.func4, Try.ntmps4
    go_wp2_with fail
    refine cm.mono ?_
    rintro e w1 ⟨z, rfl, hzz, rfl⟩
    have hz0 : 0 < z := hzz.1 hbig
    clear cm hbig hzz
    go_wp2_with fail
    refine (wakes_any w).mono ?_
    rintro e w1 ⟨rfl, hb⟩
    have HB := Lib.hid hb
    clear hb
    go_wp2_with fail
    go_ret
    exact ⟨rfl, HB.out⟩
  · have hb2 : bigB xs = false := by simpa using hbig
    have HNB := Lib.hid (bigB_no hb2)
    by_cases hm100 : 100 < m
    · go_enter Try.func4, Try.ntmps4
      go_wp2_with fail
      refine cm.mono ?_
      rintro e w1 ⟨z, rfl, hzz, rfl⟩
      have hz0 : ¬ 0 < z := fun hh => hbig (hzz.2 hh)
      clear cm hbig hzz hb2
      go_wp2_with fail
      refine (wakes_any w).mono ?_
      rintro e w1 ⟨rfl, hb⟩
      have HB := Lib.hid hb
      clear hb
      go_wp2_with fail
      go_ret
      exact ⟨rfl, HB.out⟩
    · go_enter Try.func4, Try.ntmps4
      go_wp2_with fail
      refine cm.mono ?_
      rintro e w1 ⟨z, rfl, hzz, rfl⟩
      have hz0 : ¬ 0 < z := fun hh => hbig (hzz.2 hh)
      clear cm hbig hzz hb2
      have hn80 : n ≤ 80 := by rw [← hl]; exact HNB.out.1
      go_wp2_with fail
      have cn : Calls Try.prog 10 #[.int .i64 6] w (NewSt 6 w w) := new_st 6 w w (by omega) (by omega) (Below.refl _ _)
      refine cn.mono ?_
      clear cn
      rintro e w1 ⟨g, X1, rfl, hs, -, -⟩
      have HS := Lib.hid hs
      clear hs
      have hmk := make_last w1
      have hbl : Below w1.heap.size w1 (w1.alloc (.cells (lastA []) 9)) := (Below.refl _ _).alloc (Nat.le_refl _) _
      have HAP : Hid (Apart (w1.alloc (.cells (lastA []) 9)) X1 w1.heap.size 9 (lastA [])) := ⟨Bk.new _ _ _, fun hx => by have := HS.out.at_.lt _ hx; omega⟩
      have HS1 := Lib.hid (HS.out.below_ hbl)
      have HBG : Hid (w.heap.size ≤ w1.heap.size) := HS.out.below.size
      clear hbl
      generalize hL0 : lastA [] = L0 at *
      have HL0 := Lib.hid hL0
      clear hL0
      go_wp2_with fail
      clear hmk
      generalize w1.alloc (.cells L0 9) = w2 at *
      generalize w1.heap.size = B at *
      go_loopw [8] (fun i wr => RelL w n g B i wr) (fun i _ => n - (intOf i).toNat)
      case atStart => exact ⟨0, X1, [], Nat.zero_le _, rfl, HS1.out, Nat.le_refl _, by rw [HL0.out]; exact HAP.out⟩
      case round =>
        obtain ⟨q, X, row, hq, rfl, hst, hrl, hap⟩ := hrel
        have HSq := Lib.hid hst
        have HAq := Lib.hid hap
        have HRL := Lib.hid hrl
        clear hst hap hrl
        by_cases hlt : q < n
        · have hq2 : q < xs.length := by omega
          obtain ⟨b, o, B1, m1, c1, rfl, h1w, h2, h3, hcw⟩ := HA.out.cells q hq2
          have hcell := fun i v hv => (HSq.out.below.cell (World.block_lt_of_cell? w _ (hcw i v hv))).trans (hcw i v hv)
          have hbw : b < w.heap.size := World.block_lt_of_cell? w _ (hcw 0 _ rfl)
          have h1 := Lib.hid (h1w.below HSq.out.below)
          have hc0 := hcell 0 _ rfl
          have hc1 := hcell 1 _ rfl
          have hc2 := hcell 2 _ rfl
          have hc3 := hcell 3 _ rfl
          have hc4 := hcell 4 _ rfl
          rw [Nat.add_zero] at hc0
          have hf60 := HNB.out.2 xs[q] (List.getElem_mem hq2)
          have hfl := h1w.len
          have HB1 : Hid (0 < m1 → ∀ p, B1 = some p → ¬ X p.block) := fun hm0 p hp hX => by
            obtain ⟨a', ha', hl'⟩ := h1w.lt hm0
            rw [hp] at ha'
            injection ha' with ha'
            subst ha'
            have := HSq.out.own _ hX
            omega
          have HKC : Hid (∀ W, Below w.heap.size wr W → ∀ i v, (actC xs[q] (.slice B1 m1 c1))[i]? = some v → W.cell? ⟨b, o + q * 5 + i, none⟩ = some v) := fun W hW i v hv => (hW.cell hbw).trans (hcell i v hv)
          clear hcell hcw h1w
          generalize xs[q] = a at *
          have H3 := Lib.hid h3
          have hdo := h3.do_
          clear h3
          by_cases h6 : a.do_ % 6 = 0
          · have hrm : (a.do_ : Int) % 6 = 0 := by omega
            have HDA := Lib.hid (dk_act row a h6)
            have cw : Calls Try.prog 13 #[.pointer (some ⟨g, 0, none⟩), .agg #[.int .u8 (a.do_ : Int), .int .i64 a.at_, U a.b, U a.step, .slice B1 m1 c1]] wr _ := does_any HSq.out a B1 m1 c1 H3.out h1.out HB1.out (by omega) (by have := HRL.out; show row.length ≤ 1000000; omega)
            rw [HDA.out] at cw
            unfold U at hc2 hc3 cw
            by_cases hat : 0 ≤ a.at_ ∧ a.at_ < 6
            · rw [if_pos hat] at cw
              obtain ⟨k, hk, hk6⟩ : ∃ k : Nat, a.at_ = (k : Int) ∧ k < 6 := ⟨a.at_.toNat, by omega, by omega⟩
              have hkt : a.at_.toNat = k := by omega
              rw [hkt, hk] at cw
              rw [hk] at hc1
              clear hat h6 hdo
              go_wp2_with fail
              refine cw.mono ?_
              clear cw
              rintro e w3 ⟨rfl, X3, hs, ho, hx⟩
              have HS3 : Hid (St w w3 X3 g (dk (row ++ [(k, sheet a.b a.step)]))) := hs
              have HA3 := Lib.hid (HAq.out.step ho hx)
              have HB3 : Hid (Below w.heap.size wr w3) := ⟨ho.os, ho.tape, ho.output, ho.size, fun j hj => ho.block j (Nat.lt_of_lt_of_le hj HSq.out.below.size) (fun hX => by have := HSq.out.own _ hX; omega)⟩
              clear hs ho hx
              go_wp2_with fail
              have KW : Hid (∀ W, Below w.heap.size wr W → W.cell? ⟨b, o + q * 5 + 1, none⟩ = some (.int .i64 (k : Int)) ∧ W.cell? ⟨b, o + q * 5 + 2, none⟩ = some (.int .u8 (a.b.toNat : Int)) ∧ W.cell? ⟨b, o + q * 5 + 3, none⟩ = some (.int .u8 (a.step.toNat : Int))) := fun W hW => ⟨by have := HKC.out W hW 1 _ rfl; rw [hk] at this; exact this, HKC.out W hW 2 _ rfl, HKC.out W hW 3 _ rfl⟩
              have HCS : Hid (∀ W, Calls Try.prog 19 #[.int .u8 (a.b.toNat : Int), .int .u8 (a.step.toNat : Int)] W (SheetPost a.b a.step W)) := fun W => sheet_any a.b a.step W
              have HKK : Hid ((k : Int) < 6) := by show _ < _; omega
              have v1 : (q : Int) < (n : Int) := by omega
              have HRL' := Lib.hid (lastA_set row hk6 (sheet a.b a.step))
              have HLG := Lib.hid (lastA_get row hk6)
              have BD : Hid (Below w.heap.size wr w3.drew) := HB3.out.drew
              have BD3 : Hid (Below w3.heap.size w3 w3.drew) := (Below.refl _ _).drew
              clear hc0 hc1 hc2 hc3 hc4 hk hkt h2 hbw hf60 hfl hrm hm100 hz0
              go_region_held (fun w' => w'.cell? ⟨b, o + q * 5 + 1, none⟩ = some (.int .i64 (k : Int)) ∧ w'.cell? ⟨b, o + q * 5 + 2, none⟩ = some (.int .u8 (a.b.toNat : Int)) ∧ w'.cell? ⟨b, o + q * 5 + 3, none⟩ = some (.int .u8 (a.step.toNat : Int)))
                (first | exact KW.out _ BD.out | exact KW.out _ BE.out | exact KW.out _ (BE.out.setCell (p := ⟨B, k, none⟩) HBG.out _))
                (first
                  | (go_at_call 19; refine (HCS.out _).mono ?_; rintro e we ⟨gs, cs, rfl, ho', hb', hg', hl'⟩; have BE : Hid (Below w.heap.size wr we) := BD.out.trans (hb'.mono (Nat.le_trans HSq.out.below.size BD.out.size)); have hcv := conv_string (Rd.of_own' ho') cs; have hb3 : Below w3.heap.size w3 we := BD3.out.trans hb'; have HAE := Lib.hid (HA3.out.below_ hb3); have HSE := Lib.hid (HS3.out.below_ hb3); have hcB : we.cell? ⟨B, k, none⟩ = some (.string (S (seenL row k []))) := (by rw [HAE.out.bk.cell]; exact HLG.out); have hfB : we.frozen? ⟨B, k, none⟩ = false := HAE.out.bk.frozen k; clear ho' hb' hg' hl' hb3)
                  | fail)
              all_goals
                have HSF := Lib.hid (St.cell HSE.out HAE.out.no HBG.out k (.string (S (sheet a.b a.step))))
                have HBF := HAE.out.bk.set k (.string (S (sheet a.b a.step)))
                rw [HRL'.out] at HBF
                have HAF : Hid (Apart (we.setCell ⟨B, k, none⟩ (.string (S (sheet a.b a.step)))) X3 B 9 (lastA (row ++ [(k, sheet a.b a.step)]))) := ⟨HBF, HAE.out.no⟩
                clear HBF hcv hcB hfB
                generalize we.setCell ⟨B, k, none⟩ (.string (S (sheet a.b a.step))) = wf at *
                go_wp2_with fail
                exact ⟨⟨q + 1, X3, _, by omega, rfl, HSF.out, by have := HRL.out; rw [List.length_append, List.length_cons, List.length_nil]; omega, HAF.out⟩, by simp [intOf]; omega⟩
            · rw [if_neg hat] at cw
              clear hat h6 hdo
              go_wp2_with fail
              refine cw.mono ?_
              clear cw
              rintro e w3 ⟨rfl, X3, hs, ho, hx⟩
              have HS3 : Hid (St w w3 X3 g (dk row)) := hs
              have HA3 := Lib.hid (HAq.out.step ho hx)
              clear hs ho hx
              go_wp2_with fail
              exact ⟨⟨q + 1, X3, row, by omega, rfl, HS3.out, by have := HRL.out; omega, HA3.out⟩, by simp [intOf]; omega⟩
          · have hrm : ¬ ((a.do_ : Int) % 6 = 0) := by omega
            clear h6
            go_wp2_with fail
            exact ⟨⟨q + 1, X, row, by omega, rfl, HSq.out, by have := HRL.out; omega, HAq.out⟩, by simp [intOf]; omega⟩
        · obtain rfl : q = n := by omega
          have HN : Hid (row.length ≤ 1000000) := by show _ ≤ _; have := HRL.out; omega
          have HOK : Hid (OkR 6 row) := HSq.out.at_.ok.row
          go_wp2_with fail
          have cw := sync_st HSq.out HN.out
          rw [dk_sync] at cw
          refine cw.mono ?_
          clear cw
          rintro e w3 ⟨rfl, X3, hs, ho, hx⟩
          have HS3 : Hid (St w w3 X3 g (dF row)) := hs
          have HA3 := Lib.hid (HAq.out.step ho hx)
          clear hs ho hx HSq HAq
          go_wp2_with fail
          have cw := waiting_any HS3.out.at_
          refine cw.mono ?_
          clear cw
          rintro e w4 ⟨rfl, rfl⟩
          have hrow0 : (((dF row).row.length : Nat) : Int) = 0 := rfl
          rw [hrow0]
          go_wp2_with fail
          refine (kill_st HS3.out).mono ?_
          rintro e w5 ⟨rfl, X5, hs, ho, hx⟩
          have HS5 := Lib.hid hs
          have HA5 := Lib.hid (HA3.out.step ho hx)
          clear hs ho hx HA3
          go_wp2_with fail
          have cw := restart_st HS5.out F m cF zs (HZ.out.below HS5.out.below) (fun hm0 a ha hX => by
            obtain ⟨a', ha', hl'⟩ := HZ.out.lt hm0
            rw [ha] at ha'
            injection ha' with ha'
            subst ha'
            have := HS5.out.own _ hX
            omega) (by omega) (by show ([] : List (Nat × List UInt8)).length ≤ _; exact Nat.zero_le _)
          rw [dF_back] at cw
          refine cw.mono ?_
          clear cw
          rintro e w6 ⟨rfl, X6, hs, ho, hx⟩
          have HS6 := Lib.hid hs
          have HA6 := Lib.hid (HA5.out.step ho hx)
          clear hs ho hx HA5 HS5 HS3
          go_wp2_with fail
          go_loopw [9] (fun i wr => RelP w g B row i wr) (fun i _ => 6 - (intOf i).toNat)
          case atStart => exact ⟨0, X6, by omega, rfl, HS6.out, HA6.out⟩
          case round =>
            obtain ⟨p, X7, hp, rfl, hst, hap⟩ := hrel
            have HS7 := Lib.hid hst
            have HA7 := Lib.hid hap
            clear hst hap
            by_cases hp6 : p < 6
            · have HAT := Lib.hid (dF_at row p hp6)
              have HSN := Lib.hid (dF_seen HOK.out hp6)
              have HDF := Lib.hid (seen_dflt row 6 p zeros [] HOK.out)
              have HLG := Lib.hid (lastA_get row hp6)
              have HLN : Hid ((seenL row p zeros).length = 512) := seenL_length HOK.out zeros_length
              go_wp2_with fail
              have cw := read_st HS7.out p HAT.out (by show ([] : List (Nat × List UInt8)).length ≤ _; exact Nat.zero_le _)
              rw [HSN.out] at cw
              refine cw.mono ?_
              clear cw
              rintro e w8 ⟨h, rfl, hk, hh, hs, hb⟩
              have HK8 := Lib.hid hk
              have HS8 := Lib.hid hs
              have HA8 := Lib.hid (HA7.out.below_ hb)
              have hcv := conv_string (page_rd hk HLN.out) 512
              clear hk hh hs hb
              have hcB : w8.cell? ⟨B, p, none⟩ = some (.string (S (seenL row p []))) := by rw [HA8.out.bk.cell]; exact HLG.out
              generalize seenL row p zeros = P at *
              generalize seenL row p [] = Q at *
              rcases HDF.out with ⟨rfl, rfl⟩ | ⟨rfl, hQ⟩
              · have hS0 : S [] = ⟨#[]⟩ := rfl
                rw [hS0] at hcB
                have hm5 := make_512 w8
                have hb9 : Below w8.heap.size w8 (w8.alloc (.cells (zeros.map U).toArray 5)) := (Below.refl _ _).alloc (Nat.le_refl _) _
                have hrz : Rd (w8.alloc (.cells (zeros.map U).toArray 5)) (some ⟨w8.heap.size, 0, none⟩) 512 zeros := by
                  have := rd_lit w8 5 (0, 0) zeros
                  rw [zeros_length] at this
                  exact this
                have hcz := conv_string hrz 512
                have hcv2 := conv_string (page_rd (HK8.out.below hb9) HLN.out) 512
                have HS9 := Lib.hid (HS8.out.below_ hb9)
                have HA9 := Lib.hid (HA8.out.below_ hb9)
                clear hb9 hrz hS0
                generalize zeros = Z at *
                generalize (Z.map U).toArray = ZA at *
                go_wp2_with fail
                exact ⟨⟨p + 1, X7, by omega, rfl, HS9.out, HA9.out⟩, by simp [intOf]; omega⟩
              · have hne := S_none hQ
                go_wp2_with fail
                exact ⟨⟨p + 1, X7, by omega, rfl, HS8.out, HA8.out⟩, by simp [intOf]; omega⟩
            · obtain rfl : p = 6 := by omega
              go_wp2_with fail
              refine (wakes_any wr).mono ?_
              rintro e w9 ⟨rfl, hb⟩
              have HBZ : Hid (Below w.heap.size w w9) := HS7.out.below.trans (hb.mono HS7.out.below.size)
              clear hb
              go_wp2_with fail
              go_ret
              exact ⟨rfl, HBZ.out⟩

set_option maxRecDepth 100000 in
theorem lifted (os : Os) (started : os.Started) (H : Type) (enc : TypeId × Value → H) :
    ReturnsInHanded {} Try.checked os 4 .any (Rows.diskSyncedSpec.pre6 enc Try.prog Try.f4 Rows.diskSyncedRow.domain false) (Rows.diskSyncedSpec.post enc Try.prog Try.f4 false true false false) := by
  refine returnsInHanded_of_change (C := Try.checked) own started (by kernel_rfl) Try.func4
    (ChangeSpec.witness6 (enc := enc) (C := Try.checked) false ⟨#[], #[.slice none 0 0, .slice none 0 0], []⟩ 8 (by kernel_rfl) (by kernel_rfl) (by kernel_rfl) (by kernel_rfl)) ?_
  intro W base args ds gs before hval0 hW hcnd _
  have hval : ∀ (j : Nat) t v, Try.f4.params[j]? = some t → args[j]? = some v → Value.okWide Try.prog W .any base t v := hval0
  have hW' := hW
  obtain ⟨p, q, hA0, hV, rfl, hfz, hnd⟩ := hW
  have hA : DataW.TrodAll enc Try.prog W 0 (fun _ => true) true Try.f4.params.toList args.toList ds p := hA0
  rw [Try.params4] at hA hval
  obtain ⟨v0, v1, d0, d1, p0, p1, rfl, rfl, rfl, h0, h1⟩ := trodAll_two hA
  obtain ⟨rfl, rfl⟩ := trodVars_none hV
  obtain ⟨A, n, c, xs, rfl, hnc, hc, hxs⟩ := arg_acts (hval 0 _ v0 rfl rfl) h0
  obtain ⟨F, m, cF, zs, rfl, hmc, hcF, hzs⟩ := arg_ints (hval 1 _ v1 rfl rfl) h1
  refine (walk A n c xs F m cF zs W hxs (Nat.le_trans hnc hc) hzs (Nat.le_trans hmc hcF)).mono fun e W' ⟨he, hb⟩ => ?_
  subst he
  exact ⟨_, rfl, post_true laidOut (by kernel_rfl) ty_bool (by kernel_rfl) rfl hW' hb rfl⟩

theorem over : Rows.diskSyncedRow.holds Try.pinned (OpenSpec.ofChange Rows.diskSyncedSpec) :=
  OpenClaim.holds_of_wide 4 Try.f4 rfl rfl rfl rfl rfl rfl rfl ⟨rfl, rfl, rfl, rfl, rfl⟩ rfl rfl rfl rfl rfl (by kernel_rfl) Try.func4 (by kernel_rfl)
    (of_decide_eq_true (by kernel_rfl)) (by unfold Func.isWrapper; first | (rw [if_pos (by decide +kernel)]; kernel_rfl) | (rw [if_neg (by decide +kernel)]; exact ⟨rfl, rfl⟩))
    (fun os started H enc _ => lifted os started H enc)

theorem proved : Rows.DiskSyncedSaid :=
  over
end Go.Proofs.YtjfoihbcieffdaaR.diskSynced
