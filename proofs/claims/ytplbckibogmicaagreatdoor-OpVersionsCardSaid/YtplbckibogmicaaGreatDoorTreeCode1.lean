/- The contracts of tree's calls that go through no iterator. -/
import Derived.Test.YtplbckibogmicaaGreatDoorTreeMem
import Derived.Test.YtplbckibogmicaaGreatDoorShelf2
import Derived.Deep.RegionHeld3
import Derived.BigQuiet
import Derived.Lib.SliceRun
import Derived.Great.BuildSlice
import Derived.Laws.Rows
namespace Go.Proofs.YtplbckibogmicaaGreatDoor.Tree
open Go.RowKit Path

theorem size_znode : (Tryz.prog.info? 39).map (·.size) = some 9 := by kernel_rfl
theorem Below.setRow_ {B : Nat} {w0 w : World} (h : Below B w0 w) {g : Nat} (hg : B ≤ g) (cs : Array Value) : Below B w0 (w.setRow g cs) :=
  h.trans ⟨rfl, rfl, rfl, by simp [World.setRow], fun k hk => by simp only [World.setRow, Array.getElem?_modify]; rw [if_neg (by omega)]⟩

set_option maxRecDepth 8000 in
theorem has_any (p : List UInt8) {D : Nat → Prop} {g b : Nat} {t : TR} (w : World) (h : TreeAt w D g b t) (hp : p.length ≤ 1000000) :
    Calls Tryz.prog 60 #[.pointer (some ⟨g, 0, none⟩), .string (S p)] w fun e w' => e = .returned (.bool (has t.row p)) ∧ Below w.heap.size w w' := by
  obtain ⟨n, _, hl, A, k, c, rfl, _⟩ := h.look p hp
  have hc : w.cell? ⟨g, 2, none⟩ = some (.map (some b)) := h.bk.cell 2
  dsimp only [znV, znC] at hl
  clear h
  generalize has t.row p = r at *
  go_enter Tryz.func60, Tryz.ntmps60
  go_wp2_with fail
  go_ret
  exact ⟨rfl, ((Below.refl _ w).alloc (Nat.le_refl _) _)⟩
theorem has_nil (p : List UInt8) (w : World) : Calls Tryz.prog 60 #[.pointer none, .string (S p)] w fun e w' => e = .returned (.bool false) ∧ w' = w := by
  go_enter Tryz.func60, Tryz.ntmps60
  go_wp2_with fail
  go_ret
  exact ⟨rfl, rfl⟩

/-! ### Bytes of one's own -/
theorem own_lit0' (w : World) (e : TypeId) : (w.alloc (.cells #[] e)).ownsRow w.heap.size e 1 (.slice (some ⟨w.heap.size, 0, none⟩) 0 0) 0 ([] : List Value) :=
  ⟨rfl, .inr ⟨w.heap.size, 0, #[], rfl, Nat.le_refl _, heap_alloc_new w _, Nat.le_refl _, by unfold maxLen; omega, rfl, rfl⟩⟩
theorem info_byte : (Tryz.prog.info? 5).map (fun i => (i.zero, i.size, i.bytes)) = some (some (.int .u8 0), 1, 1) := by kernel_rfl
/-- A copy of bytes, new from B on. -/
def Copied (B : Nat) (w : World) (d : Value) (bs : List UInt8) : Prop := ∃ A n c, d = .slice A n c ∧ n ≤ c ∧ Rd w A n bs ∧ (0 < n → ∃ g, A = some ⟨g, 0, none⟩ ∧ B ≤ g ∧ ∀ j, j < n → w.frozen? ⟨g, j, none⟩ = false)
theorem Copied.dataS {B : Nat} {w : World} {d : Value} {bs : List UInt8} (h : Copied B w d bs) : DataS (fun k => B ≤ k) w d bs := by
  obtain ⟨A, n, c, rfl, hc, hr, hf⟩ := h
  refine ⟨A, n, c, rfl, hc, fun h0 ad e => ?_, hr⟩
  obtain ⟨g, e1, hB, _⟩ := hf h0
  rw [e] at e1
  injection e1 with e1
  subst e1
  exact hB
theorem Copied.below {B : Nat} {w w' : World} {d : Value} {bs : List UInt8} (h : Copied B w d bs) (hb : Below w.heap.size w w') : Copied B w' d bs := by
  obtain ⟨A, n, c, rfl, hc, hr, hf⟩ := h
  refine ⟨A, n, c, rfl, hc, hr.below hb, fun h0 => ?_⟩
  obtain ⟨g, e1, hB, hfr⟩ := hf h0
  refine ⟨g, e1, hB, fun j hj => ?_⟩
  obtain ⟨ad, e2, hcell⟩ := hr.cells h0
  rw [e1] at e2
  injection e2 with e2
  subst e2
  have hj' : j < bs.length := by have := hr.len; omega
  have h2 := hcell j bs[j] (List.getElem?_eq_getElem hj')
  rw [add_off] at h2
  rw [hb.frozen (p := ⟨g, j, none⟩) (World.block_lt_of_cell? w _ h2)]
  exact hfr j hj
theorem Copied.keep {B : Nat} {w w' : World} {d : Value} {bs : List UInt8} (h : Copied B w d bs) (hk : ∀ k, B ≤ k → w'.heap[k]? = w.heap[k]?) : Copied B w' d bs := by
  obtain ⟨A, n, c, rfl, hc, hr, hf⟩ := h
  refine ⟨A, n, c, rfl, hc, ⟨hr.len, fun h0 => ?_⟩, fun h0 => ?_⟩
  · obtain ⟨g, e1, hB, hfr⟩ := hf h0
    obtain ⟨ad, e2, hcell⟩ := hr.cells h0
    refine ⟨ad, e2, fun j b hb => ?_⟩
    have : B ≤ ad.block := by
      rw [e1] at e2
      injection e2 with e2
      subst e2
      exact hB
    exact (World.cell?_of_block (w := w) (hk _ (by rw [add_block]; exact this))).trans (hcell j b hb)
  · obtain ⟨g, e1, hB, hfr⟩ := hf h0
    refine ⟨g, e1, hB, fun j hj => ?_⟩
    rw [← hfr j hj]
    simp only [World.frozen?, hk g hB]
theorem Copied.mono {B B' : Nat} {w : World} {d : Value} {bs : List UInt8} (h : Copied B w d bs) (hB : B' ≤ B) : Copied B' w d bs := by
  obtain ⟨A, n, c, rfl, hc, hr, hf⟩ := h
  exact ⟨A, n, c, rfl, hc, hr, fun h0 => by obtain ⟨g, e1, h1, h2⟩ := hf h0; exact ⟨g, e1, by omega, h2⟩⟩
theorem heap_setCell_ne (w : World) (g i k : Nat) (u : Value) (h : k ≠ g) : (w.setCell ⟨g, i, none⟩ u).heap[k]? = w.heap[k]? := Below.heap_setCell _ _ _ _ h
theorem set9 {w : World} {g : Nat} {t : TypeId} {a0 a1 a2 a3 a4 a5 a6 a7 a8 : Value} (h : Bk w g t #[a0, a1, a2, a3, a4, a5, a6, a7, a8]) (b0 b1 b2 b3 b4 b5 b6 b7 b8 : Value) :
    Bk (((((((((w.setCell ⟨g, 0, none⟩ b0).setCell ⟨g, 1, none⟩ b1).setCell ⟨g, 2, none⟩ b2).setCell ⟨g, 3, none⟩ b3).setCell ⟨g, 4, none⟩ b4).setCell ⟨g, 5, none⟩ b5).setCell ⟨g, 6, none⟩ b6).setCell ⟨g, 7, none⟩ b7).setCell ⟨g, 8, none⟩ b8) g t #[b0, b1, b2, b3, b4, b5, b6, b7, b8] := by
  simpa using ((((((((h.set 0 b0).set 1 b1).set 2 b2).set 3 b3).set 4 b4).set 5 b5).set 6 b6).set 7 b7).set 8 b8
theorem copied_of_own {B n : Nat} {w : World} {v : Value} {bs : List UInt8} (h : w.ownsRow B 5 1 v n (bs.map U)) : Copied B w v bs := by
  have h' := h
  obtain ⟨hl, h2 | ⟨g, cap, cur, rfl, hB, hg, hnc, _, hsz, hread⟩⟩ := h
  · obtain ⟨rfl, rfl⟩ := h2
    have : bs = [] := List.eq_nil_of_length_eq_zero (by simpa using hl)
    subst this
    exact ⟨none, 0, 0, rfl, Nat.le_refl _, Rd.nil_ _ _, fun h => absurd h (by omega)⟩
  · refine ⟨_, n, cap, rfl, hnc, (Rd.of_own h').1, fun _ => ⟨g, rfl, hB, fun j _ => ?_⟩⟩
    exact Bk.frozen (t := 5) (cs := cur) hg j
set_option maxRecDepth 8000 in
theorem bclone_any (A : Option Addr) (n c : Nat) (bs : List UInt8) (w : World) (hr : Rd w A n bs) (hle : n ≤ 1000000) :
    Calls Tryz.prog 84 #[.slice A n c] w fun e w' => ∃ d, e = .returned d ∧ Below w.heap.size w w' ∧ Copied w.heap.size w' d bs := by
  have H := Lib.hid hr
  cases A with
  | none =>
    have h0 : n = 0 := by
      rcases Nat.eq_zero_or_pos n with h | h
      · exact h
      · obtain ⟨_, e', _⟩ := hr.cells h
        cases e'
    subst h0
    have hb0 : bs = [] := List.eq_nil_of_length_eq_zero hr.len
    subst hb0
    clear hr
    have heq := Lib.run_eql_slice_nil (P := Tryz.prog) w 33 5 none 0 c 0 0 ty_bytes
    go_enter Tryz.func84, Tryz.ntmps84
    go_wp2_with fail
    go_ret
    exact ⟨_, rfl, Below.refl _ _, none, 0, 0, rfl, Nat.le_refl _, Rd.nil_ _ _, fun h => absurd h (by omega)⟩
  | some ad =>
    clear hr
    obtain ⟨i, hi, hz0, hz1, hz2⟩ := infos info_byte
    have HI := Lib.hid hi
    have HZ0 := Lib.hid hz0
    have HZ1 := Lib.hid hz1
    have HZ2 := Lib.hid hz2
    clear hi hz0 hz1 hz2
    have heq := Lib.run_eql_slice_nil (P := Tryz.prog) w 33 5 (some ad) n c 0 0 ty_bytes
    go_enter Tryz.func84, Tryz.ntmps84
    have HBa := Lib.hid ((Below.refl w.heap.size w).alloc (Nat.le_refl _) (.cells #[] 5))
    go_wp2_with (at_builtin; refine wpList_append_Rd rfl (.tmp 5) (.tmp 6) _ rfl ty_bytes HI.out HZ0.out HZ1.out HZ2.out rfl rfl (own_lit0' w 5) rfl (H.out.below HBa.out) (by omega) (by simp) ?_)
    intro v' w3 hown3 hgr3
    have HO3 := Lib.hid hown3
    have HB3 := Lib.hid (HBa.out.grown hgr3 HBa.out.size (fun g hg => ((own_lit0' w 5).lt g hg).1))
    clear hown3 hgr3
    go_wp2_with fail
    go_ret
    exact ⟨_, rfl, HB3.out, copied_of_own (by simpa using HO3.out)⟩

set_option maxRecDepth 8000 in
theorem copyOf_any {P : Nat → Prop} (n : ZN) (d : Value) (w : World) (hd : DataS P w d n.data) (hlen : n.data.length ≤ 1000000) :
    Calls Tryz.prog 61 #[znV n d] w fun e w' => ∃ d', e = .returned (znV n d') ∧ Below w.heap.size w w' ∧ Copied w.heap.size w' d' n.data := by
  obtain ⟨A, k, c, rfl, _, _, hr⟩ := hd
  have hk : k ≤ 1000000 := by have := hr.len; omega
  have hb2 : Below w.heap.size w ((w.alloc (.cells (znC n (.slice A k c)).toArray 39)).alloc (.cells (znC ZN.zero (.slice none 0 0)).toArray 39)) := ((Below.refl _ _).alloc (Nat.le_refl _) _).alloc (by simp) _
  have cc := bclone_any A k c n.data _ (hr.below hb2) hk
  have HB2 := Lib.hid hb2
  dsimp only [znC, ZN.zero] at cc
  clear hb2
  dsimp only [znV, znC]
  go_enter Tryz.func61, Tryz.ntmps61
  go_wp2_with fail
  refine cc.mono ?_
  rintro e w3 ⟨d', rfl, hb3, hc3⟩
  have B0 : Bk w3 w.heap.size 39 (znC n (.slice A k c)).toArray := ((Bk.new w _ _).alloc _).below hb3
  have B1 : Bk w3 (w.heap.size + 1) 39 (znC ZN.zero (.slice none 0 0)).toArray := by
    have := (Bk.new (w.alloc (.cells (znC n (.slice A k c)).toArray 39)) 39 (znC ZN.zero (.slice none 0 0)).toArray).below hb3
    simpa using this
  have HB3 := Lib.hid (HB2.out.trans (hb3.mono HB2.out.size))
  have HC : Hid (Copied (w.heap.size + 2) w3 d' n.data) := by
    show Copied _ _ _ _
    simpa using hc3
  clear cc hb3 hc3
  have hc0 := B0.cell
  have hf0 := B0.frozen
  have hc1 := B1.cell
  have hf1 := B1.frozen
  dsimp only [znC, ZN.zero] at hc0 hc1
  obtain ⟨A', k', c', rfl, hcx⟩ := HC.out
  clear B0
  clear hcx
  go_wp2_with fail
  have hh := set9 (B1.kept (heap_setCell_ne w3 w.heap.size 0 _ (.slice A' k' c') (by omega))) (.slice A' k' c') (.int .u32 n.ver) (.int .u32 n.kin) (.int .u32 n.next) (.int .i64 n.site) (.int .u32 n.own) (.int .u64 n.made) (.int .u64 n.chg) (.int .u64 n.tch)
  refine bodyPost_ret (results_cell_row rfl _ _ (w.heap.size + 1) 39 _ (0, 0) _ rfl hh Tryz.underlying39 rfl size_znode) rfl ?_
  have hle := HB3.out.size
  refine ⟨_, rfl, ?_, ?_⟩
  · exact ((((((((((HB3.out.setCell (by simp) _).setCell (by simp) _).setCell (by simp) _).setCell (by simp) _).setCell (by simp) _).setCell (by simp) _).setCell (by simp) _).setCell (by simp) _).setCell (by simp) _).setCell (by simp) _)
  · refine (HC.out.keep fun k hk => ?_).mono (by omega)
    simp only [heap_setCell_ne _ _ _ k _ (show k ≠ w.heap.size + 1 by omega), heap_setCell_ne _ _ _ k _ (show k ≠ w.heap.size by omega)]

/-! ### New -/
set_option maxRecDepth 8000 in
theorem New_no (l : List UInt8) (w : World) (hl : l.length ≤ 1000000) (h : partsF l = none) : Calls Tryz.prog 14 #[.string (S l)] w fun e w' => e = .returned (.tuple #[.pointer none, .int .i64 30]) ∧ Below w.heap.size w w' := by
  have c := Check_any l w hl
  have hE : checkE l = 30 := by unfold checkE; rw [h]; rfl
  rw [hE] at c
  clear hE h
  go_enter Tryz.func14, Tryz.ntmps14
  go_wp2_with fail
  refine c.mono ?_
  rintro e w1 ⟨rfl, hb⟩
  have HB := Lib.hid hb
  clear hb c
  go_wp2_with fail
  go_ret2
  exact ⟨rfl, HB.out⟩
set_option maxRecDepth 8000 in
theorem New_at (l : List UInt8) (w : World) (hl : l.length ≤ 1000000) (h : (partsF l).isSome = true) : Calls Tryz.prog 14 #[.string (S l)] w fun e w' => ∃ g b, e = .returned (.tuple #[.pointer (some ⟨g, 0, none⟩), .int .i64 0]) ∧ Below w.heap.size w w' ∧ w.heap.size ≤ g ∧ w.heap.size ≤ b ∧ TreeAt w' (fun _ => False) g b (TR.new l) := by
  have c := Check_any l w hl
  have hE : checkE l = 0 := by unfold checkE; rw [h]; rfl
  rw [hE] at c
  have HP := Lib.hid h
  clear hE h
  go_enter Tryz.func14, Tryz.ntmps14
  go_wp2_with fail
  refine c.mono ?_
  rintro e w1 ⟨rfl, hb⟩
  have HB := Lib.hid hb
  clear hb c
  obtain ⟨w2, hrun, hown, hturn⟩ := (World.ownsMap_made w1 Tryz.prog 9 (zR (fun _ => False) w1)).store keys ty_map (by unfold maxLen; omega) (key_of l hl) (zR_mk (n := ZN.zero) (DataS.nil_ _ w1))
  have HO := Lib.hid hown
  have HT := Lib.hid hturn
  clear hown hturn
  dsimp only [znV, znC, ZN.zero] at hrun
  have hmm := @run_makeMap Tryz.prog
  go_wp2_with fail
  go_ret2
  have hw1 := HB.out.size
  have hB1 : Below w.heap.size w (w1.alloc (.map #[] 0)) := HB.out.alloc HB.out.size _
  have hB2 : Below w.heap.size w w2 := hB1.grown HT.out.grown hB1.size (fun k e => by cases e; exact hw1)
  refine ⟨_, _, rfl, hB2.alloc hB2.size _, hB2.size, hw1, Bk.new _ _ _, ?_, good_new HP.out, by show (0 : Nat) < _; decide, fun _ h => h.elim, fun x hx => by simp [TR.new] at hx; subst hx; simp [ZN.zero]⟩
  have := owns_kept (w' := w2.alloc (Obj.cells #[Value.string (S l), Value.int IntKind.u64 0, Value.map (some w1.heap.size)] 89)) (D' := fun _ => False) HO.out (Below.heap_alloc _ _ _ HO.out.lt) (fun _ h => h.elim) (fun _ h => h)
  exact this

/-! ### Root, At, Clone, Get -/
set_option maxRecDepth 8000 in
theorem Root_at {D : Nat → Prop} {g b : Nat} {t : TR} (w : World) (h : TreeAt w D g b t) : Calls Tryz.prog 46 #[.pointer (some ⟨g, 0, none⟩)] w fun e w' => e = .returned (.string (S t.root)) ∧ w' = w := by
  have hc : w.cell? ⟨g, 0, none⟩ = some (.string (S t.root)) := h.bk.cell 0
  clear h
  go_enter Tryz.func46, Tryz.ntmps46
  go_wp2_with fail
  go_ret
  exact ⟨rfl, rfl⟩
theorem Root_nil (w : World) : Calls Tryz.prog 46 #[.pointer none] w fun e w' => e = .returned (.string ⟨#[]⟩) ∧ Below w.heap.size w w' := by
  go_enter Tryz.func46, Tryz.ntmps46
  go_wp2_with fail
  go_ret
  exact ⟨rfl, Below.refl _ _⟩
set_option maxRecDepth 8000 in
theorem At_at {D : Nat → Prop} {g b : Nat} {t : TR} (w : World) (h : TreeAt w D g b t) : Calls Tryz.prog 31 #[.pointer (some ⟨g, 0, none⟩)] w fun e w' => e = .returned (.int .u64 (t.cnt : Int)) ∧ w' = w := by
  have hc : w.cell? ⟨g, 1, none⟩ = some (.int .u64 (t.cnt : Int)) := h.bk.cell 1
  clear h
  go_enter Tryz.func31, Tryz.ntmps31
  go_wp2_with fail
  go_ret
  exact ⟨rfl, rfl⟩
theorem At_nil (w : World) : Calls Tryz.prog 31 #[.pointer none] w fun e w' => e = .returned (.int .u64 0) ∧ Below w.heap.size w w' := by
  go_enter Tryz.func31, Tryz.ntmps31
  go_wp2_with fail
  go_ret
  exact ⟨rfl, Below.refl _ _⟩
set_option maxRecDepth 8000 in
theorem Clone_at {D : Nat → Prop} {g b : Nat} {t : TR} (w : World) (h : TreeAt w D g b t) : Calls Tryz.prog 22 #[.pointer (some ⟨g, 0, none⟩)] w fun e w' => ∃ g' b', e = .returned (.pointer (some ⟨g', 0, none⟩)) ∧ Below w.heap.size w w' ∧ w.heap.size ≤ g' ∧ w.heap.size ≤ b' ∧ TreeAt w' D g' b' t := by
  have hc0 : w.cell? ⟨g, 0, none⟩ = some (.string (S t.root)) := h.bk.cell 0
  have hc1 : w.cell? ⟨g, 1, none⟩ = some (.int .u64 (t.cnt : Int)) := h.bk.cell 1
  have hc2 : w.cell? ⟨g, 2, none⟩ = some (.map (some b)) := h.bk.cell 2
  have H := Lib.hid h
  obtain ⟨es, clock, hb, F, hs, hD⟩ := h.map
  have CC := Lib.hid (fun W (hW : W.heap[b]? = some (.map es clock)) => (show Calls Tryz.prog 49 #[.map (some b)] W fun e w' => e = .returned (.map (some W.heap.size)) ∧ w' = W.alloc (.map es clock) from AnyW.maps_Clone Tryz.cloneA b es clock W hW))
  have HM : Hid (w.heap[b]? = some (.map es clock)) := hb
  have HC := Lib.hid (fun W (hW : Below w.heap.size w W) => (⟨(hW.cell (p := ⟨g, 0, none⟩) h.bk.lt).trans hc0, (hW.cell (p := ⟨g, 1, none⟩) h.bk.lt).trans hc1, (hW.cell (p := ⟨g, 2, none⟩) h.bk.lt).trans hc2⟩ : W.cell? ⟨g, 0, none⟩ = some (.string (S t.root)) ∧ W.cell? ⟨g, 1, none⟩ = some (.int .u64 (t.cnt : Int)) ∧ W.cell? ⟨g, 2, none⟩ = some (.map (some b))))
  have HMAP := Lib.hid (fun (W : World) (c : Nat) (hW : W.heap[c]? = some (.map es clock)) => (⟨es, clock, hW, F, hs, hD⟩ : W.ownsMap Tryz.prog 9 (zR D w) c t.row.length (mapD t.row)))
  have B1 := Lib.hid (Below.refl w.heap.size w).drew
  have B2 := Lib.hid ((Below.refl w.heap.size w).drew.alloc (Nat.le_refl _) (.map es clock))
  have B3 := Lib.hid ((((Below.refl w.heap.size w).alloc (Nat.le_refl _) (.map es clock)).alloc (by simp) (.cells #[.string (S t.root), .int .u64 (t.cnt : Int), .map (some w.heap.size)] 89)).drew)
  clear hb F hs hD h
  go_enter Tryz.func22, Tryz.ntmps22
  go_wp2_with fail
  clear hc0 hc1 hc2
  go_region_held3 (fun w' => w'.cell? ⟨g, 0, none⟩ = some (.string (S t.root)) ∧ w'.cell? ⟨g, 1, none⟩ = some (.int .u64 (t.cnt : Int)) ∧ w'.cell? ⟨g, 2, none⟩ = some (.map (some b)))
    (first | assumption | exact HC.out _ B1.out | exact HC.out _ B2.out | exact HC.out _ B3.out)
    (first | (go_at_call 49; refine (CC.out w.drew HM.out).mono ?_; rintro e w' ⟨rfl, rfl⟩))
  go_wp2_with fail
  go_ret
  have hB : Below w.heap.size w (((w.alloc (.map es clock)).alloc (.cells #[.string (S t.root), .int .u64 (t.cnt : Int), .map (some w.heap.size)] 89)).drew) := (((Below.refl _ _).alloc (Nat.le_refl _) _).alloc (by simp) _).drew
  have hbk : Bk (((w.alloc (.map es clock)).alloc (.cells #[.string (S t.root), .int .u64 (t.cnt : Int), .map (some w.heap.size)] 89)).drew) (w.heap.size + 1) 89 #[.string (S t.root), .int .u64 (t.cnt : Int), .map (some w.heap.size)] := by
    have := Bk.new (w.alloc (.map es clock)) 89 #[.string (S t.root), .int .u64 (t.cnt : Int), .map (some w.heap.size)]
    rw [World.size_alloc] at this
    exact this
  have hm : (w.alloc (.map es clock)).ownsMap Tryz.prog 9 (zR D w) w.heap.size t.row.length (mapD t.row) := HMAP.out (w.alloc (.map es clock)) w.heap.size (heap_alloc_new _ _)
  refine ⟨_, _, rfl, hB, by omega, Nat.le_refl _, hbk, owns_kept hm (Below.heap_alloc (w.alloc (.map es clock)) _ _ hm.lt) (fun k hk => hB.block k (H.out.dlt k hk)) (fun _ h => h), H.out.good, H.out.cnt, fun k hk => Nat.lt_of_lt_of_le (H.out.dlt k hk) hB.size, H.out.small⟩
theorem Clone_nil (w : World) : Calls Tryz.prog 22 #[.pointer none] w fun e w' => e = .returned (.pointer none) ∧ Below w.heap.size w w' := by
  go_enter Tryz.func22, Tryz.ntmps22
  go_wp2_with fail
  go_ret
  exact ⟨rfl, Below.refl _ _⟩

theorem results_row_tmp {P : Program} {fn : Func} {p u : Tmp} {ty : TypeId} (h : fn.results = #[.cell p ty, .tmp u]) (tmps : Array Value) (w : World) (g : Nat) (t : TypeId) (cs : Array Value) (fr : Nat × Nat) (d : TypeDesc)
    (hp : tmps.getD p undef = .pointer (some ⟨g, 0, none⟩)) (hg : w.heap[g]? = some (.cells cs t fr))
    (hu : P.underlying ty = some d) (hd : (match d with | .struct _ | .array _ _ => true | _ => false) = true) (hi : (P.info? ty).map (·.size) = some cs.size) :
    (results fn tmps).run P w = .ok (.tuple #[.agg cs, tmps.getD u undef]) w := by
  have hp' : tmps[p]?.getD undef = .pointer (some ⟨g, 0, none⟩) := by simpa using hp
  simp [results, h, hp', asAddr, run_loadVar_row w g t ty cs fr d hg hu hd hi, Result.andThen]

set_option maxRecDepth 8000 in
theorem Get_at (p : List UInt8) (n : ZN) {D : Nat → Prop} {g b : Nat} {t : TR} (w : World) (h : TreeAt w D g b t) (hp : p.length ≤ 1000000) (hn : n.data.length ≤ 1000000) (hg : get t.row p = some n) :
    Calls Tryz.prog 32 #[.pointer (some ⟨g, 0, none⟩), .string (S p)] w fun e w' => ∃ d, e = .returned (.tuple #[znV n d, .bool true]) ∧ Below w.heap.size w w' ∧ Copied w.heap.size w' d n.data := by
  have B1 := Lib.hid ((Below.refl w.heap.size w).alloc (Nat.le_refl _) (.cells (znC ZN.zero (.slice none 0 0)).toArray 39))
  have c1 := has_any p _ (h.below B1.out) hp
  have hhas : has t.row p = true := by rw [has_get, hg]; rfl
  rw [hhas] at c1
  have H := Lib.hid h
  have HG := Lib.hid hg
  clear hhas hg h
  dsimp only [znC, ZN.zero] at c1
  dsimp only [znV, znC]
  go_enter Tryz.func32, Tryz.ntmps32
  go_wp2_with fail
  refine c1.mono ?_
  rintro e w2 ⟨rfl, hb⟩
  have hb1 := B1.out
  dsimp only [znC, ZN.zero] at hb1
  have B2 := Lib.hid (hb1.trans (hb.mono hb1.size))
  have K2 : Bk w2 w.heap.size 39 (znC ZN.zero (.slice none 0 0)).toArray := (Bk.new w _ _).below hb
  clear c1 hb hb1
  have h2 := H.out.below B2.out
  obtain ⟨d, hl, hd⟩ := h2.find p hp n HG.out
  have c3 := copyOf_any n d w2 hd hn
  have hc : w2.cell? ⟨g, 2, none⟩ = some (.map (some b)) := h2.bk.cell 2
  obtain ⟨A0, k0, c0, rfl, hd'⟩ := hd
  clear hd' h2
  dsimp only [znV, znC] at hl c3
  go_wp2_with fail
  refine c3.mono ?_
  rintro e w3 ⟨d3, rfl, hb3, hc3⟩
  have K3 : Bk w3 w.heap.size 39 (znC ZN.zero (.slice none 0 0)).toArray := K2.below hb3
  have B3 := Lib.hid (B2.out.trans (hb3.mono B2.out.size))
  have HC := Lib.hid hc3
  have HLT := Lib.hid (K2.lt)
  obtain ⟨A', k', c', rfl, hcx⟩ := hc3
  clear hcx hb3 K2 c3 hc
  have hc1 := K3.cell
  have hf1 := K3.frozen
  dsimp only [znC, ZN.zero] at hc1
  go_wp2_with fail
  have hh := set9 K3 (.slice A' k' c') (.int .u32 n.ver) (.int .u32 n.kin) (.int .u32 n.next) (.int .i64 n.site) (.int .u32 n.own) (.int .u64 n.made) (.int .u64 n.chg) (.int .u64 n.tch)
  refine bodyPost_ret (results_row_tmp rfl _ _ w.heap.size 39 _ (0, 0) _ rfl hh Tryz.underlying39 rfl size_znode) rfl ?_
  have hle := HLT.out
  refine ⟨_, rfl, ?_, ?_⟩
  · exact (((((((((B3.out.setCell (Nat.le_refl _) _).setCell (Nat.le_refl _) _).setCell (Nat.le_refl _) _).setCell (Nat.le_refl _) _).setCell (Nat.le_refl _) _).setCell (Nat.le_refl _) _).setCell (Nat.le_refl _) _).setCell (Nat.le_refl _) _).setCell (Nat.le_refl _) _)
  · refine (HC.out.keep fun k hk => ?_).mono (by omega)
    simp only [heap_setCell_ne _ _ _ k _ (show k ≠ w.heap.size by omega)]
set_option maxRecDepth 8000 in
theorem Get_none (p : List UInt8) {D : Nat → Prop} {g b : Nat} {t : TR} (w : World) (h : TreeAt w D g b t) (hp : p.length ≤ 1000000) (hg : get t.row p = none) :
    Calls Tryz.prog 32 #[.pointer (some ⟨g, 0, none⟩), .string (S p)] w fun e w' => ∃ A c, e = .returned (.tuple #[znV ZN.zero (.slice A 0 c), .bool false]) ∧ Below w.heap.size w w' := by
  have B1 := Lib.hid ((Below.refl w.heap.size w).alloc (Nat.le_refl _) (.cells (znC ZN.zero (.slice none 0 0)).toArray 39))
  have c1 := has_any p _ (h.below B1.out) hp
  have hhas : has t.row p = false := by rw [has_get, hg]; rfl
  rw [hhas] at c1
  clear hhas hg h
  dsimp only [znC, ZN.zero] at c1
  dsimp only [znV, znC, ZN.zero]
  go_enter Tryz.func32, Tryz.ntmps32
  go_wp2_with fail
  refine c1.mono ?_
  rintro e w2 ⟨rfl, hb⟩
  have hb1 := B1.out
  dsimp only [znC, ZN.zero] at hb1
  have B2 := Lib.hid (hb1.trans (hb.mono hb1.size))
  have K3 : Bk w2 w.heap.size 39 (znC ZN.zero (.slice none 0 0)).toArray := (Bk.new w _ _).below hb
  clear c1 hb hb1
  have hc1 := K3.cell
  have hf1 := K3.frozen
  dsimp only [znC, ZN.zero] at hc1
  go_wp2_with fail
  have hh := set9 K3 (.slice none 0 0) (.int .u32 0) (.int .u32 0) (.int .u32 0) (.int .i64 0) (.int .u32 0) (.int .u64 0) (.int .u64 0) (.int .u64 0)
  refine bodyPost_ret (results_row_tmp rfl _ _ w.heap.size 39 _ (0, 0) _ rfl hh Tryz.underlying39 rfl size_znode) rfl ?_
  refine ⟨_, _, rfl, ?_⟩
  exact (((((((((B2.out.setCell (Nat.le_refl _) _).setCell (Nat.le_refl _) _).setCell (Nat.le_refl _) _).setCell (Nat.le_refl _) _).setCell (Nat.le_refl _) _).setCell (Nat.le_refl _) _).setCell (Nat.le_refl _) _).setCell (Nat.le_refl _) _).setCell (Nat.le_refl _) _)
set_option maxRecDepth 8000 in
theorem Get_nil (p : List UInt8) (w : World) : Calls Tryz.prog 32 #[.pointer none, .string (S p)] w fun e w' => ∃ A c, e = .returned (.tuple #[znV ZN.zero (.slice A 0 c), .bool false]) ∧ Below w.heap.size w w' := by
  have B1 := Lib.hid ((Below.refl w.heap.size w).alloc (Nat.le_refl _) (.cells (znC ZN.zero (.slice none 0 0)).toArray 39))
  have K3 : Bk (w.alloc (.cells (znC ZN.zero (.slice none 0 0)).toArray 39)) w.heap.size 39 (znC ZN.zero (.slice none 0 0)).toArray := Bk.new w _ _
  dsimp only [znV, znC, ZN.zero]
  go_enter Tryz.func32, Tryz.ntmps32
  go_wp2_with fail
  refine (has_nil p _).mono ?_
  rintro e w2 ⟨rfl, rfl⟩
  go_wp2_with fail
  refine bodyPost_ret (results_row_tmp rfl _ _ w.heap.size 39 _ (0, 0) _ rfl K3 Tryz.underlying39 rfl size_znode) rfl ?_
  exact ⟨_, _, rfl, B1.out⟩
end Go.Proofs.YtplbckibogmicaaGreatDoor.Tree
