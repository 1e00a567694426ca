/- The laws' own helpers: put, gone, texts that are the same, a known tree. -/
import Derived.Test.YtplbckibogmicaaGreatDoorTreeCode
import Derived.Test.YtplbckibogmicaaGreatDoorTreeTexts
import Derived.BigQuiet
import Derived.Great.BuildSlice
import Derived.Laws.Rows
namespace Go.Proofs.YtplbckibogmicaaGreatDoor.Tree
open Go.RowKit Path

def efPut (p : List UInt8) : Ef := ⟨p, false, { ZN.zero with data := p }⟩
def efGone (p : List UInt8) : Ef := ⟨p, true, ZN.zero⟩

theorem size_ef : (Tryz.prog.info? 41).map (·.size) = some 11 := by kernel_rfl
theorem size_zn : (Tryz.prog.info? 39).map (·.size) = some 9 := by kernel_rfl
theorem heap_setRow (w : World) (g : Nat) (cs old : Array Value) (t : TypeId) (h : w.heap[g]? = some (.cells old t (0, 0))) : (w.setRow g cs).heap[g]? = some (.cells cs t (0, 0)) := by
  unfold World.setRow
  simp [Array.getElem?_modify, h]
theorem below_setRow {B : Nat} {w0 w : World} (h : Below B w0 w) {g : Nat} (hg : B ≤ g) (cs : Array Value) : Below B w0 (w.setRow g cs) :=
  h.trans ⟨rfl, rfl, rfl, by simp [World.setRow], fun k hk => by simp only [World.setRow, Array.getElem?_modify]; rw [if_neg (by omega)]⟩
def efZ : Array Value := #[Value.string { data := #[] }, Value.bool false, Value.slice none 0 0, Value.int .u32 0, Value.int .u32 0, Value.int .u32 0, Value.int .i64 0, Value.int .u32 0, Value.int .u64 0, Value.int .u64 0, Value.int .u64 0]

/-- Bytes in a block of their own, from block B on. -/
def DataB (B : Nat) (w : World) (d : Value) (bs : List UInt8) : Prop := ∃ g c C fz, d = .slice (some ⟨g, 0, none⟩) bs.length c ∧ bs.length ≤ c ∧ B ≤ g ∧ w.heap[g]? = some (.cells C 5 fz) ∧ ∀ (j : Nat) (b : UInt8), bs[j]? = some b → C[j]? = some (U b)
theorem DataB.dataS {B : Nat} {w : World} {d : Value} {bs : List UInt8} (h : DataB B w d bs) : DataS (fun k => B ≤ k) w d bs := by
  obtain ⟨g, c, C, fz, rfl, hc, hB, hh, hC⟩ := h
  exact ⟨_, _, c, rfl, hc, (fun _ ad h => by injection h with h; subst h; exact hB), Rd.of_block hh hC⟩
theorem DataB.mono {B B' : Nat} {w : World} {d : Value} {bs : List UInt8} (h : DataB B w d bs) (hb : B' ≤ B) : DataB B' w d bs := by
  obtain ⟨g, c, C, fz, e, hc, hB, r⟩ := h
  exact ⟨g, c, C, fz, e, hc, by omega, r⟩
theorem DataB.keep {B : Nat} {w w' : World} {d : Value} {bs : List UInt8} (h : DataB B w d bs) (hk : ∀ (g : Nat) (C : Array Value) (fz : Nat × Nat), w.heap[g]? = some (.cells C 5 fz) → w'.heap[g]? = w.heap[g]?) : DataB B w' d bs := by
  obtain ⟨g, c, C, fz, e, hc, hB, hh, hC⟩ := h
  exact ⟨g, c, C, fz, e, hc, hB, (hk g C fz hh).trans hh, hC⟩
theorem heap_lt {w : World} {g : Nat} {o : Obj} (h : w.heap[g]? = some o) : g < w.heap.size := by
  rcases Nat.lt_or_ge g w.heap.size with h1 | h1
  · exact h1
  · rw [Array.getElem?_eq_none h1] at h; cases h
theorem DataB.below {B : Nat} {w w' : World} {d : Value} {bs : List UInt8} (h : DataB B w d bs) (hb : Below w.heap.size w w') : DataB B w' d bs := h.keep fun g _ _ hg => hb.block g (heap_lt hg)

set_option maxRecDepth 8000 in
theorem put_blk (p : List UInt8) (w : World) : Calls Tryz.prog 41 #[.string (S p)] w fun e w' => ∃ d, e = .returned (efV (efPut p) d) ∧ Below w.heap.size w w' ∧ DataB w.heap.size w' d p := by
  have hsz : (w.alloc (Obj.cells efZ 41)).heap.size = w.heap.size + 1 := by simp
  obtain ⟨c, C, fz, hcv, hc, hC⟩ := bytes_of p (w.alloc (Obj.cells efZ 41))
  rw [hsz] at hcv
  have HC := Lib.hid hC
  clear hC hsz
  unfold efZ at hcv
  go_enter Tryz.func41, Tryz.ntmps41
  go_wp2_with fail
  have hh1 := heap_alloc2_old w (.cells (efC (efPut p) (.slice (some ⟨w.heap.size + 1, 0, none⟩) p.length c)).toArray 41) (.cells C 5 fz)
  have hh2 := heap_alloc2_new w (.cells (efC (efPut p) (.slice (some ⟨w.heap.size + 1, 0, none⟩) p.length c)).toArray 41) (.cells C 5 fz)
  refine bodyPost_ret (results_cell_row rfl _ _ w.heap.size 41 _ (0, 0) _ rfl hh1 Tryz.underlying41 rfl size_ef) rfl ?_
  exact ⟨_, rfl, (((Below.refl _ _).alloc (Nat.le_refl _) _).alloc (by simp) _).drew, _, c, C, fz, rfl, hc, by omega, hh2, HC.out⟩
theorem put_any (p : List UInt8) (w : World) (_hp : p.length ≤ 1000000) : Calls Tryz.prog 41 #[.string (S p)] w fun e w' => ∃ d, e = .returned (efV (efPut p) d) ∧ Below w.heap.size w w' ∧ DataS (fun k => w.heap.size ≤ k) w' d p :=
  (put_blk p w).mono fun _ _ ⟨d, h1, h2, h3⟩ => ⟨d, h1, h2, h3.dataS⟩
theorem gone_any (p : List UInt8) (w : World) : Calls Tryz.prog 42 #[.string (S p)] w fun e w' => e = .returned (efV (efGone p) (.slice none 0 0)) ∧ Below w.heap.size w w' := by
  have HB := Lib.hid ((Below.refl w.heap.size w).alloc (Nat.le_refl _) (Obj.cells (efC (efGone p) (.slice none 0 0)).toArray 41))
  go_enter Tryz.func42, Tryz.ntmps42
  go_wp2_with fail
  refine bodyPost_ret (results_cell_row rfl _ _ w.heap.size 41 (efC (efGone p) (.slice none 0 0)).toArray (0, 0) _ rfl (heap_alloc_new _ _) Tryz.underlying41 rfl size_ef) rfl ?_
  exact ⟨rfl, HB.out⟩

/-! ### Where a law stands: its trees, and all that was there when it began -/
def St (w0 w : World) (L : List (Addr × TR)) (X : Nat → Prop) : Prop := Trees w L X ∧ Below w0.heap.size w0 w ∧ ∀ k, X k → w0.heap.size ≤ k
theorem St.start (w : World) : St w w [] (fun _ => False) := ⟨Trees.none_ w, Below.refl _ _, fun _ h => h.elim⟩
theorem St.below {w0 w w' : World} {L : List (Addr × TR)} {X : Nat → Prop} (h : St w0 w L X) (hb : Below w.heap.size w w') : St w0 w' L X := ⟨h.1.below hb, h.2.1.trans (hb.mono h.2.1.size), h.2.2⟩
theorem St.alloc {w0 w : World} {L : List (Addr × TR)} {X : Nat → Prop} (h : St w0 w L X) (o : Obj) : St w0 (w.alloc o) L X := h.below ((Below.refl _ _).alloc (Nat.le_refl _) _)
theorem St.lt {w0 w : World} {L : List (Addr × TR)} {X : Nat → Prop} (h : St w0 w L X) : ∀ k, X k → k < w.heap.size := h.1.lt
theorem St.made {w0 w w' : World} {L L' : List (Addr × TR)} {X : Nat → Prop} (h : St w0 w L X) (hm : Made w X L' w') : ∃ X', St w0 w' L' X' ∧ Out X w w' ∧ ∀ k, X' k → X k ∨ w.heap.size ≤ k := by
  obtain ⟨X', hT, ho, hX⟩ := hm
  exact ⟨X', ⟨hT, ho.below h.2.1 h.2.2 h.2.1.size, fun k hk => (hX k hk).elim (h.2.2 k) (fun h2 => Nat.le_trans h.2.1.size h2)⟩, ho, hX⟩
theorem St.setCell {w0 w : World} {L : List (Addr × TR)} {X : Nat → Prop} (h : St w0 w L X) {p : Addr} (hX : ¬ X p.block) (h0 : w0.heap.size ≤ p.block) (u : Value) : St w0 (w.setCell p u) L X :=
  ⟨h.1.keep (fun k hk => Below.heap_setCell _ _ _ _ (fun e => hX (e ▸ hk))) (by simp [World.setCell]), h.2.1.setCell h0 u, h.2.2⟩
theorem St.grown {w0 w w' : World} {L : List (Addr × TR)} {X : Nat → Prop} {row : Option Nat} (h : St w0 w L X) (hg : w.grownBy w' row) (hr : ∀ g, row = some g → ¬ X g ∧ w0.heap.size ≤ g) : St w0 w' L X :=
  ⟨h.1.keep (fun k hk => hg.block k (h.1.lt k hk) (fun e => (hr k e.symm).1 hk)) hg.size, h.2.1.grown hg h.2.1.size (fun k e => (hr k e).2), h.2.2⟩
/-- Apply of effects that are written out. -/
theorem Apply_lit (xds : List (Ef × Value)) (b i : Nat) (a : Addr) (t : TR) (w0 w : World) (L : List (Addr × TR)) (X : Nat → Prop) (hS : St w0 w L X) (hi : L[i]? = some (a, t)) (hX : ∀ k, X k → k < b) (hb : b ≤ w.heap.size) (hd : ∀ y ∈ xds, DataS (fun k => b ≤ k) w y.2 y.1.node.data) (hp : ∀ x ∈ xds.map (·.1), x.path.length ≤ 1000000 ∧ x.node.data.length ≤ 1000000) (hn : xds.length ≤ 1000000) :
    Calls Tryz.prog 17 #[.pointer (some a), .slice (some ⟨w.heap.size, 0, none⟩) (xds.length : Nat) (xds.length : Nat)] (w.alloc (.cells (xds.flatMap fun y => efC y.1 y.2).toArray 41)) fun e w' => e = .returned (.int .i64 (t.apply (xds.map (·.1))).1) ∧ ∃ X', St w0 w' (L.set i (a, (t.apply (xds.map (·.1))).2)) X' ∧ Out X w w' ∧ ∀ k, X' k → X k ∨ w.heap.size ≤ k := by
  refine (Apply_any (fun k => b ≤ k) _ _ xds.length (xds.map (·.1)) i a t _ L X (hS.alloc _).1 hi (EfS.lit xds hb hd) (fun k hk hx => by have := hX k hx; omega) hp hn).mono ?_
  rintro e w' ⟨rfl, hm⟩
  obtain ⟨X', hS', ho, hX'⟩ := (hS.alloc _).made hm
  have hsz : (w.alloc (.cells (xds.flatMap fun y => efC y.1 y.2).toArray 41)).heap.size = w.heap.size + 1 := by simp
  exact ⟨rfl, X', hS', (Out.of_below ((Below.refl _ _).alloc (Nat.le_refl _) _)).trans ho (fun k hk => .inl hk), fun k hk => or_map (hX' k hk) id (fun h => by rw [hsz] at h; omega)⟩
theorem Apply_none (i : Nat) (a : Addr) (t : TR) (w0 w : World) (L : List (Addr × TR)) (X : Nat → Prop) (hS : St w0 w L X) (hi : L[i]? = some (a, t)) :
    Calls Tryz.prog 17 #[.pointer (some a), .slice none 0 0] w fun e w' => e = .returned (.int .i64 (t.apply []).1) ∧ ∃ X', St w0 w' (L.set i (a, (t.apply []).2)) X' := by
  refine (Apply_any (fun _ => False) none 0 0 [] i a t w L X hS.1 hi (EfS.nil_ _ _ _) (fun k hk => hk.elim) (by simp) (by decide)).mono ?_
  rintro e w' ⟨rfl, hm⟩
  obtain ⟨X', hS', _, _⟩ := hS.made hm
  exact ⟨rfl, X', hS'⟩
theorem New_st (l : List UInt8) (w0 w : World) (L : List (Addr × TR)) (X : Nat → Prop) (hl : l.length ≤ 1000000) (h : (partsF l).isSome = true) (hS : St w0 w L X) : Calls Tryz.prog 14 #[.string (S l)] w fun e w' => ∃ a X', e = .returned (.tuple #[.pointer (some a), .int .i64 0]) ∧ Below w.heap.size w w' ∧ St w0 w' ((a, TR.new l) :: L) X' := by
  refine (New_yes l w L X hl h hS.1).mono ?_
  rintro e w' ⟨a, rfl, hb, hm⟩
  obtain ⟨X', hS', _, _⟩ := hS.made hm
  exact ⟨a, X', rfl, hb, hS'⟩

theorem Clone_st (i : Nat) (a : Addr) (t : TR) (w0 w : World) (L : List (Addr × TR)) (X : Nat → Prop) (hS : St w0 w L X) (hi : L[i]? = some (a, t)) :
    Calls Tryz.prog 22 #[.pointer (some a)] w fun e w' => ∃ b X', e = .returned (.pointer (some b)) ∧ Below w.heap.size w w' ∧ St w0 w' ((b, t) :: L) X' := by
  refine (Clone_any i a t w L X hS.1 hi).mono ?_
  rintro e w' ⟨b, rfl, hb, hm⟩
  obtain ⟨X', hS', _, _⟩ := hS.made hm
  exact ⟨b, X', rfl, hb, hS'⟩

/-- '[]string{..}'. -/
theorem RdV.lit (w : World) (e : TypeId) (ps : List (List UInt8)) : RdV (w.alloc (.cells (sv ps).toArray e)) (some ⟨w.heap.size, 0, none⟩) ps.length (sv ps) :=
  ⟨sv_length ps, fun _ => ⟨_, rfl, fun j v hv => by
    have hcell : ∀ (o : Obj), (w.alloc o).heap[w.heap.size]? = some o := fun o => heap_alloc_new _ _
    rw [add_off]
    simp only [World.cell?, hcell]
    rw [List.getElem?_toArray]
    exact hv⟩⟩

/-! ### A known tree -/
def pR : List UInt8 := [47, 114]
def pRa : List UInt8 := [47, 114, 47, 97]
def pRbc : List UInt8 := [47, 114, 47, 98, 47, 99]
def pRab : List UInt8 := [47, 114, 47, 97, 47, 98]
def tR1 : TR := ⟨pR, 1, [(pR, ZN.zero), (pRa, { ZN.zero with data := pRa })]⟩
theorem gr0 : (partsF pR).isSome = true := by kernel_rfl
theorem gr1 : (TR.new pR).apply [efPut pRa] = (0, tR1) := by kernel_rfl
theorem gr2 : tR1.apply [efPut pRbc] = (31, tR1) := by kernel_rfl
theorem gr3 : tR1.apply [efPut pRab, efGone pRa] = (33, tR1) := by kernel_rfl
theorem gr4 : get tR1.row pRa = some { ZN.zero with data := pRa } := by kernel_rfl
theorem gr5 : paths tR1.row = [pR, pRa] := by kernel_rfl
theorem gr6 : kids tR1.root tR1.row pR = [[97]] := by kernel_rfl

set_option maxRecDepth 8000 in
set_option maxHeartbeats 4000000 in
theorem grows_any (w : World) : Calls Tryz.prog 16 #[] w fun e w' => e = .returned (.bool true) ∧ Below w.heap.size w w' := by
  have c1 := New_st pR w w [] _ (by decide) gr0 (St.start w)
  go_enter Tryz.func16, Tryz.ntmps16
  go_wp2_with fail
  refine c1.mono ?_
  rintro e w1 ⟨a, X1, rfl, _, hS⟩
  have H1 := Lib.hid hS
  clear hS c1
  have c := put_any pRa w1 (by decide)
  go_wp2_with fail
  refine c.mono ?_
  rintro e w2 ⟨d2, rfl, hb, hd⟩
  have c3 := Apply_lit [(efPut pRa, d2)] w1.heap.size 0 a (TR.new pR) w w2 _ X1 (H1.out.below hb) rfl H1.out.lt hb.size (fun y hy => by simp at hy; subst hy; exact hd) (show ∀ x ∈ [efPut pRa], x.path.length ≤ 1000000 ∧ x.node.data.length ≤ 1000000 by decide) (by simp)
  rw [show List.map (·.1) [(efPut pRa, d2)] = [efPut pRa] from rfl, gr1] at c3
  clear hb hd c H1
  dsimp only [efV, efC, znC, efPut, ZN.zero]
  go_wp2_with fail
  refine c3.mono ?_
  rintro e w3 ⟨rfl, X3, hS, _, _⟩
  have H3 : Hid (St w w3 [(a, tR1)] X3) := hS
  clear hS c3
  have c := put_any pRbc w3 (by decide)
  go_wp2_with fail
  refine c.mono ?_
  rintro e w4 ⟨d4, rfl, hb, hd⟩
  have c3 := Apply_lit [(efPut pRbc, d4)] w3.heap.size 0 a tR1 w w4 _ X3 (H3.out.below hb) rfl H3.out.lt hb.size (fun y hy => by simp at hy; subst hy; exact hd) (show ∀ x ∈ [efPut pRbc], x.path.length ≤ 1000000 ∧ x.node.data.length ≤ 1000000 by decide) (by simp)
  rw [show List.map (·.1) [(efPut pRbc, d4)] = [efPut pRbc] from rfl, gr2] at c3
  clear hb hd c H3
  dsimp only [efV, efC, znC, efPut, ZN.zero]
  go_wp2_with fail
  refine c3.mono ?_
  rintro e w5 ⟨rfl, X5, hS, _, _⟩
  have H5 : Hid (St w w5 [(a, tR1)] X5) := hS
  clear hS c3
  have c := put_any pRab w5 (by decide)
  go_wp2_with fail
  refine c.mono ?_
  rintro e w6 ⟨d6, rfl, hb, hd⟩
  have HB := Lib.hid hb
  have HD := Lib.hid hd
  clear hb hd c
  dsimp only [efV, efC, znC, efPut, ZN.zero]
  have c := gone_any pRa w6
  go_wp2_with fail
  refine c.mono ?_
  rintro e w7 ⟨rfl, hb⟩
  have hb57 := HB.out.trans (hb.mono HB.out.size)
  have c3 := Apply_lit [(efPut pRab, d6), (efGone pRa, .slice none 0 0)] w5.heap.size 0 a tR1 w w7 _ X5 (H5.out.below hb57) rfl H5.out.lt hb57.size (fun y hy => by
    simp at hy
    rcases hy with rfl | rfl
    · exact HD.out.below hb
    · exact DataS.nil_ _ _) (show ∀ x ∈ [efPut pRab, efGone pRa], x.path.length ≤ 1000000 ∧ x.node.data.length ≤ 1000000 by decide) (by simp)
  rw [show List.map (·.1) [(efPut pRab, d6), (efGone pRa, .slice none 0 0)] = [efPut pRab, efGone pRa] from rfl, gr3] at c3
  clear hb hb57 HB HD c H5
  dsimp only [efV, efC, znC, efGone, ZN.zero]
  go_wp2_with fail
  refine c3.mono ?_
  rintro e w8 ⟨rfl, X8, hS, _, _⟩
  have H8 : Hid (St w w8 [(a, tR1)] X8) := hS
  clear hS c3
  have c := Get_yes pRa { ZN.zero with data := pRa } 0 a tR1 w8 _ X8 H8.out.1 rfl (by decide) gr4
  go_wp2_with fail
  refine c.mono ?_
  rintro e w9 ⟨A, k, cc, rfl, hb, hk, hr, hf⟩
  have H9 := Lib.hid (H8.out.below hb)
  have HR := Lib.hid hr
  clear hb hr hf c H8
  have hcv : ∀ o, (convert 33 9 (.slice A k cc)).run Tryz.prog (w9.alloc o) = .ok (.string (S pRa)) (w9.alloc o) := fun o => run_string_Rd (P := Tryz.prog) 33 9 5 ty_bytes ty_byte ty_string (HR.out.below ((Below.refl _ _).alloc (Nat.le_refl _) _)) cc
  have hsl : (S pRa).toList = [47, 114, 47, 97] := S_list _
  dsimp only [znV, znC, ZN.zero]
  go_wp2_with fail
  refine (At_any 0 a tR1 _ _ X8 (H9.out.alloc _).1 rfl).mono ?_
  rintro e w10 ⟨rfl, hb⟩
  have H10 := Lib.hid ((H9.out.alloc _).below hb)
  clear hb hcv hsl HR H9
  rw [show (tR1.cnt : Int) = 1 from rfl]
  go_wp2_with fail
  have c := Paths_any 0 a tR1 w10 _ X8 H10.out.1 rfl
  rw [gr5, show tR1.row.length = 2 from rfl] at c
  refine c.mono ?_
  rintro e w11 ⟨A1, c1, rfl, hb, hr, _⟩
  have H11 := Lib.hid (H10.out.below hb)
  have HR := Lib.hid hr
  clear hb hr c H10
  go_wp2_with fail
  have c := Texts_any A1 (some ⟨w11.heap.size, 0, none⟩) 2 c1 2 2 [pR, pRa] [pR, pRa] (w11.alloc (.cells (sv [pR, pRa]).toArray 9)) (HR.out.below ((Below.refl _ _).alloc (Nat.le_refl _) _)) (RdV.lit w11 _ [pR, pRa]) (by decide) (by decide)
  rw [decide_eq_true (rfl : [pR, pRa] = [pR, pRa])] at c
  refine c.mono ?_
  rintro e w12 ⟨rfl, hb⟩
  have H12 := Lib.hid ((H11.out.alloc _).below hb)
  clear hb HR c H11
  go_wp2_with fail
  have c := Kids_any pR 0 a tR1 w12 _ X8 H12.out.1 rfl (by decide)
  rw [gr6] at c
  refine c.mono ?_
  rintro e w13 ⟨A2, c2, rfl, hb, hr⟩
  have H13 := Lib.hid (H12.out.below hb)
  have HR := Lib.hid hr
  clear hb hr c H12
  go_wp2_with fail
  have c := Texts_any A2 (some ⟨w13.heap.size, 0, none⟩) 1 c2 1 1 [[97]] [[97]] (w13.alloc (.cells (sv [[97]]).toArray 9)) (HR.out.below ((Below.refl _ _).alloc (Nat.le_refl _) _)) (RdV.lit w13 _ [[97]]) (by decide) (by decide)
  rw [decide_eq_true (rfl : [[97]] = ([[97]] : List (List UInt8)))] at c
  refine c.mono ?_
  rintro e w14 ⟨rfl, hb⟩
  have H14 := Lib.hid ((H13.out.alloc _).below hb)
  clear hb HR c H13
  go_wp2_with fail
  go_ret
  exact ⟨rfl, H14.out.2.1⟩
end Go.Proofs.YtplbckibogmicaaGreatDoor.Tree
