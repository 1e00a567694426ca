/- Lemmas, part 28: StoNext, StoFits -/
import Derived.Test.YtiijclibcfgnpaaGreatBase16
import Derived.Maps.AppendAt
import Derived.Lib.AppendZeros
import Derived.Test.YtiijclibcfgnpaaGreatBase27
namespace Go.Proofs.YtiijclibcfgnpaaGreat.Sto
open Go.RowKit Disk Log

def mayR (x : Ln) (t : Nat) : Bool := decide (1 ≤ x.epoch ∧ x.epoch ≤ t ∧ 1 ≤ x.bytes.length ∧ x.bytes.length ≤ 4096)
theorem mayR_top (x : Ln) : mayR x top = lineB x := by
  have q := lineB_iff (x := x)
  unfold mayR
  rw [Bool.eq_iff_iff, q, decide_eq_true_iff]
theorem mayR_iff {x : Ln} {e : Nat} (he : e ≤ top) : mayR x e = true ↔ lineB x = true ∧ x.epoch ≤ e := by
  have q := lineB_iff (x := x)
  unfold mayR
  rw [q, decide_eq_true_iff]
  omega
set_option maxRecDepth 100000 in
set_option maxHeartbeats 4000000 in
theorem may9_any (x : Ln) (t : Nat) (B : Option Addr) (m c : Nat) (w : World) (hx : x.bytes.length = m) :
    Calls Tryz.prog 97 #[.agg #[.int .u64 (x.epoch : Int), .slice B m c], .int .u64 (t : Int)] w fun e w' => e = .returned (.bool (mayR x t)) ∧ Below w.heap.size w w' := by
  have HB0 : Hid (Below w.heap.size w (w.alloc (.cells #[.int .u64 (x.epoch : Int), .slice B m c] 80))) := (Below.refl _ _).alloc (Nat.le_refl _) _
  have HX := Lib.hid hx
  clear hx
  go_enter Tryz.func97, Tryz.ntmps97
  go_wp2_with fail
  all_goals
    go_ret
    refine ⟨congrArg (fun q => Ending.returned (.bool q)) (?_ : _ = mayR x t), HB0.out⟩
    have hx := HX.out
    unfold mayR
    rw [Bool.eq_iff_iff]
    simp only [decide_eq_true_eq, Bool.false_eq_true, false_iff]
    omega
theorem results_cell_row9 {P : Program} {fn : Func} {p u : Tmp} {ty : TypeId} (h : fn.results = #[.cell p ty, .tmp u]) (tmps : Array Value) (w : World) (g : Nat) (t : TypeId) (cs : Array Value) (fr : Nat × Nat) (d : TypeDesc)
    (hp : tmps.getD p undef = .pointer (some ⟨g, 0, none⟩)) (hg : w.heap[g]? = some (.cells cs t fr))
    (hu : P.underlying ty = some d) (hd : (match d with | .struct _ | .array _ _ => true | _ => false) = true) (hi : (P.info? ty).map (·.size) = some cs.size) :
    (results fn tmps).run P w = .ok (.tuple #[.agg cs, tmps.getD u undef]) w := by
  have hp' : tmps[p]?.getD undef = .pointer (some ⟨g, 0, none⟩) := by simpa using hp
  simp [results, h, hp', asAddr, run_loadVar_row w g t ty cs fr d hg hu hd hi]
theorem size_kept9 : (Tryz.prog.info? 35).map (·.size) = some 3 := by kernel_rfl
def set3 (w : World) (g : Nat) (a b c : Value) : World := ((w.setCell ⟨g, 0, none⟩ a).setCell ⟨g, 1, none⟩ b).setCell ⟨g, 2, none⟩ c
theorem set3_bk {w : World} {g : Nat} {t : TypeId} {x0 x1 x2 : Value} (h : Bk w g t #[x0, x1, x2]) (a b c : Value) : Bk (set3 w g a b c) g t #[a, b, c] := by
  have q := ((h.set 0 a).set 1 b).set 2 c
  unfold set3
  simpa using q
theorem set3_out (w : World) (g : Nat) (a b c : Value) : Out (fun k => k = g) w (set3 w g a b c) := by
  have q : ∀ (w : World) (i : Nat) (u : Value), Out (fun k => k = g) w (w.setCell ⟨g, i, none⟩ u) := fun w i u => Out.setCell (X := fun k => k = g) w (p := ⟨g, i, none⟩) rfl u
  exact ((q w 0 a).trans (q _ 1 b) fun _ h => .inl h).trans (q _ 2 c) fun _ h => .inl h
theorem lns_of_row9 {P : Nat → Prop} {w : World} {base : Nat} {A : Option Addr} {c : Nat} {ls : List Ln} {vs : List Value} (h : w.ownsRow base 80 2 (.slice A ls.length c) ls.length (lnsC ls vs)) (hv : LnV P w vs ls) : LnS (fun b => P b ∨ (base ≤ b ∧ ∃ a, A = some a ∧ a.block = b)) w A ls.length ls := by
  have h1 := lns_of_row h hv
  have h2 := h.2
  refine ⟨rfl, fun j x hj => ?_⟩
  obtain ⟨b, o, B, m, c2, q1, q2, q3, q4, q5, q6, q7⟩ := h1.at_ j x hj
  obtain ⟨B', m', c', r1, r2, r3, r4⟩ := hv.at_ j x hj
  have g1 := lnsC_get ls vs j 1 x _ hj r1 (by omega)
  have hjl := (List.getElem?_eq_some_iff.1 hj).1
  rcases h2 with ⟨_, h0⟩ | ⟨g, cap, cur, e, hg, hh, _⟩
  · omega
  · injection e with e
    rw [e] at q1
    injection q1 with q1
    injection q1 with q1 q8
    subst q1 q8
    have hc := h.cells (g := g) (by rw [e]; rfl) _ _ g1
    rw [add_plain, show 2 * j + 1 = 0 + j * 2 + 1 from by omega, q4] at hc
    injection hc with hc
    injection hc with hc1 hc2 hc3
    subst hc1 hc2 hc3
    exact ⟨g, 0, B, m, c2, e, .inr ⟨hg, _, e, rfl⟩, q3, q4, q5, q6, fun b hb h0 => .inl (r4 b hb h0)⟩
theorem lns_lt {P : Nat → Prop} {w : World} {A : Option Addr} {n : Nat} {ls : List Ln} (h : LnS P w A n ls) : LnS (fun k => P k ∧ k < w.heap.size) w A n ls :=
  ⟨h.len, fun j x hj => by
    obtain ⟨b, o, B, m, c, h1, h2, h3, h4, h5, h6, h7⟩ := h.at_ j x hj
    refine ⟨b, o, B, m, c, h1, ⟨h2, World.block_lt_of_cell? w ⟨b, o + j * 2, none⟩ h3⟩, h3, h4, h5, h6, fun a ha h0 => ⟨h7 a ha h0, ?_⟩⟩
    obtain ⟨ad, e, hc⟩ := h6.cells (by omega)
    rw [ha] at e
    injection e with e
    subst e
    have hl : 0 < x.bytes.length := by rw [h6.len]; omega
    have := World.block_lt_of_cell? w _ (hc 0 _ (List.getElem?_eq_getElem hl))
    rwa [addr_add_block] at this⟩
theorem run_append_lines0 {base : Nat} {W : World} {v : Value} {n : Nat} {xs : List Value} (hown : W.ownsRow base 80 2 v n xs) {B : Option Addr} {m : Nat} (c : Nat) {ms : List Ln} {us : List Value} (hB : ∀ ad, B = some ad → ∀ j u, (lnsC ms us)[j]? = some u → W.cell? (ad.add j) = some u) (hBn : B = none → m = 0) (hms : ms.length = m) (hus : us.length = ms.length) (h1 : ∀ u ∈ lnsC ms us, u.oneCell' = true) (hm : n + m ≤ 1000000) (hbase : base ≤ W.heap.size) :
    ∃ v' W', (Builtin.append_ #[33, 33] 33 #[v, .slice B m c]).run Tryz.prog W = .ok v' W' ∧ W'.ownsRow base 80 2 v' (n + m) (xs ++ lnsC ms us) ∧ W.grownBy W' v.ownBlock := by
  obtain ⟨i0, hi, hz0, hz1, hz2⟩ := info_parts info_line
  have hlen := lnsC_length ms us hus.symm
  cases B with
  | some ad =>
    obtain ⟨v', W', h2, h3, h4, _, _⟩ := run_append_own_at (P := Tryz.prog) (w := W) base 33 33 80 i0 _ 2 32 line_form hi hz0 hz1 hz2 rfl (by decide) v n xs hown ad m c (lnsC ms us) (by rw [hlen, hms]; omega) (hB ad rfl) h1 (by unfold maxLen; omega) (by omega) hbase
    exact ⟨v', W', h2, h3, h4⟩
  | none =>
    obtain rfl := hBn rfl
    obtain rfl : ms = [] := List.eq_nil_of_length_eq_zero hms
    have hx : lnsC [] us = [] := by cases us <;> rfl
    refine ⟨v, W, ?_, by rw [hx]; simpa using hown, ⟨rfl, rfl, rfl, Nat.le_refl _, fun _ _ _ => rfl⟩⟩
    rcases hown.2 with ⟨rfl, rfl⟩ | ⟨g, cap, cur, rfl, _, _, hnc, _⟩
    · simp [Builtin.append_, run_underlying line_form, sizeOf, typeInfo, hi, Builtin.lenOf, Builtin.firstCells]
    · simp [Builtin.append_, run_underlying line_form, sizeOf, typeInfo, hi, Builtin.lenOf, Builtin.firstCells, hnc, storeCells]
def nextD (D : Deed) (k : Kp) : Kp := if D.may k = true then D.run k else k
def errD (D : Deed) (k : Kp) : Int := if D.may k = true then 0 else 1
def NextP (Y : Nat → Prop) (k : Kp) (f : Int) (w : World) (e : Ending) (w' : World) : Prop := ∃ A c, e = .returned (.tuple #[kpV k A c, .int .i64 f]) ∧ LnS (fun b => Y b ∨ (w.heap.size ≤ b ∧ ∃ a, A = some a ∧ a.block = b)) w' A k.lines.length k.lines ∧ Below w.heap.size w w'
set_option maxRecDepth 100000 in
set_option maxHeartbeats 4000000 in
theorem rprom_any {P : Nat → Prop} (k : Kp) (A : Option Addr) (c : Nat) (e : Nat) (w : World) (hk : LnS P w A k.lines.length k.lines) (hf : Fine k) (_he : e < 18446744073709551616) :
    Calls Tryz.prog 56 #[kpV k A c, .int .u64 (e : Int)] w (NextP P (nextD (.prom e) k) (errD (.prom e) k) w) := by
  have HL := Lib.hid hk
  have p1 := hf.prom
  have p2 := hf.cur
  have p3 := hf.many
  unfold top at p1
  clear hk hf
  by_cases hm : (Deed.prom e).may k = true
  · have e1 : nextD (.prom e) k = ⟨e, k.current, k.lines⟩ := if_pos hm
    have e2 : errD (.prom e) k = 0 := if_pos hm
    replace e1 := Lib.hid e1
    replace e2 := Lib.hid e2
    rw [may_prom] at hm
    obtain ⟨m1, m2⟩ := hm
    unfold top at m2
    unfold kpV
    go_enter Tryz.func56, Tryz.ntmps56
    go_wp2_with fail
    have h3 : Bk ((w.alloc (.cells #[.int .u64 (e : Int), .int .u64 (k.current : Int), .slice A k.lines.length c] 35)).alloc (.cells #[.int .u64 (e : Int), .int .u64 (k.current : Int), .slice A k.lines.length c] 35)) (w.heap.size + 1) 35 #[.int .u64 (e : Int), .int .u64 (k.current : Int), .slice A k.lines.length c] := by
      have q := Bk.new (w.alloc (.cells #[.int .u64 (e : Int), .int .u64 (k.current : Int), .slice A k.lines.length c] 35)) 35 #[.int .u64 (e : Int), .int .u64 (k.current : Int), .slice A k.lines.length c]
      rw [World.size_alloc] at q
      exact q
    have hb : Below w.heap.size w ((w.alloc (.cells #[.int .u64 (e : Int), .int .u64 (k.current : Int), .slice A k.lines.length c] 35)).alloc (.cells #[.int .u64 (e : Int), .int .u64 (k.current : Int), .slice A k.lines.length c] 35)) := ((Below.refl _ _).alloc (Nat.le_refl _) _).alloc (by simp) _
    refine bodyPost_ret (results_cell_row9 rfl _ _ (w.heap.size + 1) 35 _ (0, 0) _ rfl h3 Tryz.underlying35 rfl size_kept9) rfl ?_
    rw [e1.out, e2.out]
    exact ⟨A, c, rfl, (HL.out.mono fun _ h => .inl h).below hb, hb⟩
  · have e1 : nextD (.prom e) k = k := if_neg hm
    have e2 : errD (.prom e) k = 1 := if_neg hm
    replace e1 := Lib.hid e1
    replace e2 := Lib.hid e2
    rw [may_prom] at hm
    unfold top at hm
    unfold kpV
    go_enter Tryz.func56, Tryz.ntmps56
    go_wp2_with fail
    all_goals first
      | (exfalso; omega)
      | skip
    all_goals
      have h3 : Bk ((w.alloc (.cells #[.int .u64 (k.promised : Int), .int .u64 (k.current : Int), .slice A k.lines.length c] 35)).alloc (.cells #[.int .u64 (k.promised : Int), .int .u64 (k.current : Int), .slice A k.lines.length c] 35)) (w.heap.size + 1) 35 #[.int .u64 (k.promised : Int), .int .u64 (k.current : Int), .slice A k.lines.length c] := by
        have q := Bk.new (w.alloc (.cells #[.int .u64 (k.promised : Int), .int .u64 (k.current : Int), .slice A k.lines.length c] 35)) 35 #[.int .u64 (k.promised : Int), .int .u64 (k.current : Int), .slice A k.lines.length c]
        rw [World.size_alloc] at q
        exact q
      have hb : Below w.heap.size w ((w.alloc (.cells #[.int .u64 (k.promised : Int), .int .u64 (k.current : Int), .slice A k.lines.length c] 35)).alloc (.cells #[.int .u64 (k.promised : Int), .int .u64 (k.current : Int), .slice A k.lines.length c] 35)) := ((Below.refl _ _).alloc (Nat.le_refl _) _).alloc (by simp) _
      refine bodyPost_ret (results_cell_row9 rfl _ _ (w.heap.size + 1) 35 _ (0, 0) _ rfl h3 Tryz.underlying35 rfl size_kept9) rfl ?_
      rw [e1.out, e2.out]
      exact ⟨A, c, rfl, (HL.out.mono fun _ h => .inl h).below hb, hb⟩
def RelN (w : World) (k : Kp) (A : Option Addr) (c : Nat) (l : List Ln) (ok : Ln → Prop) (n : Nat) (i : Value) (wr : World) : Prop := ∃ j : Nat, j ≤ n ∧ i = .int .i64 (j : Int) ∧ (∀ x ∈ l.take j, ok x) ∧ Below w.heap.size w wr ∧ Bk wr w.heap.size 35 #[.int .u64 (k.promised : Int), .int .u64 (k.current : Int), .slice A k.lines.length c] ∧ Bk wr (w.heap.size + 1) 35 #[.int .u64 0, .int .u64 0, .slice none 0 0]
theorem take_snoc9 {α : Type} (l : List α) (k : Nat) (x : α) (h : l[k]? = some x) : l.take (k + 1) = l.take k ++ [x] := by
  rw [List.take_add_one, h]
  rfl
set_option maxRecDepth 100000 in
set_option maxHeartbeats 4000000 in
theorem radopt_any {P : Nat → Prop} (k : Kp) (A : Option Addr) (c : Nat) {Q : Nat → Prop} (e : Nat) (l : List Ln) (B : Option Addr) (m d : Nat) (w : World) (hk : LnS P w A k.lines.length k.lines) (hf : Fine k) (_he : e < 18446744073709551616) (hl : LnS Q w B m l) (hm : m ≤ 1000000) :
    Calls Tryz.prog 57 #[kpV k A c, .int .u64 (e : Int), .slice B m d] w (NextP (fun b => P b ∨ Q b) (nextD (.adopt e l) k) (errD (.adopt e l) k) w) := by
  have HL := Lib.hid hk
  have HF := Lib.hid hf
  obtain ⟨W0, hW0⟩ : ∃ W0, W0 = (w.alloc (.cells #[.int .u64 (k.promised : Int), .int .u64 (k.current : Int), .slice A k.lines.length c] 35)).alloc (.cells #[.int .u64 0, .int .u64 0, .slice none 0 0] 35) := ⟨_, rfl⟩
  have hb0 : Below w.heap.size w W0 := by rw [hW0]; exact ((Below.refl _ _).alloc (Nat.le_refl _) _).alloc (by simp) _
  have hk0 : Bk W0 w.heap.size 35 #[.int .u64 (k.promised : Int), .int .u64 (k.current : Int), .slice A k.lines.length c] := by rw [hW0]; exact (Bk.new w _ _).alloc _
  have hz0 : Bk W0 (w.heap.size + 1) 35 #[.int .u64 0, .int .u64 0, .slice none 0 0] := by
    have q := Bk.new (w.alloc (.cells #[.int .u64 (k.promised : Int), .int .u64 (k.current : Int), .slice A k.lines.length c] 35)) 35 #[.int .u64 0, .int .u64 0, .slice none 0 0]
    rw [World.size_alloc] at q
    rw [hW0]
    exact q
  have HB0 := Lib.hid hb0
  have HK0 := Lib.hid hk0
  have HZ0 := Lib.hid hz0
  clear hb0 hk0 hz0
  have k0 := HK0.out.cell 0
  have z0 := HZ0.out.cell 0
  have y0 := HZ0.out.frozen 0
  have x0 := HK0.out.frozen 0
  have k1 := HK0.out.cell 1
  have z1 := HZ0.out.cell 1
  have y1 := HZ0.out.frozen 1
  have x1 := HK0.out.frozen 1
  have k2 := HK0.out.cell 2
  have z2 := HZ0.out.cell 2
  have y2 := HZ0.out.frozen 2
  have x2 := HK0.out.frozen 2
  simp at k0 k1 k2 z0 z1 z2
  have p1 := hf.prom
  have p2 := hf.cur
  have p3 := hf.many
  unfold top at p1
  clear hk hf
  have HLL := Lib.hid hl
  clear hl
  obtain rfl : m = l.length := HLL.out.len.symm
  by_cases hp : k.promised ≤ e ∧ k.current < e ∧ e ≤ 281474976710656 ∧ l.length ≤ 256
  · obtain ⟨q1, q2, q3, q4⟩ := hp
    have HMAY : Hid ((Deed.adopt e l).may k = true ↔ ∀ x ∈ l, mayR x e = true) := by
      show _ ↔ _
      rw [may_adopt]
      exact ⟨fun h x hx => (mayR_iff h.2.2.1).2 (h.2.2.2.2 x hx), fun h => ⟨q1, q2, q3, q4, fun x hx => (mayR_iff q3).1 (h x hx)⟩⟩
    obtain ⟨m, hmm⟩ : ∃ m, m = l.length := ⟨_, rfl⟩
    rw [← hmm] at q4 ⊢
    rw [← hmm] at HLL hm
    clear hmm
    have i1 : ¬ (e : Int) < (k.promised : Int) := by omega
    have i2 : ¬ (e : Int) ≤ (k.current : Int) := by omega
    have i3 : ¬ (281474976710656 : Int) < (e : Int) := by omega
    have i4 : ¬ (256 : Int) < (m : Int) := by omega
    have i5 : ¬ e < k.promised := by omega
    have i6 : ¬ e ≤ k.current := by omega
    unfold kpV
    rw [hW0] at k0 k1 k2 z0 z1 z2 y0 y1 y2 x0 x1 x2
    go_enter Tryz.func57, Tryz.ntmps57
    go_wp2_with fail
    clear i1 i2 i3 i4 i5 i6 k0 k1 k2 z0 z1 z2 y0 y1 y2 x0 x1 x2
    rw [← hW0]
    go_loopw [8] (fun i wr => RelN w k A c l (fun x => mayR x e = true) m i wr) (fun i _ => m - (intOf i).toNat)
    case atStart => exact ⟨0, Nat.zero_le _, rfl, by simp, HB0.out, HK0.out, HZ0.out⟩
    case round =>
      clear HB0 HK0 HZ0
      obtain ⟨j, hj, rfl, hall, hbe, hbk, hbz⟩ := hrel
      have HALL := Lib.hid hall
      have HBE := Lib.hid hbe
      have HK := Lib.hid hbk
      have HZ := Lib.hid hbz
      clear hall hbe hbk hbz
      by_cases hlt : j < m
      · obtain ⟨x, hx⟩ : ∃ x, l[j]? = some x := ⟨_, List.getElem?_eq_getElem (by have := HLL.out.len; omega)⟩
        obtain ⟨b1, o1, B1, m1, c1, e1, -, q1, q2, -, q4, -⟩ := (HLL.out.below HBE.out).at_ j x hx
        subst e1
        have HX := Lib.hid hx
        have HLX := Lib.hid q4.len
        clear hx q4
        go_wp2_with fail
        refine (may9_any x e B1 m1 c1 wr HLX.out).mono ?_
        rintro _ w1 ⟨rfl, hb1⟩
        have HBE1 := Lib.hid (HBE.out.trans (hb1.mono HBE.out.size))
        have HK1 := Lib.hid (HK.out.below hb1)
        have HZ1 := Lib.hid (HZ.out.below hb1)
        clear hb1
        have k0 := HK1.out.cell 0
        have z0 := HZ1.out.cell 0
        have y0 := HZ1.out.frozen 0
        have x0 := HK1.out.frozen 0
        have k1 := HK1.out.cell 1
        have z1 := HZ1.out.cell 1
        have y1 := HZ1.out.frozen 1
        have x1 := HK1.out.frozen 1
        have k2 := HK1.out.cell 2
        have z2 := HZ1.out.cell 2
        have y2 := HZ1.out.frozen 2
        have x2 := HK1.out.frozen 2
        simp at k0 k1 k2 z0 z1 z2
        by_cases hx : mayR x e = true
        · rw [hx]
          have HXT := Lib.hid hx
          clear hx k0 k1 k2 z0 z1 z2 y0 y1 y2 x0 x1 x2
          go_wp2_with fail
          refine ⟨⟨j + 1, by omega, rfl, ?_, HBE1.out, HK1.out, HZ1.out⟩, by simp [intOf]; omega⟩
          rw [take_snoc9 _ j x HX.out]
          intro y hy
          rcases List.mem_append.1 hy with hy | hy
          · exact HALL.out y hy
          · rw [List.mem_singleton.1 hy]; exact HXT.out
        · have hxf : mayR x e = false := by simpa using hx
          rw [hxf]
          have hm : ¬ (Deed.adopt e l).may k = true := fun h => hx (HMAY.out.1 h x (List.mem_of_getElem? HX.out))
          have e1 : nextD (.adopt e l) k = k := if_neg hm
          have e2 : errD (.adopt e l) k = 1 := if_neg hm
          replace e1 := Lib.hid e1
          replace e2 := Lib.hid e2
          clear hx hxf hm
          go_wp2_with fail
          have h3 := set3_bk HZ1.out (.int .u64 (k.promised : Int)) (.int .u64 (k.current : Int)) (.slice A k.lines.length c)
          have o3 := set3_out w1 (w.heap.size + 1) (.int .u64 (k.promised : Int)) (.int .u64 (k.current : Int)) (.slice A k.lines.length c)
          have hb := o3.below HBE1.out (fun b hb => by rw [hb]; exact Nat.le_succ _) HBE1.out.size
          refine bodyPost_ret (results_cell_row9 rfl _ _ (w.heap.size + 1) 35 _ (0, 0) _ rfl h3 Tryz.underlying35 rfl size_kept9) rfl ?_
          rw [e1.out, e2.out]
          exact ⟨A, c, rfl, (HL.out.mono fun _ h => .inl (.inl h)).below hb, hb⟩
      · obtain rfl : j = m := by omega
        have hm : (Deed.adopt e l).may k = true := HMAY.out.2 (by
          have := HALL.out
          rwa [List.take_of_length_le (by have := HLL.out.len; omega)] at this)
        have e1 : nextD (.adopt e l) k = ⟨e, e, l⟩ := if_pos hm
        have e2 : errD (.adopt e l) k = 0 := if_pos hm
        replace e1 := Lib.hid e1
        replace e2 := Lib.hid e2
        clear hm
        have k0 := HK.out.cell 0
        have z0 := HZ.out.cell 0
        have y0 := HZ.out.frozen 0
        have x0 := HK.out.frozen 0
        have k1 := HK.out.cell 1
        have z1 := HZ.out.cell 1
        have y1 := HZ.out.frozen 1
        have x1 := HK.out.frozen 1
        have k2 := HK.out.cell 2
        have z2 := HZ.out.cell 2
        have y2 := HZ.out.frozen 2
        have x2 := HK.out.frozen 2
        simp at k0 k1 k2 z0 z1 z2
        go_wp2_with fail
        have h3 := set3_bk HZ.out (.int .u64 (e : Int)) (.int .u64 (e : Int)) (.slice B j d)
        have o3 := set3_out wr (w.heap.size + 1) (.int .u64 (e : Int)) (.int .u64 (e : Int)) (.slice B j d)
        have hb := o3.below HBE.out (fun b hb => by rw [hb]; exact Nat.le_succ _) HBE.out.size
        refine bodyPost_ret (results_cell_row9 rfl _ _ (w.heap.size + 1) 35 _ (0, 0) _ rfl h3 Tryz.underlying35 rfl size_kept9) rfl ?_
        rw [e1.out, e2.out]
        have hlj := HLL.out.len
        exact ⟨B, d, by unfold kpV; rw [hlj]; rfl, by rw [hlj]; exact (HLL.out.mono fun _ h => .inl (.inr h)).below hb, hb⟩
  · have hm2 : ¬ (Deed.adopt e l).may k = true := fun h => by
      rw [may_adopt] at h
      exact hp ⟨h.1, h.2.1, h.2.2.1, h.2.2.2.1⟩
    have e1 : nextD (.adopt e l) k = k := if_neg hm2
    have e2 : errD (.adopt e l) k = 1 := if_neg hm2
    replace e1 := Lib.hid e1
    replace e2 := Lib.hid e2
    clear hm2 hW0 HB0 HK0 HZ0 k0 k1 k2 z0 z1 z2 y0 y1 y2 x0 x1 x2
    unfold kpV
    go_enter Tryz.func57, Tryz.ntmps57
    go_wp2_with fail
    all_goals first
      | (exfalso; omega)
      | skip
    all_goals
      have h3 : Bk ((w.alloc (.cells #[.int .u64 (k.promised : Int), .int .u64 (k.current : Int), .slice A k.lines.length c] 35)).alloc (.cells #[.int .u64 (k.promised : Int), .int .u64 (k.current : Int), .slice A k.lines.length c] 35)) (w.heap.size + 1) 35 #[.int .u64 (k.promised : Int), .int .u64 (k.current : Int), .slice A k.lines.length c] := by
        have q := Bk.new (w.alloc (.cells #[.int .u64 (k.promised : Int), .int .u64 (k.current : Int), .slice A k.lines.length c] 35)) 35 #[.int .u64 (k.promised : Int), .int .u64 (k.current : Int), .slice A k.lines.length c]
        rw [World.size_alloc] at q
        exact q
      have hb : Below w.heap.size w ((w.alloc (.cells #[.int .u64 (k.promised : Int), .int .u64 (k.current : Int), .slice A k.lines.length c] 35)).alloc (.cells #[.int .u64 (k.promised : Int), .int .u64 (k.current : Int), .slice A k.lines.length c] 35)) := ((Below.refl _ _).alloc (Nat.le_refl _) _).alloc (by simp) _
      refine bodyPost_ret (results_cell_row9 rfl _ _ (w.heap.size + 1) 35 _ (0, 0) _ rfl h3 Tryz.underlying35 rfl size_kept9) rfl ?_
      rw [e1.out, e2.out]
      exact ⟨A, c, rfl, (HL.out.mono fun _ h => .inl (.inl h)).below hb, hb⟩
set_option maxRecDepth 100000 in
set_option maxHeartbeats 4000000 in
theorem rappend_any {P : Nat → Prop} (k : Kp) (A : Option Addr) (c : Nat) {Q : Nat → Prop} (l : List Ln) (B : Option Addr) (m d : Nat) (w : World) (hk : LnS P w A k.lines.length k.lines) (hf : Fine k) (hl : LnS Q w B m l) (hPQ : ∀ b, P b ∨ Q b → b < w.heap.size) (hm : m ≤ 1000000) :
    Calls Tryz.prog 58 #[kpV k A c, .slice B m d] w (NextP (fun b => P b ∨ Q b) (nextD (.add l) k) (errD (.add l) k) w) := by
  have HL := Lib.hid hk
  have HF := Lib.hid hf
  obtain ⟨W0, hW0⟩ : ∃ W0, W0 = (w.alloc (.cells #[.int .u64 (k.promised : Int), .int .u64 (k.current : Int), .slice A k.lines.length c] 35)).alloc (.cells #[.int .u64 0, .int .u64 0, .slice none 0 0] 35) := ⟨_, rfl⟩
  have hb0 : Below w.heap.size w W0 := by rw [hW0]; exact ((Below.refl _ _).alloc (Nat.le_refl _) _).alloc (by simp) _
  have hk0 : Bk W0 w.heap.size 35 #[.int .u64 (k.promised : Int), .int .u64 (k.current : Int), .slice A k.lines.length c] := by rw [hW0]; exact (Bk.new w _ _).alloc _
  have hz0 : Bk W0 (w.heap.size + 1) 35 #[.int .u64 0, .int .u64 0, .slice none 0 0] := by
    have q := Bk.new (w.alloc (.cells #[.int .u64 (k.promised : Int), .int .u64 (k.current : Int), .slice A k.lines.length c] 35)) 35 #[.int .u64 0, .int .u64 0, .slice none 0 0]
    rw [World.size_alloc] at q
    rw [hW0]
    exact q
  have HB0 := Lib.hid hb0
  have HK0 := Lib.hid hk0
  have HZ0 := Lib.hid hz0
  clear hb0 hk0 hz0
  have k0 := HK0.out.cell 0
  have z0 := HZ0.out.cell 0
  have y0 := HZ0.out.frozen 0
  have x0 := HK0.out.frozen 0
  have k1 := HK0.out.cell 1
  have z1 := HZ0.out.cell 1
  have y1 := HZ0.out.frozen 1
  have x1 := HK0.out.frozen 1
  have k2 := HK0.out.cell 2
  have z2 := HZ0.out.cell 2
  have y2 := HZ0.out.frozen 2
  have x2 := HK0.out.frozen 2
  simp at k0 k1 k2 z0 z1 z2
  have p1 := hf.prom
  have p2 := hf.cur
  have p3 := hf.many
  unfold top at p1
  clear hk hf
  have HLL := Lib.hid hl
  have HPQ := Lib.hid hPQ
  clear hPQ
  clear hl
  obtain rfl : m = l.length := HLL.out.len.symm
  by_cases hp : 0 < l.length ∧ l.length + k.lines.length ≤ 256
  · obtain ⟨q1, q2⟩ := hp
    have HMAY : Hid ((Deed.add l).may k = true ↔ ∀ x ∈ l, lineB x = true ∧ x.epoch = k.current) := by
      show _ ↔ _
      rw [may_add]
      exact ⟨fun h => h.2.2, fun h => ⟨q1, q2, h⟩⟩
    obtain ⟨m, hmm⟩ : ∃ m, m = l.length := ⟨_, rfl⟩
    rw [← hmm] at q1 q2 ⊢
    rw [← hmm] at HLL hm
    clear hmm
    have i1 : ((m : Int) == 0) = false := by simp only [beq_eq_false_iff_ne]; omega
    have i2 : ¬ (256 : Int) < (k.lines.length : Int) + (m : Int) := by omega
    unfold kpV
    rw [hW0] at k0 k1 k2 z0 z1 z2 y0 y1 y2 x0 x1 x2
    go_enter Tryz.func58, Tryz.ntmps58
    go_wp2_with fail
    clear i1 i2 k0 k1 k2 z0 z1 z2 y0 y1 y2 x0 x1 x2
    rw [← hW0]
    go_loopw [6] (fun i wr => RelN w k A c l (fun x => lineB x = true ∧ x.epoch = k.current) m i wr) (fun i _ => m - (intOf i).toNat)
    case atStart => exact ⟨0, Nat.zero_le _, rfl, by simp, HB0.out, HK0.out, HZ0.out⟩
    case round =>
      clear HB0 HK0 HZ0
      obtain ⟨j, hj, rfl, hall, hbe, hbk, hbz⟩ := hrel
      have HALL := Lib.hid hall
      have HBE := Lib.hid hbe
      have HK := Lib.hid hbk
      have HZ := Lib.hid hbz
      clear hall hbe hbk hbz
      by_cases hlt : j < m
      · obtain ⟨x, hx⟩ : ∃ x, l[j]? = some x := ⟨_, List.getElem?_eq_getElem (by have := HLL.out.len; omega)⟩
        obtain ⟨b1, o1, B1, m1, c1, e1, -, q1, q2, -, q4, -⟩ := (HLL.out.below HBE.out).at_ j x hx
        subst e1
        have HX := Lib.hid hx
        have HLX := Lib.hid q4.len
        clear hx q4
        have HV : Hid (∀ V, Below wr.heap.size wr V → V.cell? ⟨b1, o1 + j * 2, none⟩ = some (.int .u64 (x.epoch : Int)) ∧ V.cell? ⟨b1, o1 + j * 2 + 1, none⟩ = some (.slice B1 m1 c1) ∧ V.cell? ⟨w.heap.size, 1, none⟩ = some (.int .u64 (k.current : Int))) := fun V hV => ⟨(hV.cell (World.block_lt_of_cell? wr _ q1)).trans q1, (hV.cell (World.block_lt_of_cell? wr _ q2)).trans q2, (HK.out.below hV).cell 1⟩
        have HMY : Hid (∀ V, Calls Tryz.prog 97 #[.agg #[.int .u64 (x.epoch : Int), .slice B1 m1 c1], .int .u64 281474976710656] V fun e w' => e = .returned (.bool (lineB x)) ∧ Below V.heap.size V w') := fun V => by
          have q := may9_any x 281474976710656 B1 m1 c1 V HLX.out
          rw [show mayR x 281474976710656 = lineB x from mayR_top x] at q
          exact q
        have BD := Lib.hid (Below.refl wr.heap.size wr).drew
        have hj0 : (0 : Int) ≤ (j : Int) := Int.natCast_nonneg _
        have hj1 : (j : Int) < (m : Int) := by omega
        clear q1 q2
        by_cases hx : lineB x = true
        · rw [hx] at HMY
          by_cases hy : x.epoch = k.current
          · have HXT := Lib.hid (And.intro hx hy)
            have hyy : ((x.epoch : Int) != (k.current : Int)) = false := by rw [hy]; simp
            clear hx hy
            go_wp2_with fail
            go_region_held3 (fun w' => w'.cell? ⟨b1, o1 + j * 2, none⟩ = some (.int .u64 (x.epoch : Int)) ∧ w'.cell? ⟨b1, o1 + j * 2 + 1, none⟩ = some (.slice B1 m1 c1) ∧ w'.cell? ⟨w.heap.size, 1, none⟩ = some (.int .u64 (k.current : Int)))
              (first | exact HV.out _ BD.out | exact HV.out _ HE2.out)
              (first
                | (go_at_call 97; refine (HMY.out _).mono ?_; rintro _ we ⟨rfl, hb⟩; have HE2 := Lib.hid (BD.out.trans (hb.mono BD.out.size)); clear hb)
                | fail)
            all_goals
              have hb1 := HE2.out
              have HBE1 := Lib.hid (HBE.out.trans (hb1.mono HBE.out.size))
              have HK1 := Lib.hid (HK.out.below hb1)
              have HZ1 := Lib.hid (HZ.out.below hb1)
              clear hb1
              go_wp2_with fail
              refine ⟨⟨j + 1, by omega, rfl, ?_, HBE1.out, HK1.out, HZ1.out⟩, by simp [intOf]; omega⟩
              rw [take_snoc9 _ j x HX.out]
              intro y hy
              rcases List.mem_append.1 hy with hy | hy
              · exact HALL.out y hy
              · rw [List.mem_singleton.1 hy]; exact HXT.out
          · have hyy : ((x.epoch : Int) != (k.current : Int)) = true := by simp only [bne_iff_ne, ne_eq]; omega
            have hm : ¬ (Deed.add l).may k = true := fun h => hy (HMAY.out.1 h x (List.mem_of_getElem? HX.out)).2
            clear hx hy
            have e1 : nextD (.add l) k = k := if_neg hm
            have e2 : errD (.add l) k = 1 := if_neg hm
            replace e1 := Lib.hid e1
            replace e2 := Lib.hid e2
            clear hm
            go_wp2_with fail
            go_region_held3 (fun w' => w'.cell? ⟨b1, o1 + j * 2, none⟩ = some (.int .u64 (x.epoch : Int)) ∧ w'.cell? ⟨b1, o1 + j * 2 + 1, none⟩ = some (.slice B1 m1 c1) ∧ w'.cell? ⟨w.heap.size, 1, none⟩ = some (.int .u64 (k.current : Int)))
              (first | exact HV.out _ BD.out | exact HV.out _ HE2.out)
              (first
                | (go_at_call 97; refine (HMY.out _).mono ?_; rintro _ we ⟨rfl, hb⟩; have HE2 := Lib.hid (BD.out.trans (hb.mono BD.out.size)); clear hb)
                | fail)
            all_goals
              have hb1 := HE2.out
              have HBE1 := Lib.hid (HBE.out.trans (hb1.mono HBE.out.size))
              have HK1 := Lib.hid (HK.out.below hb1)
              have HZ1 := Lib.hid (HZ.out.below hb1)
              clear hb1
              have k0 := HK1.out.cell 0
              have z0 := HZ1.out.cell 0
              have y0 := HZ1.out.frozen 0
              have x0 := HK1.out.frozen 0
              have k1 := HK1.out.cell 1
              have z1 := HZ1.out.cell 1
              have y1 := HZ1.out.frozen 1
              have x1 := HK1.out.frozen 1
              have k2 := HK1.out.cell 2
              have z2 := HZ1.out.cell 2
              have y2 := HZ1.out.frozen 2
              have x2 := HK1.out.frozen 2
              simp at k0 k1 k2 z0 z1 z2
              go_wp2_with fail
              have h3 := set3_bk HZ1.out (.int .u64 (k.promised : Int)) (.int .u64 (k.current : Int)) (.slice A k.lines.length c)
              have o3 := set3_out we (w.heap.size + 1) (.int .u64 (k.promised : Int)) (.int .u64 (k.current : Int)) (.slice A k.lines.length c)
              have hb := o3.below HBE1.out (fun b hb => by rw [hb]; exact Nat.le_succ _) HBE1.out.size
              refine bodyPost_ret (results_cell_row9 rfl _ _ (w.heap.size + 1) 35 _ (0, 0) _ rfl h3 Tryz.underlying35 rfl size_kept9) rfl ?_
              rw [e1.out, e2.out]
              exact ⟨A, c, rfl, (HL.out.mono fun _ h => .inl (.inl h)).below hb, hb⟩
        · have hxf : lineB x = false := by simpa using hx
          rw [hxf] at HMY
          have hm : ¬ (Deed.add l).may k = true := fun h => hx (HMAY.out.1 h x (List.mem_of_getElem? HX.out)).1
          clear hx hxf
          have e1 : nextD (.add l) k = k := if_neg hm
          have e2 : errD (.add l) k = 1 := if_neg hm
          replace e1 := Lib.hid e1
          replace e2 := Lib.hid e2
          clear hm
          go_wp2_with fail
          obtain ⟨v1, v2, v3⟩ := HV.out _ BD.out
          first
            | (go_region_with (first
                | (go_at_call 97; refine (HMY.out _).mono ?_; rintro _ we ⟨rfl, hb⟩; have HE2 := Lib.hid (BD.out.trans (hb.mono BD.out.size)); clear hb)
                | fail))
            | fail
          all_goals
            have hb1 := HE2.out
            have HBE1 := Lib.hid (HBE.out.trans (hb1.mono HBE.out.size))
            have HK1 := Lib.hid (HK.out.below hb1)
            have HZ1 := Lib.hid (HZ.out.below hb1)
            clear hb1
            have k0 := HK1.out.cell 0
            have z0 := HZ1.out.cell 0
            have y0 := HZ1.out.frozen 0
            have x0 := HK1.out.frozen 0
            have k1 := HK1.out.cell 1
            have z1 := HZ1.out.cell 1
            have y1 := HZ1.out.frozen 1
            have x1 := HK1.out.frozen 1
            have k2 := HK1.out.cell 2
            have z2 := HZ1.out.cell 2
            have y2 := HZ1.out.frozen 2
            have x2 := HK1.out.frozen 2
            simp at k0 k1 k2 z0 z1 z2
            go_wp2_with fail
            have h3 := set3_bk HZ1.out (.int .u64 (k.promised : Int)) (.int .u64 (k.current : Int)) (.slice A k.lines.length c)
            have o3 := set3_out we (w.heap.size + 1) (.int .u64 (k.promised : Int)) (.int .u64 (k.current : Int)) (.slice A k.lines.length c)
            have hb := o3.below HBE1.out (fun b hb => by rw [hb]; exact Nat.le_succ _) HBE1.out.size
            refine bodyPost_ret (results_cell_row9 rfl _ _ (w.heap.size + 1) 35 _ (0, 0) _ rfl h3 Tryz.underlying35 rfl size_kept9) rfl ?_
            rw [e1.out, e2.out]
            exact ⟨A, c, rfl, (HL.out.mono fun _ h => .inl (.inl h)).below hb, hb⟩
      · obtain rfl : j = m := by omega
        have hm : (Deed.add l).may k = true := HMAY.out.2 (by
          have := HALL.out
          rwa [List.take_of_length_le (by have := HLL.out.len; omega)] at this)
        have e1 : nextD (.add l) k = ⟨k.promised, k.current, k.lines ++ l⟩ := if_pos hm
        have e2 : errD (.add l) k = 0 := if_pos hm
        replace e1 := Lib.hid e1
        replace e2 := Lib.hid e2
        clear hm
        have hHL := HL.out.below HBE.out
        have hHLL := HLL.out.below HBE.out
        obtain ⟨vs, hv1, hc1⟩ := hHL.vals
        obtain ⟨us, hv2, hc2⟩ := hHLL.vals
        have hA0 : A = none → k.lines.length = 0 := fun e => by
          rcases Nat.eq_zero_or_pos k.lines.length with h | h
          · exact h
          · obtain ⟨_, _, _, _, _, q, _⟩ := HL.out.at_ 0 _ (List.getElem?_eq_getElem h)
            rw [e] at q; cases q
        have hB0 : B = none → j = 0 := fun e => by
          rcases Nat.eq_zero_or_pos j with h | h
          · exact h
          · obtain ⟨_, _, _, _, _, q, _⟩ := HLL.out.at_ 0 _ (List.getElem?_eq_getElem (by rw [HLL.out.len]; exact h))
            rw [e] at q; cases q
        have ho0 : wr.ownsRow wr.heap.size 80 2 (.slice none 0 0) 0 [] := ⟨rfl, .inl ⟨rfl, rfl⟩⟩
        obtain ⟨v1, W1, hr1, ho1, hg1⟩ := run_append_lines0 ho0 c hc1 hA0 rfl hv1.len hv1.one (by omega) (Nat.le_refl _)
        have hb1 : Below wr.heap.size wr W1 := (Below.refl _ _).grown hg1 (Nat.le_refl _) (fun g hg => by simp [Value.ownBlock] at hg)
        obtain ⟨v2, W2, hr2, ho2, hg2⟩ := run_append_lines0 ho1 d (fun ad e i u hu => (hb1.cell (World.block_lt_of_cell? wr _ (hc2 ad e i u hu))).trans (hc2 ad e i u hu)) hB0 HLL.out.len hv2.len hv2.one (by omega) hb1.size
        have hb2 : Below wr.heap.size wr W2 := hb1.grown hg2 hb1.size (fun g hg => (ho1.lt g hg).1)
        have hlen : (k.lines ++ l).length = k.lines.length + j := by rw [List.length_append, HLL.out.len]
        have ho2' : W2.ownsRow wr.heap.size 80 2 v2 (k.lines.length + j) (lnsC k.lines vs ++ lnsC l us) := by
          have q := ho2
          rw [Nat.zero_add, List.nil_append] at q
          exact q
        obtain ⟨A2, c2, rfl⟩ : ∃ A2 c2, v2 = .slice A2 (k.lines.length + j) c2 := by
          rcases ho2'.2 with ⟨h0, h1⟩ | ⟨g, cap, cur, h0, _⟩
          · exact ⟨none, 0, by rw [h0, h1]⟩
          · exact ⟨_, _, h0⟩
        have ho3 : W2.ownsRow wr.heap.size 80 2 (.slice A2 (k.lines ++ l).length c2) (k.lines ++ l).length (lnsC (k.lines ++ l) (vs ++ us)) := by
          rw [lnsC_append _ _ _ _ hv1.len.symm, hlen]
          exact ho2'
        have hln := lns_of_row9 ho3 ((hv1.below hb2).append (hv2.below hb2))
        rw [hlen] at hln
        have hk2 := HK.out.below hb2
        have hz2 := HZ.out.below hb2
        have hqs : w.heap.size + 1 < wr.heap.size := HZ.out.lt
        have hx3 : Out (fun b => b = w.heap.size) W2 (W2.setCell ⟨w.heap.size, 2, none⟩ (.slice A2 (k.lines.length + j) c2)) := Out.setCell (X := fun b => b = w.heap.size) W2 (p := ⟨w.heap.size, 2, none⟩) rfl _
        have hk3 : Bk (W2.setCell ⟨w.heap.size, 2, none⟩ (.slice A2 (k.lines.length + j) c2)) w.heap.size 35 #[.int .u64 (k.promised : Int), .int .u64 (k.current : Int), .slice A2 (k.lines.length + j) c2] := by
          have q := hk2.set 2 (.slice A2 (k.lines.length + j) c2)
          simpa using q
        have hz3 : Bk (W2.setCell ⟨w.heap.size, 2, none⟩ (.slice A2 (k.lines.length + j) c2)) (w.heap.size + 1) 35 #[.int .u64 0, .int .u64 0, .slice none 0 0] := hz2.kept (hx3.block _ hz2.lt (by omega))
        have hb3 := (HBE.out.trans (hb2.mono HBE.out.size)).setCell (p := ⟨w.heap.size, 2, none⟩) (Nat.le_refl _) (.slice A2 (k.lines.length + j) c2)
        have HL3 : Hid (LnS (fun b => (P b ∨ Q b) ∨ (wr.heap.size ≤ b ∧ ∃ a, A2 = some a ∧ a.block = b)) W2 A2 (k.lines.length + j) (k.lines ++ l)) := hln
        have HB3 := Lib.hid hb3
        have HZ3 := Lib.hid hz3
        have HX3 := Lib.hid hx3
        have HLEN := Lib.hid hlen
        have HR1 := Lib.hid hr1
        have HR2 := Lib.hid hr2
        have u2 : wr.cell? ⟨w.heap.size, 2, none⟩ = some (.slice A k.lines.length c) := HK.out.cell 2
        have s2 := hk2.cell 2
        have g2 := hk2.frozen 2
        have j0 := hk3.cell 0
        have j1 := hk3.cell 1
        have j2 := hk3.cell 2
        have i0 := hz3.cell 0
        have i1 := hz3.cell 1
        have i2 := hz3.cell 2
        have f0 := hz3.frozen 0
        have f1 := hz3.frozen 1
        have f2 := hz3.frozen 2
        simp at s2 j0 j1 j2 i0 i1 i2
        clear hHL hHLL hv1 hc1 hv2 hc2 hA0 hB0 ho0 hr1 ho1 hg1 hb1 hr2 ho2 ho2' hg2 hb2 hlen ho3 hln hk2 hz2 hqs hx3 hk3 hz3 hb3
        go_wp2_with (at_builtin; first | refine Lib.wpList_append_run _ rfl _ _ _ _ rfl _ _ rfl rfl _ _ HR1.out ?_ | refine Lib.wpList_append_run _ rfl _ _ _ _ rfl _ _ rfl rfl _ _ HR2.out ?_)
        have h3 := set3_bk HZ3.out (.int .u64 (k.promised : Int)) (.int .u64 (k.current : Int)) (.slice A2 (k.lines.length + j) c2)
        have o3 := set3_out (W2.setCell ⟨w.heap.size, 2, none⟩ (.slice A2 (k.lines.length + j) c2)) (w.heap.size + 1) (.int .u64 (k.promised : Int)) (.int .u64 (k.current : Int)) (.slice A2 (k.lines.length + j) c2)
        have hb := o3.below HB3.out (fun b hb => by rw [hb]; exact Nat.le_succ _) HB3.out.size
        refine bodyPost_ret (results_cell_row9 rfl _ _ (w.heap.size + 1) 35 _ (0, 0) _ rfl h3 Tryz.underlying35 rfl size_kept9) rfl ?_
        rw [e1.out, e2.out]
        refine ⟨A2, c2, by unfold kpV; rw [HLEN.out]; rfl, ?_, hb⟩
        show LnS _ _ A2 (k.lines ++ l).length (k.lines ++ l)
        rw [HLEN.out]
        have hl4 := HL3.out.out ((HX3.out.mono (Y := fun b => b = w.heap.size ∨ b = w.heap.size + 1) fun _ h => .inl (.inl h)).trans o3 fun _ h => .inl (.inr h)) (fun b hb he => by
    have z := HZ.out.lt
    rcases hb with q | q
    · have := HPQ.out b q; omega
    · have := q.1; omega)
        exact hl4.mono fun b hb => hb.imp id fun q => ⟨Nat.le_trans HBE.out.size q.1, q.2⟩
  · have hm2 : ¬ (Deed.add l).may k = true := fun h => by
      rw [may_add] at h
      exact hp ⟨h.1, h.2.1⟩
    have e1 : nextD (.add l) k = k := if_neg hm2
    have e2 : errD (.add l) k = 1 := if_neg hm2
    replace e1 := Lib.hid e1
    replace e2 := Lib.hid e2
    clear hm2 hW0 HB0 HK0 HZ0 k0 k1 k2 z0 z1 z2 y0 y1 y2 x0 x1 x2
    unfold kpV
    by_cases h0 : l.length = 0
    · have i1 : ((l.length : Int) == 0) = true := by rw [h0]; rfl
      clear h0
      go_enter Tryz.func58, Tryz.ntmps58
      go_wp2_with fail
      have h3 : Bk ((w.alloc (.cells #[.int .u64 (k.promised : Int), .int .u64 (k.current : Int), .slice A k.lines.length c] 35)).alloc (.cells #[.int .u64 (k.promised : Int), .int .u64 (k.current : Int), .slice A k.lines.length c] 35)) (w.heap.size + 1) 35 #[.int .u64 (k.promised : Int), .int .u64 (k.current : Int), .slice A k.lines.length c] := by
        have q := Bk.new (w.alloc (.cells #[.int .u64 (k.promised : Int), .int .u64 (k.current : Int), .slice A k.lines.length c] 35)) 35 #[.int .u64 (k.promised : Int), .int .u64 (k.current : Int), .slice A k.lines.length c]
        rw [World.size_alloc] at q
        exact q
      have hb : Below w.heap.size w ((w.alloc (.cells #[.int .u64 (k.promised : Int), .int .u64 (k.current : Int), .slice A k.lines.length c] 35)).alloc (.cells #[.int .u64 (k.promised : Int), .int .u64 (k.current : Int), .slice A k.lines.length c] 35)) := ((Below.refl _ _).alloc (Nat.le_refl _) _).alloc (by simp) _
      refine bodyPost_ret (results_cell_row9 rfl _ _ (w.heap.size + 1) 35 _ (0, 0) _ rfl h3 Tryz.underlying35 rfl size_kept9) rfl ?_
      rw [e1.out, e2.out]
      exact ⟨A, c, rfl, (HL.out.mono fun _ h => .inl (.inl h)).below hb, hb⟩
    · have i1 : ((l.length : Int) == 0) = false := by simp only [beq_eq_false_iff_ne]; omega
      have i2 : (256 : Int) < (k.lines.length : Int) + (l.length : Int) := by omega
      clear h0 hp
      go_enter Tryz.func58, Tryz.ntmps58
      go_wp2_with fail
      have h3 : Bk ((w.alloc (.cells #[.int .u64 (k.promised : Int), .int .u64 (k.current : Int), .slice A k.lines.length c] 35)).alloc (.cells #[.int .u64 (k.promised : Int), .int .u64 (k.current : Int), .slice A k.lines.length c] 35)) (w.heap.size + 1) 35 #[.int .u64 (k.promised : Int), .int .u64 (k.current : Int), .slice A k.lines.length c] := by
        have q := Bk.new (w.alloc (.cells #[.int .u64 (k.promised : Int), .int .u64 (k.current : Int), .slice A k.lines.length c] 35)) 35 #[.int .u64 (k.promised : Int), .int .u64 (k.current : Int), .slice A k.lines.length c]
        rw [World.size_alloc] at q
        exact q
      have hb : Below w.heap.size w ((w.alloc (.cells #[.int .u64 (k.promised : Int), .int .u64 (k.current : Int), .slice A k.lines.length c] 35)).alloc (.cells #[.int .u64 (k.promised : Int), .int .u64 (k.current : Int), .slice A k.lines.length c] 35)) := ((Below.refl _ _).alloc (Nat.le_refl _) _).alloc (by simp) _
      refine bodyPost_ret (results_cell_row9 rfl _ _ (w.heap.size + 1) 35 _ (0, 0) _ rfl h3 Tryz.underlying35 rfl size_kept9) rfl ?_
      rw [e1.out, e2.out]
      exact ⟨A, c, rfl, (HL.out.mono fun _ h => .inl (.inl h)).below hb, hb⟩
end Go.Proofs.YtiijclibcfgnpaaGreat.Sto

namespace Go.Proofs.YtiijclibcfgnpaaGreat.Sto
open Go.RowKit Disk Log

theorem lineSum_snoc (l : List Ln) (x : Ln) : lineSum (l ++ [x]) = lineSum l + (16 + x.bytes.length) := by simp [lineSum]
def RelF (w : World) (k : Kp) (A : Option Addr) (c : Nat) (s i : Value) (wr : World) : Prop := ∃ j z : Nat, j ≤ k.lines.length ∧ i = .int .i64 (j : Int) ∧ s = .int .i64 (z : Int) ∧ z = 64 + lineSum (k.lines.take j) ∧ z ≤ 64 + j * 4112 ∧ Below w.heap.size w wr ∧ Bk wr w.heap.size 35 #[.int .u64 (k.promised : Int), .int .u64 (k.current : Int), .slice A k.lines.length c]
set_option maxRecDepth 100000 in
set_option maxHeartbeats 4000000 in
theorem fits9_any {P : Nat → Prop} (k : Kp) (A : Option Addr) (c p : Nat) (w : World) (hk : LnS P w A k.lines.length k.lines) (hf : Fine k) (h8 : 8 ≤ p) (h4 : p ≤ 400) :
    Calls Tryz.prog 17 #[kpV k A c, .int .i64 (p : Int)] w fun e w' => e = .returned (.bool (fits k (p / 2))) ∧ Below w.heap.size w w' := by
  have HL := Lib.hid hk
  have HF := Lib.hid hf
  have p3 := hf.many
  have hb0 : Below w.heap.size w (w.alloc (.cells #[.int .u64 (k.promised : Int), .int .u64 (k.current : Int), .slice A k.lines.length c] 35)) := (Below.refl _ _).alloc (Nat.le_refl _) _
  have hk0 : Bk (w.alloc (.cells #[.int .u64 (k.promised : Int), .int .u64 (k.current : Int), .slice A k.lines.length c] 35)) w.heap.size 35 #[.int .u64 (k.promised : Int), .int .u64 (k.current : Int), .slice A k.lines.length c] := Bk.new _ _ _
  have HB0 := Lib.hid hb0
  have HK0 := Lib.hid hk0
  clear hk hf hb0 hk0
  unfold kpV
  go_enter Tryz.func17, Tryz.ntmps17
  go_wp2_with fail
  go_loopw [5, 6] (fun s i wr => RelF w k A c s i wr) (fun _ i _ => k.lines.length - (intOf i).toNat)
  case atStart => exact ⟨0, 64, Nat.zero_le _, rfl, rfl, by simp [lineSum], by omega, HB0.out, HK0.out⟩
  case round =>
    clear HB0 HK0
    obtain ⟨j, z, hj, rfl, rfl, hz, hzb, hbe, hbk⟩ := hrel
    have HZ := Lib.hid hz
    have HBE := Lib.hid hbe
    have HK := Lib.hid hbk
    have k2 : wr.cell? ⟨w.heap.size, 2, none⟩ = some (.slice A k.lines.length c) := hbk.cell 2
    clear hz hbe hbk
    by_cases hlt : j < k.lines.length
    · obtain ⟨x, hx⟩ : ∃ x, k.lines[j]? = some x := ⟨_, List.getElem?_eq_getElem hlt⟩
      obtain ⟨b1, o1, B1, m1, c1, e1, -, p1, p2, -, p4, -⟩ := (HL.out.below HBE.out).at_ j x hx
      subst e1
      have HX := Lib.hid hx
      have hm1 : m1 ≤ 4096 := by have := (lineB_iff.1 (HF.out.each x (List.mem_of_getElem? hx)).1).2.2.2; have := p4.len; omega
      have HM1 : Hid (x.bytes.length = m1) := p4.len
      clear hx p4
      go_wp2_with fail
      refine ⟨⟨j + 1, z + 16 + m1, by omega, rfl, rfl, ?_, by omega, HBE.out, HK.out⟩, by simp [intOf]; omega⟩
      rw [take_snoc9 _ j x HX.out, lineSum_snoc, HM1.out, HZ.out]
      omega
    · obtain rfl : j = k.lines.length := by omega
      have hzz : Hid (z = need k) := by
        have := HZ.out
        rwa [List.take_of_length_le (Nat.le_refl _)] at this
      obtain ⟨q, hq⟩ : ∃ q, q = p / 2 := ⟨_, rfl⟩
      have hq4 : 4 ≤ q := by omega
      have hq2 : q ≤ 200 := by omega
      have hqd : (p : Int).tdiv 2 = (q : Int) := by rw [hq]; rfl
      have HQ := Lib.hid hq
      clear hq
      go_wp2_with fail
      go_ret
      refine ⟨congrArg (fun b => Ending.returned (.bool b)) (?_ : _ = fits k (p / 2)), HBE.out⟩
      rw [← HQ.out]
      unfold fits
      rw [← hzz.out]
      rw [decide_eq_decide]
      omega
def nextA (x : A1) (k : Kp) : Kp := match deedA x with | none => k | some D => nextD D k
def errA (x : A1) (k : Kp) : Int := match deedA x with | none => 0 | some D => errD D k
set_option maxRecDepth 100000 in
set_option maxHeartbeats 4000000 in
theorem next_any {P Q : Nat → Prop} (k : Kp) (A : Option Addr) (c : Nat) (x : A1) (B : Option Addr) (c2 : Nat) (w : World) (hk : LnS P w A k.lines.length k.lines) (hf : Fine k) (hl : LnS Q w B x.l.length x.l) (hPQ : ∀ b, P b ∨ Q b → b < w.heap.size) (hx : x.Ok) (hm : x.l.length ≤ 1000000) :
    Calls Tryz.prog 15 #[kpV k A c, actV x B c2] w (NextP (fun b => P b ∨ Q b) (nextA x k) (errA x k) w) := by
  have HL := Lib.hid hk
  have HF := Lib.hid hf
  have HLX := Lib.hid hl
  have HPQ := Lib.hid hPQ
  have HXO := Lib.hid hx
  obtain ⟨V1, hV1⟩ : ∃ V, V = w.alloc (.cells #[.int .u64 (k.promised : Int), .int .u64 (k.current : Int), .slice A k.lines.length c] 35) := ⟨_, rfl⟩
  have hs1 : V1.heap.size = w.heap.size + 1 := by rw [hV1, World.size_alloc]
  have hb1 : Below w.heap.size w V1 := by rw [hV1]; exact (Below.refl _ _).alloc (Nat.le_refl _) _
  obtain ⟨V2, hV2⟩ : ∃ V, V = V1.alloc (.cells #[.int .u8 (x.do_ : Int), .int .u64 (x.e : Int), .slice B x.l.length c2] 39) := ⟨_, rfl⟩
  have hs2 : V2.heap.size = w.heap.size + 1 + 1 := by rw [hV2, World.size_alloc, hs1]
  have hb2 : Below w.heap.size w V2 := by rw [hV2]; exact hb1.alloc (by omega) _
  have hk2 : Bk V2 w.heap.size 35 #[.int .u64 (k.promised : Int), .int .u64 (k.current : Int), .slice A k.lines.length c] := by rw [hV2, hV1]; exact (Bk.new w _ _).alloc _
  have ha2 : Bk V2 (w.heap.size + 1) 39 #[.int .u8 (x.do_ : Int), .int .u64 (x.e : Int), .slice B x.l.length c2] := by rw [hV2, ← hs1]; exact Bk.new _ _ _
  obtain ⟨W0, hW0⟩ : ∃ V, V = V2.alloc (.cells #[.int .u64 0, .int .u64 0, .slice none 0 0] 35) := ⟨_, rfl⟩
  have hb0 : Below w.heap.size w W0 := by rw [hW0]; exact hb2.alloc (by omega) _
  have hk0 : Bk W0 w.heap.size 35 #[.int .u64 (k.promised : Int), .int .u64 (k.current : Int), .slice A k.lines.length c] := by rw [hW0]; exact hk2.alloc _
  have ha0 : Bk W0 (w.heap.size + 1) 39 #[.int .u8 (x.do_ : Int), .int .u64 (x.e : Int), .slice B x.l.length c2] := by rw [hW0]; exact ha2.alloc _
  have hz0 : Bk W0 (w.heap.size + 1 + 1) 35 #[.int .u64 0, .int .u64 0, .slice none 0 0] := by rw [hW0, ← hs2]; exact Bk.new _ _ _
  have k0 := hk0.cell 0
  have k1 := hk0.cell 1
  have k2 := hk0.cell 2
  have d0 := ha0.cell 0
  have d1 := ha0.cell 1
  have d2 := ha0.cell 2
  simp at k0 k1 k2 d0 d1 d2
  have HB0 := Lib.hid hb0
  have HZ0 := Lib.hid hz0
  have hdo := hx.do_
  have HS2 := Lib.hid hs2
  have HV2 := Lib.hid hb2
  clear hk hf hl hPQ hx hs1 hb1 hs2 hb2 hk2 ha2 hb0 hk0 ha0 hz0
  by_cases h0 : x.do_ % 5 = 0
  · have m0 : (x.do_ : Int) % 5 = 0 := by omega
    have en : nextD (.prom x.e) k = nextA x k := by unfold nextA deedA; rw [if_pos h0]
    have ee : errD (.prom x.e) k = errA x k := by unfold errA deedA; rw [if_pos h0]
    have CN0 := rprom_any (P := P) k A c x.e W0 (HL.out.below HB0.out) HF.out HXO.out.e
    rw [en, ee] at CN0
    have CN := Lib.hid CN0
    clear CN0 en ee
    unfold kpV at CN ⊢
    unfold actV
    rw [hW0, hV2, hV1] at k0 k1 k2 d0 d1 d2 CN
    go_enter Tryz.func15, Tryz.ntmps15
    go_wp2_with fail
    refine CN.out.mono ?_
    rw [← hV1, ← hV2, ← hW0]
    clear k0 k1 k2 d0 d1 d2 hV1 hV2 hW0
    rintro _ w2 ⟨A2, c3, rfl, hl2, hb2⟩
    have HB2 := Lib.hid (HB0.out.trans (hb2.mono HB0.out.size))
    have HZ2 := Lib.hid (HZ0.out.below hb2)
    have HL2 := Lib.hid hl2
    have HLT : Hid (w.heap.size + 1 + 1 < W0.heap.size) := HZ0.out.lt
    have z0 := HZ2.out.cell 0
    have z1 := HZ2.out.cell 1
    have z2 := HZ2.out.cell 2
    have y0 := HZ2.out.frozen 0
    have y1 := HZ2.out.frozen 1
    have y2 := HZ2.out.frozen 2
    simp at z0 z1 z2
    clear hb2 hl2 CN
    unfold kpV
    go_wp2_with fail
    have h3 := set3_bk HZ2.out (.int .u64 ((nextA x k).promised : Int)) (.int .u64 ((nextA x k).current : Int)) (.slice A2 (nextA x k).lines.length c3)
    have o3 := set3_out w2 (w.heap.size + 1 + 1) (.int .u64 ((nextA x k).promised : Int)) (.int .u64 ((nextA x k).current : Int)) (.slice A2 (nextA x k).lines.length c3)
    have hb := o3.below HB2.out (fun b hb => by rw [hb]; omega) HB2.out.size
    refine bodyPost_ret (results_cell_row9 rfl _ _ (w.heap.size + 1 + 1) 35 _ (0, 0) _ rfl h3 Tryz.underlying35 rfl size_kept9) rfl ?_
    refine ⟨A2, c3, rfl, ?_, hb⟩
    have hl4 := (lns_lt HL2.out).out o3 (fun b hb he => by
      have h9 := HLT.out
      have hw := HB0.out.size
      rcases hb.1 with q | q
      all_goals first
        | (have := HPQ.out b (.inl q); omega)
        | (have := HPQ.out b (.inr q); omega)
        | (have := q.1; omega))
    exact hl4.mono fun b hb => hb.1.imp .inl fun q => ⟨Nat.le_trans HB0.out.size q.1, q.2⟩
  · by_cases h1 : x.do_ % 5 = 1
    · have m0 : (x.do_ : Int) % 5 = 1 := by omega
      have en : nextD (.adopt x.e x.l) k = nextA x k := by unfold nextA deedA; rw [if_neg h0, if_pos h1]
      have ee : errD (.adopt x.e x.l) k = errA x k := by unfold errA deedA; rw [if_neg h0, if_pos h1]
      have CN0 := radopt_any (P := P) (Q := Q) k A c x.e x.l B x.l.length c2 W0 (HL.out.below HB0.out) HF.out HXO.out.e (HLX.out.below HB0.out) (by omega)
      rw [en, ee] at CN0
      have CN := Lib.hid CN0
      clear CN0 en ee
      unfold kpV at CN ⊢
      unfold actV
      rw [hW0, hV2, hV1] at k0 k1 k2 d0 d1 d2 CN
      go_enter Tryz.func15, Tryz.ntmps15
      go_wp2_with fail
      refine CN.out.mono ?_
      rw [← hV1, ← hV2, ← hW0]
      clear k0 k1 k2 d0 d1 d2 hV1 hV2 hW0
      rintro _ w2 ⟨A2, c3, rfl, hl2, hb2⟩
      have HB2 := Lib.hid (HB0.out.trans (hb2.mono HB0.out.size))
      have HZ2 := Lib.hid (HZ0.out.below hb2)
      have HL2 := Lib.hid hl2
      have HLT : Hid (w.heap.size + 1 + 1 < W0.heap.size) := HZ0.out.lt
      have z0 := HZ2.out.cell 0
      have z1 := HZ2.out.cell 1
      have z2 := HZ2.out.cell 2
      have y0 := HZ2.out.frozen 0
      have y1 := HZ2.out.frozen 1
      have y2 := HZ2.out.frozen 2
      simp at z0 z1 z2
      clear hb2 hl2 CN
      unfold kpV
      go_wp2_with fail
      have h3 := set3_bk HZ2.out (.int .u64 ((nextA x k).promised : Int)) (.int .u64 ((nextA x k).current : Int)) (.slice A2 (nextA x k).lines.length c3)
      have o3 := set3_out w2 (w.heap.size + 1 + 1) (.int .u64 ((nextA x k).promised : Int)) (.int .u64 ((nextA x k).current : Int)) (.slice A2 (nextA x k).lines.length c3)
      have hb := o3.below HB2.out (fun b hb => by rw [hb]; omega) HB2.out.size
      refine bodyPost_ret (results_cell_row9 rfl _ _ (w.heap.size + 1 + 1) 35 _ (0, 0) _ rfl h3 Tryz.underlying35 rfl size_kept9) rfl ?_
      refine ⟨A2, c3, rfl, ?_, hb⟩
      have hl4 := (lns_lt HL2.out).out o3 (fun b hb he => by
        have h9 := HLT.out
        have hw := HB0.out.size
        rcases hb.1 with (q | q) | q
        all_goals first
          | (have := HPQ.out b (.inl q); omega)
          | (have := HPQ.out b (.inr q); omega)
          | (have := q.1; omega))
      exact hl4.mono fun b hb => hb.1.imp id fun q => ⟨Nat.le_trans HB0.out.size q.1, q.2⟩
    · by_cases h4 : x.do_ % 5 = 4
      · have m0 : (x.do_ : Int) % 5 = 4 := by omega
        have en : nextA x k = k := by unfold nextA deedA; rw [if_neg h0, if_neg h1, if_pos h4]
        have ee : errA x k = 0 := by unfold errA deedA; rw [if_neg h0, if_neg h1, if_pos h4]
        rw [en, ee]
        unfold kpV actV
        rw [hW0, hV2, hV1] at k0 k1 k2 d0 d1 d2
        go_enter Tryz.func15, Tryz.ntmps15
        go_wp2_with fail
        rw [← hV1, ← hV2]
        have h3 : Bk (V2.alloc (.cells #[.int .u64 (k.promised : Int), .int .u64 (k.current : Int), .slice A k.lines.length c] 35)) (w.heap.size + 1 + 1) 35 #[.int .u64 (k.promised : Int), .int .u64 (k.current : Int), .slice A k.lines.length c] := by rw [← HS2.out]; exact Bk.new _ _ _
        have hb : Below w.heap.size w (V2.alloc (.cells #[.int .u64 (k.promised : Int), .int .u64 (k.current : Int), .slice A k.lines.length c] 35)) := HV2.out.alloc (by rw [HS2.out]; omega) _
        refine bodyPost_ret (results_cell_row9 rfl _ _ (w.heap.size + 1 + 1) 35 _ (0, 0) _ rfl h3 Tryz.underlying35 rfl size_kept9) rfl ?_
        exact ⟨A, c, rfl, (HL.out.below hb).mono fun _ h => .inl (.inl h), hb⟩
      · rcases (show x.do_ % 5 = 2 ∨ x.do_ % 5 = 3 by omega) with h5 | h5
        · have m0 : (x.do_ : Int) % 5 = 2 := by omega
          have en : nextD (.add x.l) k = nextA x k := by unfold nextA deedA; rw [if_neg h0, if_neg h1, if_neg h4]
          have ee : errD (.add x.l) k = errA x k := by unfold errA deedA; rw [if_neg h0, if_neg h1, if_neg h4]
          have CN0 := rappend_any (P := P) (Q := Q) k A c x.l B x.l.length c2 W0 (HL.out.below HB0.out) HF.out (HLX.out.below HB0.out) (fun b hb => Nat.lt_of_lt_of_le (HPQ.out b hb) HB0.out.size) (by omega)
          rw [en, ee] at CN0
          have CN := Lib.hid CN0
          clear CN0 en ee
          unfold kpV at CN ⊢
          unfold actV
          rw [hW0, hV2, hV1] at k0 k1 k2 d0 d1 d2 CN
          go_enter Tryz.func15, Tryz.ntmps15
          go_wp2_with fail
          refine CN.out.mono ?_
          rw [← hV1, ← hV2, ← hW0]
          clear k0 k1 k2 d0 d1 d2 hV1 hV2 hW0
          rintro _ w2 ⟨A2, c3, rfl, hl2, hb2⟩
          have HB2 := Lib.hid (HB0.out.trans (hb2.mono HB0.out.size))
          have HZ2 := Lib.hid (HZ0.out.below hb2)
          have HL2 := Lib.hid hl2
          have HLT : Hid (w.heap.size + 1 + 1 < W0.heap.size) := HZ0.out.lt
          have z0 := HZ2.out.cell 0
          have z1 := HZ2.out.cell 1
          have z2 := HZ2.out.cell 2
          have y0 := HZ2.out.frozen 0
          have y1 := HZ2.out.frozen 1
          have y2 := HZ2.out.frozen 2
          simp at z0 z1 z2
          clear hb2 hl2 CN
          unfold kpV
          go_wp2_with fail
          have h3 := set3_bk HZ2.out (.int .u64 ((nextA x k).promised : Int)) (.int .u64 ((nextA x k).current : Int)) (.slice A2 (nextA x k).lines.length c3)
          have o3 := set3_out w2 (w.heap.size + 1 + 1) (.int .u64 ((nextA x k).promised : Int)) (.int .u64 ((nextA x k).current : Int)) (.slice A2 (nextA x k).lines.length c3)
          have hb := o3.below HB2.out (fun b hb => by rw [hb]; omega) HB2.out.size
          refine bodyPost_ret (results_cell_row9 rfl _ _ (w.heap.size + 1 + 1) 35 _ (0, 0) _ rfl h3 Tryz.underlying35 rfl size_kept9) rfl ?_
          refine ⟨A2, c3, rfl, ?_, hb⟩
          have hl4 := (lns_lt HL2.out).out o3 (fun b hb he => by
            have h9 := HLT.out
            have hw := HB0.out.size
            rcases hb.1 with (q | q) | q
            all_goals first
              | (have := HPQ.out b (.inl q); omega)
              | (have := HPQ.out b (.inr q); omega)
              | (have := q.1; omega))
          exact hl4.mono fun b hb => hb.1.imp id fun q => ⟨Nat.le_trans HB0.out.size q.1, q.2⟩
        · have m0 : (x.do_ : Int) % 5 = 3 := by omega
          have en : nextD (.add x.l) k = nextA x k := by unfold nextA deedA; rw [if_neg h0, if_neg h1, if_neg h4]
          have ee : errD (.add x.l) k = errA x k := by unfold errA deedA; rw [if_neg h0, if_neg h1, if_neg h4]
          have CN0 := rappend_any (P := P) (Q := Q) k A c x.l B x.l.length c2 W0 (HL.out.below HB0.out) HF.out (HLX.out.below HB0.out) (fun b hb => Nat.lt_of_lt_of_le (HPQ.out b hb) HB0.out.size) (by omega)
          rw [en, ee] at CN0
          have CN := Lib.hid CN0
          clear CN0 en ee
          unfold kpV at CN ⊢
          unfold actV
          rw [hW0, hV2, hV1] at k0 k1 k2 d0 d1 d2 CN
          go_enter Tryz.func15, Tryz.ntmps15
          go_wp2_with fail
          refine CN.out.mono ?_
          rw [← hV1, ← hV2, ← hW0]
          clear k0 k1 k2 d0 d1 d2 hV1 hV2 hW0
          rintro _ w2 ⟨A2, c3, rfl, hl2, hb2⟩
          have HB2 := Lib.hid (HB0.out.trans (hb2.mono HB0.out.size))
          have HZ2 := Lib.hid (HZ0.out.below hb2)
          have HL2 := Lib.hid hl2
          have HLT : Hid (w.heap.size + 1 + 1 < W0.heap.size) := HZ0.out.lt
          have z0 := HZ2.out.cell 0
          have z1 := HZ2.out.cell 1
          have z2 := HZ2.out.cell 2
          have y0 := HZ2.out.frozen 0
          have y1 := HZ2.out.frozen 1
          have y2 := HZ2.out.frozen 2
          simp at z0 z1 z2
          clear hb2 hl2 CN
          unfold kpV
          go_wp2_with fail
          have h3 := set3_bk HZ2.out (.int .u64 ((nextA x k).promised : Int)) (.int .u64 ((nextA x k).current : Int)) (.slice A2 (nextA x k).lines.length c3)
          have o3 := set3_out w2 (w.heap.size + 1 + 1) (.int .u64 ((nextA x k).promised : Int)) (.int .u64 ((nextA x k).current : Int)) (.slice A2 (nextA x k).lines.length c3)
          have hb := o3.below HB2.out (fun b hb => by rw [hb]; omega) HB2.out.size
          refine bodyPost_ret (results_cell_row9 rfl _ _ (w.heap.size + 1 + 1) 35 _ (0, 0) _ rfl h3 Tryz.underlying35 rfl size_kept9) rfl ?_
          refine ⟨A2, c3, rfl, ?_, hb⟩
          have hl4 := (lns_lt HL2.out).out o3 (fun b hb he => by
            have h9 := HLT.out
            have hw := HB0.out.size
            rcases hb.1 with (q | q) | q
            all_goals first
              | (have := HPQ.out b (.inl q); omega)
              | (have := HPQ.out b (.inr q); omega)
              | (have := q.1; omega))
          exact hl4.mono fun b hb => hb.1.imp id fun q => ⟨Nat.le_trans HB0.out.size q.1, q.2⟩
end Go.Proofs.YtiijclibcfgnpaaGreat.Sto
