/- StorePlays: each act on a store whose power stays answers as the document's, and leaves what it keeps; ErrFull only where there may be no room: for every number of pages and all acts the call returns true, and nothing that was there has turned. No conditions. -/
import Derived.Test.YtiijclibcfgnpaaGreatBase27
import Derived.Test.YtiijclibcfgnpaaGreatBase28
import Derived.Test.YtiijclibcfgnpaaGreatBase29
import Derived.Deep.RegionHeld3
namespace Go.Proofs.YtiijclibcfgnpaaGreat.storePlays
open Go.ChangeShapes Go.WideShapes Go.ChangeAt Go.RowKit Disk Log Sto
open PhaseP (wp_region_pool Took GG)
open Phase (stepsL_cons stepsL_nil)
open PhaseG (wp_store_blk)

def kpC (k : Kp) (A : Option Addr) (c : Nat) : Array Value := #[.int .u64 (k.promised : Int), .int .u64 (k.current : Int), .slice A k.lines.length c]
theorem size_k9 : (Tryz.prog.info? 35).map (·.size) = some 3 := by kernel_rfl
theorem plays_cases (x : A1) (k : Kp) (p : Nat) : (ansA x k p = errA x k ∧ thnA x k p = nextA x k) ∨ (errA x k = 0 ∧ ansA x k p = 4 ∧ thnA x k p = k ∧ fits (nextA x k) p = false ∧ deedA x ≠ none) := by
  unfold ansA errA thnA nextA
  cases deedA x with
  | none => exact .inl ⟨rfl, rfl⟩
  | some D =>
    simp only [ans, thn, errD, nextD]
    by_cases hm : D.may k = true
    · by_cases hf : fits (D.run k) p = true
      · simp [hm, hf]
      · simp [hm, hf]
    · simp [hm]
theorem err_01 (x : A1) (k : Kp) : errA x k = 0 ∨ errA x k = 1 := by
  unfold errA errD
  cases deedA x with
  | none => exact .inl rfl
  | some D => dsimp only; split <;> simp
theorem fine_next {x : A1} {k : Kp} (h : Fine k) : Fine (nextA x k) := by
  unfold nextA nextD
  cases deedA x with
  | none => exact h
  | some D =>
    dsimp only
    split
    · next hm => exact h.run hm
    · exact h
theorem lns_blk {P : Nat → Prop} {w : World} {A : Option Addr} {n : Nat} {ls : List Ln} (h : LnS P w A n ls) (hn : 1 ≤ n) {a : Addr} (ha : A = some a) : P a.block ∧ a.block < w.heap.size := by
  have h1 := lns_lt h
  have hl := h1.len
  obtain ⟨b, o, B, m, c, e, hp, _⟩ := h1.at_ 0 _ (List.getElem?_eq_getElem (by omega))
  rw [ha] at e
  injection e with e
  subst e
  exact hp
/-- The block of a struct's slice. -/
def slOf (B : Nat) (x : Value) (b : Nat) : Prop := B ≤ b ∧ ∃ p q A n d a, x = .agg #[p, q, .slice A n d] ∧ 1 ≤ n ∧ A = some a ∧ a.block = b
def Ow (B : Nat) (Y : Nat → Prop) (A : Option Addr) (b : Nat) : Prop := Y b ∨ (B ≤ b ∧ ∃ a, A = some a ∧ a.block = b)
def KpR (B : Nat) (Y : Nat → Prop) (k : Kp) (x : Value) (W : World) : Prop := ∃ A c, x = kpV k A c ∧ LnS (Ow B Y A) W A k.lines.length k.lines
theorem KpR.out {B : Nat} {Y : Nat → Prop} {k : Kp} {x : Value} {W W' : World} {Z : Nat → Prop} (h : KpR B Y k x W) (ho : Out Z W W') (hy : ∀ b, Y b → ¬ Z b) (hz : ∀ b, slOf B x b → ¬ Z b) : KpR B Y k x W' := by
  obtain ⟨A, c, rfl, h⟩ := h
  refine ⟨A, c, rfl, ?_⟩
  rcases Nat.eq_zero_or_pos k.lines.length with h0 | h0
  · have e := List.eq_nil_of_length_eq_zero h0
    rw [e]
    exact LnS.nil_ _ _ _
  · refine h.out ho fun b hb => ?_
    rcases hb with hb | ⟨hb, a, ha, hab⟩
    · exact hy b hb
    · exact hz b ⟨hb, _, _, A, _, c, a, rfl, h0, ha, hab⟩
theorem KpR.lt {B : Nat} {Y : Nat → Prop} {k : Kp} {x : Value} {W : World} {b : Nat} (h : KpR B Y k x W) (hb : slOf B x b) : b < W.heap.size := by
  obtain ⟨A, c, rfl, h⟩ := h
  obtain ⟨_, p1, p2, A1, n1, d1, a1, e3, hn1, e4, e5⟩ := hb
  unfold kpV at e3
  injection e3 with e3
  have e7 := congrArg (fun l : Array Value => l[2]?) e3
  simp only [List.getElem?_toArray, List.getElem?_cons_succ, List.getElem?_cons_zero, Option.some.injEq, Value.slice.injEq] at e7
  obtain ⟨e8, e9, e10⟩ := e7
  have q1 := lns_blk h (by omega) (by rw [e8]; exact e4 : A = some a1)
  rw [e5] at q1
  exact q1.2
theorem slOf_zero {B : Nat} {P : Nat → Prop} {k : Kp} {A : Option Addr} {W : World} {g : Nat} {t : TypeId} (hf : Fine k) (h : LnS P W A k.lines.length k.lines) (hg : Bk W g t #[.int .u64 0, .int .u64 0, .slice none 0 0]) (c : Nat) : ¬ slOf B (kpV k A c) g := fun hb => by
  obtain ⟨_, p1, p2, A1, n1, d1, a1, e3, hn1, e4, e5⟩ := hb
  unfold kpV at e3
  injection e3 with e3
  have e7 := congrArg (fun l : Array Value => l[2]?) e3
  simp only [List.getElem?_toArray, List.getElem?_cons_succ, List.getElem?_cons_zero, Option.some.injEq, Value.slice.injEq] at e7
  obtain ⟨e8, e9, e10⟩ := e7
  have hl : 0 < k.lines.length := by omega
  obtain ⟨b, o, B', m, d, e, _, c0, _⟩ := h.at_ 0 _ (List.getElem?_eq_getElem hl)
  rw [e8, e4] at e
  injection e with e
  subst e
  have e5 : b = g := e5
  subst e5
  have h1 := (lineB_iff.1 (hf.each _ (List.getElem_mem hl)).1).1
  rw [Nat.zero_mul, Nat.add_zero, hg.cell o] at c0
  match o, c0 with
  | 0, c0 => simp at c0; omega
  | 1, c0 => simp at c0; omega
  | 2, c0 => simp at c0
  | _ + 3, c0 => simp at c0
theorem top_lt9 : top < 18446744073709551616 := by decide
theorem kpR_lns {B : Nat} {Y : Nat → Prop} {k : Kp} {A : Option Addr} {c : Nat} {W : World} (h : KpR B Y k (kpV k A c) W) : LnS (Ow B Y A) W A k.lines.length k.lines := by
  obtain ⟨A1, c1, e3, h⟩ := h
  unfold kpV at e3
  injection e3 with e3
  have e7 := congrArg (fun l : Array Value => l[2]?) e3
  simp only [List.getElem?_toArray, List.getElem?_cons_succ, List.getElem?_cons_zero, Option.some.injEq, Value.slice.injEq] at e7
  rw [e7.1]
  exact h
theorem lns_few {P Q : Nat → Prop} {w : World} {A : Option Addr} {n L : Nat} {ls : List Ln} (hq : ∀ b, P b ∧ b < L → Q b) (h : LnS P w A n ls) (hl : ∀ b, P b → 1 ≤ n → b < L) : LnS Q w A n ls := by
  rcases Nat.eq_zero_or_pos n with h0 | h0
  · have e := List.eq_nil_of_length_eq_zero (h.len.trans h0)
    subst e
    rw [h0]
    exact LnS.nil_ _ _ _
  · exact h.mono fun b hb => hq b ⟨hb, hl b hb h0⟩
def con13 (i : Nat) : List Nat := if i = 10 then [9, 7] else if i = 7 then [6] else if i = 6 then [5] else []
def O13' (B : Nat) : Nat → Value → Nat → Prop
  | 5, x, b => ∃ y e, x = .tuple #[y, e] ∧ slOf B y b
  | 6, x, b => ∃ y e, x = .tuple #[y, e] ∧ slOf B y b
  | 7, x, b => slOf B x b
  | 9, x, b => x = .pointer (some ⟨b, 0, none⟩)
  | 10, x, b => ∃ g y, x = .tuple #[.pointer (some ⟨g, 0, none⟩), y] ∧ (b = g ∨ slOf B y b)
  | _, _, _ => False
def O13 (B k : Nat) (x : Value) (_ : World) (b : Nat) : Prop := O13' B k x b
def L13 (e : Int) : Nat → (Nat → Value) → Value → Prop
  | 6, _, x => ∃ y, x = .tuple #[y, .int .i64 e]
  | 8, _, x => x = .int .i64 e
  | 10, v, x => ∃ y, x = .tuple #[v 9, y]
  | 11, _, x => x = .int .i64 e
  | _, _, _ => True
theorem l13_same {e : Int} {i : Nat} {v v' : Nat → Value} {x : Value} (hc : ∀ k, k ∈ con13 i → v' k = v k) (h : L13 e i v x) : L13 e i v' x := by
  by_cases hi : i = 10
  · subst hi
    obtain ⟨y, h⟩ := h
    exact ⟨y, by rw [h, hc 9 (by decide)]⟩
  · match i, hi, h with
    | 0, _, _ => trivial
    | 1, _, _ => trivial
    | 2, _, _ => trivial
    | 3, _, _ => trivial
    | 4, _, _ => trivial
    | 5, _, _ => trivial
    | 6, _, h => exact h
    | 7, _, _ => trivial
    | 8, _, h => exact h
    | 9, _, _ => trivial
    | 10, hi, _ => exact absurd rfl hi
    | 11, _, h => exact h
    | _ + 12, _, _ => trivial
def R13 (B : Nat) (Y : Nat → Prop) (k' : Kp) (e : Int) (v0 v1 v2 v3 v4 : Value) : Nat → Value → World → Prop
  | 0, x, _ => x = v0
  | 1, x, _ => x = v1
  | 2, x, _ => x = v2
  | 3, x, _ => x = v3
  | 4, x, _ => x = v4
  | 5, x, W => ∃ y, x = .tuple #[y, .int .i64 e] ∧ KpR B Y k' y W
  | 6, x, W => ∃ y, x = .tuple #[y, .int .i64 e] ∧ KpR B Y k' y W
  | 7, x, W => KpR B Y k' x W
  | 9, x, W => ∃ g, B ≤ g ∧ x = .pointer (some ⟨g, 0, none⟩) ∧ Bk W g 35 #[.int .u64 0, .int .u64 0, .slice none 0 0]
  | 10, x, W => ∃ g A c, B ≤ g ∧ x = .tuple #[.pointer (some ⟨g, 0, none⟩), kpV k' A c] ∧ Bk W g 35 (kpC k' A c) ∧ KpR B Y k' (kpV k' A c) W ∧ ¬ slOf B (kpV k' A c) g
  | _, _, _ => True
theorem R13.out {B : Nat} {Y : Nat → Prop} {k' : Kp} {e : Int} {v0 v1 v2 v3 v4 : Value} (hY : ∀ b, Y b → b < B) (k : Nat) (x : Value) (Z : Nat → Prop) (W W' : World) (hr : R13 B Y k' e v0 v1 v2 v3 v4 k x W) (ho : Out Z W W') (hz : ∀ b, Z b → B ≤ b) (hn : ∀ b, O13 B k x W b → ¬ Z b) : R13 B Y k' e v0 v1 v2 v3 v4 k x W' := by
  have hy : ∀ b, Y b → ¬ Z b := fun b h h2 => by have := hY b h; have := hz b h2; omega
  match k, hr with
  | 0, q => exact q
  | 1, q => exact q
  | 2, q => exact q
  | 3, q => exact q
  | 4, q => exact q
  | 5, ⟨y, e1, q⟩ => exact ⟨y, e1, q.out ho hy fun b hb => hn b ⟨y, _, e1, hb⟩⟩
  | 6, ⟨y, e1, q⟩ => exact ⟨y, e1, q.out ho hy fun b hb => hn b ⟨y, _, e1, hb⟩⟩
  | 7, q => exact KpR.out q ho hy fun b hb => hn b hb
  | 8, _ => trivial
  | 9, ⟨g, hg, e1, q⟩ => exact ⟨g, hg, e1, q.out ho (hn g e1)⟩
  | 10, ⟨g, A, c, hg, e1, q, q2, q3⟩ => exact ⟨g, A, c, hg, e1, q.out ho (hn g ⟨g, _, e1, .inl rfl⟩), q2.out ho hy (fun b hb => hn b ⟨g, _, e1, .inr hb⟩), q3⟩
  | _ + 11, _ => trivial
def RelP (w0 : World) (gd gk n : Nat) (s i : Value) (wr : World) : Prop := ∃ (q gs : Nat) (Z : Nat → Prop) (k : Kp) (A : Option Addr) (c : Nat) (Y : Nat → Prop), s = .pointer (some ⟨gs, 0, none⟩) ∧ i = .int .i64 (q : Int) ∧ q ≤ 60 ∧ Ss w0 wr Z gs gd n k (4 * q) ∧ Bk wr gk 35 (kpC k A c) ∧ LnS Y wr A k.lines.length k.lines ∧ (∀ b, Y b → ¬ Z b ∧ b ≠ gk ∧ b < wr.heap.size) ∧ ¬ Z gk ∧ w0.heap.size ≤ gk

set_option maxRecDepth 100000 in
set_option maxHeartbeats 4000000 in
theorem walk (z : Int) (A : Option Addr) (m c : Nat) (xs : List A1) (w : World) (h : ActS (fun b => b < w.heap.size) w A m xs) (hm : m ≤ 140737488355328) (hy : ∀ x ∈ xs, ∀ y ∈ x.l, y.bytes.length ≤ 140737488355328) : Calls Tryz.prog 3 #[.int .i64 z, .slice A m c] w fun r w' => r = .returned (.bool true) ∧ Below w.heap.size w w' := by
  by_cases h1 : z < 1
  · go_enter Tryz.func3, Tryz.ntmps3
    go_wp2_with fail
    go_ret
    exact ⟨rfl, Below.refl _ _⟩
  by_cases h2 : 400 < z
  · go_enter Tryz.func3, Tryz.ntmps3
    go_wp2_with fail
    go_ret
    exact ⟨rfl, Below.refl _ _⟩
  obtain ⟨n, rfl⟩ : ∃ n : Nat, z = (n : Int) := ⟨z.toNat, by omega⟩
  have CG0 := great_any c h hm hy
  by_cases hg : greatF xs = true
  · rw [hg] at CG0
    have CG := Lib.hid CG0
    clear CG0 h hy
    go_enter Tryz.func3, Tryz.ntmps3
    go_wp2_with fail
    refine CG.out.mono ?_
    rintro e w1 ⟨rfl, rfl⟩
    go_wp2_with fail
    go_ret
    exact ⟨rfl, Below.refl _ _⟩
  have hg : greatF xs = false := by simpa using hg
  rw [hg] at CG0
  have CG := Lib.hid CG0
  have HG := Lib.hid (great_no hg)
  have HA := Lib.hid h
  have HLN := Lib.hid h.len
  have hm60 : m ≤ 60 := by have := (great_no hg).1; rw [h.len] at this; exact this
  clear CG0 hg h hy
  by_cases h8 : (n : Int) < 8
  · have CN := Lib.hid (small_new (w0 := w) (w := w) (n := n) (by omega) (by omega) (Below.refl w.heap.size w))
    go_enter Tryz.func3, Tryz.ntmps3
    go_wp2_with fail
    refine CG.out.mono ?_
    rintro e w0 ⟨rfl, rfl⟩
    clear CG
    go_wp2_with fail
    refine CN.out.mono ?_
    rintro e w1 ⟨gd, X, rfl, hd⟩
    have CO := Lib.hid (small_open hd (by omega))
    have HB1 := Lib.hid hd.below
    clear hd CN
    go_wp2_with fail
    refine CO.out.mono ?_
    rintro e w2 ⟨rfl, rfl⟩
    go_wp2_with fail
    refine (keeps_any w1).mono ?_
    rintro e w10 ⟨rfl, hb⟩
    have HB10 := Lib.hid (HB1.out.trans (hb.mono HB1.out.size))
    clear hb
    go_wp2_with fail
    go_ret
    exact ⟨rfl, HB10.out⟩
  have CN := Lib.hid (ds_new (w0 := w) (n := n) (by omega) (by omega) (Below.refl w.heap.size w))
  go_enter Tryz.func3, Tryz.ntmps3
  go_wp2_with fail
  refine CG.out.mono ?_
  rintro e w0 ⟨rfl, rfl⟩
  clear CG
  go_wp2_with fail
  refine CN.out.mono ?_
  rintro e w1 ⟨gd, X, rfl, hd, hx, hb⟩
  have CO := Lib.hid (hd.open_ (by decide))
  clear hd hx hb CN
  go_wp2_with fail
  refine CO.out.mono ?_
  rintro e w2 ⟨gs, Z2, rfl, hs, -, -, -⟩
  have HS := Lib.hid hs
  clear hs CO
  obtain ⟨V2, hV2⟩ : ∃ V2, V2 = w2.alloc (.cells #[.int .u64 0, .int .u64 0, .slice none 0 0] 35) := ⟨_, rfl⟩
  have HR0 : Hid (RelP w0 gd w2.heap.size n (.pointer (some ⟨gs, 0, none⟩)) (.int .i64 ((0 : Nat) : Int)) V2) := by
    refine ⟨0, gs, Z2, Kp.zero, none, 0, fun _ => False, rfl, rfl, by omega, ?_, ?_, LnS.nil_ _ _ _, (fun b hb => hb.elim), (fun hz => by have := HS.out.lt _ hz; omega), HS.out.below.size⟩
    · rw [hV2]
      exact HS.out.below_ ((Below.refl _ _).alloc (Nat.le_refl _) _)
    · rw [hV2]
      exact Bk.new _ _ _
  clear HS
  go_wp2_with fail
  rw [← hV2]
  clear hV2
  go_loopw [7, 10] (fun s i wr => RelP w0 gd w2.heap.size n s i wr) (fun _ i _ => m - (intOf i).toNat)
  case atStart => exact HR0.out
  case round =>
    clear HR0 V2
    obtain ⟨gk, hgk⟩ : ∃ gk, gk = w2.heap.size := ⟨_, rfl⟩
    rw [← hgk] at hrel ⊢
    obtain ⟨q, gs, Z, k, AK, kc, Y, rfl, rfl, hq, hs, hbk, hls, hY, hZk, hk0⟩ := hrel
    have HS := Lib.hid hs
    have HBK := Lib.hid hbk
    have HLS := Lib.hid hls
    have HY := Lib.hid hY
    have HZK := Lib.hid hZk
    have HK0 := Lib.hid hk0
    have HGK := Lib.hid hgk
    clear hs hbk hls hY hZk hk0 hgk
    by_cases hlt : q < m
    · have hql : q < xs.length := by have := HLN.out; omega
      obtain ⟨b, o, B, c2, hA, c0, c1, c3, hls2, hok⟩ := HA.out.at_ q _ (List.getElem?_eq_getElem hql)
      have hlaid := (HG.out.2 _ (List.getElem_mem hql) hok).2.2
      have hl300 := (HG.out.2 _ (List.getElem_mem hql) hok).1
      have hk0 : (0 : Int) ≤ (q : Int) := Int.natCast_nonneg _
      have hk1 : (q : Int) < (m : Int) := by omega
      generalize hxe : xs[q] = x at *
      have hb0 : b < w0.heap.size := World.block_lt_of_cell? w0 _ c0
      have HOK := Lib.hid hok
      have HLAID := Lib.hid hlaid
      have HL3 := Lib.hid hl300
      have HLX := Lib.hid hls2
      have HB0 := Lib.hid hb0
      have HCA : Hid (∀ V, Below w0.heap.size w0 V → V.cell? ⟨b, o + q * 3, none⟩ = some (.int .u8 (x.do_ : Int)) ∧ V.cell? ⟨b, o + q * 3 + 1, none⟩ = some (.int .u64 (x.e : Int)) ∧ V.cell? ⟨b, o + q * 3 + 2, none⟩ = some (.slice B x.l.length c2)) := fun V hV => ⟨(hV.cell (p := ⟨b, o + q * 3, none⟩) hb0).trans c0, (hV.cell (p := ⟨b, o + q * 3 + 1, none⟩) hb0).trans c1, (hV.cell (p := ⟨b, o + q * 3 + 2, none⟩) hb0).trans c3⟩
      have HAS : Hid (∀ V, Below w0.heap.size w0 V → LnS (fun i => i < w0.heap.size) V B x.l.length x.l) := fun V hV => hls2.below hV
      have HPL := Lib.hid (plays_cases x k (n / 2))
      have HE01 := Lib.hid (err_01 x k)
      clear hls2 hok hlaid hxe hl300 c0 c1 c3 hb0 HLX
      subst hA
      have HYB : Hid (∀ b, (Y b ∨ b < w0.heap.size) → b < wr.heap.size) := fun b hb => hb.elim (fun h => (HY.out b h).2.2) fun h => Nat.lt_of_lt_of_le h HS.out.below.size
      have HOUT : Hid (∀ V, Out (GG fun _ _ => False) wr V → Below wr.heap.size wr V) := fun V hV => hV.below (Below.refl _ _) (fun k ⟨_, h⟩ => h.elim) (Nat.le_refl _)
      obtain ⟨err, herr⟩ : ∃ err, err = errA x k := ⟨_, rfl⟩
      rw [← herr] at HE01 HPL
      have HER := Lib.hid herr
      obtain ⟨k', hk'⟩ : ∃ k', k' = nextA x k := ⟨_, rfl⟩
      rw [← hk'] at HPL
      have HKE := Lib.hid hk'
      have HF' : Hid (Fine k') := by have := fine_next (x := x) HS.out.fine; rw [← hk'] at this; exact this
      clear herr hk'
      go_wp2_with fail
      refine wp_region_pool (F := ?F) con13 (R13 wr.heap.size (fun b => Y b ∨ b < w0.heap.size) k' err (kpV k AK kc) (.slice (some ⟨b, o, none⟩) m c) (.int .i64 (q : Int)) (.pointer (some ⟨b, o + q * 3, none⟩)) (actV x B c2)) (O13 wr.heap.size) (L13 err) (fun _ _ => False) 20 (by kernel_rfl) (by kernel_rfl) (by kernel_rfl) (by kernel_rfl) ?hG1 ?hG2 ?hR (fun i v v' x hc h => l13_same hc h) ?hS ?hF ?hE
      case hF =>
        intro v
        simp only [List.length_cons, List.length_nil, Nat.zero_add, Nat.reduceAdd, PhaseG.final, List.getElem?_toArray, List.getElem?_cons_zero, List.getElem?_cons_succ, Option.bind_some, Act.put, List.setIfInBounds_toArray, List.set_cons_zero, List.set_cons_succ]
        exact rfl
      case hG1 =>
        intro j b hg
        exact hg.elim
      case hG2 =>
        intro i j b h1 h2
        exact h1.elim
      case hR =>
        intro k x Z W W' hx hb ho hz hn
        exact ⟨R13.out HYB.out k x Z W W' hx ho (fun b hb => (hz b hb).elim id fun ⟨_, h⟩ => h.elim) hn, fun b h => h⟩
      case hS =>
        refine stepsL_cons ?_ (stepsL_cons ?_ (stepsL_cons ?_ (stepsL_cons ?_ (stepsL_cons ?_ (stepsL_cons ?_ (stepsL_cons ?_ (stepsL_cons ?_ (stepsL_cons ?_ (stepsL_cons ?_ (stepsL_cons ?_ (stepsL_cons ?_ (stepsL_nil))))))))))))
        · intro a v W hd hb hw K hK
          have k9 : a.tmps.getD 9 undef = .pointer (some ⟨gk, 0, none⟩) := hd.kept 20 9 (by kernel_rfl)
          have hbq := HBK.out.below (HOUT.out W hb)
          have q0 := hbq.cell 0
          have q1 := hbq.cell 1
          have q2 := hbq.cell 2
          simp only [kpC] at q0 q1 q2
          unfold kpV at *
          have hk := hK (kpV k AK kc) W (Out.refl _ _) rfl trivial (fun b hob => absurd hob id)
          clear hK
          unfold Oper.wp
          go_simp
          exact hk
        · intro a v W hd hb hw K hK
          have k1 : a.tmps.getD 1 undef = .slice (some ⟨b, o, none⟩) m c := hd.kept 20 1 (by kernel_rfl)
          have hk := hK (.slice (some ⟨b, o, none⟩) m c) W (Out.refl _ _) rfl trivial (fun b hob => absurd hob id)
          clear hK
          unfold Oper.wp
          go_simp
          exact hk
        · intro a v W hd hb hw K hK
          have k10 : a.tmps.getD 10 undef = .int .i64 (q : Int) := hd.kept 20 10 (by kernel_rfl)
          have hk := hK (.int .i64 (q : Int)) W (Out.refl _ _) rfl trivial (fun b hob => absurd hob id)
          clear hK
          unfold Oper.wp
          go_simp
          exact hk
        · intro a v W hd hb hw K hK
          obtain ⟨h59, r59⟩ := hd.done_ 1 _ 59 (by kernel_rfl) rfl rfl (by kernel_rfl)
          have r59 : v 1 = .slice (some ⟨b, o, none⟩) m c := r59
          rw [r59] at h59
          obtain ⟨h60, r60⟩ := hd.done_ 2 _ 60 (by kernel_rfl) rfl rfl (by kernel_rfl)
          have r60 : v 2 = .int .i64 (q : Int) := r60
          rw [r60] at h60
          have hk := hK (.pointer (some ⟨b, o + q * 3, none⟩)) W (Out.refl _ _) rfl trivial (fun b hob => absurd hob id)
          clear hK
          unfold Oper.wp
          go_simp
          exact hk
        · intro a v W hd hb hw K hK
          obtain ⟨h61, r61⟩ := hd.done_ 3 _ 61 (by kernel_rfl) rfl rfl (by kernel_rfl)
          have r61 : v 3 = .pointer (some ⟨b, o + q * 3, none⟩) := r61
          rw [r61] at h61
          obtain ⟨q0, q1, q2⟩ := HCA.out W (HS.out.below.trans ((HOUT.out W hb).mono HS.out.below.size))
          unfold actV at *
          have hk := hK (actV x B c2) W (Out.refl _ _) rfl trivial (fun b hob => absurd hob id)
          clear hK
          unfold Oper.wp
          go_simp
          exact hk
        · intro a v W hd hb hw K hK
          obtain ⟨h58, r58⟩ := hd.done_ 0 _ 58 (by kernel_rfl) rfl rfl (by kernel_rfl)
          have r58 : v 0 = kpV k AK kc := r58
          rw [r58] at h58
          obtain ⟨h62, r62⟩ := hd.done_ 4 _ 62 (by kernel_rfl) rfl rfl (by kernel_rfl)
          have r62 : v 4 = actV x B c2 := r62
          rw [r62] at h62
          have hbw := HOUT.out W hb
          have ct := next_any k AK kc x B c2 W (HLS.out.below hbw) HS.out.fine (HAS.out W (HS.out.below.trans (hbw.mono HS.out.below.size))) (fun b hb => Nat.lt_of_lt_of_le (HYB.out b hb) hbw.size) HOK.out (by have := HL3.out; omega)
          rw [← HER.out, ← HKE.out] at ct
          unfold Oper.wp
          unfold kpV at h58 ct
          unfold actV at h62 ct
          go_simp
          refine ct.mono ?_
          rintro e' W' ⟨A', c', rfl, hl', hb'⟩
          have hkr : KpR wr.heap.size (fun b => Y b ∨ b < w0.heap.size) k' (kpV k' A' c') W' := ⟨A', c', rfl, hl'.mono fun b hb => hb.imp id fun ⟨h1, h2⟩ => ⟨Nat.le_trans hbw.size h1, h2⟩⟩
          refine hK (.tuple #[kpV k' A' c', .int .i64 err]) W' (Out.of_below hb') ⟨_, rfl, hkr⟩ trivial (fun b hob => ?_)
          obtain ⟨y, e1, e2, hwb, p1, p2, A1, n1, d1, a1, e3, hn1, e4, e5⟩ := hob
          injection e2 with e2
          have e6 : y = kpV k' A' c' := by have := congrArg (fun l : Array Value => l[0]?) e2; simpa using this.symm
          rw [e6] at e3
          unfold kpV at e3
          injection e3 with e3
          have e7 := congrArg (fun l : Array Value => l[2]?) e3
          simp only [List.getElem?_toArray, List.getElem?_cons_succ, List.getElem?_cons_zero, Option.some.injEq, Value.slice.injEq] at e7
          obtain ⟨e8, e9, e10⟩ := e7
          have q1 := lns_blk hl' (by omega) (by rw [e8]; exact e4 : A' = some a1)
          rw [e5] at q1
          refine ⟨q1.2, .inl ?_⟩
          rcases q1.1 with q | ⟨q, _⟩
          · have := HYB.out b q
            omega
          · exact q
        · intro a v W hd hb hw K hK
          obtain ⟨h63, r63⟩ := hd.done_ 5 _ 63 (by kernel_rfl) rfl rfl (by kernel_rfl)
          obtain ⟨y, e5, hy5⟩ := r63
          rw [e5] at h63
          have hk := hK (.tuple #[y, .int .i64 err]) W (Out.refl _ _) ⟨y, rfl, hy5⟩ ⟨y, rfl⟩ (fun b hob => ?hob)
          case hob =>
            have hob2 : O13 wr.heap.size 5 (v 5) W b := by rw [e5]; exact hob
            obtain ⟨y', e', e2, hsl⟩ := hob
            injection e2 with e2
            have e6 : y = y' := by have := congrArg (fun l : Array Value => l[0]?) e2; simpa using this
            rw [← e6] at hsl
            exact ⟨hy5.lt hsl, .inr (.inl ⟨5, by decide, hob2⟩)⟩
          clear hK
          unfold Oper.wp
          go_simp
          exact hk
        · intro a v W hd hb hw K hK
          obtain ⟨h57, r57⟩ := hd.done_ 6 _ 57 (by kernel_rfl) rfl rfl (by kernel_rfl)
          obtain ⟨y, e5, hy5⟩ := r57
          rw [e5] at h57
          have hk := hK y W (Out.refl _ _) hy5 trivial (fun b hob => ?hob)
          case hob =>
            have hob2 : O13 wr.heap.size 6 (v 6) W b := by rw [e5]; exact ⟨y, _, rfl, hob⟩
            exact ⟨hy5.lt hob, .inr (.inl ⟨6, by decide, hob2⟩)⟩
          clear hK
          unfold Oper.wp
          go_simp
          exact hk
        · intro a v W hd hb hw K hK
          obtain ⟨h57, l57⟩ := hd.told 6 _ 57 (by kernel_rfl) rfl rfl
          obtain ⟨y, e5⟩ := l57
          rw [e5] at h57
          have hk := hK (.int .i64 err) W (Out.refl _ _) trivial rfl (fun b hob => absurd hob id)
          clear hK
          unfold Oper.wp
          go_simp
          exact hk
        · intro a v W hd hb hw K hK
          have hk := hK (.pointer (some ⟨W.heap.size, 0, none⟩)) (W.alloc (.cells #[.int .u64 0, .int .u64 0, .slice none 0 0] 35)) (Out.of_below ((Below.refl _ _).alloc (Nat.le_refl _) _)) ⟨W.heap.size, hb.size, rfl, Bk.new _ _ _⟩ trivial (fun b hob => by
            have hob : Value.pointer (some ⟨W.heap.size, 0, none⟩) = .pointer (some ⟨b, 0, none⟩) := hob
            injection hob with e
            injection e with e
            injection e with e
            subst e
            exact ⟨by simp, .inl (Nat.le_refl _)⟩)
          clear hK
          unfold Oper.wp
          go_simp
          exact hk
        · intro a v W hd hb hw K hK
          obtain ⟨h11, r11⟩ := hd.done_ 9 _ 11 (by kernel_rfl) rfl rfl (by kernel_rfl)
          obtain ⟨h64, r64⟩ := hd.done_ 7 _ 64 (by kernel_rfl) rfl rfl (by kernel_rfl)
          obtain ⟨g, hgB, e9, hg⟩ := r11
          rw [e9] at h11
          have hkr : KpR wr.heap.size (fun b => Y b ∨ b < w0.heap.size) k' (v 7) W := r64
          obtain ⟨A', c', e7, hl'⟩ := hkr
          rw [e7] at h64
          have hne := slOf_zero (B := wr.heap.size) HF'.out hl' hg c'
          refine wp_store_blk (cells := kpC k' A' c') 35 (.tmp 11) (.tmp 64) rfl h11 h64 hg size_k9 rfl (by simp [kpC, Value.oneCell']) fun W' hg' ho => ?_
          have hkr : KpR wr.heap.size (fun b => Y b ∨ b < w0.heap.size) k' (kpV k' A' c') W := ⟨A', c', rfl, hl'⟩
          have hkr' := hkr.out ho (fun b hb e => by have := HYB.out b hb; omega) (fun b hb e => hne (e ▸ hb))
          refine hK (.tuple #[.pointer (some ⟨g, 0, none⟩), kpV k' A' c']) W' (ho.mono fun k hk => .inl (.inl ⟨9, by decide, by rw [hk]; exact e9⟩)) ⟨g, A', c', hgB, rfl, hg', hkr', hne⟩ ⟨kpV k' A' c', by rw [e9]⟩ (fun b hob => ?_)
          obtain ⟨g2, y, e1, hob⟩ := hob
          injection e1 with e1
          have e2 := congrArg (fun l : Array Value => l[0]?) e1
          have e3 := congrArg (fun l : Array Value => l[1]?) e1
          simp only [List.getElem?_toArray, List.getElem?_cons_succ, List.getElem?_cons_zero, Option.some.injEq, Value.pointer.injEq, Addr.mk.injEq, and_true] at e2 e3
          rcases hob with hob | hob
          · rw [hob, ← e2]
            exact ⟨hg'.lt, .inr (.inl ⟨9, by decide, e9⟩)⟩
          · rw [← e3] at hob
            refine ⟨hkr'.lt hob, .inr (.inl ⟨7, by decide, ?_⟩)⟩
            show slOf wr.heap.size (v 7) b
            rw [e7]
            exact hob
        · intro a v W hd hb hw K hK
          obtain ⟨h65, l65⟩ := hd.told 8 _ 65 (by kernel_rfl) rfl rfl
          have l65 : v 8 = .int .i64 err := l65
          rw [l65] at h65
          have hk := hK (.int .i64 err) W (Out.refl _ _) trivial rfl (fun b hob => absurd hob id)
          clear hK
          unfold Oper.wp
          go_simp
          exact hk
      case hE =>
        intro v W hb1 hv hl
        have hbW := HOUT.out W hb1
        obtain ⟨g, A2, k2, hgB, e10, hg, hkr, hne⟩ := hv 10 (by decide) (by decide)
        obtain ⟨y, l10⟩ := hl 10 (by decide)
        have e9 : v 9 = .pointer (some ⟨g, 0, none⟩) := by
          rw [e10] at l10
          injection l10 with l10
          have := congrArg (fun l : Array Value => l[0]?) l10
          simpa using this.symm
        have e11 : v 11 = .int .i64 err := hl 11 (by decide)
        have hlw : LnS (Ow wr.heap.size (fun b => Y b ∨ b < w0.heap.size) A2) W A2 k'.lines.length k'.lines := kpR_lns hkr
        rw [e9, e11]
        generalize v 0 = x0
        generalize v 1 = x1
        generalize v 2 = x2
        generalize v 3 = x3
        generalize v 4 = x4
        generalize v 5 = x5
        generalize v 6 = x6
        generalize v 7 = x7
        generalize v 8 = x8
        have HG9 := Lib.hid hg
        have HGB := Lib.hid hgB
        have HLW := Lib.hid hlw
        have HBW := Lib.hid hbW
        clear hv hl e9 e10 e11 l10 hg hgB hkr hne hlw hbW hb1 v y
        have HSW := Lib.hid (HS.out.below_ HBW.out)
        obtain ⟨q0, q1, q2⟩ := HCA.out W HSW.out.below
        have CD0 := does_ss HSW.out (by omega) x HOK.out HLAID.out B c2 (HAS.out W HSW.out.below) (fun b hb => ⟨fun hz => by have := HSW.out.own b hz; omega, Nat.lt_of_lt_of_le hb HSW.out.below.size⟩)
        have CD := Lib.hid CD0
        clear CD0
        unfold actV at CD
        go_wp2_with fail
        refine CD.out.mono ?_
        rintro e w3 ⟨rfl, Z3, hs3, ho3, hz3⟩
        have HBK3 := Lib.hid ((HBK.out.below HBW.out).out ho3 HZK.out)
        have HG3 := Lib.hid (HG9.out.out ho3 (fun hz => by have := HS.out.lt _ hz; have := HGB.out; omega))
        have HLN3 : Hid (LnS (Ow wr.heap.size (fun b => Y b ∨ b < w0.heap.size) A2) w3 A2 k'.lines.length k'.lines) := HLW.out.out ho3 fun b hb hz => by
          rcases hb with (hb | hb) | ⟨hb, _⟩
          · exact (HY.out b hb).1 hz
          · have := HS.out.own b hz; omega
          · have := HS.out.lt b hz; omega
        have HLS3 : Hid (LnS Y w3 AK k.lines.length k.lines) := (HLS.out.below HBW.out).out ho3 fun b hb hz => (HY.out b hb).1 hz
        have HZ3 : Hid (∀ b, Z3 b → Z b ∨ W.heap.size ≤ b) := hz3
        have HS3 := Lib.hid hs3
        have HGK3 : Hid (¬ Z3 gk) := fun hz => by
          rcases hz3 gk hz with h | h
          · exact HZK.out h
          · have := HBK.out.lt; have := HBW.out.size; omega
        have HSZ : Hid (W.heap.size ≤ w3.heap.size) := ho3.size
        have HLT : Hid (∀ b, Ow wr.heap.size (fun b => Y b ∨ b < w0.heap.size) A2 b → 1 ≤ k'.lines.length → b < W.heap.size) := fun b hb h1 => by
          rcases hb with hb | ⟨_, a, ha, hab⟩
          · exact Nat.lt_of_lt_of_le (HYB.out b hb) HBW.out.size
          · rw [← hab]; exact (lns_blk HLW.out h1 ha).2
        have HSO : Hid (∀ b, Z b → w0.heap.size ≤ b) := HS.out.own
        have HSL : Hid (∀ b, Z b → b < wr.heap.size) := HS.out.lt
        have HGL : Hid (gk < wr.heap.size) := HBK.out.lt
        have HYL : Hid (∀ b, Y b → b < wr.heap.size) := fun b hb => (HY.out b hb).2.2
        have HWL : Hid (w0.heap.size ≤ wr.heap.size) := HS.out.below.size
        have HGW : Hid (g < W.heap.size) := HG9.out.lt
        clear hs3 ho3 hz3 CD q0 q1 q2 HSW HLW HG9 HLS HS HBK
        rcases HPL.out with ⟨p1, p2⟩ | ⟨p1, p2, p3, p4, p5⟩
        · have HPX := Lib.hid p2
          rw [p2] at HS3
          rw [p1]
          clear HPL p1 p2
          obtain ⟨q0, q1, q2⟩ : w3.cell? ⟨g, 0, none⟩ = some (.int .u64 (k'.promised : Int)) ∧ w3.cell? ⟨g, 1, none⟩ = some (.int .u64 (k'.current : Int)) ∧ w3.cell? ⟨g, 2, none⟩ = some (.slice A2 k'.lines.length k2) := ⟨HG3.out.cell 0, HG3.out.cell 1, HG3.out.cell 2⟩
          rcases HE01.out with rfl | rfl
          all_goals
            go_wp2_with ((with_reducible refine wpList_store_bk ?_ 35 (.tmp 9) (.tmp 89) ?_ gk 35 (kpC k AK kc) (kpC k' A2 k2) ?_ ?_ ?_ ?_ ?_ ?_ ?_); (exact rfl); (exact rfl); (exact rfl); (exact rfl); (exact HBK3.out); (exact size_k9); (exact rfl); (simp [kpC, Value.oneCell']))
            refine Lib.hid ?_
            clear q0 q1 q2
            intro V hV1 hV2
            have HBK4 := Lib.hid hV1
            have HS4 := Lib.hid (HS3.out.out hV2 (fun b hb => by rw [hb]; exact ⟨HGK3.out, HK0.out⟩))
            have HLN4 : Hid (LnS (fun b => Ow wr.heap.size (fun b => Y b ∨ b < w0.heap.size) A2 b ∧ b < W.heap.size) V A2 k'.lines.length k'.lines) := lns_few (fun b hb => hb) (HLN3.out.out hV2 fun b hb e => by
              rw [e] at hb
              rcases hb with (hb | hb) | ⟨hb, _⟩
              · exact (HY.out gk hb).2.1 rfl
              · have := HK0.out; omega
              · have := HGL.out; omega) HLT.out
            obtain ⟨Yu, hyu⟩ : ∃ Yu, Yu = (fun b => Ow wr.heap.size (fun b => Y b ∨ b < w0.heap.size) A2 b ∧ b < W.heap.size) := ⟨_, rfl⟩
            rw [← hyu] at HLN4
            have HY4 : Hid (∀ b, Yu b → ¬ Z3 b ∧ b ≠ gk ∧ b < V.heap.size) := fun b hb => by
              rw [hyu] at hb
              obtain ⟨hb, hbl⟩ := hb
              refine ⟨fun hz => ?_, fun e => ?_, Nat.lt_of_lt_of_le (Nat.lt_of_lt_of_le hbl HSZ.out) hV2.size⟩
              · rcases HZ3.out b hz with h | h
                · rcases hb with (hb | hb) | ⟨hb, _⟩
                  · exact (HY.out b hb).1 h
                  · have := HSO.out b h; omega
                  · have := HSL.out b h; omega
                · omega
              · rw [e] at hb
                rcases hb with (hb | hb) | ⟨hb, _⟩
                · exact (HY.out gk hb).2.1 rfl
                · have := HK0.out; omega
                · have := HGL.out; omega
            clear hyu
            have HZ4 := HGK3
            clear hV1 hV2
            obtain ⟨q0, q1, q2⟩ := HCA.out V HS4.out.below
            have hd0 := HOK.out.do_
            by_cases h4 : x.do_ % 5 = 4
            · have m4 : ((x.do_ : Int) % 5 == 4) = true := by rw [beq_iff_eq]; omega
              obtain ⟨X4, hd4, hx4⟩ := HS4.out.disk
              have CO := Lib.hid (hd4.open_ (by omega))
              clear hd4
              go_wp2_with fail
              refine CO.out.mono ?_
              rintro e wu ⟨gu, Zu, rfl, hsu, hbu, hzu, -⟩
              have HSU := Lib.hid hsu
              have HBU := Lib.hid (HBK4.out.below hbu)
              have HLU := Lib.hid (HLN4.out.below hbu)
              have HYU : Hid (∀ b, Yu b → ¬ Zu b ∧ b ≠ gk ∧ b < wu.heap.size) := fun b hb => ⟨fun hz => by
                rcases hzu b hz with h | h
                · exact (HY4.out b hb).1 (hx4 b h)
                · have := (HY4.out b hb).2.2; omega, (HY4.out b hb).2.1, Nat.lt_of_lt_of_le (HY4.out b hb).2.2 hbu.size⟩
              have HZU : Hid (¬ Zu gk) := fun hz => by
                rcases hzu gk hz with h | h
                · exact HZ4.out (hx4 gk h)
                · have := HBK4.out.lt; omega
              clear hsu hbu hzu CO HS4 HBK4 HLN4 HY4 HZ4 q0 q1 q2 hx4
              go_wp2_with fail
              obtain ⟨sp, hsp⟩ : ∃ sp, sp = S (textK k') := ⟨_, rfl⟩
              have hpr : k'.promised < 18446744073709551616 := Nat.lt_of_le_of_lt HSU.out.fine.prom top_lt9
              have hcu : k'.current < 18446744073709551616 := Nat.lt_of_le_of_lt (Nat.le_trans HSU.out.fine.cur HSU.out.fine.prom) top_lt9
              have CT : Hid (∀ VX, Below wu.heap.size wu VX → Calls Tryz.prog 18 #[.pointer (some ⟨gu, 0, none⟩)] VX fun e w' => e = .returned (.string sp) ∧ Below VX.heap.size VX w') := fun VX hV => by
                rw [hsp]
                exact text_any (HSU.out.below_ hV).kept HSU.out.fine
              have CR : Hid (∀ VX, Below wu.heap.size wu VX → Calls Tryz.prog 19 #[.int .u64 (k'.promised : Int), .int .u64 (k'.current : Int), .slice A2 k'.lines.length k2] VX fun e w' => e = .returned (.string sp) ∧ Below VX.heap.size VX w') := fun VX hV => by
                rw [hsp]
                exact refText_any _ k'.promised k'.current k'.lines A2 k'.lines.length k2 VX (HLU.out.below hV) (fine_text HSU.out.fine).1 hpr hcu (fine_text HSU.out.fine).2
              have CD : Hid (∀ VX, Below wu.heap.size wu VX → Calls Tryz.prog 20 #[.pointer (some ⟨gu, 0, none⟩)] VX fun e w' => e = .returned (.bool false) ∧ VX = w') := fun VX hV => (HSU.out.below_ hV).dead
              have HCE : Hid (∀ VX, Below wu.heap.size wu VX → VX.cell? ⟨gk, 0, none⟩ = some (.int .u64 (k'.promised : Int)) ∧ VX.cell? ⟨gk, 1, none⟩ = some (.int .u64 (k'.current : Int)) ∧ VX.cell? ⟨gk, 2, none⟩ = some (.slice A2 k'.lines.length k2)) := fun VX hV => by
                have h := HBU.out.below hV
                exact ⟨h.cell 0, h.cell 1, h.cell 2⟩
              have HFR : Hid (∀ VX, Below wu.heap.size wu VX → RelP w0 gd gk n (.pointer (some ⟨gu, 0, none⟩)) (.int .i64 ((q + 1 : Nat) : Int)) VX) := fun VX hV =>
                ⟨q + 1, gu, Zu, k', A2, k2, Yu, rfl, rfl, by omega, (HSU.out.below_ hV).mono (by omega), HBU.out.below hV, HLU.out.below hV, fun b hb => ⟨(HYU.out b hb).1, (HYU.out b hb).2.1, Nat.lt_of_lt_of_le (HYU.out b hb).2.2 hV.size⟩, HZU.out, HK0.out⟩
              clear hpr hcu hsp
              clear HSU HBU HLU HYU HZU
              have B1 := Lib.hid (Below.refl wu.heap.size wu).drew
              go_region_held3 (fun w' => w'.cell? ⟨gk, 0, none⟩ = some (.int .u64 (k'.promised : Int)) ∧ w'.cell? ⟨gk, 1, none⟩ = some (.int .u64 (k'.current : Int)) ∧ w'.cell? ⟨gk, 2, none⟩ = some (.slice A2 k'.lines.length k2))
                (first | exact HCE.out _ B1.out | exact HCE.out _ HE2.out | exact HCE.out _ HE3.out)
                (first
                  | (go_at_call 18; refine (CT.out _ HE2.out).mono ?_; rintro e wf ⟨rfl, hb⟩; have HE3 := Lib.hid (HE2.out.trans (hb.mono HE2.out.size)); clear hb)
                  | (go_at_call 18; refine (CT.out _ B1.out).mono ?_; rintro e we ⟨rfl, hb⟩; have HE2 := Lib.hid (B1.out.trans (hb.mono B1.out.size)); clear hb)
                  | (go_at_call 19; refine (CR.out _ HE2.out).mono ?_; rintro e wf ⟨rfl, hb⟩; have HE3 := Lib.hid (HE2.out.trans (hb.mono HE2.out.size)); clear hb)
                  | (go_at_call 19; refine (CR.out _ B1.out).mono ?_; rintro e we ⟨rfl, hb⟩; have HE2 := Lib.hid (B1.out.trans (hb.mono B1.out.size)); clear hb)
                  | (go_at_call 20; refine (CD.out _ HE3.out).mono ?_; rintro e wg ⟨rfl, rfl⟩))
              all_goals
                go_wp2_with fail
                exact ⟨HFR.out _ HE3.out, by simp [intOf]; omega⟩
            · have m4 : ((x.do_ : Int) % 5 == 4) = false := by rw [beq_eq_false_iff_ne]; omega
              obtain ⟨gu, hgu⟩ : ∃ gu, gu = gs := ⟨_, rfl⟩
              rw [← hgu] at HS4 ⊢
              clear hgu
              obtain ⟨Zu, hzu⟩ : ∃ Zu, Zu = Z3 := ⟨_, rfl⟩
              rw [← hzu] at HS4 HY4 HZ4
              clear hzu
              have HSU := HS4
              have HBU := HBK4
              have HLU := HLN4
              have HYU := HY4
              have HZU := HZ4
              clear HS4 HBK4 HLN4 HY4 HZ4
              go_wp2_with fail
              obtain ⟨sp, hsp⟩ : ∃ sp, sp = S (textK k') := ⟨_, rfl⟩
              have hpr : k'.promised < 18446744073709551616 := Nat.lt_of_le_of_lt HSU.out.fine.prom top_lt9
              have hcu : k'.current < 18446744073709551616 := Nat.lt_of_le_of_lt (Nat.le_trans HSU.out.fine.cur HSU.out.fine.prom) top_lt9
              have CT : Hid (∀ VX, Below V.heap.size V VX → Calls Tryz.prog 18 #[.pointer (some ⟨gu, 0, none⟩)] VX fun e w' => e = .returned (.string sp) ∧ Below VX.heap.size VX w') := fun VX hV => by
                rw [hsp]
                exact text_any (HSU.out.below_ hV).kept HSU.out.fine
              have CR : Hid (∀ VX, Below V.heap.size V VX → Calls Tryz.prog 19 #[.int .u64 (k'.promised : Int), .int .u64 (k'.current : Int), .slice A2 k'.lines.length k2] VX fun e w' => e = .returned (.string sp) ∧ Below VX.heap.size VX w') := fun VX hV => by
                rw [hsp]
                exact refText_any _ k'.promised k'.current k'.lines A2 k'.lines.length k2 VX (HLU.out.below hV) (fine_text HSU.out.fine).1 hpr hcu (fine_text HSU.out.fine).2
              have CD : Hid (∀ VX, Below V.heap.size V VX → Calls Tryz.prog 20 #[.pointer (some ⟨gu, 0, none⟩)] VX fun e w' => e = .returned (.bool false) ∧ VX = w') := fun VX hV => (HSU.out.below_ hV).dead
              have HCE : Hid (∀ VX, Below V.heap.size V VX → VX.cell? ⟨gk, 0, none⟩ = some (.int .u64 (k'.promised : Int)) ∧ VX.cell? ⟨gk, 1, none⟩ = some (.int .u64 (k'.current : Int)) ∧ VX.cell? ⟨gk, 2, none⟩ = some (.slice A2 k'.lines.length k2)) := fun VX hV => by
                have h := HBU.out.below hV
                exact ⟨h.cell 0, h.cell 1, h.cell 2⟩
              have HFR : Hid (∀ VX, Below V.heap.size V VX → RelP w0 gd gk n (.pointer (some ⟨gu, 0, none⟩)) (.int .i64 ((q + 1 : Nat) : Int)) VX) := fun VX hV =>
                ⟨q + 1, gu, Zu, k', A2, k2, Yu, rfl, rfl, by omega, (HSU.out.below_ hV).mono (by omega), HBU.out.below hV, HLU.out.below hV, fun b hb => ⟨(HYU.out b hb).1, (HYU.out b hb).2.1, Nat.lt_of_lt_of_le (HYU.out b hb).2.2 hV.size⟩, HZU.out, HK0.out⟩
              clear hpr hcu hsp
              clear HSU HBU HLU HYU HZU
              have B1 := Lib.hid (Below.refl V.heap.size V).drew
              go_region_held3 (fun w' => w'.cell? ⟨gk, 0, none⟩ = some (.int .u64 (k'.promised : Int)) ∧ w'.cell? ⟨gk, 1, none⟩ = some (.int .u64 (k'.current : Int)) ∧ w'.cell? ⟨gk, 2, none⟩ = some (.slice A2 k'.lines.length k2))
                (first | exact HCE.out _ B1.out | exact HCE.out _ HE2.out | exact HCE.out _ HE3.out)
                (first
                  | (go_at_call 18; refine (CT.out _ HE2.out).mono ?_; rintro e wf ⟨rfl, hb⟩; have HE3 := Lib.hid (HE2.out.trans (hb.mono HE2.out.size)); clear hb)
                  | (go_at_call 18; refine (CT.out _ B1.out).mono ?_; rintro e we ⟨rfl, hb⟩; have HE2 := Lib.hid (B1.out.trans (hb.mono B1.out.size)); clear hb)
                  | (go_at_call 19; refine (CR.out _ HE2.out).mono ?_; rintro e wf ⟨rfl, hb⟩; have HE3 := Lib.hid (HE2.out.trans (hb.mono HE2.out.size)); clear hb)
                  | (go_at_call 19; refine (CR.out _ B1.out).mono ?_; rintro e we ⟨rfl, hb⟩; have HE2 := Lib.hid (B1.out.trans (hb.mono B1.out.size)); clear hb)
                  | (go_at_call 20; refine (CD.out _ HE3.out).mono ?_; rintro e wg ⟨rfl, rfl⟩))
              all_goals
                go_wp2_with fail
                exact ⟨HFR.out _ HE3.out, by simp [intOf]; omega⟩
        · rw [p3] at HS3
          rw [p1] at HE01 HER ⊢
          rw [p2]
          have H4 : Hid (¬ x.do_ % 5 = 4) := fun h => p5 (by unfold deedA; rw [if_neg (by omega), if_neg (by omega), if_pos h])
          have CF0 := fits9_any k' A2 k2 n w3 HLN3.out HF'.out (by omega) (by omega)
          rw [p4] at CF0
          have CF := Lib.hid CF0
          clear CF0 HPL p1 p2 p3 p4 p5
          obtain ⟨q0, q1, q2⟩ : w3.cell? ⟨g, 0, none⟩ = some (.int .u64 (k'.promised : Int)) ∧ w3.cell? ⟨g, 1, none⟩ = some (.int .u64 (k'.current : Int)) ∧ w3.cell? ⟨g, 2, none⟩ = some (.slice A2 k'.lines.length k2) := ⟨HG3.out.cell 0, HG3.out.cell 1, HG3.out.cell 2⟩
          unfold kpV at CF
          go_wp2_with fail
          refine CF.out.mono ?_
          rintro e w5 ⟨rfl, hb5⟩
          have HBK5 := Lib.hid (HBK3.out.below hb5)
          have HG5 := Lib.hid (HG3.out.below hb5)
          have HLS5 := Lib.hid (HLS3.out.below hb5)
          have HS5 := Lib.hid (HS3.out.below_ hb5)
          have HZ5 : Hid (w3.heap.size ≤ w5.heap.size) := hb5.size
          clear hb5 CF q0 q1 q2 HS3 HBK3 HG3 HLS3 HLN3
          obtain ⟨q0, q1, q2⟩ : w5.cell? ⟨gk, 0, none⟩ = some (.int .u64 (k.promised : Int)) ∧ w5.cell? ⟨gk, 1, none⟩ = some (.int .u64 (k.current : Int)) ∧ w5.cell? ⟨gk, 2, none⟩ = some (.slice AK k.lines.length kc) := ⟨HBK5.out.cell 0, HBK5.out.cell 1, HBK5.out.cell 2⟩
          go_wp2_with ((with_reducible refine wpList_store_bk ?_ 35 (.tmp 11) (.tmp 84) ?_ g 35 (kpC k' A2 k2) (kpC k AK kc) ?_ ?_ ?_ ?_ ?_ ?_ ?_); (exact rfl); (exact rfl); (exact rfl); (exact rfl); (exact HG5.out); (exact size_k9); (exact rfl); (simp [kpC, Value.oneCell']))
          refine Lib.hid ?_
          intro V5 hV1 hV2
          clear q0 q1 q2
          have HGN : Hid (g ≠ gk) := by have := HGB.out; have := HGL.out; show _ ≠ _; omega
          have HG6 := Lib.hid hV1
          have HBK6 := Lib.hid (HBK5.out.out hV2 (fun e => HGN.out e.symm))
          have HLS6 := Lib.hid (HLS5.out.out hV2 (fun b hb e => by have := (HYL.out b hb); have := HGB.out; omega))
          have HS6 := Lib.hid (HS5.out.out hV2 (fun b hb => by
            rw [hb]
            refine ⟨fun hz => ?_, by have := HGB.out; have := HWL.out; omega⟩
            rcases HZ3.out g hz with h | h
            · have := HSL.out g h; have := HGB.out; omega
            · have := HGW.out; omega))
          have HZ6 : Hid (w5.heap.size ≤ V5.heap.size) := hV2.size
          clear hV1 hV2 HS5 HBK5 HG5 HLS5
          obtain ⟨q0, q1, q2⟩ : V5.cell? ⟨g, 0, none⟩ = some (.int .u64 (k.promised : Int)) ∧ V5.cell? ⟨g, 1, none⟩ = some (.int .u64 (k.current : Int)) ∧ V5.cell? ⟨g, 2, none⟩ = some (.slice AK k.lines.length kc) := ⟨HG6.out.cell 0, HG6.out.cell 1, HG6.out.cell 2⟩
          go_wp2_with ((with_reducible refine wpList_store_bk ?_ 35 (.tmp 9) (.tmp 89) ?_ gk 35 (kpC k AK kc) (kpC k AK kc) ?_ ?_ ?_ ?_ ?_ ?_ ?_); (exact rfl); (exact rfl); (exact rfl); (exact rfl); (exact HBK6.out); (exact size_k9); (exact rfl); (simp [kpC, Value.oneCell']))
          refine Lib.hid ?_
          clear q0 q1 q2
          intro V hV1 hV2
          have HBK4 := Lib.hid hV1
          have HS4 := Lib.hid (HS6.out.out hV2 (fun b hb => by rw [hb]; exact ⟨HGK3.out, HK0.out⟩))
          have HLN4 : Hid (LnS Y V AK k.lines.length k.lines) := HLS6.out.out hV2 fun b hb e => (HY.out b hb).2.1 e
          obtain ⟨Yu, hyu⟩ : ∃ Yu, Yu = Y := ⟨_, rfl⟩
          rw [← hyu] at HLN4
          have HY4 : Hid (∀ b, Yu b → ¬ Z3 b ∧ b ≠ gk ∧ b < V.heap.size) := fun b hb => by
            rw [hyu] at hb
            refine ⟨fun hz => ?_, (HY.out b hb).2.1, ?_⟩
            · rcases HZ3.out b hz with h | h
              · exact (HY.out b hb).1 h
              · have := HYL.out b hb; have := HBW.out.size; omega
            · have := HYL.out b hb; have := HBW.out.size; have := HSZ.out; have := HZ5.out; have := HZ6.out; have := hV2.size; omega
          clear hyu
          have HZ4 := HGK3
          clear hV1 hV2
          obtain ⟨q0, q1, q2⟩ := HCA.out V HS4.out.below
          have hd0 := HOK.out.do_
          have h4 : ¬ x.do_ % 5 = 4 := H4.out
          have m4 : ((x.do_ : Int) % 5 == 4) = false := by rw [beq_eq_false_iff_ne]; omega
          obtain ⟨gu, hgu⟩ : ∃ gu, gu = gs := ⟨_, rfl⟩
          rw [← hgu] at HS4 ⊢
          clear hgu
          obtain ⟨Zu, hzu⟩ : ∃ Zu, Zu = Z3 := ⟨_, rfl⟩
          rw [← hzu] at HS4 HY4 HZ4
          clear hzu
          have HSU := HS4
          have HBU := HBK4
          have HLU := HLN4
          have HYU := HY4
          have HZU := HZ4
          clear HS4 HBK4 HLN4 HY4 HZ4
          go_wp2_with fail
          obtain ⟨sp, hsp⟩ : ∃ sp, sp = S (textK k) := ⟨_, rfl⟩
          have hpr : k.promised < 18446744073709551616 := Nat.lt_of_le_of_lt HSU.out.fine.prom top_lt9
          have hcu : k.current < 18446744073709551616 := Nat.lt_of_le_of_lt (Nat.le_trans HSU.out.fine.cur HSU.out.fine.prom) top_lt9
          have CT : Hid (∀ VX, Below V.heap.size V VX → Calls Tryz.prog 18 #[.pointer (some ⟨gu, 0, none⟩)] VX fun e w' => e = .returned (.string sp) ∧ Below VX.heap.size VX w') := fun VX hV => by
            rw [hsp]
            exact text_any (HSU.out.below_ hV).kept HSU.out.fine
          have CR : Hid (∀ VX, Below V.heap.size V VX → Calls Tryz.prog 19 #[.int .u64 (k.promised : Int), .int .u64 (k.current : Int), .slice AK k.lines.length kc] VX fun e w' => e = .returned (.string sp) ∧ Below VX.heap.size VX w') := fun VX hV => by
            rw [hsp]
            exact refText_any _ k.promised k.current k.lines AK k.lines.length kc VX (HLU.out.below hV) (fine_text HSU.out.fine).1 hpr hcu (fine_text HSU.out.fine).2
          have CD : Hid (∀ VX, Below V.heap.size V VX → Calls Tryz.prog 20 #[.pointer (some ⟨gu, 0, none⟩)] VX fun e w' => e = .returned (.bool false) ∧ VX = w') := fun VX hV => (HSU.out.below_ hV).dead
          have HCE : Hid (∀ VX, Below V.heap.size V VX → VX.cell? ⟨gk, 0, none⟩ = some (.int .u64 (k.promised : Int)) ∧ VX.cell? ⟨gk, 1, none⟩ = some (.int .u64 (k.current : Int)) ∧ VX.cell? ⟨gk, 2, none⟩ = some (.slice AK k.lines.length kc)) := fun VX hV => by
            have h := HBU.out.below hV
            exact ⟨h.cell 0, h.cell 1, h.cell 2⟩
          have HFR : Hid (∀ VX, Below V.heap.size V VX → RelP w0 gd gk n (.pointer (some ⟨gu, 0, none⟩)) (.int .i64 ((q + 1 : Nat) : Int)) VX) := fun VX hV =>
            ⟨q + 1, gu, Zu, k, AK, kc, Yu, rfl, rfl, by omega, (HSU.out.below_ hV).mono (by omega), HBU.out.below hV, HLU.out.below hV, fun b hb => ⟨(HYU.out b hb).1, (HYU.out b hb).2.1, Nat.lt_of_lt_of_le (HYU.out b hb).2.2 hV.size⟩, HZU.out, HK0.out⟩
          clear hpr hcu hsp
          clear HSU HBU HLU HYU HZU
          have B1 := Lib.hid (Below.refl V.heap.size V).drew
          go_region_held3 (fun w' => w'.cell? ⟨gk, 0, none⟩ = some (.int .u64 (k.promised : Int)) ∧ w'.cell? ⟨gk, 1, none⟩ = some (.int .u64 (k.current : Int)) ∧ w'.cell? ⟨gk, 2, none⟩ = some (.slice AK k.lines.length kc))
            (first | exact HCE.out _ B1.out | exact HCE.out _ HE2.out | exact HCE.out _ HE3.out)
            (first
              | (go_at_call 18; refine (CT.out _ HE2.out).mono ?_; rintro e wf ⟨rfl, hb⟩; have HE3 := Lib.hid (HE2.out.trans (hb.mono HE2.out.size)); clear hb)
              | (go_at_call 18; refine (CT.out _ B1.out).mono ?_; rintro e we ⟨rfl, hb⟩; have HE2 := Lib.hid (B1.out.trans (hb.mono B1.out.size)); clear hb)
              | (go_at_call 19; refine (CR.out _ HE2.out).mono ?_; rintro e wf ⟨rfl, hb⟩; have HE3 := Lib.hid (HE2.out.trans (hb.mono HE2.out.size)); clear hb)
              | (go_at_call 19; refine (CR.out _ B1.out).mono ?_; rintro e we ⟨rfl, hb⟩; have HE2 := Lib.hid (B1.out.trans (hb.mono B1.out.size)); clear hb)
              | (go_at_call 20; refine (CD.out _ HE3.out).mono ?_; rintro e wg ⟨rfl, rfl⟩))
          all_goals
            go_wp2_with fail
            exact ⟨HFR.out _ HE3.out, by simp [intOf]; omega⟩
    · have hk1 : ¬ (q : Int) < (m : Int) := by omega
      have HB9 := Lib.hid HS.out.below
      clear HA HG HLN hlt HS HBK HLS HY HZK
      go_wp2_with fail
      refine (keeps_any wr).mono ?_
      rintro e w10 ⟨rfl, hb⟩
      have HB10 := Lib.hid (HB9.out.trans (hb.mono HB9.out.size))
      clear hb
      go_wp2_with fail
      go_ret
      exact ⟨rfl, HB10.out⟩

set_option maxRecDepth 100000 in
theorem lifted (os : Os) (started : os.Started) (H : Type) (enc : TypeId × Value → H) :
    ReturnsInHanded {} Tryz.checked os 3 .any (Rows.storePlaysSpec.pre6 enc Tryz.prog Tryz.f3 Rows.storePlaysRow.domain false) (Rows.storePlaysSpec.post enc Tryz.prog Tryz.f3 false true false false) := by
  refine returnsInHanded_of_change_sized (C := Tryz.checked) own started (by kernel_rfl) Tryz.func3
    (ChangeSpec.witness6 (enc := enc) (C := Tryz.checked) false ⟨#[], #[.int .i64 0, .slice none 0 0], []⟩ 8 (by kernel_rfl) (by kernel_rfl) (by kernel_rfl) (by kernel_rfl)) ?_
  intro W base args ds gs before hval0 hW hcnd hsz _
  have hval : ∀ (j : Nat) t v, Tryz.f3.params[j]? = some t → args[j]? = some v → Value.okWide Tryz.prog W .any base t v := hval0
  have hW' := hW
  obtain ⟨p, q, hA0, hV, rfl, hfz, hnd⟩ := hW
  have hA : DataW.TrodAll enc Tryz.prog W 0 (fun _ => true) true Tryz.f3.params.toList args.toList ds p := hA0
  rw [Tryz.params3] at hA hval
  obtain ⟨v0, v1, d0, d1, p0, p1, rfl, rfl, rfl, h0, h1⟩ := trodAll_two hA
  obtain ⟨rfl, rfl⟩ := trodVars_none hV
  obtain ⟨z, rfl, _, _, _⟩ := open_int (show Tryz.prog.underlying 3 = some (.int .i64) by kernel_rfl) (hval 0 _ v0 rfl rfl) h0
  obtain ⟨A, m, c, xs, rfl, _, hm, hl, hy⟩ := arg_acts (hval 1 _ v1 rfl rfl) h1 (fun n hn => by have := List.all_eq_true.1 hsz _ (DataW.weights_mem_each (j := 1) (t := 22) rfl rfl n hn); simpa using this)
  refine (walk z A m c xs W hl (Nat.le_trans hm (by decide)) (fun x hx y hyy => Nat.le_trans (hy x hx y hyy) (by decide))).mono fun e W' ⟨he, hb⟩ => ?_
  subst he
  exact ⟨_, rfl, post_true laidOut (by kernel_rfl) ty_bool (by kernel_rfl) rfl hW' hb rfl⟩

theorem over : Rows.storePlaysRow.holds Tryz.pinned (OpenSpec.ofChange Rows.storePlaysSpec) :=
  OpenClaim.holds_of_wide 3 Tryz.f3 rfl rfl rfl rfl rfl rfl rfl ⟨rfl, rfl, rfl, rfl, rfl⟩ rfl rfl rfl rfl rfl (by kernel_rfl) Tryz.func3 (by kernel_rfl)
    (of_decide_eq_true (by kernel_rfl)) (by unfold Func.isWrapper; first | (rw [if_pos (by decide +kernel)]; kernel_rfl) | (rw [if_neg (by decide +kernel)]; exact ⟨rfl, rfl⟩))
    (fun os started H enc _ => lifted os started H enc)

theorem proved : Rows.StorePlaysSaid :=
  over
end Go.Proofs.YtiijclibcfgnpaaGreat.storePlays
