/- NetKnown's facts: the table, the net with k letters, the letter. -/
import Derived.Test.YtephciglcikllaaNetGoes2
import Derived.Lib.SlBytesConst
namespace Go.Proofs.Ytephciglcikllaa.netKnown
open Go.RowKit Disk Zab Sto Net

def k0 : Nt := Nt.new [3, 1]
def lx : Lt := ⟨⟨0, 0⟩, ⟨1, 0⟩, [97, 98, 99]⟩
def kk (k : Nat) : Nt := ⟨[3, 1], List.replicate k lx, fun _ => false⟩
theorem s1 : (k0.send ⟨⟨0, 0⟩, ⟨0, 0⟩, []⟩) = (k0, 1) := rfl
theorem s2 : (k0.send ⟨⟨0, 3⟩, ⟨1, 0⟩, []⟩) = (k0, 1) := rfl
theorem s3 : (k0.send ⟨⟨0, 0⟩, ⟨2, 0⟩, []⟩) = (k0, 1) := rfl
theorem s4 : (k0.send ⟨⟨0, 0⟩, ⟨1, -1⟩, []⟩) = (k0, 1) := rfl
theorem s5 {bs : List UInt8} (h : bs.length = 2097153) : (k0.send ⟨⟨0, 0⟩, ⟨1, 0⟩, bs⟩) = (k0, 1) := by
  unfold Nt.send
  rw [if_neg (by show ¬ k0.link ⟨0, 0⟩ ⟨1, 0⟩ = false; decide), if_pos (by show _ < bs.length; omega)]
theorem t1 : k0.turn ⟨0, 0⟩ ⟨0, 0⟩ true = (k0, 1) := rfl
theorem t2 : k0.turn ⟨0, 0⟩ ⟨0, 3⟩ false = (k0, 1) := rfl
theorem kk_len (k : Nat) : (kk k).row.length = k := List.length_replicate
theorem kk_send {k : Nat} (h : k < 4096) : (kk k).send lx = (kk (k + 1), 0) := by
  have hl := kk_len k
  have hk : (kk k).link lx.fr lx.to = true := rfl
  unfold Nt.send Nt.add
  rw [if_neg (by rw [hk]; decide), if_neg (by decide), if_neg (by omega)]
  unfold kk
  rw [List.replicate_succ']
theorem kk_full (bs : List UInt8) (h : bs.length = 3) : (kk 4096).send ⟨⟨0, 0⟩, ⟨1, 0⟩, bs⟩ = (kk 4096, 4) := by
  have hl := kk_len 4096
  have hk : (kk 4096).link ⟨0, 0⟩ ⟨1, 0⟩ = true := rfl
  unfold Nt.send Nt.add
  rw [if_neg (by rw [hk]; decide), if_neg (by show ¬ _ < bs.length; omega), if_pos (by omega)]
theorem kk_ok {k : Nat} (h : 0 < k) : (kk k).okAt 0 = true := okAt_iff.2 ⟨0, rfl, by rw [kk_len]; exact h⟩
theorem kk_get {k : Nat} (h : 0 < k) : (kk k).row.getD 0 lt0 = lx := by
  show (List.replicate k lx).getD 0 lt0 = lx
  rw [List.getD_eq_getElem?_getD, List.getElem?_replicate, if_pos h]
  rfl
theorem kk_out (k : Nat) : (kk (k + 1)).out 0 = kk k := by
  unfold Nt.out kk
  rw [List.replicate_succ]
  rfl
theorem d1 : (kk 4096).double 0 = (kk 4096, 4) := by
  have hl := kk_len 4096
  unfold Nt.double Nt.add
  rw [if_neg (by rw [kk_ok (by decide)]; decide), if_pos (by omega)]
theorem d2 : (kk 4096).drop 4096 = (kk 4096, 1) := by
  have h : (kk 4096).okAt 4096 = false := by
    unfold Nt.okAt
    rw [kk_len]
    decide
  unfold Nt.drop
  rw [if_pos h]
theorem d3 : (kk 4096).drop 0 = (kk 4095, 0) := by
  unfold Nt.drop
  rw [if_neg (by rw [kk_ok (by decide)]; decide)]
  show ((kk (4095 + 1)).out 0, _) = _
  rw [kk_out]
theorem d4' {k : Nat} (h : 0 < k) (h2 : k < 4096) : (kk k).double 0 = (kk (k + 1), 0) := by
  have hl := kk_len k
  unfold Nt.double Nt.add
  rw [if_neg (by rw [kk_ok h]; decide), if_neg (by omega)]
  show ({ (kk k) with row := (kk k).row ++ [(kk k).row.getD 0 lt0] }, _) = _
  rw [kk_get h]
  unfold kk
  rw [List.replicate_succ']
theorem d4 : (kk 4095).double 0 = (kk 4096, 0) := d4' (by decide) (by decide)
theorem d5 : (kk 4096).take 0 = (kk 4095, lx, 0) := by
  unfold Nt.take
  rw [if_neg (by rw [kk_ok (by decide)]; decide)]
  show (if (kk 4096).cuts ((kk 4096).row.getD 0 lt0).fr ((kk 4096).row.getD 0 lt0).to = true then _ else ((kk (4095 + 1)).out 0, (kk 4096).row.getD 0 lt0, _)) = _
  rw [kk_get (by decide), kk_out, if_neg (by decide)]
/-- The table of sizes that New refuses. -/
def RelB (w : World) (i : Value) (wr : World) : Prop := ∃ k : Nat, k ≤ 5 ∧ i = .int .i64 (k : Int) ∧ Below w.heap.size w wr
theorem rdv_lit {w W : World} {g : Nat} (zs : List Int) (h : Bk w g 3 (iv zs).toArray) (hb : Below w.heap.size w W) : RdV W (some ⟨g, 0, none⟩) zs.length (iv zs) :=
  ⟨by simp [iv], fun _ => ⟨_, rfl, fun j v hj => by
    rw [plus_add, (h.below hb).cell j]
    simpa using hj⟩⟩
theorem bad_at (w : World) {W : World} (hW : W = ((((w.alloc (.cells #[.int .i64 0] 3)).alloc (.cells #[.int .i64 4] 3)).alloc (.cells #[.int .i64 1, .int .i64 1, .int .i64 1, .int .i64 1, .int .i64 1] 3)).alloc (.cells #[.int .i64 3, .int .i64 (-1)] 3)).alloc (.cells #[.slice none 0 0, .slice (some ⟨w.heap.size, 0, none⟩) 1 1, .slice (some ⟨w.heap.size + 1, 0, none⟩) 1 1, .slice (some ⟨w.heap.size + 2, 0, none⟩) 5 5, .slice (some ⟨w.heap.size + 3, 0, none⟩) 2 2] 22)) :
    Below w.heap.size w W ∧ ∀ j : Nat, j < 5 → ∀ wr, Below W.heap.size W wr → ∃ A n c zs, wr.cell? ⟨w.heap.size + 4, j, none⟩ = some (.slice A n c) ∧ RdV wr A n (iv zs) ∧ sizesOk zs = false ∧ n ≤ 5 := by
  subst hW
  generalize hW1 : w.alloc (.cells #[.int .i64 0] 3) = W1
  generalize hW2 : W1.alloc (.cells #[.int .i64 4] 3) = W2
  generalize hW3 : W2.alloc (.cells #[.int .i64 1, .int .i64 1, .int .i64 1, .int .i64 1, .int .i64 1] 3) = W3
  generalize hW4 : W3.alloc (.cells #[.int .i64 3, .int .i64 (-1)] 3) = W4
  have z1 : W1.heap.size = w.heap.size + 1 := by rw [← hW1]; simp
  have z2 : W2.heap.size = w.heap.size + 2 := by rw [← hW2]; simp [z1]
  have z3 : W3.heap.size = w.heap.size + 3 := by rw [← hW3]; simp [z2]
  have z4 : W4.heap.size = w.heap.size + 4 := by rw [← hW4]; simp [z3]
  have b1 : Below w.heap.size w W1 := by rw [← hW1]; exact (Below.refl _ _).alloc (Nat.le_refl _) _
  have b2 : Below W1.heap.size W1 W2 := by rw [← hW2]; exact (Below.refl _ _).alloc (Nat.le_refl _) _
  have b3 : Below W2.heap.size W2 W3 := by rw [← hW3]; exact (Below.refl _ _).alloc (Nat.le_refl _) _
  have b4 : Below W3.heap.size W3 W4 := by rw [← hW4]; exact (Below.refl _ _).alloc (Nat.le_refl _) _
  have k1 : Bk W1 w.heap.size 3 (iv [0]).toArray := by rw [← hW1]; exact Bk.new _ _ _
  have k2 : Bk W2 (w.heap.size + 1) 3 (iv [4]).toArray := by rw [← hW2, ← z1]; exact Bk.new _ _ _
  have k3 : Bk W3 (w.heap.size + 2) 3 (iv [1, 1, 1, 1, 1]).toArray := by rw [← hW3, ← z2]; exact Bk.new _ _ _
  have k4 : Bk W4 (w.heap.size + 3) 3 (iv [3, -1]).toArray := by rw [← hW4, ← z3]; exact Bk.new _ _ _
  have k5 := Bk.new W4 22 #[.slice none 0 0, .slice (some ⟨w.heap.size, 0, none⟩) 1 1, .slice (some ⟨w.heap.size + 1, 0, none⟩) 1 1, .slice (some ⟨w.heap.size + 2, 0, none⟩) 5 5, .slice (some ⟨w.heap.size + 3, 0, none⟩) 2 2]
  have b5 : Below W4.heap.size W4 (W4.alloc (.cells #[.slice none 0 0, .slice (some ⟨w.heap.size, 0, none⟩) 1 1, .slice (some ⟨w.heap.size + 1, 0, none⟩) 1 1, .slice (some ⟨w.heap.size + 2, 0, none⟩) 5 5, .slice (some ⟨w.heap.size + 3, 0, none⟩) 2 2] 22)) := (Below.refl _ _).alloc (Nat.le_refl _) _
  rw [z4] at k5
  clear hW1 hW2 hW3 hW4
  generalize W4.alloc _ = W5 at k5 b5 ⊢
  have c4 : Below W3.heap.size W3 W5 := b4.trans (b5.mono b4.size)
  have c3 : Below W2.heap.size W2 W5 := b3.trans (c4.mono b3.size)
  have c2 : Below W1.heap.size W1 W5 := b2.trans (c3.mono b2.size)
  refine ⟨b1.trans (c2.mono b1.size), fun j hj wr hb => ?_⟩
  have q2 : Below W1.heap.size W1 wr := c2.trans (hb.mono c2.size)
  have q3 : Below W2.heap.size W2 wr := c3.trans (hb.mono c3.size)
  have q4 : Below W3.heap.size W3 wr := c4.trans (hb.mono c4.size)
  have q5 : Below W4.heap.size W4 wr := b5.trans (hb.mono b5.size)
  rw [(k5.below hb).cell j]
  rcases j with _ | _ | _ | _ | _ | j
  · exact ⟨none, 0, 0, [], rfl, ⟨rfl, fun h => absurd h (by omega)⟩, rfl, by omega⟩
  · exact ⟨_, _, _, [0], rfl, rdv_lit [0] k1 q2, rfl, by omega⟩
  · exact ⟨_, _, _, [4], rfl, rdv_lit [4] k2 q3, rfl, by omega⟩
  · exact ⟨_, _, _, [1, 1, 1, 1, 1], rfl, rdv_lit [1, 1, 1, 1, 1] k3 q4, rfl, by omega⟩
  · exact ⟨_, _, _, [3, -1], rfl, rdv_lit [3, -1] k4 q5, rfl, by omega⟩
  · omega
/-- New, refused. -/
theorem new_bad {A : Option Addr} {n c : Nat} {zs : List Int} {w : World} (hr : RdV w A n (iv zs)) (h : sizesOk zs = false) (hn : n ≤ 5) : Calls Try.prog 9 #[.slice A n c] w fun e w' => e = .returned (.tuple #[.pointer none, .int .i64 1]) ∧ Below w.heap.size w w' :=
  (New_any zs A n c w hr (by omega)).mono fun e w' ⟨hb, q⟩ => by
    rcases q with ⟨_, h2⟩ | ⟨h1, _⟩
    · exact ⟨h2, hb⟩
    · rw [h] at h1; cases h1
/-- The bytes that a constant gave: a row that bears the run-time's mark. -/
def Mk (w : World) (g : Nat) (bs : List UInt8) : Prop := w.heap[g]? = some (.cells (bs.map U).toArray 5 (bs.length, bs.length + 1))
theorem Mk.lt {w : World} {g : Nat} {bs : List UInt8} (h : Mk w g bs) : g < w.heap.size := (Array.getElem?_eq_some_iff.1 h).1
theorem Mk.cell {w : World} {g : Nat} {bs : List UInt8} (h : Mk w g bs) (i : Nat) : w.cell? ⟨g, i, none⟩ = (bs.map U)[i]? := by
  unfold Mk at h
  simp [World.cell?, h]
theorem Mk.frozen {w : World} {g : Nat} {bs : List UInt8} (h : Mk w g bs) {i : Nat} (hi : i < bs.length) : w.frozen? ⟨g, i, none⟩ = false := by
  unfold Mk at h
  simp [World.frozen?, h]
  omega
theorem Mk.kept {w w' : World} {g : Nat} {bs : List UInt8} (h : Mk w g bs) (hb : w'.heap[g]? = w.heap[g]?) : Mk w' g bs := hb.trans h
theorem Mk.set {w : World} {g : Nat} {bs : List UInt8} (h : Mk w g bs) (i : Nat) (x : UInt8) : Mk (w.setCell ⟨g, i, none⟩ (U x)) g (bs.set i x) := by
  unfold Mk at h ⊢
  simp [World.setCell, Array.getElem?_modify, h, List.map_set]
theorem Mk.rd {w : World} {g : Nat} {bs : List UInt8} (h : Mk w g bs) : Rd w (some ⟨g, 0, none⟩) bs.length bs :=
  ⟨rfl, fun _ => ⟨_, rfl, fun j b hj => by
    rw [plus_add, h.cell, List.getElem?_map, hj]
    rfl⟩⟩
/-- The law's letter, beside the net. -/
structure KX (O : Nat → Prop) (w : World) (gx gi : Nat) (bs : List UInt8) : Prop where
  bk : Bk w gx 37 #[.int .i64 0, .int .i64 0, .int .i64 1, .int .i64 0, .slice (some ⟨gi, 0, none⟩) 3 3]
  mm : Mk w gi bs
  len : bs.length = 3
  off : ¬ O gx ∧ ¬ O gi
  ne : gi ≠ gx
theorem KX.out {O O' X : Nat → Prop} {w w' : World} {gx gi : Nat} {bs : List UInt8} (h : KX O w gx gi bs) (ho : Out X w w') (hx : ∀ b, b < w.heap.size → ¬ O b → ¬ X b ∧ ¬ O' b) : KX O' w' gx gi bs := by
  obtain ⟨h1, h2, h3, h4, h5⟩ := h
  exact ⟨h1.kept (ho.block gx h1.lt (hx gx h1.lt h4.1).1), h2.kept (ho.block gi h2.lt (hx gi h2.lt h4.2).1), h3, ⟨(hx gx h1.lt h4.1).2, (hx gi h2.lt h4.2).2⟩, h5⟩
theorem KX.next {O O' : Nat → Prop} {w w' : World} {gx gi : Nat} {bs : List UInt8} (h : KX O w gx gi bs) (hg : Go_ O O' w w') : KX O' w' gx gi bs :=
  h.out hg.1 fun b hb hn => ⟨hn, fun hq => (hg.2 b hq).elim hn (by omega)⟩
theorem KX.later {O : Nat → Prop} {w w' : World} {gx gi : Nat} {bs : List UInt8} (h : KX O w gx gi bs) (hb : Below w.heap.size w w') : KX O w' gx gi bs :=
  h.out (X := fun _ => False) (Out.of_below hb) fun _ _ hn => ⟨fun q => q, hn⟩
theorem KX.cells {O : Nat → Prop} {w : World} {gx gi : Nat} {bs : List UInt8} (h : KX O w gx gi bs) : w.cell? ⟨gx, 0, none⟩ = some (.int .i64 0) ∧ w.cell? ⟨gx, 1, none⟩ = some (.int .i64 0) ∧ w.cell? ⟨gx, 2, none⟩ = some (.int .i64 1) ∧ w.cell? ⟨gx, 3, none⟩ = some (.int .i64 0) ∧ w.cell? ⟨gx, 4, none⟩ = some (.slice (some ⟨gi, 0, none⟩) 3 3) :=
  ⟨h.bk.cell 0, h.bk.cell 1, h.bk.cell 2, h.bk.cell 3, h.bk.cell 4⟩
theorem conv_const (w : World) (C : Array Value) (n c : Nat) : (convert 35 35 (.slice (some ⟨w.heap.size, 0, none⟩) n c)).run Try.prog (w.alloc (.cells C 5)) = .ok (.slice (some ⟨w.heap.size, 0, none⟩) n c) (w.alloc (.cells C 5 (C.size, C.size + 1))) := Lib.run_convert_bytes_const (P := Try.prog) w 35 5 C n c ty_bytes ty_byte
theorem lets_first {w : World} {g n : Nat} {ls : List Lt} (h : LtO w g n ls) (h0 : ls[0]? = some lx) : ∃ gb cb, w.cell? ⟨g, 4, none⟩ = some (.slice (some ⟨gb, 0, none⟩) 3 cb) ∧ w.cell? ⟨gb, 0, none⟩ = some (.int .u8 97) ∧ w.frozen? ⟨gb, 0, none⟩ = false ∧ g < gb ∧ gb < w.heap.size := by
  obtain ⟨B, m, c, q1, q2⟩ := h.at_ 0 lx h0
  have hc := q1 4 (.slice B m c) rfl
  have hl := q2.1
  rcases q2.2 with ⟨_, h3⟩ | ⟨gb, cap, cur, h1, h2, h3, h4, h5, h6⟩
  · subst h3
    cases hl
  · injection h1 with e1 e2 e3
    subst e1 e3
    have hm : m = 3 := by
      have e : ([97, 98, 99] : List UInt8).length = 3 := rfl
      rw [List.length_map] at hl
      have hl2 : lx.bs.length = 3 := rfl
      omega
    subst hm
    have hcell : w.cell? ⟨gb, 0, none⟩ = some (.int .u8 97) := by
      obtain ⟨ad, e1, e2⟩ := (Rd.of_own q2).1.cells (by decide)
      injection e1 with e1
      subst e1
      exact e2 0 97 rfl
    have hl4 : w.cell? ⟨g, 4, none⟩ = some (.slice (some ⟨gb, 0, none⟩) 3 c) := by simpa using hc
    have hfz : w.frozen? ⟨gb, 0, none⟩ = false := by simp [World.frozen?, h3]
    exact ⟨gb, c, hl4, hcell, hfz, by omega, (Array.getElem?_eq_some_iff.1 h3).1⟩
theorem sn_out {w0 w w' : World} {O X : Nat → Prop} {gz : Nat} {z : Nt} {N : Nat} (h : Sn w0 w O gz z N) (ho : Out X w w') (hx : ∀ b, X b → ¬ O b ∧ w0.heap.size ≤ b) : Sn w0 w' O gz z N :=
  ⟨h.nt.out ho fun _ hb hq => (hx _ hq).1 hb, ho.below h.bl (fun b hb => (hx b hb).2) h.bl.size⟩
def big : List UInt8 := List.replicate 2097153 0
theorem big_len : big.length = 2097153 := List.length_replicate
theorem make_big (w : World) : (Instr.makeSlice 35 (.int .i64 2097153) (.int .i64 2097153)).run Try.prog w = .ok (.slice (some ⟨w.heap.size, 0, none⟩) 2097153 2097153) (w.alloc (.cells (big.map U).toArray 5)) := by
  obtain ⟨i0, hi0, hi1, hi2, hi3⟩ := info_parts info_byte
  have hmk := run_make_bytes (P := Try.prog) ty_bytes hi0 hi1 hi2 hi3 .i64 .i64 2097153 2097153 (Int.le_refl _) (by omega) w
  have e : Int.toNat 2097153 = 2097153 := rfl
  rw [e, ← List.map_replicate] at hmk
  exact hmk
theorem big_rd (w : World) : Rd (w.alloc (.cells (big.map U).toArray 5)) (some ⟨w.heap.size, 0, none⟩) 2097153 big := by
  have := rd_lit w 5 (0, 0) big
  rwa [big_len] at this
end Go.Proofs.Ytephciglcikllaa.netKnown
