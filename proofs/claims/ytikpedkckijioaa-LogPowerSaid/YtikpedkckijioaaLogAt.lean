/- A log in memory. -/
import Derived.Test.YtikpedkckijioaaLogText
namespace Go.Proofs.Ytikpedkckijioaa.Log
open Go.RowKit Disk

/-- What a log knows. -/
structure LK where
  head : Bool
  recs : List (List UInt8)
  end_ : Nat
  top : Nat
  met : Bool
/-- A slice's block is in Y, and none of these. -/
def Within (Y : Nat → Prop) (g : Nat) (R A : Option Addr) : Prop := ∀ a, A = some a → Y a.block ∧ a.block ≠ g ∧ ∀ r, R = some r → a.block ≠ r.block
structure LgA (w : World) (Y : Nat → Prop) (g gd : Nat) (f : Int) (n : Nat) (L : LK) (R : Option Addr) (c : Nat) (vs : List Value) : Prop where
  bk : Bk w g 73 #[.pointer (some ⟨gd, 0, none⟩), .int .i64 f, .int .i64 (n : Int), .bool L.head, .slice R L.recs.length c, .int .i64 (L.end_ : Int), .int .u64 (L.top : Int), .bool L.met]
  own : w.ownsRow 0 32 1 (.slice R L.recs.length c) L.recs.length vs
  texts : ∀ (j : Nat) (b : List UInt8), L.recs[j]? = some b → ∃ A n c, vs[j]? = some (.slice A n c) ∧ n ≤ c ∧ Rd w A n b ∧ Within Y g R A
  yg : Y g
  yr : ∀ a, R = some a → Y a.block ∧ a.block ≠ g
  lt : ∀ k, Y k → k < w.heap.size
def LgAt (w : World) (Y : Nat → Prop) (g gd : Nat) (f : Int) (n : Nat) (L : LK) : Prop := ∃ R c vs, LgA w Y g gd f n L R c vs
theorem LgA.kept {w w' : World} {Y : Nat → Prop} {g gd : Nat} {f : Int} {n : Nat} {L : LK} {R : Option Addr} {c : Nat} {vs : List Value} (h : LgA w Y g gd f n L R c vs) (hb : ∀ k, Y k → w'.heap[k]? = w.heap[k]?) (hs : w.heap.size ≤ w'.heap.size) : LgA w' Y g gd f n L R c vs := by
  refine ⟨h.bk.kept (hb g h.yg), ⟨h.own.1, ?_⟩, fun j b hj => ?_, h.yg, h.yr, fun k hk => Nat.lt_of_lt_of_le (h.lt k hk) hs⟩
  · rcases h.own.2 with h1 | ⟨r, cap, cur, h1, h2, h3, h4⟩
    · exact .inl h1
    · refine .inr ⟨r, cap, cur, h1, h2, ?_, h4⟩
      injection h1 with e1
      rw [hb r (h.yr ⟨r, 0, none⟩ e1).1]
      exact h3
  · obtain ⟨A, m, d, h1, h2, h3, h4⟩ := h.texts j b hj
    refine ⟨A, m, d, h1, h2, ⟨h3.len, fun h0 => ?_⟩, h4⟩
    obtain ⟨ad, e, hc⟩ := h3.cells h0
    exact ⟨ad, e, fun i x hx => (World.cell?_of_block (w := w) (hb _ (by rw [addr_add_block]; exact (h4 ad e).1))).trans (hc i x hx)⟩
theorem LgAt.kept {w w' : World} {Y : Nat → Prop} {g gd : Nat} {f : Int} {n : Nat} {L : LK} (h : LgAt w Y g gd f n L) (hb : ∀ k, Y k → w'.heap[k]? = w.heap[k]?) (hs : w.heap.size ≤ w'.heap.size) : LgAt w' Y g gd f n L := by
  obtain ⟨R, c, vs, h⟩ := h
  exact ⟨R, c, vs, h.kept hb hs⟩
theorem LgAt.lt {w : World} {Y : Nat → Prop} {g gd : Nat} {f : Int} {n : Nat} {L : LK} (h : LgAt w Y g gd f n L) : ∀ k, Y k → k < w.heap.size := by
  obtain ⟨R, c, vs, h⟩ := h
  exact h.lt
theorem LgAt.yg {w : World} {Y : Nat → Prop} {g gd : Nat} {f : Int} {n : Nat} {L : LK} (h : LgAt w Y g gd f n L) : Y g := by
  obtain ⟨R, c, vs, h⟩ := h
  exact h.yg
theorem LgAt.out {w w' : World} {Y X : Nat → Prop} {g gd : Nat} {f : Int} {n : Nat} {L : LK} (h : LgAt w Y g gd f n L) (ho : Out X w w') (hy : ∀ k, Y k → ¬ X k) : LgAt w' Y g gd f n L :=
  h.kept (fun k hk => ho.block k (h.lt k hk) (hy k hk)) ho.size
theorem LgAt.below {w w' : World} {Y : Nat → Prop} {g gd : Nat} {f : Int} {n : Nat} {L : LK} (h : LgAt w Y g gd f n L) (hb : Below w.heap.size w w') : LgAt w' Y g gd f n L :=
  h.kept (fun k hk => hb.block k (h.lt k hk)) hb.size
/-- The struct's cells. -/
theorem LgA.cells {w : World} {Y : Nat → Prop} {g gd : Nat} {f : Int} {n : Nat} {L : LK} {R : Option Addr} {c : Nat} {vs : List Value} (h : LgA w Y g gd f n L R c vs) :
    w.cell? ⟨g, 0, none⟩ = some (.pointer (some ⟨gd, 0, none⟩)) ∧ w.cell? ⟨g, 1, none⟩ = some (.int .i64 f) ∧ w.cell? ⟨g, 2, none⟩ = some (.int .i64 (n : Int)) ∧ w.cell? ⟨g, 3, none⟩ = some (.bool L.head) ∧ w.cell? ⟨g, 4, none⟩ = some (.slice R L.recs.length c) ∧ w.cell? ⟨g, 5, none⟩ = some (.int .i64 (L.end_ : Int)) ∧ w.cell? ⟨g, 6, none⟩ = some (.int .u64 (L.top : Int)) ∧ w.cell? ⟨g, 7, none⟩ = some (.bool L.met) :=
  ⟨h.bk.cell 0, h.bk.cell 1, h.bk.cell 2, h.bk.cell 3, h.bk.cell 4, h.bk.cell 5, h.bk.cell 6, h.bk.cell 7⟩
theorem LgAt.cell5 {w : World} {Y : Nat → Prop} {g gd : Nat} {f : Int} {n : Nat} {L : LK} (h : LgAt w Y g gd f n L) : w.cell? ⟨g, 0, none⟩ = some (.pointer (some ⟨gd, 0, none⟩)) ∧ w.cell? ⟨g, 1, none⟩ = some (.int .i64 f) ∧ w.cell? ⟨g, 2, none⟩ = some (.int .i64 (n : Int)) ∧ w.cell? ⟨g, 3, none⟩ = some (.bool L.head) ∧ w.cell? ⟨g, 5, none⟩ = some (.int .i64 (L.end_ : Int)) ∧ w.cell? ⟨g, 6, none⟩ = some (.int .u64 (L.top : Int)) ∧ w.cell? ⟨g, 7, none⟩ = some (.bool L.met) ∧ ∀ i, w.frozen? ⟨g, i, none⟩ = false := by
  obtain ⟨R, c, vs, h⟩ := h
  obtain ⟨a0, a1, a2, a3, a4, a5, a6, a7⟩ := h.cells
  exact ⟨a0, a1, a2, a3, a5, a6, a7, h.bk.frozen⟩
theorem out_one {w : World} {Y : Nat → Prop} {g i : Nat} {u : Value} (h : Y g) : Out Y w (w.setCell ⟨g, i, none⟩ u) := Out.setCell (X := Y) w (p := ⟨g, i, none⟩) h u
/-- A cell of the struct is set. -/
theorem LgA.set {w : World} {Y : Nat → Prop} {g gd : Nat} {f : Int} {n : Nat} {L L' : LK} {R : Option Addr} {c : Nat} {vs : List Value} (h : LgA w Y g gd f n L R c vs) (i : Nat) (u : Value) (hr : L'.recs = L.recs)
    (hbk : (#[.pointer (some ⟨gd, 0, none⟩), .int .i64 f, .int .i64 (n : Int), .bool L.head, .slice R L.recs.length c, .int .i64 (L.end_ : Int), .int .u64 (L.top : Int), .bool L.met] : Array Value).setIfInBounds i u = #[.pointer (some ⟨gd, 0, none⟩), .int .i64 f, .int .i64 (n : Int), .bool L'.head, .slice R L'.recs.length c, .int .i64 (L'.end_ : Int), .int .u64 (L'.top : Int), .bool L'.met]) :
    LgA (w.setCell ⟨g, i, none⟩ u) Y g gd f n L' R c vs := by
  have ho := Out.setCell (X := (· = g)) w (p := ⟨g, i, none⟩) rfl u
  have hk := h.bk.set i u
  rw [hbk] at hk
  refine ⟨hk, ?_, fun j b hj => ?_, h.yg, h.yr, fun k hk => Nat.lt_of_lt_of_le (h.lt k hk) ho.size⟩
  · rw [hr]
    refine ⟨h.own.1, ?_⟩
    rcases h.own.2 with h1 | ⟨r, cap, cur, h1, h2, h3, h4⟩
    · exact .inl h1
    · refine .inr ⟨r, cap, cur, h1, h2, ?_, h4⟩
      injection h1 with e1
      have := (h.yr ⟨r, 0, none⟩ e1)
      have hlt : r < w.heap.size := h.lt r this.1
      rw [ho.block r hlt this.2]
      exact h3
  · rw [hr] at hj
    obtain ⟨A, m, d, h1, h2, h3, h4⟩ := h.texts j b hj
    refine ⟨A, m, d, h1, h2, ⟨h3.len, fun h0 => ?_⟩, h4⟩
    obtain ⟨ad, e, hc⟩ := h3.cells h0
    refine ⟨ad, e, fun i x hx => ?_⟩
    have h5 := hc i x hx
    exact (ho.cell (World.block_lt_of_cell? w _ h5) (by rw [addr_add_block]; exact (h4 ad e).2.1)).trans h5
/-- A call that turns the log to L'. -/
def LgTo (v : Value) (Y : Nat → Prop) (g gd : Nat) (f : Int) (n : Nat) (L' : LK) (w : World) (e : Ending) (w' : World) : Prop :=
  e = .returned v ∧ ∃ Y', LgAt w' Y' g gd f n L' ∧ Out Y w w' ∧ ∀ k, Y' k → Y k ∨ w.heap.size ≤ k
/-- The records' row grows by one. -/
theorem LgA.grow {w w1 w2 : World} {Y : Nat → Prop} {g gd : Nat} {f : Int} {n : Nat} {L : LK} {R : Option Addr} {c : Nat} {vs : List Value} (h : LgA w Y g gd f n L R c vs) (hb1 : Below w.heap.size w w1) {b : List UInt8} {A : Option Addr} {m d : Nat} (hmd : m ≤ d) (hr : Rd w A m b) (hA : ∀ a, A = some a → ¬ Y a.block ∧ a.block < w.heap.size)
    {G cap : Nat} (hown : w2.ownsRow 0 32 1 (.slice (some ⟨G, 0, none⟩) (L.recs.length + 1) cap) (L.recs.length + 1) (vs ++ [.slice A m d])) (hg : w1.grownBy w2 (Value.slice R L.recs.length c).ownBlock) (hloc : (Value.slice R L.recs.length c).ownBlock = some G ∨ G = w1.heap.size) (hlt : G < w2.heap.size) (le : Nat) :
    ∃ Y', LgAt ((w2.setCell ⟨g, 4, none⟩ (.slice (some ⟨G, 0, none⟩) (L.recs.length + 1) cap)).setCell ⟨g, 5, none⟩ (.int .i64 ((L.end_ + le : Nat) : Int))) Y' g gd f n ⟨L.head, L.recs ++ [b], L.end_ + le, L.top, L.met⟩ ∧ Out Y w ((w2.setCell ⟨g, 4, none⟩ (.slice (some ⟨G, 0, none⟩) (L.recs.length + 1) cap)).setCell ⟨g, 5, none⟩ (.int .i64 ((L.end_ + le : Nat) : Int))) ∧ ∀ k, Y' k → Y k ∨ w.heap.size ≤ k ∨ ∃ a, A = some a ∧ k = a.block := by
  have hgl := h.lt g h.yg
  have hrow : ∀ r, (Value.slice R L.recs.length c).ownBlock = some r → Y r ∧ r ≠ g := fun r hr => by
    cases R with
    | none => cases hr
    | some ad =>
      injection hr with hr
      subst hr
      exact h.yr ad rfl
  have hG : G ≠ g ∧ (Y G ∨ w.heap.size ≤ G) := by
    rcases hloc with e | e
    · exact ⟨(hrow G e).2, .inl (hrow G e).1⟩
    · have := hb1.size
      exact ⟨by omega, .inr (by omega)⟩
  have hk2 : ∀ k, k < w.heap.size → (Value.slice R L.recs.length c).ownBlock ≠ some k → w2.heap[k]? = w.heap[k]? := fun k hk hne => (hg.block k (Nat.lt_of_lt_of_le hk hb1.size) (fun e => hne e.symm)).trans (hb1.block k hk)
  have ho2 : Out Y w w2 := ⟨hg.os.trans hb1.os, hg.tape.trans hb1.tape, hg.output.trans hb1.output, Nat.le_trans hb1.size hg.size, fun k hk hY => hk2 k hk (fun e => hY (hrow k e).1)⟩
  have hO := (ho2.trans (Out.setCell (X := Y) w2 (p := ⟨g, 4, none⟩) h.yg (.slice (some ⟨G, 0, none⟩) (L.recs.length + 1) cap)) (fun k hk => .inl hk)).trans (Out.setCell (X := Y) (w2.setCell ⟨g, 4, none⟩ (.slice (some ⟨G, 0, none⟩) (L.recs.length + 1) cap)) (p := ⟨g, 5, none⟩) h.yg (.int .i64 ((L.end_ + le : Nat) : Int))) (fun k hk => .inl hk)
  refine ⟨fun k => Y k ∨ k = G ∨ ∃ a, A = some a ∧ k = a.block, ⟨some ⟨G, 0, none⟩, cap, vs ++ [.slice A m d], ⟨?_, ?_, ?_, ?_, ?_, ?_⟩⟩, hO, ?_⟩
  · have hk : Bk w2 g 73 _ := h.bk.kept (hk2 g hgl fun e => (hrow g e).2 rfl)
    have := (hk.set 4 (.slice (some ⟨G, 0, none⟩) (L.recs.length + 1) cap)).set 5 (.int .i64 ((L.end_ + le : Nat) : Int))
    simpa using this
  · have e1 : ((Value.slice (some ⟨G, 0, none⟩) (L.recs.length + 1) cap)).ownBlock ≠ some g := by simpa [Value.ownBlock] using hG.1
    have := ownsRow_setCell_other (ownsRow_setCell_other hown (a := ⟨g, 4, none⟩) e1 (.slice (some ⟨G, 0, none⟩) (L.recs.length + 1) cap)) (a := ⟨g, 5, none⟩) e1 (.int .i64 ((L.end_ + le : Nat) : Int))
    simpa using this
  · intro j x hj
    have hlen : vs.length = L.recs.length := by have := h.own.1; simpa using this
    have move : ∀ {A' : Option Addr} {m' : Nat} {b' : List UInt8}, Rd w A' m' b' → (∀ a, A' = some a → a.block ≠ g ∧ ∀ r, (Value.slice R L.recs.length c).ownBlock = some r → a.block ≠ r) → Rd ((w2.setCell ⟨g, 4, none⟩ (.slice (some ⟨G, 0, none⟩) (L.recs.length + 1) cap)).setCell ⟨g, 5, none⟩ (.int .i64 ((L.end_ + le : Nat) : Int))) A' m' b' := fun hr' hne => ⟨hr'.len, fun h0 => by
      obtain ⟨ad, e, hc⟩ := hr'.cells h0
      refine ⟨ad, e, fun i y hy => ?_⟩
      have h5 := hc i y hy
      have hlt5 := World.block_lt_of_cell? w _ h5
      rw [addr_add_block] at hlt5
      obtain ⟨n1, n2⟩ := hne ad e
      have e4 : ((w2.setCell ⟨g, 4, none⟩ (.slice (some ⟨G, 0, none⟩) (L.recs.length + 1) cap)).setCell ⟨g, 5, none⟩ (.int .i64 ((L.end_ + le : Nat) : Int))).heap[(ad.add i).block]? = w.heap[(ad.add i).block]? := by
        rw [addr_add_block, Below.heap_setCell _ _ _ _ n1, Below.heap_setCell _ _ _ _ n1]
        exact hk2 _ hlt5 fun e => n2 _ e rfl
      exact (World.cell?_of_block (w := w) e4).trans h5⟩
    rcases Nat.lt_or_ge j L.recs.length with hjl | hjl
    · rw [List.getElem?_append_left hjl] at hj
      obtain ⟨A', m', d', h1, h2, h3, h4⟩ := h.texts j x hj
      refine ⟨A', m', d', by rw [List.getElem?_append_left (by omega)]; exact h1, h2, move h3 (fun a e => ⟨(h4 a e).2.1, fun r hr' => ?_⟩), fun a e => ⟨.inl (h4 a e).1, (h4 a e).2.1, fun r hr' => ?_⟩⟩
      · cases R with
        | none => cases hr'
        | some ad =>
          injection hr' with hr'
          rw [← hr']
          exact (h4 a e).2.2 ad rfl
      · injection hr' with hr'
        rw [← hr']
        show a.block ≠ G
        rcases hloc with eo | eo
        · cases R with
          | none => cases eo
          | some ad =>
            injection eo with eo
            rw [← eo]
            exact (h4 a e).2.2 ad rfl
        · have := h.lt _ (h4 a e).1
          have := hb1.size
          omega
    · rw [List.getElem?_append_right hjl] at hj
      have hj0 : j - L.recs.length = 0 := by
        have := (List.getElem?_eq_some_iff.1 hj).1
        simp at this
        omega
      rw [hj0] at hj
      simp at hj
      subst hj
      have nA : ∀ a, A = some a → a.block ≠ g := fun a e eg => (hA a e).1 (eg ▸ h.yg)
      refine ⟨A, m, d, by rw [List.getElem?_append_right (by omega), hlen, hj0]; rfl, hmd, move hr (fun a e => ⟨nA a e, fun r hr' er => (hA a e).1 (er ▸ (hrow r hr').1)⟩), fun a e => ⟨.inr (.inr ⟨a, e, rfl⟩), nA a e, fun r hr' => ?_⟩⟩
      injection hr' with hr'
      rw [← hr']
      show a.block ≠ G
      intro eG
      rcases hloc with eo | eo
      · exact (hA a e).1 (eG ▸ (hrow G eo).1)
      · have := (hA a e).2
        have := hb1.size
        omega
  · exact .inl h.yg
  · intro a e
    injection e with e
    subst e
    exact ⟨.inr (.inl rfl), hG.1⟩
  · intro k hk
    have hs : ((w2.setCell ⟨g, 4, none⟩ (.slice (some ⟨G, 0, none⟩) (L.recs.length + 1) cap)).setCell ⟨g, 5, none⟩ (.int .i64 ((L.end_ + le : Nat) : Int))).heap.size = w2.heap.size := by simp [World.setCell]
    rw [hs]
    have h3 := hg.size
    have h4 := hb1.size
    rcases hk with hk | rfl | ⟨a, e, rfl⟩
    · have := h.lt k hk; omega
    · exact hlt
    · have := (hA a e).2; omega
  · intro k hk
    rcases hk with hk | rfl | ⟨a, e, rfl⟩
    · exact .inl hk
    · rcases hG.2 with h1 | h1
      · exact .inl h1
      · exact .inr (.inl h1)
    · exact .inr (.inr ⟨a, e, rfl⟩)
set_option maxRecDepth 100000 in
set_option maxHeartbeats 2000000 in
theorem keep_any {w : World} {Y : Nat → Prop} {g gd : Nat} {f : Int} {n : Nat} {L : LK} (h : LgAt w Y g gd f n L) (A : Option Addr) (m d : Nat) (b : List UInt8) (hr : Rd w A m b) (hmd : m ≤ d) (hA : ∀ a, A = some a → ¬ Y a.block ∧ a.block < w.heap.size) (le : Nat) (hle : L.end_ + le ≤ 1000000) (hrl : L.recs.length ≤ 1000000) :
    Calls Try.prog 57 #[.pointer (some ⟨g, 0, none⟩), .slice A m d, .int .i64 (le : Int)] w fun e w' => e = .returned (.tuple #[]) ∧ ∃ Y', LgAt w' Y' g gd f n ⟨L.head, L.recs ++ [b], L.end_ + le, L.top, L.met⟩ ∧ Out Y w w' ∧ ∀ k, Y' k → Y k ∨ w.heap.size ≤ k ∨ ∃ a, A = some a ∧ k = a.block := by
  obtain ⟨i0, hi, hz0, hz1, hz2⟩ := infos info_row
  have HI := Lib.hid hi
  have HZ0 := Lib.hid hz0
  have HZ1 := Lib.hid hz1
  have HZ2 := Lib.hid hz2
  clear hi hz0 hz1 hz2
  obtain ⟨R, c, vs, h⟩ := h
  obtain ⟨a0, a1, a2, a3, a4, a5, a6, a7⟩ := h.cells
  have hb1 : Below w.heap.size w (w.alloc (.cells #[.slice A m d] 32)) := (Below.refl _ _).alloc (Nat.le_refl _) _
  have hgl := h.lt g h.yg
  have HOW : Hid ((w.alloc (.cells #[.slice A m d] 32)).ownsRow 0 32 1 (.slice R L.recs.length c) L.recs.length vs) := h.own.alloc _
  have HNW : Hid (∀ (j : Nat) (u : Value), [Value.slice A m d][j]? = some u → (w.alloc (.cells #[.slice A m d] 32)).cell? ((⟨w.heap.size, 0, none⟩ : Addr).add j) = some u) := by
    have := rows_lit w 32 [.slice A m d]
    obtain ⟨ad, e, hc⟩ := this.cells (by simp)
    injection e with e
    subst e
    exact hc
  have HGROW : Hid (∀ (G cap : Nat) (w2 : World), w2.ownsRow 0 32 1 (.slice (some ⟨G, 0, none⟩) (L.recs.length + 1) cap) (L.recs.length + 1) (vs ++ [.slice A m d]) → (w.alloc (.cells #[.slice A m d] 32)).grownBy w2 (Value.slice R L.recs.length c).ownBlock → ((Value.slice R L.recs.length c).ownBlock = some G ∨ G = w.heap.size + 1) → G < w2.heap.size →
      (∃ Y', LgAt ((w2.setCell ⟨g, 4, none⟩ (.slice (some ⟨G, 0, none⟩) (L.recs.length + 1) cap)).setCell ⟨g, 5, none⟩ (.int .i64 ((L.end_ + le : Nat) : Int))) Y' g gd f n ⟨L.head, L.recs ++ [b], L.end_ + le, L.top, L.met⟩ ∧ Out Y w ((w2.setCell ⟨g, 4, none⟩ (.slice (some ⟨G, 0, none⟩) (L.recs.length + 1) cap)).setCell ⟨g, 5, none⟩ (.int .i64 ((L.end_ + le : Nat) : Int))) ∧ ∀ k, Y' k → Y k ∨ w.heap.size ≤ k ∨ ∃ a, A = some a ∧ k = a.block) ∧
      w2.cell? ⟨g, 5, none⟩ = some (.int .i64 (L.end_ : Int)) ∧ w2.cell? ⟨g, 4, none⟩ = some (.slice R L.recs.length c) ∧ w2.frozen? ⟨g, 4, none⟩ = false ∧ w2.frozen? ⟨g, 5, none⟩ = false) := fun G cap w2 q1 q2 q3 q4 => by
    refine ⟨h.grow hb1 hmd hr hA q1 q2 (by rw [size_new]; exact q3) q4 le, ?_⟩
    have hne : some g ≠ (Value.slice R L.recs.length c).ownBlock := by
      intro e
      cases R with
      | none => cases e
      | some ad =>
        injection e with e
        exact (h.yr ad rfl).2 e.symm
    have hk : Bk w2 g 73 _ := h.bk.kept ((q2.block g (Nat.lt_of_lt_of_le hgl hb1.size) hne).trans (hb1.block g hgl))
    exact ⟨hk.cell 5, hk.cell 4, hk.frozen 4, hk.frozen 5⟩
  have w1 : wrap64 ((L.end_ : Int) + (le : Int)) = ((L.end_ + le : Nat) : Int) := by rw [IntWalk.wrap64_in _ (by omega)]; omega
  have w3 : ((L.end_ + le : Nat) : Int) = (L.end_ : Int) + (le : Int) := by omega
  rw [w3] at HGROW
  generalize L.recs.length = k at *
  clear h hr hmd hA
  go_enter Try.func57, Try.ntmps57
  go_wp2_with (at_builtin; refine wpList_append_lies _ rfl (.tmp 10) (.tmp 12) _ rfl 0 32 i0 _ 1 24 ty_rows HI.out HZ0.out HZ1.out HZ2.out rfl (by decide) _ k _ rfl HOW.out ⟨w.heap.size, 0, none⟩ 1 1 [.slice A m d] rfl rfl HNW.out (by simp [Value.oneCell']) (by decide) (by unfold maxLen; omega) (by omega) (Nat.zero_le _) (w.heap.size + 1) (size_new _ _) ?_)
  intro G cap w2 q1 q2 q3 q4
  obtain ⟨hres, k5, k4, f4, f5⟩ := HGROW.out G cap w2 q1 q2 q3 q4
  have HRES := Lib.hid hres
  clear hres q1 q2 q3 q4
  have k5' : (w2.setCell ⟨g, 4, none⟩ (.slice (some ⟨G, 0, none⟩) (k + 1) cap)).cell? ⟨g, 5, none⟩ = some (.int .i64 (L.end_ : Int)) := by
    rw [World.cell?_setCell_other _ _ _ _ (by simp)]
    exact k5
  go_wp2_with fail
  go_end0
  exact ⟨rfl, HRES.out⟩
end Go.Proofs.Ytikpedkckijioaa.Log
