/- A net in memory. -/
import Derived.Test.YtephciglcikllaaNetKey
import Derived.Test.YtephciglcikllaaPathTexts
namespace Go.Proofs.Ytephciglcikllaa.Net
open Go.RowKit Disk Zab

/-- A row whose elements have one cell each; it may be shorter than its block. -/
structure RowE (w : World) (e : TypeId) (A : Option Addr) (n c : Nat) (ps : List Value) : Prop where
  len : ps.length = n
  form : (A = none ∧ n = 0 ∧ c = 0) ∨ ∃ g cur, A = some ⟨g, 0, none⟩ ∧ w.heap[g]? = some (.cells cur e (0, 0)) ∧ n ≤ c ∧ c ≤ cur.size ∧ cur.toList.take n = ps
theorem RowE.nil_ (w : World) (e : TypeId) : RowE w e none 0 0 [] := ⟨rfl, .inl ⟨rfl, rfl, rfl⟩⟩
theorem RowE.kept {w w' : World} {e : TypeId} {A : Option Addr} {n c : Nat} {ps : List Value} (h : RowE w e A n c ps) (hb : ∀ a, A = some a → w'.heap[a.block]? = w.heap[a.block]?) : RowE w' e A n c ps := by
  refine ⟨h.len, h.form.imp id ?_⟩
  rintro ⟨g, cur, rfl, h1, h2⟩
  exact ⟨g, cur, rfl, (hb _ rfl).trans h1, h2⟩
theorem RowE.lt {w : World} {e : TypeId} {A : Option Addr} {n c : Nat} {ps : List Value} (h : RowE w e A n c ps) : ∀ a, A = some a → a.block < w.heap.size := fun a ha => by
  rcases h.form with ⟨q, _⟩ | ⟨g, cur, rfl, h1, _⟩
  · rw [q] at ha; cases ha
  · injection ha with ha
    subst ha
    exact (Array.getElem?_eq_some_iff.1 h1).1
theorem RowE.le {w : World} {e : TypeId} {A : Option Addr} {n c : Nat} {ps : List Value} (h : RowE w e A n c ps) : n ≤ c := by
  rcases h.form with ⟨_, rfl, rfl⟩ | ⟨_, _, _, _, h, _⟩ <;> omega
theorem plus_add (g i : Nat) : ((⟨g, 0, none⟩ : Addr).add i) = ⟨g, i, none⟩ := by unfold Addr.add; split <;> simp_all
theorem RowE.cell {w : World} {e : TypeId} {A : Option Addr} {n c : Nat} {ps : List Value} (h : RowE w e A n c ps) {i : Nat} {v : Value} (hi : ps[i]? = some v) : ∃ g, A = some ⟨g, 0, none⟩ ∧ w.cell? ⟨g, i, none⟩ = some v := by
  have hl := h.len
  have hil := (List.getElem?_eq_some_iff.1 hi).1
  rcases h.form with ⟨_, q, _⟩ | ⟨g, cur, rfl, h1, _, _, h4⟩
  · omega
  · refine ⟨g, rfl, ?_⟩
    rw [← h4, List.getElem?_take, if_pos (by omega)] at hi
    simp only [World.cell?, h1]
    simpa using hi
theorem RowE.rdv {w : World} {e : TypeId} {A : Option Addr} {n c : Nat} {ps : List Value} (h : RowE w e A n c ps) : RdV w A n ps :=
  ⟨h.len, fun h0 => by
    rcases h.form with ⟨_, q, _⟩ | ⟨g, cur, rfl, _⟩
    · omega
    · refine ⟨_, rfl, fun j v hj => ?_⟩
      obtain ⟨g', e1, h1⟩ := h.cell hj
      injection e1 with e1
      injection e1 with e1
      subst e1
      rw [plus_add]
      exact h1⟩
theorem RowE.take {w : World} {e : TypeId} {A : Option Addr} {n c : Nat} {ps : List Value} (h : RowE w e A n c ps) {k : Nat} (hk : k ≤ n) : RowE w e A k k (ps.take k) := by
  have hl := h.len
  refine ⟨by rw [List.length_take]; omega, ?_⟩
  rcases h.form with ⟨h1, h2, h3⟩ | ⟨g, cur, h1, h2, h3, h4, h5⟩
  · exact .inl ⟨h1, by omega, by omega⟩
  · exact .inr ⟨g, cur, h1, h2, Nat.le_refl _, by omega, by rw [← h5, List.take_take, Nat.min_eq_left hk]⟩
theorem RowE.of_own {w : World} {base : Nat} {e : TypeId} {A : Option Addr} {n m c : Nat} {ps : List Value} (h : w.ownsRow base e 1 (.slice A n c) m ps) : RowE w e A n c ps := by
  have hl := h.1
  rcases h.2 with ⟨e1, rfl⟩ | ⟨g, cap, cur, e1, _, hh, hnc, _, hs, ht⟩
  · injection e1 with e1 e2 e3
    subst e1 e2 e3
    exact ⟨by simpa using hl, .inl ⟨rfl, rfl, rfl⟩⟩
  · injection e1 with e1 e2 e3
    subst e1 e2 e3
    rw [Nat.mul_one] at ht hs hl
    exact ⟨hl, .inr ⟨g, cur, rfl, hh, hnc, by omega, ht⟩⟩

/-- A pointer to a block's head. -/
def P1 (p : Nat) : Value := .pointer (some ⟨p, 0, none⟩)
/-- A letter at block p, its bytes in blocks of F. -/
def LtAt (w : World) (F : Nat → Prop) (p : Nat) (l : Lt) : Prop := ∃ B m c, Bk w p 37 (ltA l (.slice B m c)) ∧ m ≤ c ∧ Rd w B m l.bs ∧ ∀ a, B = some a → 1 ≤ m → F a.block
theorem rd_out {w W : World} {Z : Nat → Prop} {A : Option Addr} {n : Nat} {vs : List UInt8} (h : Rd w A n vs) (ho : Out Z w W) (hz : ∀ a, A = some a → 1 ≤ n → ¬ Z a.block) : Rd W A n vs :=
  ⟨h.len, fun h0 => by
    obtain ⟨ad, e, hc⟩ := h.cells h0
    exact ⟨ad, e, fun j v hv => (ho.cell (World.block_lt_of_cell? w _ (hc j v hv)) (by rw [addr_add_block]; exact hz ad e h0)).trans (hc j v hv)⟩⟩
theorem rdv_out {w W : World} {Z : Nat → Prop} {A : Option Addr} {n : Nat} {vs : List Value} (h : RdV w A n vs) (ho : Out Z w W) (hz : ∀ a, A = some a → 1 ≤ n → ¬ Z a.block) : RdV W A n vs :=
  ⟨h.len, fun h0 => by
    obtain ⟨ad, e, hc⟩ := h.cells h0
    exact ⟨ad, e, fun j v hv => (ho.cell (World.block_lt_of_cell? w _ (hc j v hv)) (by rw [addr_add_block]; exact hz ad e h0)).trans (hc j v hv)⟩⟩
theorem LtAt.out {w W : World} {F X : Nat → Prop} {p : Nat} {l : Lt} (h : LtAt w F p l) (ho : Out X w W) (hp : ¬ X p) (hf : ∀ b, F b → ¬ X b) : LtAt W F p l := by
  obtain ⟨B, m, c, h1, h2, h3, h4⟩ := h
  exact ⟨B, m, c, h1.kept (ho.block p h1.lt hp), h2, rd_out h3 ho fun a ha h0 => hf _ (h4 a ha h0), h4⟩
theorem LtAt.mono {w : World} {F G : Nat → Prop} {p : Nat} {l : Lt} (h : LtAt w F p l) (hf : ∀ b, F b → G b) : LtAt w G p l := by
  obtain ⟨B, m, c, h1, h2, h3, h4⟩ := h
  exact ⟨B, m, c, h1, h2, h3, fun a ha h0 => hf _ (h4 a ha h0)⟩
def iv (s : List Int) : List Value := s.map (.int .i64)
/-- A net's memory: F is never written to. -/
structure NtM (w : World) (O F : Nat → Prop) (gz : Nat) (As : Option Addr) (cs : Nat) (Ar : Option Addr) (cr gm : Nat) (D : DataW Value) (ps : List Nat) (z : Nt) (N : Nat) : Prop where
  bk : Bk w gz 69 #[.slice As z.sizes.length cs, .slice Ar z.row.length cr, .map (some gm)]
  fo : ∀ b, F b → O b ∧ b ≠ gz ∧ b ≠ gm ∧ ∀ a, Ar = some a → b ≠ a.block
  sz : RdV w As z.sizes.length (iv z.sizes)
  sf : ∀ a, As = some a → 1 ≤ z.sizes.length → F a.block
  row : RowE w 73 Ar z.row.length cr (ps.map P1)
  ro : ∀ a, Ar = some a → O a.block ∧ a.block ≠ gz ∧ a.block ≠ gm
  each : ∀ (i : Nat) p l, ps[i]? = some p → z.row[i]? = some l → F p ∧ LtAt w F p l
  go : O gz ∧ O gm ∧ gm ≠ gz
  map : KMap linkT w gm (cutV z.cut) N D
theorem NtM.out {w W : World} {O F X : Nat → Prop} {gz : Nat} {As : Option Addr} {cs : Nat} {Ar : Option Addr} {cr gm : Nat} {D : DataW Value} {ps : List Nat} {z : Nt} {N : Nat} (h : NtM w O F gz As cs Ar cr gm D ps z N) (ho : Out X w W) (hx : ∀ b, O b → ¬ X b) : NtM W O F gz As cs Ar cr gm D ps z N := by
  obtain ⟨h1, h2, h3, h4, h5, h6, h7, h8, h9⟩ := h
  refine ⟨h1.kept (ho.block _ h1.lt (hx _ h8.1)), h2, rdv_out h3 ho fun a ha h0 => hx _ (h2 _ (h4 a ha h0)).1, h4, h5.kept fun a ha => ho.block _ (h5.lt a ha) (hx _ (h6 a ha).1), h6, fun i p l hp hl => ?_, h8, h9.out ho (hx _ h8.2.1)⟩
  obtain ⟨q1, q2⟩ := h7 i p l hp hl
  exact ⟨q1, q2.out ho (hx _ (h2 _ q1).1) fun b hb => hx _ (h2 _ hb).1⟩
/-- A net of one's own since w0, within blocks of O. -/
structure NtAt (w0 w : World) (O : Nat → Prop) (gz : Nat) (z : Nt) (N : Nat) : Prop where
  ok : z.Ok
  gz_ : O gz
  low : ∀ b, O b → w0.heap.size ≤ b ∧ b < w.heap.size
  mem : ∃ F As cs Ar cr gm D ps, NtM w O F gz As cs Ar cr gm D ps z N
theorem NtAt.out {w0 w W : World} {O X : Nat → Prop} {gz : Nat} {z : Nt} {N : Nat} (h : NtAt w0 w O gz z N) (ho : Out X w W) (hx : ∀ b, O b → ¬ X b) : NtAt w0 W O gz z N := by
  obtain ⟨h1, h2, h3, F, As, cs, Ar, cr, gm, D, ps, hm⟩ := h
  exact ⟨h1, h2, fun b hb => ⟨(h3 b hb).1, Nat.lt_of_lt_of_le (h3 b hb).2 ho.size⟩, F, As, cs, Ar, cr, gm, D, ps, hm.out ho hx⟩
theorem NtAt.below {w0 w W : World} {O : Nat → Prop} {gz : Nat} {z : Nt} {N : Nat} (h : NtAt w0 w O gz z N) (hb : Below w.heap.size w W) : NtAt w0 W O gz z N := h.out (X := fun _ => False) (Out.of_below hb) fun _ _ q => q
theorem NtAt.mono {w0 w : World} {O : Nat → Prop} {gz : Nat} {z : Nt} {N M : Nat} (h : NtAt w0 w O gz z N) (hm : N ≤ M) : NtAt w0 w O gz z M := by
  obtain ⟨h1, h2, h3, F, As, cs, Ar, cr, gm, D, ps, hq⟩ := h
  exact ⟨h1, h2, h3, F, As, cs, Ar, cr, gm, D, ps, hq.bk, hq.fo, hq.sz, hq.sf, hq.row, hq.ro, hq.each, hq.go, hq.map.mono hm⟩
/-- What a call may write, and whose blocks are whose behind it. -/
def Go_ (O O' : Nat → Prop) (w w' : World) : Prop := Out O w w' ∧ ∀ b, O' b → O b ∨ w.heap.size ≤ b
theorem Go_.of_below {O : Nat → Prop} {w w' : World} (h : Below w.heap.size w w') : Go_ O O w w' := ⟨Out.of_below h, fun _ hb => .inl hb⟩
theorem Go_.trans {O O1 O2 : Nat → Prop} {w w1 w2 : World} (h : Go_ O O1 w w1) (k : Go_ O1 O2 w1 w2) : Go_ O O2 w w2 :=
  ⟨h.1.trans k.1 h.2, fun b hb => (k.2 b hb).elim (h.2 b) fun q => .inr (Nat.le_trans h.1.size q)⟩
/-- What a call that answers v comes to. -/
def DidN (w0 : World) (O : Nat → Prop) (gz : Nat) (v : Value) (z : Nt) (N : Nat) (w : World) (e : Ending) (w' : World) : Prop :=
  ∃ O', e = .returned v ∧ NtAt w0 w' O' gz z N ∧ Go_ O O' w w'
end Go.Proofs.Ytephciglcikllaa.Net
