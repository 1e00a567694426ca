/- Operations on a whole page at once: its cells are a letter. -/
import Derived.Test.YtikpedkckijioaaDiskCode1
import Derived.Great.Ranges
import Derived.Deep.WholeRow
namespace Go.Proofs.Ytikpedkckijioaa.Disk
open Go.RowKit

section
variable {P : Program} {ops : Array Oper} {rest : List Oper} {op : Oper} {a : Act} {w : World} {Q : Exit → Act → World → Prop}
theorem wpList_alloc_named (hgd : op.guard = none) (ty : TypeId) (ho : op.op = .alloc ty) (cs : Array Value) (hz : (P.info? ty).map (·.zero) = some (some (.agg cs)))
    (h : Hid (∀ V, V = w.alloc (.cells cs ty) → wpList P ops Q rest (a.put op.dst (.pointer (some ⟨w.heap.size, 0, none⟩))) V)) : wpList P ops Q (op :: rest) a w := by
  refine wpList_plain hgd fun K hK => ?_
  unfold Oper.wp execOp
  cases hq : P.info? ty with
  | none => simp [hq] at hz
  | some i =>
    have hzz : i.zero = some (.agg cs) := by simpa [hq] using hz
    simp [ho, Instr.alloc, zeroValue, typeInfo, hq, hzz, newVar, newRow, Value.cells]
    exact hK _ _ (h.out _ rfl)
theorem wpList_store_named (hgd : op.guard = none) (ty : TypeId) (x y : Operand) (ho : op.op = .store ty x y)
    (b o : Nat) (cells : Array Value) (hx : a.eval x = .pointer (some ⟨b, o, none⟩)) (hy : a.eval y = .agg cells)
    (ht : w.there b o cells.size) (hi : (P.info? ty).map (·.size) = some cells.size) (h1 : cells.all (·.oneCell') = true)
    (h : Hid (∀ V, V = w.setCells b o cells.toList → wpList P ops Q rest (a.put op.dst undef) V)) : wpList P ops Q (op :: rest) a w :=
  wpList_store_mid hgd ty x y ho b o cells hx hy ht hi h1 (h.out _ rfl)
theorem wpList_store_new (hgd : op.guard = none) (ty : TypeId) (x y : Operand) (ho : op.op = .store ty x y)
    (w0 : World) (old cells : Array Value) (t : TypeId) (hw : w = w0.alloc (.cells old t)) (hx : a.eval x = .pointer (some ⟨w0.heap.size, 0, none⟩)) (hy : a.eval y = .agg cells)
    (hi : (P.info? ty).map (·.size) = some cells.size) (hold : old.size = cells.size) (h1 : cells.all (·.oneCell') = true)
    (h : Hid (∀ V, V = w0.alloc (.cells cells t) → wpList P ops Q rest (a.put op.dst undef) V)) : wpList P ops Q (op :: rest) a w := by
  subst hw
  refine wpList_store_row hgd ty x y ho w0.heap.size cells hx hy t old (heap_alloc_last w0 _) hi hold h1 ?_
  rw [World.setRow_alloc_new]
  exact h.out _ rfl
theorem wpList_load_named (hgd : op.guard = none) (ty : TypeId) (x : Operand) (ho : op.op = .load ty x)
    (b o : Nat) (hx : a.eval x = .pointer (some ⟨b, o, none⟩)) (cs : List Value) (d : TypeDesc) (hc : w.rangeAt b o cs)
    (hu : P.underlying ty = some d) (hd : d.isRow = true) (hi : (P.info? ty).map (·.size) = some cs.length)
    (h : wpList P ops Q rest (a.put op.dst (.agg cs.toArray)) w) : wpList P ops Q (op :: rest) a w :=
  wpList_load_mid hgd ty x ho b o hx cs d hc hu hd hi h
end
theorem rangeAt_drop {w : World} {b o : Nat} {cs : List Value} (h : w.rangeAt b o cs) (k : Nat) : w.rangeAt b (o + k) (cs.drop k) := fun j v hv => by
  rw [List.getElem?_drop] at hv
  have := h (k + j) v hv
  rwa [show o + (k + j) = o + k + j by omega] at this
theorem rangeAt_below {w w' : World} {b o : Nat} {cs : List Value} (h : w.rangeAt b o cs) (hb : Below w.heap.size w w') : w'.rangeAt b o cs := fun j v hv => by
  have h1 := h j v hv
  rw [World.cell?_of_block (w := w) (by exact hb.block b (World.block_lt_of_cell? w _ h1))]
  exact h1
def zeros : List UInt8 := List.replicate 512 0
theorem zeros_length : zeros.length = 512 := List.length_replicate
theorem zeros_U : zeros.map U = List.replicate 512 (.int .u8 0) := by
  unfold zeros
  rw [List.map_replicate]
  rfl
theorem zero_page : (Try.prog.info? 92).map (·.zero) = some (some (.agg (zeros.map U).toArray)) := by rw [zeros_U]; kernel_rfl
theorem size_page : (Try.prog.info? 92).map (·.size) = some 512 := by kernel_rfl
theorem size_page' {b : List UInt8} (h : b.length = 512) : (Try.prog.info? 92).map (·.size) = some (b.map U).length := by rw [size_page, List.length_map, h]
theorem size_pageA {b : List UInt8} (h : b.length = 512) : (Try.prog.info? 92).map (·.size) = some (b.map U).toArray.size := by rw [size_page]; simp [h]
theorem under_page : Try.prog.underlying 92 = some (.array 512 5) := by kernel_rfl
def wrC (x : Nat × List UInt8) : List Value := .int .i64 (x.1 : Int) :: x.2.map U
theorem wrC_length {x : Nat × List UInt8} (h : x.2.length = 512) : (wrC x).length = 513 := by simp [wrC, h]
theorem zero_write : (Try.prog.info? 94).map (·.zero) = some (some (.agg (wrC (0, zeros)).toArray)) := by unfold wrC; dsimp only; rw [zeros_U]; kernel_rfl
theorem size_write : (Try.prog.info? 94).map (·.size) = some 513 := by kernel_rfl
theorem wrC_one (x : Nat × List UInt8) : ∀ v ∈ wrC x, v.oneCell' = true := by
  intro v hv
  rcases List.mem_cons.1 hv with rfl | hv
  · rfl
  · exact U_all _ v hv
theorem one_page (b : List UInt8) : (b.map U).toArray.all (·.oneCell') = true := all_oneCell_toArray (U_all b)
/-- A page's cells of a block of pages. -/
theorem Pg.range {w : World} {p : Nat} {ps : List (List UInt8)} (h : Pg w p ps) {k : Nat} (hk : k < ps.length) : w.rangeAt p (k * 512) ((ps.getD k []).map U) := by
  refine h.cells k _ ?_
  rw [List.getD_eq_getElem?_getD, List.getElem?_eq_getElem hk]
  rfl
/-- The cells of a write that waits. -/
theorem At.row_at {w : World} {X : Nat → Prop} {g p : Nat} {A : Option Addr} {c : Nat} {d : DK} (h : At w X g p A c d) {i : Nat} {x : Nat × List UInt8} (hx : d.row[i]? = some x) :
    ∃ r, A = some ⟨r, 0, none⟩ ∧ X r ∧ r ≠ g ∧ r ≠ p ∧ w.rangeAt r (i * 513) (wrC x) ∧ d.row.length ≤ c := by
  have hi : i < d.row.length := (List.getElem?_eq_some_iff.1 hx).1
  rcases h.own.2 with ⟨_, h1⟩ | ⟨r, cap, cur, h1, h2, h3, h4, h5, h6, h7⟩
  · omega
  · injection h1 with e1 _ e3
    subst e1 e3
    have hxr := h.xr ⟨r, 0, none⟩ rfl
    refine ⟨r, rfl, hxr.1, hxr.2.1, hxr.2.2, fun j v hv => ?_, h4⟩
    have hc := rowV_at h.ok.row hx j v hv
    have hlt : i * 513 + j < (rowV d.row).length := (List.getElem?_eq_some_iff.1 hc).1
    rw [rowV_length h.ok.row] at hlt
    rw [← h7, List.getElem?_take] at hc
    rw [if_pos hlt] at hc
    rw [cell_of_row w r _ _ _ _ h3]
    simpa using hc
end Go.Proofs.Ytikpedkckijioaa.Disk
