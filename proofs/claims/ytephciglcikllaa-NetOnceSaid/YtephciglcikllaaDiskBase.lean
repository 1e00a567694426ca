/- A disk in memory. -/
import Derived.Test.YtephciglcikllaaDiskPure
import Derived.Deep.MidRow
import Derived.Laws.OwnMore
namespace Go.Proofs.Ytephciglcikllaa.Disk
open Go.RowKit

/-- Behind w all blocks but those of X are as they were. -/
structure Out (X : Nat → Prop) (w w' : World) : Prop where
  os : w'.os = w.os
  tape : w'.tape = w.tape
  output : w'.output = w.output
  size : w.heap.size ≤ w'.heap.size
  block : ∀ k, k < w.heap.size → ¬ X k → w'.heap[k]? = w.heap[k]?
theorem Out.of_below {X : Nat → Prop} {w w' : World} (h : Below w.heap.size w w') : Out X w w' := ⟨h.os, h.tape, h.output, h.size, fun k hk _ => h.block k hk⟩
theorem Out.refl (X : Nat → Prop) (w : World) : Out X w w := ⟨rfl, rfl, rfl, Nat.le_refl _, fun _ _ _ => rfl⟩
theorem Out.trans {X X' : Nat → Prop} {w w1 w2 : World} (h1 : Out X w w1) (h2 : Out X' w1 w2) (hx : ∀ k, X' k → X k ∨ w.heap.size ≤ k) : Out X w w2 :=
  ⟨h2.os.trans h1.os, h2.tape.trans h1.tape, h2.output.trans h1.output, Nat.le_trans h1.size h2.size, fun k hk hX => (h2.block k (Nat.lt_of_lt_of_le hk h1.size) (fun h => (hx k h).elim hX (by omega))).trans (h1.block k hk hX)⟩
theorem Out.below {X : Nat → Prop} {B : Nat} {w0 w w' : World} (h : Out X w w') (hb : Below B w0 w) (hX : ∀ k, X k → B ≤ k) (hB : B ≤ w.heap.size) : Below B w0 w' :=
  ⟨h.os.trans hb.os, h.tape.trans hb.tape, h.output.trans hb.output, Nat.le_trans hb.size h.size, fun k hk => (h.block k (by omega) (fun hx => by have := hX k hx; omega)).trans (hb.block k hk)⟩
theorem Out.mono {X Y : Nat → Prop} {w w' : World} (h : Out X w w') (hx : ∀ k, X k → Y k ∨ w.heap.size ≤ k) : Out Y w w' :=
  ⟨h.os, h.tape, h.output, h.size, fun k hk hY => h.block k hk (fun hX => (hx k hX).elim hY (by omega))⟩
theorem Out.setCell {X : Nat → Prop} (w : World) {p : Addr} (hp : X p.block) (u : Value) : Out X w (w.setCell p u) :=
  ⟨rfl, rfl, rfl, by simp [World.setCell], fun k _ hX => Below.heap_setCell w p u k (fun e => hX (e ▸ hp))⟩
theorem Out.setCells {X : Nat → Prop} {b : Nat} (hb : X b) : ∀ (vs : List Value) (o : Nat) (w : World), Out X w (w.setCells b o vs)
  | [], _, w => Out.refl X w
  | v :: r, o, w => by
    have h1 := Out.setCell w (p := ⟨b, o, none⟩) hb v
    exact h1.trans (Out.setCells hb r (o + 1) _) (fun k hk => .inl hk)
theorem Out.alloc {X : Nat → Prop} (w : World) (o : Obj) : Out X w (w.alloc o) := Out.of_below ((Below.refl w.heap.size w).alloc (Nat.le_refl _) o)
theorem Out.drew {X : Nat → Prop} {w w' : World} (h : Out X w w') : Out X w w'.drew := ⟨h.os, h.tape, h.output, h.size, h.block⟩

theorem Out.cell {X : Nat → Prop} {w w' : World} (h : Out X w w') {p : Addr} (hp : p.block < w.heap.size) (hX : ¬ X p.block) : w'.cell? p = w.cell? p := World.cell?_of_block (w := w) (h.block p.block hp hX)

/-- The cells of a row. -/
def rowV (r : List (Nat × List UInt8)) : List Value := r.flatMap fun x => .int .i64 (x.1 : Int) :: x.2.map U
theorem rowV_length {n : Nat} {r : List (Nat × List UInt8)} (h : OkR n r) : (rowV r).length = r.length * 513 := by
  induction r with
  | nil => rfl
  | cons x r ih =>
    have h1 := (h x List.mem_cons_self).2
    have h2 := ih fun y hy => h y (List.mem_cons_of_mem _ hy)
    unfold rowV at h2 ⊢
    rw [List.flatMap_cons, List.length_append, h2, List.length_cons, List.length_map, h1, List.length_cons]
    omega
theorem rowV_snoc (r : List (Nat × List UInt8)) (x : Nat × List UInt8) : rowV (r ++ [x]) = rowV r ++ .int .i64 (x.1 : Int) :: x.2.map U := by
  unfold rowV
  rw [List.flatMap_append]
  simp
theorem rowV_at {n : Nat} {r : List (Nat × List UInt8)} (h : OkR n r) : ∀ {i : Nat} {x : Nat × List UInt8}, r[i]? = some x → ∀ j v, (.int .i64 (x.1 : Int) :: x.2.map U)[j]? = some v → (rowV r)[i * 513 + j]? = some v := by
  induction r with
  | nil => intro i x hx; simp at hx
  | cons y r ih =>
    have hy := (h y List.mem_cons_self).2
    have hr : OkR n r := fun z hz => h z (List.mem_cons_of_mem _ hz)
    have hl : (Value.int .i64 (y.1 : Int) :: y.2.map U).length = 513 := by simp [hy]
    intro i x hx j v hv
    have hrow : rowV (y :: r) = (.int .i64 (y.1 : Int) :: y.2.map U) ++ rowV r := by unfold rowV; rw [List.flatMap_cons]
    cases i with
    | zero =>
      simp only [List.getElem?_cons_zero, Option.some.injEq] at hx
      subst hx
      have hj : j < (Value.int .i64 (y.1 : Int) :: y.2.map U).length := (List.getElem?_eq_some_iff.1 hv).1
      rw [hrow, Nat.zero_mul, Nat.zero_add, List.getElem?_append_left hj]
      exact hv
    | succ i =>
      simp only [List.getElem?_cons_succ] at hx
      have := ih hr hx j v hv
      have e1 : (i + 1) * 513 + j = i * 513 + j + 513 := by omega
      rw [hrow, List.getElem?_append_right (by omega), hl, e1, Nat.add_sub_cancel]
      exact this
theorem rowV_one {r : List (Nat × List UInt8)} : ∀ u ∈ rowV r, u.oneCell' = true := by
  intro u hu
  unfold rowV at hu
  obtain ⟨x, _, hx⟩ := List.mem_flatMap.1 hu
  rcases List.mem_cons.1 hx with rfl | hx
  · rfl
  · exact U_all _ u hx

end Go.Proofs.Ytephciglcikllaa.Disk
