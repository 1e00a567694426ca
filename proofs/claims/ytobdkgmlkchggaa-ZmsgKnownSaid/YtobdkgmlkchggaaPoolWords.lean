/- Rows of one's own through a drawn region: how they are kept, and how bytes are put behind them. -/
import Derived.Test.YtobdkgmlkchggaaPhasePool
import Derived.Test.YtobdkgmlkchggaaPhaseLink
import Derived.Test.YtobdkgmlkchggaaPut
import Derived.Maps.AppendAt
import Derived.Deep.AppendLies
namespace Go.Proofs.Ytobdkgmlkchggaa.PhaseG
open Go.RowKit
open Disk (Out)

theorem own_out {w w' : World} {base size : Nat} {e : TypeId} {x : Value} {n : Nat} {xs : List Value} {Z : Nat → Prop} (h : w.ownsRow base e size x n xs) (ho : Out Z w w') (hz : ∀ b, x.ownBlock = some b → ¬ Z b) : w'.ownsRow base e size x n xs :=
  ⟨h.1, by
    rcases h.2 with h1 | ⟨g, cap, cur, e1, e2, hh, r⟩
    · exact .inl h1
    · exact .inr ⟨g, cap, cur, e1, e2, (ho.block g (Array.getElem?_eq_some_iff.1 hh).1 (hz g (by rw [e1]; rfl))).trans hh, r⟩⟩
theorem own_same {w w' : World} {base size : Nat} {e : TypeId} {x : Value} {n : Nat} {xs : List Value} (h : w.ownsRow base e size x n xs) (hz : ∀ b, x.ownBlock = some b → w'.heap[b]? = w.heap[b]?) : w'.ownsRow base e size x n xs :=
  ⟨h.1, by
    rcases h.2 with h1 | ⟨g, cap, cur, e1, e2, hh, r⟩
    · exact .inl h1
    · exact .inr ⟨g, cap, cur, e1, e2, (hz g (by rw [e1]; rfl)).trans hh, r⟩⟩
theorem own_lt {w : World} {base size : Nat} {e : TypeId} {x : Value} {n : Nat} {xs : List Value} (h : w.ownsRow base e size x n xs) {b : Nat} (hb : x.ownBlock = some b) : base ≤ b ∧ b < w.heap.size := by
  rcases h.2 with ⟨rfl, _⟩ | ⟨g, cap, cur, rfl, e2, hh, r⟩
  · simp [Value.ownBlock] at hb
  · simp [Value.ownBlock] at hb
    subst hb
    exact ⟨e2, (Array.getElem?_eq_some_iff.1 hh).1⟩
/-- A slice of one's own as a slice. -/
theorem own_slice {w : World} {base size : Nat} {e : TypeId} {x : Value} {n : Nat} {xs : List Value} (h : w.ownsRow base e size x n xs) : ∃ A c, x = .slice A n c ∧ n ≤ c := by
  rcases h.2 with ⟨rfl, h0⟩ | ⟨g, cap, cur, rfl, _, _, hnc, _⟩
  · exact ⟨none, 0, by rw [h0], by omega⟩
  · exact ⟨_, _, rfl, hnc⟩
theorem run_append_rd {P : Program} {w : World} {t ty e : TypeId} {i : TypeInfo} {z : Value} (ht : P.underlying t = some (.slice e)) (hi : P.info? e = some i) (hz : i.zero = some z) (hs : i.size = 1) (hb : i.bytes = 1) (hzs : z.cells.size = 1)
    {base : Nat} {v : Value} {n : Nat} {xs : List Value} (hown : w.ownsRow base e 1 v n xs) {A : Option Addr} {m : Nat} {bs : List UInt8} (h : Rd w A m bs) (c : Nat) (hm : n + m ≤ 140737488355328) (hbase : base ≤ w.heap.size) :
    ∃ v' w', (Builtin.append_ #[t, t] ty #[v, .slice A m c]).run P w = .ok v' w' ∧ w'.ownsRow base e 1 v' (n + m) (xs ++ bs.map U) ∧ w.grownBy w' v.ownBlock ∧ ∀ b, v'.ownBlock = some b → v.ownBlock = some b ∨ w.heap.size ≤ b := by
  have hl := h.len
  cases A with
  | some ad =>
    obtain ⟨v', w', h1, h2, h3, _, h5⟩ := run_append_own_at (P := P) (w := w) base t ty e i z 1 1 ht hi hz hs hb hzs (by decide) v n xs hown ad m c (bs.map U) (by simp [hl]) (fun j u hu => by
      rw [List.getElem?_map] at hu
      cases hb : bs[j]? with
      | none => rw [hb] at hu; cases hu
      | some b =>
        rw [hb] at hu
        injection hu with hu
        subst hu
        obtain ⟨ad', e', hc⟩ := h.cells (by have := (List.getElem?_eq_some_iff.1 hb).1; omega)
        injection e' with e'
        subst e'
        exact hc j b hb) (U_all bs) (by unfold maxLen; omega) (by omega) hbase
    refine ⟨v', w', h1, h2, h3, fun b hb => ?_⟩
    rcases h5 with h5 | h5
    · exact .inl (h5 ▸ hb)
    · rw [h5] at hb
      injection hb with hb
      exact .inr (by omega)
  | none =>
    have hm0 : m = 0 := by
      rcases Nat.eq_zero_or_pos m with h0 | h0
      · exact h0
      · obtain ⟨_, e', _⟩ := h.cells h0
        cases e'
    subst hm0
    obtain ⟨v', w', h1, h2, h3⟩ := run_append_Rd (P := P) (ty := ty) ht hi hz hs hb hzs hown h c hm hbase
    have hb0 : bs = [] := List.eq_nil_of_length_eq_zero hl
    subst hb0
    refine ⟨v, w, ?_, by simpa using hown, ⟨rfl, rfl, rfl, Nat.le_refl _, fun _ _ _ => rfl⟩, fun b hb => .inl hb⟩
    rcases hown.2 with ⟨rfl, rfl⟩ | ⟨g, cap, cur, rfl, _, _, hnc, _⟩
    · simp [Builtin.append_, run_underlying ht, sizeOf, typeInfo, hi, Builtin.lenOf, Builtin.firstCells]
    · simp [Builtin.append_, run_underlying ht, sizeOf, typeInfo, hi, Builtin.lenOf, Builtin.firstCells, hnc, storeCells]
theorem wp_append_pool {P : Program} {w w' : World} {o : Oper} {a : Act} {K : Act → World → Prop} {Q : Exit → Act → World → Prop} (s x : Operand) (t : TypeId) (ho : o.op = .call { callee := .builtin .append, args := #[s, x], argTypes := #[t, t] }) {v u r : Value} (hs : a.eval s = v) (hx : a.eval x = u) (hr : (Builtin.append_ #[t, t] o.type #[v, u]).run P w = .ok r w') (h : K (a.put o.dst r) w') : o.wp P a w K Q := by
  unfold Oper.wp execOp
  simp only [ho, resolve, invoke, builtin, Sem.run_bind, Sem.run_pure, Result.andThen_ok, List.map_toArray, List.map_cons, List.map_nil, hs, hx, hr]
  exact h
theorem out_grownBy {w w' : World} {row : Option Nat} (h : w.grownBy w' row) : Out (fun b => row = some b) w w' :=
  ⟨h.os, h.tape, h.output, h.size, fun k hk hX => h.block k hk (fun e => hX e.symm)⟩
end Go.Proofs.Ytobdkgmlkchggaa.PhaseG
