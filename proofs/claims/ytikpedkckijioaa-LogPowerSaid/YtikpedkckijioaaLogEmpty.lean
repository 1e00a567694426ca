/- Append to an empty literal: it allots at most. -/
import Derived.Test.YtikpedkckijioaaPhaseLast
import Derived.Test.YtikpedkckijioaaPathTexts
import Derived.Deep.RegionLawGrows
namespace Go.Proofs.Ytikpedkckijioaa.PhaseG
open Go.RowKit

theorem setRow_same {w : World} {g : Nat} {cur : Array Value} {t : TypeId} {fz : Nat × Nat} (h : w.heap[g]? = some (.cells cur t fz)) : w.setRow g cur = w := by
  have hh : (w.setRow g cur).heap = w.heap := by
    refine Array.ext_getElem? fun i => ?_
    by_cases hi : i = g
    · subst hi
      rw [setRow_heap w i cur cur t fz h, h]
    · exact setRow_other w g i cur hi
  calc w.setRow g cur = { w with heap := (w.setRow g cur).heap } := rfl
    _ = w := by rw [hh]
section
variable {P : Program}
theorem run_append_none (t ty e : TypeId) (i : TypeInfo) (ht : P.underlying t = some (.slice e)) (hi : P.info? e = some i) (b c : Nat) (w : World) :
    (Builtin.append_ #[t, t] ty #[.slice (some ⟨b, 0, none⟩) 0 0, .slice none 0 c]).run P w = .ok (.slice (some ⟨b, 0, none⟩) 0 0) w := by
  simp [Builtin.append_, run_underlying ht, sizeOf, typeInfo, hi, Builtin.lenOf, Builtin.firstCells, loadCells, loadCellsFrom, storeCells]
/-- 'append([]T{}, s...)'. -/
theorem run_append_empty {t ty e : TypeId} {i : TypeInfo} {z : Value} {bytes : Nat} (ht : P.underlying t = some (.slice e)) (hi : P.info? e = some i) (hz : i.zero = some z) (hsz : i.size = 1) (hb : i.bytes = bytes) (hzs : z.cells.size = 1) {w : World} {b : Nat} (hg : w.heap[b]? = some (.cells #[] e (0, 0))) {A : Option Addr} {m c base : Nat} {vs : List Value} (h : RdV w A m vs) (h1 : ∀ u ∈ vs, u.oneCell' = true) (h63 : m ≤ maxLen) (hm : m * bytes ≤ 140737488355328) (hbb : base ≤ b) (hbs : base ≤ w.heap.size) :
    ∃ v' w', (Builtin.append_ #[t, t] ty #[.slice (some ⟨b, 0, none⟩) 0 0, .slice A m c]).run P w = .ok v' w' ∧ w'.ownsRow base e 1 v' m vs ∧ Below w.heap.size w w' := by
  have hlen := h.len
  rcases Nat.eq_zero_or_pos m with rfl | hpos
  · have hv : vs = [] := List.eq_nil_of_length_eq_zero hlen
    subst hv
    have hown : w.ownsRow base e 1 (.slice (some ⟨b, 0, none⟩) 0 0) 0 [] := ⟨rfl, .inr ⟨b, 0, #[], rfl, hbb, hg, Nat.le_refl _, Nat.zero_le _, rfl, rfl⟩⟩
    cases A with
    | none => exact ⟨_, _, run_append_none t ty e i ht hi b c w, hown, Below.refl _ _⟩
    | some a =>
      have hr := run_append_room (P := P) (w := w) t ty e i ht hi b 0 0 #[] hg a 0 c [] (by simp) (fun j u hu => by cases hu) (fun u hu => by cases hu) (Nat.le_refl _) (by simp)
      simp only [Nat.zero_mul, Nat.add_zero, List.length_nil, List.take_nil, List.drop_nil, List.append_nil] at hr
      rw [setRow_same (t := e) (fz := (0, 0)) hg] at hr
      exact ⟨_, _, hr, hown, Below.refl _ _⟩
  · obtain ⟨a, rfl, hc⟩ := h.cells hpos
    obtain ⟨v', w', hr, ho, hgr⟩ := run_append_arg_grows (P := P) w t ty e i z 1 bytes ht hi hz hsz hb hzs (by omega) ⟨b, 0, none⟩ 0 0 [] rfl (fun j u hu => by cases hu) a m c vs (by omega) hc (by omega) (by omega) (by rw [Nat.zero_add]; exact hm)
    rw [Nat.zero_add, List.nil_append] at ho
    refine ⟨v', w', hr, ?_, ⟨hgr.os, hgr.tape, hgr.output, hgr.size, fun k hk => hgr.block k hk (by simp)⟩⟩
    rcases ho.2 with ⟨e1, e2⟩ | ⟨g, cap, cur, q1, q2, q3⟩
    · exact ⟨ho.1, .inl ⟨e1, e2⟩⟩
    · exact ⟨ho.1, .inr ⟨g, cap, cur, q1, Nat.le_trans hbs q2, q3⟩⟩
end
end Go.Proofs.Ytikpedkckijioaa.PhaseG
