/- append to a row that may be shorter than its block. -/
import Derived.Test.YtephciglcikllaaNetMem
import Derived.Maps.AppendAt
namespace Go.Proofs.Ytephciglcikllaa.Net
open Go.RowKit Disk Zab

section
variable {P : Program}
theorem run_row_append {w : World} {t ty e : TypeId} {i : TypeInfo} {z : Value} {bytes : Nat} (ht : P.underlying t = some (.slice e)) (hi : P.info? e = some i) (hz : i.zero = some z) (hsize : i.size = 1) (hby : i.bytes = bytes) (hbs : bytes ≤ 1000000) (hzs : z.cells.size = 1)
    {A : Option Addr} {n c : Nat} {ps : List Value} (h : RowE w e A n c ps) {a : Addr} {m : Nat} {vs : List Value} (hs : RdV w (some a) m vs) (h1 : ∀ u ∈ vs, u.oneCell' = true) (k : Nat) (hm : n + m ≤ 1000000) :
    ∃ A' c' w', (Builtin.append_ #[t, t] ty #[.slice A n c, .slice (some a) m k]).run P w = .ok (.slice A' (n + m) c') w' ∧ RowE w' e A' (n + m) c' (ps ++ vs) ∧ Out (fun b => ∃ a, A = some a ∧ a.block = b) w w' ∧ ∀ a', A' = some a' → A = some a' ∨ w.heap.size ≤ a'.block := by
  have hlv := hs.len
  have hlp := h.len
  have hnews : ∀ j u, vs[j]? = some u → w.cell? (a.add j) = some u := fun j u hj => by
    obtain ⟨a', e1, hc⟩ := hs.cells (by have := (List.getElem?_eq_some_iff.1 hj).1; omega)
    injection e1 with e1
    subst e1
    exact hc j u hj
  have hsmall : n + m ≤ 9223372036854775807 := by omega
  have hbytes : (n + m) * bytes ≤ 140737488355328 := Nat.le_trans (Nat.mul_le_mul hm hbs) (by decide)
  have grown : ∀ old : Nat, old < n + m → ∃ W, W = w.drew.alloc (.cells (ps.toArray ++ vs.toArray ++ Builtin.zeroCells z.cells (grownCap w (n + m) old e - (n + m))) e) ∧ RowE W e (some ⟨w.heap.size, 0, none⟩) (n + m) (grownCap w (n + m) old e) (ps ++ vs) ∧ Out (fun b => ∃ a, A = some a ∧ a.block = b) w W := by
    intro old ho
    have hge := grownCap_ge w (n + m) old e
    refine ⟨_, rfl, ⟨by rw [List.length_append]; omega, .inr ⟨w.heap.size, _, rfl, heap_alloc_new w.drew _, hge, ?_, ?_⟩⟩, ⟨rfl, rfl, rfl, by simp, fun b hb _ => heap_alloc_old w.drew _ hb⟩⟩
    · simp only [Array.size_append, List.size_toArray, size_zeroCells, hzs]
      omega
    · simp only [Array.toList_append, List.append_assoc]
      rw [← List.append_assoc, show n + m = (ps ++ vs).length from by rw [List.length_append]; omega]
      exact List.take_left
  rcases h.form with ⟨rfl, rfl, rfl⟩ | ⟨g, cur, rfl, hg, hnc, hcs, htake⟩
  · have hx : ps = [] := List.eq_nil_of_length_eq_zero hlp
    subst hx
    by_cases hm0 : m = 0
    · subst hm0
      have hn : vs = [] := List.eq_nil_of_length_eq_zero hlv
      subst hn
      refine ⟨none, 0, w, ?_, RowE.nil_ w e, Out.refl _ _, fun a' ha' => by cases ha'⟩
      simp [Builtin.append_, run_underlying ht, sizeOf, typeInfo, hi, Builtin.lenOf, Builtin.firstCells, loadCells, loadCellsFrom]
    · have hr := run_append_nil (P := P) w t ty e i z ht hi hz a m k vs (by rw [hsize]; omega) hnews (by omega) (by omega) (by rw [hby]; rw [Nat.zero_add] at hbytes; omega)
      obtain ⟨W, hW, h2, h3⟩ := grown 0 (by omega)
      simp only [Nat.zero_add, List.nil_append, Array.empty_append] at hW h2 ⊢
      subst hW
      exact ⟨_, _, _, hr, h2, h3, fun a' ha' => by injection ha' with ha'; subst ha'; exact .inr (Nat.le_refl _)⟩
  · by_cases hroom : n + m ≤ c
    · have hfit : n * i.size + vs.length ≤ cur.size := by rw [hsize]; omega
      have hr := run_append_room (P := P) w t ty e i ht hi g n c cur hg a m k vs (by rw [hsize]; omega) hnews h1 hroom hfit
      rw [hsize, Nat.mul_one] at hr
      refine ⟨_, _, _, hr, ⟨by rw [List.length_append]; omega, .inr ⟨g, _, rfl, setRow_heap w g cur _ e _ hg, hroom, ?_, ?_⟩⟩, ⟨rfl, rfl, rfl, by simp, fun k _ hk => setRow_other w g k _ (fun e => hk ⟨_, rfl, e.symm⟩)⟩, fun a' ha' => .inl ha'⟩
      · simp only [List.size_toArray, List.length_append, List.length_take, List.length_drop, Array.length_toList]
        omega
      · rw [htake, show n + m = (ps ++ vs).length from by rw [List.length_append]; omega]
        exact List.take_left
    · have holds : ∀ j u, ps[j]? = some u → w.cell? ((⟨g, 0, none⟩ : Addr).add j) = some u := fun j u hj => by
        obtain ⟨g', e1, hc⟩ := h.cell hj
        injection e1 with e1
        injection e1 with e1
        subst e1
        rw [plus_add]
        exact hc
      have hr := run_append_grow (P := P) w t ty e i z ht hi hz ⟨g, 0, none⟩ n c ps (by rw [hsize]; omega) holds a m k vs (by rw [hsize]; omega) hnews (by omega) (by omega) (by rw [hby]; exact growslice_fits (by omega) hbytes)
      obtain ⟨W, hW, h2, h3⟩ := grown c (by omega)
      subst hW
      exact ⟨_, _, _, hr, h2, h3, fun a' ha' => by injection ha' with ha'; subst ha'; exact .inr (Nat.le_refl _)⟩
end
end Go.Proofs.Ytephciglcikllaa.Net
