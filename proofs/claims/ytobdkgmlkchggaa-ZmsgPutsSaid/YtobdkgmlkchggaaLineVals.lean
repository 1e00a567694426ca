/- Lines as values: rows of lines, lines behind lines of one's own. -/
import Derived.Test.YtobdkgmlkchggaaLines
import Derived.Deep.AppendSrc
import Derived.Deep.AppendLies
namespace Go.Proofs.Ytobdkgmlkchggaa.Sto
open Go.RowKit Disk Log

/-- Slices that read as these bytes, in blocks of P. -/
structure LnV (P : Nat → Prop) (w : World) (vs : List Value) (ls : List Ln) : Prop where
  len : vs.length = ls.length
  at_ : ∀ (j : Nat) (x : Ln), ls[j]? = some x → ∃ B m c, vs[j]? = some (.slice B m c) ∧ m ≤ c ∧ Rd w B m x.bytes ∧ ∀ b, B = some b → 1 ≤ m → P b.block
theorem LnV.one {P : Nat → Prop} {w : World} {vs : List Value} {ls : List Ln} (h : LnV P w vs ls) : ∀ u ∈ lnsC ls vs, u.oneCell' = true := by
  suffices hh : ∀ (ls : List Ln) (vs : List Value), (∀ v ∈ vs, v.oneCell' = true) → ∀ u ∈ lnsC ls vs, u.oneCell' = true by
    refine hh ls vs fun v hv => ?_
    obtain ⟨j, hj, rfl⟩ := List.mem_iff_getElem.1 hv
    obtain ⟨B, m, c, h1, _⟩ := h.at_ j (ls[j]'(by rw [← h.len]; exact hj)) (List.getElem?_eq_getElem _)
    rw [List.getElem?_eq_getElem hj] at h1
    injection h1 with h1
    rw [h1]; rfl
  intro ls
  induction ls with
  | nil => intro vs _ u hu; cases hu
  | cons x ls ih =>
    intro vs hv u hu
    cases vs with
    | nil => cases hu
    | cons v vs =>
      rw [lnsC] at hu
      rcases List.mem_append.1 hu with q | q
      · exact lnC_one x (hv v List.mem_cons_self) u q
      · exact ih vs (fun v hv2 => hv v (List.mem_cons_of_mem _ hv2)) u q
theorem LnV.out {P X : Nat → Prop} {w w' : World} {vs : List Value} {ls : List Ln} (h : LnV P w vs ls) (ho : Out X w w') (hx : ∀ k, P k → ¬ X k) : LnV P w' vs ls :=
  ⟨h.len, fun j x hj => by
    obtain ⟨B, m, c, h1, h2, h3, h4⟩ := h.at_ j x hj
    exact ⟨B, m, c, h1, h2, rdb_out1 h3 ho (fun a ha h0 => hx _ (h4 a ha h0)), h4⟩⟩
theorem LnV.below {P : Nat → Prop} {w w' : World} {vs : List Value} {ls : List Ln} (h : LnV P w vs ls) (hb : Below w.heap.size w w') : LnV P w' vs ls :=
  h.out (X := fun _ => False) (Out.of_below hb) fun _ _ q => q
theorem LnV.append {P Q : Nat → Prop} {w : World} {vs us : List Value} {ls ms : List Ln} (h : LnV P w vs ls) (k : LnV Q w us ms) : LnV (fun b => P b ∨ Q b) w (vs ++ us) (ls ++ ms) :=
  ⟨by rw [List.length_append, List.length_append, h.len, k.len], fun j x hj => by
    rcases Nat.lt_or_ge j ls.length with hl | hl
    · rw [List.getElem?_append_left hl] at hj
      obtain ⟨B, m, c, h1, h2, h3, h4⟩ := h.at_ j x hj
      exact ⟨B, m, c, by rw [List.getElem?_append_left (by rw [h.len]; exact hl)]; exact h1, h2, h3, fun b hb h0 => .inl (h4 b hb h0)⟩
    · rw [List.getElem?_append_right hl] at hj
      obtain ⟨B, m, c, h1, h2, h3, h4⟩ := k.at_ _ x hj
      exact ⟨B, m, c, by rw [List.getElem?_append_right (by rw [h.len]; exact hl), h.len]; exact h1, h2, h3, fun b hb h0 => .inr (h4 b hb h0)⟩⟩
/-- The values of lines that are read. -/
theorem LnS.vals {P : Nat → Prop} {w : World} {A : Option Addr} {n : Nat} {ls : List Ln} (h : LnS P w A n ls) : ∃ vs, LnV P w vs ls ∧ ∀ ad, A = some ad → ∀ j u, (lnsC ls vs)[j]? = some u → w.cell? (ad.add j) = some u := by
  have hch : ∀ j : Nat, ∃ v : Value, ∀ x, ls[j]? = some x → ∃ b o B m c, v = .slice B m c ∧ A = some ⟨b, o, none⟩ ∧ w.cell? ⟨b, o + j * 2, none⟩ = some (.int .u64 (x.epoch : Int)) ∧ w.cell? ⟨b, o + j * 2 + 1, none⟩ = some (.slice B m c) ∧ m ≤ c ∧ Rd w B m x.bytes ∧ ∀ b, B = some b → 1 ≤ m → P b.block := by
    intro j
    cases hj : ls[j]? with
    | none => exact ⟨.slice none 0 0, fun x hx => by cases hx⟩
    | some x =>
      obtain ⟨b, o, B, m, c, h1, _, h3, h4, h5, h6, h7⟩ := h.at_ j x hj
      exact ⟨.slice B m c, fun y hy => by injection hy with hy; subst hy; exact ⟨b, o, B, m, c, rfl, h1, h3, h4, h5, h6, h7⟩⟩
  obtain ⟨f, hf⟩ : ∃ f : Nat → Value, ∀ j x, ls[j]? = some x → ∃ b o B m c, f j = .slice B m c ∧ A = some ⟨b, o, none⟩ ∧ w.cell? ⟨b, o + j * 2, none⟩ = some (.int .u64 (x.epoch : Int)) ∧ w.cell? ⟨b, o + j * 2 + 1, none⟩ = some (.slice B m c) ∧ m ≤ c ∧ Rd w B m x.bytes ∧ ∀ b, B = some b → 1 ≤ m → P b.block :=
    ⟨fun j => Classical.choose (hch j), fun j => Classical.choose_spec (hch j)⟩
  have hget : ∀ j, j < ls.length → ((List.range ls.length).map f)[j]? = some (f j) := fun j hj => by
    rw [List.getElem?_map, List.getElem?_range hj]; rfl
  refine ⟨(List.range ls.length).map f, ⟨by simp, fun j x hj => ?_⟩, fun ad hA i u hu => ?_⟩
  · obtain ⟨b, o, B, m, c, h1, _, _, _, h5, h6, h7⟩ := hf j x hj
    exact ⟨B, m, c, by rw [hget j (List.getElem?_eq_some_iff.1 hj).1, h1], h5, h6, h7⟩
  · have hil : i < 2 * ls.length := by
      have := (List.getElem?_eq_some_iff.1 hu).1
      rwa [lnsC_length _ _ (by simp)] at this
    have hjl : i / 2 < ls.length := by omega
    obtain ⟨b, o, B, m, c, h1, h2, h3, h4, _⟩ := hf (i / 2) _ (List.getElem?_eq_getElem hjl)
    have hg := lnsC_get ls ((List.range ls.length).map f) (i / 2) (i % 2) _ _ (List.getElem?_eq_getElem hjl) (hget _ hjl) (by omega)
    rw [show 2 * (i / 2) + i % 2 = i from by omega, hu] at hg
    rw [hA] at h2
    injection h2 with h2
    subst h2
    have hadd : ((⟨b, o, none⟩ : Addr).add i) = ⟨b, o + i, none⟩ := by unfold Addr.add; split <;> simp_all
    rw [hadd]
    rcases Nat.mod_two_eq_zero_or_one i with h0 | h0
    · rw [h0] at hg
      injection hg with hg
      rw [hg, show o + i = o + i / 2 * 2 from by omega]
      exact h3
    · rw [h0] at hg
      injection hg with hg
      rw [hg, show o + i = o + i / 2 * 2 + 1 from by omega, h1]
      exact h4
/-- A row of one's own whose cells are lines. -/
theorem lns_of_row {P : Nat → Prop} {w : World} {base : Nat} {A : Option Addr} {c : Nat} {ls : List Ln} {vs : List Value} (h : w.ownsRow base 37 2 (.slice A ls.length c) ls.length (lnsC ls vs)) (hv : LnV P w vs ls) : LnS (fun b => P b ∨ base ≤ b) w A ls.length ls := by
  refine ⟨rfl, fun j x hj => ?_⟩
  obtain ⟨B, m, c2, h1, h2, h3, h4⟩ := hv.at_ j x hj
  have g0 := lnsC_get ls vs j 0 x _ hj h1 (by omega)
  have g1 := lnsC_get ls vs j 1 x _ hj h1 (by omega)
  have hjl := (List.getElem?_eq_some_iff.1 hj).1
  rcases h.2 with ⟨_, h0⟩ | ⟨g, cap, cur, e, hg, hh, _⟩
  · omega
  · injection e with e
    subst e
    refine ⟨g, 0, B, m, c2, rfl, .inr hg, ?_, ?_, h2, h3, fun b hb h0 => .inl (h4 b hb h0)⟩
    · have := h.cells (g := g) rfl _ _ g0
      rw [add_plain] at this
      rw [show 0 + j * 2 = 2 * j + 0 from by omega]
      exact this
    · have := h.cells (g := g) rfl _ _ g1
      rw [add_plain] at this
      rw [show 0 + j * 2 + 1 = 2 * j + 1 from by omega]
      exact this
theorem line_form : Try.prog.underlying 23 = some (.slice 37) := by kernel_rfl
theorem wp_append_of {P : Program} {w w' : World} {o : Oper} {a : Act} {K : Act → World → Prop} {Q : Exit → Act → World → Prop} (s x : Operand) (t : TypeId) (ho : o.op = .call { callee := .builtin .append, args := #[s, x], argTypes := #[t, t] }) {v u r : Value} (hs : a.eval s = v) (hx : a.eval x = u) (hr : (Builtin.append_ #[t, t] o.type #[v, u]).run P w = .ok r w') (h : K (a.put o.dst r) w') : o.wp P a w K Q := by
  unfold Oper.wp execOp
  simp only [ho, resolve, invoke, builtin, Sem.run_bind, Sem.run_pure, Result.andThen_ok, List.map_toArray, List.map_cons, List.map_nil, hs, hx, hr]
  exact h
set_option maxRecDepth 8000 in
/-- Lines behind lines of one's own. -/
theorem run_append_lines {base : Nat} {W : World} {g n cap : Nat} {xs : List Value} (hown : W.ownsRow base 37 2 (.slice (some ⟨g, 0, none⟩) n cap) n xs) {B : Option Addr} {m : Nat} (c : Nat) {ms : List Ln} {us : List Value} (hB : ∀ ad, B = some ad → ∀ j u, (lnsC ms us)[j]? = some u → W.cell? (ad.add j) = some u) (hBn : B = none → m = 0) (hms : ms.length = m) (hus : us.length = ms.length) (h1 : ∀ u ∈ lnsC ms us, u.oneCell' = true) (hm : n + m ≤ 1000000) (hbase : base ≤ W.heap.size) :
    ∃ g' cap' W', (Builtin.append_ #[23, 23] 23 #[.slice (some ⟨g, 0, none⟩) n cap, .slice B m c]).run Try.prog W = .ok (.slice (some ⟨g', 0, none⟩) (n + m) cap') W' ∧ W'.ownsRow base 37 2 (.slice (some ⟨g', 0, none⟩) (n + m) cap') (n + m) (xs ++ lnsC ms us) ∧ W.grownBy W' (some g) ∧ (g' = g ∨ W.heap.size ≤ g') ∧ g' < W'.heap.size := by
  obtain ⟨i0, hi, hz0, hz1, hz2⟩ := info_parts info_line
  have hlen := lnsC_length ms us hus.symm
  rcases Nat.eq_zero_or_pos m with h0 | h0
  · subst h0
    obtain rfl : ms = [] := List.eq_nil_of_length_eq_zero hms
    have hs : Src Try.prog i0.size 23 (.slice B 0 c) 0 [] W := by
      cases B with
      | none => exact Src.ofNil _ line_form c
      | some a => exact Src.ofSlice _ line_form a 0 c [] (by simp) (fun j u hu => by simp at hu) (fun u hu => by cases hu)
    have hx : lnsC [] us = [] := by cases us <;> rfl
    obtain ⟨hnc, hg⟩ : n ≤ cap ∧ g < W.heap.size := by
      rcases hown.2 with ⟨h', _⟩ | ⟨g', cap', cur, e, _, hh, hc, _⟩
      · simp at h'
      · injection e with e1 e2 e3
        injection e1 with e1
        injection e1 with e1
        subst e1 e3
        exact ⟨hc, (Array.getElem?_eq_some_iff.1 hh).1⟩
    exact ⟨g, cap, W, run_append_room_src W _ _ 23 _ i0 line_form hi g 0 n cap _ 0 [] hs (by omega) (fun j hj => by simp at hj) (fun j hj => by simp at hj), by rw [hx, List.append_nil]; exact hown, grown_refl _ _, .inl rfl, hg⟩
  · cases B with
    | none => exact absurd (hBn rfl) (by omega)
    | some ad =>
      obtain ⟨g', cap', W', hrun, h2, h3, h4, h5⟩ := run_append_lies (P := Try.prog) W 23 23 base 37 i0 _ 2 32 line_form hi hz0 hz1 hz2 rfl (by decide) _ n xs hown ad m c (lnsC ms us) (by rw [hlen, hms]; omega) (hB ad rfl) h1 h0 (by unfold maxLen; omega) (by omega) hbase _ rfl
      exact ⟨g', cap', W', hrun, h2, h3, h4.elim (fun q => .inl (by injection q with q; exact q.symm)) (fun q => .inr (by omega)), h5⟩
end Go.Proofs.Ytobdkgmlkchggaa.Sto
