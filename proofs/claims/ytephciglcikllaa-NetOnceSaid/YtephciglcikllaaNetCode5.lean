/- net: a letter behind all; a letter that is cut out. -/
import Derived.Test.YtephciglcikllaaNetCode4
import Derived.Test.YtephciglcikllaaRowE
import Derived.Test.YtephciglcikllaaStoStill
namespace Go.Proofs.Ytephciglcikllaa.Net
open Go.RowKit Disk Zab Sto

theorem wp_append_of {P : Program} {w w' : World} {o : Oper} {a : Act} {K : Act → World → Prop} {Q : Exit → Act → World → Prop} (s x : Operand) (t : TypeId) (ho : o.op = .call { callee := .builtin .append, args := #[s, x], argTypes := #[t, t] }) {v u r : Value} (hs : a.eval s = v) (hx : a.eval x = u) (hr : (Builtin.append_ #[t, t] o.type #[v, u]).run P w = .ok r w') (h : K (a.put o.dst r) w') : o.wp P a w K Q := by
  unfold Oper.wp execOp
  simp only [ho, resolve, invoke, builtin, Sem.run_bind, Sem.run_pure, Result.andThen_ok, List.map_toArray, List.map_cons, List.map_nil, hs, hx, hr]
  exact h
theorem wpList_append_of {P : Program} {w w' : World} {ops : Array Oper} {rest : List Oper} {o : Oper} {a : Act} {Q : Exit → Act → World → Prop} (hg : o.guard = none) (s x : Operand) (t : TypeId) (ho : o.op = .call { callee := .builtin .append, args := #[s, x], argTypes := #[t, t] }) {v u r : Value} (hs : a.eval s = v) (hx : a.eval x = u) (hr : (Builtin.append_ #[t, t] o.type #[v, u]).run P w = .ok r w') (h : wpList P ops Q rest (a.put o.dst r) w') : wpList P ops Q (o :: rest) a w :=
  wpList_plain hg fun _ hK => wp_append_of s x t ho hs hx hr (hK _ _ h)
theorem info_ptr : (Try.prog.info? 73).map (fun i => (i.zero, i.size, i.bytes)) = some (some (.pointer none), 1, 8) := by kernel_rfl
theorem ty_row : Try.prog.underlying 67 = some (.slice 73) := by kernel_rfl
section
variable {w0 w : World} {O F : Nat → Prop} {gz : Nat} {As : Option Addr} {cs : Nat} {Ar : Option Addr} {cr gm : Nat} {D : DataW Value} {ps : List Nat} {z : Nt} {N : Nat}
/-- What is owned behind a call that made memory. -/
def Oo (O : Nat → Prop) (w w' : World) (b : Nat) : Prop := O b ∨ (w.heap.size ≤ b ∧ b < w'.heap.size)
theorem NtM.rerow (h : NtM w O F gz As cs Ar cr gm D ps z N) (hlow : ∀ b, O b → b < w.heap.size) {w' : World} (ho : Out (fun b => b = gz ∨ ∃ a, Ar = some a ∧ a.block = b) w w') {A' : Option Addr} {c' : Nat} {ps' : List Nat} {r' : List Lt} (hb : Bk w' gz 69 #[.slice As z.sizes.length cs, .slice A' r'.length c', .map (some gm)]) (hr : RowE w' 73 A' r'.length c' (ps'.map P1)) (hA : ∀ a, A' = some a → Ar = some a ∨ w.heap.size ≤ a.block) (hsub : ∀ (i : Nat) p l, ps'[i]? = some p → r'[i]? = some l → F p ∧ LtAt w F p l) : NtM w' (Oo O w w') F gz As cs A' c' gm D ps' { z with row := r' } N := by
  obtain ⟨h1, h2, h3, h4, h5, h6, h7, h8, h9⟩ := h
  have hgm : gm ≠ gz ∧ ∀ a, Ar = some a → a.block ≠ gm := ⟨h8.2.2, fun a ha => (h6 a ha).2.2⟩
  have hFn : ∀ b, F b → ¬ (b = gz ∨ ∃ a, Ar = some a ∧ a.block = b) := fun b hb q => by
    obtain ⟨_, q1, _, q3⟩ := h2 b hb
    rcases q with q | ⟨a, ha, q⟩
    · exact q1 q
    · exact q3 a ha q.symm
  refine ⟨hb, fun b hb => ?_, rdv_out h3 ho fun a ha h0 => hFn _ (h4 a ha h0), h4, hr, fun a ha => ?_, fun i p l hp hl => ?_, ⟨.inl h8.1, .inl h8.2.1, h8.2.2⟩, h9.out ho ?_⟩
  · obtain ⟨q0, q1, q2, q3⟩ := h2 b hb
    refine ⟨.inl q0, q1, q2, fun a ha e => ?_⟩
    rcases hA a ha with q | q
    · exact q3 a q e
    · have := hlow b q0; omega
  · rcases hA a ha with q | q
    · obtain ⟨q1, q2, q3⟩ := h6 a q
      exact ⟨.inl q1, q2, q3⟩
    · have e1 := hlow gz h8.1
      have e2 := hlow gm h8.2.1
      exact ⟨.inr ⟨q, hr.lt a ha⟩, by omega, by omega⟩
  · obtain ⟨q1, q2⟩ := hsub i p l hp hl
    exact ⟨q1, q2.out ho (hFn _ q1) hFn⟩
  · rintro (q | ⟨a, ha, q⟩)
    · exact hgm.1 q
    · exact hgm.2 a ha q
theorem get_snoc {α : Type} {l : List α} {x y : α} {i : Nat} (h : (l ++ [x])[i]? = some y) : (i < l.length ∧ l[i]? = some y) ∨ (i = l.length ∧ x = y) := by
  rcases Nat.lt_or_ge i l.length with hl | hl
  · rw [List.getElem?_append_left hl] at h; exact .inl ⟨hl, h⟩
  · have : i < (l ++ [x]).length := (List.getElem?_eq_some_iff.1 h).1
    rw [List.length_append, List.length_singleton] at this
    have e : i = l.length := by omega
    subst e
    rw [List.getElem?_append_right (Nat.le_refl _), Nat.sub_self] at h
    exact .inr ⟨rfl, by simpa using h⟩
set_option maxRecDepth 8000 in
set_option maxHeartbeats 1000000 in
theorem add_any (hm : NtM w O F gz As cs Ar cr gm D ps z N) (hlow : ∀ b, O b → w0.heap.size ≤ b ∧ b < w.heap.size) (hs : w0.heap.size ≤ w.heap.size) {p : Nat} {l : Lt} (hF : F p) (hp : LtAt w F p l) (hok : (z.add l).1.Ok) (hf : z.row.length ≤ 4096) : Calls Try.prog 38 #[.pointer (some ⟨gz, 0, none⟩), P1 p] w (DidN w0 O gz (.int .i64 (z.add l).2) (z.add l).1 N w) := by
  obtain ⟨-, c1, -, cf⟩ := hm.cells
  have cf1 := cf 1
  clear cf
  by_cases hfull : 4096 ≤ z.row.length
  · have e : z.add l = (z, 4) := by unfold Nt.add; rw [if_pos hfull]
    rw [e] at hok ⊢
    have HF : Hid (DidN w0 O gz (.int .i64 4) z N w (.returned (.int .i64 4)) w) := ⟨O, rfl, ⟨hok, hm.go.1, hlow, F, As, cs, Ar, cr, gm, D, ps, hm⟩, Go_.of_below (Below.refl _ _)⟩
    have hi : (4096 : Int) ≤ (z.row.length : Int) := by omega
    clear hm hp hok e hlow
    generalize z.row.length = n at *
    go_enter Try.func38, Try.ntmps38
    go_wp2_with fail
    go_ret
    exact HF.out
  · have e : z.add l = ({ z with row := z.row ++ [l] }, 0) := by unfold Nt.add; rw [if_neg hfull]
    rw [e] at hok ⊢
    have hB1 : Below w.heap.size w (w.alloc (.cells #[P1 p] 73)) := (Below.refl _ _).alloc (Nat.le_refl _) _
    have hm1 := hm.below hB1
    obtain ⟨i0, hi, hz0, hz1, hz2⟩ := infos info_ptr
    have hrd : RdV (w.alloc (.cells #[P1 p] 73)) (some ⟨w.heap.size, 0, none⟩) 1 [P1 p] := ⟨rfl, fun _ => ⟨_, rfl, fun j v hj => by
      have hj0 : j = 0 := by have := (List.getElem?_eq_some_iff.1 hj).1; simpa using this
      subst hj0
      simp at hj
      subst hj
      rw [plus_add]
      exact (Bk.new w 73 #[P1 p]).cell 0⟩⟩
    obtain ⟨A', c', W2, hrun, hrow, hout, hA⟩ := run_row_append (P := Try.prog) (ty := 67) ty_row hi hz0 hz1 hz2 (by decide) rfl hm1.row hrd (fun u hu => by rw [List.mem_singleton.1 hu]; rfl) 1 (by omega)
    have hgr : ∀ a, Ar = some a → a.block ≠ gz := fun a ha => (hm.ro a ha).2.1
    have hbk2 : Bk W2 gz 69 #[.slice As z.sizes.length cs, .slice Ar z.row.length cr, .map (some gm)] := hm1.bk.kept (hout.block gz hm1.bk.lt fun ⟨a, ha, q⟩ => hgr a ha q)
    have k1 : W2.cell? ⟨gz, 1, none⟩ = some (.slice Ar z.row.length cr) := hbk2.cell 1
    have kf := hbk2.frozen 1
    have hO2 : Out (fun b => b = gz ∨ ∃ a, Ar = some a ∧ a.block = b) w (W2.setCell ⟨gz, 1, none⟩ (.slice A' (z.row.length + 1) c')) :=
      (((Out.of_below hB1).trans (hout.mono (Y := fun b => b = gz ∨ ∃ a, Ar = some a ∧ a.block = b) fun b q => .inl (.inr q)) fun b q => .inl q)).trans (Out.setCell W2 (p := ⟨gz, 1, none⟩) (.inl rfl) _) fun b q => .inl q
    have hsz : W2.heap.size = (W2.setCell ⟨gz, 1, none⟩ (.slice A' (z.row.length + 1) c')).heap.size := by simp [World.setCell]
    have hb3 : Bk (W2.setCell ⟨gz, 1, none⟩ (.slice A' (z.row.length + 1) c')) gz 69 #[.slice As z.sizes.length cs, .slice A' (z.row ++ [l]).length c', .map (some gm)] := by
      have := hbk2.set 1 (.slice A' (z.row.length + 1) c')
      rw [List.length_append]
      simpa using this
    have hr3 : RowE (W2.setCell ⟨gz, 1, none⟩ (.slice A' (z.row.length + 1) c')) 73 A' (z.row ++ [l]).length c' ((ps ++ [p]).map P1) := by
      rw [List.length_append, List.map_append]
      refine hrow.kept fun a ha => Below.heap_setCell _ _ _ _ ?_
      rcases hA a ha with q | q
      · exact hgr a q
      · have := hlow gz hm.go.1
        have : (w.alloc (.cells #[P1 p] 73)).heap.size = w.heap.size + 1 := by simp
        show a.block ≠ gz
        omega
    have hlen : ps.length = z.row.length := by have := hm.row.len; simpa using this
    have hm3 := hm.rerow (fun b hb => (hlow b hb).2) hO2 hb3 hr3 (fun a ha => (hA a ha).imp id fun q => by simp at q; omega) fun i q y h1 h2 => by
      rcases get_snoc h1 with ⟨g1, g2⟩ | ⟨g1, g2⟩
      · rcases get_snoc h2 with ⟨g3, g4⟩ | ⟨g3, g4⟩
        · exact hm.each i q y g2 g4
        · omega
      · rcases get_snoc h2 with ⟨g3, g4⟩ | ⟨g3, g4⟩
        · omega
        · subst g2 g4; exact ⟨hF, hp⟩
    have HF : Hid (DidN w0 O gz (.int .i64 0) { z with row := z.row ++ [l] } N w (.returned (.int .i64 0)) (W2.setCell ⟨gz, 1, none⟩ (.slice A' (z.row.length + 1) c'))) :=
      ⟨_, rfl, ⟨hok, hm3.go.1, fun b hb => by
        rcases hb with hb | hb
        · exact ⟨(hlow b hb).1, Nat.lt_of_lt_of_le (hlow b hb).2 hO2.size⟩
        · exact ⟨by omega, hb.2⟩, _, _, _, _, _, _, _, _, hm3⟩, hO2.mono (fun b q => by
        rcases q with rfl | ⟨a, ha, rfl⟩
        · exact .inl hm.go.1
        · exact .inl (hm.ro a ha).1), fun b hb => hb.imp id fun q => q.1⟩
    have hi2 : ¬ (4096 : Int) ≤ (z.row.length : Int) := by omega
    have hrun' := Lib.hid hrun
    clear hm hm1 hp hok e hlow hrd hrow hout hA hgr hbk2 hO2 hb3 hr3 hlen hm3 hi hz0 hz1 hz2 hfull hsz hB1 hrun
    unfold P1 at hrun' ⊢
    generalize z.row.length = n at *
    go_enter Try.func38, Try.ntmps38
    go_wp2_with (at_builtin; refine wpList_append_of rfl (.tmp 15) (.tmp 17) 67 rfl rfl rfl hrun'.out ?_)
    go_wp2_with fail
    go_ret
    exact HF.out
theorem eraseIdx_parts {α : Type} (l : List α) (i : Nat) : l.eraseIdx i = l.take i ++ l.drop (i + 1) := List.eraseIdx_eq_take_drop_succ ..
end
end Go.Proofs.Ytephciglcikllaa.Net
