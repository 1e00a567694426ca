/- Lemmas, part 4: RowE, NetCode5, Phase, PhaseLine, LineStay, NetCode6 -/
import Derived.Test.YtmjipeagbogpmaaBase2
import Derived.Maps.AppendAt
import Derived.Test.YtmjipeagbogpmaaBase3
import Derived.Orders
import Derived.RegionTactic
import Derived.KernelRfl
namespace Go.Proofs.Ytmjipeagbogpmaa.Net
open Go.RowKit Disk Zab

section
variable {P : Program}
theorem run_row_append {w : World} {t ty e : TypeId} {i : TypeInfo} {z : Value} {bytes : Nat} (ht : P.underlying t = some (.slice e)) (hi : P.info? e = some i) (hz : i.zero = some z) (hsize : i.size = 1) (hby : i.bytes = bytes) (hbs : bytes ≤ 1000000) (hzs : z.cells.size = 1)
    {A : Option Addr} {n c : Nat} {ps : List Value} (h : RowE w e A n c ps) {a : Addr} {m : Nat} {vs : List Value} (hs : RdV w (some a) m vs) (h1 : ∀ u ∈ vs, u.oneCell' = true) (k : Nat) (hm : n + m ≤ 1000000) :
    ∃ A' c' w', (Builtin.append_ #[t, t] ty #[.slice A n c, .slice (some a) m k]).run P w = .ok (.slice A' (n + m) c') w' ∧ RowE w' e A' (n + m) c' (ps ++ vs) ∧ Out (fun b => ∃ a, A = some a ∧ a.block = b) w w' ∧ ∀ a', A' = some a' → A = some a' ∨ w.heap.size ≤ a'.block := by
  have hlv := hs.len
  have hlp := h.len
  have hnews : ∀ j u, vs[j]? = some u → w.cell? (a.add j) = some u := fun j u hj => by
    obtain ⟨a', e1, hc⟩ := hs.cells (by have := (List.getElem?_eq_some_iff.1 hj).1; omega)
    injection e1 with e1
    subst e1
    exact hc j u hj
  have hsmall : n + m ≤ 9223372036854775807 := by omega
  have hbytes : (n + m) * bytes ≤ 140737488355328 := Nat.le_trans (Nat.mul_le_mul hm hbs) (by decide)
  have grown : ∀ old : Nat, old < n + m → ∃ W, W = w.drew.alloc (.cells (ps.toArray ++ vs.toArray ++ Builtin.zeroCells z.cells (grownCap w (n + m) old e - (n + m))) e) ∧ RowE W e (some ⟨w.heap.size, 0, none⟩) (n + m) (grownCap w (n + m) old e) (ps ++ vs) ∧ Out (fun b => ∃ a, A = some a ∧ a.block = b) w W := by
    intro old ho
    have hge := grownCap_ge w (n + m) old e
    refine ⟨_, rfl, ⟨by rw [List.length_append]; omega, .inr ⟨w.heap.size, _, rfl, heap_alloc_new w.drew _, hge, ?_, ?_⟩⟩, ⟨rfl, rfl, rfl, by simp, fun b hb _ => heap_alloc_old w.drew _ hb⟩⟩
    · simp only [Array.size_append, List.size_toArray, size_zeroCells, hzs]
      omega
    · simp only [Array.toList_append, List.append_assoc]
      rw [← List.append_assoc, show n + m = (ps ++ vs).length from by rw [List.length_append]; omega]
      exact List.take_left
  rcases h.form with ⟨rfl, rfl, rfl⟩ | ⟨g, cur, rfl, hg, hnc, hcs, htake⟩
  · have hx : ps = [] := List.eq_nil_of_length_eq_zero hlp
    subst hx
    by_cases hm0 : m = 0
    · subst hm0
      have hn : vs = [] := List.eq_nil_of_length_eq_zero hlv
      subst hn
      refine ⟨none, 0, w, ?_, RowE.nil_ w e, Out.refl _ _, fun a' ha' => by cases ha'⟩
      simp [Builtin.append_, run_underlying ht, sizeOf, typeInfo, hi, Builtin.lenOf, Builtin.firstCells, loadCells, loadCellsFrom]
    · have hr := run_append_nil (P := P) w t ty e i z ht hi hz a m k vs (by rw [hsize]; omega) hnews (by omega) (by omega) (by rw [hby]; rw [Nat.zero_add] at hbytes; omega)
      obtain ⟨W, hW, h2, h3⟩ := grown 0 (by omega)
      simp only [Nat.zero_add, List.nil_append, Array.empty_append] at hW h2 ⊢
      subst hW
      exact ⟨_, _, _, hr, h2, h3, fun a' ha' => by injection ha' with ha'; subst ha'; exact .inr (Nat.le_refl _)⟩
  · by_cases hroom : n + m ≤ c
    · have hfit : n * i.size + vs.length ≤ cur.size := by rw [hsize]; omega
      have hr := run_append_room (P := P) w t ty e i ht hi g n c cur hg a m k vs (by rw [hsize]; omega) hnews h1 hroom hfit
      rw [hsize, Nat.mul_one] at hr
      refine ⟨_, _, _, hr, ⟨by rw [List.length_append]; omega, .inr ⟨g, _, rfl, setRow_heap w g cur _ e _ hg, hroom, ?_, ?_⟩⟩, ⟨rfl, rfl, rfl, by simp, fun k _ hk => setRow_other w g k _ (fun e => hk ⟨_, rfl, e.symm⟩)⟩, fun a' ha' => .inl ha'⟩
      · simp only [List.size_toArray, List.length_append, List.length_take, List.length_drop, Array.length_toList]
        omega
      · rw [htake, show n + m = (ps ++ vs).length from by rw [List.length_append]; omega]
        exact List.take_left
    · have holds : ∀ j u, ps[j]? = some u → w.cell? ((⟨g, 0, none⟩ : Addr).add j) = some u := fun j u hj => by
        obtain ⟨g', e1, hc⟩ := h.cell hj
        injection e1 with e1
        injection e1 with e1
        subst e1
        rw [plus_add]
        exact hc
      have hr := run_append_grow (P := P) w t ty e i z ht hi hz ⟨g, 0, none⟩ n c ps (by rw [hsize]; omega) holds a m k vs (by rw [hsize]; omega) hnews (by omega) (by omega) (by rw [hby]; exact growslice_fits (by omega) hbytes)
      obtain ⟨W, hW, h2, h3⟩ := grown c (by omega)
      subst hW
      exact ⟨_, _, _, hr, h2, h3, fun a' ha' => by injection ha' with ha'; subst ha'; exact .inr (Nat.le_refl _)⟩
end
end Go.Proofs.Ytmjipeagbogpmaa.Net

namespace Go.Proofs.Ytmjipeagbogpmaa.Net
open Go.RowKit Disk Zab Sto

theorem wp_append_of {P : Program} {w w' : World} {o : Oper} {a : Act} {K : Act → World → Prop} {Q : Exit → Act → World → Prop} (s x : Operand) (t : TypeId) (ho : o.op = .call { callee := .builtin .append, args := #[s, x], argTypes := #[t, t] }) {v u r : Value} (hs : a.eval s = v) (hx : a.eval x = u) (hr : (Builtin.append_ #[t, t] o.type #[v, u]).run P w = .ok r w') (h : K (a.put o.dst r) w') : o.wp P a w K Q := by
  unfold Oper.wp execOp
  simp only [ho, resolve, invoke, builtin, Sem.run_bind, Sem.run_pure, Result.andThen_ok, List.map_toArray, List.map_cons, List.map_nil, hs, hx, hr]
  exact h
theorem wpList_append_of {P : Program} {w w' : World} {ops : Array Oper} {rest : List Oper} {o : Oper} {a : Act} {Q : Exit → Act → World → Prop} (hg : o.guard = none) (s x : Operand) (t : TypeId) (ho : o.op = .call { callee := .builtin .append, args := #[s, x], argTypes := #[t, t] }) {v u r : Value} (hs : a.eval s = v) (hx : a.eval x = u) (hr : (Builtin.append_ #[t, t] o.type #[v, u]).run P w = .ok r w') (h : wpList P ops Q rest (a.put o.dst r) w') : wpList P ops Q (o :: rest) a w :=
  wpList_plain hg fun _ hK => wp_append_of s x t ho hs hx hr (hK _ _ h)
theorem info_ptr : (Try.prog.info? 68).map (fun i => (i.zero, i.size, i.bytes)) = some (some (.pointer none), 1, 8) := by kernel_rfl
theorem ty_row : Try.prog.underlying 58 = some (.slice 68) := by kernel_rfl
section
variable {w0 w : World} {O F : Nat → Prop} {gz : Nat} {As : Option Addr} {cs : Nat} {Ar : Option Addr} {cr gm : Nat} {D : DataW Value} {ps : List Nat} {z : Nt} {N : Nat}
def Oo (O : Nat → Prop) (w w' : World) (b : Nat) : Prop := O b ∨ (w.heap.size ≤ b ∧ b < w'.heap.size)
theorem NtM.rerow (h : NtM w O F gz As cs Ar cr gm D ps z N) (hlow : ∀ b, O b → b < w.heap.size) {w' : World} (ho : Out (fun b => b = gz ∨ ∃ a, Ar = some a ∧ a.block = b) w w') {A' : Option Addr} {c' : Nat} {ps' : List Nat} {r' : List Lt} (hb : Bk w' gz 60 #[.slice As z.sizes.length cs, .slice A' r'.length c', .map (some gm)]) (hr : RowE w' 68 A' r'.length c' (ps'.map P1)) (hA : ∀ a, A' = some a → Ar = some a ∨ w.heap.size ≤ a.block) (hsub : ∀ (i : Nat) p l, ps'[i]? = some p → r'[i]? = some l → F p ∧ LtAt w F p l) : NtM w' (Oo O w w') F gz As cs A' c' gm D ps' { z with row := r' } N := by
  obtain ⟨h1, h2, h3, h4, h5, h6, h7, h8, h9⟩ := h
  have hgm : gm ≠ gz ∧ ∀ a, Ar = some a → a.block ≠ gm := ⟨h8.2.2, fun a ha => (h6 a ha).2.2⟩
  have hFn : ∀ b, F b → ¬ (b = gz ∨ ∃ a, Ar = some a ∧ a.block = b) := fun b hb q => by
    obtain ⟨_, q1, _, q3⟩ := h2 b hb
    rcases q with q | ⟨a, ha, q⟩
    · exact q1 q
    · exact q3 a ha q.symm
  refine ⟨hb, fun b hb => ?_, rdv_out h3 ho fun a ha h0 => hFn _ (h4 a ha h0), h4, hr, fun a ha => ?_, fun i p l hp hl => ?_, ⟨.inl h8.1, .inl h8.2.1, h8.2.2⟩, h9.out ho ?_⟩
  · obtain ⟨q0, q1, q2, q3⟩ := h2 b hb
    refine ⟨.inl q0, q1, q2, fun a ha e => ?_⟩
    rcases hA a ha with q | q
    · exact q3 a q e
    · have := hlow b q0; omega
  · rcases hA a ha with q | q
    · obtain ⟨q1, q2, q3⟩ := h6 a q
      exact ⟨.inl q1, q2, q3⟩
    · have e1 := hlow gz h8.1
      have e2 := hlow gm h8.2.1
      exact ⟨.inr ⟨q, hr.lt a ha⟩, by omega, by omega⟩
  · obtain ⟨q1, q2⟩ := hsub i p l hp hl
    exact ⟨q1, q2.out ho (hFn _ q1) hFn⟩
  · rintro (q | ⟨a, ha, q⟩)
    · exact hgm.1 q
    · exact hgm.2 a ha q
theorem get_snoc {α : Type} {l : List α} {x y : α} {i : Nat} (h : (l ++ [x])[i]? = some y) : (i < l.length ∧ l[i]? = some y) ∨ (i = l.length ∧ x = y) := by
  rcases Nat.lt_or_ge i l.length with hl | hl
  · rw [List.getElem?_append_left hl] at h; exact .inl ⟨hl, h⟩
  · have : i < (l ++ [x]).length := (List.getElem?_eq_some_iff.1 h).1
    rw [List.length_append, List.length_singleton] at this
    have e : i = l.length := by omega
    subst e
    rw [List.getElem?_append_right (Nat.le_refl _), Nat.sub_self] at h
    exact .inr ⟨rfl, by simpa using h⟩
set_option maxRecDepth 8000 in
set_option maxHeartbeats 1000000 in
theorem add_any (hm : NtM w O F gz As cs Ar cr gm D ps z N) (hlow : ∀ b, O b → w0.heap.size ≤ b ∧ b < w.heap.size) (hs : w0.heap.size ≤ w.heap.size) {p : Nat} {l : Lt} (hF : F p) (hp : LtAt w F p l) (hok : (z.add l).1.Ok) (hf : z.row.length ≤ 4096) : Calls Try.prog 34 #[.pointer (some ⟨gz, 0, none⟩), P1 p] w (DidN w0 O gz (.int .i64 (z.add l).2) (z.add l).1 N w) := by
  obtain ⟨-, c1, -, cf⟩ := hm.cells
  have cf1 := cf 1
  clear cf
  by_cases hfull : 4096 ≤ z.row.length
  · have e : z.add l = (z, 4) := by unfold Nt.add; rw [if_pos hfull]
    rw [e] at hok ⊢
    have HF : Hid (DidN w0 O gz (.int .i64 4) z N w (.returned (.int .i64 4)) w) := ⟨O, rfl, ⟨hok, hm.go.1, hlow, F, As, cs, Ar, cr, gm, D, ps, hm⟩, Go_.of_below (Below.refl _ _)⟩
    have hi : (4096 : Int) ≤ (z.row.length : Int) := by omega
    clear hm hp hok e hlow
    generalize z.row.length = n at *
    go_enter Try.func34, Try.ntmps34
    go_wp2_with fail
    go_ret
    exact HF.out
  · have e : z.add l = ({ z with row := z.row ++ [l] }, 0) := by unfold Nt.add; rw [if_neg hfull]
    rw [e] at hok ⊢
    have hB1 : Below w.heap.size w (w.alloc (.cells #[P1 p] 68)) := (Below.refl _ _).alloc (Nat.le_refl _) _
    have hm1 := hm.below hB1
    obtain ⟨i0, hi, hz0, hz1, hz2⟩ := infos info_ptr
    have hrd : RdV (w.alloc (.cells #[P1 p] 68)) (some ⟨w.heap.size, 0, none⟩) 1 [P1 p] := ⟨rfl, fun _ => ⟨_, rfl, fun j v hj => by
      have hj0 : j = 0 := by have := (List.getElem?_eq_some_iff.1 hj).1; simpa using this
      subst hj0
      simp at hj
      subst hj
      rw [plus_add]
      exact (Bk.new w 68 #[P1 p]).cell 0⟩⟩
    obtain ⟨A', c', W2, hrun, hrow, hout, hA⟩ := run_row_append (P := Try.prog) (ty := 58) ty_row hi hz0 hz1 hz2 (by decide) rfl hm1.row hrd (fun u hu => by rw [List.mem_singleton.1 hu]; rfl) 1 (by omega)
    have hgr : ∀ a, Ar = some a → a.block ≠ gz := fun a ha => (hm.ro a ha).2.1
    have hbk2 : Bk W2 gz 60 #[.slice As z.sizes.length cs, .slice Ar z.row.length cr, .map (some gm)] := hm1.bk.kept (hout.block gz hm1.bk.lt fun ⟨a, ha, q⟩ => hgr a ha q)
    have k1 : W2.cell? ⟨gz, 1, none⟩ = some (.slice Ar z.row.length cr) := hbk2.cell 1
    have kf := hbk2.frozen 1
    have hO2 : Out (fun b => b = gz ∨ ∃ a, Ar = some a ∧ a.block = b) w (W2.setCell ⟨gz, 1, none⟩ (.slice A' (z.row.length + 1) c')) :=
      (((Out.of_below hB1).trans (hout.mono (Y := fun b => b = gz ∨ ∃ a, Ar = some a ∧ a.block = b) fun b q => .inl (.inr q)) fun b q => .inl q)).trans (Out.setCell W2 (p := ⟨gz, 1, none⟩) (.inl rfl) _) fun b q => .inl q
    have hsz : W2.heap.size = (W2.setCell ⟨gz, 1, none⟩ (.slice A' (z.row.length + 1) c')).heap.size := by simp [World.setCell]
    have hb3 : Bk (W2.setCell ⟨gz, 1, none⟩ (.slice A' (z.row.length + 1) c')) gz 60 #[.slice As z.sizes.length cs, .slice A' (z.row ++ [l]).length c', .map (some gm)] := by
      have := hbk2.set 1 (.slice A' (z.row.length + 1) c')
      rw [List.length_append]
      simpa using this
    have hr3 : RowE (W2.setCell ⟨gz, 1, none⟩ (.slice A' (z.row.length + 1) c')) 68 A' (z.row ++ [l]).length c' ((ps ++ [p]).map P1) := by
      rw [List.length_append, List.map_append]
      refine hrow.kept fun a ha => Below.heap_setCell _ _ _ _ ?_
      rcases hA a ha with q | q
      · exact hgr a q
      · have := hlow gz hm.go.1
        have : (w.alloc (.cells #[P1 p] 68)).heap.size = w.heap.size + 1 := by simp
        show a.block ≠ gz
        omega
    have hlen : ps.length = z.row.length := by have := hm.row.len; simpa using this
    have hm3 := hm.rerow (fun b hb => (hlow b hb).2) hO2 hb3 hr3 (fun a ha => (hA a ha).imp id fun q => by simp at q; omega) fun i q y h1 h2 => by
      rcases get_snoc h1 with ⟨g1, g2⟩ | ⟨g1, g2⟩
      · rcases get_snoc h2 with ⟨g3, g4⟩ | ⟨g3, g4⟩
        · exact hm.each i q y g2 g4
        · omega
      · rcases get_snoc h2 with ⟨g3, g4⟩ | ⟨g3, g4⟩
        · omega
        · subst g2 g4; exact ⟨hF, hp⟩
    have HF : Hid (DidN w0 O gz (.int .i64 0) { z with row := z.row ++ [l] } N w (.returned (.int .i64 0)) (W2.setCell ⟨gz, 1, none⟩ (.slice A' (z.row.length + 1) c'))) :=
      ⟨_, rfl, ⟨hok, hm3.go.1, fun b hb => by
        rcases hb with hb | hb
        · exact ⟨(hlow b hb).1, Nat.lt_of_lt_of_le (hlow b hb).2 hO2.size⟩
        · exact ⟨by omega, hb.2⟩, _, _, _, _, _, _, _, _, hm3⟩, hO2.mono (fun b q => by
        rcases q with rfl | ⟨a, ha, rfl⟩
        · exact .inl hm.go.1
        · exact .inl (hm.ro a ha).1), fun b hb => hb.imp id fun q => q.1⟩
    have hi2 : ¬ (4096 : Int) ≤ (z.row.length : Int) := by omega
    have hrun' := Lib.hid hrun
    clear hm hm1 hp hok e hlow hrd hrow hout hA hgr hbk2 hO2 hb3 hr3 hlen hm3 hi hz0 hz1 hz2 hfull hsz hB1 hrun
    unfold P1 at hrun' ⊢
    generalize z.row.length = n at *
    go_enter Try.func34, Try.ntmps34
    go_wp2_with (at_builtin; refine wpList_append_of rfl (.tmp 15) (.tmp 17) 58 rfl rfl rfl hrun'.out ?_)
    go_wp2_with fail
    go_ret
    exact HF.out
theorem eraseIdx_parts {α : Type} (l : List α) (i : Nat) : l.eraseIdx i = l.take i ++ l.drop (i + 1) := List.eraseIdx_eq_take_drop_succ ..
end
end Go.Proofs.Ytmjipeagbogpmaa.Net

namespace Go.Proofs.Ytmjipeagbogpmaa.Phase

section
variable {P : Program} {ops : Array Oper} {md : Region.Mode} {Q : Exit → Act → World → Prop}

def okB (ops : Array Oper) (n : Nat) : Bool :=
  (List.range ops.size).all fun i => match ops[i]? with
    | none => false
    | some o => o.guard.isNone && ((o.after.all fun e => decide (e.on < i)) && (match o.dst with
      | none => true
      | some d => decide (d < n) && (List.range ops.size).all fun k => k == i || match ops[k]? with
        | none => true
        | some p => p.dst != some d))

theorem okB_spec {n : Nat} (h : okB ops n = true) {i : Nat} {o : Oper} (hi : ops[i]? = some o) :
    o.guard = none ∧ (∀ e ∈ o.after, e.on < i) ∧ ∀ d, o.dst = some d → d < n ∧ ∀ k p, ops[k]? = some p → p.dst = some d → k = i := by
  have hlt : i < ops.size := (Array.getElem?_eq_some_iff.1 hi).1
  have h1 := List.all_eq_true.1 h i (List.mem_range.2 hlt)
  simp only [hi, Bool.and_eq_true] at h1
  obtain ⟨h2, h3, h4⟩ := h1
  refine ⟨by simpa using h2, fun e he => of_decide_eq_true (Array.all_eq_true_iff_forall_mem.1 h3 e he), fun d hd => ?_⟩
  rw [hd] at h4
  simp only [Bool.and_eq_true] at h4
  refine ⟨of_decide_eq_true h4.1, fun k p hk hp => ?_⟩
  have hkl : k < ops.size := (Array.getElem?_eq_some_iff.1 hk).1
  have h5 := List.all_eq_true.1 h4.2 k (List.mem_range.2 hkl)
  simp only [hk, hp, Bool.or_eq_true, beq_iff_eq] at h5
  rcases h5 with h5 | h5
  · exact h5
  · simp at h5

structure Fits (ops : Array Oper) (v : Nat → Value) (a0 : Act) (listed : Array Bool) (a : Act) : Prop where
  defers : a.defers = a0.defers
  size : a.tmps.size = a0.tmps.size
  yes : ∀ k o d, ops[k]? = some o → o.dst = some d → listed.getD k false = true → a.tmps.getD d undef = v k
  no : ∀ d, (∀ k o, ops[k]? = some o → o.dst = some d → listed.getD k false = false) → a.tmps.getD d undef = a0.tmps.getD d undef

theorem getD_rep (n k : Nat) : (Array.replicate n false).getD k false = false := by
  by_cases h : k < n <;> simp [h]
theorem Fits.start (v : Nat → Value) (a0 : Act) : Fits ops v a0 (Array.replicate ops.size false) a0 :=
  ⟨rfl, rfl, (fun k o d _ _ h => by rw [getD_rep] at h; cases h), fun _ _ => rfl⟩
theorem put_getD (a : Act) (d : Nat) (v : Value) (e : Nat) (h : d < a.tmps.size) : (a.put (some d) v).tmps.getD e undef = if e = d then v else a.tmps.getD e undef := by
  unfold Act.put
  by_cases he : e = d
  · subst he; simp [h]
  · rw [if_neg he]
    simp only [Array.getD_eq_getD_getElem?]
    rw [Array.getElem?_setIfInBounds_ne (fun h => he h.symm)]
theorem set_getD (l : Array Bool) (i k : Nat) (h : i < l.size) : (l.setIfInBounds i true).getD k false = if k = i then true else l.getD k false := by
  by_cases he : k = i
  · subst he; simp [h]
  · rw [if_neg he]
    simp only [Array.getD_eq_getD_getElem?]
    rw [Array.getElem?_setIfInBounds_ne (fun h => he h.symm)]
theorem Fits.put {v : Nat → Value} {a0 a : Act} {listed : Array Bool} {i : Nat} {o : Oper} (hok : okB ops a0.tmps.size = true) (hi : ops[i]? = some o) (hl : listed.size = ops.size) (h : Fits ops v a0 listed a) :
    Fits ops v a0 (listed.setIfInBounds i true) (a.put o.dst (v i)) := by
  have hlt : i < listed.size := by rw [hl]; exact (Array.getElem?_eq_some_iff.1 hi).1
  obtain ⟨_, _, hd⟩ := okB_spec hok hi
  cases hdst : o.dst with
  | none =>
    refine ⟨h.defers, h.size, fun k p d hk hp hlk => ?_, fun d hn => ?_⟩
    · rw [set_getD _ _ _ hlt] at hlk
      by_cases hki : k = i
      · subst hki; rw [hi] at hk; injection hk with hk; subst hk; rw [hdst] at hp; cases hp
      · rw [if_neg hki] at hlk; exact h.yes k p d hk hp hlk
    · refine h.no d fun k p hk hp => ?_
      have := hn k p hk hp
      rw [set_getD _ _ _ hlt] at this
      by_cases hki : k = i
      · subst hki; rw [if_pos rfl] at this; cases this
      · rwa [if_neg hki] at this
  | some d0 =>
    obtain ⟨hd1, hd2⟩ := hd d0 hdst
    have hd1' : d0 < a.tmps.size := by rw [h.size]; exact hd1
    refine ⟨h.defers, by unfold Act.put; simp [h.size], fun k p d hk hp hlk => ?_, fun d hn => ?_⟩
    · rw [put_getD _ _ _ _ hd1']
      rw [set_getD _ _ _ hlt] at hlk
      by_cases hdd : d = d0
      · subst hdd
        rw [if_pos rfl, hd2 k p hk hp]
      · rw [if_neg hdd]
        by_cases hki : k = i
        · subst hki; rw [hi] at hk; injection hk with hk; subst hk; rw [hdst] at hp; injection hp with hp; exact absurd hp.symm hdd
        · rw [if_neg hki] at hlk; exact h.yes k p d hk hp hlk
    · rw [put_getD _ _ _ _ hd1']
      by_cases hdd : d = d0
      · subst hdd
        have := hn i o hi hdst
        rw [set_getD _ _ _ hlt, if_pos rfl] at this
        cases this
      · rw [if_neg hdd]
        refine h.no d fun k p hk hp => ?_
        have := hn k p hk hp
        rw [set_getD _ _ _ hlt] at this
        by_cases hki : k = i
        · subst hki; rw [if_pos rfl] at this; cases this
        · rwa [if_neg hki] at this
theorem Fits.same {v : Nat → Value} {a0 a b : Act} {la lb : Array Bool} (ha : Fits ops v a0 la a) (hb : Fits ops v a0 lb b) (h1 : ∀ k, k < ops.size → la.getD k false = true) (h2 : ∀ k, k < ops.size → lb.getD k false = true) : a = b := by
  have hs : a.tmps.size = b.tmps.size := by rw [ha.size, hb.size]
  have ht : a.tmps = b.tmps := by
    refine Array.ext hs fun d hd1 hd2 => ?_
    have key : a.tmps.getD d undef = b.tmps.getD d undef := by
      by_cases hex : ∃ (k : Nat) (o : Oper), ops[k]? = some o ∧ o.dst = some d
      · obtain ⟨k, o, hk, ho⟩ := hex
        have hkl := (Array.getElem?_eq_some_iff.1 hk).1
        rw [ha.yes k o d hk ho (h1 k hkl), hb.yes k o d hk ho (h2 k hkl)]
      · rw [ha.no d fun k o hk ho => absurd ⟨k, o, hk, ho⟩ hex, hb.no d fun k o hk ho => absurd ⟨k, o, hk, ho⟩ hex]
    simpa [hd1, hd2] using key
  have hdf : a.defers = b.defers := ha.defers.trans hb.defers.symm
  cases a
  cases b
  simp at ht hdf
  rw [ht, hdf]

def final (ops : Array Oper) (v : Nat → Value) : Nat → Act → Act
  | 0, a => a
  | n + 1, a => (final ops v n a).put ((ops[n]?).bind fun o : Oper => o.dst) (v n)
theorem final_fits (v : Nat → Value) (a0 : Act) (hok : okB ops a0.tmps.size = true) : ∀ n, n ≤ ops.size → ∃ l : Array Bool, l.size = ops.size ∧ (∀ k, k < n → l.getD k false = true) ∧ Fits ops v a0 l (final ops v n a0)
  | 0, _ => ⟨_, by simp, fun k hk => by omega, Fits.start v a0⟩
  | n + 1, hn => by
    obtain ⟨l, h1, h2, h3⟩ := final_fits v a0 hok n (by omega)
    have hi : ops[n]? = some ops[n] := Array.getElem?_eq_getElem (by omega)
    have h4 := Fits.put hok hi h1 h3
    refine ⟨l.setIfInBounds n true, by simp [h1], fun k hk => ?_, ?_⟩
    · rw [set_getD _ _ _ (by omega)]
      by_cases hkn : k = n
      · rw [if_pos hkn]
      · rw [if_neg hkn]; exact h2 k (by omega)
    · show Fits ops v a0 _ ((final ops v n a0).put ((ops[n]?).bind fun o : Oper => o.dst) (v n))
      rw [hi]
      exact h4

def left (l : Array Bool) : Nat := l.toList.countP (· == false)
theorem left_set {l : Array Bool} {i : Nat} (hi : i < l.size) (h : l.getD i true = false) : left (l.setIfInBounds i true) + 1 = left l := by
  unfold left
  have h0 : l[i] = false := by simpa [hi] using h
  have h1 : i < l.toList.length := by simpa using hi
  have h2 : l.toList[i] = false := by simpa using h0
  have h3 : 0 < l.toList.countP (· == false) := List.countP_pos_iff.2 ⟨false, by rw [← h2]; exact List.getElem_mem h1, rfl⟩
  rw [Array.toList_setIfInBounds, List.countP_set h1, h2, if_pos (show (false == false) = true from rfl), if_neg (show ¬ (true == false) = true by decide)]
  omega
theorem left_zero {l : Array Bool} (h : left l = 0) {k : Nat} (hk : k < l.size) : l.getD k false = true := by
  unfold left at h
  have h1 := List.countP_eq_zero.1 h
  have h2 := h1 l[k] (by simp)
  simpa [hk] using h2

theorem left_new (n : Nat) : left (Array.replicate n false) = n := by
  unfold left
  rw [Array.toList_replicate, List.countP_replicate]
  rfl

theorem wpAny_phased {v : Nat → Value} {a0 : Act} {C : Array Bool → World → Prop} (hok : okB ops a0.tmps.size = true)
    (hstep : ∀ (i : Nat) (o : Oper), ops[i]? = some o → ∀ (listed : Array Bool) (a : Act) (W : World), listed.getD i true = false → (∀ e ∈ o.after, Region.binds md e = true → listed.getD e.on false = true) → Fits ops v a0 listed a → C listed W →
      ∀ K : Act → World → Prop, (∀ W', C (listed.setIfInBounds i true) W' → K (a.put o.dst (v i)) W') → o.wp P a W K Q)
    (hend : ∀ (listed : Array Bool) (W : World), (∀ k, k < ops.size → listed.getD k false = true) → C listed W → Q .normal (final ops v ops.size a0) W) :
    ∀ (fuel : Nat) (listed : Array Bool) (a : Act) (W : World), listed.size = ops.size → left listed = fuel → Fits ops v a0 listed a → C listed W → wpAny P md ops Q fuel listed a W := by
  have hall : ∀ (listed : Array Bool) (a : Act) (W : World), listed.size = ops.size → Fits ops v a0 listed a → C listed W → (∀ k, k < ops.size → listed.getD k false = true) → Q .normal a W := by
    intro listed a W hl hf hc hy
    obtain ⟨l, h1, h2, h3⟩ := final_fits v a0 hok ops.size (Nat.le_refl _)
    rw [Fits.same hf h3 hy h2]
    exact hend listed W hy hc
  have hready : ∀ (listed : Array Bool), listed.size = ops.size → Region.ready md ops listed = [] → ∀ k, k < ops.size → listed.getD k false = true := by
    intro listed hl hr k
    induction k using Nat.strongRecOn with
    | _ k ih =>
      intro hk
      have hi : ops[k]? = some ops[k] := Array.getElem?_eq_getElem hk
      obtain ⟨_, ha, _⟩ := okB_spec hok hi
      cases hb : listed.getD k false with
      | true => rfl
      | false =>
        have : k ∈ Region.ready md ops listed := by
          unfold Region.ready
          refine List.mem_filter.2 ⟨List.mem_range.2 hk, ?_⟩
          have hkl : k < listed.size := by omega
          have h0 : listed.getD k true = false := by
            have : listed[k] = false := by simpa [hkl] using hb
            simp [hkl, this]
          rw [h0, hi]
          simp only [Bool.not_false, Bool.true_and, Option.map_some, Option.getD_some]
          refine Array.all_eq_true_iff_forall_mem.2 fun e he => ?_
          rw [ih e.on (ha e he) (Nat.lt_trans (ha e he) hk), Bool.or_true]
        rw [hr] at this
        cases this
  intro fuel
  induction fuel with
  | zero =>
    intro listed a W hl hz hf hc
    have hy : ∀ k, k < ops.size → listed.getD k false = true := fun k hk => left_zero hz (by omega)
    refine ⟨?_, hall listed a W hl hf hc hy⟩
    unfold Region.ready
    refine List.filter_eq_nil_iff.2 fun i hi => ?_
    have hil := List.mem_range.1 hi
    have hil' : i < listed.size := by omega
    have h1 : listed[i] = true := by simpa [hil'] using hy i hil
    simp [hil', h1]
  | succ fuel ih =>
    intro listed a W hl hz hf hc
    refine ⟨fun hr => hall listed a W hl hf hc (hready listed hl hr), fun i hi => ?_⟩
    unfold Region.ready at hi
    obtain ⟨hi1, hi2⟩ := List.mem_filter.1 hi
    have hil := List.mem_range.1 hi1
    have ho : ops[i]? = some ops[i] := Array.getElem?_eq_getElem hil
    rw [ho] at hi2
    simp only [Bool.and_eq_true, Option.map_some, Option.getD_some, Bool.not_eq_true'] at hi2
    obtain ⟨hun, haf⟩ := hi2
    have hdeps : ∀ e ∈ ops[i].after, Region.binds md e = true → listed.getD e.on false = true := fun e he hb => by
      have := Array.all_eq_true_iff_forall_mem.1 haf e he
      rwa [hb, Bool.not_true, Bool.false_or] at this
    have hg := (okB_spec hok ho).1
    refine wpOp_step ho fun K hK => ?_
    have hw : Region.wanted ops[i] (yielded ops a.tmps) = true := by simp [Region.wanted, hg]
    rw [if_pos hw]
    refine hstep i ops[i] ho listed a W hun hdeps hf hc K fun W' hc' => hK _ _ ?_
    exact ih (listed.setIfInBounds i true) (a.put ops[i].dst (v i)) W' (by simp [hl]) (by have := left_set (l := listed) (i := i) (by omega) hun; omega) (Fits.put hok ho hl hf) hc'
theorem wp_region_phased {v : Nat → Value} {a0 : Act} {C : Array Bool → World → Prop} {id : Nat} {w : World} (hm : P.follows .mixedOrders = true) (hok : okB ops a0.tmps.size = true)
    (hC : C (Array.replicate ops.size false) { w with drawn := w.drawn + 1 })
    (hstep : ∀ (i : Nat) (o : Oper), ops[i]? = some o → ∀ (listed : Array Bool) (a : Act) (W : World), listed.getD i true = false → (∀ e ∈ o.after, Region.binds .any e = true → listed.getD e.on false = true) → Fits ops v a0 listed a → C listed W →
      ∀ K : Act → World → Prop, (∀ W', C (listed.setIfInBounds i true) W' → K (a.put o.dst (v i)) W') → o.wp P a W K Q)
    (hend : ∀ (listed : Array Bool) (W : World), (∀ k, k < ops.size → listed.getD k false = true) → C listed W → Q .normal (final ops v ops.size a0) W) :
    (Code.region id ops true).wp P Q a0 w :=
  wp_region_any hm (wpAny_phased hok hstep hend ops.size _ a0 _ (by simp) (left_new ops.size) (Fits.start v a0) hC)
end
end Go.Proofs.Ytmjipeagbogpmaa.Phase

namespace Go.Proofs.Ytmjipeagbogpmaa.Phase

def reachB (l : List Oper) : Nat → Nat → Nat → Bool
  | 0, _, _ => false
  | f + 1, x, i => match l[x]? with
    | some o => o.after.any fun e => Region.binds .any e && (e.on == i || reachB l f e.on i)
    | none => false
def Closed (l : List Oper) (listed : Array Bool) : Prop := ∀ x o, l[x]? = some o → listed.getD x false = true → ∀ e ∈ o.after, Region.binds .any e = true → listed.getD e.on false = true
theorem any_in {α : Type} {p : α → Bool} {xs : Array α} (h : xs.any p = true) : ∃ a, a ∈ xs ∧ p a = true := by
  obtain ⟨i, hi, h⟩ := Array.any_eq_true.1 h
  exact ⟨xs[i], Array.getElem_mem hi, h⟩
theorem reach_listed {l : List Oper} {listed : Array Bool} (hc : Closed l listed) : ∀ (f x i : Nat), reachB l f x i = true → (∀ o, l[x]? = some o → ∀ e ∈ o.after, Region.binds .any e = true → listed.getD e.on false = true) → listed.getD i false = true
  | 0, _, _, h, _ => by cases h
  | f + 1, x, i, h, hx => by
    unfold reachB at h
    cases ho : l[x]? with
    | none => rw [ho] at h; cases h
    | some o =>
      rw [ho] at h
      obtain ⟨e, he, hh⟩ := any_in h
      rw [Bool.and_eq_true, Bool.or_eq_true] at hh
      have h1 := hx o ho e he hh.1
      rcases hh.2 with h2 | h2
      · rw [beq_iff_eq] at h2
        rw [← h2]
        exact h1
      · exact reach_listed hc f e.on i h2 (fun o' ho' e' he' hb' => hc e.on o' ho' h1 e' he' hb')
def StepsL (R : Nat → Oper → Prop) : Nat → List Oper → Prop
  | _, [] => True
  | i, o :: l => R i o ∧ StepsL R (i + 1) l
theorem StepsL.get {R : Nat → Oper → Prop} : ∀ {l : List Oper} {i k : Nat} {o : Oper}, StepsL R i l → l[k]? = some o → R (i + k) o
  | [], _, _, _, _, h => by simp at h
  | p :: l, i, 0, o, hs, h => by
    simp at h
    subst h
    exact hs.1
  | p :: l, i, k + 1, o, hs, h => by
    have := StepsL.get hs.2 (by simpa using h)
    rwa [show i + 1 + k = i + (k + 1) by omega] at this
theorem stepsL_cons {R : Nat → Oper → Prop} {i : Nat} {o : Oper} {l : List Oper} (h : R i o) (hs : StepsL R (i + 1) l) : StepsL R i (o :: l) := ⟨h, hs⟩
theorem stepsL_nil {R : Nat → Oper → Prop} {i : Nat} : StepsL R i [] := trivial
structure DepL (l : List Oper) (v : Nat → Value) (a0 : Act) (o : Oper) (a : Act) : Prop where
  done_ : ∀ (k : Nat) (p : Oper) (d : Nat), (o.after.any fun e => e.on == k && Region.binds .any e) = true → l[k]? = some p → p.dst = some d → a.tmps.getD d undef = v k
  kept : ∀ d, (l.all fun p => p.dst != some d) = true → a.tmps.getD d undef = a0.tmps.getD d undef
def StepAt (P : Program) (Q : Exit → Act → World → Prop) (l : List Oper) (v : Nat → Value) (a0 : Act) (wr : List Nat) (Ws : Nat → World) (f : Nat) (i : Nat) (o : Oper) : Prop :=
  ∀ (a : Act) (s : Nat), s ≤ wr.length → DepL l v a0 o a → (∀ k : Nat, wr[k]? = some i → s = k) → (∀ k x : Nat, wr[k]? = some x → reachB l f x i = true → s ≤ k) → (∀ k x : Nat, wr[k]? = some x → reachB l f i x = true → k < s) →
    ∀ K : Act → World → Prop, (∀ s', ((∀ k : Nat, wr[k]? ≠ some i) → s' = s) → (∀ k : Nat, wr[k]? = some i → s' = s + 1) → K (a.put o.dst (v i)) (Ws s')) → o.wp P a (Ws s) K Q
section
variable {P : Program} {Q : Exit → Act → World → Prop}
theorem wp_region_line {l : List Oper} (v : Nat → Value) {a0 : Act} {id : Nat} {w : World} (wr : List Nat) (Ws : Nat → World) (f : Nat) (hm : P.follows .mixedOrders = true) (hok : okB l.toArray a0.tmps.size = true)
    (h0 : Ws 0 = { w with drawn := w.drawn + 1 }) (hin : ∀ k x : Nat, wr[k]? = some x → x < l.length) (hchain : ∀ k x y : Nat, wr[k]? = some x → wr[k + 1]? = some y → reachB l f y x = true)
    (hsteps : StepsL (StepAt P Q l v a0 wr Ws f) 0 l) (F : Act) (hF : final l.toArray v l.length a0 = F) (hend : Q .normal F (Ws wr.length)) :
    (Code.region id l.toArray true).wp P Q a0 w := by
  refine wp_region_phased (v := v) (C := fun listed W => ∃ s, s ≤ wr.length ∧ W = Ws s ∧ (∀ k x : Nat, wr[k]? = some x → (listed.getD x false = true ↔ k < s)) ∧ Closed l listed ∧ listed.size = l.length) hm hok ⟨0, Nat.zero_le _, h0.symm, fun k x _ => ?_, fun x o _ h => ?_, by simp⟩ ?_ ?_
  · rw [getD_rep]
    exact ⟨fun h => (nomatch h), fun h => absurd h (Nat.not_lt_zero _)⟩
  · rw [getD_rep] at h; cases h
  · intro i o hi listed a W hun hdeps hf hC K hK
    obtain ⟨s, hs, rfl, hfl, hcl, hsz⟩ := hC
    have hil : l[i]? = some o := by simpa using hi
    have hlt : i < l.length := (List.getElem?_eq_some_iff.1 hil).1
    have hltl : i < listed.size := by omega
    have hunf : listed.getD i false = false := by
      have : listed[i] = false := by simpa [hltl] using hun
      simp [hltl, this]
    have hD : DepL l v a0 o a := ⟨fun k p d hk hp hd => by
        obtain ⟨e, he, hek⟩ := any_in hk
        simp only [Bool.and_eq_true, beq_iff_eq] at hek
        have := hdeps e he hek.2
        rw [hek.1] at this
        exact hf.yes k p d (by simpa using hp) hd this,
      fun d hd => hf.no d fun k p hk hp => by
        have hk' : l[k]? = some p := by simpa using hk
        have := List.all_eq_true.1 hd p (List.mem_of_getElem? hk')
        rw [hp] at this
        simp at this⟩
    have hdo : ∀ o', l[i]? = some o' → ∀ e ∈ o'.after, Region.binds .any e = true → listed.getD e.on false = true := fun o' ho' => by
      rw [hil] at ho'
      injection ho' with ho'
      subst ho'
      exact hdeps
    have hat : ∀ k : Nat, wr[k]? = some i → s = k := fun k hk => by
      have h1 : ¬ k < s := fun h => by rw [(hfl k i hk).2 h] at hunf; cases hunf
      cases k with
      | zero => omega
      | succ k =>
        have hk' : k < wr.length := by have := (List.getElem?_eq_some_iff.1 hk).1; omega
        have hx := List.getElem?_eq_getElem hk'
        have h2 := reach_listed hcl f i _ (hchain k _ i hx hk) hdo
        have h3 := (hfl k _ hx).1 h2
        omega
    have hS := StepsL.get hsteps hil
    rw [Nat.zero_add] at hS
    refine hS a s hs hD hat (fun k x hk hr => ?_) (fun k x hk hr => (hfl k x hk).1 (reach_listed hcl f i x hr hdo)) K fun s' hs1 hs2 => hK _ ?_
    · refine Nat.le_of_not_lt fun h => ?_
      have hx := (hfl k x hk).2 h
      have := reach_listed hcl f x i hr (fun o' ho' e he hb => hcl x o' ho' hx e he hb)
      rw [this] at hunf
      cases hunf
    · have hg : ∀ k, (listed.setIfInBounds i true).getD k false = if k = i then true else listed.getD k false := fun k => set_getD _ _ _ hltl
      have hcl' : Closed l (listed.setIfInBounds i true) := by
        intro x o' ho' hx e he hb
        rw [hg]
        split
        · rfl
        · rw [hg] at hx
          split at hx
          · next hxi => subst hxi; exact hdo o' ho' e he hb
          · exact hcl x o' ho' hx e he hb
      by_cases hw : ∃ k : Nat, wr[k]? = some i
      · obtain ⟨k, hk⟩ := hw
        have hsk := hat k hk
        have hs' := hs2 k hk
        have hkl := (List.getElem?_eq_some_iff.1 hk).1
        refine ⟨s', by omega, rfl, fun j x hj => ?_, hcl', by simpa using hsz⟩
        rw [hg]
        split
        · next hxi =>
          subst hxi
          have := hat j hj
          exact ⟨fun _ => (by omega), fun _ => rfl⟩
        · next hxi =>
          rw [hfl j x hj]
          have : j ≠ s := fun e => by
            rw [e, hsk, hk] at hj
            injection hj with hj
            exact hxi hj.symm
          constructor <;> intro h <;> omega
      · have hs' := hs1 fun k hk => hw ⟨k, hk⟩
        subst hs'
        refine ⟨s', hs, rfl, fun j x hj => ?_, hcl', by simpa using hsz⟩
        rw [hg]
        split
        · next hxi => exact absurd ⟨j, hxi ▸ hj⟩ hw
        · exact hfl j x hj
  · intro listed W hall hC
    obtain ⟨s, hs, rfl, hfl, _, hsz⟩ := hC
    have : s = wr.length := by
      refine Nat.le_antisymm hs (Nat.le_of_not_lt fun h => ?_)
      have hx := List.getElem?_eq_getElem h
      have h1 := (hfl s _ hx).1 (hall _ (by simpa using hin s _ hx))
      omega
    subst this
    rw [← hF] at hend
    simpa using hend
end
end Go.Proofs.Ytmjipeagbogpmaa.Phase

namespace Go.Proofs.Ytmjipeagbogpmaa.Phase

theorem step_stays {P : Program} {Q : Exit → Act → World → Prop} {l : List Oper} {v : Nat → Value} {a0 : Act} {wr : List Nat} {Ws : Nat → World} {f i : Nat} {o : Oper} (hw : wr.contains i = false)
    (h : ∀ (a : Act) (s : Nat), s ≤ wr.length → DepL l v a0 o a → (∀ k x : Nat, wr[k]? = some x → reachB l f x i = true → s ≤ k) → (∀ k x : Nat, wr[k]? = some x → reachB l f i x = true → k < s) → ∀ K : Act → World → Prop, K (a.put o.dst (v i)) (Ws s) → o.wp P a (Ws s) K Q) : StepAt P Q l v a0 wr Ws f i o := by
  intro a s hs hd _ h2 h3 K hK
  have hno : ∀ k : Nat, wr[k]? ≠ some i := fun k hk => by
    have := List.mem_of_getElem? hk
    rw [List.contains_iff_mem.2 this] at hw
    cases hw
  exact h a s hs hd h2 h3 K (hK s (fun _ => rfl) (fun k hk => absurd hk (hno k)))
end Go.Proofs.Ytmjipeagbogpmaa.Phase

namespace Go.Proofs.Ytmjipeagbogpmaa.Net
open Go.RowKit Disk Zab Sto
open Phase (wp_region_line step_stays stepsL_cons stepsL_nil reachB)

section
variable {w0 w : World} {O F : Nat → Prop} {gz : Nat} {As : Option Addr} {cs : Nat} {Ar : Option Addr} {cr gm : Nat} {D : DataW Value} {ps : List Nat} {z : Nt} {N : Nat}
def CutP (w0 : World) (O F : Nat → Prop) (gz : Nat) (As : Option Addr) (cs gm : Nat) (D : DataW Value) (p : Nat) (ps : List Nat) (i : Nat) (z : Nt) (N : Nat) (w : World) (e : Ending) (w' : World) : Prop :=
  ∃ Ar' cr', e = .returned (P1 p) ∧ NtM w' (Oo O w w') F gz As cs Ar' cr' gm D (ps.eraseIdx i) (z.out i) N ∧ Go_ O (Oo O w w') w w' ∧ (∀ b, Oo O w w' b → w0.heap.size ≤ b ∧ b < w'.heap.size) ∧ Out (fun b => O b ∧ ¬ F b) w w'
theorem row_drop {e : TypeId} {n c : Nat} {vs : List Value} {g : Nat} (h : RowE w e (some ⟨g, 0, none⟩) n c vs) {k : Nat} (hk : k ≤ n) : ∃ a2 : Addr, (if c = k then (some ⟨g, 0, none⟩ : Option Addr) else some ⟨g, k, none⟩) = some a2 ∧ RdV w (some a2) (n - k) (vs.drop k) := by
  have hl := h.len
  have hle := h.le
  by_cases hc : c = k
  · rw [if_pos hc]
    have e1 : n - k = 0 := by omega
    have e2 : vs.drop k = [] := List.drop_eq_nil_of_le (by omega)
    rw [e1, e2]
    exact ⟨_, rfl, RdV.nil_ _ _⟩
  · rw [if_neg hc]
    refine ⟨_, rfl, by rw [List.length_drop, hl], fun h0 => ⟨_, rfl, fun j v hj => ?_⟩⟩
    rw [List.getElem?_drop] at hj
    obtain ⟨g', e1, h1⟩ := h.cell hj
    injection e1 with e1
    injection e1 with e1
    subst e1
    have : ((⟨g, k, none⟩ : Addr).add j) = ⟨g, k + j, none⟩ := by unfold Addr.add; split <;> simp_all
    rw [this]
    exact h1
set_option maxRecDepth 8000 in
set_option maxHeartbeats 1000000 in
theorem cutOut_any (hm : NtM w O F gz As cs Ar cr gm D ps z N) (hlow : ∀ b, O b → w0.heap.size ≤ b ∧ b < w.heap.size) (hs : w0.heap.size ≤ w.heap.size) (hf : z.row.length ≤ 4096) {i p : Nat} (hi : i < z.row.length) (hp : ps[i]? = some p) : Calls Try.prog 36 #[.pointer (some ⟨gz, 0, none⟩), .int .i64 (i : Int)] w (CutP w0 O F gz As cs gm D p ps i z N w) := by
  have hwd : Below w.heap.size w w.drew := below_drewN (Below.refl _ w) 1
  have hm1 := hm.below hwd
  obtain ⟨-, c1, -, -⟩ := hm.cells
  have hpv : (ps.map P1)[i]? = some (P1 p) := by rw [List.getElem?_map, hp]; rfl
  obtain ⟨g, rfl, c2⟩ := hm.row.cell hpv
  have hlen : ps.length = z.row.length := by have := hm.row.len; simpa using this
  have hle := hm.row.le
  have h01 : (0 : Int) ≤ (i : Int) := by omega
  have h02 : (i : Int) < (z.row.length : Int) := by omega
  have c1d : w.drew.cell? ⟨gz, 1, none⟩ = some (.slice (some ⟨g, 0, none⟩) z.row.length cr) := c1
  obtain ⟨i0, hi0, hz0, hz1, hz2⟩ := infos info_ptr
  obtain ⟨a2, ha2, hrd⟩ := row_drop hm1.row (k := i + 1) (by omega)
  obtain ⟨A', c', W2, hrun, hrow, hout, hA⟩ := run_row_append (P := Try.prog) (ty := 58) ty_row hi0 hz0 hz1 hz2 (by decide) rfl (hm1.row.take (k := i) (by omega)) hrd (fun u hu => by
    obtain ⟨q, _, rfl⟩ := List.mem_map.1 (List.mem_of_mem_drop hu)
    rfl) (cr - (i + 1)) (by omega)
  have hgr : g ≠ gz := (hm.ro _ rfl).2.1
  have hbk2 : Bk W2 gz 60 #[.slice As z.sizes.length cs, .slice (some ⟨g, 0, none⟩) z.row.length cr, .map (some gm)] := hm1.bk.kept (hout.block gz hm1.bk.lt fun ⟨a, ha, q⟩ => by injection ha with ha; subst ha; exact hgr q)
  have k1 : W2.cell? ⟨gz, 1, none⟩ = some (.slice (some ⟨g, 0, none⟩) z.row.length cr) := hbk2.cell 1
  have kf := hbk2.frozen 1
  have hO2 : Out (fun b => b = gz ∨ ∃ a, (some ⟨g, 0, none⟩ : Option Addr) = some a ∧ a.block = b) w (W2.setCell ⟨gz, 1, none⟩ (.slice A' (i + (z.row.length - (i + 1))) c')) :=
    (((Out.of_below hwd).trans (hout.mono (Y := fun b => b = gz ∨ ∃ a, (some ⟨g, 0, none⟩ : Option Addr) = some a ∧ a.block = b) fun b q => .inl (.inr q)) fun b q => .inl q)).trans (Out.setCell W2 (p := ⟨gz, 1, none⟩) (.inl rfl) _) fun b q => .inl q
  have hel : (z.row.eraseIdx i).length = i + (z.row.length - (i + 1)) := by rw [List.length_eraseIdx_of_lt hi]; omega
  have hb3 : Bk (W2.setCell ⟨gz, 1, none⟩ (.slice A' (i + (z.row.length - (i + 1))) c')) gz 60 #[.slice As z.sizes.length cs, .slice A' (z.row.eraseIdx i).length c', .map (some gm)] := by
    have := hbk2.set 1 (.slice A' (i + (z.row.length - (i + 1))) c')
    rw [hel]
    simpa using this
  have hr3 : RowE (W2.setCell ⟨gz, 1, none⟩ (.slice A' (i + (z.row.length - (i + 1))) c')) 68 A' (z.row.eraseIdx i).length c' ((ps.eraseIdx i).map P1) := by
    rw [hel, eraseIdx_parts, List.map_append, List.map_take, List.map_drop]
    refine hrow.kept fun a ha => Below.heap_setCell _ _ _ _ ?_
    rcases hA a ha with q | q
    · injection q with q; subst q; exact hgr
    · have := hlow gz hm.go.1
      have : w.drew.heap.size = w.heap.size := rfl
      show a.block ≠ gz
      omega
  have hm3 := hm.rerow (fun b hb => (hlow b hb).2) hO2 hb3 hr3 hA fun j q y h1 h2 => by
    rw [List.getElem?_eraseIdx] at h1 h2
    split at h1
    · rw [if_pos ‹_›] at h2; exact hm.each j q y h1 h2
    · rw [if_neg ‹_›] at h2; exact hm.each (j + 1) q y h1 h2
  have hOF : Out (fun b => O b ∧ ¬ F b) w (W2.setCell ⟨gz, 1, none⟩ (.slice A' (i + (z.row.length - (i + 1))) c')) := hO2.mono fun b q => .inl (by
    rcases q with rfl | ⟨a, ha, rfl⟩
    · exact ⟨hm.go.1, fun h => (hm.fo _ h).2.1 rfl⟩
    · exact ⟨(hm.ro a ha).1, fun h => (hm.fo _ h).2.2.2 a ha rfl⟩)
  have HF : Hid (CutP w0 O F gz As cs gm D p ps i z N w (.returned (P1 p)) (W2.setCell ⟨gz, 1, none⟩ (.slice A' (i + (z.row.length - (i + 1))) c'))) :=
    ⟨A', c', rfl, hm3, ⟨hOF.mono fun b q => .inl q.1, fun b hb => hb.imp id fun q => q.1⟩, fun b hb => by
      rcases hb with hb | hb
      · exact ⟨(hlow b hb).1, Nat.lt_of_lt_of_le (hlow b hb).2 hO2.size⟩
      · exact ⟨by omega, hb.2⟩, hOF⟩
  have h03 : (i : Int) ≤ (cr : Int) := by omega
  have h04 : (i : Int) + 1 ≤ (z.row.length : Int) := by omega
  have h05 : (z.row.length : Int) ≤ (cr : Int) := by omega
  have HSL : Hid (∀ V : World, (Instr.slice 58 (.slice (some ⟨g, 0, none⟩) z.row.length cr) (some (.int .i64 ((i : Int) + 1))) none none).run Try.prog V = .ok (.slice (some a2) (z.row.length - (i + 1)) (cr - (i + 1))) V) := fun V => by
    have ht : Try.prog.underlying 58 = some (.slice (Try.prog.elem 58)) := by kernel_rfl
    have hsz : (sizeOf (Try.prog.elem 58)).run Try.prog V = .ok 1 V := by kernel_rfl
    rw [run_slice_l V _ _ _ _ ht .i64 ((i : Int) + 1) (by omega) (by omega), hsz]
    have e1 : ((i : Int) + 1).toNat = i + 1 := by omega
    simp only [Result.andThen, sliced, e1, ← ha2, Option.map_some, Nat.mul_one]
    rw [plus_add]
  have HRUN := Lib.hid hrun
  have HC1 := Lib.hid c1d
  have HC2 := Lib.hid k1
  have HF2 := Lib.hid kf
  clear hm hm1 hlow hs hp hpv hlen hwd hrun hrow hout hA hgr hbk2 hO2 hb3 hr3 hm3 hOF hel c1d k1 kf hi0 hz0 hz1 hz2 hrd ha2
  unfold P1 at c2
  generalize z.row.length = n at *
  obtain ⟨Ws, E0, E1, E2⟩ : ∃ Ws : Nat → World, Hid (Ws 0 = w.drew) ∧ Hid (Ws 1 = W2) ∧ Hid (Ws 2 = W2.setCell ⟨gz, 1, none⟩ (.slice A' (i + (n - (i + 1))) c')) := ⟨fun k => match k with | 0 => w.drew | 1 => W2 | _ => W2.setCell ⟨gz, 1, none⟩ (.slice A' (i + (n - (i + 1))) c'), rfl, rfl, rfl⟩
  have hw1 : IntKind.i64.wrap ((i : Int) + 1) = (i : Int) + 1 := IntWalk.i64_in _ (by omega)
  go_enter Try.func36, Try.ntmps36
  go_wp2_with fail
  refine wp_region_line (fun k => ([.pointer (some ⟨gz, 0, none⟩), .pointer (some ⟨gz, 0, none⟩), .pointer (some ⟨gz, 0, none⟩), .pointer (some ⟨gz, 1, none⟩), .slice (some ⟨g, 0, none⟩) n cr, .int .i64 (i : Int), .int .i64 (i : Int), .slice (some ⟨g, 0, none⟩) i i, .pointer (some ⟨gz, 0, none⟩), .pointer (some ⟨gz, 0, none⟩), .pointer (some ⟨gz, 1, none⟩), .slice (some ⟨g, 0, none⟩) n cr, .int .i64 (i : Int), .int .i64 ((i : Int) + 1), .slice (some a2) (n - (i + 1)) (cr - (i + 1)), .slice A' (i + (n - (i + 1))) c', .pointer (some ⟨gz, 0, none⟩), .pointer (some ⟨gz, 1, none⟩), undef] : List Value).getD k undef) [15, 18] Ws 20 (by kernel_rfl) (by kernel_rfl) E0.out ?hin ?hchain ?hsteps ?F ?hF ?hend
  case hF =>
    simp only [List.length_cons, List.length_nil, Nat.zero_add, Nat.reduceAdd, Phase.final, List.getElem?_toArray, List.getElem?_cons_zero, List.getElem?_cons_succ, Option.bind_some, Act.put, List.setIfInBounds_toArray, List.set_cons_zero, List.set_cons_succ]
    exact rfl
  case hin =>
    intro k x hk
    match k, hk with
    | 0, hk => injection hk with hk; subst hk; decide
    | 1, hk => injection hk with hk; subst hk; decide
    | _ + 2, hk => cases hk
  case hchain =>
    intro k x y hx hy
    match k, hx, hy with
    | 0, hx, hy => injection hx with hx; injection hy with hy; subst hx hy; show reachB _ _ _ _ = true; kernel_rfl
    | 1, _, hy => cases hy
    | _ + 2, hx, _ => cases hx
  case hsteps =>
    refine stepsL_cons ?_ (stepsL_cons ?_ (stepsL_cons ?_ (stepsL_cons ?_ (stepsL_cons ?_ (stepsL_cons ?_ (stepsL_cons ?_ (stepsL_cons ?_ (stepsL_cons ?_ (stepsL_cons ?_ (stepsL_cons ?_ (stepsL_cons ?_ (stepsL_cons ?_ (stepsL_cons ?_ (stepsL_cons ?_ (stepsL_cons ?_ (stepsL_cons ?_ (stepsL_cons ?_ (stepsL_cons ?_ (stepsL_nil)))))))))))))))))))
    · refine step_stays (by decide) fun a s hs hd h2 h3 K hK => ?_
      have h0 : a.tmps.getD 0 undef = .pointer (some ⟨gz, 0, none⟩) := hd.kept 0 (by kernel_rfl)
      unfold Oper.wp
      go_simp
      exact hK
    · refine step_stays (by decide) fun a s hs hd h2 h3 K hK => ?_
      have h0 : a.tmps.getD 0 undef = .pointer (some ⟨gz, 0, none⟩) := hd.kept 0 (by kernel_rfl)
      unfold Oper.wp
      go_simp
      exact hK
    · refine step_stays (by decide) fun a s hs hd h2 h3 K hK => ?_
      have h14 : a.tmps.getD 14 undef = .pointer (some ⟨gz, 0, none⟩) := hd.done_ 1 _ 14 (by kernel_rfl) rfl rfl
      unfold Oper.wp
      go_simp
      exact hK
    · refine step_stays (by decide) fun a s hs hd h2 h3 K hK => ?_
      have h15 : a.tmps.getD 15 undef = .pointer (some ⟨gz, 0, none⟩) := hd.done_ 2 _ 15 (by kernel_rfl) rfl rfl
      unfold Oper.wp
      go_simp
      exact hK
    · refine step_stays (by decide) fun a s hs hd h2 h3 K hK => ?_
      have h16 : a.tmps.getD 16 undef = .pointer (some ⟨gz, 1, none⟩) := hd.done_ 3 _ 16 (by kernel_rfl) rfl rfl
      have e0 : s = 0 := by have := h2 0 15 rfl (by kernel_rfl); omega
      subst e0
      have kc := HC1.out
      rw [E0.out] at hK ⊢
      unfold Oper.wp
      go_simp
      exact hK
    · refine step_stays (by decide) fun a s hs hd h2 h3 K hK => ?_
      have h1 : a.tmps.getD 1 undef = .int .i64 (i : Int) := hd.kept 1 (by kernel_rfl)
      unfold Oper.wp
      go_simp
      exact hK
    · refine step_stays (by decide) fun a s hs hd h2 h3 K hK => ?_
      have h1 : a.tmps.getD 1 undef = .int .i64 (i : Int) := hd.kept 1 (by kernel_rfl)
      unfold Oper.wp
      go_simp
      exact hK
    · refine step_stays (by decide) fun a s hs hd h2 h3 K hK => ?_
      have h17 : a.tmps.getD 17 undef = .slice (some ⟨g, 0, none⟩) n cr := hd.done_ 4 _ 17 (by kernel_rfl) rfl rfl
      have h18 : a.tmps.getD 18 undef = .int .i64 (i : Int) := hd.done_ 5 _ 18 (by kernel_rfl) rfl rfl
      have h19 : a.tmps.getD 19 undef = .int .i64 (i : Int) := hd.done_ 6 _ 19 (by kernel_rfl) rfl rfl
      
      unfold Oper.wp
      go_simp
      exact hK
    · refine step_stays (by decide) fun a s hs hd h2 h3 K hK => ?_
      have h0 : a.tmps.getD 0 undef = .pointer (some ⟨gz, 0, none⟩) := hd.kept 0 (by kernel_rfl)
      unfold Oper.wp
      go_simp
      exact hK
    · refine step_stays (by decide) fun a s hs hd h2 h3 K hK => ?_
      have h21 : a.tmps.getD 21 undef = .pointer (some ⟨gz, 0, none⟩) := hd.done_ 8 _ 21 (by kernel_rfl) rfl rfl
      unfold Oper.wp
      go_simp
      exact hK
    · refine step_stays (by decide) fun a s hs hd h2 h3 K hK => ?_
      have h22 : a.tmps.getD 22 undef = .pointer (some ⟨gz, 0, none⟩) := hd.done_ 9 _ 22 (by kernel_rfl) rfl rfl
      unfold Oper.wp
      go_simp
      exact hK
    · refine step_stays (by decide) fun a s hs hd h2 h3 K hK => ?_
      have h23 : a.tmps.getD 23 undef = .pointer (some ⟨gz, 1, none⟩) := hd.done_ 10 _ 23 (by kernel_rfl) rfl rfl
      have e0 : s = 0 := by have := h2 0 15 rfl (by kernel_rfl); omega
      subst e0
      have kc := HC1.out
      rw [E0.out] at hK ⊢
      unfold Oper.wp
      go_simp
      exact hK
    · refine step_stays (by decide) fun a s hs hd h2 h3 K hK => ?_
      have h1 : a.tmps.getD 1 undef = .int .i64 (i : Int) := hd.kept 1 (by kernel_rfl)
      unfold Oper.wp
      go_simp
      exact hK
    · refine step_stays (by decide) fun a s hs hd h2 h3 K hK => ?_
      have h25 : a.tmps.getD 25 undef = .int .i64 (i : Int) := hd.done_ 12 _ 25 (by kernel_rfl) rfl rfl
      unfold Oper.wp
      go_simp
      exact hK
    · refine step_stays (by decide) fun a s hs hd h2 h3 K hK => ?_
      have h24 : a.tmps.getD 24 undef = .slice (some ⟨g, 0, none⟩) n cr := hd.done_ 11 _ 24 (by kernel_rfl) rfl rfl
      have h26 : a.tmps.getD 26 undef = .int .i64 ((i : Int) + 1) := hd.done_ 13 _ 26 (by kernel_rfl) rfl rfl
      have ksl := HSL.out (Ws s)
      unfold Oper.wp
      go_simp
      exact hK
    · intro a s hs hd h1 h2 h3 K hK
      obtain rfl := h1 0 rfl
      have h20 : a.tmps.getD 20 undef = .slice (some ⟨g, 0, none⟩) i i := hd.done_ 7 _ 20 (by kernel_rfl) rfl rfl
      have h27 : a.tmps.getD 27 undef = .slice (some a2) (n - (i + 1)) (cr - (i + 1)) := hd.done_ 14 _ 27 (by kernel_rfl) rfl rfl
      have hk := hK 1 (fun h => absurd rfl (h 0)) (fun k hk => by have := h1 k hk; omega)
      have e1 : Act.eval a (.tmp 20) = .slice (some ⟨g, 0, none⟩) i i := h20
      have e2 : Act.eval a (.tmp 27) = .slice (some a2) (n - (i + 1)) (cr - (i + 1)) := h27
      unfold Oper.wp execOp
      simp only [resolve, invoke, builtin, Sem.run_bind, Sem.run_pure, Result.andThen_ok, List.map_toArray, List.map_cons, List.map_nil, e1, e2]
      rw [E0.out]
      rw [E1.out] at hk
      have hru := HRUN.out
      rw [hru]
      exact hk
    · refine step_stays (by decide) fun a s hs hd h2 h3 K hK => ?_
      have h13 : a.tmps.getD 13 undef = .pointer (some ⟨gz, 0, none⟩) := hd.done_ 0 _ 13 (by kernel_rfl) rfl rfl
      unfold Oper.wp
      go_simp
      exact hK
    · refine step_stays (by decide) fun a s hs hd h2 h3 K hK => ?_
      have h29 : a.tmps.getD 29 undef = .pointer (some ⟨gz, 0, none⟩) := hd.done_ 16 _ 29 (by kernel_rfl) rfl rfl
      unfold Oper.wp
      go_simp
      exact hK
    · intro a s hs hd h1 h2 h3 K hK
      obtain rfl := h1 1 rfl
      have h30 : a.tmps.getD 30 undef = .pointer (some ⟨gz, 1, none⟩) := hd.done_ 17 _ 30 (by kernel_rfl) rfl rfl
      have h28 : a.tmps.getD 28 undef = .slice A' (i + (n - (i + 1))) c' := hd.done_ 15 _ 28 (by kernel_rfl) rfl rfl
      have hk := hK 2 (fun h => absurd rfl (h 1)) (fun k hk => by have := h1 k hk; omega)
      rw [E2.out] at hk
      rw [E1.out]
      have hc := HC2.out
      have hfz := HF2.out
      unfold Oper.wp
      go_simp
      exact hk
  case hend =>
    show Exit.then _ _ _ _ _
    have e2 : Ws ([15, 18] : List Nat).length = W2.setCell ⟨gz, 1, none⟩ (.slice A' (i + (n - (i + 1))) c') := E2.out
    rw [e2]
    go_wp2_with fail
    go_ret
    exact HF.out
end
end Go.Proofs.Ytmjipeagbogpmaa.Net
