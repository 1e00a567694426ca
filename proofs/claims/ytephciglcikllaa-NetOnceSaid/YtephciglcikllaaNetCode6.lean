/- net: a letter is cut out of the row. -/
import Derived.Test.YtephciglcikllaaNetCode5
import Derived.Test.YtephciglcikllaaLineStay
namespace Go.Proofs.Ytephciglcikllaa.Net
open Go.RowKit Disk Zab Sto
open Phase (wp_region_line step_stays stepsL_cons stepsL_nil reachB)

section
variable {w0 w : World} {O F : Nat → Prop} {gz : Nat} {As : Option Addr} {cs : Nat} {Ar : Option Addr} {cr gm : Nat} {D : DataW Value} {ps : List Nat} {z : Nt} {N : Nat}
/-- What cutting a letter out comes to. -/
def CutP (w0 : World) (O F : Nat → Prop) (gz : Nat) (As : Option Addr) (cs gm : Nat) (D : DataW Value) (p : Nat) (ps : List Nat) (i : Nat) (z : Nt) (N : Nat) (w : World) (e : Ending) (w' : World) : Prop :=
  ∃ Ar' cr', e = .returned (P1 p) ∧ NtM w' (Oo O w w') F gz As cs Ar' cr' gm D (ps.eraseIdx i) (z.out i) N ∧ Go_ O (Oo O w w') w w' ∧ (∀ b, Oo O w w' b → w0.heap.size ≤ b ∧ b < w'.heap.size) ∧ Out (fun b => O b ∧ ¬ F b) w w'
theorem row_drop {e : TypeId} {n c : Nat} {vs : List Value} {g : Nat} (h : RowE w e (some ⟨g, 0, none⟩) n c vs) {k : Nat} (hk : k ≤ n) : ∃ a2 : Addr, (if c = k then (some ⟨g, 0, none⟩ : Option Addr) else some ⟨g, k, none⟩) = some a2 ∧ RdV w (some a2) (n - k) (vs.drop k) := by
  have hl := h.len
  have hle := h.le
  by_cases hc : c = k
  · rw [if_pos hc]
    have e1 : n - k = 0 := by omega
    have e2 : vs.drop k = [] := List.drop_eq_nil_of_le (by omega)
    rw [e1, e2]
    exact ⟨_, rfl, RdV.nil_ _ _⟩
  · rw [if_neg hc]
    refine ⟨_, rfl, by rw [List.length_drop, hl], fun h0 => ⟨_, rfl, fun j v hj => ?_⟩⟩
    rw [List.getElem?_drop] at hj
    obtain ⟨g', e1, h1⟩ := h.cell hj
    injection e1 with e1
    injection e1 with e1
    subst e1
    have : ((⟨g, k, none⟩ : Addr).add j) = ⟨g, k + j, none⟩ := by unfold Addr.add; split <;> simp_all
    rw [this]
    exact h1
set_option maxRecDepth 8000 in
set_option maxHeartbeats 1000000 in
theorem cutOut_any (hm : NtM w O F gz As cs Ar cr gm D ps z N) (hlow : ∀ b, O b → w0.heap.size ≤ b ∧ b < w.heap.size) (hs : w0.heap.size ≤ w.heap.size) (hf : z.row.length ≤ 4096) {i p : Nat} (hi : i < z.row.length) (hp : ps[i]? = some p) : Calls Try.prog 40 #[.pointer (some ⟨gz, 0, none⟩), .int .i64 (i : Int)] w (CutP w0 O F gz As cs gm D p ps i z N w) := by
  have hwd : Below w.heap.size w w.drew := below_drewN (Below.refl _ w) 1
  have hm1 := hm.below hwd
  obtain ⟨-, c1, -, -⟩ := hm.cells
  have hpv : (ps.map P1)[i]? = some (P1 p) := by rw [List.getElem?_map, hp]; rfl
  obtain ⟨g, rfl, c2⟩ := hm.row.cell hpv
  have hlen : ps.length = z.row.length := by have := hm.row.len; simpa using this
  have hle := hm.row.le
  have h01 : (0 : Int) ≤ (i : Int) := by omega
  have h02 : (i : Int) < (z.row.length : Int) := by omega
  have c1d : w.drew.cell? ⟨gz, 1, none⟩ = some (.slice (some ⟨g, 0, none⟩) z.row.length cr) := c1
  obtain ⟨i0, hi0, hz0, hz1, hz2⟩ := infos info_ptr
  obtain ⟨a2, ha2, hrd⟩ := row_drop hm1.row (k := i + 1) (by omega)
  obtain ⟨A', c', W2, hrun, hrow, hout, hA⟩ := run_row_append (P := Try.prog) (ty := 67) ty_row hi0 hz0 hz1 hz2 (by decide) rfl (hm1.row.take (k := i) (by omega)) hrd (fun u hu => by
    obtain ⟨q, _, rfl⟩ := List.mem_map.1 (List.mem_of_mem_drop hu)
    rfl) (cr - (i + 1)) (by omega)
  have hgr : g ≠ gz := (hm.ro _ rfl).2.1
  have hbk2 : Bk W2 gz 69 #[.slice As z.sizes.length cs, .slice (some ⟨g, 0, none⟩) z.row.length cr, .map (some gm)] := hm1.bk.kept (hout.block gz hm1.bk.lt fun ⟨a, ha, q⟩ => by injection ha with ha; subst ha; exact hgr q)
  have k1 : W2.cell? ⟨gz, 1, none⟩ = some (.slice (some ⟨g, 0, none⟩) z.row.length cr) := hbk2.cell 1
  have kf := hbk2.frozen 1
  have hO2 : Out (fun b => b = gz ∨ ∃ a, (some ⟨g, 0, none⟩ : Option Addr) = some a ∧ a.block = b) w (W2.setCell ⟨gz, 1, none⟩ (.slice A' (i + (z.row.length - (i + 1))) c')) :=
    (((Out.of_below hwd).trans (hout.mono (Y := fun b => b = gz ∨ ∃ a, (some ⟨g, 0, none⟩ : Option Addr) = some a ∧ a.block = b) fun b q => .inl (.inr q)) fun b q => .inl q)).trans (Out.setCell W2 (p := ⟨gz, 1, none⟩) (.inl rfl) _) fun b q => .inl q
  have hel : (z.row.eraseIdx i).length = i + (z.row.length - (i + 1)) := by rw [List.length_eraseIdx_of_lt hi]; omega
  have hb3 : Bk (W2.setCell ⟨gz, 1, none⟩ (.slice A' (i + (z.row.length - (i + 1))) c')) gz 69 #[.slice As z.sizes.length cs, .slice A' (z.row.eraseIdx i).length c', .map (some gm)] := by
    have := hbk2.set 1 (.slice A' (i + (z.row.length - (i + 1))) c')
    rw [hel]
    simpa using this
  have hr3 : RowE (W2.setCell ⟨gz, 1, none⟩ (.slice A' (i + (z.row.length - (i + 1))) c')) 73 A' (z.row.eraseIdx i).length c' ((ps.eraseIdx i).map P1) := by
    rw [hel, eraseIdx_parts, List.map_append, List.map_take, List.map_drop]
    refine hrow.kept fun a ha => Below.heap_setCell _ _ _ _ ?_
    rcases hA a ha with q | q
    · injection q with q; subst q; exact hgr
    · have := hlow gz hm.go.1
      have : w.drew.heap.size = w.heap.size := rfl
      show a.block ≠ gz
      omega
  have hm3 := hm.rerow (fun b hb => (hlow b hb).2) hO2 hb3 hr3 hA fun j q y h1 h2 => by
    rw [List.getElem?_eraseIdx] at h1 h2
    split at h1
    · rw [if_pos ‹_›] at h2; exact hm.each j q y h1 h2
    · rw [if_neg ‹_›] at h2; exact hm.each (j + 1) q y h1 h2
  have hOF : Out (fun b => O b ∧ ¬ F b) w (W2.setCell ⟨gz, 1, none⟩ (.slice A' (i + (z.row.length - (i + 1))) c')) := hO2.mono fun b q => .inl (by
    rcases q with rfl | ⟨a, ha, rfl⟩
    · exact ⟨hm.go.1, fun h => (hm.fo _ h).2.1 rfl⟩
    · exact ⟨(hm.ro a ha).1, fun h => (hm.fo _ h).2.2.2 a ha rfl⟩)
  have HF : Hid (CutP w0 O F gz As cs gm D p ps i z N w (.returned (P1 p)) (W2.setCell ⟨gz, 1, none⟩ (.slice A' (i + (z.row.length - (i + 1))) c'))) :=
    ⟨A', c', rfl, hm3, ⟨hOF.mono fun b q => .inl q.1, fun b hb => hb.imp id fun q => q.1⟩, fun b hb => by
      rcases hb with hb | hb
      · exact ⟨(hlow b hb).1, Nat.lt_of_lt_of_le (hlow b hb).2 hO2.size⟩
      · exact ⟨by omega, hb.2⟩, hOF⟩
  have h03 : (i : Int) ≤ (cr : Int) := by omega
  have h04 : (i : Int) + 1 ≤ (z.row.length : Int) := by omega
  have h05 : (z.row.length : Int) ≤ (cr : Int) := by omega
  have HSL : Hid (∀ V : World, (Instr.slice 67 (.slice (some ⟨g, 0, none⟩) z.row.length cr) (some (.int .i64 ((i : Int) + 1))) none none).run Try.prog V = .ok (.slice (some a2) (z.row.length - (i + 1)) (cr - (i + 1))) V) := fun V => by
    have ht : Try.prog.underlying 67 = some (.slice (Try.prog.elem 67)) := by kernel_rfl
    have hsz : (sizeOf (Try.prog.elem 67)).run Try.prog V = .ok 1 V := by kernel_rfl
    rw [run_slice_l V _ _ _ _ ht .i64 ((i : Int) + 1) (by omega) (by omega), hsz]
    have e1 : ((i : Int) + 1).toNat = i + 1 := by omega
    simp only [Result.andThen, sliced, e1, ← ha2, Option.map_some, Nat.mul_one]
    rw [plus_add]
  have HRUN := Lib.hid hrun
  have HC1 := Lib.hid c1d
  have HC2 := Lib.hid k1
  have HF2 := Lib.hid kf
  clear hm hm1 hlow hs hp hpv hlen hwd hrun hrow hout hA hgr hbk2 hO2 hb3 hr3 hm3 hOF hel c1d k1 kf hi0 hz0 hz1 hz2 hrd ha2
  unfold P1 at c2
  generalize z.row.length = n at *
  obtain ⟨Ws, E0, E1, E2⟩ : ∃ Ws : Nat → World, Hid (Ws 0 = w.drew) ∧ Hid (Ws 1 = W2) ∧ Hid (Ws 2 = W2.setCell ⟨gz, 1, none⟩ (.slice A' (i + (n - (i + 1))) c')) := ⟨fun k => match k with | 0 => w.drew | 1 => W2 | _ => W2.setCell ⟨gz, 1, none⟩ (.slice A' (i + (n - (i + 1))) c'), rfl, rfl, rfl⟩
  have hw1 : IntKind.i64.wrap ((i : Int) + 1) = (i : Int) + 1 := IntWalk.i64_in _ (by omega)
  go_enter Try.func40, Try.ntmps40
  go_wp2_with fail
  refine wp_region_line (fun k => ([.pointer (some ⟨gz, 0, none⟩), .pointer (some ⟨gz, 0, none⟩), .pointer (some ⟨gz, 0, none⟩), .pointer (some ⟨gz, 1, none⟩), .slice (some ⟨g, 0, none⟩) n cr, .int .i64 (i : Int), .int .i64 (i : Int), .slice (some ⟨g, 0, none⟩) i i, .pointer (some ⟨gz, 0, none⟩), .pointer (some ⟨gz, 0, none⟩), .pointer (some ⟨gz, 1, none⟩), .slice (some ⟨g, 0, none⟩) n cr, .int .i64 (i : Int), .int .i64 ((i : Int) + 1), .slice (some a2) (n - (i + 1)) (cr - (i + 1)), .slice A' (i + (n - (i + 1))) c', .pointer (some ⟨gz, 0, none⟩), .pointer (some ⟨gz, 1, none⟩), undef] : List Value).getD k undef) [15, 18] Ws 20 (by kernel_rfl) (by kernel_rfl) E0.out ?hin ?hchain ?hsteps ?F ?hF ?hend
  case hF =>
    simp only [List.length_cons, List.length_nil, Nat.zero_add, Nat.reduceAdd, Phase.final, List.getElem?_toArray, List.getElem?_cons_zero, List.getElem?_cons_succ, Option.bind_some, Act.put, List.setIfInBounds_toArray, List.set_cons_zero, List.set_cons_succ]
    exact rfl
  case hin =>
    intro k x hk
    match k, hk with
    | 0, hk => injection hk with hk; subst hk; decide
    | 1, hk => injection hk with hk; subst hk; decide
    | _ + 2, hk => cases hk
  case hchain =>
    intro k x y hx hy
    match k, hx, hy with
    | 0, hx, hy => injection hx with hx; injection hy with hy; subst hx hy; show reachB _ _ _ _ = true; kernel_rfl
    | 1, _, hy => cases hy
    | _ + 2, hx, _ => cases hx
  case hsteps =>
    refine stepsL_cons ?_ (stepsL_cons ?_ (stepsL_cons ?_ (stepsL_cons ?_ (stepsL_cons ?_ (stepsL_cons ?_ (stepsL_cons ?_ (stepsL_cons ?_ (stepsL_cons ?_ (stepsL_cons ?_ (stepsL_cons ?_ (stepsL_cons ?_ (stepsL_cons ?_ (stepsL_cons ?_ (stepsL_cons ?_ (stepsL_cons ?_ (stepsL_cons ?_ (stepsL_cons ?_ (stepsL_cons ?_ (stepsL_nil)))))))))))))))))))
    · refine step_stays (by decide) fun a s hs hd h2 h3 K hK => ?_
      have h0 : a.tmps.getD 0 undef = .pointer (some ⟨gz, 0, none⟩) := hd.kept 0 (by kernel_rfl)
      unfold Oper.wp
      go_simp
      exact hK
    · refine step_stays (by decide) fun a s hs hd h2 h3 K hK => ?_
      have h0 : a.tmps.getD 0 undef = .pointer (some ⟨gz, 0, none⟩) := hd.kept 0 (by kernel_rfl)
      unfold Oper.wp
      go_simp
      exact hK
    · refine step_stays (by decide) fun a s hs hd h2 h3 K hK => ?_
      have h14 : a.tmps.getD 14 undef = .pointer (some ⟨gz, 0, none⟩) := hd.done_ 1 _ 14 (by kernel_rfl) rfl rfl
      unfold Oper.wp
      go_simp
      exact hK
    · refine step_stays (by decide) fun a s hs hd h2 h3 K hK => ?_
      have h15 : a.tmps.getD 15 undef = .pointer (some ⟨gz, 0, none⟩) := hd.done_ 2 _ 15 (by kernel_rfl) rfl rfl
      unfold Oper.wp
      go_simp
      exact hK
    · refine step_stays (by decide) fun a s hs hd h2 h3 K hK => ?_
      have h16 : a.tmps.getD 16 undef = .pointer (some ⟨gz, 1, none⟩) := hd.done_ 3 _ 16 (by kernel_rfl) rfl rfl
      have e0 : s = 0 := by have := h2 0 15 rfl (by kernel_rfl); omega
      subst e0
      have kc := HC1.out
      rw [E0.out] at hK ⊢
      unfold Oper.wp
      go_simp
      exact hK
    · refine step_stays (by decide) fun a s hs hd h2 h3 K hK => ?_
      have h1 : a.tmps.getD 1 undef = .int .i64 (i : Int) := hd.kept 1 (by kernel_rfl)
      unfold Oper.wp
      go_simp
      exact hK
    · refine step_stays (by decide) fun a s hs hd h2 h3 K hK => ?_
      have h1 : a.tmps.getD 1 undef = .int .i64 (i : Int) := hd.kept 1 (by kernel_rfl)
      unfold Oper.wp
      go_simp
      exact hK
    · refine step_stays (by decide) fun a s hs hd h2 h3 K hK => ?_
      have h17 : a.tmps.getD 17 undef = .slice (some ⟨g, 0, none⟩) n cr := hd.done_ 4 _ 17 (by kernel_rfl) rfl rfl
      have h18 : a.tmps.getD 18 undef = .int .i64 (i : Int) := hd.done_ 5 _ 18 (by kernel_rfl) rfl rfl
      have h19 : a.tmps.getD 19 undef = .int .i64 (i : Int) := hd.done_ 6 _ 19 (by kernel_rfl) rfl rfl
      
      unfold Oper.wp
      go_simp
      exact hK
    · refine step_stays (by decide) fun a s hs hd h2 h3 K hK => ?_
      have h0 : a.tmps.getD 0 undef = .pointer (some ⟨gz, 0, none⟩) := hd.kept 0 (by kernel_rfl)
      unfold Oper.wp
      go_simp
      exact hK
    · refine step_stays (by decide) fun a s hs hd h2 h3 K hK => ?_
      have h21 : a.tmps.getD 21 undef = .pointer (some ⟨gz, 0, none⟩) := hd.done_ 8 _ 21 (by kernel_rfl) rfl rfl
      unfold Oper.wp
      go_simp
      exact hK
    · refine step_stays (by decide) fun a s hs hd h2 h3 K hK => ?_
      have h22 : a.tmps.getD 22 undef = .pointer (some ⟨gz, 0, none⟩) := hd.done_ 9 _ 22 (by kernel_rfl) rfl rfl
      unfold Oper.wp
      go_simp
      exact hK
    · refine step_stays (by decide) fun a s hs hd h2 h3 K hK => ?_
      have h23 : a.tmps.getD 23 undef = .pointer (some ⟨gz, 1, none⟩) := hd.done_ 10 _ 23 (by kernel_rfl) rfl rfl
      have e0 : s = 0 := by have := h2 0 15 rfl (by kernel_rfl); omega
      subst e0
      have kc := HC1.out
      rw [E0.out] at hK ⊢
      unfold Oper.wp
      go_simp
      exact hK
    · refine step_stays (by decide) fun a s hs hd h2 h3 K hK => ?_
      have h1 : a.tmps.getD 1 undef = .int .i64 (i : Int) := hd.kept 1 (by kernel_rfl)
      unfold Oper.wp
      go_simp
      exact hK
    · refine step_stays (by decide) fun a s hs hd h2 h3 K hK => ?_
      have h25 : a.tmps.getD 25 undef = .int .i64 (i : Int) := hd.done_ 12 _ 25 (by kernel_rfl) rfl rfl
      unfold Oper.wp
      go_simp
      exact hK
    · refine step_stays (by decide) fun a s hs hd h2 h3 K hK => ?_
      have h24 : a.tmps.getD 24 undef = .slice (some ⟨g, 0, none⟩) n cr := hd.done_ 11 _ 24 (by kernel_rfl) rfl rfl
      have h26 : a.tmps.getD 26 undef = .int .i64 ((i : Int) + 1) := hd.done_ 13 _ 26 (by kernel_rfl) rfl rfl
      have ksl := HSL.out (Ws s)
      unfold Oper.wp
      go_simp
      exact hK
    · intro a s hs hd h1 h2 h3 K hK
      obtain rfl := h1 0 rfl
      have h20 : a.tmps.getD 20 undef = .slice (some ⟨g, 0, none⟩) i i := hd.done_ 7 _ 20 (by kernel_rfl) rfl rfl
      have h27 : a.tmps.getD 27 undef = .slice (some a2) (n - (i + 1)) (cr - (i + 1)) := hd.done_ 14 _ 27 (by kernel_rfl) rfl rfl
      have hk := hK 1 (fun h => absurd rfl (h 0)) (fun k hk => by have := h1 k hk; omega)
      have e1 : Act.eval a (.tmp 20) = .slice (some ⟨g, 0, none⟩) i i := h20
      have e2 : Act.eval a (.tmp 27) = .slice (some a2) (n - (i + 1)) (cr - (i + 1)) := h27
      unfold Oper.wp execOp
      simp only [resolve, invoke, builtin, Sem.run_bind, Sem.run_pure, Result.andThen_ok, List.map_toArray, List.map_cons, List.map_nil, e1, e2]
      rw [E0.out]
      rw [E1.out] at hk
      have hru := HRUN.out
      rw [hru]
      exact hk
    · refine step_stays (by decide) fun a s hs hd h2 h3 K hK => ?_
      have h13 : a.tmps.getD 13 undef = .pointer (some ⟨gz, 0, none⟩) := hd.done_ 0 _ 13 (by kernel_rfl) rfl rfl
      unfold Oper.wp
      go_simp
      exact hK
    · refine step_stays (by decide) fun a s hs hd h2 h3 K hK => ?_
      have h29 : a.tmps.getD 29 undef = .pointer (some ⟨gz, 0, none⟩) := hd.done_ 16 _ 29 (by kernel_rfl) rfl rfl
      unfold Oper.wp
      go_simp
      exact hK
    · intro a s hs hd h1 h2 h3 K hK
      obtain rfl := h1 1 rfl
      have h30 : a.tmps.getD 30 undef = .pointer (some ⟨gz, 1, none⟩) := hd.done_ 17 _ 30 (by kernel_rfl) rfl rfl
      have h28 : a.tmps.getD 28 undef = .slice A' (i + (n - (i + 1))) c' := hd.done_ 15 _ 28 (by kernel_rfl) rfl rfl
      have hk := hK 2 (fun h => absurd rfl (h 1)) (fun k hk => by have := h1 k hk; omega)
      rw [E2.out] at hk
      rw [E1.out]
      have hc := HC2.out
      have hfz := HF2.out
      unfold Oper.wp
      go_simp
      exact hk
  case hend =>
    show Exit.then _ _ _ _ _
    have e2 : Ws ([15, 18] : List Nat).length = W2.setCell ⟨gz, 1, none⟩ (.slice A' (i + (n - (i + 1))) c') := E2.out
    rw [e2]
    go_wp2_with fail
    go_ret
    exact HF.out
end
end Go.Proofs.Ytephciglcikllaa.Net
