/- net: Cut, Heal. -/
import Derived.Test.YtephciglcikllaaNetCode7
namespace Go.Proofs.Ytephciglcikllaa.Net
open Go.RowKit Disk Zab Sto

section
variable {w0 w : World} {O F : Nat → Prop} {gz : Nat} {As : Option Addr} {cs : Nat} {Ar : Option Addr} {cr gm : Nat} {D : DataW Value} {ps : List Nat} {z : Nt} {N : Nat}
theorem NtM.remap (h : NtM w O F gz As cs Ar cr gm D ps z N) {w' : World} (ho : Out (fun b => b = gm) w w') {f : Ad × Ad → Bool} {D' : DataW Value} {M : Nat} (hk : KMap linkT w' gm (cutV f) M D') : NtM w' O F gz As cs Ar cr gm D' ps { z with cut := f } M := by
  obtain ⟨h1, h2, h3, h4, h5, h6, h7, h8, h9⟩ := h
  refine ⟨h1.kept (ho.block _ h1.lt (Ne.symm h8.2.2)), h2, rdv_out h3 ho fun a ha h0 => (h2 _ (h4 a ha h0)).2.2.1, h4, h5.kept fun a ha => ho.block _ (h5.lt a ha) (h6 a ha).2.2, h6, fun i p l hp hl => ?_, h8, hk⟩
  obtain ⟨q1, q2⟩ := h7 i p l hp hl
  exact ⟨q1, q2.out ho (h2 _ q1).2.2.1 fun b hb => (h2 _ hb).2.2.1⟩
set_option maxRecDepth 8000 in
set_option maxHeartbeats 1000000 in
theorem Cut_any (h : NtAt w0 w O gz z N) (hN : N < 1000000) (a b : Ad) : Calls Try.prog 23 #[.pointer (some ⟨gz, 0, none⟩), adV a, adV b] w (DidN w0 O gz (.int .i64 (z.turn a b true).2) (z.turn a b true).1 (N + 1) w) := by
  have hB : Below w.heap.size w ((w.alloc (.cells #[.int .i64 a.g, .int .i64 a.n] 34)).alloc (.cells #[.int .i64 b.g, .int .i64 b.n] 34)) := ((Below.refl _ _).alloc (Nat.le_refl _) _).alloc (by simp) _
  have B1 := (Bk.new w 34 #[.int .i64 a.g, .int .i64 a.n]).alloc (.cells #[.int .i64 b.g, .int .i64 b.n] 34)
  have B2 : Bk ((w.alloc (.cells #[.int .i64 a.g, .int .i64 a.n] 34)).alloc (.cells #[.int .i64 b.g, .int .i64 b.n] 34)) (w.heap.size + 1) 34 #[.int .i64 b.g, .int .i64 b.n] := by simpa using Bk.new (w.alloc (.cells #[.int .i64 a.g, .int .i64 a.n] 34)) 34 #[.int .i64 b.g, .int .i64 b.n]
  have CF := Lib.hid (faultOf_any (h.below hB) a b)
  have CL := Lib.hid (linkOf_any a b)
  have hc := h.below hB
  have HB := Lib.hid hB
  have HH := Lib.hid h
  clear hB
  obtain ⟨r, hr⟩ : ∃ r, r = z.turn a b true := ⟨_, rfl⟩
  rw [← hr]
  unfold adV at CF CL ⊢
  have k1 := B1.cell 0
  have k2 := B1.cell 1
  have k3 := B2.cell 0
  have k4 := B2.cell 1
  by_cases hi : z.link a b = true
  · have e : Hid (r = ({ z with cut := fun l => if l = linkOf a b then true else z.cut l }, 0)) := by
      show _ = _
      rw [hr]; unfold Nt.turn; rw [if_neg (by rw [hi]; simp)]
    rw [hi, okC_t] at CF
    have hok := h.ok.turn a b true
    rw [← hr] at hok
    have HOK := Lib.hid hok
    obtain ⟨ha, hb⟩ := link_wf h.ok.sizes hi
    obtain ⟨hz, _, hlow, F, As, cs, Ar, cr, gm, D, ps, hm⟩ := hc
    have HM := Lib.hid hm
    have HLOW := Lib.hid hlow
    have HN := Lib.hid hN
    have HC : Hid (∀ V, Below ((w.alloc (.cells #[.int .i64 a.g, .int .i64 a.n] 34)).alloc (.cells #[.int .i64 b.g, .int .i64 b.n] 34)).heap.size ((w.alloc (.cells #[.int .i64 a.g, .int .i64 a.n] 34)).alloc (.cells #[.int .i64 b.g, .int .i64 b.n] 34)) V → (V.cell? ⟨gz, 2, none⟩ = some (.map (some gm)) ∧ V.cell? ⟨w.heap.size, 0, none⟩ = some (.int .i64 a.g) ∧ V.cell? ⟨w.heap.size, 1, none⟩ = some (.int .i64 a.n) ∧ V.cell? ⟨w.heap.size + 1, 0, none⟩ = some (.int .i64 b.g) ∧ V.cell? ⟨w.heap.size + 1, 1, none⟩ = some (.int .i64 b.n))) := fun V hV =>
      ⟨(HM.out.below hV).cells.2.2.1, (B1.below hV).cell 0, (B1.below hV).cell 1, (B2.below hV).cell 0, (B2.below hV).cell 1⟩
    have HP : Hid (∀ V, Below ((w.alloc (.cells #[.int .i64 a.g, .int .i64 a.n] 34)).alloc (.cells #[.int .i64 b.g, .int .i64 b.n] 34)).heap.size ((w.alloc (.cells #[.int .i64 a.g, .int .i64 a.n] 34)).alloc (.cells #[.int .i64 b.g, .int .i64 b.n] 34)) V → ∃ V2, (Instr.mapUpdate 66 (.map (some gm)) (lkV (linkOf a b)) (.bool true)).run Try.prog V = .ok () V2 ∧ DidN w0 O gz (.int .i64 0) r.1 (N + 1) w (.returned (.int .i64 0)) V2 ∧ (V2.cell? ⟨gz, 2, none⟩ = some (.map (some gm)) ∧ V2.cell? ⟨w.heap.size, 0, none⟩ = some (.int .i64 a.g) ∧ V2.cell? ⟨w.heap.size, 1, none⟩ = some (.int .i64 a.n) ∧ V2.cell? ⟨w.heap.size + 1, 0, none⟩ = some (.int .i64 b.g) ∧ V2.cell? ⟨w.heap.size + 1, 1, none⟩ = some (.int .i64 b.n))) := fun V hV => by
      obtain ⟨V2, D', hrun, hk, ho⟩ := (HM.out.below hV).map.put ty_cuts (linkOf a b) (linkOf_wf ha hb) (.bool true) (by have := HN.out; omega)
      rw [cutV_put] at hk
      have hm2 := (HM.out.below hV).remap ho hk
      have hg := HH.out.low gm HM.out.go.2.1
      have e1 := B1.below hV
      have e2 := B2.below hV
      have f1 : Bk V2 w.heap.size _ _ := e1.kept (ho.block _ e1.lt (by omega))
      have f2 : Bk V2 (w.heap.size + 1) _ _ := e2.kept (ho.block _ e2.lt (by omega))
      refine ⟨V2, hrun, ⟨O, rfl, ⟨HOK.out, HM.out.go.1, fun b hb => ⟨(HLOW.out b hb).1, Nat.lt_of_lt_of_le (HLOW.out b hb).2 (Nat.le_trans hV.size ho.size)⟩, F, As, cs, Ar, cr, gm, D', ps, by rw [e.out]; exact hm2⟩, ((Out.of_below (HB.out.trans (hV.mono HB.out.size))).trans (ho.mono (Y := O) fun b hb => .inl (by subst hb; exact HM.out.go.2.1)) fun b q => .inl q), fun b hb => .inl hb⟩, hm2.bk.cell 2, f1.cell 0, f1.cell 1, f2.cell 0, f2.cell 1⟩
    clear h hz hlow hm hi hok ha hb hN hr HM HLOW HN HOK HH B1 B2
    have er : Hid (r.2 = 0) := by show _ = _; rw [e.out]
    clear e
    generalize hw : (w.alloc (.cells #[.int .i64 a.g, .int .i64 a.n] 34)).alloc (.cells #[.int .i64 b.g, .int .i64 b.n] 34) = W at *
    go_enter Try.func23, Try.ntmps23
    go_wp2_with fail
    refine CF.out.mono ?_
    rintro e w1 ⟨rfl, hb1⟩
    have HSD := Lib.hid (HC.out w1.drew (below_drewN hb1 1))
    have HSW := Lib.hid (HC.out w1 hb1)
    obtain ⟨k1', k2', k3', k4', k5'⟩ := HSW.out
    have HB1 := Lib.hid (below_drewN hb1 1)
    clear CF hb1 k1 k2 k3 k4
    go_wp2_with fail
    go_region_held3 (fun V => V.cell? ⟨gz, 2, none⟩ = some (.map (some gm)) ∧ V.cell? ⟨w.heap.size, 0, none⟩ = some (.int .i64 a.g) ∧ V.cell? ⟨w.heap.size, 1, none⟩ = some (.int .i64 a.n) ∧ V.cell? ⟨w.heap.size + 1, 0, none⟩ = some (.int .i64 b.g) ∧ V.cell? ⟨w.heap.size + 1, 1, none⟩ = some (.int .i64 b.n))
      (first | (with_reducible assumption) | (with_reducible exact HSD.out) | (with_reducible exact HS1.out) | (with_reducible exact HS2.out))
      (first | (go_at_call 36; (with_reducible refine (CL.out _).mono ?_); rintro e w2 ⟨rfl, hb2⟩; have HB2 := Lib.hid (HB1.out.trans (hb2.mono HB1.out.size)); have HS1 := Lib.hid (HC.out w2 HB2.out); obtain ⟨w3, hrun, hd3, hs3⟩ := HP.out w2 HB2.out; have HD3 := Lib.hid hd3; have HS2 := Lib.hid hs3; clear hb2 hd3 hs3))
    go_wp2_with fail
    go_ret
    rw [er.out]
    exact HD3.out
  · have hi : z.link a b = false := by simpa using hi
    have e : Hid (r = (z, 1)) := by show _ = _; rw [hr]; unfold Nt.turn; rw [if_pos hi]
    rw [hi, okC_f] at CF
    clear hr hc hi B1 B2
    have HF := Lib.hid (fun W (hW : Below w.heap.size w W) => DidN.same (v := .int .i64 1) (h.mono (Nat.le_succ N)) hW)
    clear h HH
    generalize hw : (w.alloc (.cells #[.int .i64 a.g, .int .i64 a.n] 34)).alloc (.cells #[.int .i64 b.g, .int .i64 b.n] 34) = W at *
    go_enter Try.func23, Try.ntmps23
    go_wp2_with fail
    refine CF.out.mono ?_
    rintro e w1 ⟨rfl, hb1⟩
    have HB1 := Lib.hid (HB.out.trans (hb1.mono HB.out.size))
    clear CF hb1
    go_wp2_with fail
    go_ret
    rw [e.out]
    exact HF.out _ HB1.out
set_option maxRecDepth 8000 in
theorem Cut_nil (a b : Ad) (w : World) : Calls Try.prog 23 #[.pointer none, adV a, adV b] w fun e w' => e = .returned (.int .i64 8) ∧ Below w.heap.size w w' := by
  have hB : Below w.heap.size w ((w.alloc (.cells #[.int .i64 a.g, .int .i64 a.n] 34)).alloc (.cells #[.int .i64 b.g, .int .i64 b.n] 34)) := ((Below.refl _ _).alloc (Nat.le_refl _) _).alloc (by simp) _
  have CF := Lib.hid (faultOf_nil a b ((w.alloc (.cells #[.int .i64 a.g, .int .i64 a.n] 34)).alloc (.cells #[.int .i64 b.g, .int .i64 b.n] 34)))
  have B1 := (Bk.new w 34 #[.int .i64 a.g, .int .i64 a.n]).alloc (.cells #[.int .i64 b.g, .int .i64 b.n] 34)
  have B2 : Bk ((w.alloc (.cells #[.int .i64 a.g, .int .i64 a.n] 34)).alloc (.cells #[.int .i64 b.g, .int .i64 b.n] 34)) (w.heap.size + 1) 34 #[.int .i64 b.g, .int .i64 b.n] := by simpa using Bk.new (w.alloc (.cells #[.int .i64 a.g, .int .i64 a.n] 34)) 34 #[.int .i64 b.g, .int .i64 b.n]
  have k1 := B1.cell 0
  have k2 := B1.cell 1
  have k3 := B2.cell 0
  have k4 := B2.cell 1
  have HB := Lib.hid hB
  clear hB B1 B2
  unfold adV at CF ⊢
  generalize hw : (w.alloc (.cells #[.int .i64 a.g, .int .i64 a.n] 34)).alloc (.cells #[.int .i64 b.g, .int .i64 b.n] 34) = W at *
  go_enter Try.func23, Try.ntmps23
  go_wp2_with fail
  refine CF.out.mono ?_
  rintro e w1 ⟨rfl, hb1⟩
  have HB1 := Lib.hid (HB.out.trans (hb1.mono HB.out.size))
  clear CF hb1
  go_wp2_with fail
  go_ret
  exact ⟨rfl, HB1.out⟩
set_option maxRecDepth 8000 in
set_option maxHeartbeats 1000000 in
theorem Heal_any (h : NtAt w0 w O gz z N) (hN : N < 1000000) (a b : Ad) : Calls Try.prog 25 #[.pointer (some ⟨gz, 0, none⟩), adV a, adV b] w (DidN w0 O gz (.int .i64 (z.turn a b false).2) (z.turn a b false).1 (N + 1) w) := by
  have hB : Below w.heap.size w ((w.alloc (.cells #[.int .i64 a.g, .int .i64 a.n] 34)).alloc (.cells #[.int .i64 b.g, .int .i64 b.n] 34)) := ((Below.refl _ _).alloc (Nat.le_refl _) _).alloc (by simp) _
  have B1 := (Bk.new w 34 #[.int .i64 a.g, .int .i64 a.n]).alloc (.cells #[.int .i64 b.g, .int .i64 b.n] 34)
  have B2 : Bk ((w.alloc (.cells #[.int .i64 a.g, .int .i64 a.n] 34)).alloc (.cells #[.int .i64 b.g, .int .i64 b.n] 34)) (w.heap.size + 1) 34 #[.int .i64 b.g, .int .i64 b.n] := by simpa using Bk.new (w.alloc (.cells #[.int .i64 a.g, .int .i64 a.n] 34)) 34 #[.int .i64 b.g, .int .i64 b.n]
  have CF := Lib.hid (faultOf_any (h.below hB) a b)
  have CL := Lib.hid (linkOf_any a b)
  have hc := h.below hB
  have HB := Lib.hid hB
  have HH := Lib.hid h
  clear hB
  obtain ⟨r, hr⟩ : ∃ r, r = z.turn a b false := ⟨_, rfl⟩
  rw [← hr]
  unfold adV at CF CL ⊢
  have k1 := B1.cell 0
  have k2 := B1.cell 1
  have k3 := B2.cell 0
  have k4 := B2.cell 1
  by_cases hi : z.link a b = true
  · have e : Hid (r = ({ z with cut := fun l => if l = linkOf a b then false else z.cut l }, 0)) := by
      show _ = _
      rw [hr]; unfold Nt.turn; rw [if_neg (by rw [hi]; simp)]
    rw [hi, okC_t] at CF
    have hok := h.ok.turn a b false
    rw [← hr] at hok
    have HOK := Lib.hid hok
    obtain ⟨ha, hb⟩ := link_wf h.ok.sizes hi
    obtain ⟨hz, _, hlow, F, As, cs, Ar, cr, gm, D, ps, hm⟩ := hc
    have HM := Lib.hid hm
    have HLOW := Lib.hid hlow
    have HN := Lib.hid hN
    have HC : Hid (∀ V, Below ((w.alloc (.cells #[.int .i64 a.g, .int .i64 a.n] 34)).alloc (.cells #[.int .i64 b.g, .int .i64 b.n] 34)).heap.size ((w.alloc (.cells #[.int .i64 a.g, .int .i64 a.n] 34)).alloc (.cells #[.int .i64 b.g, .int .i64 b.n] 34)) V → (V.cell? ⟨gz, 2, none⟩ = some (.map (some gm)) ∧ V.cell? ⟨w.heap.size, 0, none⟩ = some (.int .i64 a.g) ∧ V.cell? ⟨w.heap.size, 1, none⟩ = some (.int .i64 a.n) ∧ V.cell? ⟨w.heap.size + 1, 0, none⟩ = some (.int .i64 b.g) ∧ V.cell? ⟨w.heap.size + 1, 1, none⟩ = some (.int .i64 b.n))) := fun V hV =>
      ⟨(HM.out.below hV).cells.2.2.1, (B1.below hV).cell 0, (B1.below hV).cell 1, (B2.below hV).cell 0, (B2.below hV).cell 1⟩
    have HP : Hid (∀ V, Below ((w.alloc (.cells #[.int .i64 a.g, .int .i64 a.n] 34)).alloc (.cells #[.int .i64 b.g, .int .i64 b.n] 34)).heap.size ((w.alloc (.cells #[.int .i64 a.g, .int .i64 a.n] 34)).alloc (.cells #[.int .i64 b.g, .int .i64 b.n] 34)) V → ∃ V2, (Builtin.delete_ #[66, 76] 0 #[.map (some gm), lkV (linkOf a b)]).run Try.prog V = .ok (.tuple #[]) V2 ∧ DidN w0 O gz (.int .i64 0) r.1 (N + 1) w (.returned (.int .i64 0)) V2 ∧ (V2.cell? ⟨gz, 2, none⟩ = some (.map (some gm)) ∧ V2.cell? ⟨w.heap.size, 0, none⟩ = some (.int .i64 a.g) ∧ V2.cell? ⟨w.heap.size, 1, none⟩ = some (.int .i64 a.n) ∧ V2.cell? ⟨w.heap.size + 1, 0, none⟩ = some (.int .i64 b.g) ∧ V2.cell? ⟨w.heap.size + 1, 1, none⟩ = some (.int .i64 b.n))) := fun V hV => by
      obtain ⟨V2, D', hrun, hk, ho⟩ := (HM.out.below hV).map.drop ty_cuts (linkOf a b) (linkOf_wf ha hb) 0
      rw [cutV_drop] at hk
      have hk := hk.mono (Nat.le_succ _)
      have hm2 := (HM.out.below hV).remap ho hk
      have hg := HH.out.low gm HM.out.go.2.1
      have e1 := B1.below hV
      have e2 := B2.below hV
      have f1 : Bk V2 w.heap.size _ _ := e1.kept (ho.block _ e1.lt (by omega))
      have f2 : Bk V2 (w.heap.size + 1) _ _ := e2.kept (ho.block _ e2.lt (by omega))
      refine ⟨V2, hrun, ⟨O, rfl, ⟨HOK.out, HM.out.go.1, fun b hb => ⟨(HLOW.out b hb).1, Nat.lt_of_lt_of_le (HLOW.out b hb).2 (Nat.le_trans hV.size ho.size)⟩, F, As, cs, Ar, cr, gm, D', ps, by rw [e.out]; exact hm2⟩, ((Out.of_below (HB.out.trans (hV.mono HB.out.size))).trans (ho.mono (Y := O) fun b hb => .inl (by subst hb; exact HM.out.go.2.1)) fun b q => .inl q), fun b hb => .inl hb⟩, hm2.bk.cell 2, f1.cell 0, f1.cell 1, f2.cell 0, f2.cell 1⟩
    clear h hz hlow hm hi hok ha hb hN hr HM HLOW HN HOK HH B1 B2
    have er : Hid (r.2 = 0) := by show _ = _; rw [e.out]
    clear e
    generalize hw : (w.alloc (.cells #[.int .i64 a.g, .int .i64 a.n] 34)).alloc (.cells #[.int .i64 b.g, .int .i64 b.n] 34) = W at *
    go_enter Try.func25, Try.ntmps25
    go_wp2_with fail
    refine CF.out.mono ?_
    rintro e w1 ⟨rfl, hb1⟩
    have HSD := Lib.hid (HC.out w1.drew (below_drewN hb1 1))
    have HSW := Lib.hid (HC.out w1 hb1)
    obtain ⟨k1', k2', k3', k4', k5'⟩ := HSW.out
    have HB1 := Lib.hid (below_drewN hb1 1)
    clear CF hb1 k1 k2 k3 k4
    go_wp2_with fail
    go_region_held3 (fun V => V.cell? ⟨gz, 2, none⟩ = some (.map (some gm)) ∧ V.cell? ⟨w.heap.size, 0, none⟩ = some (.int .i64 a.g) ∧ V.cell? ⟨w.heap.size, 1, none⟩ = some (.int .i64 a.n) ∧ V.cell? ⟨w.heap.size + 1, 0, none⟩ = some (.int .i64 b.g) ∧ V.cell? ⟨w.heap.size + 1, 1, none⟩ = some (.int .i64 b.n))
      (first | (with_reducible assumption) | (with_reducible exact HSD.out) | (with_reducible exact HS1.out) | (with_reducible exact HS2.out))
      (first | (go_at_call 36; (with_reducible refine (CL.out _).mono ?_); rintro e w2 ⟨rfl, hb2⟩; have HB2 := Lib.hid (HB1.out.trans (hb2.mono HB1.out.size)); have HS1 := Lib.hid (HC.out w2 HB2.out); obtain ⟨w3, hrun, hd3, hs3⟩ := HP.out w2 HB2.out; have HD3 := Lib.hid hd3; have HS2 := Lib.hid hs3; clear hb2 hd3 hs3))
    go_wp2_with fail
    go_ret
    rw [er.out]
    exact HD3.out
  · have hi : z.link a b = false := by simpa using hi
    have e : Hid (r = (z, 1)) := by show _ = _; rw [hr]; unfold Nt.turn; rw [if_pos hi]
    rw [hi, okC_f] at CF
    clear hr hc hi B1 B2
    have HF := Lib.hid (fun W (hW : Below w.heap.size w W) => DidN.same (v := .int .i64 1) (h.mono (Nat.le_succ N)) hW)
    clear h HH
    generalize hw : (w.alloc (.cells #[.int .i64 a.g, .int .i64 a.n] 34)).alloc (.cells #[.int .i64 b.g, .int .i64 b.n] 34) = W at *
    go_enter Try.func25, Try.ntmps25
    go_wp2_with fail
    refine CF.out.mono ?_
    rintro e w1 ⟨rfl, hb1⟩
    have HB1 := Lib.hid (HB.out.trans (hb1.mono HB.out.size))
    clear CF hb1
    go_wp2_with fail
    go_ret
    rw [e.out]
    exact HF.out _ HB1.out
set_option maxRecDepth 8000 in
theorem Heal_nil (a b : Ad) (w : World) : Calls Try.prog 25 #[.pointer none, adV a, adV b] w fun e w' => e = .returned (.int .i64 8) ∧ Below w.heap.size w w' := by
  have hB : Below w.heap.size w ((w.alloc (.cells #[.int .i64 a.g, .int .i64 a.n] 34)).alloc (.cells #[.int .i64 b.g, .int .i64 b.n] 34)) := ((Below.refl _ _).alloc (Nat.le_refl _) _).alloc (by simp) _
  have CF := Lib.hid (faultOf_nil a b ((w.alloc (.cells #[.int .i64 a.g, .int .i64 a.n] 34)).alloc (.cells #[.int .i64 b.g, .int .i64 b.n] 34)))
  have B1 := (Bk.new w 34 #[.int .i64 a.g, .int .i64 a.n]).alloc (.cells #[.int .i64 b.g, .int .i64 b.n] 34)
  have B2 : Bk ((w.alloc (.cells #[.int .i64 a.g, .int .i64 a.n] 34)).alloc (.cells #[.int .i64 b.g, .int .i64 b.n] 34)) (w.heap.size + 1) 34 #[.int .i64 b.g, .int .i64 b.n] := by simpa using Bk.new (w.alloc (.cells #[.int .i64 a.g, .int .i64 a.n] 34)) 34 #[.int .i64 b.g, .int .i64 b.n]
  have k1 := B1.cell 0
  have k2 := B1.cell 1
  have k3 := B2.cell 0
  have k4 := B2.cell 1
  have HB := Lib.hid hB
  clear hB B1 B2
  unfold adV at CF ⊢
  generalize hw : (w.alloc (.cells #[.int .i64 a.g, .int .i64 a.n] 34)).alloc (.cells #[.int .i64 b.g, .int .i64 b.n] 34) = W at *
  go_enter Try.func25, Try.ntmps25
  go_wp2_with fail
  refine CF.out.mono ?_
  rintro e w1 ⟨rfl, hb1⟩
  have HB1 := Lib.hid (HB.out.trans (hb1.mono HB.out.size))
  clear CF hb1
  go_wp2_with fail
  go_ret
  exact ⟨rfl, HB1.out⟩
end
end Go.Proofs.Ytephciglcikllaa.Net
