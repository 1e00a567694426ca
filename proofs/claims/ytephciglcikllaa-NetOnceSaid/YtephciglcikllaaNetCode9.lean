/- net: Take. -/
import Derived.Test.YtephciglcikllaaNetCode8
namespace Go.Proofs.Ytephciglcikllaa.Net
open Go.RowKit Disk Zab Sto

section
variable {w0 w : World} {O F : Nat → Prop} {gz : Nat} {As : Option Addr} {cs : Nat} {Ar : Option Addr} {cr gm : Nat} {D : DataW Value} {ps : List Nat} {z : Nt} {N : Nat}
/-- What Take comes to: the bytes are none of the net's. -/
def TookP (w0 : World) (O : Nat → Prop) (gz : Nat) (r : Nt × Lt × Int) (N : Nat) (w : World) (e : Ending) (w' : World) : Prop :=
  ∃ O' B m k, e = .returned (.tuple #[ltV r.2.1 (.slice B m k), .int .i64 r.2.2]) ∧ m ≤ k ∧ Rd w' B m r.2.1.bs ∧ (∀ a, B = some a → w.heap.size ≤ a.block ∧ ¬ O' a.block) ∧ NtAt w0 w' O' gz r.1 N ∧ Go_ O O' w w'
theorem TookP.no (h : NtAt w0 w O gz z N) (e : Int) {w1 : World} (hb : Below w.heap.size w w1) : TookP w0 O gz (z, lt0, e) N w (.returned (.tuple #[ltV lt0 (.slice none 0 0), .int .i64 e])) w1 :=
  ⟨O, none, 0, 0, rfl, Nat.le_refl _, Rd.nil_ _ _, (fun a ha => by cases ha), h.below hb, Go_.of_below hb⟩
set_option maxRecDepth 8000 in
set_option maxHeartbeats 2000000 in
theorem Take_any (h : NtAt w0 w O gz z N) (i : Int) : Calls Try.prog 24 #[.pointer (some ⟨gz, 0, none⟩), .int .i64 i] w (TookP w0 O gz (z.take i) N w) := by
  have hB : Below w.heap.size w (w.alloc (.cells ltZ 37)) := (Below.refl _ _).alloc (Nat.le_refl _) _
  have CF := Lib.hid (faultAt_any (h.below hB) i)
  by_cases hi : z.okAt i = true
  · rw [hi, okC_t] at CF
    obtain ⟨k, rfl, hk⟩ := okAt_iff.1 hi
    have hs := h.s0
    have hHB := Lib.hid (h.below hB)
    have hHH := Lib.hid h
    have hmem := (getD_mem hi).1
    rw [Int.toNat_natCast] at hmem
    obtain ⟨hlk, hlb⟩ := h.ok.each _ hmem
    obtain ⟨hwa, hwb⟩ := link_wf h.ok.sizes hlk
    obtain ⟨hz, _, hlow, F, As, cs, Ar, cr, gm, D, ps, hm⟩ := h.below hB
    obtain ⟨p, g, hp, rfl, hc, hF, hl⟩ := hm.at_ hk
    have hh := h
    have hf := hz.few
    have h02 : (k : Int) < (z.row.length : Int) := by omega
    have h01 : (0 : Int) ≤ (k : Int) := by omega
    have CU := Lib.hid (Cuts_any (hHB.out.below (below_drewN (Below.refl _ _) 1)) hwa hwb)
    obtain ⟨v, hv⟩ : ∃ v, v = z.cuts (z.row.getD k lt0).fr (z.row.getD k lt0).to := ⟨_, rfl⟩
    rw [← hv] at CU
    have ht : z.take (k : Int) = if v = true then (z, lt0, 65) else (z.out k, z.row.getD k lt0, 0) := by
      unfold Nt.take
      rw [if_neg (by rw [hi]; simp), Int.toNat_natCast, ← hv]
    obtain ⟨R, hR⟩ : ∃ R, R = z.take (k : Int) := ⟨_, rfl⟩
    rw [← hR]
    have HRR := Lib.hid (hR.trans ht)
    clear hR
    have HHB := Lib.hid (hh.below hB)
    obtain ⟨B, m, c, hlbk, hmc, hlr, hlf⟩ := hl
    have CT : Hid (∀ V, Below (w.alloc (.cells ltZ 37)).heap.size (w.alloc (.cells ltZ 37)) V → Calls Try.prog 40 #[.pointer (some ⟨gz, 0, none⟩), .int .i64 (k : Int)] V (CutP w0 O F gz As cs gm D p ps k z N V)) := fun V hV => by
      refine cutOut_any (hm.below hV) (fun b hb => ⟨(hlow b hb).1, Nat.lt_of_lt_of_le (hlow b hb).2 hV.size⟩) ?_ hf hk hp
      have := hV.size
      have := hB.size
      omega
    have CC : Hid (∀ V V', Below (w.alloc (.cells ltZ 37)).heap.size (w.alloc (.cells ltZ 37)) V → Out (fun b => O b ∧ ¬ F b) V V' → Calls Try.prog 35 #[.pointer (some ⟨p, 0, none⟩)] V' (LtP (z.row.getD k lt0) V')) := fun V V' hV hO => by
      have h1 : LtAt V F p (z.row.getD k lt0) := (LtAt.out (X := fun _ => False) ⟨B, m, c, hlbk, hmc, hlr, hlf⟩ (Out.of_below hV) (fun q => q) (fun _ _ q => q))
      exact copyOf_any (p := p) (h1.out hO (fun q => q.2 hF) fun b hb q => q.2 hb) hlb
    have HC : Hid (∀ V, Below (w.alloc (.cells ltZ 37)).heap.size (w.alloc (.cells ltZ 37)) V → Bk V w.heap.size 37 ltZ) := fun V hV => (Bk.new w 37 ltZ).below hV
    obtain ⟨-, c1, -, -⟩ := hm.cells
    obtain ⟨l0, l1, l2, l3, -⟩ := bk_cells5 hlbk
    have HOK := Lib.hid (hh.ok.out k)
    have HNO : Hid (∀ b, O b → b < w.heap.size) := fun b hb => (hh.low b hb).2
    have HNA := Lib.hid (fun w1 (hb : Below w.heap.size w w1) => TookP.no hh 65 hb)
    have HB := Lib.hid hB
    unfold P1 at hc
    clear hm hlow hp hF hlbk hmc hlr hlf hh hHB hHH HHB hz hi hmem hlk hlb hwa hwb hv ht h hs hB
    generalize z.row.length = n at *
    generalize z.row.getD k lt0 = l at *
    generalize hw : w.alloc (.cells ltZ 37) = W at *
    unfold ltZ at hw
    obtain ⟨lfr, lto, lbs⟩ := l
    obtain ⟨ag, an⟩ := lfr
    obtain ⟨bg, bn⟩ := lto
    unfold adV at CU
    dsimp only at *
    go_enter Try.func24, Try.ntmps24
    go_wp2_with fail
    refine CF.out.mono ?_
    rintro e w1 ⟨rfl, rfl⟩
    clear CF
    go_wp2_with fail
    refine ws_tail 21 (by kernel_rfl) (by kernel_rfl) ?_
    simp only [List.take_succ_cons, List.take_zero, List.drop_succ_cons, List.drop_zero]
    iterate 21
      refine ws_want (by kernel_rfl) ?_
      apply Exists.intro
      refine And.intro ?_ ?_
      · unfold StillAt
        first
          | (go_simp; done)
          | (go_simp; exact rfl)
      try simp only [Act.put, List.setIfInBounds_toArray, List.set_cons_zero, List.set_cons_succ]
    refine ws_nil ?_
    change wpList _ _ _ _ _ w1.drew
    go_wp2_with fail
    refine CU.out.mono ?_
    rintro e w2 ⟨rfl, hb2⟩
    have HB12 := Lib.hid ((below_drewN (Below.refl w1.heap.size w1) 1).trans hb2)
    have HBK := Lib.hid (HC.out w2 HB12.out)
    clear hb2 CU
    cases v
    · have hR2 : Hid (R = (z.out k, ⟨⟨ag, an⟩, ⟨bg, bn⟩, lbs⟩, 0)) := HRR.out
      have CT2 := Lib.hid (CT.out w2 HB12.out)
      clear CT HNA l0 l1 l2 l3
      go_wp2_with fail
      refine CT2.out.mono ?_
      rintro e w3 ⟨Ar', cr', rfl, q1, q2, q3, q4⟩
      have HQ : Hid (NtAt w0 w3 (Oo O w2 w3) gz (z.out k) N ∧ Go_ O (Oo O w2 w3) w2 w3) := ⟨⟨HOK.out, q1.go.1, q3, _, _, _, _, _, _, _, _, q1⟩, q2⟩
      have CC2 := Lib.hid (CC.out w2 w3 HB12.out q4)
      have HBK3 := Lib.hid (HBK.out.kept (q2.1.block w.heap.size HBK.out.lt fun hb => by have := HNO.out _ hb; omega))
      clear q1 q2 q3 q4 CT2 CC
      unfold P1
      go_wp2_with fail
      refine CC2.out.mono ?_
      rintro e w4 ⟨B', m', c', rfl, hmc4, hr4, hn4, hb4, -⟩
      have HBK4 := Lib.hid (HBK3.out.below hb4)
      have kb := HBK4.out.frozen
      have kf0 := kb 0
      have kf1 := kb 1
      have kf2 := kb 2
      have kf3 := kb 3
      have kf4 := kb 4
      obtain ⟨k0, k1, k2, k3, k4⟩ := bk_cells5 HBK4.out
      have HB4 := Lib.hid hb4
      have HR4 := Lib.hid (And.intro hmc4 (And.intro hr4 hn4))
      clear hmc4 hr4 hn4 hb4 kb CC2
      unfold ltV ltA
      go_wp2_with fail
      have hb5 := bk_set5 HBK4.out (.int .i64 ag) (.int .i64 an) (.int .i64 bg) (.int .i64 bn) (.slice B' m' c')
      obtain ⟨hmc4, hr4, hn4⟩ := HR4.out
      have hO5 := out_set5 w4 w.heap.size (.int .i64 ag) (.int .i64 an) (.int .i64 bg) (.int .i64 bn) (.slice B' m' c')
      have hs3 := HQ.out.2.1.size
      have hs2 := HB12.out.size
      have hs1 := HB.out.size
      have hlt := (HC.out w1 (Below.refl _ _)).lt
      refine bodyPost_ret (v := .tuple #[.agg #[.int .i64 ag, .int .i64 an, .int .i64 bg, .int .i64 bn, .slice B' m' c'], .int .i64 0]) ?_ rfl ?_
      · have k0 := hb5.cell 0
        have k1 := hb5.cell 1
        have k2 := hb5.cell 2
        have k3 := hb5.cell 3
        have k4 := hb5.cell 4
        unfold set5 at k0 k1 k2 k3 k4
        simp [results, Try.results24, go_sem, k0, k1, k2, k3, k4]
      rw [hR2.out]
      refine ⟨Oo O w2 w3, B', m', c', rfl, hmc4, rd_out hr4 hO5 fun a ha h0 => ?_, fun a ha => ⟨?_, fun hq => ?_⟩, ?_, ?_, ?_⟩
      · have := hn4 a ha
        show a.block ≠ _
        omega
      · have := hn4 a ha
        omega
      · have := hn4 a ha
        rcases hq with hq | hq
        · have := HNO.out _ hq; omega
        · omega
      · refine (HQ.out.1.below HB4.out).out hO5 fun b hb e => ?_
        subst e
        rcases hb with hb | hb
        · have := HNO.out _ hb; omega
        · omega
      · have h2 : Out O w w2 := (Out.of_below HB.out).trans (Out.of_below (X := fun _ => False) HB12.out) fun _ q => q.elim
        have h4 : Out O w w4 := (h2.trans HQ.out.2.1 fun b q => .inl q).trans (Out.of_below (X := fun _ => False) HB4.out) fun _ q => q.elim
        exact h4.trans hO5 fun b hb => .inr (by subst hb; exact Nat.le_refl _)
      · intro b hb
        rcases hb with hb | hb
        · exact .inl hb
        · right; omega
    · have hR2 : Hid (R = (z, lt0, 65)) := HRR.out
      clear CT CC l0 l1 l2 l3 HNO HOK
      have kb := HBK.out.frozen
      have kf0 := kb 0
      have kf1 := kb 1
      have kf2 := kb 2
      have kf3 := kb 3
      have kf4 := kb 4
      obtain ⟨k0, k1, k2, k3, k4⟩ := bk_cells5 HBK.out
      clear kb
      go_wp2_with fail
      have hb5 := bk_set5 HBK.out (.int .i64 0) (.int .i64 0) (.int .i64 0) (.int .i64 0) (.slice none 0 0)
      refine bodyPost_ret (v := .tuple #[.agg #[.int .i64 0, .int .i64 0, .int .i64 0, .int .i64 0, .slice none 0 0], .int .i64 65]) ?_ rfl (by rw [hR2.out]; exact HNA.out _ (below_set5 (HB.out.trans (HB12.out.mono HB.out.size)) (Nat.le_refl _) _ _ _ _ _))
      have k0 := hb5.cell 0
      have k1 := hb5.cell 1
      have k2 := hb5.cell 2
      have k3 := hb5.cell 3
      have k4 := hb5.cell 4
      unfold set5 at k0 k1 k2 k3 k4
      simp [results, Try.results24, go_sem, k0, k1, k2, k3, k4]
  · have hi : z.okAt i = false := by simpa using hi
    rw [hi, okC_f] at CF
    have e : z.take i = (z, lt0, 1) := by unfold Nt.take; rw [if_pos hi]
    rw [e]
    have HNA := Lib.hid (fun w1 (hb : Below w.heap.size w w1) => TookP.no h 1 hb)
    have HB := Lib.hid hB
    clear h e hi hB
    unfold ltZ at *
    go_enter Try.func24, Try.ntmps24
    go_wp2_with fail
    refine CF.out.mono ?_
    rintro e w1 ⟨rfl, rfl⟩
    clear CF
    go_wp2_with fail
    refine bodyPost_ret (v := .tuple #[.agg #[.int .i64 0, .int .i64 0, .int .i64 0, .int .i64 0, .slice none 0 0], .int .i64 1]) (by simp [results, Try.results24, go_sem]) rfl (HNA.out _ HB.out)
set_option maxRecDepth 8000 in
theorem Take_nil (i : Int) (w : World) : Calls Try.prog 24 #[.pointer none, .int .i64 i] w fun e w' => e = .returned (.tuple #[ltV lt0 (.slice none 0 0), .int .i64 8]) ∧ Below w.heap.size w w' := by
  have hB : Below w.heap.size w (w.alloc (.cells ltZ 37)) := (Below.refl _ _).alloc (Nat.le_refl _) _
  have CF := Lib.hid (faultAt_nil i (w.alloc (.cells ltZ 37)))
  have HB := Lib.hid hB
  clear hB
  unfold ltZ at *
  go_enter Try.func24, Try.ntmps24
  go_wp2_with fail
  refine CF.out.mono ?_
  rintro e w1 ⟨rfl, rfl⟩
  clear CF
  go_wp2_with fail
  refine bodyPost_ret (v := .tuple #[.agg #[.int .i64 0, .int .i64 0, .int .i64 0, .int .i64 0, .slice none 0 0], .int .i64 8]) (by simp [results, Try.results24, go_sem]) rfl ⟨rfl, HB.out⟩
end
end Go.Proofs.Ytephciglcikllaa.Net
