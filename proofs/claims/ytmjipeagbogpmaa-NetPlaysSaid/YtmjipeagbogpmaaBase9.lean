/- Lemmas, part 9: NetRef4, NetRef5 -/
import Derived.Test.YtmjipeagbogpmaaBase8
import Derived.Test.YtmjipeagbogpmaaBase7
namespace Go.Proofs.Ytmjipeagbogpmaa.Net
open Go.RowKit Disk Zab Sto

def RActP (w : World) (base gf : Nat) (As : Option Addr) (cs : Nat) (vL vC : Value) (prs : List (Ad × Ad)) (P : Nat → Prop) (r : Nt × Lt × Int) (e : Ending) (w' : World) : Prop := ∃ vL' B m k, e = .returned (.tuple #[ltV r.2.1 (.slice B m k), .int .i64 r.2.2]) ∧ m ≤ k ∧ Rd w' B m r.2.1.bs ∧ RfM w' base gf As cs vL' vC r.1 prs P ∧ Out (RfM.wr gf vL vC) w w' ∧ ∀ b, vL'.ownBlock = some b → vL.ownBlock = some b ∨ w.heap.size ≤ b
section
variable {w : World} {base gf : Nat} {As : Option Addr} {cs : Nat} {vL vC : Value} {z : Nt} {prs : List (Ad × Ad)} {P : Nat → Prop}
theorem out_box {X : Nat → Prop} {w V : World} (ho : Out X w V) {g : Nat} (hg : w.heap.size ≤ g) (a b c d e : Value) : Out X w (set5 V g a b c d e) :=
  ho.trans (out_set5 V g a b c d e) fun k hk => .inr (by subst hk; exact hg)
theorem RfM.set5 {V : World} (h : RfM V base gf As cs vL vC z prs P) {g : Nat} (hl : base ≤ g) (hw : ¬ RfM.wr gf vL vC g) (hp : ¬ P g) (a b c d e : Value) : RfM (Net.set5 V g a b c d e) base gf As cs vL vC z prs P :=
  h.out (out_set5 V g a b c d e) (fun k hk => by subst hk; exact hl) (fun k hk e => hw (e ▸ hk)) fun k hk e => hp (e ▸ hk)
theorem RfM.fresh (h : RfM w base gf As cs vL vC z prs P) {g : Nat} (hg : w.heap.size ≤ g) : base ≤ g ∧ ¬ RfM.wr gf vL vC g ∧ ¬ P g := by
  have h1 := h.bk.lt
  have h2 := h.gl.1
  refine ⟨by omega, fun hq => ?_, fun hq => by have := (h.pl g hq).2.1; omega⟩
  rcases hq with rfl | hq | hq
  · omega
  · have := (h.row.lt g hq).2; omega
  · have := (h.pr.lt g hq).2; omega
theorem RActP.no (h : RfM w base gf As cs vL vC z prs P) {V : World} (hb : Below w.heap.size w V) (f : Int) : RActP w base gf As cs vL vC prs P (z, lt0, f) (.returned (.tuple #[ltV lt0 (.slice none 0 0), .int .i64 f])) V :=
  ⟨vL, none, 0, 0, rfl, Nat.le_refl _, Rd.nil_ _ _, h.below hb, Out.of_below hb, fun _ hb => .inl hb⟩
set_option maxRecDepth 100000 in
set_option maxHeartbeats 4000000 in
theorem ract_no (h : RfM w base gf As cs vL vC z prs P) (d : Nat) (i : Int) (hi : z.okAt i = false) : Calls Try.prog 11 #[.pointer (some ⟨gf, 0, none⟩), .int .u8 (d : Int), .int .i64 i] w (RActP w base gf As cs vL vC prs P (z, lt0, 1)) := by
  have hB : Below w.heap.size w (w.alloc (.cells ltZ 37)) := (Below.refl _ _).alloc (Nat.le_refl _) _
  obtain ⟨n, hnn⟩ : ∃ n, n = z.row.length := ⟨_, rfl⟩
  obtain ⟨A, c, rfl, -, -, -, -⟩ := h.row.form
  have c1 : (w.alloc (.cells ltZ 37)).cell? ⟨gf, 1, none⟩ = some (.slice A n c) := by rw [hnn]; exact (h.below hB).bk.cell 1
  have HX : Hid (∀ V, Below w.heap.size w V → RActP w base gf As cs (.slice A z.row.length c) vC prs P (z, lt0, 1) (.returned (.tuple #[ltV lt0 (.slice none 0 0), .int .i64 1])) V) := fun V hb => RActP.no h hb 1
  have hbk := Bk.new w 37 ltZ
  have HBK := Lib.hid hbk
  have HB := Lib.hid hB
  have hor : i < 0 ∨ (n : Int) ≤ i := by
    unfold Nt.okAt at hi
    simp at hi
    rw [← hnn] at hi
    omega
  clear h hB hnn hi
  obtain ⟨k0, k1, k2, k3, k4⟩ := bk_cells5 hbk
  have kb := hbk.frozen
  have kf0 := kb 0
  have kf1 := kb 1
  have kf2 := kb 2
  have kf3 := kb 3
  have kf4 := kb 4
  clear kb hbk
  unfold ltZ at *
  by_cases h0 : i < 0
  · clear hor
    go_enter Try.func11, Try.ntmps11
    go_wp2_with fail
    refine bodyPost_ret (v := .tuple #[.agg #[.int .i64 0, .int .i64 0, .int .i64 0, .int .i64 0, .slice none 0 0], .int .i64 1]) (by simp [results, Try.results11, go_sem]) rfl (HX.out _ HB.out)
  · have h1 : (n : Int) ≤ i := by omega
    clear hor
    go_enter Try.func11, Try.ntmps11
    go_wp2_with fail
    refine bodyPost_ret (v := .tuple #[.agg #[.int .i64 0, .int .i64 0, .int .i64 0, .int .i64 0, .slice none 0 0], .int .i64 1]) (by simp [results, Try.results11, go_sem]) rfl (HX.out _ HB.out)
theorem RfM.push (h : RfM w base gf As cs vL vC z prs P) {x : Lt} {B : Option Addr} {m c : Nat} (hm : m ≤ c) (hr : Rd w B m x.bs) (hP : ∀ b, B = some b → 1 ≤ m → P b.block) (hlen : z.row.length ≤ 100000) {W : World} (hW : W = w.alloc (.cells (ltA x (.slice B m c)) 37)) :
    ∃ v' W', (Builtin.append_ #[46, 46] 46 #[vL, .slice (some ⟨w.heap.size, 0, none⟩) 1 1]).run Try.prog W = .ok v' W' ∧ RfM (W'.setCell ⟨gf, 1, none⟩ v') base gf As cs v' vC { z with row := z.row ++ [x] } prs P ∧ Out (fun b => vL.ownBlock = some b) w W' ∧ (W'.cell? ⟨gf, 1, none⟩ = some vL ∧ W'.frozen? ⟨gf, 1, none⟩ = false) ∧ ∀ b, v'.ownBlock = some b → vL.ownBlock = some b ∨ w.heap.size ≤ b := by
  have hgf := h.bk.lt
  obtain ⟨v', W', q1, q2, q3, q4⟩ := h.row.snocP hm hr hP (fun b hb => (h.pl b hb).2.2.2.1) hlen (Nat.le_trans h.gl.1 (Nat.le_of_lt hgf)) hW
  have hbk := h.bk.kept (q3.block _ hgf h.gl.2.1)
  have ho : Out (fun b => b = gf) W' (W'.setCell ⟨gf, 1, none⟩ v') := Out.setCell (X := fun b => b = gf) _ rfl _
  have hbk2 := hbk.set 1 v'
  have hne : ∀ b, v'.ownBlock = some b → b ≠ gf := fun b hb2 e => by
    rcases q4 b hb2 with q | q
    · exact h.gl.2.1 (by rw [← e]; exact q)
    · omega
  refine ⟨v', W', q1, ⟨hbk2, rdv_out (rdv_out h.sz q3 fun a ha h1 e => ?_) ho fun a ha h1 e => ?_, h.sb, q2.out ho (fun b hb2 e => (h.pl b hb2).2.2.1 e) hne, (own_out (own_out h.pr q3 fun b hb2 e => h.lc b e hb2).1 ho fun b hb2 e => h.gl.2.2 (by rw [← e]; exact hb2)).1, h.cut, fun b hb2 => ?_, ⟨h.gl.1, fun e => hne _ e rfl, h.gl.2.2⟩, fun b hb2 e => ?_⟩, q3, ⟨hbk.cell 1, hbk.frozen 1⟩, q4⟩
  · have := h.sb a ha h1
    have := (h.row.lt _ e).1
    omega
  · have := h.sb a ha h1
    have := h.gl.1
    omega
  · obtain ⟨r1, r2, r3, r4, r5⟩ := h.pl b hb2
    refine ⟨r1, Nat.lt_of_lt_of_le r2 (Nat.le_trans q3.size ho.size), r3, fun e => ?_, r5⟩
    rcases q4 b e with q | q
    · exact r4 q
    · omega
  · rcases q4 b hb2 with q | q
    · exact h.lc b q e
    · have := (h.pr.lt b e).2; omega
theorem RActP.put {w W : World} {base gf : Nat} {As : Option Addr} {cs : Nat} {vL vC v : Value} {z y : Nt} {prs : List (Ad × Ad)} {P : Nat → Prop} (h0 : RfM w base gf As cs vL vC z prs P) (h : RfM W base gf As cs v vC y prs P) (ho : Out (RfM.wr gf vL vC) w W) (hv : ∀ b, v.ownBlock = some b → vL.ownBlock = some b ∨ w.heap.size < b) (l : Lt) {B : Option Addr} {m k : Nat} (hmk : m ≤ k) (hr : Rd W B m l.bs) (hB : ∀ a, B = some a → 1 ≤ m → a.block ≠ w.heap.size) (f : Int) : RActP w base gf As cs vL vC prs P (y, l, f) (.returned (.tuple #[ltV l (.slice B m k), .int .i64 f])) (Net.set5 W w.heap.size (.int .i64 l.fr.g) (.int .i64 l.fr.n) (.int .i64 l.to.g) (.int .i64 l.to.n) (.slice B m k)) := by
  obtain ⟨q1, q2, q3⟩ := h0.fresh (Nat.le_refl w.heap.size)
  refine ⟨v, B, m, k, rfl, hmk, rd_out hr (out_set5 _ _ _ _ _ _ _) hB, h.set5 q1 (fun hq => ?_) q3 _ _ _ _ _, out_box ho (Nat.le_refl _) _ _ _ _ _, fun b hb => (hv b hb).imp id Nat.le_of_lt⟩
  rcases hq with hq | hq | hq
  · exact q2 (.inl hq)
  · rcases hv _ hq with hq | hq
    · exact q2 (.inr (.inl hq))
    · omega
  · exact q2 (.inr (.inr hq))
set_option maxRecDepth 100000 in
set_option maxHeartbeats 4000000 in
theorem ract_drop (h : RfM w base gf As cs vL vC z prs P) (hfew : z.row.length ≤ 4096) {j : Nat} (hj : j < z.row.length) : Calls Try.prog 11 #[.pointer (some ⟨gf, 0, none⟩), .int .u8 2, .int .i64 (j : Int)] w (RActP w base gf As cs vL vC prs P (z.out j, lt0, 0)) := by
  obtain ⟨n, hnn⟩ : ∃ n, n = z.row.length := ⟨_, rfl⟩
  obtain ⟨A, c, rfl, -, -, -, -⟩ := h.row.form
  obtain ⟨x, hx⟩ : ∃ x, z.row[j]? = some x := ⟨_, List.getElem?_eq_getElem hj⟩
  have hB1 : Below w.heap.size w (w.alloc (.cells ltZ 37)) := (Below.refl _ _).alloc (Nat.le_refl _) _
  have hz1 : (w.alloc (.cells ltZ 37)).heap.size = w.heap.size + 1 := by simp
  have hm1 := h.below hB1
  obtain ⟨g, B, m, cc, e0, -, hgl, -, x0, x1, x2, x3, x4, hmc, hrd, hbp⟩ := hm1.row.get hx
  subst e0
  have c1 : (w.alloc (.cells ltZ 37)).cell? ⟨gf, 1, none⟩ = some (.slice (some ⟨g, 0, none⟩) n c) := by rw [hnn]; exact hm1.bk.cell 1
  have BK1 := Bk.new w 37 ltZ
  generalize hw1 : w.alloc (.cells ltZ 37) = W1 at *
  have hB2 : Below W1.heap.size W1 (W1.alloc (.cells (ltA x (.slice B m cc)) 37)) := (Below.refl _ _).alloc (Nat.le_refl _) _
  have hm2 := hm1.below hB2
  have BK2 := Bk.new W1 37 (ltA x (.slice B m cc))
  have BK1' := BK1.below hB2
  have hz2 : (W1.alloc (.cells (ltA x (.slice B m cc)) 37)).heap.size = w.heap.size + 2 := by simp [hz1]
  have hrd2 := hrd.below hB2
  have HB2 : Hid (Below w.heap.size w (W1.alloc (.cells (ltA x (.slice B m cc)) 37))) := hB1.trans (hB2.mono hB1.size)
  generalize hw2 : W1.alloc (.cells (ltA x (.slice B m cc)) 37) = W2 at *
  have HM2 := Lib.hid hm2
  have H0 := Lib.hid h
  have HBK1 := Lib.hid BK1'
  have HBK2 := Lib.hid BK2
  have HRD2 := Lib.hid (And.intro hmc (And.intro hrd2 hbp))
  have HX := Lib.hid hx
  have HN := Lib.hid hnn
  have HZ2 := Lib.hid hz2
  have HZ1 := Lib.hid hz1
  have i0 : (0 : Int) ≤ (j : Int) := by omega
  have i1 : (j : Int) < (n : Int) := by omega
  have i2 : ¬ (j : Int) < 0 := by omega
  have i3 : ¬ (n : Int) ≤ (j : Int) := by omega
  clear hB1 hm1 hmc hrd hbp BK1 hB2 hm2 BK2 BK1' hrd2 h hx hz1 hz2 hgl
  unfold ltZ at hw1
  unfold ltA at hw2
  have CW := Lib.hid (rwithout_any HM2.out hfew j hj)
  go_enter Try.func11, Try.ntmps11
  go_wp2_with fail
  refine CW.out.mono ?_
  rintro e w3 ⟨rfl, v, hm3, ho3, hv3⟩
  have hlt := H0.out.bk.lt
  have HBKE := Lib.hid (HBK1.out.kept (ho3.block _ (by have := HZ2.out; omega) (by omega)))
  have HF : Hid (RActP w base gf As cs (.slice (some ⟨g, 0, none⟩) z.row.length c) vC prs P (z.out j, lt0, 0) (.returned (.tuple #[ltV lt0 (.slice none 0 0), .int .i64 0])) (Net.set5 w3 w.heap.size (.int .i64 0) (.int .i64 0) (.int .i64 0) (.int .i64 0) (.slice none 0 0))) :=
    RActP.put H0.out hm3 ((Out.of_below HB2.out).trans (ho3.mono (Y := RfM.wr gf (.slice (some ⟨g, 0, none⟩) z.row.length c) vC) fun b hb => .inl (.inl hb)) fun b hb => .inl hb) (fun b hb => .inr (by have := hv3 b hb; have := HZ2.out; omega)) lt0 (Nat.le_refl _) (Rd.nil_ _ _) (fun a ha => by cases ha) 0
  clear hm3 ho3 hv3 CW
  unfold ltZ at HBKE
  obtain ⟨k0, k1, k2, k3, k4⟩ := bk_cells5 HBKE.out
  have kb := HBKE.out.frozen
  have kf0 := kb 0
  have kf1 := kb 1
  have kf2 := kb 2
  have kf3 := kb 3
  have kf4 := kb 4
  clear kb
  go_wp2_with fail
  have hb5 := bk_set5 HBKE.out (.int .i64 0) (.int .i64 0) (.int .i64 0) (.int .i64 0) (.slice none 0 0)
  refine bodyPost_ret (v := .tuple #[.agg #[.int .i64 0, .int .i64 0, .int .i64 0, .int .i64 0, .slice none 0 0], .int .i64 0]) ?_ rfl HF.out
  have k0 := hb5.cell 0
  have k1 := hb5.cell 1
  have k2 := hb5.cell 2
  have k3 := hb5.cell 3
  have k4 := hb5.cell 4
  unfold Net.set5 at k0 k1 k2 k3 k4
  simp [results, Try.results11, go_sem, k0, k1, k2, k3, k4]
set_option maxRecDepth 100000 in
set_option maxHeartbeats 4000000 in
theorem ract_take (h : RfM w base gf As cs vL vC z prs P) (hfew : z.row.length ≤ 4096) (hn : prs.length ≤ 1000000) {j : Nat} (hj : j < z.row.length) : Calls Try.prog 11 #[.pointer (some ⟨gf, 0, none⟩), .int .u8 1, .int .i64 (j : Int)] w (RActP w base gf As cs vL vC prs P (z.take (j : Int))) := by
  obtain ⟨n, hnn⟩ : ∃ n, n = z.row.length := ⟨_, rfl⟩
  obtain ⟨A, c, rfl, -, -, -, -⟩ := h.row.form
  obtain ⟨x, hx⟩ : ∃ x, z.row[j]? = some x := ⟨_, List.getElem?_eq_getElem hj⟩
  have hB1 : Below w.heap.size w (w.alloc (.cells ltZ 37)) := (Below.refl _ _).alloc (Nat.le_refl _) _
  have hz1 : (w.alloc (.cells ltZ 37)).heap.size = w.heap.size + 1 := by simp
  have hm1 := h.below hB1
  obtain ⟨g, B, m, cc, e0, -, hgl, -, x0, x1, x2, x3, x4, hmc, hrd, hbp⟩ := hm1.row.get hx
  subst e0
  have c1 : (w.alloc (.cells ltZ 37)).cell? ⟨gf, 1, none⟩ = some (.slice (some ⟨g, 0, none⟩) n c) := by rw [hnn]; exact hm1.bk.cell 1
  have BK1 := Bk.new w 37 ltZ
  generalize hw1 : w.alloc (.cells ltZ 37) = W1 at *
  have hB2 : Below W1.heap.size W1 (W1.alloc (.cells (ltA x (.slice B m cc)) 37)) := (Below.refl _ _).alloc (Nat.le_refl _) _
  have hm2 := hm1.below hB2
  have BK2 := Bk.new W1 37 (ltA x (.slice B m cc))
  have BK1' := BK1.below hB2
  have hz2 : (W1.alloc (.cells (ltA x (.slice B m cc)) 37)).heap.size = w.heap.size + 2 := by simp [hz1]
  have hrd2 := hrd.below hB2
  have HB2 : Hid (Below w.heap.size w (W1.alloc (.cells (ltA x (.slice B m cc)) 37))) := hB1.trans (hB2.mono hB1.size)
  generalize hw2 : W1.alloc (.cells (ltA x (.slice B m cc)) 37) = W2 at *
  have HM2 := Lib.hid hm2
  have H0 := Lib.hid h
  have HBK1 := Lib.hid BK1'
  have HBK2 := Lib.hid BK2
  have HRD2 := Lib.hid (And.intro hmc (And.intro hrd2 hbp))
  have HX := Lib.hid hx
  have HN := Lib.hid hnn
  have HZ2 := Lib.hid hz2
  have HZ1 := Lib.hid hz1
  have i0 : (0 : Int) ≤ (j : Int) := by omega
  have i1 : (j : Int) < (n : Int) := by omega
  have i2 : ¬ (j : Int) < 0 := by omega
  have i3 : ¬ (n : Int) ≤ (j : Int) := by omega
  clear hB1 hm1 hmc hrd hbp BK1 hB2 hm2 BK2 BK1' hrd2 h hx hz1 hz2 hgl
  unfold ltZ at hw1
  unfold ltA at hw2
  have hok : ¬ z.okAt (j : Int) = false := by rw [okAt_iff.2 ⟨j, rfl, hj⟩]; simp
  have hgd : z.row.getD ((j : Nat) : Int).toNat lt0 = x := by rw [Int.toNat_natCast, List.getD_eq_getElem?_getD, HX.out]; rfl
  obtain ⟨r, hr⟩ : ∃ r, r = z.cuts x.fr x.to := ⟨_, rfl⟩
  have CC0 := rcuts_any HM2.out hn x.fr x.to
  rw [← hr] at CC0
  have CC := Lib.hid CC0
  obtain ⟨l0, l1, l2, l3, l4⟩ := bk_cells5 HBK2.out
  unfold adV at CC
  clear CC0
  cases r
  · have e : z.take (j : Int) = (z.out j, x, 0) := by
      unfold Nt.take
      rw [if_neg hok, hgd, ← hr, if_neg (by simp), Int.toNat_natCast]
    rw [e]
    clear e hok hgd hr
    go_enter Try.func11, Try.ntmps11
    go_wp2_with fail
    refine CC.out.mono ?_
    rintro e w3 ⟨rfl, hb3⟩
    have HM3 := Lib.hid (HM2.out.below hb3)
    have HB3 := Lib.hid hb3
    have CW := Lib.hid (rwithout_any HM3.out hfew j hj)
    clear hb3 CC l0 l1 l2 l3 l4
    go_wp2_with fail
    refine CW.out.mono ?_
    rintro e w4 ⟨rfl, v, hm3, ho3, hv3⟩
    have hlt := H0.out.bk.lt
    have hsz3 := HB3.out.size
    have HBKE := Lib.hid ((HBK1.out.below HB3.out).kept (ho3.block _ (by have := HZ2.out; omega) (by omega)))
    have HBKX := Lib.hid ((HBK2.out.below HB3.out).kept (ho3.block _ (by have := HZ2.out; have := HZ1.out; omega) (by have := HZ1.out; omega)))
    have hwl : ∀ a, B = some a → 1 ≤ m → a.block < w.heap.size ∧ a.block ≠ gf := fun a ha h0 => ⟨(H0.out.pl _ (HRD2.out.2.2 a ha h0)).2.1, (H0.out.pl _ (HRD2.out.2.2 a ha h0)).2.2.1⟩
    have HF : Hid (RActP w base gf As cs (.slice (some ⟨g, 0, none⟩) z.row.length c) vC prs P (z.out j, x, 0) (.returned (.tuple #[ltV x (.slice B m cc), .int .i64 0])) (Net.set5 w4 w.heap.size (.int .i64 x.fr.g) (.int .i64 x.fr.n) (.int .i64 x.to.g) (.int .i64 x.to.n) (.slice B m cc))) :=
      RActP.put H0.out hm3 (((Out.of_below HB2.out).trans (Out.of_below (X := fun _ => False) HB3.out) fun _ q => q.elim).trans (ho3.mono (Y := RfM.wr gf (.slice (some ⟨g, 0, none⟩) z.row.length c) vC) fun b hb => .inl (.inl hb)) fun b hb => .inl hb) (fun b hb => .inr (by have := hv3 b hb; have := HZ2.out; omega)) x HRD2.out.1 (rd_out (HRD2.out.2.1.below HB3.out) ho3 fun a ha h0 e => (hwl a ha h0).2 e) (fun a ha h0 => by have := (hwl a ha h0).1; omega) 0
    clear hm3 ho3 hv3 CW hwl
    obtain ⟨l0, l1, l2, l3, l4⟩ := bk_cells5 HBKX.out
    unfold ltZ at HBKE
    obtain ⟨k0, k1, k2, k3, k4⟩ := bk_cells5 HBKE.out
    have kb := HBKE.out.frozen
    have kf0 := kb 0
    have kf1 := kb 1
    have kf2 := kb 2
    have kf3 := kb 3
    have kf4 := kb 4
    clear kb
    go_wp2_with fail
    have hb5 := bk_set5 HBKE.out (.int .i64 x.fr.g) (.int .i64 x.fr.n) (.int .i64 x.to.g) (.int .i64 x.to.n) (.slice B m cc)
    refine bodyPost_ret (v := .tuple #[.agg #[.int .i64 x.fr.g, .int .i64 x.fr.n, .int .i64 x.to.g, .int .i64 x.to.n, .slice B m cc], .int .i64 0]) ?_ rfl HF.out
    have k0 := hb5.cell 0
    have k1 := hb5.cell 1
    have k2 := hb5.cell 2
    have k3 := hb5.cell 3
    have k4 := hb5.cell 4
    unfold Net.set5 at k0 k1 k2 k3 k4
    simp [results, Try.results11, go_sem, k0, k1, k2, k3, k4]
  · have e : z.take (j : Int) = (z, lt0, 65) := by
      unfold Nt.take
      rw [if_neg hok, hgd, ← hr, if_pos rfl]
    rw [e]
    clear e hok hgd hr
    go_enter Try.func11, Try.ntmps11
    go_wp2_with fail
    refine CC.out.mono ?_
    rintro e w3 ⟨rfl, hb3⟩
    have HBKE := Lib.hid (HBK1.out.below hb3)
    have HF : Hid (RActP w base gf As cs (.slice (some ⟨g, 0, none⟩) z.row.length c) vC prs P (z, lt0, 65) (.returned (.tuple #[ltV lt0 (.slice none 0 0), .int .i64 65])) (Net.set5 w3 w.heap.size (.int .i64 0) (.int .i64 0) (.int .i64 0) (.int .i64 0) (.slice none 0 0))) :=
      RActP.put H0.out (HM2.out.below hb3) ((Out.of_below HB2.out).trans (Out.of_below (X := fun _ => False) hb3) fun _ q => q.elim) (fun b hb => .inl hb) lt0 (Nat.le_refl _) (Rd.nil_ _ _) (fun a ha => by cases ha) 65
    clear hb3 CC l0 l1 l2 l3 l4
    unfold ltZ at HBKE
    obtain ⟨k0, k1, k2, k3, k4⟩ := bk_cells5 HBKE.out
    have kb := HBKE.out.frozen
    have kf0 := kb 0
    have kf1 := kb 1
    have kf2 := kb 2
    have kf3 := kb 3
    have kf4 := kb 4
    clear kb
    go_wp2_with fail
    have hb5 := bk_set5 HBKE.out (.int .i64 0) (.int .i64 0) (.int .i64 0) (.int .i64 0) (.slice none 0 0)
    refine bodyPost_ret (v := .tuple #[.agg #[.int .i64 0, .int .i64 0, .int .i64 0, .int .i64 0, .slice none 0 0], .int .i64 65]) ?_ rfl HF.out
    have k0 := hb5.cell 0
    have k1 := hb5.cell 1
    have k2 := hb5.cell 2
    have k3 := hb5.cell 3
    have k4 := hb5.cell 4
    unfold Net.set5 at k0 k1 k2 k3 k4
    simp [results, Try.results11, go_sem, k0, k1, k2, k3, k4]
section
open Phase (wp_region_line step_stays stepsL_cons stepsL_nil reachB)
set_option maxRecDepth 100000 in
set_option maxHeartbeats 4000000 in
theorem ract_double (h : RfM w base gf As cs vL vC z prs P) (hfew : z.row.length ≤ 4096) {j : Nat} (hj : j < z.row.length) : Calls Try.prog 11 #[.pointer (some ⟨gf, 0, none⟩), .int .u8 3, .int .i64 (j : Int)] w (RActP w base gf As cs vL vC prs P ((z.double (j : Int)).1, lt0, (z.double (j : Int)).2)) := by
  obtain ⟨n, hnn⟩ : ∃ n, n = z.row.length := ⟨_, rfl⟩
  obtain ⟨A, c, rfl, -, -, -, -⟩ := h.row.form
  obtain ⟨x, hx⟩ : ∃ x, z.row[j]? = some x := ⟨_, List.getElem?_eq_getElem hj⟩
  have hB1 : Below w.heap.size w (w.alloc (.cells ltZ 37)) := (Below.refl _ _).alloc (Nat.le_refl _) _
  have hz1 : (w.alloc (.cells ltZ 37)).heap.size = w.heap.size + 1 := by simp
  have hm1 := h.below hB1
  obtain ⟨g, B, m, cc, e0, -, hgl, -, x0, x1, x2, x3, x4, hmc, hrd, hbp⟩ := hm1.row.get hx
  subst e0
  have c1 : (w.alloc (.cells ltZ 37)).cell? ⟨gf, 1, none⟩ = some (.slice (some ⟨g, 0, none⟩) n c) := by rw [hnn]; exact hm1.bk.cell 1
  have BK1 := Bk.new w 37 ltZ
  generalize hw1 : w.alloc (.cells ltZ 37) = W1 at *
  have hB2 : Below W1.heap.size W1 (W1.alloc (.cells (ltA x (.slice B m cc)) 37)) := (Below.refl _ _).alloc (Nat.le_refl _) _
  have hm2 := hm1.below hB2
  have BK2 := Bk.new W1 37 (ltA x (.slice B m cc))
  have BK1' := BK1.below hB2
  have hz2 : (W1.alloc (.cells (ltA x (.slice B m cc)) 37)).heap.size = w.heap.size + 2 := by simp [hz1]
  have hrd2 := hrd.below hB2
  have HB2 : Hid (Below w.heap.size w (W1.alloc (.cells (ltA x (.slice B m cc)) 37))) := hB1.trans (hB2.mono hB1.size)
  generalize hw2 : W1.alloc (.cells (ltA x (.slice B m cc)) 37) = W2 at *
  have HM2 := Lib.hid hm2
  have H0 := Lib.hid h
  have HBK1 := Lib.hid BK1'
  have HBK2 := Lib.hid BK2
  have HRD2 := Lib.hid (And.intro hmc (And.intro hrd2 hbp))
  have HX := Lib.hid hx
  have HN := Lib.hid hnn
  have HZ2 := Lib.hid hz2
  have HZ1 := Lib.hid hz1
  have i0 : (0 : Int) ≤ (j : Int) := by omega
  have i1 : (j : Int) < (n : Int) := by omega
  have i2 : ¬ (j : Int) < 0 := by omega
  have i3 : ¬ (n : Int) ≤ (j : Int) := by omega
  clear hB1 hm1 hmc hrd hbp BK1 hB2 hm2 BK2 BK1' hrd2 h hx hz1 hz2 hgl
  unfold ltZ at hw1
  unfold ltA at hw2
  have hok : ¬ z.okAt (j : Int) = false := by rw [okAt_iff.2 ⟨j, rfl, hj⟩]; simp
  have hgd : z.row.getD ((j : Nat) : Int).toNat lt0 = x := by rw [Int.toNat_natCast, List.getD_eq_getElem?_getD, HX.out]; rfl
  have hlt := H0.out.bk.lt
  have c2 : W2.cell? ⟨gf, 1, none⟩ = some (.slice (some ⟨g, 0, none⟩) z.row.length c) := HM2.out.bk.cell 1
  by_cases hfull : 4096 ≤ n
  · have e : z.double (j : Int) = (z, 4) := by
      unfold Nt.double Nt.add
      rw [if_neg hok, if_pos (by omega)]
    rw [e]
    have i4 : (4096 : Int) ≤ (n : Int) := by omega
    clear e hok hgd
    have HBKE := HBK1
    have HF : Hid (RActP w base gf As cs (.slice (some ⟨g, 0, none⟩) z.row.length c) vC prs P (z, lt0, 4) (.returned (.tuple #[ltV lt0 (.slice none 0 0), .int .i64 4])) (Net.set5 W2 w.heap.size (.int .i64 0) (.int .i64 0) (.int .i64 0) (.int .i64 0) (.slice none 0 0))) :=
      RActP.put H0.out HM2.out (Out.of_below HB2.out) (fun b hb => .inl hb) lt0 (Nat.le_refl _) (Rd.nil_ _ _) (fun a ha => by cases ha) 4
    unfold ltZ at HBKE
    go_enter Try.func11, Try.ntmps11
    obtain ⟨k0, k1, k2, k3, k4⟩ := bk_cells5 HBKE.out
    have kb := HBKE.out.frozen
    have kf0 := kb 0
    have kf1 := kb 1
    have kf2 := kb 2
    have kf3 := kb 3
    have kf4 := kb 4
    clear kb
    go_wp2_with fail
    have hb5 := bk_set5 HBKE.out (.int .i64 0) (.int .i64 0) (.int .i64 0) (.int .i64 0) (.slice none 0 0)
    refine bodyPost_ret (v := .tuple #[.agg #[.int .i64 0, .int .i64 0, .int .i64 0, .int .i64 0, .slice none 0 0], .int .i64 4]) ?_ rfl HF.out
    have k0 := hb5.cell 0
    have k1 := hb5.cell 1
    have k2 := hb5.cell 2
    have k3 := hb5.cell 3
    have k4 := hb5.cell 4
    unfold Net.set5 at k0 k1 k2 k3 k4
    simp [results, Try.results11, go_sem, k0, k1, k2, k3, k4]
  · have e : z.double (j : Int) = ({ z with row := z.row ++ [x] }, 0) := by
      unfold Nt.double Nt.add
      rw [if_neg hok, hgd, if_neg (by omega)]
    rw [e]
    have i4 : ¬ (4096 : Int) ≤ (n : Int) := by omega
    clear e hok hgd
    go_enter Try.func11, Try.ntmps11
    go_wp2_with fail
    obtain ⟨N4, hN4⟩ : ∃ N4, N4 = W2.heap.size := ⟨_, rfl⟩
    obtain ⟨W5, hW5⟩ : ∃ W5, W5 = W2.drew.alloc (.cells (ltA x (.slice B m cc)) 37) := ⟨_, rfl⟩
    have hbd : Below W2.heap.size W2 W2.drew := below_drewN (Below.refl _ W2) 1
    obtain ⟨v5, W6, hr5, hm6, ho6, hc6, hv6⟩ := (HM2.out.below hbd).push HRD2.out.1 (HRD2.out.2.1.below hbd) HRD2.out.2.2 (by omega) hW5
    have hn5 : W2.drew.heap.size = N4 := by rw [hN4]; rfl
    rw [hn5] at hr5 hv6
    obtain ⟨V5, d5, hv5, -⟩ := hm6.row.form
    obtain ⟨q5, hq5⟩ : ∃ q, q = (z.row ++ [x]).length := ⟨_, rfl⟩
    dsimp only at hv5
    rw [← hq5] at hv5
    clear hq5
    subst hv5
    have ho7 := ((Out.of_below (X := RfM.wr gf (.slice (some ⟨g, 0, none⟩) z.row.length c) vC) hbd).trans (ho6.mono (Y := RfM.wr gf (.slice (some ⟨g, 0, none⟩) z.row.length c) vC) fun b hb => .inl (.inr (.inl hb))) fun b hb => .inl hb).trans (Out.setCell (X := RfM.wr gf (.slice (some ⟨g, 0, none⟩) z.row.length c) vC) W6 (p := ⟨gf, 1, none⟩) (.inl rfl) (.slice V5 q5 d5)) fun b hb => .inl hb
    have HL := Lib.hid (bk_cells5 (HBK2.out.below hbd))
    obtain ⟨Ws, E0, E1, E2, E3⟩ : ∃ Ws : Nat → World, Hid (Ws 0 = W2.drew) ∧ Hid (Ws 1 = W5) ∧ Hid (Ws 2 = W6) ∧ Hid (Ws 3 = W6.setCell ⟨gf, 1, none⟩ (.slice V5 q5 d5)) := ⟨fun k => match k with | 0 => W2.drew | 1 => W5 | 2 => W6 | _ => W6.setCell ⟨gf, 1, none⟩ (.slice V5 q5 d5), rfl, rfl, rfl, rfl⟩
    have HC1 : Hid (∀ s, s ≤ 1 → (Ws s).cell? ⟨gf, 1, none⟩ = some (.slice (some ⟨g, 0, none⟩) z.row.length c)) := fun s hs => by
      match s, hs with
      | 0, _ => rw [E0.out]; exact (HM2.out.below hbd).bk.cell 1
      | 1, _ => rw [E1.out, hW5]; exact ((HM2.out.below hbd).bk.alloc _).cell 1
    have HR5 := Lib.hid hr5
    have HM6 := Lib.hid hm6
    have HO7 := Lib.hid ho7
    have HC2 := Lib.hid hc6
    have HV6 := Lib.hid hv6
    have HN4 := Lib.hid hN4
    have HW5 := Lib.hid hW5
    unfold ltA at HW5
    clear hr5 hm6 ho6 ho7 hc6 hv6 hN4 hW5 hbd hn5
    refine wp_region_line (fun k => ([.pointer (some ⟨gf, 0, none⟩), .pointer (some ⟨gf, 0, none⟩), .pointer (some ⟨gf, 0, none⟩), .pointer (some ⟨gf, 1, none⟩), .slice (some ⟨g, 0, none⟩) z.row.length c, .agg #[.int .i64 x.fr.g, .int .i64 x.fr.n, .int .i64 x.to.g, .int .i64 x.to.n, .slice B m cc], .slice (some ⟨N4, 0, none⟩) 1 1, .slice V5 q5 d5, .pointer (some ⟨gf, 0, none⟩), .pointer (some ⟨gf, 1, none⟩), undef] : List Value).getD k undef) [6, 7, 10] Ws 20 (by kernel_rfl) (by kernel_rfl) E0.out ?hin ?hchain ?hsteps ?F ?hF ?hend
    case hF =>
      simp only [List.length_cons, List.length_nil, Nat.zero_add, Nat.reduceAdd, Phase.final, List.getElem?_toArray, List.getElem?_cons_zero, List.getElem?_cons_succ, Option.bind_some, Act.put, List.setIfInBounds_toArray, List.set_cons_zero, List.set_cons_succ]
      exact rfl
    case hin =>
      intro k x hk
      match k, hk with
      | 0, hk => injection hk with hk; subst hk; decide
      | 1, hk => injection hk with hk; subst hk; decide
      | 2, hk => injection hk with hk; subst hk; decide
      | _ + 3, hk => cases hk
    case hchain =>
      intro k x y hx hy
      match k, hx, hy with
      | 0, hx, hy => injection hx with hx; injection hy with hy; subst hx hy; show reachB _ _ _ _ = true; kernel_rfl
      | 1, hx, hy => injection hx with hx; injection hy with hy; subst hx hy; show reachB _ _ _ _ = true; kernel_rfl
      | 2, _, hy => cases hy
      | _ + 3, hx, _ => cases hx
    case hsteps =>
      refine stepsL_cons ?_ (stepsL_cons ?_ (stepsL_cons ?_ (stepsL_cons ?_ (stepsL_cons ?_ (stepsL_cons ?_ (stepsL_cons ?_ (stepsL_cons ?_ (stepsL_cons ?_ (stepsL_cons ?_ (stepsL_cons ?_ (stepsL_nil)))))))))))
      · refine step_stays (by decide) fun a s hs hd h2 h3 K hK => ?_
        have h0 : a.tmps.getD 0 undef = .pointer (some ⟨gf, 0, none⟩) := hd.kept 0 (by kernel_rfl)
        unfold Oper.wp
        go_simp
        exact hK
      · refine step_stays (by decide) fun a s hs hd h2 h3 K hK => ?_
        have h0 : a.tmps.getD 0 undef = .pointer (some ⟨gf, 0, none⟩) := hd.kept 0 (by kernel_rfl)
        unfold Oper.wp
        go_simp
        exact hK
      · refine step_stays (by decide) fun a s hs hd h2 h3 K hK => ?_
        have h57 : a.tmps.getD 57 undef = .pointer (some ⟨gf, 0, none⟩) := hd.done_ 1 _ 57 (by kernel_rfl) rfl rfl
        unfold Oper.wp
        go_simp
        exact hK
      · refine step_stays (by decide) fun a s hs hd h2 h3 K hK => ?_
        have h58 : a.tmps.getD 58 undef = .pointer (some ⟨gf, 0, none⟩) := hd.done_ 2 _ 58 (by kernel_rfl) rfl rfl
        unfold Oper.wp
        go_simp
        exact hK
      · refine step_stays (by decide) fun a s hs hd h2 h3 K hK => ?_
        have h59 : a.tmps.getD 59 undef = .pointer (some ⟨gf, 1, none⟩) := hd.done_ 3 _ 59 (by kernel_rfl) rfl rfl
        have e0 : s ≤ 1 := h2 1 7 rfl (by kernel_rfl)
        have kc := HC1.out s e0
        unfold Oper.wp
        go_simp
        exact hK
      · refine step_stays (by decide) fun a s hs hd h2 h3 K hK => ?_
        have h8 : a.tmps.getD 8 undef = .pointer (some ⟨W1.heap.size, 0, none⟩) := hd.kept 8 (by kernel_rfl)
        have e0 : s = 0 := by have := h2 0 6 rfl (by kernel_rfl); omega
        subst e0
        rw [E0.out] at hK ⊢
        obtain ⟨l0, l1, l2, l3, l4⟩ := HL.out
        unfold Oper.wp
        go_simp
        exact hK
      · intro a s hs hd h1 h2 h3 K hK
        obtain rfl := h1 0 rfl
        have h61 : a.tmps.getD 61 undef = .agg #[.int .i64 x.fr.g, .int .i64 x.fr.n, .int .i64 x.to.g, .int .i64 x.to.n, .slice B m cc] := hd.done_ 5 _ 61 (by kernel_rfl) rfl rfl
        have hk := hK 1 (fun h => absurd rfl (h 0)) (fun k hk => by have := h1 k hk; omega)
        rw [E1.out, HW5.out, HN4.out] at hk
        rw [E0.out]
        have g61 : a.tmps[61]?.getD undef = .agg #[.int .i64 x.fr.g, .int .i64 x.fr.n, .int .i64 x.to.g, .int .i64 x.to.n, .slice B m cc] := by rw [← Array.getD_eq_getD_getElem?]; exact h61
        unfold Oper.wp
        go_simp
        first
          | exact hk
          | (simp only [g61]; go_simp; exact hk)
      · intro a s hs hd h1 h2 h3 K hK
        obtain rfl := h1 1 rfl
        have h60 : a.tmps.getD 60 undef = .slice (some ⟨g, 0, none⟩) z.row.length c := hd.done_ 4 _ 60 (by kernel_rfl) rfl rfl
        have h62 : a.tmps.getD 62 undef = .slice (some ⟨N4, 0, none⟩) 1 1 := hd.done_ 6 _ 62 (by kernel_rfl) rfl rfl
        have hk := hK 2 (fun h => absurd rfl (h 1)) (fun k hk => by have := h1 k hk; omega)
        have e1 : Act.eval a (.tmp 60) = .slice (some ⟨g, 0, none⟩) z.row.length c := h60
        have e2 : Act.eval a (.tmp 62) = .slice (some ⟨N4, 0, none⟩) 1 1 := h62
        unfold Oper.wp execOp
        simp only [resolve, invoke, builtin, Sem.run_bind, Sem.run_pure, Result.andThen_ok, List.map_toArray, List.map_cons, List.map_nil, e1, e2]
        rw [E1.out]
        rw [E2.out] at hk
        have hru := HR5.out
        rw [hru]
        exact hk
      · refine step_stays (by decide) fun a s hs hd h2 h3 K hK => ?_
        have h56 : a.tmps.getD 56 undef = .pointer (some ⟨gf, 0, none⟩) := hd.done_ 0 _ 56 (by kernel_rfl) rfl rfl
        unfold Oper.wp
        go_simp
        exact hK
      · refine step_stays (by decide) fun a s hs hd h2 h3 K hK => ?_
        have h64 : a.tmps.getD 64 undef = .pointer (some ⟨gf, 0, none⟩) := hd.done_ 8 _ 64 (by kernel_rfl) rfl rfl
        unfold Oper.wp
        go_simp
        exact hK
      · intro a s hs hd h1 h2 h3 K hK
        obtain rfl := h1 2 rfl
        have h65 : a.tmps.getD 65 undef = .pointer (some ⟨gf, 1, none⟩) := hd.done_ 9 _ 65 (by kernel_rfl) rfl rfl
        have h63 : a.tmps.getD 63 undef = .slice V5 q5 d5 := hd.done_ 7 _ 63 (by kernel_rfl) rfl rfl
        have hk := hK 3 (fun h => absurd rfl (h 2)) (fun k hk => by have := h1 k hk; omega)
        rw [E3.out] at hk
        rw [E2.out]
        have hc := HC2.out.1
        have hfz := HC2.out.2
        unfold Oper.wp
        go_simp
        exact hk
    case hend =>
      show Exit.inBlock _ _ _ _ _
      have e2 : Ws ([6, 7, 10] : List Nat).length = W6.setCell ⟨gf, 1, none⟩ (.slice V5 q5 d5) := E3.out
      rw [e2]
      clear e2
      have hfr := (H0.out.fresh (Nat.le_refl w.heap.size)).2.1
      have HBKE := Lib.hid (HBK1.out.kept (HO7.out.block _ (by have := HZ2.out; omega) hfr))
      have HF : Hid (RActP w base gf As cs (.slice (some ⟨g, 0, none⟩) z.row.length c) vC prs P ({ z with row := z.row ++ [x] }, lt0, 0) (.returned (.tuple #[ltV lt0 (.slice none 0 0), .int .i64 0])) (Net.set5 (W6.setCell ⟨gf, 1, none⟩ (.slice V5 q5 d5)) w.heap.size (.int .i64 0) (.int .i64 0) (.int .i64 0) (.int .i64 0) (.slice none 0 0))) :=
        RActP.put H0.out HM6.out ((Out.of_below HB2.out).trans HO7.out fun b hb => .inl hb) (fun b hb => (HV6.out b hb).imp id fun q => by have := HN4.out; have := HZ2.out; omega) lt0 (Nat.le_refl _) (Rd.nil_ _ _) (fun a ha => by cases ha) 0
      unfold ltZ at HBKE
      generalize W6.setCell ⟨gf, 1, none⟩ (.slice V5 q5 d5) = W7 at *

      obtain ⟨k0, k1, k2, k3, k4⟩ := bk_cells5 HBKE.out
      have kb := HBKE.out.frozen
      have kf0 := kb 0
      have kf1 := kb 1
      have kf2 := kb 2
      have kf3 := kb 3
      have kf4 := kb 4
      clear kb
      go_wp2_with fail
      have hb5 := bk_set5 HBKE.out (.int .i64 0) (.int .i64 0) (.int .i64 0) (.int .i64 0) (.slice none 0 0)
      refine bodyPost_ret (v := .tuple #[.agg #[.int .i64 0, .int .i64 0, .int .i64 0, .int .i64 0, .slice none 0 0], .int .i64 0]) ?_ rfl HF.out
      have k0 := hb5.cell 0
      have k1 := hb5.cell 1
      have k2 := hb5.cell 2
      have k3 := hb5.cell 3
      have k4 := hb5.cell 4
      unfold Net.set5 at k0 k1 k2 k3 k4
      simp [results, Try.results11, go_sem, k0, k1, k2, k3, k4]
set_option maxRecDepth 100000 in
set_option maxHeartbeats 4000000 in
theorem ract_hold (h : RfM w base gf As cs vL vC z prs P) (hzok : z.Ok) {j : Nat} (hj : j < z.row.length) : Calls Try.prog 11 #[.pointer (some ⟨gf, 0, none⟩), .int .u8 4, .int .i64 (j : Int)] w (RActP w base gf As cs vL vC prs P ((z.hold (j : Int)).1, lt0, (z.hold (j : Int)).2)) := by
  obtain ⟨n, hnn⟩ : ∃ n, n = z.row.length := ⟨_, rfl⟩
  obtain ⟨A, c, rfl, -, -, -, -⟩ := h.row.form
  obtain ⟨x, hx⟩ : ∃ x, z.row[j]? = some x := ⟨_, List.getElem?_eq_getElem hj⟩
  have hB1 : Below w.heap.size w (w.alloc (.cells ltZ 37)) := (Below.refl _ _).alloc (Nat.le_refl _) _
  have hz1 : (w.alloc (.cells ltZ 37)).heap.size = w.heap.size + 1 := by simp
  have hm1 := h.below hB1
  obtain ⟨g, B, m, cc, e0, -, hgl, -, x0, x1, x2, x3, x4, hmc, hrd, hbp⟩ := hm1.row.get hx
  subst e0
  have c1 : (w.alloc (.cells ltZ 37)).cell? ⟨gf, 1, none⟩ = some (.slice (some ⟨g, 0, none⟩) n c) := by rw [hnn]; exact hm1.bk.cell 1
  have BK1 := Bk.new w 37 ltZ
  generalize hw1 : w.alloc (.cells ltZ 37) = W1 at *
  have hB2 : Below W1.heap.size W1 (W1.alloc (.cells (ltA x (.slice B m cc)) 37)) := (Below.refl _ _).alloc (Nat.le_refl _) _
  have hm2 := hm1.below hB2
  have BK2 := Bk.new W1 37 (ltA x (.slice B m cc))
  have BK1' := BK1.below hB2
  have hz2 : (W1.alloc (.cells (ltA x (.slice B m cc)) 37)).heap.size = w.heap.size + 2 := by simp [hz1]
  have hrd2 := hrd.below hB2
  have HB2 : Hid (Below w.heap.size w (W1.alloc (.cells (ltA x (.slice B m cc)) 37))) := hB1.trans (hB2.mono hB1.size)
  generalize hw2 : W1.alloc (.cells (ltA x (.slice B m cc)) 37) = W2 at *
  have HM2 := Lib.hid hm2
  have H0 := Lib.hid h
  have HBK1 := Lib.hid BK1'
  have HBK2 := Lib.hid BK2
  have HRD2 := Lib.hid (And.intro hmc (And.intro hrd2 hbp))
  have HX := Lib.hid hx
  have HN := Lib.hid hnn
  have HZ2 := Lib.hid hz2
  have HZ1 := Lib.hid hz1
  have i0 : (0 : Int) ≤ (j : Int) := by omega
  have i1 : (j : Int) < (n : Int) := by omega
  have i2 : ¬ (j : Int) < 0 := by omega
  have i3 : ¬ (n : Int) ≤ (j : Int) := by omega
  clear hB1 hm1 hmc hrd hbp BK1 hB2 hm2 BK2 BK1' hrd2 h hx hz1 hz2 hgl
  unfold ltZ at hw1
  unfold ltA at hw2
  have hok : z.okAt (j : Int) = true := okAt_iff.2 ⟨j, rfl, hj⟩
  have hgd : z.row.getD ((j : Nat) : Int).toNat lt0 = x := by rw [Int.toNat_natCast, List.getD_eq_getElem?_getD, HX.out]; rfl
  have hlt := H0.out.bk.lt
  have e : z.hold (j : Int) = ({ (z.out j) with row := (z.out j).row ++ [x] }, 0) := by
    rw [hold_eq hzok hok, hgd]
    rfl
  rw [e]
  clear e hok hgd
  have CW := Lib.hid (rwithout_any HM2.out hzok.few j hj)
  go_enter Try.func11, Try.ntmps11
  go_wp2_with fail
  refine CW.out.mono ?_
  rintro e W3 ⟨rfl, v, hm3, ho3, hv3⟩
  obtain ⟨V3, d3, hvf, -⟩ := hm3.row.form
  obtain ⟨q3, hq3⟩ : ∃ q, q = (z.out j).row.length := ⟨_, rfl⟩
  rw [← hq3] at hvf
  clear hq3
  subst hvf
  have hwl : ∀ a, B = some a → 1 ≤ m → ¬ a.block = gf := fun a ha h0 => (H0.out.pl _ (HRD2.out.2.2 a ha h0)).2.2.1
  have HRD3 := Lib.hid (rd_out HRD2.out.2.1 ho3 fun a ha h0 e => hwl a ha h0 e)
  have HBK3 := Lib.hid (HBK1.out.kept (ho3.block _ (by have := HZ2.out; omega) (by omega)))
  have HBX3 := Lib.hid (HBK2.out.kept (ho3.block _ (by have := HZ2.out; have := HZ1.out; omega) (by have := HZ1.out; omega)))
  have HM3 := Lib.hid hm3
  have HO3 := Lib.hid ho3
  have HV3 := Lib.hid hv3
  have hfew3 : (z.out j).row.length ≤ 100000 := by
    have hf := hzok.few
    show (z.row.eraseIdx j).length ≤ _
    have := List.length_eraseIdx_le z.row j
    omega
  clear hm3 ho3 hv3 CW hwl
  go_wp2_with fail
  obtain ⟨N4, hN4⟩ : ∃ N4, N4 = W3.heap.size := ⟨_, rfl⟩
  obtain ⟨W5, hW5⟩ : ∃ W5, W5 = W3.drew.alloc (.cells (ltA x (.slice B m cc)) 37) := ⟨_, rfl⟩
  have hbd : Below W3.heap.size W3 W3.drew := below_drewN (Below.refl _ W3) 1
  obtain ⟨v5, W6, hr5, hm6, ho6, hc6, hv6⟩ := (HM3.out.below hbd).push HRD2.out.1 (HRD3.out.below hbd) HRD2.out.2.2 hfew3 hW5
  have hn5 : W3.drew.heap.size = N4 := by rw [hN4]; rfl
  rw [hn5] at hr5 hv6
  obtain ⟨V5, d5, hv5, -⟩ := hm6.row.form
  obtain ⟨q5, hq5⟩ : ∃ q, q = ((z.out j).row ++ [x]).length := ⟨_, rfl⟩
  dsimp only at hv5
  rw [← hq5] at hv5
  clear hq5
  subst hv5
  have ho7 := ((Out.of_below (X := RfM.wr gf (.slice V3 q3 d3) vC) hbd).trans (ho6.mono (Y := RfM.wr gf (.slice V3 q3 d3) vC) fun b hb => .inl (.inr (.inl hb))) fun b hb => .inl hb).trans (Out.setCell (X := RfM.wr gf (.slice V3 q3 d3) vC) W6 (p := ⟨gf, 1, none⟩) (.inl rfl) (.slice V5 q5 d5)) fun b hb => .inl hb
  have HL := Lib.hid (bk_cells5 (HBX3.out.below hbd))
  obtain ⟨Ws, E0, E1, E2, E3⟩ : ∃ Ws : Nat → World, Hid (Ws 0 = W3.drew) ∧ Hid (Ws 1 = W5) ∧ Hid (Ws 2 = W6) ∧ Hid (Ws 3 = W6.setCell ⟨gf, 1, none⟩ (.slice V5 q5 d5)) := ⟨fun k => match k with | 0 => W3.drew | 1 => W5 | 2 => W6 | _ => W6.setCell ⟨gf, 1, none⟩ (.slice V5 q5 d5), rfl, rfl, rfl, rfl⟩
  have HC1 : Hid (∀ s, s ≤ 1 → (Ws s).cell? ⟨gf, 1, none⟩ = some (.slice V3 q3 d3)) := fun s hs => by
    match s, hs with
    | 0, _ => rw [E0.out]; exact (HM3.out.below hbd).bk.cell 1
    | 1, _ => rw [E1.out, hW5]; exact ((HM3.out.below hbd).bk.alloc _).cell 1
  have HR5 := Lib.hid hr5
  have HM6 := Lib.hid hm6
  have HO7 := Lib.hid ho7
  have HC2 := Lib.hid hc6
  have HV6 := Lib.hid hv6
  have HN4 := Lib.hid hN4
  have HW5 := Lib.hid hW5
  unfold ltA at HW5
  clear hr5 hm6 ho6 ho7 hc6 hv6 hN4 hW5 hbd hn5
  refine wp_region_line (fun k => ([.pointer (some ⟨gf, 0, none⟩), .pointer (some ⟨gf, 0, none⟩), .pointer (some ⟨gf, 0, none⟩), .pointer (some ⟨gf, 1, none⟩), .slice V3 q3 d3, .agg #[.int .i64 x.fr.g, .int .i64 x.fr.n, .int .i64 x.to.g, .int .i64 x.to.n, .slice B m cc], .slice (some ⟨N4, 0, none⟩) 1 1, .slice V5 q5 d5, .pointer (some ⟨gf, 0, none⟩), .pointer (some ⟨gf, 1, none⟩), undef] : List Value).getD k undef) [6, 7, 10] Ws 20 (by kernel_rfl) (by kernel_rfl) E0.out ?hin ?hchain ?hsteps ?F ?hF ?hend
  case hF =>
    simp only [List.length_cons, List.length_nil, Nat.zero_add, Nat.reduceAdd, Phase.final, List.getElem?_toArray, List.getElem?_cons_zero, List.getElem?_cons_succ, Option.bind_some, Act.put, List.setIfInBounds_toArray, List.set_cons_zero, List.set_cons_succ]
    exact rfl
  case hin =>
    intro k x hk
    match k, hk with
    | 0, hk => injection hk with hk; subst hk; decide
    | 1, hk => injection hk with hk; subst hk; decide
    | 2, hk => injection hk with hk; subst hk; decide
    | _ + 3, hk => cases hk
  case hchain =>
    intro k x y hx hy
    match k, hx, hy with
    | 0, hx, hy => injection hx with hx; injection hy with hy; subst hx hy; show reachB _ _ _ _ = true; kernel_rfl
    | 1, hx, hy => injection hx with hx; injection hy with hy; subst hx hy; show reachB _ _ _ _ = true; kernel_rfl
    | 2, _, hy => cases hy
    | _ + 3, hx, _ => cases hx
  case hsteps =>
    refine stepsL_cons ?_ (stepsL_cons ?_ (stepsL_cons ?_ (stepsL_cons ?_ (stepsL_cons ?_ (stepsL_cons ?_ (stepsL_cons ?_ (stepsL_cons ?_ (stepsL_cons ?_ (stepsL_cons ?_ (stepsL_cons ?_ (stepsL_nil)))))))))))
    · refine step_stays (by decide) fun a s hs hd h2 h3 K hK => ?_
      have h0 : a.tmps.getD 0 undef = .pointer (some ⟨gf, 0, none⟩) := hd.kept 0 (by kernel_rfl)
      unfold Oper.wp
      go_simp
      exact hK
    · refine step_stays (by decide) fun a s hs hd h2 h3 K hK => ?_
      have h0 : a.tmps.getD 0 undef = .pointer (some ⟨gf, 0, none⟩) := hd.kept 0 (by kernel_rfl)
      unfold Oper.wp
      go_simp
      exact hK
    · refine step_stays (by decide) fun a s hs hd h2 h3 K hK => ?_
      have h72 : a.tmps.getD 72 undef = .pointer (some ⟨gf, 0, none⟩) := hd.done_ 1 _ 72 (by kernel_rfl) rfl rfl
      unfold Oper.wp
      go_simp
      exact hK
    · refine step_stays (by decide) fun a s hs hd h2 h3 K hK => ?_
      have h73 : a.tmps.getD 73 undef = .pointer (some ⟨gf, 0, none⟩) := hd.done_ 2 _ 73 (by kernel_rfl) rfl rfl
      unfold Oper.wp
      go_simp
      exact hK
    · refine step_stays (by decide) fun a s hs hd h2 h3 K hK => ?_
      have h74 : a.tmps.getD 74 undef = .pointer (some ⟨gf, 1, none⟩) := hd.done_ 3 _ 74 (by kernel_rfl) rfl rfl
      have e0 : s ≤ 1 := h2 1 7 rfl (by kernel_rfl)
      have kc := HC1.out s e0
      unfold Oper.wp
      go_simp
      exact hK
    · refine step_stays (by decide) fun a s hs hd h2 h3 K hK => ?_
      have h8 : a.tmps.getD 8 undef = .pointer (some ⟨W1.heap.size, 0, none⟩) := hd.kept 8 (by kernel_rfl)
      have e0 : s = 0 := by have := h2 0 6 rfl (by kernel_rfl); omega
      subst e0
      rw [E0.out] at hK ⊢
      obtain ⟨l0, l1, l2, l3, l4⟩ := HL.out
      unfold Oper.wp
      go_simp
      exact hK
    · intro a s hs hd h1 h2 h3 K hK
      obtain rfl := h1 0 rfl
      have h76 : a.tmps.getD 76 undef = .agg #[.int .i64 x.fr.g, .int .i64 x.fr.n, .int .i64 x.to.g, .int .i64 x.to.n, .slice B m cc] := hd.done_ 5 _ 76 (by kernel_rfl) rfl rfl
      have hk := hK 1 (fun h => absurd rfl (h 0)) (fun k hk => by have := h1 k hk; omega)
      rw [E1.out, HW5.out, HN4.out] at hk
      rw [E0.out]
      have g76 : a.tmps[76]?.getD undef = .agg #[.int .i64 x.fr.g, .int .i64 x.fr.n, .int .i64 x.to.g, .int .i64 x.to.n, .slice B m cc] := by rw [← Array.getD_eq_getD_getElem?]; exact h76
      unfold Oper.wp
      go_simp
      first
        | exact hk
        | (simp only [g76]; go_simp; exact hk)
    · intro a s hs hd h1 h2 h3 K hK
      obtain rfl := h1 1 rfl
      have h75 : a.tmps.getD 75 undef = .slice V3 q3 d3 := hd.done_ 4 _ 75 (by kernel_rfl) rfl rfl
      have h77 : a.tmps.getD 77 undef = .slice (some ⟨N4, 0, none⟩) 1 1 := hd.done_ 6 _ 77 (by kernel_rfl) rfl rfl
      have hk := hK 2 (fun h => absurd rfl (h 1)) (fun k hk => by have := h1 k hk; omega)
      have e1 : Act.eval a (.tmp 75) = .slice V3 q3 d3 := h75
      have e2 : Act.eval a (.tmp 77) = .slice (some ⟨N4, 0, none⟩) 1 1 := h77
      unfold Oper.wp execOp
      simp only [resolve, invoke, builtin, Sem.run_bind, Sem.run_pure, Result.andThen_ok, List.map_toArray, List.map_cons, List.map_nil, e1, e2]
      rw [E1.out]
      rw [E2.out] at hk
      have hru := HR5.out
      rw [hru]
      exact hk
    · refine step_stays (by decide) fun a s hs hd h2 h3 K hK => ?_
      have h71 : a.tmps.getD 71 undef = .pointer (some ⟨gf, 0, none⟩) := hd.done_ 0 _ 71 (by kernel_rfl) rfl rfl
      unfold Oper.wp
      go_simp
      exact hK
    · refine step_stays (by decide) fun a s hs hd h2 h3 K hK => ?_
      have h79 : a.tmps.getD 79 undef = .pointer (some ⟨gf, 0, none⟩) := hd.done_ 8 _ 79 (by kernel_rfl) rfl rfl
      unfold Oper.wp
      go_simp
      exact hK
    · intro a s hs hd h1 h2 h3 K hK
      obtain rfl := h1 2 rfl
      have h80 : a.tmps.getD 80 undef = .pointer (some ⟨gf, 1, none⟩) := hd.done_ 9 _ 80 (by kernel_rfl) rfl rfl
      have h78 : a.tmps.getD 78 undef = .slice V5 q5 d5 := hd.done_ 7 _ 78 (by kernel_rfl) rfl rfl
      have hk := hK 3 (fun h => absurd rfl (h 2)) (fun k hk => by have := h1 k hk; omega)
      rw [E3.out] at hk
      rw [E2.out]
      have hc := HC2.out.1
      have hfz := HC2.out.2
      unfold Oper.wp
      go_simp
      exact hk
  case hend =>
    show Exit.inBlock _ _ _ _ _
    have e2 : Ws ([6, 7, 10] : List Nat).length = W6.setCell ⟨gf, 1, none⟩ (.slice V5 q5 d5) := E3.out
    rw [e2]
    clear e2
    have hsz3 := HO3.out.size
    have hfr := (H0.out.fresh (Nat.le_refl w.heap.size)).2.1
    have hfr3 : ¬ RfM.wr gf (.slice V3 q3 d3) vC w.heap.size := fun hq => by
      rcases hq with hq | hq | hq
      · exact hfr (.inl hq)
      · have := HV3.out _ hq; have := HZ2.out; omega
      · exact hfr (.inr (.inr hq))
    have HBKE := Lib.hid (HBK3.out.kept (HO7.out.block _ (by have := HZ2.out; omega) hfr3))
    have HF : Hid (RActP w base gf As cs (.slice (some ⟨g, 0, none⟩) z.row.length c) vC prs P ({ (z.out j) with row := (z.out j).row ++ [x] }, lt0, 0) (.returned (.tuple #[ltV lt0 (.slice none 0 0), .int .i64 0])) (Net.set5 (W6.setCell ⟨gf, 1, none⟩ (.slice V5 q5 d5)) w.heap.size (.int .i64 0) (.int .i64 0) (.int .i64 0) (.int .i64 0) (.slice none 0 0))) :=
      RActP.put H0.out HM6.out (((Out.of_below HB2.out).trans (HO3.out.mono (Y := RfM.wr gf (.slice (some ⟨g, 0, none⟩) z.row.length c) vC) fun b hb => .inl (.inl hb)) fun b hb => .inl hb).trans HO7.out fun b hb => by
        rcases hb with hb | hb | hb
        · exact .inl (.inl hb)
        · right; have := HV3.out _ hb; have := HZ2.out; omega
        · exact .inl (.inr (.inr hb))) (fun b hb => .inr (by
          rcases HV6.out b hb with q | q
          · have := HV3.out _ q; have := HZ2.out; omega
          · have := HN4.out; have := HZ2.out; omega)) lt0 (Nat.le_refl _) (Rd.nil_ _ _) (fun a ha => by cases ha) 0
    unfold ltZ at HBKE
    generalize W6.setCell ⟨gf, 1, none⟩ (.slice V5 q5 d5) = W7 at *

    obtain ⟨k0, k1, k2, k3, k4⟩ := bk_cells5 HBKE.out
    have kb := HBKE.out.frozen
    have kf0 := kb 0
    have kf1 := kb 1
    have kf2 := kb 2
    have kf3 := kb 3
    have kf4 := kb 4
    clear kb
    go_wp2_with fail
    have hb5 := bk_set5 HBKE.out (.int .i64 0) (.int .i64 0) (.int .i64 0) (.int .i64 0) (.slice none 0 0)
    refine bodyPost_ret (v := .tuple #[.agg #[.int .i64 0, .int .i64 0, .int .i64 0, .int .i64 0, .slice none 0 0], .int .i64 0]) ?_ rfl HF.out
    have k0 := hb5.cell 0
    have k1 := hb5.cell 1
    have k2 := hb5.cell 2
    have k3 := hb5.cell 3
    have k4 := hb5.cell 4
    unfold Net.set5 at k0 k1 k2 k3 k4
    simp [results, Try.results11, go_sem, k0, k1, k2, k3, k4]
end
theorem ract_any (h : RfM w base gf As cs vL vC z prs P) (hzok : z.Ok) (hn : prs.length ≤ 1000000) {x : A1} {d : Nat} (hd : d = x.do_ % 7) (h1 : 1 ≤ d) (h4 : d ≤ 4) : Calls Try.prog 11 #[.pointer (some ⟨gf, 0, none⟩), .int .u8 (d : Int), .int .i64 x.i] w (RActP w base gf As cs vL vC prs P (z.act x)) := by
  cases hk : z.okAt x.i
  · have e : z.act x = (z, lt0, 1) := by
      obtain q | q | q | q : d = 1 ∨ d = 2 ∨ d = 3 ∨ d = 4 := by omega
      · rw [act_1 (by omega)]; unfold Nt.take; rw [if_pos hk]
      · rw [act_2 (by omega)]; unfold Nt.drop; rw [if_pos hk]
      · rw [act_3 (by omega)]; unfold Nt.double; rw [if_pos hk]
      · rw [act_4 (by omega)]; unfold Nt.hold; rw [if_pos hk]
    rw [e]
    exact ract_no h d x.i hk
  · obtain ⟨j, hj, hjl⟩ := okAt_iff.1 hk
    rw [hj]
    obtain q | q | q | q : d = 1 ∨ d = 2 ∨ d = 3 ∨ d = 4 := by omega
    · rw [act_1 (by omega), hj]
      subst q
      exact ract_take h hzok.few hn hjl
    · have e : z.drop (j : Int) = (z.out j, 0) := by
        unfold Nt.drop
        rw [if_neg (by rw [← hj, hk]; simp), Int.toNat_natCast]
      rw [act_2 (by omega), hj, e]
      subst q
      exact ract_drop h hzok.few hjl
    · rw [act_3 (by omega), hj]
      subst q
      exact ract_double h hzok.few hjl
    · rw [act_4 (by omega), hj]
      subst q
      exact ract_hold h hzok hjl
end
end Go.Proofs.Ytmjipeagbogpmaa.Net

namespace Go.Proofs.Ytmjipeagbogpmaa.Net
open Go.RowKit Disk Zab Sto

def RNewP (zs : List Int) (A : Option Addr) (c : Nat) (w : World) (e : Ending) (w' : World) : Prop := Below w.heap.size w w' ∧ ((sizesOk zs = false ∧ e = .returned (.tuple #[.pointer none, .int .i64 1])) ∨ (sizesOk zs = true ∧ ∃ gf, e = .returned (.tuple #[.pointer (some ⟨gf, 0, none⟩), .int .i64 0]) ∧ RfM w' w.heap.size gf A c (.slice none 0 0) (.slice none 0 0) (Nt.new zs) [] (fun _ => False)))
def RelN (w : World) (zs : List Int) (n : Nat) (i : Value) (wr : World) : Prop := ∃ k : Nat, k ≤ n ∧ i = .int .i64 (k : Int) ∧ (∀ (j : Nat) v, j < k → zs[j]? = some v → 1 ≤ v ∧ v ≤ 3) ∧ wr = w
set_option maxRecDepth 8000 in
set_option maxHeartbeats 1000000 in
theorem rnew_any (zs : List Int) (A : Option Addr) (n c : Nat) (w : World) (hr : RdV w A n (iv zs)) (hn : n ≤ 1000000) (hA : ∀ a, A = some a → 1 ≤ n → a.block < w.heap.size) : Calls Try.prog 6 #[.slice A n c] w (RNewP zs A c w) := by
  have hl : zs.length = n := by rw [← hr.len]; simp [iv]
  by_cases h1 : n < 1
  · have HF : Hid (RNewP zs A c w (.returned (.tuple #[.pointer none, .int .i64 1])) w) := ⟨Below.refl _ _, .inl ⟨by
      rw [Bool.eq_false_iff]
      intro h
      have := (sizesOk_iff.1 h).1
      omega, rfl⟩⟩
    have i1 : (n : Int) < 1 := by omega
    clear hr hA hl
    go_enter Try.func6, Try.ntmps6
    go_wp2_with fail
    exact bodyPost_ret (results_tmp2 Try.results6 _ _ _) rfl HF.out
  by_cases h2 : 4 < n
  · have HF : Hid (RNewP zs A c w (.returned (.tuple #[.pointer none, .int .i64 1])) w) := ⟨Below.refl _ _, .inl ⟨by
      rw [Bool.eq_false_iff]
      intro h
      have := (sizesOk_iff.1 h).2.1
      omega, rfl⟩⟩
    have i1 : ¬ (n : Int) < 1 := by omega
    have i2 : (4 : Int) < (n : Int) := by omega
    clear hr hA hl
    go_enter Try.func6, Try.ntmps6
    go_wp2_with fail
    exact bodyPost_ret (results_tmp2 Try.results6 _ _ _) rfl HF.out
  have i1 : ¬ (n : Int) < 1 := by omega
  have i2 : ¬ (4 : Int) < (n : Int) := by omega
  have HR := Lib.hid hr
  have HA := Lib.hid hA
  have HL := Lib.hid hl
  clear hr hA hl
  go_enter Try.func6, Try.ntmps6
  go_wp2_with fail
  go_loopw [4] (fun i wr => RelN w zs n i wr) (fun i _ => n - (intOf i).toNat)
  case atStart => exact ⟨0, Nat.zero_le _, rfl, fun j v hj => absurd hj (Nat.not_lt_zero _), rfl⟩
  case round =>
    obtain ⟨k, hk, rfl, hall, rfl⟩ := hrel
    have HALL := Lib.hid hall
    clear hall
    by_cases hlt : k < n
    · obtain ⟨v, hv⟩ : ∃ v, zs[k]? = some v := ⟨_, List.getElem?_eq_getElem (by rw [HL.out]; exact hlt)⟩
      have hvv : (iv zs)[k]? = some (.int .i64 v) := by unfold iv; rw [List.getElem?_map, hv]; rfl
      obtain ⟨ad, rfl, hc⟩ := HR.out.cells (by omega)
      have hcell := hc _ _ hvv
      have HV := Lib.hid hv
      have i3 : (0 : Int) ≤ (k : Int) := by omega
      have i4 : (k : Int) < (n : Int) := by omega
      have HF : Hid (¬ (1 ≤ v ∧ v ≤ 3) → RNewP zs (some ad) c wr (.returned (.tuple #[.pointer none, .int .i64 1])) wr) := fun hno => ⟨Below.refl _ _, .inl ⟨by
        rw [Bool.eq_false_iff]
        intro h
        exact hno ((sizesOk_iff.1 h).2.2 v (List.mem_of_getElem? HV.out)), rfl⟩⟩
      clear hc hvv hv
      by_cases h3 : v < 1
      · have HG := Lib.hid (HF.out (by omega))
        clear HF
        go_wp2_with fail
        exact bodyPost_ret (results_tmp2 Try.results6 _ _ _) rfl HG.out
      · by_cases h4 : 3 < v
        · have HG := Lib.hid (HF.out (by omega))
          clear HF
          go_wp2_with fail
          exact bodyPost_ret (results_tmp2 Try.results6 _ _ _) rfl HG.out
        · have HREL : Hid (RelN wr zs n (.int .i64 ((k + 1 : Nat) : Int)) wr) := ⟨k + 1, by omega, rfl, fun j u hj hu => by
            rcases Nat.lt_or_ge j k with q | q
            · exact HALL.out j u q hu
            · obtain rfl : j = k := by omega
              rw [HV.out] at hu
              injection hu with hu
              subst hu
              omega, rfl⟩
          clear HF
          go_wp2_with fail
          exact ⟨HREL.out, by simp [intOf]; omega⟩
    · have v1 : ¬ (k : Int) < (n : Int) := by omega
      have hok : sizesOk zs = true := sizesOk_iff.2 ⟨by have := HL.out; omega, by have := HL.out; omega, fun x hx => by
        obtain ⟨j, hj, rfl⟩ := List.mem_iff_getElem.1 hx
        exact HALL.out j _ (by have := HL.out; omega) (List.getElem?_eq_getElem hj)⟩
      have hb : Below wr.heap.size wr (wr.alloc (.cells #[.slice A n c, .slice none 0 0, .slice none 0 0] 50)) := (Below.refl _ _).alloc (Nat.le_refl _) _
      have HF : Hid (RNewP zs A c wr (.returned (.tuple #[.pointer (some ⟨wr.heap.size, 0, none⟩), .int .i64 0])) (wr.alloc (.cells #[.slice A n c, .slice none 0 0, .slice none 0 0] 50))) := by
        refine ⟨hb, .inr ⟨hok, _, rfl, ?_⟩⟩
        have hbk := Bk.new wr 50 #[.slice A n c, .slice none 0 0, .slice none 0 0]
        refine ⟨by show Bk _ _ _ #[.slice A zs.length c, .slice none 0 0, .slice none 0 0]; rw [HL.out]; exact hbk, rdv_out (by show RdV _ _ zs.length (iv zs); rw [HL.out]; exact HR.out) (Out.of_below (X := fun _ => False) hb) fun _ _ _ q => q, fun a ha h0 => HA.out a ha (by have := HL.out; exact this ▸ h0), LtW.nil_ _ _ _, ⟨rfl, .inl ⟨rfl, rfl⟩⟩, rfl, fun b hb => hb.elim, ⟨Nat.le_refl _, (fun e => by cases e), (fun e => by cases e)⟩, (fun b e => by cases e)⟩
      clear hok hb hlt
      go_wp2_with fail
      exact bodyPost_ret (results_tmp2 Try.results6 _ _ _) rfl HF.out
end Go.Proofs.Ytmjipeagbogpmaa.Net
