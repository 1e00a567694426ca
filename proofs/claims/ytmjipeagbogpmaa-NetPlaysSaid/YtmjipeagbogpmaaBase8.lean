/- Lemmas, part 8: NetRef3, NetDoes -/
import Derived.Test.YtmjipeagbogpmaaBase7
import Derived.Test.YtmjipeagbogpmaaBase6
namespace Go.Proofs.Ytmjipeagbogpmaa.Net
open Go.RowKit Disk Zab Sto

theorem LtW.snocP {P : Nat → Prop} {base : Nat} {w : World} {v : Value} {ls : List Lt} (h : LtW P base w v ls) {x : Lt} {B : Option Addr} {m c : Nat} (hm : m ≤ c) (hr : Rd w B m x.bs) (hP : ∀ b, B = some b → 1 ≤ m → P b.block) (hPv : ∀ b, P b → v.ownBlock ≠ some b) (hlen : ls.length ≤ 100000) (hbase : base ≤ w.heap.size) {W : World} (hW : W = w.alloc (.cells (ltA x (.slice B m c)) 37)) :
    ∃ v' W', (Builtin.append_ #[46, 46] 46 #[v, .slice (some ⟨w.heap.size, 0, none⟩) 1 1]).run Try.prog W = .ok v' W' ∧ LtW P base W' v' (ls ++ [x]) ∧ Out (fun b => v.ownBlock = some b) w W' ∧ ∀ b, v'.ownBlock = some b → v.ownBlock = some b ∨ w.heap.size ≤ b := by
  have hb : Below w.heap.size w W := by rw [hW]; exact (Below.refl _ _).alloc (Nat.le_refl _) _
  have h1 := h.below hb
  obtain ⟨vs, hown, hlb⟩ := h1
  have hbk : Bk W w.heap.size 37 (ltA x (.slice B m c)) := by rw [hW]; exact Bk.new _ _ _
  obtain ⟨v', W', q1, q2, q3, q4⟩ := app_letters hown ⟨w.heap.size, 0, none⟩ 1 1 (news := ltC x (.slice B m c)) rfl (fun j u hj => by
    rw [plus_add, hbk.cell]
    have e : (ltA x (.slice B m c))[j]? = (ltC x (.slice B m c))[j]? := by unfold ltA ltC; simp
    rw [e, hj]) (ltC_one x rfl) (by omega) (Nat.le_trans hbase hb.size)
  have hgr := out_grown q3
  have hlb' : LtB P W' vs ls := hlb.out hgr fun b hP2 hq => hPv b hP2 hq
  have hr' : Rd W' B m x.bs := rd_out (hr.below hb) hgr fun a ha h0 hq => hPv _ (hP a ha h0) hq
  have hsz : W.heap.size = w.heap.size + 1 := by rw [hW]; simp
  refine ⟨v', W', q1, ⟨vs ++ [.slice B m c], ?_, hlb'.snoc hm hr' hP⟩, (Out.of_below hb).trans hgr fun b hb => .inl hb, fun b hb2 => ?_⟩
  · rw [ltsC_snoc ls vs x _ hlb.len.symm, List.length_append]
    exact q2
  · rcases q4 with q4 | q4
    · rw [q4] at hb2; exact .inl hb2
    · rw [q4] at hb2; injection hb2 with hb2; exact .inr (by omega)
theorem LtW.mono_base {P : Nat → Prop} {base base' : Nat} {w : World} {v : Value} {ls : List Lt} (h : LtW P base' w v ls) (hb : base ≤ base') : LtW P base w v ls := by
  obtain ⟨vs, h1, h2⟩ := h
  exact ⟨vs, own_mono h1 hb, h2⟩
def wo (ls : List Lt) (i k : Nat) : List Lt := (ls.take k).eraseIdx i
theorem wo_same {ls : List Lt} {i k : Nat} {x : Lt} (hx : ls[k]? = some x) (h : k = i) : wo ls i (k + 1) = wo ls i k := by
  have hl := (List.getElem?_eq_some_iff.1 hx).1
  subst h
  unfold wo
  have e1 : (ls.take k).eraseIdx k = ls.take k := List.eraseIdx_of_length_le (by rw [List.length_take]; omega)
  have e2 : k - (ls.take k).length = 0 := by rw [List.length_take]; omega
  rw [(take_next' hx).1, List.eraseIdx_append_of_length_le (by rw [List.length_take]; omega), e1, e2]
  simp
theorem wo_next {ls : List Lt} {i k : Nat} {x : Lt} (hx : ls[k]? = some x) (h : k ≠ i) : wo ls i (k + 1) = wo ls i k ++ [x] := by
  have hl := (List.getElem?_eq_some_iff.1 hx).1
  unfold wo
  rw [(take_next' hx).1]
  rcases Nat.lt_or_ge i k with q | q
  · rw [List.eraseIdx_append_of_lt_length (by rw [List.length_take]; omega)]
  · rw [List.eraseIdx_of_length_le (by rw [List.length_append, List.length_take, List.length_singleton]; omega), List.eraseIdx_of_length_le (by rw [List.length_take]; omega)]
theorem wo_all (ls : List Lt) (i : Nat) : wo ls i ls.length = ls.eraseIdx i := by unfold wo; rw [List.take_length]
theorem wo_len (ls : List Lt) (i k : Nat) : (wo ls i k).length ≤ k := by
  unfold wo
  refine Nat.le_trans (List.length_eraseIdx_le _ _) ?_
  rw [List.length_take]
  omega
def RelW (w : World) (P : Nat → Prop) (row : List Lt) (i n : Nat) (vo ki : Value) (wr : World) : Prop := ∃ (k : Nat) (V : Option Addr) (d : Nat), k ≤ n ∧ ki = .int .i64 (k : Int) ∧ vo = .slice V (wo row i k).length d ∧ LtW P w.heap.size wr vo (wo row i k) ∧ Below w.heap.size w wr
section
variable {w : World} {base gf : Nat} {As : Option Addr} {cs : Nat} {vL vC : Value} {z : Nt} {prs : List (Ad × Ad)} {P : Nat → Prop}
theorem RfM.setL (h : RfM w base gf As cs vL vC z prs P) {W : World} (hb : Below w.heap.size w W) {v : Value} {ls : List Lt} (hv : LtW P base W v ls) (hn : ∀ b, v.ownBlock = some b → w.heap.size ≤ b ∨ vL.ownBlock = some b) : RfM (W.setCell ⟨gf, 1, none⟩ v) base gf As cs v vC { z with row := ls } prs P := by
  have h0 := h.below hb
  have ho : Out (fun b => b = gf) W (W.setCell ⟨gf, 1, none⟩ v) := Out.setCell (X := fun b => b = gf) _ rfl _
  have hgf := h.bk.lt
  have hne : ∀ b, v.ownBlock = some b → b ≠ gf := fun b hb2 e => by
    rcases hn b hb2 with q | q
    · omega
    · exact h.gl.2.1 (by rw [← e]; exact q)
  have hbk := h0.bk.set 1 v
  refine ⟨hbk, rdv_out h0.sz ho fun a ha h1 e => ?_, h0.sb, hv.out ho (fun b hb2 e => ?_) hne, (own_out h0.pr ho fun b hb2 e => ?_).1, h0.cut, fun b hb2 => ?_, ⟨h0.gl.1, fun e => hne _ e rfl, h0.gl.2.2⟩, fun b hb2 e => ?_⟩
  · have := h0.sb a ha h1
    have := h0.gl.1
    omega
  · exact (h0.pl b hb2).2.2.1 e
  · exact h0.gl.2.2 (by rw [← e]; exact hb2)
  · obtain ⟨q1, q2, q3, q4, q5⟩ := h0.pl b hb2
    refine ⟨q1, Nat.lt_of_lt_of_le q2 ho.size, q3, fun e => ?_, q5⟩
    rcases hn b e with q | q
    · have := (h.pl b hb2).2.1; omega
    · exact q4 q
  · rcases hn b hb2 with q | q
    · have := (h.pr.lt b e).2; omega
    · exact h.lc b q e
set_option maxRecDepth 100000 in
set_option maxHeartbeats 4000000 in
theorem rwithout_any (h : RfM w base gf As cs vL vC z prs P) (hrow : z.row.length ≤ 4096) (i : Nat) (hi : i < z.row.length) : Calls Try.prog 29 #[.pointer (some ⟨gf, 0, none⟩), .int .i64 (i : Int)] w fun e w' => e = .returned (.tuple #[]) ∧ ∃ v, RfM w' base gf As cs v vC (z.out i) prs P ∧ Out (fun b => b = gf) w w' ∧ ∀ b, v.ownBlock = some b → w.heap.size ≤ b := by
  obtain ⟨n, hnn⟩ : ∃ n, n = z.row.length := ⟨_, rfl⟩
  obtain ⟨A, c, rfl, hnc, -, -, -⟩ := h.row.form
  have HM := Lib.hid h
  have HN := Lib.hid hnn
  have hbase : base ≤ w.heap.size := Nat.le_trans h.gl.1 (Nat.le_of_lt h.bk.lt)
  have HBASE := Lib.hid hbase
  have c1 := h.bk.cell 1
  have c1' : w.cell? ⟨gf, 1, none⟩ = some (.slice A n c) := by rw [hnn]; exact c1
  have hn6 : n ≤ 4096 := by omega
  have hin : i < n := by omega
  clear h c1 hnc hbase
  go_enter Try.func29, Try.ntmps29
  go_wp2_with fail
  go_loopw [4, 5] (fun vo ki wr => RelW w P z.row i n vo ki wr) (fun _ ki _ => n - (intOf ki).toNat)
  case atStart => exact ⟨0, none, 0, Nat.zero_le _, rfl, rfl, LtW.nil_ _ _ _, Below.refl _ _⟩
  case round =>
    clear c1'
    obtain ⟨k, V, d, hk, rfl, rfl, hlw, hb⟩ := hrel
    have HB := Lib.hid hb
    have HLW := Lib.hid hlw
    have hm := HM.out.below hb
    have c1 : wr.cell? ⟨gf, 1, none⟩ = some (.slice A n c) := by rw [HN.out]; exact hm.bk.cell 1
    have HMR := Lib.hid hm
    clear hb hlw hm
    by_cases hlt : k < n
    · obtain ⟨x, hx⟩ : ∃ x, z.row[k]? = some x := ⟨_, List.getElem?_eq_getElem (by rw [← HN.out]; exact hlt)⟩
      have HX := Lib.hid hx
      have i0 : (0 : Int) ≤ (k : Int) := by omega
      have i1 : (k : Int) < (n : Int) := by omega
      by_cases hki : k = i
      · subst hki
        have HREL : Hid (RelW w P z.row k n (.slice V (wo z.row k k).length d) (.int .i64 ((k + 1 : Nat) : Int)) wr) := by
          refine ⟨k + 1, V, d, by omega, rfl, ?_, ?_, HB.out⟩
          · rw [wo_same hx rfl]
          · rw [wo_same hx rfl]; exact HLW.out
        clear hx HLW
        generalize (wo z.row k k).length = q at *
        go_wp2_with fail
        exact ⟨HREL.out, by simp [intOf]; omega⟩
      · have hq : ((k : Int) == (i : Int)) = false := beq_eq_false_iff_ne.2 (by omega)
        obtain ⟨g, B, m, cc, rfl, -, -, -, x0, x1, x2, x3, x4, hmc, hrd, hbp⟩ := HMR.out.row.get hx
        obtain ⟨v', W', hrun, hlw', ho', hv'⟩ := HLW.out.snocP hmc hrd hbp (fun b hb hq => by have := (HM.out.pl b hb).2.1; have := (HLW.out.lt b hq).1; omega) (by have := wo_len z.row i k; omega) HB.out.size rfl
        obtain ⟨V', d', rfl, -⟩ := hlw'.form
        rw [← wo_next hx hki] at hlw' hrun
        have HREL : Hid (RelW w P z.row i n (.slice V' (wo z.row i (k + 1)).length d') (.int .i64 ((k + 1 : Nat) : Int)) W') := ⟨k + 1, V', d', by omega, rfl, rfl, hlw', ho'.below HB.out (fun b hb => (HLW.out.lt b hb).1) HB.out.size⟩
        have hrun' := Lib.hid hrun
        clear hx hlw' ho' hv' hrun hmc hrd hbp HLW HMR
        unfold ltA at hrun'
        generalize (wo z.row i k).length = q at *
        generalize (wo z.row i (k + 1)).length = q' at *
        go_wp2_with (at_builtin; refine wpList_append_of rfl (.tmp 18) (.tmp 26) 46 rfl rfl rfl hrun'.out ?_)
        go_wp2_with fail
        exact ⟨HREL.out, by simp [intOf]; omega⟩
    · obtain rfl : k = n := by omega
      have v1 : ¬ (k : Int) < (k : Int) := by omega
      have fz : wr.frozen? ⟨gf, 1, none⟩ = false := HMR.out.bk.frozen 1
      have hfin := HM.out.setL HB.out (by have := HLW.out.mono_base HBASE.out; rw [HN.out, wo_all] at this; exact this) (fun b hb => .inl (HLW.out.lt b (by rw [HN.out, wo_all]; exact hb)).1)
      have HO : Hid (Out (fun b => b = gf) w (wr.setCell ⟨gf, 1, none⟩ (.slice V (z.row.eraseIdx i).length d))) := (Out.of_below HB.out).trans (Out.setCell (X := fun b => b = gf) _ rfl _) fun b hb => .inl hb
      rw [HN.out, wo_all]
      have HFIN := Lib.hid hfin
      have HV : Hid (∀ b, (Value.slice V (z.row.eraseIdx i).length d).ownBlock = some b → w.heap.size ≤ b) := fun b hb => (HLW.out.lt b (by rw [HN.out, wo_all]; exact hb)).1
      clear hfin hlt HMR
      generalize (z.row.eraseIdx i).length = q at *
      go_wp2_with fail
      exact bodyPost_end (results_none Try.results29 _ _ _) rfl ⟨rfl, _, HFIN.out, HO.out, HV.out⟩
end
end Go.Proofs.Ytmjipeagbogpmaa.Net

namespace Go.Proofs.Ytmjipeagbogpmaa.Net
open Go.RowKit Disk Zab Sto

def actA (x : A1) (v : Value) : Array Value := #[.int .u8 (x.do_ : Int), .int .i64 x.i, .int .i64 x.l.fr.g, .int .i64 x.l.fr.n, .int .i64 x.l.to.g, .int .i64 x.l.to.n, v]
section
variable {w0 w W w2 : World} {O O' : Nat → Prop} {gz : Nat} {z : Nt} {N : Nat}
theorem Sn.set5 (h : Sn w0 w O gz z N) {g : Nat} (hg : ¬ O g) (hl : w0.heap.size ≤ g) (a b c d e : Value) : Sn w0 (set5 w g a b c d e) O gz z N :=
  ⟨h.nt.out (out_set5 _ _ _ _ _ _ _) fun _ hb e => hg (e ▸ hb), below_set5 h.bl hl _ _ _ _ _⟩
theorem Go_.wrap (hW : Below w.heap.size w W) (hg : Go_ O O' W w2) {g : Nat} (hl : w.heap.size ≤ g) (a b c d e : Value) : Go_ O O' w (Net.set5 w2 g a b c d e) :=
  ⟨((Out.of_below hW).trans hg.1 fun b hb => .inl hb).trans (out_set5 _ _ _ _ _ _ _) fun b hb => .inr (by subst hb; exact hl), fun b hb => (hg.2 b hb).imp id fun q => Nat.le_trans hW.size q⟩
theorem act_0 {x : A1} (h : x.do_ % 7 = 0) : z.act x = ((z.send x.l).1, lt0, (z.send x.l).2) := by unfold Nt.act; simp [h]
theorem act_1 {x : A1} (h : x.do_ % 7 = 1) : z.act x = z.take x.i := by unfold Nt.act; simp [h]
theorem act_2 {x : A1} (h : x.do_ % 7 = 2) : z.act x = ((z.drop x.i).1, lt0, (z.drop x.i).2) := by unfold Nt.act; simp [h]
theorem act_3 {x : A1} (h : x.do_ % 7 = 3) : z.act x = ((z.double x.i).1, lt0, (z.double x.i).2) := by unfold Nt.act; simp [h]
theorem act_4 {x : A1} (h : x.do_ % 7 = 4) : z.act x = ((z.hold x.i).1, lt0, (z.hold x.i).2) := by unfold Nt.act; simp [h]
theorem act_5 {x : A1} (h : x.do_ % 7 = 5) : z.act x = ((z.turn x.l.fr x.l.to true).1, lt0, (z.turn x.l.fr x.l.to true).2) := by unfold Nt.act; simp [h]
theorem act_6 {x : A1} (h : x.do_ % 7 = 6) : z.act x = ((z.turn x.l.fr x.l.to false).1, lt0, (z.turn x.l.fr x.l.to false).2) := by unfold Nt.act; simp [h]
set_option maxRecDepth 100000 in
set_option maxHeartbeats 4000000 in
theorem does_any (h : Sn w0 w O gz z N) (hN : N < 1000000) {x : A1} (hx : x.Ok) {B : Option Addr} {m c : Nat} (hr : Rd w B m x.l.bs) (hmc : m ≤ c) (hm : m ≤ 140737488355328) : Calls Try.prog 8 #[.pointer (some ⟨gz, 0, none⟩), .agg (actA x (.slice B m c))] w (TookS w0 O gz (z.act x) (N + 1) w) := by
  have hB : Below w.heap.size w ((w.alloc (.cells (actA x (.slice B m c)) 39)).alloc (.cells ltZ 37)) := ((Below.refl _ _).alloc (Nat.le_refl _) _).alloc (by simp) _
  have B1 := (Bk.new w 39 (actA x (.slice B m c))).alloc (.cells ltZ 37)
  have B2 : Bk ((w.alloc (.cells (actA x (.slice B m c)) 39)).alloc (.cells ltZ 37)) (w.heap.size + 1) 37 ltZ := by simpa using Bk.new (w.alloc (.cells (actA x (.slice B m c)) 39)) 37 ltZ
  have hs := h.later hB
  have hr1 := hr.below hB
  have k0 := B1.cell 0
  have k1 := B1.cell 1
  have k2 := B1.cell 2
  have k3 := B1.cell 3
  have k4 := B1.cell 4
  have k5 := B1.cell 5
  have k6 := B1.cell 6
  have HB := Lib.hid hB
  have HSN := Lib.hid hs
  have HR := Lib.hid hr1
  have HB2 := Lib.hid B2
  have HLOW : Hid (∀ b, O b → b < w.heap.size) := fun b hb => (h.nt.low b hb).2
  have HL0 : Hid (w0.heap.size ≤ w.heap.size) := h.bl.size
  have HE : Hid (∀ (O' : Nat → Prop) (w2 : World) (r : Nt × Lt × Int), Sn w0 w2 O' gz r.1 (N + 1) → Go_ O O' ((w.alloc (.cells (actA x (.slice B m c)) 39)).alloc (.cells ltZ 37)) w2 → ∀ B' m' k', m' ≤ k' → Rd w2 B' m' r.2.1.bs → (∀ a, B' = some a → w.heap.size + 2 ≤ a.block ∧ ¬ O' a.block) → TookS w0 O gz r (N + 1) w (.returned (.tuple #[ltV r.2.1 (.slice B' m' k'), .int .i64 r.2.2])) (Net.set5 w2 (w.heap.size + 1) (.int .i64 r.2.1.fr.g) (.int .i64 r.2.1.fr.n) (.int .i64 r.2.1.to.g) (.int .i64 r.2.1.to.n) (.slice B' m' k'))) := fun O' w2 r q1 q2 B' m' k' q3 q4 q5 => by
    have hsz : ((w.alloc (.cells (actA x (.slice B m c)) 39)).alloc (.cells ltZ 37)).heap.size = w.heap.size + 2 := by simp
    have hno : ¬ O' (w.heap.size + 1) := fun hq => by
      rcases q2.2 _ hq with hq | hq
      · have := HLOW.out _ hq; omega
      · omega
    exact ⟨O', B', m', k', rfl, q3, rd_out q4 (out_set5 _ _ _ _ _ _ _) (fun a ha h0 => by have := (q5 a ha).1; show a.block ≠ _; omega), fun a ha => ⟨by have := (q5 a ha).1; omega, (q5 a ha).2⟩, q1.set5 hno (by have := HL0.out; omega) _ _ _ _ _, Go_.wrap HB.out q2 (by omega) _ _ _ _ _⟩
  have HK : Hid (∀ (O' : Nat → Prop) (w2 : World), Go_ O O' ((w.alloc (.cells (actA x (.slice B m c)) 39)).alloc (.cells ltZ 37)) w2 → Bk w2 (w.heap.size + 1) 37 ltZ) := fun O' w2 q => HB2.out.kept (q.1.block _ HB2.out.lt fun hq => by have := HLOW.out _ hq; omega)
  have hd := hx.d
  have hd0 : (0 : Int) ≤ (x.do_ : Int) := by omega
  have hd1 : (x.do_ : Int) < 256 := by omega
  have HMC := Lib.hid hmc
  clear hB B1 B2 hs hr1 h hr hmc
  generalize hw : (w.alloc (.cells (actA x (.slice B m c)) 39)).alloc (.cells ltZ 37) = W at *
  have hW : W.heap.size = w.heap.size + 2 := by rw [← hw]; simp
  have HW := Lib.hid hW
  clear hW
  unfold actA ltZ at hw
  unfold actA at k0 k1 k2 k3 k4 k5 k6 ⊢
  obtain ⟨d, hdd⟩ : ∃ d, d = x.do_ % 7 := ⟨_, rfl⟩
  have hd7 : d < 7 := by omega
  match d, hd7, hdd with
  | 0, hd7, hdd =>
    have ha := act_0 (z := z) hdd.symm
    have hq : (x.do_ : Int) % 7 = 0 := by omega
    obtain ⟨R, hR⟩ : ∃ R, R = z.act x := ⟨_, rfl⟩
    rw [← hR] at ha ⊢
    have HA := Lib.hid ha
    clear ha hR hdd hd7
    have CC := Lib.hid (HSN.out.send (l := x.l) HR.out HMC.out hm)
    unfold ltV ltA at CC
    go_enter Try.func8, Try.ntmps8
    go_wp2_with fail
    refine CC.out.mono ?_
    rintro e w3 ⟨O', rfl, q1, q2⟩
    have HBK := Lib.hid (HK.out O' w3 q2)
    have HX : Hid (TookS w0 O gz R (N + 1) w (.returned (.tuple #[ltV lt0 (.slice none 0 0), .int .i64 (z.send x.l).2])) (Net.set5 w3 (w.heap.size + 1) (.int .i64 0) (.int .i64 0) (.int .i64 0) (.int .i64 0) (.slice none 0 0))) := by
      rw [HA.out]
      exact HE.out O' w3 ((z.send x.l).1, lt0, (z.send x.l).2) (q1.mono (Nat.le_succ _)) q2 none 0 0 (Nat.le_refl _) (Rd.nil_ _ _) (fun a ha => by cases ha)
    clear q1 q2 CC HE HK
    obtain ⟨c0, c1, c2, c3, c4⟩ := bk_cells5 HBK.out
    have kb := HBK.out.frozen
    have kf0 := kb 0
    have kf1 := kb 1
    have kf2 := kb 2
    have kf3 := kb 3
    have kf4 := kb 4
    clear kb
    go_wp2_with fail
    have hb5 := bk_set5 HBK.out (.int .i64 0) (.int .i64 0) (.int .i64 0) (.int .i64 0) (.slice none 0 0)
    refine bodyPost_ret (v := .tuple #[.agg #[.int .i64 0, .int .i64 0, .int .i64 0, .int .i64 0, .slice none 0 0], .int .i64 (z.send x.l).2]) ?_ rfl HX.out
    have k0 := hb5.cell 0
    have k1 := hb5.cell 1
    have k2 := hb5.cell 2
    have k3 := hb5.cell 3
    have k4 := hb5.cell 4
    unfold Net.set5 at k0 k1 k2 k3 k4
    simp [results, Try.results8, go_sem, k0, k1, k2, k3, k4]
  | 1, hd7, hdd =>
    have ha := act_1 (z := z) hdd.symm
    have hq : (x.do_ : Int) % 7 = 1 := by omega
    obtain ⟨R, hR⟩ : ∃ R, R = z.act x := ⟨_, rfl⟩
    rw [← hR] at ha ⊢
    have HA := Lib.hid ha
    clear ha hR hdd hd7
    have CC := Lib.hid (HSN.out.take x.i)
    go_enter Try.func8, Try.ntmps8
    go_wp2_with fail
    refine CC.out.mono ?_
    rintro e w3 ⟨O', B', m', k', rfl, q3, q4, q5, q1, q2⟩
    have HBK := Lib.hid (HK.out O' w3 q2)
    obtain ⟨r, hr0⟩ : ∃ r, r = z.take x.i := ⟨_, rfl⟩
    rw [← hr0] at q1 q4
    rw [← hr0]
    have HX : Hid (TookS w0 O gz R (N + 1) w (.returned (.tuple #[ltV r.2.1 (.slice B' m' k'), .int .i64 r.2.2])) (Net.set5 w3 (w.heap.size + 1) (.int .i64 r.2.1.fr.g) (.int .i64 r.2.1.fr.n) (.int .i64 r.2.1.to.g) (.int .i64 r.2.1.to.n) (.slice B' m' k'))) := by
      rw [HA.out, ← hr0]
      exact HE.out O' w3 r (q1.mono (Nat.le_succ _)) q2 B' m' k' q3 q4 (fun a ha => ⟨by rw [← HW.out]; exact (q5 a ha).1, (q5 a ha).2⟩)
    clear q1 q2 q3 q4 q5 CC HE HK hr0
    obtain ⟨c0, c1, c2, c3, c4⟩ := bk_cells5 HBK.out
    have kb := HBK.out.frozen
    have kf0 := kb 0
    have kf1 := kb 1
    have kf2 := kb 2
    have kf3 := kb 3
    have kf4 := kb 4
    clear kb
    unfold ltV ltA
    go_wp2_with fail
    have hb5 := bk_set5 HBK.out (.int .i64 r.2.1.fr.g) (.int .i64 r.2.1.fr.n) (.int .i64 r.2.1.to.g) (.int .i64 r.2.1.to.n) (.slice B' m' k')
    refine bodyPost_ret (v := .tuple #[.agg #[.int .i64 r.2.1.fr.g, .int .i64 r.2.1.fr.n, .int .i64 r.2.1.to.g, .int .i64 r.2.1.to.n, .slice B' m' k'], .int .i64 r.2.2]) ?_ rfl HX.out
    have k0 := hb5.cell 0
    have k1 := hb5.cell 1
    have k2 := hb5.cell 2
    have k3 := hb5.cell 3
    have k4 := hb5.cell 4
    unfold Net.set5 at k0 k1 k2 k3 k4
    simp [results, Try.results8, go_sem, k0, k1, k2, k3, k4]
  | 2, hd7, hdd =>
    have ha := act_2 (z := z) hdd.symm
    have hq : (x.do_ : Int) % 7 = 2 := by omega
    obtain ⟨R, hR⟩ : ∃ R, R = z.act x := ⟨_, rfl⟩
    rw [← hR] at ha ⊢
    have HA := Lib.hid ha
    clear ha hR hdd hd7
    have CC := Lib.hid (HSN.out.drop x.i)
    go_enter Try.func8, Try.ntmps8
    go_wp2_with fail
    refine CC.out.mono ?_
    rintro e w3 ⟨O', rfl, q1, q2⟩
    have HBK := Lib.hid (HK.out O' w3 q2)
    have HX : Hid (TookS w0 O gz R (N + 1) w (.returned (.tuple #[ltV lt0 (.slice none 0 0), .int .i64 (z.drop x.i).2])) (Net.set5 w3 (w.heap.size + 1) (.int .i64 0) (.int .i64 0) (.int .i64 0) (.int .i64 0) (.slice none 0 0))) := by
      rw [HA.out]
      exact HE.out O' w3 ((z.drop x.i).1, lt0, (z.drop x.i).2) (q1.mono (Nat.le_succ _)) q2 none 0 0 (Nat.le_refl _) (Rd.nil_ _ _) (fun a ha => by cases ha)
    clear q1 q2 CC HE HK
    obtain ⟨c0, c1, c2, c3, c4⟩ := bk_cells5 HBK.out
    have kb := HBK.out.frozen
    have kf0 := kb 0
    have kf1 := kb 1
    have kf2 := kb 2
    have kf3 := kb 3
    have kf4 := kb 4
    clear kb
    go_wp2_with fail
    have hb5 := bk_set5 HBK.out (.int .i64 0) (.int .i64 0) (.int .i64 0) (.int .i64 0) (.slice none 0 0)
    refine bodyPost_ret (v := .tuple #[.agg #[.int .i64 0, .int .i64 0, .int .i64 0, .int .i64 0, .slice none 0 0], .int .i64 (z.drop x.i).2]) ?_ rfl HX.out
    have k0 := hb5.cell 0
    have k1 := hb5.cell 1
    have k2 := hb5.cell 2
    have k3 := hb5.cell 3
    have k4 := hb5.cell 4
    unfold Net.set5 at k0 k1 k2 k3 k4
    simp [results, Try.results8, go_sem, k0, k1, k2, k3, k4]
  | 3, hd7, hdd =>
    have ha := act_3 (z := z) hdd.symm
    have hq : (x.do_ : Int) % 7 = 3 := by omega
    obtain ⟨R, hR⟩ : ∃ R, R = z.act x := ⟨_, rfl⟩
    rw [← hR] at ha ⊢
    have HA := Lib.hid ha
    clear ha hR hdd hd7
    have CC := Lib.hid (HSN.out.double x.i)
    go_enter Try.func8, Try.ntmps8
    go_wp2_with fail
    refine CC.out.mono ?_
    rintro e w3 ⟨O', rfl, q1, q2⟩
    have HBK := Lib.hid (HK.out O' w3 q2)
    have HX : Hid (TookS w0 O gz R (N + 1) w (.returned (.tuple #[ltV lt0 (.slice none 0 0), .int .i64 (z.double x.i).2])) (Net.set5 w3 (w.heap.size + 1) (.int .i64 0) (.int .i64 0) (.int .i64 0) (.int .i64 0) (.slice none 0 0))) := by
      rw [HA.out]
      exact HE.out O' w3 ((z.double x.i).1, lt0, (z.double x.i).2) (q1.mono (Nat.le_succ _)) q2 none 0 0 (Nat.le_refl _) (Rd.nil_ _ _) (fun a ha => by cases ha)
    clear q1 q2 CC HE HK
    obtain ⟨c0, c1, c2, c3, c4⟩ := bk_cells5 HBK.out
    have kb := HBK.out.frozen
    have kf0 := kb 0
    have kf1 := kb 1
    have kf2 := kb 2
    have kf3 := kb 3
    have kf4 := kb 4
    clear kb
    go_wp2_with fail
    have hb5 := bk_set5 HBK.out (.int .i64 0) (.int .i64 0) (.int .i64 0) (.int .i64 0) (.slice none 0 0)
    refine bodyPost_ret (v := .tuple #[.agg #[.int .i64 0, .int .i64 0, .int .i64 0, .int .i64 0, .slice none 0 0], .int .i64 (z.double x.i).2]) ?_ rfl HX.out
    have k0 := hb5.cell 0
    have k1 := hb5.cell 1
    have k2 := hb5.cell 2
    have k3 := hb5.cell 3
    have k4 := hb5.cell 4
    unfold Net.set5 at k0 k1 k2 k3 k4
    simp [results, Try.results8, go_sem, k0, k1, k2, k3, k4]
  | 4, hd7, hdd =>
    have ha := act_4 (z := z) hdd.symm
    have hq : (x.do_ : Int) % 7 = 4 := by omega
    obtain ⟨R, hR⟩ : ∃ R, R = z.act x := ⟨_, rfl⟩
    rw [← hR] at ha ⊢
    have HA := Lib.hid ha
    clear ha hR hdd hd7
    have CC := Lib.hid (HSN.out.hold x.i)
    go_enter Try.func8, Try.ntmps8
    go_wp2_with fail
    refine CC.out.mono ?_
    rintro e w3 ⟨O', rfl, q1, q2⟩
    have HBK := Lib.hid (HK.out O' w3 q2)
    have HX : Hid (TookS w0 O gz R (N + 1) w (.returned (.tuple #[ltV lt0 (.slice none 0 0), .int .i64 (z.hold x.i).2])) (Net.set5 w3 (w.heap.size + 1) (.int .i64 0) (.int .i64 0) (.int .i64 0) (.int .i64 0) (.slice none 0 0))) := by
      rw [HA.out]
      exact HE.out O' w3 ((z.hold x.i).1, lt0, (z.hold x.i).2) (q1.mono (Nat.le_succ _)) q2 none 0 0 (Nat.le_refl _) (Rd.nil_ _ _) (fun a ha => by cases ha)
    clear q1 q2 CC HE HK
    obtain ⟨c0, c1, c2, c3, c4⟩ := bk_cells5 HBK.out
    have kb := HBK.out.frozen
    have kf0 := kb 0
    have kf1 := kb 1
    have kf2 := kb 2
    have kf3 := kb 3
    have kf4 := kb 4
    clear kb
    go_wp2_with fail
    have hb5 := bk_set5 HBK.out (.int .i64 0) (.int .i64 0) (.int .i64 0) (.int .i64 0) (.slice none 0 0)
    refine bodyPost_ret (v := .tuple #[.agg #[.int .i64 0, .int .i64 0, .int .i64 0, .int .i64 0, .slice none 0 0], .int .i64 (z.hold x.i).2]) ?_ rfl HX.out
    have k0 := hb5.cell 0
    have k1 := hb5.cell 1
    have k2 := hb5.cell 2
    have k3 := hb5.cell 3
    have k4 := hb5.cell 4
    unfold Net.set5 at k0 k1 k2 k3 k4
    simp [results, Try.results8, go_sem, k0, k1, k2, k3, k4]
  | 5, hd7, hdd =>
    have ha := act_5 (z := z) hdd.symm
    have hq : (x.do_ : Int) % 7 = 5 := by omega
    obtain ⟨R, hR⟩ : ∃ R, R = z.act x := ⟨_, rfl⟩
    rw [← hR] at ha ⊢
    have HA := Lib.hid ha
    clear ha hR hdd hd7
    have CC := Lib.hid (HSN.out.cut hN x.l.fr x.l.to)
    unfold adV at CC
    go_enter Try.func8, Try.ntmps8
    go_wp2_with fail
    refine CC.out.mono ?_
    rintro e w3 ⟨O', rfl, q1, q2⟩
    have HBK := Lib.hid (HK.out O' w3 q2)
    have HX : Hid (TookS w0 O gz R (N + 1) w (.returned (.tuple #[ltV lt0 (.slice none 0 0), .int .i64 (z.turn x.l.fr x.l.to true).2])) (Net.set5 w3 (w.heap.size + 1) (.int .i64 0) (.int .i64 0) (.int .i64 0) (.int .i64 0) (.slice none 0 0))) := by
      rw [HA.out]
      exact HE.out O' w3 ((z.turn x.l.fr x.l.to true).1, lt0, (z.turn x.l.fr x.l.to true).2) q1 q2 none 0 0 (Nat.le_refl _) (Rd.nil_ _ _) (fun a ha => by cases ha)
    clear q1 q2 CC HE HK
    obtain ⟨c0, c1, c2, c3, c4⟩ := bk_cells5 HBK.out
    have kb := HBK.out.frozen
    have kf0 := kb 0
    have kf1 := kb 1
    have kf2 := kb 2
    have kf3 := kb 3
    have kf4 := kb 4
    clear kb
    go_wp2_with fail
    have hb5 := bk_set5 HBK.out (.int .i64 0) (.int .i64 0) (.int .i64 0) (.int .i64 0) (.slice none 0 0)
    refine bodyPost_ret (v := .tuple #[.agg #[.int .i64 0, .int .i64 0, .int .i64 0, .int .i64 0, .slice none 0 0], .int .i64 (z.turn x.l.fr x.l.to true).2]) ?_ rfl HX.out
    have k0 := hb5.cell 0
    have k1 := hb5.cell 1
    have k2 := hb5.cell 2
    have k3 := hb5.cell 3
    have k4 := hb5.cell 4
    unfold Net.set5 at k0 k1 k2 k3 k4
    simp [results, Try.results8, go_sem, k0, k1, k2, k3, k4]
  | 6, hd7, hdd =>
    have ha := act_6 (z := z) hdd.symm
    have hq : (x.do_ : Int) % 7 = 6 := by omega
    obtain ⟨R, hR⟩ : ∃ R, R = z.act x := ⟨_, rfl⟩
    rw [← hR] at ha ⊢
    have HA := Lib.hid ha
    clear ha hR hdd hd7
    have CC := Lib.hid (HSN.out.heal hN x.l.fr x.l.to)
    unfold adV at CC
    go_enter Try.func8, Try.ntmps8
    go_wp2_with fail
    refine CC.out.mono ?_
    rintro e w3 ⟨O', rfl, q1, q2⟩
    have HBK := Lib.hid (HK.out O' w3 q2)
    have HX : Hid (TookS w0 O gz R (N + 1) w (.returned (.tuple #[ltV lt0 (.slice none 0 0), .int .i64 (z.turn x.l.fr x.l.to false).2])) (Net.set5 w3 (w.heap.size + 1) (.int .i64 0) (.int .i64 0) (.int .i64 0) (.int .i64 0) (.slice none 0 0))) := by
      rw [HA.out]
      exact HE.out O' w3 ((z.turn x.l.fr x.l.to false).1, lt0, (z.turn x.l.fr x.l.to false).2) q1 q2 none 0 0 (Nat.le_refl _) (Rd.nil_ _ _) (fun a ha => by cases ha)
    clear q1 q2 CC HE HK
    obtain ⟨c0, c1, c2, c3, c4⟩ := bk_cells5 HBK.out
    have kb := HBK.out.frozen
    have kf0 := kb 0
    have kf1 := kb 1
    have kf2 := kb 2
    have kf3 := kb 3
    have kf4 := kb 4
    clear kb
    go_wp2_with fail
    have hb5 := bk_set5 HBK.out (.int .i64 0) (.int .i64 0) (.int .i64 0) (.int .i64 0) (.slice none 0 0)
    refine bodyPost_ret (v := .tuple #[.agg #[.int .i64 0, .int .i64 0, .int .i64 0, .int .i64 0, .slice none 0 0], .int .i64 (z.turn x.l.fr x.l.to false).2]) ?_ rfl HX.out
    have k0 := hb5.cell 0
    have k1 := hb5.cell 1
    have k2 := hb5.cell 2
    have k3 := hb5.cell 3
    have k4 := hb5.cell 4
    unfold Net.set5 at k0 k1 k2 k3 k4
    simp [results, Try.results8, go_sem, k0, k1, k2, k3, k4]
end
end Go.Proofs.Ytmjipeagbogpmaa.Net
