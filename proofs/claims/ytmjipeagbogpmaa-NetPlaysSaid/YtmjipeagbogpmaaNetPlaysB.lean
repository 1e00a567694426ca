/- NetPlays: a net answers as the document's own net does, act by act: each answer, all letters, how many, and whether the link is cut, both ways: for all sizes and all acts the call returns true, and nothing that was there has turned. No conditions. -/
import Derived.Test.YtmjipeagbogpmaaBase9
import Derived.Test.YtmjipeagbogpmaaBase10
import Derived.Test.YtmjipeagbogpmaaBase7
import Derived.Deep.CutBlock
import Derived.Test.YtmjipeagbogpmaaBase11
namespace Go.Proofs.Ytmjipeagbogpmaa.netPlays
open Go.ChangeShapes Go.WideShapes Go.ChangeAt Go.RowKit Disk Zab Sto Net
open PhaseG (wp_region_freeg RT RT_known)
open Phase (stepsL_cons stepsL_nil)

theorem nty_ints : Try.prog.underlying 22 = some (.slice 3) := by kernel_rfl
theorem info_int : (Try.prog.info? 3).map (fun i => (i.zero, i.size, i.bytes)) = some (some (.int .i64 0), 1, 8) := by kernel_rfl
theorem iv_one (zs : List Int) : ∀ u ∈ iv zs, u.oneCell' = true := fun u hu => by
  obtain ⟨x, _, rfl⟩ := List.mem_map.1 hu
  rfl
theorem rdv_own {w : World} {base : Nat} {e : TypeId} {A : Option Addr} {n c : Nat} {vs : List Value} (h : w.ownsRow base e 1 (.slice A n c) n vs) : RdV w A n vs := by
  have hl := h.1
  rcases h.2 with ⟨e1, e2⟩ | ⟨g, cap, cur, e1, hg, hh, hnc, hcm, hcs, htk⟩
  · subst e2
    exact ⟨by omega, fun h0 => absurd h0 (by omega)⟩
  · injection e1 with e1
    subst e1
    refine ⟨by omega, fun _ => ⟨_, rfl, fun j v hj => ?_⟩⟩
    have hjl := (List.getElem?_eq_some_iff.1 hj).1
    rw [← htk, List.getElem?_take] at hj
    split at hj
    · rw [plus_add]
      simp [World.cell?, hh]
      simpa using hj
    · cases hj
/-- The copy is set to zero: behind k of its numbers. -/
def RelZ (W : World) (V : Option Addr) (n : Nat) (i : Value) (wr : World) : Prop := ∃ k : Nat, k ≤ n ∧ i = .int .i64 (k : Int) ∧ Out (fun b => ∃ a, V = some a ∧ a.block = b) W wr ∧ (1 ≤ n → ∃ g cur, V = some ⟨g, 0, none⟩ ∧ Bk wr g 3 cur ∧ n ≤ cur.size)
/-- What those of the great comparison yield that no table tells: boxes of one letter, the row of letters. -/
def A28 (p : Lt) (Bp : Option Addr) (mp cp : Nat) (Bq : Option Addr) (mq cq r : Nat) (row : List Lt) (k : Nat) (x : Value) (W : World) : Prop := match k with
  | 5 => ∃ g, x = .slice (some ⟨g, 0, none⟩) 1 1 ∧ Bk W g 37 (ltA p (.slice Bp mp cp))
  | 7 => ∃ g, x = .slice (some ⟨g, 0, none⟩) 1 1 ∧ Bk W g 37 (ltA p (.slice Bq mq cq))
  | 13 => ∃ g, x = .slice (some ⟨g, 0, none⟩) r r ∧ LtS (fun _ => True) W (some ⟨g, 0, none⟩) r row
  | _ => True
theorem A28_below {p : Lt} {Bp : Option Addr} {mp cp : Nat} {Bq : Option Addr} {mq cq r : Nat} {row : List Lt} {k : Nat} {x : Value} {W W' : World} (hb : Below W.heap.size W W') (h : A28 p Bp mp cp Bq mq cq r row k x W) : A28 p Bp mp cp Bq mq cq r row k x W' := by
  unfold A28 at *
  split at h
  · obtain ⟨g, e, hk⟩ := h
    exact ⟨g, e, hk.below hb⟩
  · obtain ⟨g, e, hk⟩ := h
    exact ⟨g, e, hk.below hb⟩
  · obtain ⟨g, e, hk⟩ := h
    exact ⟨g, e, hk.below hb⟩
  · trivial
/-- Behind k acts. -/
def Rel2 (w1 : World) (base gf gz : Nat) (A0 : Option Addr) (c0 n : Nat) (i : Value) (wr : World) : Prop := ∃ (k : Nat) (O : Nat → Prop) (z : Nt) (vL vC : Value) (prs : List (Ad × Ad)) (P : Nat → Prop), k ≤ n ∧ i = .int .i64 (k : Int) ∧ Both w1 wr base gf gz A0 c0 O z z vL vC prs P k k
/-- Behind both calls of an act: p, q stand in boxes. -/
structure Mid (w1 w wx : World) (base gf gz : Nat) (A0 : Option Addr) (c0 : Nat) (O : Nat → Prop) (y : Nt) (x : A1) (X : Option Addr) (mx cx : Nat) (p : Lt) (Bp : Option Addr) (mp cp tb tp tq k : Nat) : Prop where
  bo : ∃ vL vC prs P, Both w1 wx base gf gz A0 c0 O y y vL vC prs P k k
  b1 : Bk wx tb 39 (actA x (.slice X mx cx))
  b2 : Bk wx tp 37 (ltA p (.slice Bp mp cp))
  r2 : Rd wx Bp mp p.bs
  b3 : ∃ Bq mq cq, Bk wx tq 37 (ltA p (.slice Bq mq cq)) ∧ mq ≤ cq ∧ Rd wx Bq mq p.bs
theorem plain_of {w : World} {a : Addr} {v : Value} (h : w.cell? a = some v) : a = ⟨a.block, a.off, none⟩ := by
  obtain ⟨b, o, s⟩ := a
  cases s with
  | none => rfl
  | some x =>
    unfold World.cell? at h
    split at h
    · simp at h
    · cases h
theorem mid_rd {w : World} {g : Nat} {B : Option Addr} {m c : Nat} {bs : List UInt8} (hk : Bk w g 37 ltZ) (hr : Rd w B m bs) (_hm : m ≤ c) : ∀ a, B = some a → 1 ≤ m → a.block ≠ g := fun a ha h0 e => by
  obtain ⟨ad, e1, hc⟩ := hr.cells h0
  rw [ha] at e1
  injection e1 with e1
  subst e1
  have hlt : 0 < bs.length := by have := hr.len; omega
  have h1 := hc 0 _ (List.getElem?_eq_getElem hlt)
  obtain ⟨b, o, s⟩ := a
  subst e
  have e3 : (⟨b, o, s⟩ : Addr).add 0 = ⟨b, o, s⟩ := by unfold Addr.add; simp
  rw [e3] at h1
  have e2 := plain_of h1
  injection e2 with _ _ e2
  subst e2
  rw [hk.cell o] at h1
  have hall : ∀ (i : Nat) (v : Value), ltZ[i]? = some v → (∃ z, v = .int .i64 z) ∨ v = .slice none 0 0 := fun i v hv => by
    match i with
    | 0 | 1 | 2 | 3 => injection hv with hv; exact .inl ⟨_, hv.symm⟩
    | 4 => injection hv with hv; exact .inr hv.symm
    | i + 5 => simp [ltZ] at hv
  rcases hall _ _ h1 with ⟨z, e⟩ | e
  · cases e
  · cases e
set_option maxRecDepth 100000 in
set_option maxHeartbeats 8000000 in
theorem walk (A0 A : Option Addr) (n0 c0 n c : Nat) (zs : List Int) (xs : List A1) (w : World) (hz : RdV w A0 n0 (iv zs)) (hA0 : ∀ a, A0 = some a → 1 ≤ n0 → a.block < w.heap.size) (h : ActS (fun b => b < w.heap.size) w A n xs) (hn : n ≤ 140737488355328) (hy : ∀ x ∈ xs, x.l.bs.length ≤ 140737488355328) : Calls Try.prog 3 #[.slice A0 n0 c0, .slice A n c] w fun e w' => e = .returned (.bool true) ∧ Below w.heap.size w w' := by
  have CG0 := great_any h c hn hy
  by_cases hg : greatF xs = true
  · rw [hg] at CG0
    have CG := Lib.hid CG0
    clear CG0 h hy hz hA0
    go_enter Try.func3, Try.ntmps3
    go_wp2_with fail
    refine CG.out.mono ?_
    rintro e w1 ⟨rfl, rfl⟩
    go_wp2_with fail
    go_ret
    exact ⟨rfl, Below.refl _ _⟩
  have hg : greatF xs = false := by simpa using hg
  rw [hg] at CG0
  have CG := Lib.hid CG0
  have HG := Lib.hid (great_no hg)
  have HA := Lib.hid h
  have HXL : Hid (xs.length = n) := h.len
  have HZ := Lib.hid hz
  have HA0 := Lib.hid hA0
  have hn60 : n ≤ 60 := by have := (great_no hg).1; rw [h.len] at this; exact this
  clear CG0 hg h hy hz hA0
  by_cases h20 : 20 < n0
  · have i1 : (20 : Int) < (n0 : Int) := by omega
    go_enter Try.func3, Try.ntmps3
    go_wp2_with fail
    refine CG.out.mono ?_
    rintro e w1 ⟨rfl, rfl⟩
    clear CG
    go_wp2_with fail
    go_ret
    exact ⟨rfl, Below.refl _ _⟩
  have i1 : ¬ (20 : Int) < (n0 : Int) := by omega
  obtain ⟨i0, hi, hz0, hz1, hz2⟩ := info_parts info_int
  have HI := Lib.hid hi
  have HI0 := Lib.hid hz0
  have HI1 := Lib.hid hz1
  have HI2 := Lib.hid hz2
  clear hi hz0 hz1 hz2
  go_enter Try.func3, Try.ntmps3
  go_wp2_with fail
  refine CG.out.mono ?_
  rintro e w1 ⟨rfl, rfl⟩
  clear CG
  have HBa := Lib.hid ((Below.refl w1.heap.size w1).alloc (Nat.le_refl _) (.cells #[] 3))
  have hzb := Lib.hid (rdv_out HZ.out (Out.of_below (X := fun _ => False) HBa.out) fun _ _ _ q => q)
  go_wp2_with (at_builtin; refine wpList_append_RdV rfl (.tmp 24) (.tmp 25) _ rfl nty_ints HI.out HI0.out HI1.out HI2.out rfl rfl (own_lit1 w1 3) rfl hzb.out (iv_one zs) (by unfold maxLen; omega) (by omega) (by simp) ?_)
  intro v' W1 hown hgr
  have HB1 : Hid (Below w1.heap.size w1 W1) := HBa.out.grown hgr HBa.out.size (fun g hg => ((own_lit1 w1 3).lt g hg).1)
  obtain ⟨V, cv, rfl⟩ := own_slice hown
  have HOWN := Lib.hid hown
  have CN := Lib.hid (New_any zs V n0 cv W1 (rdv_own hown) (by omega))
  clear hown hgr hzb HBa HI HI0 HI1 HI2
  go_wp2_with fail
  refine CN.out.mono ?_
  rintro e W2 ⟨hb2, hn2⟩
  have HB2 := Lib.hid hb2
  obtain ⟨ok, hok⟩ : ∃ ok, ok = sizesOk zs := ⟨_, rfl⟩
  have HOWN2 := Lib.hid ((own_out (X := fun _ => False) HOWN.out (Out.of_below hb2) fun _ _ q => q).1)
  have hrow : 1 ≤ n0 → ∃ g cur, V = some ⟨g, 0, none⟩ ∧ Bk W2 g 3 cur ∧ n0 ≤ cur.size := fun h0 => by
    rcases HOWN2.out.2 with ⟨_, e2⟩ | ⟨g, cap, cur, e1, hg, hh, hnc, hcm, hcs, htk⟩
    · omega
    · injection e1 with e1
      exact ⟨g, cur, e1, hh, by omega⟩
  have HROW := Lib.hid hrow
  obtain ⟨pa, er, rfl, hn3⟩ : ∃ (pa : Option Addr) (er : Int), e = .returned (.tuple #[.pointer pa, .int .i64 er]) ∧ ((sizesOk zs = false ∧ pa = none ∧ er = 1) ∨ (sizesOk zs = true ∧ er = 0 ∧ ∃ gz O, pa = some ⟨gz, 0, none⟩ ∧ NtAt W1 W2 O gz (Nt.new zs) 0)) := by
    rcases hn2 with ⟨hbad, rfl⟩ | ⟨hgood, gz, O, rfl, hnt⟩
    · exact ⟨none, 1, rfl, .inl ⟨hbad, rfl, rfl⟩⟩
    · exact ⟨_, 0, rfl, .inr ⟨hgood, rfl, gz, O, rfl, hnt⟩⟩
  have HN3 := Lib.hid hn3
  have HV : Hid (∀ a, V = some a → w1.heap.size ≤ a.block ∧ a.block < W1.heap.size) := fun a ha => HOWN.out.lt a.block (by rw [ha]; rfl)
  clear hb2 hrow CN hn2 hn3 hok
  go_wp2_with fail
  go_loopw [8] (fun i wr => RelZ W2 V n0 i wr) (fun i _ => n0 - (intOf i).toNat)
  case atStart => exact ⟨0, Nat.zero_le _, rfl, Out.refl _ _, HROW.out⟩
  case round =>
    obtain ⟨k, hk, rfl, ho, hbk⟩ := hrel
    have HO := Lib.hid ho
    by_cases hlt : k < n0
    · obtain ⟨g, cur, rfl, hb, hsz⟩ := hbk (by omega)
      have i3 : (0 : Int) ≤ (k : Int) := by omega
      have i4 : (k : Int) < (n0 : Int) := by omega
      have hcl : k < cur.size := by omega
      have k1 := hb.cell k
      rw [Array.getElem?_eq_getElem hcl] at k1
      have k2 := hb.frozen k
      generalize cur[k] = old at k1
      have HREL : Hid (RelZ W2 (some ⟨g, 0, none⟩) n0 (.int .i64 ((k + 1 : Nat) : Int)) (wr.setCell ⟨g, k, none⟩ (.int .i64 0))) :=
        ⟨k + 1, by omega, rfl, HO.out.trans (Out.setCell (X := fun b => ∃ a, (some ⟨g, 0, none⟩ : Option Addr) = some a ∧ a.block = b) wr (p := ⟨g, k, none⟩) ⟨⟨g, 0, none⟩, rfl, rfl⟩ (.int .i64 0)) fun b hb => .inl hb, fun _ => ⟨g, _, rfl, hb.set k (.int .i64 0), by simpa using hsz⟩⟩
      clear hb hsz hbk hcl ho
      go_wp2_with fail
      exact ⟨HREL.out, by simp [intOf]; omega⟩
    · have v1 : ¬ (k : Int) < (n0 : Int) := by omega
      have HBW : Hid (Below w1.heap.size w1 wr) := ho.below (HB1.out.trans (HB2.out.mono HB1.out.size)) (fun b hb => by obtain ⟨a, ha, rfl⟩ := hb; exact (HV.out a ha).1) (HB1.out.trans (HB2.out.mono HB1.out.size)).size
      have CR := Lib.hid (rnew_any zs A0 n0 c0 wr (rdv_out HZ.out (Out.of_below (X := fun _ => False) HBW.out) fun _ _ _ q => q) (by omega) (fun a ha h0 => Nat.lt_of_lt_of_le (HA0.out a ha h0) HBW.out.size))
      clear ho hbk hlt HROW HOWN HOWN2
      go_wp2_with fail
      refine CR.out.mono ?_
      rintro e w4 ⟨hb4, hr4⟩
      have HB4 := Lib.hid hb4
      rcases hr4 with ⟨hbad, rfl⟩ | ⟨hgood, gf, rfl, hrf⟩
      · obtain ⟨rfl, rfl⟩ : pa = none ∧ er = 1 := by
          rcases HN3.out with ⟨_, q1, q2⟩ | ⟨q, _⟩
          · exact ⟨q1, q2⟩
          · rw [hbad] at q; cases q
        have CG2 := Lib.hid (goes_any w4)
        clear hb4 CR hbad HN3
        go_wp2_with fail
        refine CG2.out.mono ?_
        rintro e w5 ⟨rfl, hb5⟩
        have HF := Lib.hid (HBW.out.trans ((HB4.out.trans (hb5.mono HB4.out.size)).mono HBW.out.size))
        clear hb5 CG2
        go_wp2_with fail
        go_ret
        exact ⟨rfl, HF.out⟩
      · obtain ⟨gz, O, rfl, rfl, hnt⟩ : ∃ gz O, pa = some ⟨gz, 0, none⟩ ∧ er = 0 ∧ NtAt W1 W2 O gz (Nt.new zs) 0 := by
          rcases HN3.out with ⟨q, _⟩ | ⟨_, q2, gz, O, q3, q4⟩
          · rw [hgood] at q; cases q
          · exact ⟨gz, O, q3, q2, q4⟩
        have HI0 : Hid (Both w1 w4 wr.heap.size gf gz A0 c0 O (Nt.new zs) (Nt.new zs) (.slice none 0 0) (.slice none 0 0) [] (fun _ => False) 0 0) := by
          have hlow := hnt.low
          have h1 : NtAt W1 w4 O gz (Nt.new zs) 0 := (hnt.out HO.out fun b hb hq => by
            obtain ⟨a, ha, rfl⟩ := hq
            have := (HV.out a ha).2
            have := (hlow _ hb).1
            omega).below HB4.out
          have hl4 : W2.heap.size ≤ wr.heap.size := HO.out.size
          have h1n : 1 ≤ n0 := by
            have := (sizesOk_iff.1 hgood).1
            have e : zs.length = n0 := by rw [← HZ.out.len]; simp [iv]
            omega
          exact ⟨⟨h1.base HB1.out.size, HBW.out.trans (HB4.out.mono HBW.out.size)⟩, hrf, fun b hb => ⟨fun hq => by have := (hrf.wr_in b hq).1; have := (hlow b hb).2; omega, fun q => q⟩, fun a ha => HA0.out a ha h1n, HBW.out.size, Nat.le_refl _⟩
        generalize wr.heap.size = base at HI0
        clear CR HN3 hnt hrf HO HBW HB4 HB2 HB1 HV HA0 HZ hgood
        go_wp2_with fail
        go_loopw [11] (fun i wr => Rel2 w1 base gf gz A0 c0 n i wr) (fun i _ => n - (intOf i).toNat)
        case atStart => exact ⟨0, O, Nt.new zs, _, _, _, _, Nat.zero_le _, rfl, HI0.out⟩
        case round =>
          clear HI0
          obtain ⟨k, O, z, vL, vC, prs, P, hk, rfl, hbo⟩ := hrel
          by_cases hlt : k < n
          · have hxl : k < xs.length := by rw [HXL.out]; exact hlt
            have hx := List.getElem?_eq_getElem hxl
            have hbl := HG.out.2 _ (List.getElem_mem hxl)
            generalize xs[k] = x at hx hbl
            obtain ⟨bb, o, X, mx, cx, rfl, hbw, -, -, -, -, -, -, hc6, hmc, hrd, hbb, hxok⟩ := HA.out.get hx
            have HBO := Lib.hid hbo
            have HBW : Hid (Below w1.heap.size w1 wr) := hbo.sn.bl
            have hlo : ∀ V, Below w1.heap.size w1 V → (V.cell? ⟨bb, o + k * 7, none⟩ = some (.int .u8 (x.do_ : Int)) ∧ V.cell? ⟨bb, o + k * 7 + 1, none⟩ = some (.int .i64 x.i) ∧ V.cell? ⟨bb, o + k * 7 + 2, none⟩ = some (.int .i64 x.l.fr.g) ∧ V.cell? ⟨bb, o + k * 7 + 3, none⟩ = some (.int .i64 x.l.fr.n) ∧ V.cell? ⟨bb, o + k * 7 + 4, none⟩ = some (.int .i64 x.l.to.g) ∧ V.cell? ⟨bb, o + k * 7 + 5, none⟩ = some (.int .i64 x.l.to.n) ∧ V.cell? ⟨bb, o + k * 7 + 6, none⟩ = some (.slice X mx cx)) ∧ Rd V X mx x.l.bs := fun V hV => by
              obtain ⟨b', o', X', mx', cx', e0, hb', c0, c1, c2, c3, c4, c5, c6, h1, h2, -, -⟩ := HA.out.get hx
              injection e0 with e0
              injection e0 with e1 e2
              subst e1 e2
              have q := fun i v (hv : w1.cell? ⟨bb, i, none⟩ = some v) => (hV.cell (p := ⟨bb, i, none⟩) hb').trans hv
              obtain ⟨rfl, rfl, rfl⟩ : X' = X ∧ mx' = mx ∧ cx' = cx := by
                have := c6.symm.trans hc6
                injection this with this
                injection this with e1 e2 e3
                exact ⟨e1, e2, e3⟩
              exact ⟨⟨q _ _ c0, q _ _ c1, q _ _ c2, q _ _ c3, q _ _ c4, q _ _ c5, q _ _ c6⟩, h2.below hV⟩
            have hmx : mx ≤ 200 := by rw [← hrd.len]; exact hbl
            have HMC := Lib.hid hmc
            have HOK := Lib.hid hxok
            have HRD : Hid (∀ V, Below w1.heap.size w1 V → Rd V X mx x.l.bs) := fun V hV => (hlo V hV).2
            obtain ⟨⟨c0_, c1, c2, c3, c4, c5, c6⟩, -⟩ := hlo wr HBW.out
            have hi0 : (0 : Int) ≤ (k : Int) := by omega
            have hi1 : (k : Int) < (n : Int) := by omega
            -- the act's box
            have hbn := (Below.refl wr.heap.size wr).alloc (Nat.le_refl _) (.cells (actA x (.slice X mx cx)) 39)
            have HT1 := Lib.hid (Bk.new wr 39 (actA x (.slice X mx cx)))
            have HB1 := Lib.hid (hbo.later hbn)
            have HF1 := Lib.hid (hbo.fresh (Nat.le_refl wr.heap.size))
            have CD0 := does_any HB1.out.sn (by omega) HOK.out (HRD.out _ HB1.out.sn.bl) HMC.out (by omega)
            obtain ⟨y, p, f, he⟩ : ∃ y p f, z.act x = (y, p, f) := ⟨_, _, _, rfl⟩
            rw [he] at CD0
            have HE := Lib.hid he
            have HT1C : Hid (∀ V, wr.heap.size < V.heap.size → V.heap[wr.heap.size]? = (wr.alloc (.cells (actA x (.slice X mx cx)) 39)).heap[wr.heap.size]? → (V.cell? ⟨wr.heap.size, 0, none⟩ = some (.int .u8 (x.do_ : Int)) ∧ V.cell? ⟨wr.heap.size, 1, none⟩ = some (.int .i64 x.i) ∧ V.cell? ⟨wr.heap.size, 2, none⟩ = some (.int .i64 x.l.fr.g) ∧ V.cell? ⟨wr.heap.size, 3, none⟩ = some (.int .i64 x.l.fr.n) ∧ V.cell? ⟨wr.heap.size, 4, none⟩ = some (.int .i64 x.l.to.g) ∧ V.cell? ⟨wr.heap.size, 5, none⟩ = some (.int .i64 x.l.to.n) ∧ V.cell? ⟨wr.heap.size, 6, none⟩ = some (.slice X mx cx)) ∧ Bk V wr.heap.size 39 (actA x (.slice X mx cx))) := fun V _ hV => by
              have hb := HT1.out.kept hV
              exact ⟨⟨hb.cell 0, hb.cell 1, hb.cell 2, hb.cell 3, hb.cell 4, hb.cell 5, hb.cell 6⟩, hb⟩
            have HZ1 : Hid (wr.heap.size < (wr.alloc (.cells (actA x (.slice X mx cx)) 39)).heap.size) := by show _ < _; simp
            obtain ⟨⟨d0, d1, d2, d3, d4, d5, d6⟩, -⟩ := HT1C.out _ HZ1.out rfl
            have CD := Lib.hid CD0
            clear hbo hbw hc6 hmc hrd hbb hxok hx hbl hxl CD0 he hlo hbn
            generalize hwa : wr.alloc (.cells (actA x (.slice X mx cx)) 39) = WA at *
            unfold actA at hwa CD
            go_wp2_with fail
            refine CD.out.mono ?_
            rintro e w2 ⟨O2, Bp, mp, cp, rfl, hmp, hrp, hbp, hs2, hg2⟩
            dsimp only at hrp hs2 ⊢
            have hb2 := HB1.out.does hs2 hg2
            have hF2 := hb2.fresh (Nat.le_refl w2.heap.size)
            have hbP := (Below.refl w2.heap.size w2).alloc (Nat.le_refl _) (.cells (ltA p (.slice Bp mp cp)) 37)
            have hb3 := hb2.later hbP
            have hKP := Bk.new w2 37 (ltA p (.slice Bp mp cp))
            have hbt : w2.heap[wr.heap.size]? = WA.heap[wr.heap.size]? := hg2.1.block _ HZ1.out HF1.out.1
            have hlt2 : wr.heap.size < w2.heap.size := Nat.lt_of_lt_of_le HZ1.out hg2.1.size
            obtain ⟨WP, hWP⟩ : ∃ WP, WP = w2.alloc (.cells (ltA p (.slice Bp mp cp)) 37) := ⟨_, rfl⟩
            have hsP : WP.heap.size = w2.heap.size + 1 := by rw [hWP]; simp
            rw [← hWP] at hbP hb3 hKP
            have hF3 := hb3.fresh (Nat.le_refl WP.heap.size)
            have hbQ := (Below.refl WP.heap.size WP).alloc (Nat.le_refl _) (.cells ltZ 37)
            have hbPQ := hbP.trans (hbQ.mono hbP.size)
            have hKQ := Bk.new WP 37 ltZ
            obtain ⟨WQ, hWQ⟩ : ∃ WQ, WQ = WP.alloc (.cells ltZ 37) := ⟨_, rfl⟩
            rw [← hWQ] at hbQ hbPQ hKQ
            have HBQ := Lib.hid (hb3.later hbQ)
            have HKP := Lib.hid (hKP.below hbQ)
            have HKQ := Lib.hid hKQ
            have HPR := Lib.hid (hrp.below hbPQ)
            have HFB : Hid (¬ RfM.wr gf vL vC wr.heap.size) := HF1.out.2.1
            have HFP := Lib.hid hF2
            have HFQ := Lib.hid hF3
            have HPB : Hid (∀ a, Bp = some a → 1 ≤ mp → ¬ RfM.wr gf vL vC a.block ∧ a.block < w2.heap.size) := fun a ha h0 => ⟨(HB1.out.fresh (hbp a ha).1).2.1, by
              obtain ⟨ad, e1, hc⟩ := hrp.cells h0
              rw [ha] at e1
              injection e1 with e1
              subst e1
              have hlt : 0 < p.bs.length := by have := hrp.len; omega
              have := World.block_lt_of_cell? _ _ (hc 0 _ (List.getElem?_eq_getElem hlt))
              rw [addr_add_block] at this
              exact this⟩
            have HMP := Lib.hid hmp
            have HSQ : Hid (wr.heap.size < w2.heap.size ∧ w2.heap.size < WP.heap.size ∧ WP.heap.size < WQ.heap.size) := ⟨hlt2, by rw [hsP]; omega, by rw [hWQ]; simp⟩
            have HBT : Hid (WQ.heap[wr.heap.size]? = WA.heap[wr.heap.size]?) := (hbPQ.block _ hlt2).trans hbt
            obtain ⟨⟨e0, e1, e2, e3, e4, e5, e6⟩, -⟩ := HT1C.out WQ (Nat.lt_of_lt_of_le hlt2 hbPQ.size) HBT.out
            have hwp := hWP.symm
            have hwq := hWQ.symm
            clear hWP hWQ hb2 hF2 hbP hb3 hKP hbt hlt2 hF3 hbQ hbPQ hKQ hmp hrp hbp hs2 hg2 CD hsP hwa d0 d1 d2 d3 d4 d5 d6 c0_ c1 c2 c3 c4 c5 c6
            unfold ltA at hwp
            unfold ltZ at hwq
            unfold ltV
            unfold ltA
            go_upto_block 4 with fail
            go_cut [16] from 59 to 108 (fun h wx => h = .int .i64 f ∧ Mid w1 wr wx base gf gz A0 c0 O2 y x X mx cx p Bp mp cp wr.heap.size w2.heap.size WP.heap.size (k + 1))
            case first =>
              have HZOK := Lib.hid HBO.out.sn.nt.ok
              have hk60 : k < 60 := by omega
              obtain ⟨d, hdd⟩ : ∃ d, d = x.do_ % 7 := ⟨_, rfl⟩
              have hd7 : d < 7 := by omega
              match d, hd7, hdd with
              | 0, hd7, hdd =>
                have hq7 : (x.do_ : Int) % 7 = 0 := by omega
                have h3 := (act_0 hdd.symm).symm.trans HE.out
                injection h3 with h4 h5
                injection h5 with h5 h6
                have het : z.send x.l = (y, f) := by rw [← h4, ← h6]
                have HPZ : Hid (p = lt0) := h5.symm
                have CS0 := rsend_any (c := cx) HBQ.out.rf HZOK.out.sizes HZOK.out.few (HRD.out _ HBQ.out.sn.bl) (by omega)
                rw [het] at CS0
                have CS := Lib.hid CS0
                unfold ltV ltA at CS
                clear h4 h5 h6 het CS0 hdd hd7
                go_wp2_with fail
                refine CS.out.mono ?_
                rintro e w5 ⟨rfl, vL4, P4, hr, hP, hO, hl⟩
                have HMID : Hid (Mid w1 wr w5 base gf gz A0 c0 O2 y x X mx cx p Bp mp cp wr.heap.size w2.heap.size WP.heap.size (k + 1)) := ⟨⟨_, _, _, _, HBQ.out.ref hr hO (fun b h => h) hl (fun b h => .inl h) hP (Nat.le_trans HBQ.out.few (Nat.le_succ _))⟩, (HT1C.out w5 (Nat.lt_of_lt_of_le (Nat.lt_trans HSQ.out.1 (Nat.lt_trans HSQ.out.2.1 HSQ.out.2.2)) hO.size) ((hO.block _ (Nat.lt_trans HSQ.out.1 (Nat.lt_trans HSQ.out.2.1 HSQ.out.2.2)) HFB.out).trans HBT.out)).2, HKP.out.kept (hO.block _ (Nat.lt_trans HSQ.out.2.1 HSQ.out.2.2) HFP.out.2.1), rd_out HPR.out hO (fun a ha h0 => (HPB.out a ha h0).1), ⟨none, 0, 0, by rw [HPZ.out]; exact HKQ.out.kept (hO.block _ HSQ.out.2.2 HFQ.out.2.1), Nat.le_refl _, by rw [HPZ.out]; exact Rd.nil_ _ _⟩⟩
                clear hr hP hO hl CS
                go_wp2_with fail
                go_meet
                exact ⟨rfl, HMID.out⟩
              | 1, hd7, hdd =>
                have hq7 : (x.do_ : Int) % 7 = 1 := by omega
                have CS0 := ract_any HBQ.out.rf HZOK.out (by have := HBQ.out.few; omega) hdd (by omega) (by omega)
                rw [HE.out] at CS0
                have CS := Lib.hid CS0
                clear CS0 hdd hd7
                go_wp2_with fail
                refine CS.out.mono ?_
                rintro e w5 ⟨vL4, Bq, mq, cq, rfl, hmq, hrq, hr, hO, hl⟩
                dsimp only at hrq hr ⊢
                have hkq := HKQ.out.kept (hO.block _ HSQ.out.2.2 HFQ.out.2.1)
                have HRDq := Lib.hid (mid_rd hkq hrq hmq)
                have hb5 := HBQ.out.ref hr hO (fun b h => h) hl (fun b h => .inl h) (fun b h => .inl h) (Nat.le_trans HBQ.out.few (Nat.le_succ k))
                have HMID : Hid (Mid w1 wr (Net.set5 w5 WP.heap.size (.int .i64 p.fr.g) (.int .i64 p.fr.n) (.int .i64 p.to.g) (.int .i64 p.to.n) (.slice Bq mq cq)) base gf gz A0 c0 O2 y x X mx cx p Bp mp cp wr.heap.size w2.heap.size WP.heap.size (k + 1)) := by
                  have ho5 := out_set5 w5 WP.heap.size (.int .i64 p.fr.g) (.int .i64 p.fr.n) (.int .i64 p.to.g) (.int .i64 p.to.n) (.slice Bq mq cq)
                  have hsz := hO.size
                  have hq := HSQ.out
                  refine ⟨⟨_, _, _, _, hb5.set5 HFQ.out.1 (fun q => ?_) HFQ.out.2.2.1 HFQ.out.2.2.2 _ _ _ _ _⟩, (HT1C.out w5 (by omega) ((hO.block _ (by omega) HFB.out).trans HBT.out)).2.kept (ho5.block _ (by omega) (by omega)), (HKP.out.kept (hO.block _ (by omega) HFP.out.2.1)).kept (ho5.block _ (by omega) (by omega)), rd_out (rd_out HPR.out hO (fun a ha h0 => (HPB.out a ha h0).1)) ho5 (fun a ha h0 e => by have := (HPB.out a ha h0).2; omega), ⟨Bq, mq, cq, bk_set5 hkq _ _ _ _ _, hmq, rd_out hrq ho5 HRDq.out⟩⟩
                  rcases q with q | q | q
                  · exact HFQ.out.2.1 (.inl q)
                  · rcases hl _ q with q | q
                    · exact HFQ.out.2.1 (.inr (.inl q))
                    · omega
                  · exact HFQ.out.2.1 (.inr (.inr q))
                obtain ⟨k0, k1, k2, k3, k4⟩ := bk_cells5 hkq
                have kb := hkq.frozen
                have kf0 := kb 0
                have kf1 := kb 1
                have kf2 := kb 2
                have kf3 := kb 3
                have kf4 := kb 4
                unfold Net.set5 at HMID
                clear hr hmq hrq hO hl CS kb hb5 hkq
                unfold ltV
                unfold ltA
                go_wp2_with fail
                go_meet
                exact ⟨rfl, HMID.out⟩
              | 2, hd7, hdd =>
                have hq7 : (x.do_ : Int) % 7 = 2 := by omega
                have CS0 := ract_any HBQ.out.rf HZOK.out (by have := HBQ.out.few; omega) hdd (by omega) (by omega)
                rw [HE.out] at CS0
                have CS := Lib.hid CS0
                clear CS0 hdd hd7
                go_wp2_with fail
                refine CS.out.mono ?_
                rintro e w5 ⟨vL4, Bq, mq, cq, rfl, hmq, hrq, hr, hO, hl⟩
                dsimp only at hrq hr ⊢
                have hkq := HKQ.out.kept (hO.block _ HSQ.out.2.2 HFQ.out.2.1)
                have HRDq := Lib.hid (mid_rd hkq hrq hmq)
                have hb5 := HBQ.out.ref hr hO (fun b h => h) hl (fun b h => .inl h) (fun b h => .inl h) (Nat.le_trans HBQ.out.few (Nat.le_succ k))
                have HMID : Hid (Mid w1 wr (Net.set5 w5 WP.heap.size (.int .i64 p.fr.g) (.int .i64 p.fr.n) (.int .i64 p.to.g) (.int .i64 p.to.n) (.slice Bq mq cq)) base gf gz A0 c0 O2 y x X mx cx p Bp mp cp wr.heap.size w2.heap.size WP.heap.size (k + 1)) := by
                  have ho5 := out_set5 w5 WP.heap.size (.int .i64 p.fr.g) (.int .i64 p.fr.n) (.int .i64 p.to.g) (.int .i64 p.to.n) (.slice Bq mq cq)
                  have hsz := hO.size
                  have hq := HSQ.out
                  refine ⟨⟨_, _, _, _, hb5.set5 HFQ.out.1 (fun q => ?_) HFQ.out.2.2.1 HFQ.out.2.2.2 _ _ _ _ _⟩, (HT1C.out w5 (by omega) ((hO.block _ (by omega) HFB.out).trans HBT.out)).2.kept (ho5.block _ (by omega) (by omega)), (HKP.out.kept (hO.block _ (by omega) HFP.out.2.1)).kept (ho5.block _ (by omega) (by omega)), rd_out (rd_out HPR.out hO (fun a ha h0 => (HPB.out a ha h0).1)) ho5 (fun a ha h0 e => by have := (HPB.out a ha h0).2; omega), ⟨Bq, mq, cq, bk_set5 hkq _ _ _ _ _, hmq, rd_out hrq ho5 HRDq.out⟩⟩
                  rcases q with q | q | q
                  · exact HFQ.out.2.1 (.inl q)
                  · rcases hl _ q with q | q
                    · exact HFQ.out.2.1 (.inr (.inl q))
                    · omega
                  · exact HFQ.out.2.1 (.inr (.inr q))
                obtain ⟨k0, k1, k2, k3, k4⟩ := bk_cells5 hkq
                have kb := hkq.frozen
                have kf0 := kb 0
                have kf1 := kb 1
                have kf2 := kb 2
                have kf3 := kb 3
                have kf4 := kb 4
                unfold Net.set5 at HMID
                clear hr hmq hrq hO hl CS kb hb5 hkq
                unfold ltV
                unfold ltA
                go_wp2_with fail
                go_meet
                exact ⟨rfl, HMID.out⟩
              | 3, hd7, hdd =>
                have hq7 : (x.do_ : Int) % 7 = 3 := by omega
                have CS0 := ract_any HBQ.out.rf HZOK.out (by have := HBQ.out.few; omega) hdd (by omega) (by omega)
                rw [HE.out] at CS0
                have CS := Lib.hid CS0
                clear CS0 hdd hd7
                go_wp2_with fail
                refine CS.out.mono ?_
                rintro e w5 ⟨vL4, Bq, mq, cq, rfl, hmq, hrq, hr, hO, hl⟩
                dsimp only at hrq hr ⊢
                have hkq := HKQ.out.kept (hO.block _ HSQ.out.2.2 HFQ.out.2.1)
                have HRDq := Lib.hid (mid_rd hkq hrq hmq)
                have hb5 := HBQ.out.ref hr hO (fun b h => h) hl (fun b h => .inl h) (fun b h => .inl h) (Nat.le_trans HBQ.out.few (Nat.le_succ k))
                have HMID : Hid (Mid w1 wr (Net.set5 w5 WP.heap.size (.int .i64 p.fr.g) (.int .i64 p.fr.n) (.int .i64 p.to.g) (.int .i64 p.to.n) (.slice Bq mq cq)) base gf gz A0 c0 O2 y x X mx cx p Bp mp cp wr.heap.size w2.heap.size WP.heap.size (k + 1)) := by
                  have ho5 := out_set5 w5 WP.heap.size (.int .i64 p.fr.g) (.int .i64 p.fr.n) (.int .i64 p.to.g) (.int .i64 p.to.n) (.slice Bq mq cq)
                  have hsz := hO.size
                  have hq := HSQ.out
                  refine ⟨⟨_, _, _, _, hb5.set5 HFQ.out.1 (fun q => ?_) HFQ.out.2.2.1 HFQ.out.2.2.2 _ _ _ _ _⟩, (HT1C.out w5 (by omega) ((hO.block _ (by omega) HFB.out).trans HBT.out)).2.kept (ho5.block _ (by omega) (by omega)), (HKP.out.kept (hO.block _ (by omega) HFP.out.2.1)).kept (ho5.block _ (by omega) (by omega)), rd_out (rd_out HPR.out hO (fun a ha h0 => (HPB.out a ha h0).1)) ho5 (fun a ha h0 e => by have := (HPB.out a ha h0).2; omega), ⟨Bq, mq, cq, bk_set5 hkq _ _ _ _ _, hmq, rd_out hrq ho5 HRDq.out⟩⟩
                  rcases q with q | q | q
                  · exact HFQ.out.2.1 (.inl q)
                  · rcases hl _ q with q | q
                    · exact HFQ.out.2.1 (.inr (.inl q))
                    · omega
                  · exact HFQ.out.2.1 (.inr (.inr q))
                obtain ⟨k0, k1, k2, k3, k4⟩ := bk_cells5 hkq
                have kb := hkq.frozen
                have kf0 := kb 0
                have kf1 := kb 1
                have kf2 := kb 2
                have kf3 := kb 3
                have kf4 := kb 4
                unfold Net.set5 at HMID
                clear hr hmq hrq hO hl CS kb hb5 hkq
                unfold ltV
                unfold ltA
                go_wp2_with fail
                go_meet
                exact ⟨rfl, HMID.out⟩
              | 4, hd7, hdd =>
                have hq7 : (x.do_ : Int) % 7 = 4 := by omega
                have CS0 := ract_any HBQ.out.rf HZOK.out (by have := HBQ.out.few; omega) hdd (by omega) (by omega)
                rw [HE.out] at CS0
                have CS := Lib.hid CS0
                clear CS0 hdd hd7
                go_wp2_with fail
                refine CS.out.mono ?_
                rintro e w5 ⟨vL4, Bq, mq, cq, rfl, hmq, hrq, hr, hO, hl⟩
                dsimp only at hrq hr ⊢
                have hkq := HKQ.out.kept (hO.block _ HSQ.out.2.2 HFQ.out.2.1)
                have HRDq := Lib.hid (mid_rd hkq hrq hmq)
                have hb5 := HBQ.out.ref hr hO (fun b h => h) hl (fun b h => .inl h) (fun b h => .inl h) (Nat.le_trans HBQ.out.few (Nat.le_succ k))
                have HMID : Hid (Mid w1 wr (Net.set5 w5 WP.heap.size (.int .i64 p.fr.g) (.int .i64 p.fr.n) (.int .i64 p.to.g) (.int .i64 p.to.n) (.slice Bq mq cq)) base gf gz A0 c0 O2 y x X mx cx p Bp mp cp wr.heap.size w2.heap.size WP.heap.size (k + 1)) := by
                  have ho5 := out_set5 w5 WP.heap.size (.int .i64 p.fr.g) (.int .i64 p.fr.n) (.int .i64 p.to.g) (.int .i64 p.to.n) (.slice Bq mq cq)
                  have hsz := hO.size
                  have hq := HSQ.out
                  refine ⟨⟨_, _, _, _, hb5.set5 HFQ.out.1 (fun q => ?_) HFQ.out.2.2.1 HFQ.out.2.2.2 _ _ _ _ _⟩, (HT1C.out w5 (by omega) ((hO.block _ (by omega) HFB.out).trans HBT.out)).2.kept (ho5.block _ (by omega) (by omega)), (HKP.out.kept (hO.block _ (by omega) HFP.out.2.1)).kept (ho5.block _ (by omega) (by omega)), rd_out (rd_out HPR.out hO (fun a ha h0 => (HPB.out a ha h0).1)) ho5 (fun a ha h0 e => by have := (HPB.out a ha h0).2; omega), ⟨Bq, mq, cq, bk_set5 hkq _ _ _ _ _, hmq, rd_out hrq ho5 HRDq.out⟩⟩
                  rcases q with q | q | q
                  · exact HFQ.out.2.1 (.inl q)
                  · rcases hl _ q with q | q
                    · exact HFQ.out.2.1 (.inr (.inl q))
                    · omega
                  · exact HFQ.out.2.1 (.inr (.inr q))
                obtain ⟨k0, k1, k2, k3, k4⟩ := bk_cells5 hkq
                have kb := hkq.frozen
                have kf0 := kb 0
                have kf1 := kb 1
                have kf2 := kb 2
                have kf3 := kb 3
                have kf4 := kb 4
                unfold Net.set5 at HMID
                clear hr hmq hrq hO hl CS kb hb5 hkq
                unfold ltV
                unfold ltA
                go_wp2_with fail
                go_meet
                exact ⟨rfl, HMID.out⟩
              | 5, hd7, hdd =>
                have hq7 : (x.do_ : Int) % 7 = 5 := by omega
                have h3 := (act_5 hdd.symm).symm.trans HE.out
                injection h3 with h4 h5
                injection h5 with h5 h6
                have het : z.turn x.l.fr x.l.to true = (y, f) := by rw [← h4, ← h6]
                have HPZ : Hid (p = lt0) := h5.symm
                have CS0 := rturn_any HBQ.out.rf HZOK.out.sizes (by have := HBQ.out.few; omega) x.l.fr x.l.to true
                rw [het] at CS0
                have CS := Lib.hid CS0
                unfold adV at CS
                clear h4 h5 h6 het CS0 hdd hd7
                go_wp2_with fail
                refine CS.out.mono ?_
                rintro e w5 ⟨rfl, vC4, prs4, hr, hm, hO, hc⟩
                have HMID : Hid (Mid w1 wr w5 base gf gz A0 c0 O2 y x X mx cx p Bp mp cp wr.heap.size w2.heap.size WP.heap.size (k + 1)) := ⟨⟨_, _, _, _, HBQ.out.ref hr hO (fun b h => .inl h) (fun b h => .inl h) hc (fun b h => .inl h) (Nat.le_trans hm (Nat.succ_le_succ HBQ.out.few))⟩, (HT1C.out w5 (Nat.lt_of_lt_of_le (Nat.lt_trans HSQ.out.1 (Nat.lt_trans HSQ.out.2.1 HSQ.out.2.2)) hO.size) ((hO.block _ (Nat.lt_trans HSQ.out.1 (Nat.lt_trans HSQ.out.2.1 HSQ.out.2.2)) (fun q => HFB.out (.inl q))).trans HBT.out)).2, HKP.out.kept (hO.block _ (Nat.lt_trans HSQ.out.2.1 HSQ.out.2.2) (fun q => HFP.out.2.1 (.inl q))), rd_out HPR.out hO (fun a ha h0 => (fun q => (HPB.out a ha h0).1 (.inl q))), ⟨none, 0, 0, by rw [HPZ.out]; exact HKQ.out.kept (hO.block _ HSQ.out.2.2 (fun q => HFQ.out.2.1 (.inl q))), Nat.le_refl _, by rw [HPZ.out]; exact Rd.nil_ _ _⟩⟩
                clear hr hm hO hc CS
                go_wp2_with fail
                go_meet
                exact ⟨rfl, HMID.out⟩
              | 6, hd7, hdd =>
                have hq7 : (x.do_ : Int) % 7 = 6 := by omega
                have h3 := (act_6 hdd.symm).symm.trans HE.out
                injection h3 with h4 h5
                injection h5 with h5 h6
                have het : z.turn x.l.fr x.l.to false = (y, f) := by rw [← h4, ← h6]
                have HPZ : Hid (p = lt0) := h5.symm
                have CS0 := rturn_any HBQ.out.rf HZOK.out.sizes (by have := HBQ.out.few; omega) x.l.fr x.l.to false
                rw [het] at CS0
                have CS := Lib.hid CS0
                unfold adV at CS
                clear h4 h5 h6 het CS0 hdd hd7
                go_wp2_with fail
                refine CS.out.mono ?_
                rintro e w5 ⟨rfl, vC4, prs4, hr, hm, hO, hc⟩
                have HMID : Hid (Mid w1 wr w5 base gf gz A0 c0 O2 y x X mx cx p Bp mp cp wr.heap.size w2.heap.size WP.heap.size (k + 1)) := ⟨⟨_, _, _, _, HBQ.out.ref hr hO (fun b h => .inl h) (fun b h => .inl h) hc (fun b h => .inl h) (Nat.le_trans hm (Nat.succ_le_succ HBQ.out.few))⟩, (HT1C.out w5 (Nat.lt_of_lt_of_le (Nat.lt_trans HSQ.out.1 (Nat.lt_trans HSQ.out.2.1 HSQ.out.2.2)) hO.size) ((hO.block _ (Nat.lt_trans HSQ.out.1 (Nat.lt_trans HSQ.out.2.1 HSQ.out.2.2)) (fun q => HFB.out (.inl q))).trans HBT.out)).2, HKP.out.kept (hO.block _ (Nat.lt_trans HSQ.out.2.1 HSQ.out.2.2) (fun q => HFP.out.2.1 (.inl q))), rd_out HPR.out hO (fun a ha h0 => (fun q => (HPB.out a ha h0).1 (.inl q))), ⟨none, 0, 0, by rw [HPZ.out]; exact HKQ.out.kept (hO.block _ HSQ.out.2.2 (fun q => HFQ.out.2.1 (.inl q))), Nat.le_refl _, by rw [HPZ.out]; exact Rd.nil_ _ _⟩⟩
                clear hr hm hO hc CS
                go_wp2_with fail
                go_meet
                exact ⟨rfl, HMID.out⟩
            case rest =>
              obtain ⟨rfl, hmid⟩ := hcut
              obtain ⟨vL3, vC3, prs3, P3, hb0⟩ := hmid.bo
              have HBO3 := Lib.hid hb0
              obtain ⟨AL, cL, rfl, hLc, -, -, -⟩ := hb0.rf.row.form
              obtain ⟨Bq, mq, cq, hk3, hmq, hrq⟩ := hmid.b3
              obtain ⟨r, hr⟩ : ∃ r, r = y.row.length := ⟨_, rfl⟩
              rw [← hr] at HBO3
              have hr4 : r ≤ 4096 := by rw [hr]; exact hb0.sn.nt.ok.few
              have HR := Lib.hid hr
              obtain ⟨q1, hq1⟩ : ∃ q1, q1 = y.cuts x.l.fr x.l.to := ⟨_, rfl⟩
              obtain ⟨q2, hq2⟩ : ∃ q2, q2 = y.cuts x.l.to x.l.fr := ⟨_, rfl⟩
              have HQ1 := Lib.hid hq1
              have HQ2 := Lib.hid hq2
              have HFEW : Hid (prs3.length ≤ 1000000) := by have := hb0.few; show _ ≤ _; omega
              have HMQ := Lib.hid hmq
              have HRQ := Lib.hid hrq
              have HRP := Lib.hid hmid.r2
              obtain ⟨z0, hz0⟩ : ∃ z0, z0 = y.sizes.length := ⟨_, rfl⟩
              have HKF3 := Lib.hid HBO3.out.rf.bk
              rw [← hz0] at HKF3
              have HKP3 := Lib.hid hmid.b2
              have HKQ3 := Lib.hid hk3
              have HKB3 := Lib.hid hmid.b1
              unfold actA at HKB3
              unfold ltA at HKP3 HKQ3
              have HREL : Hid (∀ V, Below wc.heap.size wc V → Rel2 w1 base gf gz A0 c0 n (.int .i64 ((k + 1 : Nat) : Int)) V) := fun V hV => ⟨k + 1, O2, y, _, _, _, _, by omega, rfl, HBO3.out.later hV⟩
              clear hmid hb0 hLc hk3 hmq hrq hr hq1 hq2 hz0 HBO HBQ HKP HKQ HPR HRD HT1 HT1C HB1 HA HBT hwp hwq e0 e1 e2 e3 e4 e5 e6
              generalize wr.heap.size = tb at *
              generalize w2.heap.size = tp at *
              generalize WP.heap.size = tq at *
              clear HZ1 HF1 HFB HFP HFQ HPB HSQ
              go_wp2_with fail
              dsimp only [List.append]
              refine wp_region_freeg (F := ?F) [some (.int .i64 f), some (.int .i64 f), some (.bool false), some (.bool false), some (.agg #[.int .i64 p.fr.g, .int .i64 p.fr.n, .int .i64 p.to.g, .int .i64 p.to.n, .slice Bp mp cp]), none, some (.agg #[.int .i64 p.fr.g, .int .i64 p.fr.n, .int .i64 p.to.g, .int .i64 p.to.n, .slice Bq mq cq]), none, some (.bool true), some (.bool false), some (.bool false), some (.bool false), some (.pointer (some ⟨gz, 0, none⟩)), none, some (.pointer (some ⟨gf, 0, none⟩)), some (.pointer (some ⟨gf, 0, none⟩)), some (.pointer (some ⟨gf, 1, none⟩)), some (.slice AL r cL), some (.bool true), some (.bool false), some (.bool false), some (.bool false), some (.pointer (some ⟨gz, 0, none⟩)), some (.int .i64 (r : Int)), some (.pointer (some ⟨gf, 0, none⟩)), some (.pointer (some ⟨gf, 0, none⟩)), some (.pointer (some ⟨gf, 1, none⟩)), some (.slice AL r cL), some (.int .i64 (r : Int)), some (.bool false), some (.bool false), some (.bool false), some (.pointer (some ⟨gz, 0, none⟩)), some (.pointer (some ⟨tb, 2, none⟩)), some (.pointer (some ⟨tb, 2, none⟩)), some (.agg #[.int .i64 x.l.fr.g, .int .i64 x.l.fr.n]), some (.pointer (some ⟨tb, 2, none⟩)), some (.pointer (some ⟨tb, 4, none⟩)), some (.agg #[.int .i64 x.l.to.g, .int .i64 x.l.to.n]), some (.bool q1), some (.pointer (some ⟨gf, 0, none⟩)), some (.pointer (some ⟨tb, 2, none⟩)), some (.pointer (some ⟨tb, 2, none⟩)), some (.agg #[.int .i64 x.l.fr.g, .int .i64 x.l.fr.n]), some (.pointer (some ⟨tb, 2, none⟩)), some (.pointer (some ⟨tb, 4, none⟩)), some (.agg #[.int .i64 x.l.to.g, .int .i64 x.l.to.n]), some (.bool q1), some (.bool false), some (.bool false), some (.bool false), some (.pointer (some ⟨gz, 0, none⟩)), some (.pointer (some ⟨tb, 2, none⟩)), some (.pointer (some ⟨tb, 4, none⟩)), some (.agg #[.int .i64 x.l.to.g, .int .i64 x.l.to.n]), some (.pointer (some ⟨tb, 2, none⟩)), some (.pointer (some ⟨tb, 2, none⟩)), some (.agg #[.int .i64 x.l.fr.g, .int .i64 x.l.fr.n]), some (.bool q2), some (.pointer (some ⟨gf, 0, none⟩)), some (.pointer (some ⟨tb, 2, none⟩)), some (.pointer (some ⟨tb, 4, none⟩)), some (.agg #[.int .i64 x.l.to.g, .int .i64 x.l.to.n]), some (.pointer (some ⟨tb, 2, none⟩)), some (.pointer (some ⟨tb, 2, none⟩)), some (.agg #[.int .i64 x.l.fr.g, .int .i64 x.l.fr.n]), some (.bool q2), some (.bool false), some (.bool false)] (RT [some (.int .i64 f), some (.int .i64 f), some (.bool false), some (.bool false), some (.agg #[.int .i64 p.fr.g, .int .i64 p.fr.n, .int .i64 p.to.g, .int .i64 p.to.n, .slice Bp mp cp]), none, some (.agg #[.int .i64 p.fr.g, .int .i64 p.fr.n, .int .i64 p.to.g, .int .i64 p.to.n, .slice Bq mq cq]), none, some (.bool true), some (.bool false), some (.bool false), some (.bool false), some (.pointer (some ⟨gz, 0, none⟩)), none, some (.pointer (some ⟨gf, 0, none⟩)), some (.pointer (some ⟨gf, 0, none⟩)), some (.pointer (some ⟨gf, 1, none⟩)), some (.slice AL r cL), some (.bool true), some (.bool false), some (.bool false), some (.bool false), some (.pointer (some ⟨gz, 0, none⟩)), some (.int .i64 (r : Int)), some (.pointer (some ⟨gf, 0, none⟩)), some (.pointer (some ⟨gf, 0, none⟩)), some (.pointer (some ⟨gf, 1, none⟩)), some (.slice AL r cL), some (.int .i64 (r : Int)), some (.bool false), some (.bool false), some (.bool false), some (.pointer (some ⟨gz, 0, none⟩)), some (.pointer (some ⟨tb, 2, none⟩)), some (.pointer (some ⟨tb, 2, none⟩)), some (.agg #[.int .i64 x.l.fr.g, .int .i64 x.l.fr.n]), some (.pointer (some ⟨tb, 2, none⟩)), some (.pointer (some ⟨tb, 4, none⟩)), some (.agg #[.int .i64 x.l.to.g, .int .i64 x.l.to.n]), some (.bool q1), some (.pointer (some ⟨gf, 0, none⟩)), some (.pointer (some ⟨tb, 2, none⟩)), some (.pointer (some ⟨tb, 2, none⟩)), some (.agg #[.int .i64 x.l.fr.g, .int .i64 x.l.fr.n]), some (.pointer (some ⟨tb, 2, none⟩)), some (.pointer (some ⟨tb, 4, none⟩)), some (.agg #[.int .i64 x.l.to.g, .int .i64 x.l.to.n]), some (.bool q1), some (.bool false), some (.bool false), some (.bool false), some (.pointer (some ⟨gz, 0, none⟩)), some (.pointer (some ⟨tb, 2, none⟩)), some (.pointer (some ⟨tb, 4, none⟩)), some (.agg #[.int .i64 x.l.to.g, .int .i64 x.l.to.n]), some (.pointer (some ⟨tb, 2, none⟩)), some (.pointer (some ⟨tb, 2, none⟩)), some (.agg #[.int .i64 x.l.fr.g, .int .i64 x.l.fr.n]), some (.bool q2), some (.pointer (some ⟨gf, 0, none⟩)), some (.pointer (some ⟨tb, 2, none⟩)), some (.pointer (some ⟨tb, 4, none⟩)), some (.agg #[.int .i64 x.l.to.g, .int .i64 x.l.to.n]), some (.pointer (some ⟨tb, 2, none⟩)), some (.pointer (some ⟨tb, 2, none⟩)), some (.agg #[.int .i64 x.l.fr.g, .int .i64 x.l.fr.n]), some (.bool q2), some (.bool false), some (.bool false)] (A28 p Bp mp cp Bq mq cq r y.row)) (by kernel_rfl) (by kernel_rfl) (by kernel_rfl) RT_known ?hR ?hS ?hF ?hE
              case hF =>
                intro v
                simp only [List.length_cons, List.length_nil, Nat.zero_add, Nat.reduceAdd, PhaseG.final, List.getElem?_toArray, List.getElem?_cons_zero, List.getElem?_cons_succ, Option.bind_some, Act.put, List.setIfInBounds_toArray, List.set_cons_zero, List.set_cons_succ]
                exact rfl
              case hR =>
                intro k x W W' hx _ hb
                exact RT.out hx (A28_below hb)
              case hS =>
                refine stepsL_cons ?_ (stepsL_cons ?_ (stepsL_cons ?_ (stepsL_cons ?_ (stepsL_cons ?_ (stepsL_cons ?_ (stepsL_cons ?_ (stepsL_cons ?_ (stepsL_cons ?_ (stepsL_cons ?_ (stepsL_cons ?_ (stepsL_cons ?_ (stepsL_cons ?_ (stepsL_cons ?_ (stepsL_cons ?_ (stepsL_cons ?_ (stepsL_cons ?_ (stepsL_cons ?_ (stepsL_cons ?_ (stepsL_cons ?_ (stepsL_cons ?_ (stepsL_cons ?_ (stepsL_cons ?_ (stepsL_cons ?_ (stepsL_cons ?_ (stepsL_cons ?_ (stepsL_cons ?_ (stepsL_cons ?_ (stepsL_cons ?_ (stepsL_cons ?_ (stepsL_cons ?_ (stepsL_cons ?_ (stepsL_cons ?_ (stepsL_cons ?_ (stepsL_cons ?_ (stepsL_cons ?_ (stepsL_cons ?_ (stepsL_cons ?_ (stepsL_cons ?_ (stepsL_cons ?_ (stepsL_cons ?_ (stepsL_cons ?_ (stepsL_cons ?_ (stepsL_cons ?_ (stepsL_cons ?_ (stepsL_cons ?_ (stepsL_cons ?_ (stepsL_cons ?_ (stepsL_cons ?_ (stepsL_cons ?_ (stepsL_cons ?_ (stepsL_cons ?_ (stepsL_cons ?_ (stepsL_cons ?_ (stepsL_cons ?_ (stepsL_cons ?_ (stepsL_cons ?_ (stepsL_cons ?_ (stepsL_cons ?_ (stepsL_cons ?_ (stepsL_cons ?_ (stepsL_cons ?_ (stepsL_cons ?_ (stepsL_cons ?_ (stepsL_cons ?_ (stepsL_cons ?_ (stepsL_cons ?_ (stepsL_cons ?_ (stepsL_cons ?_ (stepsL_nil)))))))))))))))))))))))))))))))))))))))))))))))))))))))))))))))))))))
                · intro a v W hd hb K hK
                  have k14 : a.tmps.getD 14 undef = .int .i64 f := hd.kept 14 (by kernel_rfl)
                  have hk := hK (.int .i64 f) W (Below.refl _ _) rfl
                  clear hK
                  unfold Oper.wp
                  go_simp
                  exact hk
                · intro a v W hd hb K hK
                  have k16 : a.tmps.getD 16 undef = .int .i64 f := hd.kept 16 (by kernel_rfl)
                  have hk := hK (.int .i64 f) W (Below.refl _ _) rfl
                  clear hK
                  unfold Oper.wp
                  go_simp
                  exact hk
                · intro a v W hd hb K hK
                  obtain ⟨h109, r109⟩ := hd.done_ 0 _ 109 (by kernel_rfl) rfl rfl
                  have r109 : v 0 = .int .i64 f := r109
                  rw [r109] at h109
                  obtain ⟨h110, r110⟩ := hd.done_ 1 _ 110 (by kernel_rfl) rfl rfl
                  have r110 : v 1 = .int .i64 f := r110
                  rw [r110] at h110
                  have hk := hK (.bool false) W (Below.refl _ _) rfl
                  clear hK
                  unfold Oper.wp
                  go_simp
                  exact hk
                · intro a v W hd hb K hK
                  obtain ⟨h111, r111⟩ := hd.done_ 2 _ 111 (by kernel_rfl) rfl rfl
                  have r111 : v 2 = .bool false := r111
                  rw [r111] at h111
                  have hk := hK (.bool false) W (Below.refl _ _) rfl
                  clear hK
                  unfold Oper.wp
                  go_simp
                  exact hk
                · intro a v W hd hb K hK
                  have k13 : a.tmps.getD 13 undef = .pointer (some ⟨tp, 0, none⟩) := hd.kept 13 (by kernel_rfl)
                  have kk0 : W.cell? ⟨tp, 0, none⟩ = some (.int .i64 p.fr.g) := (HKP3.out.below hb).cell 0
                  have kk1 : W.cell? ⟨tp, 1, none⟩ = some (.int .i64 p.fr.n) := (HKP3.out.below hb).cell 1
                  have kk2 : W.cell? ⟨tp, 2, none⟩ = some (.int .i64 p.to.g) := (HKP3.out.below hb).cell 2
                  have kk3 : W.cell? ⟨tp, 3, none⟩ = some (.int .i64 p.to.n) := (HKP3.out.below hb).cell 3
                  have kk4 : W.cell? ⟨tp, 4, none⟩ = some (.slice Bp mp cp) := (HKP3.out.below hb).cell 4
                  have hk := hK (.agg #[.int .i64 p.fr.g, .int .i64 p.fr.n, .int .i64 p.to.g, .int .i64 p.to.n, .slice Bp mp cp]) W (Below.refl _ _) rfl
                  clear hK
                  unfold Oper.wp
                  go_simp
                  exact hk
                · intro a v W hd hb K hK
                  obtain ⟨h113, r113⟩ := hd.done_ 4 _ 113 (by kernel_rfl) rfl rfl
                  have r113 : v 4 = .agg #[.int .i64 p.fr.g, .int .i64 p.fr.n, .int .i64 p.to.g, .int .i64 p.to.n, .slice Bp mp cp] := r113
                  rw [r113] at h113
                  simp only [Array.getD_eq_getD_getElem?] at h113
                  have hk := hK (.slice (some ⟨W.heap.size, 0, none⟩) 1 1) (W.alloc (.cells (ltA p (.slice Bp mp cp)) 37)) ((Below.refl _ _).alloc (Nat.le_refl _) _) ⟨_, rfl, Bk.new W 37 (ltA p (.slice Bp mp cp))⟩
                  unfold ltA at hk
                  clear hK
                  unfold Oper.wp
                  go_simp
                  exact hk
                · intro a v W hd hb K hK
                  have k15 : a.tmps.getD 15 undef = .pointer (some ⟨tq, 0, none⟩) := hd.kept 15 (by kernel_rfl)
                  have kk0 : W.cell? ⟨tq, 0, none⟩ = some (.int .i64 p.fr.g) := (HKQ3.out.below hb).cell 0
                  have kk1 : W.cell? ⟨tq, 1, none⟩ = some (.int .i64 p.fr.n) := (HKQ3.out.below hb).cell 1
                  have kk2 : W.cell? ⟨tq, 2, none⟩ = some (.int .i64 p.to.g) := (HKQ3.out.below hb).cell 2
                  have kk3 : W.cell? ⟨tq, 3, none⟩ = some (.int .i64 p.to.n) := (HKQ3.out.below hb).cell 3
                  have kk4 : W.cell? ⟨tq, 4, none⟩ = some (.slice Bq mq cq) := (HKQ3.out.below hb).cell 4
                  have hk := hK (.agg #[.int .i64 p.fr.g, .int .i64 p.fr.n, .int .i64 p.to.g, .int .i64 p.to.n, .slice Bq mq cq]) W (Below.refl _ _) rfl
                  clear hK
                  unfold Oper.wp
                  go_simp
                  exact hk
                · intro a v W hd hb K hK
                  obtain ⟨h115, r115⟩ := hd.done_ 6 _ 115 (by kernel_rfl) rfl rfl
                  have r115 : v 6 = .agg #[.int .i64 p.fr.g, .int .i64 p.fr.n, .int .i64 p.to.g, .int .i64 p.to.n, .slice Bq mq cq] := r115
                  rw [r115] at h115
                  simp only [Array.getD_eq_getD_getElem?] at h115
                  have hk := hK (.slice (some ⟨W.heap.size, 0, none⟩) 1 1) (W.alloc (.cells (ltA p (.slice Bq mq cq)) 37)) ((Below.refl _ _).alloc (Nat.le_refl _) _) ⟨_, rfl, Bk.new W 37 (ltA p (.slice Bq mq cq))⟩
                  unfold ltA at hk
                  clear hK
                  unfold Oper.wp
                  go_simp
                  exact hk
                · intro a v W hd hb K hK
                  obtain ⟨h114, r114⟩ := hd.done_ 5 _ 114 (by kernel_rfl) rfl rfl
                  obtain ⟨h116, r116⟩ := hd.done_ 7 _ 116 (by kernel_rfl) rfl rfl
                  obtain ⟨g1, e1, hk1⟩ := r114
                  obtain ⟨g2, e2, hk2⟩ := r116
                  rw [e1] at h114
                  rw [e2] at h116
                  have ct := Same_any (lts_one (P := fun _ => True) hk1 trivial HMP.out (HRP.out.below hb) fun _ _ _ => trivial) (lts_one (P := fun _ => True) hk2 trivial HMQ.out (HRQ.out.below hb) fun _ _ _ => trivial) 1 1 (by omega) (by omega)
                  rw [decide_eq_true rfl] at ct
                  unfold Oper.wp
                  go_simp
                  refine ct.mono ?_
                  rintro e' W' ⟨rfl, hb'⟩
                  exact hK _ W' hb' rfl
                · intro a v W hd hb K hK
                  obtain ⟨h117, r117⟩ := hd.done_ 8 _ 117 (by kernel_rfl) rfl rfl
                  have r117 : v 8 = .bool true := r117
                  rw [r117] at h117
                  have hk := hK (.bool false) W (Below.refl _ _) rfl
                  clear hK
                  unfold Oper.wp
                  go_simp
                  exact hk
                · intro a v W hd hb K hK
                  obtain ⟨h112, r112⟩ := hd.done_ 3 _ 112 (by kernel_rfl) rfl rfl
                  have r112 : v 3 = .bool false := r112
                  rw [r112] at h112
                  obtain ⟨h118, r118⟩ := hd.done_ 9 _ 118 (by kernel_rfl) rfl rfl
                  have r118 : v 9 = .bool false := r118
                  rw [r118] at h118
                  have hk := hK (.bool false) W (Below.refl _ _) rfl
                  clear hK
                  unfold Oper.wp
                  go_simp
                  exact hk
                · intro a v W hd hb K hK
                  obtain ⟨h119, r119⟩ := hd.done_ 10 _ 119 (by kernel_rfl) rfl rfl
                  have r119 : v 10 = .bool false := r119
                  rw [r119] at h119
                  have hk := hK (.bool false) W (Below.refl _ _) rfl
                  clear hK
                  unfold Oper.wp
                  go_simp
                  exact hk
                · intro a v W hd hb K hK
                  have k6 : a.tmps.getD 6 undef = .pointer (some ⟨gz, 0, none⟩) := hd.kept 6 (by kernel_rfl)
                  have hk := hK (.pointer (some ⟨gz, 0, none⟩)) W (Below.refl _ _) rfl
                  clear hK
                  unfold Oper.wp
                  go_simp
                  exact hk
                · intro a v W hd hb K hK
                  obtain ⟨h121, r121⟩ := hd.done_ 12 _ 121 (by kernel_rfl) rfl rfl
                  have r121 : v 12 = .pointer (some ⟨gz, 0, none⟩) := r121
                  rw [r121] at h121
                  have ct := Letters_any (HBO3.out.later hb).sn.nt
                  unfold Oper.wp
                  go_simp
                  refine ct.mono ?_
                  rintro e' W' ⟨g, rfl, -, hlo, hb'⟩
                  rw [← HR.out]
                  have hl := hlo.lts.mono fun _ _ => trivial
                  rw [← HR.out] at hl
                  exact hK _ W' hb' ⟨g, rfl, hl⟩
                · intro a v W hd hb K hK
                  have k9 : a.tmps.getD 9 undef = .pointer (some ⟨gf, 0, none⟩) := hd.kept 9 (by kernel_rfl)
                  have hk := hK (.pointer (some ⟨gf, 0, none⟩)) W (Below.refl _ _) rfl
                  clear hK
                  unfold Oper.wp
                  go_simp
                  exact hk
                · intro a v W hd hb K hK
                  obtain ⟨h123, r123⟩ := hd.done_ 14 _ 123 (by kernel_rfl) rfl rfl
                  have r123 : v 14 = .pointer (some ⟨gf, 0, none⟩) := r123
                  rw [r123] at h123
                  have hk := hK (.pointer (some ⟨gf, 0, none⟩)) W (Below.refl _ _) rfl
                  clear hK
                  unfold Oper.wp
                  go_simp
                  exact hk
                · intro a v W hd hb K hK
                  obtain ⟨h124, r124⟩ := hd.done_ 15 _ 124 (by kernel_rfl) rfl rfl
                  have r124 : v 15 = .pointer (some ⟨gf, 0, none⟩) := r124
                  rw [r124] at h124
                  have hk := hK (.pointer (some ⟨gf, 1, none⟩)) W (Below.refl _ _) rfl
                  clear hK
                  unfold Oper.wp
                  go_simp
                  exact hk
                · intro a v W hd hb K hK
                  obtain ⟨h125, r125⟩ := hd.done_ 16 _ 125 (by kernel_rfl) rfl rfl
                  have r125 : v 16 = .pointer (some ⟨gf, 1, none⟩) := r125
                  rw [r125] at h125
                  have kk0 : W.cell? ⟨gf, 1, none⟩ = some (.slice AL r cL) := (HKF3.out.below hb).cell 1
                  have hk := hK (.slice AL r cL) W (Below.refl _ _) rfl
                  clear hK
                  unfold Oper.wp
                  go_simp
                  exact hk
                · intro a v W hd hb K hK
                  obtain ⟨h122, r122⟩ := hd.done_ 13 _ 122 (by kernel_rfl) rfl rfl
                  obtain ⟨h126, r126⟩ := hd.done_ 17 _ 126 (by kernel_rfl) rfl rfl
                  have r126 : v 17 = .slice AL r cL := r126
                  rw [r126] at h126
                  obtain ⟨g1, e1, hl1⟩ := r122
                  rw [e1] at h122
                  obtain ⟨A', c', e2, -, hl2, -, -⟩ := (HBO3.out.later hb).rf.row.form
                  rw [← HR.out] at e2 hl2
                  injection e2 with e2 e3 e4
                  subst e2 e4
                  have ct := Same_any hl1 hl2 r cL (by omega) (by omega)
                  rw [decide_eq_true rfl] at ct
                  unfold Oper.wp
                  go_simp
                  refine ct.mono ?_
                  rintro e' W' ⟨rfl, hb'⟩
                  exact hK _ W' hb' rfl
                · intro a v W hd hb K hK
                  obtain ⟨h127, r127⟩ := hd.done_ 18 _ 127 (by kernel_rfl) rfl rfl
                  have r127 : v 18 = .bool true := r127
                  rw [r127] at h127
                  have hk := hK (.bool false) W (Below.refl _ _) rfl
                  clear hK
                  unfold Oper.wp
                  go_simp
                  exact hk
                · intro a v W hd hb K hK
                  obtain ⟨h120, r120⟩ := hd.done_ 11 _ 120 (by kernel_rfl) rfl rfl
                  have r120 : v 11 = .bool false := r120
                  rw [r120] at h120
                  obtain ⟨h128, r128⟩ := hd.done_ 19 _ 128 (by kernel_rfl) rfl rfl
                  have r128 : v 19 = .bool false := r128
                  rw [r128] at h128
                  have hk := hK (.bool false) W (Below.refl _ _) rfl
                  clear hK
                  unfold Oper.wp
                  go_simp
                  exact hk
                · intro a v W hd hb K hK
                  obtain ⟨h129, r129⟩ := hd.done_ 20 _ 129 (by kernel_rfl) rfl rfl
                  have r129 : v 20 = .bool false := r129
                  rw [r129] at h129
                  have hk := hK (.bool false) W (Below.refl _ _) rfl
                  clear hK
                  unfold Oper.wp
                  go_simp
                  exact hk
                · intro a v W hd hb K hK
                  have k6 : a.tmps.getD 6 undef = .pointer (some ⟨gz, 0, none⟩) := hd.kept 6 (by kernel_rfl)
                  have hk := hK (.pointer (some ⟨gz, 0, none⟩)) W (Below.refl _ _) rfl
                  clear hK
                  unfold Oper.wp
                  go_simp
                  exact hk
                · intro a v W hd hb K hK
                  obtain ⟨h131, r131⟩ := hd.done_ 22 _ 131 (by kernel_rfl) rfl rfl
                  have r131 : v 22 = .pointer (some ⟨gz, 0, none⟩) := r131
                  rw [r131] at h131
                  have ct := Len_any (HBO3.out.later hb).sn.nt
                  rw [← HR.out] at ct
                  unfold Oper.wp
                  go_simp
                  refine ct.mono ?_
                  rintro e' W' ⟨rfl, rfl⟩
                  exact hK _ _ (Below.refl _ _) rfl
                · intro a v W hd hb K hK
                  have k9 : a.tmps.getD 9 undef = .pointer (some ⟨gf, 0, none⟩) := hd.kept 9 (by kernel_rfl)
                  have hk := hK (.pointer (some ⟨gf, 0, none⟩)) W (Below.refl _ _) rfl
                  clear hK
                  unfold Oper.wp
                  go_simp
                  exact hk
                · intro a v W hd hb K hK
                  obtain ⟨h133, r133⟩ := hd.done_ 24 _ 133 (by kernel_rfl) rfl rfl
                  have r133 : v 24 = .pointer (some ⟨gf, 0, none⟩) := r133
                  rw [r133] at h133
                  have hk := hK (.pointer (some ⟨gf, 0, none⟩)) W (Below.refl _ _) rfl
                  clear hK
                  unfold Oper.wp
                  go_simp
                  exact hk
                · intro a v W hd hb K hK
                  obtain ⟨h134, r134⟩ := hd.done_ 25 _ 134 (by kernel_rfl) rfl rfl
                  have r134 : v 25 = .pointer (some ⟨gf, 0, none⟩) := r134
                  rw [r134] at h134
                  have hk := hK (.pointer (some ⟨gf, 1, none⟩)) W (Below.refl _ _) rfl
                  clear hK
                  unfold Oper.wp
                  go_simp
                  exact hk
                · intro a v W hd hb K hK
                  obtain ⟨h135, r135⟩ := hd.done_ 26 _ 135 (by kernel_rfl) rfl rfl
                  have r135 : v 26 = .pointer (some ⟨gf, 1, none⟩) := r135
                  rw [r135] at h135
                  have kk0 : W.cell? ⟨gf, 1, none⟩ = some (.slice AL r cL) := (HKF3.out.below hb).cell 1
                  have hk := hK (.slice AL r cL) W (Below.refl _ _) rfl
                  clear hK
                  unfold Oper.wp
                  go_simp
                  exact hk
                · intro a v W hd hb K hK
                  obtain ⟨h136, r136⟩ := hd.done_ 27 _ 136 (by kernel_rfl) rfl rfl
                  have r136 : v 27 = .slice AL r cL := r136
                  rw [r136] at h136
                  have hk := hK (.int .i64 (r : Int)) W (Below.refl _ _) rfl
                  clear hK
                  unfold Oper.wp
                  go_simp
                  exact hk
                · intro a v W hd hb K hK
                  obtain ⟨h132, r132⟩ := hd.done_ 23 _ 132 (by kernel_rfl) rfl rfl
                  have r132 : v 23 = .int .i64 (r : Int) := r132
                  rw [r132] at h132
                  obtain ⟨h137, r137⟩ := hd.done_ 28 _ 137 (by kernel_rfl) rfl rfl
                  have r137 : v 28 = .int .i64 (r : Int) := r137
                  rw [r137] at h137
                  have hk := hK (.bool false) W (Below.refl _ _) rfl
                  clear hK
                  unfold Oper.wp
                  go_simp
                  exact hk
                · intro a v W hd hb K hK
                  obtain ⟨h130, r130⟩ := hd.done_ 21 _ 130 (by kernel_rfl) rfl rfl
                  have r130 : v 21 = .bool false := r130
                  rw [r130] at h130
                  obtain ⟨h138, r138⟩ := hd.done_ 29 _ 138 (by kernel_rfl) rfl rfl
                  have r138 : v 29 = .bool false := r138
                  rw [r138] at h138
                  have hk := hK (.bool false) W (Below.refl _ _) rfl
                  clear hK
                  unfold Oper.wp
                  go_simp
                  exact hk
                · intro a v W hd hb K hK
                  obtain ⟨h139, r139⟩ := hd.done_ 30 _ 139 (by kernel_rfl) rfl rfl
                  have r139 : v 30 = .bool false := r139
                  rw [r139] at h139
                  have hk := hK (.bool false) W (Below.refl _ _) rfl
                  clear hK
                  unfold Oper.wp
                  go_simp
                  exact hk
                · intro a v W hd hb K hK
                  have k6 : a.tmps.getD 6 undef = .pointer (some ⟨gz, 0, none⟩) := hd.kept 6 (by kernel_rfl)
                  have hk := hK (.pointer (some ⟨gz, 0, none⟩)) W (Below.refl _ _) rfl
                  clear hK
                  unfold Oper.wp
                  go_simp
                  exact hk
                · intro a v W hd hb K hK
                  have k12 : a.tmps.getD 12 undef = .pointer (some ⟨tb, 0, none⟩) := hd.kept 12 (by kernel_rfl)
                  have hk := hK (.pointer (some ⟨tb, 2, none⟩)) W (Below.refl _ _) rfl
                  clear hK
                  unfold Oper.wp
                  go_simp
                  exact hk
                · intro a v W hd hb K hK
                  obtain ⟨h142, r142⟩ := hd.done_ 33 _ 142 (by kernel_rfl) rfl rfl
                  have r142 : v 33 = .pointer (some ⟨tb, 2, none⟩) := r142
                  rw [r142] at h142
                  have hk := hK (.pointer (some ⟨tb, 2, none⟩)) W (Below.refl _ _) rfl
                  clear hK
                  unfold Oper.wp
                  go_simp
                  exact hk
                · intro a v W hd hb K hK
                  obtain ⟨h143, r143⟩ := hd.done_ 34 _ 143 (by kernel_rfl) rfl rfl
                  have r143 : v 34 = .pointer (some ⟨tb, 2, none⟩) := r143
                  rw [r143] at h143
                  have kk0 : W.cell? ⟨tb, 2, none⟩ = some (.int .i64 x.l.fr.g) := (HKB3.out.below hb).cell 2
                  have kk1 : W.cell? ⟨tb, 3, none⟩ = some (.int .i64 x.l.fr.n) := (HKB3.out.below hb).cell 3
                  have hk := hK (.agg #[.int .i64 x.l.fr.g, .int .i64 x.l.fr.n]) W (Below.refl _ _) rfl
                  clear hK
                  unfold Oper.wp
                  go_simp
                  exact hk
                · intro a v W hd hb K hK
                  have k12 : a.tmps.getD 12 undef = .pointer (some ⟨tb, 0, none⟩) := hd.kept 12 (by kernel_rfl)
                  have hk := hK (.pointer (some ⟨tb, 2, none⟩)) W (Below.refl _ _) rfl
                  clear hK
                  unfold Oper.wp
                  go_simp
                  exact hk
                · intro a v W hd hb K hK
                  obtain ⟨h145, r145⟩ := hd.done_ 36 _ 145 (by kernel_rfl) rfl rfl
                  have r145 : v 36 = .pointer (some ⟨tb, 2, none⟩) := r145
                  rw [r145] at h145
                  have hk := hK (.pointer (some ⟨tb, 4, none⟩)) W (Below.refl _ _) rfl
                  clear hK
                  unfold Oper.wp
                  go_simp
                  exact hk
                · intro a v W hd hb K hK
                  obtain ⟨h146, r146⟩ := hd.done_ 37 _ 146 (by kernel_rfl) rfl rfl
                  have r146 : v 37 = .pointer (some ⟨tb, 4, none⟩) := r146
                  rw [r146] at h146
                  have kk0 : W.cell? ⟨tb, 4, none⟩ = some (.int .i64 x.l.to.g) := (HKB3.out.below hb).cell 4
                  have kk1 : W.cell? ⟨tb, 5, none⟩ = some (.int .i64 x.l.to.n) := (HKB3.out.below hb).cell 5
                  have hk := hK (.agg #[.int .i64 x.l.to.g, .int .i64 x.l.to.n]) W (Below.refl _ _) rfl
                  clear hK
                  unfold Oper.wp
                  go_simp
                  exact hk
                · intro a v W hd hb K hK
                  obtain ⟨h141, r141⟩ := hd.done_ 32 _ 141 (by kernel_rfl) rfl rfl
                  have r141 : v 32 = .pointer (some ⟨gz, 0, none⟩) := r141
                  rw [r141] at h141
                  obtain ⟨h144, r144⟩ := hd.done_ 35 _ 144 (by kernel_rfl) rfl rfl
                  have r144 : v 35 = .agg #[.int .i64 x.l.fr.g, .int .i64 x.l.fr.n] := r144
                  rw [r144] at h144
                  obtain ⟨h147, r147⟩ := hd.done_ 38 _ 147 (by kernel_rfl) rfl rfl
                  have r147 : v 38 = .agg #[.int .i64 x.l.to.g, .int .i64 x.l.to.n] := r147
                  rw [r147] at h147
                  have ct := Cuts_any (HBO3.out.later hb).sn.nt HOK.out.f HOK.out.t
                  rw [← HQ1.out] at ct
                  unfold adV at ct
                  unfold Oper.wp
                  go_simp
                  refine ct.mono ?_
                  rintro e' W' ⟨rfl, hb'⟩
                  exact hK _ W' hb' rfl
                · intro a v W hd hb K hK
                  have k9 : a.tmps.getD 9 undef = .pointer (some ⟨gf, 0, none⟩) := hd.kept 9 (by kernel_rfl)
                  have hk := hK (.pointer (some ⟨gf, 0, none⟩)) W (Below.refl _ _) rfl
                  clear hK
                  unfold Oper.wp
                  go_simp
                  exact hk
                · intro a v W hd hb K hK
                  have k12 : a.tmps.getD 12 undef = .pointer (some ⟨tb, 0, none⟩) := hd.kept 12 (by kernel_rfl)
                  have hk := hK (.pointer (some ⟨tb, 2, none⟩)) W (Below.refl _ _) rfl
                  clear hK
                  unfold Oper.wp
                  go_simp
                  exact hk
                · intro a v W hd hb K hK
                  obtain ⟨h150, r150⟩ := hd.done_ 41 _ 150 (by kernel_rfl) rfl rfl
                  have r150 : v 41 = .pointer (some ⟨tb, 2, none⟩) := r150
                  rw [r150] at h150
                  have hk := hK (.pointer (some ⟨tb, 2, none⟩)) W (Below.refl _ _) rfl
                  clear hK
                  unfold Oper.wp
                  go_simp
                  exact hk
                · intro a v W hd hb K hK
                  obtain ⟨h151, r151⟩ := hd.done_ 42 _ 151 (by kernel_rfl) rfl rfl
                  have r151 : v 42 = .pointer (some ⟨tb, 2, none⟩) := r151
                  rw [r151] at h151
                  have kk0 : W.cell? ⟨tb, 2, none⟩ = some (.int .i64 x.l.fr.g) := (HKB3.out.below hb).cell 2
                  have kk1 : W.cell? ⟨tb, 3, none⟩ = some (.int .i64 x.l.fr.n) := (HKB3.out.below hb).cell 3
                  have hk := hK (.agg #[.int .i64 x.l.fr.g, .int .i64 x.l.fr.n]) W (Below.refl _ _) rfl
                  clear hK
                  unfold Oper.wp
                  go_simp
                  exact hk
                · intro a v W hd hb K hK
                  have k12 : a.tmps.getD 12 undef = .pointer (some ⟨tb, 0, none⟩) := hd.kept 12 (by kernel_rfl)
                  have hk := hK (.pointer (some ⟨tb, 2, none⟩)) W (Below.refl _ _) rfl
                  clear hK
                  unfold Oper.wp
                  go_simp
                  exact hk
                · intro a v W hd hb K hK
                  obtain ⟨h153, r153⟩ := hd.done_ 44 _ 153 (by kernel_rfl) rfl rfl
                  have r153 : v 44 = .pointer (some ⟨tb, 2, none⟩) := r153
                  rw [r153] at h153
                  have hk := hK (.pointer (some ⟨tb, 4, none⟩)) W (Below.refl _ _) rfl
                  clear hK
                  unfold Oper.wp
                  go_simp
                  exact hk
                · intro a v W hd hb K hK
                  obtain ⟨h154, r154⟩ := hd.done_ 45 _ 154 (by kernel_rfl) rfl rfl
                  have r154 : v 45 = .pointer (some ⟨tb, 4, none⟩) := r154
                  rw [r154] at h154
                  have kk0 : W.cell? ⟨tb, 4, none⟩ = some (.int .i64 x.l.to.g) := (HKB3.out.below hb).cell 4
                  have kk1 : W.cell? ⟨tb, 5, none⟩ = some (.int .i64 x.l.to.n) := (HKB3.out.below hb).cell 5
                  have hk := hK (.agg #[.int .i64 x.l.to.g, .int .i64 x.l.to.n]) W (Below.refl _ _) rfl
                  clear hK
                  unfold Oper.wp
                  go_simp
                  exact hk
                · intro a v W hd hb K hK
                  obtain ⟨h149, r149⟩ := hd.done_ 40 _ 149 (by kernel_rfl) rfl rfl
                  have r149 : v 40 = .pointer (some ⟨gf, 0, none⟩) := r149
                  rw [r149] at h149
                  obtain ⟨h152, r152⟩ := hd.done_ 43 _ 152 (by kernel_rfl) rfl rfl
                  have r152 : v 43 = .agg #[.int .i64 x.l.fr.g, .int .i64 x.l.fr.n] := r152
                  rw [r152] at h152
                  obtain ⟨h155, r155⟩ := hd.done_ 46 _ 155 (by kernel_rfl) rfl rfl
                  have r155 : v 46 = .agg #[.int .i64 x.l.to.g, .int .i64 x.l.to.n] := r155
                  rw [r155] at h155
                  have ct := rcuts_any (HBO3.out.later hb).rf HFEW.out x.l.fr x.l.to
                  rw [← HQ1.out] at ct
                  unfold adV at ct
                  unfold Oper.wp
                  go_simp
                  refine ct.mono ?_
                  rintro e' W' ⟨rfl, hb'⟩
                  exact hK _ W' hb' rfl
                · intro a v W hd hb K hK
                  obtain ⟨h148, r148⟩ := hd.done_ 39 _ 148 (by kernel_rfl) rfl rfl
                  have r148 : v 39 = .bool q1 := r148
                  rw [r148] at h148
                  obtain ⟨h156, r156⟩ := hd.done_ 47 _ 156 (by kernel_rfl) rfl rfl
                  have r156 : v 47 = .bool q1 := r156
                  rw [r156] at h156
                  have hk := hK (.bool false) W (Below.refl _ _) rfl
                  clear hK
                  unfold Oper.wp
                  go_simp
                  exact hk
                · intro a v W hd hb K hK
                  obtain ⟨h140, r140⟩ := hd.done_ 31 _ 140 (by kernel_rfl) rfl rfl
                  have r140 : v 31 = .bool false := r140
                  rw [r140] at h140
                  obtain ⟨h157, r157⟩ := hd.done_ 48 _ 157 (by kernel_rfl) rfl rfl
                  have r157 : v 48 = .bool false := r157
                  rw [r157] at h157
                  have hk := hK (.bool false) W (Below.refl _ _) rfl
                  clear hK
                  unfold Oper.wp
                  go_simp
                  exact hk
                · intro a v W hd hb K hK
                  obtain ⟨h158, r158⟩ := hd.done_ 49 _ 158 (by kernel_rfl) rfl rfl
                  have r158 : v 49 = .bool false := r158
                  rw [r158] at h158
                  have hk := hK (.bool false) W (Below.refl _ _) rfl
                  clear hK
                  unfold Oper.wp
                  go_simp
                  exact hk
                · intro a v W hd hb K hK
                  have k6 : a.tmps.getD 6 undef = .pointer (some ⟨gz, 0, none⟩) := hd.kept 6 (by kernel_rfl)
                  have hk := hK (.pointer (some ⟨gz, 0, none⟩)) W (Below.refl _ _) rfl
                  clear hK
                  unfold Oper.wp
                  go_simp
                  exact hk
                · intro a v W hd hb K hK
                  have k12 : a.tmps.getD 12 undef = .pointer (some ⟨tb, 0, none⟩) := hd.kept 12 (by kernel_rfl)
                  have hk := hK (.pointer (some ⟨tb, 2, none⟩)) W (Below.refl _ _) rfl
                  clear hK
                  unfold Oper.wp
                  go_simp
                  exact hk
                · intro a v W hd hb K hK
                  obtain ⟨h161, r161⟩ := hd.done_ 52 _ 161 (by kernel_rfl) rfl rfl
                  have r161 : v 52 = .pointer (some ⟨tb, 2, none⟩) := r161
                  rw [r161] at h161
                  have hk := hK (.pointer (some ⟨tb, 4, none⟩)) W (Below.refl _ _) rfl
                  clear hK
                  unfold Oper.wp
                  go_simp
                  exact hk
                · intro a v W hd hb K hK
                  obtain ⟨h162, r162⟩ := hd.done_ 53 _ 162 (by kernel_rfl) rfl rfl
                  have r162 : v 53 = .pointer (some ⟨tb, 4, none⟩) := r162
                  rw [r162] at h162
                  have kk0 : W.cell? ⟨tb, 4, none⟩ = some (.int .i64 x.l.to.g) := (HKB3.out.below hb).cell 4
                  have kk1 : W.cell? ⟨tb, 5, none⟩ = some (.int .i64 x.l.to.n) := (HKB3.out.below hb).cell 5
                  have hk := hK (.agg #[.int .i64 x.l.to.g, .int .i64 x.l.to.n]) W (Below.refl _ _) rfl
                  clear hK
                  unfold Oper.wp
                  go_simp
                  exact hk
                · intro a v W hd hb K hK
                  have k12 : a.tmps.getD 12 undef = .pointer (some ⟨tb, 0, none⟩) := hd.kept 12 (by kernel_rfl)
                  have hk := hK (.pointer (some ⟨tb, 2, none⟩)) W (Below.refl _ _) rfl
                  clear hK
                  unfold Oper.wp
                  go_simp
                  exact hk
                · intro a v W hd hb K hK
                  obtain ⟨h164, r164⟩ := hd.done_ 55 _ 164 (by kernel_rfl) rfl rfl
                  have r164 : v 55 = .pointer (some ⟨tb, 2, none⟩) := r164
                  rw [r164] at h164
                  have hk := hK (.pointer (some ⟨tb, 2, none⟩)) W (Below.refl _ _) rfl
                  clear hK
                  unfold Oper.wp
                  go_simp
                  exact hk
                · intro a v W hd hb K hK
                  obtain ⟨h165, r165⟩ := hd.done_ 56 _ 165 (by kernel_rfl) rfl rfl
                  have r165 : v 56 = .pointer (some ⟨tb, 2, none⟩) := r165
                  rw [r165] at h165
                  have kk0 : W.cell? ⟨tb, 2, none⟩ = some (.int .i64 x.l.fr.g) := (HKB3.out.below hb).cell 2
                  have kk1 : W.cell? ⟨tb, 3, none⟩ = some (.int .i64 x.l.fr.n) := (HKB3.out.below hb).cell 3
                  have hk := hK (.agg #[.int .i64 x.l.fr.g, .int .i64 x.l.fr.n]) W (Below.refl _ _) rfl
                  clear hK
                  unfold Oper.wp
                  go_simp
                  exact hk
                · intro a v W hd hb K hK
                  obtain ⟨h160, r160⟩ := hd.done_ 51 _ 160 (by kernel_rfl) rfl rfl
                  have r160 : v 51 = .pointer (some ⟨gz, 0, none⟩) := r160
                  rw [r160] at h160
                  obtain ⟨h163, r163⟩ := hd.done_ 54 _ 163 (by kernel_rfl) rfl rfl
                  have r163 : v 54 = .agg #[.int .i64 x.l.to.g, .int .i64 x.l.to.n] := r163
                  rw [r163] at h163
                  obtain ⟨h166, r166⟩ := hd.done_ 57 _ 166 (by kernel_rfl) rfl rfl
                  have r166 : v 57 = .agg #[.int .i64 x.l.fr.g, .int .i64 x.l.fr.n] := r166
                  rw [r166] at h166
                  have ct := Cuts_any (HBO3.out.later hb).sn.nt HOK.out.t HOK.out.f
                  rw [← HQ2.out] at ct
                  unfold adV at ct
                  unfold Oper.wp
                  go_simp
                  refine ct.mono ?_
                  rintro e' W' ⟨rfl, hb'⟩
                  exact hK _ W' hb' rfl
                · intro a v W hd hb K hK
                  have k9 : a.tmps.getD 9 undef = .pointer (some ⟨gf, 0, none⟩) := hd.kept 9 (by kernel_rfl)
                  have hk := hK (.pointer (some ⟨gf, 0, none⟩)) W (Below.refl _ _) rfl
                  clear hK
                  unfold Oper.wp
                  go_simp
                  exact hk
                · intro a v W hd hb K hK
                  have k12 : a.tmps.getD 12 undef = .pointer (some ⟨tb, 0, none⟩) := hd.kept 12 (by kernel_rfl)
                  have hk := hK (.pointer (some ⟨tb, 2, none⟩)) W (Below.refl _ _) rfl
                  clear hK
                  unfold Oper.wp
                  go_simp
                  exact hk
                · intro a v W hd hb K hK
                  obtain ⟨h169, r169⟩ := hd.done_ 60 _ 169 (by kernel_rfl) rfl rfl
                  have r169 : v 60 = .pointer (some ⟨tb, 2, none⟩) := r169
                  rw [r169] at h169
                  have hk := hK (.pointer (some ⟨tb, 4, none⟩)) W (Below.refl _ _) rfl
                  clear hK
                  unfold Oper.wp
                  go_simp
                  exact hk
                · intro a v W hd hb K hK
                  obtain ⟨h170, r170⟩ := hd.done_ 61 _ 170 (by kernel_rfl) rfl rfl
                  have r170 : v 61 = .pointer (some ⟨tb, 4, none⟩) := r170
                  rw [r170] at h170
                  have kk0 : W.cell? ⟨tb, 4, none⟩ = some (.int .i64 x.l.to.g) := (HKB3.out.below hb).cell 4
                  have kk1 : W.cell? ⟨tb, 5, none⟩ = some (.int .i64 x.l.to.n) := (HKB3.out.below hb).cell 5
                  have hk := hK (.agg #[.int .i64 x.l.to.g, .int .i64 x.l.to.n]) W (Below.refl _ _) rfl
                  clear hK
                  unfold Oper.wp
                  go_simp
                  exact hk
                · intro a v W hd hb K hK
                  have k12 : a.tmps.getD 12 undef = .pointer (some ⟨tb, 0, none⟩) := hd.kept 12 (by kernel_rfl)
                  have hk := hK (.pointer (some ⟨tb, 2, none⟩)) W (Below.refl _ _) rfl
                  clear hK
                  unfold Oper.wp
                  go_simp
                  exact hk
                · intro a v W hd hb K hK
                  obtain ⟨h172, r172⟩ := hd.done_ 63 _ 172 (by kernel_rfl) rfl rfl
                  have r172 : v 63 = .pointer (some ⟨tb, 2, none⟩) := r172
                  rw [r172] at h172
                  have hk := hK (.pointer (some ⟨tb, 2, none⟩)) W (Below.refl _ _) rfl
                  clear hK
                  unfold Oper.wp
                  go_simp
                  exact hk
                · intro a v W hd hb K hK
                  obtain ⟨h173, r173⟩ := hd.done_ 64 _ 173 (by kernel_rfl) rfl rfl
                  have r173 : v 64 = .pointer (some ⟨tb, 2, none⟩) := r173
                  rw [r173] at h173
                  have kk0 : W.cell? ⟨tb, 2, none⟩ = some (.int .i64 x.l.fr.g) := (HKB3.out.below hb).cell 2
                  have kk1 : W.cell? ⟨tb, 3, none⟩ = some (.int .i64 x.l.fr.n) := (HKB3.out.below hb).cell 3
                  have hk := hK (.agg #[.int .i64 x.l.fr.g, .int .i64 x.l.fr.n]) W (Below.refl _ _) rfl
                  clear hK
                  unfold Oper.wp
                  go_simp
                  exact hk
                · intro a v W hd hb K hK
                  obtain ⟨h168, r168⟩ := hd.done_ 59 _ 168 (by kernel_rfl) rfl rfl
                  have r168 : v 59 = .pointer (some ⟨gf, 0, none⟩) := r168
                  rw [r168] at h168
                  obtain ⟨h171, r171⟩ := hd.done_ 62 _ 171 (by kernel_rfl) rfl rfl
                  have r171 : v 62 = .agg #[.int .i64 x.l.to.g, .int .i64 x.l.to.n] := r171
                  rw [r171] at h171
                  obtain ⟨h174, r174⟩ := hd.done_ 65 _ 174 (by kernel_rfl) rfl rfl
                  have r174 : v 65 = .agg #[.int .i64 x.l.fr.g, .int .i64 x.l.fr.n] := r174
                  rw [r174] at h174
                  have ct := rcuts_any (HBO3.out.later hb).rf HFEW.out x.l.to x.l.fr
                  rw [← HQ2.out] at ct
                  unfold adV at ct
                  unfold Oper.wp
                  go_simp
                  refine ct.mono ?_
                  rintro e' W' ⟨rfl, hb'⟩
                  exact hK _ W' hb' rfl
                · intro a v W hd hb K hK
                  obtain ⟨h167, r167⟩ := hd.done_ 58 _ 167 (by kernel_rfl) rfl rfl
                  have r167 : v 58 = .bool q2 := r167
                  rw [r167] at h167
                  obtain ⟨h175, r175⟩ := hd.done_ 66 _ 175 (by kernel_rfl) rfl rfl
                  have r175 : v 66 = .bool q2 := r175
                  rw [r175] at h175
                  have hk := hK (.bool false) W (Below.refl _ _) rfl
                  clear hK
                  unfold Oper.wp
                  go_simp
                  exact hk
                · intro a v W hd hb K hK
                  obtain ⟨h159, r159⟩ := hd.done_ 50 _ 159 (by kernel_rfl) rfl rfl
                  have r159 : v 50 = .bool false := r159
                  rw [r159] at h159
                  obtain ⟨h176, r176⟩ := hd.done_ 67 _ 176 (by kernel_rfl) rfl rfl
                  have r176 : v 67 = .bool false := r176
                  rw [r176] at h176
                  have hk := hK (.bool false) W (Below.refl _ _) rfl
                  clear hK
                  unfold Oper.wp
                  go_simp
                  exact hk
              case hE =>
                intro v V hbV hv
                have e68 : v 68 = .bool false := hv 68 (by decide)
                have HR2 := Lib.hid (HREL.out _ hbV)
                clear HREL hbV HKF3 HKP3 HKQ3 HKB3 hv
                rw [e68]
                clear e68
                generalize v 0 = x0
                generalize v 1 = x1
                generalize v 2 = x2
                generalize v 3 = x3
                generalize v 4 = x4
                generalize v 5 = x5
                generalize v 6 = x6
                generalize v 7 = x7
                generalize v 8 = x8
                generalize v 9 = x9
                generalize v 10 = x10
                generalize v 11 = x11
                generalize v 12 = x12
                generalize v 13 = x13
                generalize v 14 = x14
                generalize v 15 = x15
                generalize v 16 = x16
                generalize v 17 = x17
                generalize v 18 = x18
                generalize v 19 = x19
                generalize v 20 = x20
                generalize v 21 = x21
                generalize v 22 = x22
                generalize v 23 = x23
                generalize v 24 = x24
                generalize v 25 = x25
                generalize v 26 = x26
                generalize v 27 = x27
                generalize v 28 = x28
                generalize v 29 = x29
                generalize v 30 = x30
                generalize v 31 = x31
                generalize v 32 = x32
                generalize v 33 = x33
                generalize v 34 = x34
                generalize v 35 = x35
                generalize v 36 = x36
                generalize v 37 = x37
                generalize v 38 = x38
                generalize v 39 = x39
                generalize v 40 = x40
                generalize v 41 = x41
                generalize v 42 = x42
                generalize v 43 = x43
                generalize v 44 = x44
                generalize v 45 = x45
                generalize v 46 = x46
                generalize v 47 = x47
                generalize v 48 = x48
                generalize v 49 = x49
                generalize v 50 = x50
                generalize v 51 = x51
                generalize v 52 = x52
                generalize v 53 = x53
                generalize v 54 = x54
                generalize v 55 = x55
                generalize v 56 = x56
                generalize v 57 = x57
                generalize v 58 = x58
                generalize v 59 = x59
                generalize v 60 = x60
                generalize v 61 = x61
                generalize v 62 = x62
                generalize v 63 = x63
                generalize v 64 = x64
                generalize v 65 = x65
                generalize v 66 = x66
                generalize v 67 = x67
                show Exit.then _ _ _ _ _
                go_wp2_with fail
                exact ⟨HR2.out, by simp [intOf]; omega⟩
          · have v2 : ¬ (k : Int) < (n : Int) := by omega
            have CG2 := Lib.hid (goes_any wr)
            have HBW : Hid (Below w1.heap.size w1 wr) := hbo.sn.bl
            clear hbo hlt
            go_wp2_with fail
            refine CG2.out.mono ?_
            rintro e w5 ⟨rfl, hb5⟩
            have HF := Lib.hid (HBW.out.trans (hb5.mono HBW.out.size))
            clear hb5 CG2
            go_wp2_with fail
            go_ret
            exact ⟨rfl, HF.out⟩
theorem pty_int : Try.prog.underlying 3 = some (.int .i64) := by kernel_rfl
theorem arg_ints {H : Type} {enc : TypeId × Value → H} {w : World} {base : Nat} {spare : Nat → Bool} {held : Bool} {b0 : Nat} {r : Reach} {v : Value} {d : DataW H} {ps : List MemPlace} (hv : Value.okWide Try.prog w r b0 22 v) (h : DataW.Trod enc Try.prog w base spare held 22 v d ps) : ∃ A n c zs, v = .slice A n c ∧ RdV w A n (iv zs) := by
  obtain ⟨A, n, c, rfl⟩ := okWide_slice nty_ints hv
  obtain ⟨fuel, h⟩ := h
  have ce_int : Try.prog.cellsOf 3 = 1 := by kernel_rfl
  rcases open_ints nty_ints pty_int ce_int h with ⟨hcs, _⟩ | ⟨a, len, cap, zs, hcs, _, hl, hm, hz, _, hc, hw⟩
  · simp [Value.cells] at hcs
    obtain ⟨rfl, rfl, rfl⟩ := hcs
    exact ⟨none, 0, 0, [], rfl, ⟨rfl, fun h => absurd h (by omega)⟩⟩
  · simp [Value.cells] at hcs
    obtain ⟨rfl, rfl, rfl⟩ := hcs
    have hlz : n ≤ zs.length := by rw [hz]; split <;> omega
    refine ⟨some a, n, c, zs.take n, rfl, ⟨by simp [iv]; omega, fun _ => ⟨a, rfl, fun j v hj => ?_⟩⟩⟩
    unfold iv at hj
    rw [List.getElem?_map, List.getElem?_take] at hj
    split at hj
    · next hjn =>
      have hjl : j < zs.length := by omega
      rw [List.getElem?_eq_getElem hjl] at hj
      injection hj with hj
      rw [hc j hjl, ← hj, List.getD_eq_getElem?_getD, List.getElem?_eq_getElem hjl]
      rfl
    · cases hj
theorem rdv_lt {w : World} {A : Option Addr} {n : Nat} {vs : List Value} (h : RdV w A n vs) : ∀ a, A = some a → 1 ≤ n → a.block < w.heap.size := fun a ha h0 => by
  obtain ⟨ad, e, hc⟩ := h.cells h0
  rw [ha] at e
  injection e with e
  subst e
  have hl : 0 < vs.length := by have := h.len; omega
  have := World.block_lt_of_cell? _ _ (hc 0 _ (List.getElem?_eq_getElem hl))
  rwa [addr_add_block] at this
set_option maxRecDepth 100000 in
theorem lifted (os : Os) (started : os.Started) (H : Type) (enc : TypeId × Value → H) :
    ReturnsInHanded {} Try.checked os 3 .any (Rows.netPlaysSpec.pre6 enc Try.prog Try.f3 Rows.netPlaysRow.domain false) (Rows.netPlaysSpec.post enc Try.prog Try.f3 false true false false) := by
  refine returnsInHanded_of_change_sized (C := Try.checked) own started (by kernel_rfl) Try.func3
    (ChangeSpec.witness6 (enc := enc) (C := Try.checked) false ⟨#[], #[.slice none 0 0, .slice none 0 0], []⟩ 8 (by kernel_rfl) (by kernel_rfl) (by kernel_rfl) (by kernel_rfl)) ?_
  intro W base args ds gs before hval0 hW hcnd hsz _
  have hval : ∀ (j : Nat) t v, Try.f3.params[j]? = some t → args[j]? = some v → Value.okWide Try.prog W .any base t v := hval0
  have hW' := hW
  obtain ⟨p, q, hA0, hV, rfl, hfz, hnd⟩ := hW
  have hA : DataW.TrodAll enc Try.prog W 0 (fun _ => true) true Try.f3.params.toList args.toList ds p := hA0
  rw [Try.params3] at hA hval
  obtain ⟨v0, v1, d0, d1, p0, p1, rfl, rfl, rfl, h0, h1⟩ := trodAll_two hA
  obtain ⟨rfl, rfl⟩ := trodVars_none hV
  obtain ⟨A0, n0, c0, zs, rfl, hz⟩ := arg_ints (hval 0 _ v0 rfl rfl) h0
  obtain ⟨A, n, c, xs, rfl, _, hn, hl, hy⟩ := arg_acts (hval 1 _ v1 rfl rfl) h1 (fun n hn => by have := List.all_eq_true.1 hsz _ (DataW.weights_mem_each (j := 1) (t := 23) rfl rfl n hn); simpa using this)
  refine (walk A0 A n0 c0 n c zs xs W hz (rdv_lt hz) hl (Nat.le_trans hn (by decide)) (fun x hx => Nat.le_trans (hy x hx) (by decide))).mono fun e W' ⟨he, hb⟩ => ?_
  subst he
  exact ⟨_, rfl, post_true laidOut (by kernel_rfl) ty_bool (by kernel_rfl) rfl hW' hb rfl⟩

theorem over : Rows.netPlaysRow.holds Try.pinned (OpenSpec.ofChange Rows.netPlaysSpec) :=
  OpenClaim.holds_of_wide 3 Try.f3 rfl rfl rfl rfl rfl rfl rfl ⟨rfl, rfl, rfl, rfl, rfl⟩ rfl rfl rfl rfl rfl (by kernel_rfl) Try.func3 (by kernel_rfl)
    (of_decide_eq_true (by kernel_rfl)) (by unfold Func.isWrapper; first | (rw [if_pos (by decide +kernel)]; kernel_rfl) | (rw [if_neg (by decide +kernel)]; exact ⟨rfl, rfl⟩))
    (fun os started H enc _ => lifted os started H enc)

theorem proved : Rows.NetPlaysSaid :=
  over
end Go.Proofs.Ytmjipeagbogpmaa.netPlays
