/- StoreKeeps: whenever the power goes and comes again, what is kept is what it was behind the last call that answered OK, or behind the one that was under way, whole: for every number of pages and all runs the call returns true, and nothing that was there has turned. No conditions. -/
import Derived.Test.YtmhfhhhhbcignaaGreatBase28
namespace Go.Proofs.YtmhfhhhhbcignaaGreat.storeKeeps
open Go.ChangeShapes Go.WideShapes Go.ChangeAt Go.RowKit Disk Log Sto
open PhaseG (wp_region_free)
open Phase (stepsL_cons stepsL_nil)

def fineR (x : Rn1) : Prop := greatF x.l = false ∧ x.fates.length ≤ 100
def RelO (w0 : World) (gd n : Nat) (s i : Value) (wr : World) : Prop := ∃ (j gs : Nat) (Z : Nat → Prop) (k : Kp), i = .int .i64 (j : Int) ∧ s = .pointer (some ⟨gs, 0, none⟩) ∧ j ≤ 8 ∧ Ss w0 wr Z gs gd n k (600 * j)
def RL (gs : Nat) (sp sq : ByteArray) (k : Kp) (y : A1) (B2 : Option Addr) (c3 : Nat) : Nat → Value → World → Prop
  | 0, x, _ => x = .string sp
  | 1, x, _ => x = .pointer (some ⟨gs, 0, none⟩)
  | 2, x, W => ∃ A c, x = kpV k A c ∧ LnS (fun _ => True) W A k.lines.length k.lines
  | 3, x, _ => x = .agg #[.int .u8 (y.do_ : Int), .int .u64 (y.e : Int), .slice B2 y.l.length c3]
  | _, x, _ => x = .string sq
theorem RL.below {gs : Nat} {sp sq : ByteArray} {k : Kp} {y : A1} {B2 : Option Addr} {c3 : Nat} (i : Nat) (x : Value) (W W' : World) (h : RL gs sp sq k y B2 c3 i x W) (hb : Below W.heap.size W W') : RL gs sp sq k y B2 c3 i x W' := by
  match i, h with
  | 0, h => exact h
  | 1, h => exact h
  | 2, ⟨A, c, e, h⟩ => exact ⟨A, c, e, h.below hb⟩
  | 3, h => exact h
  | _ + 4, h => exact h
theorem fine_x {w0 w : World} {Z : Nat → Prop} {gs gd : Nat} {d : DK} {p : Nat} {k : Kp} (h : SvX w0 w Z gs gd d p k) : Fine k := by
  obtain ⟨_, _, _, _, q, _⟩ := h
  exact q
def RelI (w0 : World) (gs gd n N0 m : Nat) (a b i : Value) (wr : World) : Prop := ∃ (q : Nat) (Z : Nat → Prop) (d : DK) (k : Kp), i = .int .i64 (q : Int) ∧ q ≤ m ∧ a = .string (S (textK k)) ∧ b = .string (S (textK k)) ∧ d.pages.length = n ∧ Sv w0 wr Z gs gd d (n / 2) k (N0 + 4 * q)
set_option maxRecDepth 100000 in
set_option maxHeartbeats 8000000 in
theorem walk (z : Int) (A : Option Addr) (m c : Nat) (xs : List Rn1) (w : World) (h : RunS (fun b => b < w.heap.size) w A m xs) : Calls Tryz.prog 4 #[.int .i64 z, .slice A m c] w fun r w' => r = .returned (.bool true) ∧ Below w.heap.size w w' := by
  by_cases h1 : z < 8
  · go_enter Tryz.func4, Tryz.ntmps4
    go_wp2_with fail
    go_ret
    exact ⟨rfl, Below.refl _ _⟩
  by_cases h2 : 200 < z
  · go_enter Tryz.func4, Tryz.ntmps4
    go_wp2_with fail
    go_ret
    exact ⟨rfl, Below.refl _ _⟩
  by_cases h3 : 8 < m
  · have h3' : (8 : Int) < (m : Int) := by omega
    go_enter Tryz.func4, Tryz.ntmps4
    go_wp2_with fail
    go_ret
    exact ⟨rfl, Below.refl _ _⟩
  have h3' : ¬ (8 : Int) < (m : Int) := by omega
  obtain ⟨n, rfl⟩ : ∃ n : Nat, z = (n : Int) := ⟨z.toNat, by omega⟩
  have HRUN := Lib.hid h
  have HLN := Lib.hid h.len
  have CN := Lib.hid (ds_new (w0 := w) (w := w) (n := n) (by omega) (by omega) (Below.refl _ _))
  clear h
  go_enter Tryz.func4, Tryz.ntmps4
  go_wp2_with fail
  go_loop [5] (fun i => ∃ j : Nat, j ≤ m ∧ i = .int .i64 (j : Int) ∧ Hid (∀ x ∈ xs.take j, fineR x)) (fun i => m - (intOf i).toNat)
  case atStart => exact ⟨0, by omega, rfl, by intro x hx; simp at hx⟩
  case round =>
    obtain ⟨j, hj, rfl, hold⟩ := hrel
    have HOLD := Lib.hid hold.out
    clear hold
    by_cases hlt : j < m
    · have hjl : j < xs.length := by have := HLN.out; omega
      obtain ⟨b, o, B, ma, ca, F, kf, df, hA, c0, -, c2, hra⟩ := HRUN.out.at_ j _ (List.getElem?_eq_getElem hjl)
      have hk0 : (0 : Int) ≤ (j : Int) := Int.natCast_nonneg _
      have hk1 : (j : Int) < (m : Int) := by omega
      have hkf := hra.fates.len
      have hcg := great_any ca hra.acts (Nat.le_trans hra.small (by decide)) (fun x hx y hy => Nat.le_trans (hra.texts x hx y hy) (by decide))
      have HTK : Hid (∀ y ∈ xs.take (j + 1), y ∈ xs.take j ∨ y = xs[j]) := fun y hy => by
        rw [← List.take_append_getElem hjl] at hy
        rcases List.mem_append.1 hy with h | h
        · exact .inl h
        · exact .inr (List.mem_singleton.1 h)
      generalize xs[j] = x at *
      subst hA
      by_cases hg : greatF x.l = true
      · rw [hg] at hcg
        have CG := Lib.hid hcg
        clear hcg hra
        go_wp2_with fail
        refine CG.out.mono ?_
        rintro e w1 ⟨rfl, rfl⟩
        go_wp2_with fail
        go_ret
        exact ⟨rfl, Below.refl _ _⟩
      · have hg : greatF x.l = false := by simpa using hg
        rw [hg] at hcg
        have CG := Lib.hid hcg
        clear hcg hra
        by_cases hf : 100 < kf
        · have hf' : (100 : Int) < (kf : Int) := by omega
          go_wp2_with fail
          refine CG.out.mono ?_
          rintro e w1 ⟨rfl, rfl⟩
          go_wp2_with fail
          go_ret
          exact ⟨rfl, Below.refl _ _⟩
        · have hf' : ¬ (100 : Int) < (kf : Int) := by omega
          have HNX : Hid (∀ y ∈ xs.take (j + 1), fineR y) := fun y hy => by
            rcases HTK.out y hy with h | h
            · exact HOLD.out y h
            · rw [h]; exact ⟨hg, by omega⟩
          go_wp2_with fail
          refine CG.out.mono ?_
          rintro e w1 ⟨rfl, rfl⟩
          clear CG
          go_wp2_with fail
          exact ⟨⟨j + 1, by omega, rfl, HNX.out⟩, by simp [intOf]; omega⟩
    · obtain rfl : j = m := by omega
      have hk1 : ¬ (j : Int) < (j : Int) := by omega
      have HALL : Hid (∀ x ∈ xs, fineR x) := by
        have := HOLD.out
        rwa [List.take_of_length_le (by have := HLN.out; omega)] at this
      clear HOLD hlt hj
      go_wp2_with fail
      refine CN.out.mono ?_
      rintro e w1 ⟨gd, X, rfl, hd, hx, hb⟩
      have CO := Lib.hid (hd.open_ (by decide))
      clear hd hx hb CN
      go_wp2_with fail
      refine CO.out.mono ?_
      rintro e w2 ⟨gs0, Z2, rfl, hs, -, -, -⟩
      have HS := Lib.hid hs
      clear hs CO
      go_wp2_with fail
      go_loopw [8, 10] (fun s i wr => RelO w gd n s i wr) (fun _ i _ => j - (intOf i).toNat)
      case atStart => exact ⟨0, gs0, Z2, Kp.zero, rfl, rfl, by omega, HS.out⟩
      case round =>
        clear HS
        obtain ⟨i, gs, Z, k, rfl, rfl, hi8, hs⟩ := hrel
        have HS := Lib.hid hs
        clear hs
        by_cases hij : i < j
        · have hil : i < xs.length := by have := HLN.out; omega
          have hi1 : (i : Int) < (j : Int) := by omega
          have hi0 : (0 : Int) ≤ (i : Int) := Int.natCast_nonneg _
          obtain ⟨b, o, B, ma, ca, F, kf, df, hA, c0, c1, c2, hra⟩ := HRUN.out.at_ i _ (List.getElem?_eq_getElem hil)
          have hfin := HALL.out _ (List.getElem_mem hil)
          generalize xs[i] = x at *
          subst hA
          have hma : ma ≤ 60 := by have := (great_no hfin.1).1; rw [hra.acts.len] at this; exact this
          have hkf : kf ≤ 100 := by have := hra.fates.len; have := hfin.2; omega
          have HFU := Lib.hid hra.fuse
          have HFN := Lib.hid (great_no hfin.1).2
          have HRA := Lib.hid hra
          have HC : Hid (∀ V, Below w.heap.size w V → V.cell? ⟨b, o + i * 3, none⟩ = some (.slice B ma ca) ∧ V.cell? ⟨b, o + i * 3 + 1, none⟩ = some (.int .i64 x.fuse) ∧ V.cell? ⟨b, o + i * 3 + 2, none⟩ = some (.slice F kf df)) := fun V hV => ⟨(hV.cell (World.block_lt_of_cell? w _ c0)).trans c0, (hV.cell (World.block_lt_of_cell? w _ c1)).trans c1, (hV.cell (World.block_lt_of_cell? w _ c2)).trans c2⟩
          have CT := Lib.hid (text_any HS.out.kept HS.out.fine)
          clear c0 c1 c2 hra hfin
          go_wp2_with fail
          refine CT.out.mono ?_
          rintro e w1 ⟨rfl, hb⟩
          obtain ⟨d, hd1, -, hd3⟩ := HS.out.below_ hb
          have HSV := Lib.hid hd1
          have HDP := Lib.hid hd3
          clear hd1 hd3 hb CT HS
          obtain ⟨sp0, hsp⟩ : ∃ sp0, sp0 = S (textK k) := ⟨_, rfl⟩
          rw [← hsp]
          have HSP0 := Lib.hid hsp
          clear hsp
          go_wp2_with fail
          go_loopw [11, 12, 13] (fun a b i' wr => RelI w gs gd n (600 * i) ma a b i' wr) (fun _ _ i' _ => ma - (intOf i').toNat)
          case atStart => exact ⟨0, Z, d, k, rfl, Nat.zero_le _, by rw [HSP0.out], by rw [HSP0.out], HDP.out, HSV.out⟩
          case round =>
            clear HSV HDP HSP0
            obtain ⟨q, Zq, dq, kq, rfl, hq, rfl, rfl, hdp, hs⟩ := hrel
            have HS := Lib.hid hs
            have HDP := Lib.hid hdp
            clear hs hdp
            obtain ⟨sp, hsp⟩ : ∃ sp, sp = S (textK kq) := ⟨_, rfl⟩
            rw [← hsp]
            have HSP := Lib.hid hsp
            clear hsp
            by_cases hqm : q < ma
            · have hqn : (q : Int) < (ma : Int) := by omega
              have hq0 : (0 : Int) ≤ (q : Int) := Int.natCast_nonneg _
              have hql : q < x.l.length := by have := HRA.out.acts.len; omega
              obtain ⟨b2, o2, B2, c3, hB, a0, a1, a2, hls, hok⟩ := HRA.out.acts.at_ q _ (List.getElem?_eq_getElem hql)
              have hlaid := HFN.out _ (List.getElem_mem hql) hok
              generalize x.l[q] = y at *
              subst hB
              have HAC : Hid (∀ V, Below w.heap.size w V → V.cell? ⟨b2, o2 + q * 3, none⟩ = some (.int .u8 (y.do_ : Int)) ∧ V.cell? ⟨b2, o2 + q * 3 + 1, none⟩ = some (.int .u64 (y.e : Int)) ∧ V.cell? ⟨b2, o2 + q * 3 + 2, none⟩ = some (.slice B2 y.l.length c3) ∧ LnS (fun b => b < w.heap.size) V B2 y.l.length y.l) := fun V hV => ⟨(hV.cell (World.block_lt_of_cell? w _ a0)).trans a0, (hV.cell (World.block_lt_of_cell? w _ a1)).trans a1, (hV.cell (World.block_lt_of_cell? w _ a2)).trans a2, hls.below hV⟩
              have HOK := Lib.hid hok
              have HLD := Lib.hid hlaid
              clear a0 a1 a2 hls hok hlaid
              by_cases hlast : q + 1 = ma
              · have hl1 : ((q : Int) == (ma : Int) - 1) = true := beq_iff_eq.2 (by omega)
                obtain ⟨c0, c1, -⟩ := HC.out _ HS.out.below
                have CF := Lib.hid (HS.out.fuse x.fuse HFU.out.1 HFU.out.2)
                have HDF : Hid ((dq.fuse x.fuse).pages.length = n) := by
                  show _ = _
                  unfold DK.fuse
                  split <;> exact HDP.out
                clear HS HDP
                go_wp2_with fail
                refine CF.out.mono ?_
                rintro e wf ⟨rfl, Zf, hs, -⟩
                have HS := Lib.hid hs
                have HDP := Lib.hid HDF.out
                clear hs CF HDF c0 c1
                obtain ⟨c0, -, -⟩ := HC.out _ HS.out.below
                obtain ⟨a0, a1, a2, hls⟩ := HAC.out _ HS.out.below
                obtain ⟨WB, hWB⟩ : ∃ WB, WB = (wf).alloc (.cells #[.int .u8 (y.do_ : Int), .int .u64 (y.e : Int), .slice B2 y.l.length c3] 39) := ⟨_, rfl⟩
                have hbw : Below (wf).heap.size (wf) WB := by rw [hWB]; exact (Below.refl _ _).alloc (Nat.le_refl _) _
                have HKB : Hid (Bk WB (wf).heap.size 39 #[.int .u8 (y.do_ : Int), .int .u64 (y.e : Int), .slice B2 y.l.length c3]) := by show Bk _ _ _ _; rw [hWB]; exact Bk.new _ _ _
                have HSB := Lib.hid (HS.out.below_ hbw)
                have hown := HS.out.own
                have hlt := HS.out.lt
                have hsz := HS.out.below.size
                have HNZ : Hid (¬ Zf (wf).heap.size) := fun hz => by have := hlt _ hz; omega
                have CD := Lib.hid (does_any HSB.out (by omega) y HOK.out HLD.out.2.2 B2 c3 (hls.below hbw) (fun b hb => ⟨fun hz => by have := hown b hz; omega, Nat.lt_of_lt_of_le hb HSB.out.below.size⟩))
                have HWB := Lib.hid hWB
                clear hWB hbw hls hown hlt hsz HS
                go_wp2_with fail
                rw [← HWB.out]
                refine CD.out.mono ?_
                rintro e w3 hact
                clear CD
                rcases hact with ⟨hd, rfl, hb3⟩ | ⟨D, v, hd, rfl, Z3, hg3, hres⟩
                · have HS3 := Lib.hid (HSB.out.below_ hb3)
                  clear HSB hb3
                  obtain ⟨sk, hsk⟩ : ∃ sk, sk = S (textK (kq)) := ⟨_, rfl⟩
                  have HSK := Lib.hid hsk
                  have CT0 := text_any HS3.out.kept HS3.out.fine
                  rw [← hsk] at CT0
                  have CT := Lib.hid CT0
                  clear CT0 hsk
                  go_wp2_with fail
                  refine CT.out.mono ?_
                  rintro e w4 ⟨rfl, hb⟩
                  have HS4 := Lib.hid (HS3.out.below_ hb)
                  have CT0 := text_any HS4.out.kept HS4.out.fine
                  rw [← HSK.out] at CT0
                  clear hb CT HS3
                  have CT := Lib.hid CT0
                  clear CT0
                  go_wp2_with fail
                  refine CT.out.mono ?_
                  rintro e w5 ⟨rfl, hb⟩
                  have HF : Hid (RelI w gs gd n (600 * i) ma (.string sk) (.string sk) (.int .i64 ((q + 1 : Nat) : Int)) w5) := ⟨q + 1, _, _, _, rfl, by omega, by rw [HSK.out], by rw [HSK.out], HDP.out, (HS4.out.below_ hb).mono (by omega)⟩
                  clear hb CT HS4
                  go_wp2_with fail
                  exact ⟨HF.out, by simp [intOf]; omega⟩
                · rcases hres with ⟨rfl, _, hs3⟩ | ⟨rfl, _, _, hs3⟩ | ⟨rfl, hm, hfit, d3, hs3, hp3, _⟩ | ⟨rfl, hm, hfit, _, d3, hs3, hp3, hr3, hrest⟩
                  · have HS3 := Lib.hid hs3
                    clear hs3 HSB hg3
                    have CT0 := text_any HS3.out.kept HS3.out.fine
                    rw [← HSP.out] at CT0
                    have CT := Lib.hid CT0
                    clear CT0
                    go_wp2_with fail
                    refine CT.out.mono ?_
                    rintro e w4 ⟨rfl, hb⟩
                    have HF : Hid (RelI w gs gd n (600 * i) ma (.string sp) (.string sp) (.int .i64 ((q + 1 : Nat) : Int)) w4) := ⟨q + 1, _, _, _, rfl, by omega, by rw [HSP.out], by rw [HSP.out], HDP.out, (HS3.out.below_ hb).mono (by omega)⟩
                    clear hb CT HS3
                    go_wp2_with fail
                    exact ⟨HF.out, by simp [intOf]; omega⟩
                  · have HS3 := Lib.hid hs3
                    clear hs3 HSB hg3
                    have CT0 := text_any HS3.out.kept HS3.out.fine
                    rw [← HSP.out] at CT0
                    have CT := Lib.hid CT0
                    clear CT0
                    go_wp2_with fail
                    refine CT.out.mono ?_
                    rintro e w4 ⟨rfl, hb⟩
                    have HF : Hid (RelI w gs gd n (600 * i) ma (.string sp) (.string sp) (.int .i64 ((q + 1 : Nat) : Int)) w4) := ⟨q + 1, _, _, _, rfl, by omega, by rw [HSP.out], by rw [HSP.out], HDP.out, (HS3.out.below_ hb).mono (by omega)⟩
                    clear hb CT HS3
                    go_wp2_with fail
                    exact ⟨HF.out, by simp [intOf]; omega⟩
                  · have HS3 := Lib.hid hs3
                    have HP3 := Lib.hid (hp3.trans HDP.out)
                    clear hs3 HSB hg3 hp3
                    obtain ⟨sk, hsk⟩ : ∃ sk, sk = S (textK (D.run kq)) := ⟨_, rfl⟩
                    have HSK := Lib.hid hsk
                    have CT0 := text_any HS3.out.kept HS3.out.fine
                    rw [← hsk] at CT0
                    have CT := Lib.hid CT0
                    clear CT0 hsk
                    go_wp2_with fail
                    refine CT.out.mono ?_
                    rintro e w4 ⟨rfl, hb⟩
                    have HS4 := Lib.hid (HS3.out.below_ hb)
                    have CT0 := text_any HS4.out.kept HS4.out.fine
                    rw [← HSK.out] at CT0
                    clear hb CT HS3
                    have CT := Lib.hid CT0
                    clear CT0
                    go_wp2_with fail
                    refine CT.out.mono ?_
                    rintro e w5 ⟨rfl, hb⟩
                    have HF : Hid (RelI w gs gd n (600 * i) ma (.string sk) (.string sk) (.int .i64 ((q + 1 : Nat) : Int)) w5) := ⟨q + 1, _, _, _, rfl, by omega, by rw [HSK.out], by rw [HSK.out], HP3.out, (HS4.out.below_ hb).mono (by omega)⟩
                    clear hb CT HS4
                    go_wp2_with fail
                    exact ⟨HF.out, by simp [intOf]; omega⟩
                  · have hf := fine_x hs3
                    have HKR : Hid (afterK (textK kq) kq y = textK (D.run kq)) := by show _ = _; unfold afterK; rw [hd]
                    obtain ⟨sq, hsq⟩ : ∃ sq, sq = S (textK (D.run kq)) := ⟨_, rfl⟩
                    have HSQ := Lib.hid hsq
                    have HS3 := Lib.hid hs3
                    have hbx : Bk w3 wf.heap.size 39 #[.int .u8 (y.do_ : Int), .int .u64 (y.e : Int), .slice B2 y.l.length c3] := bk_out' HKB.out hg3.1 HNZ.out
                    have HBX : Hid (∀ V, Below w3.heap.size w3 V → V.cell? ⟨wf.heap.size, 0, none⟩ = some (.int .u8 (y.do_ : Int)) ∧ V.cell? ⟨wf.heap.size, 1, none⟩ = some (.int .u64 (y.e : Int)) ∧ V.cell? ⟨wf.heap.size, 2, none⟩ = some (.slice B2 y.l.length c3)) := fun V hV => ⟨(hbx.below hV).cell 0, (hbx.below hV).cell 1, (hbx.below hV).cell 2⟩
                    have HK1 : Hid (∀ V, Below w3.heap.size w3 V → Calls Tryz.prog 21 #[.pointer (some ⟨gs, 0, none⟩)] V (KeptPost kq V)) := fun V hV => (HS3.out.below_ hV).kept
                    have HAF : Hid (∀ V A1 c1, Below w3.heap.size w3 V → LnS (fun _ => True) V A1 kq.lines.length kq.lines → Calls Tryz.prog 20 #[.string sp, .agg #[.int .u64 (kq.promised : Int), .int .u64 (kq.current : Int), .slice A1 kq.lines.length c1], .agg #[.int .u8 (y.do_ : Int), .int .u64 (y.e : Int), .slice B2 y.l.length c3]] V fun e V' => e = .returned (.string sq) ∧ Below V.heap.size V V') := fun V A1 c1 hV hln => by
                      have := after_any (textK kq) kq A1 c1 y B2 c3 hln (HAC.out V (HS3.out.below_ hV).below).2.2.2 hf HOK.out HLD.out.2.2 (by have := HLD.out.1; omega)
                      rw [HKR.out, ← HSP.out, ← HSQ.out] at this
                      exact this
                    have HP3 := Lib.hid (hp3.trans HDP.out)
                    have HR3 := Lib.hid hr3
                    have HRS := Lib.hid hrest
                    clear hsq hs3 hbx hf hg3 hp3 hr3 hrest hm hfit HSB HKR HKB HNZ HDP hd
                    go_wp2_with fail
                    refine wp_region_free (RL gs sp sq kq y B2 c3) (by kernel_rfl) (by kernel_rfl) (by kernel_rfl) ?_ ?_ (fun v => { tmps := #[Value.int IntKind.i64 ↑n, Value.slice (some ⟨b, o, none⟩) j c, undef, undef, u4, Value.int IntKind.i64 ↑j, Value.pointer (some ⟨gd, 0, none⟩), Value.int IntKind.i64 0, Value.pointer (some ⟨gs, 0, none⟩), Value.int IntKind.i64 0, Value.int IntKind.i64 ↑i, Value.string sp, v 5, Value.int IntKind.i64 ↑q, Value.pointer (some ⟨wf.heap.size, 0, none⟩), Value.int IntKind.i64 9, u16, u17, u18, u19, Value.int IntKind.i64 ↑n, Value.bool false, Value.bool false, Value.int IntKind.i64 ↑n, Value.bool false, Value.bool false, Value.bool false, Value.slice (some ⟨b, o, none⟩) j c, Value.int IntKind.i64 ↑j, Value.bool false, Value.bool false, Value.int IntKind.i64 ↑j, Value.slice (some ⟨b, o, none⟩) j c, Value.int IntKind.i64 ↑j, Value.bool false, u35, u36, u37, u38, u39, u40, u41, u42, u43, u44, u45, u46, u47, u48, u49, u50, u51, Value.tuple #[Value.pointer (some ⟨gd, 0, none⟩), Value.int IntKind.i64 0], Value.int IntKind.i64 ↑n, Value.tuple #[Value.pointer (some ⟨gd, 0, none⟩), Value.int IntKind.i64 0], Value.pointer (some ⟨gd, 0, none⟩), Value.int IntKind.i64 0, Value.tuple #[Value.pointer (some ⟨gs0, 0, none⟩), Value.int IntKind.i64 0], Value.pointer (some ⟨gd, 0, none⟩), Value.tuple #[Value.pointer (some ⟨gs0, 0, none⟩), Value.int IntKind.i64 0], Value.pointer (some ⟨gs0, 0, none⟩), Value.int IntKind.i64 0, Value.int IntKind.i64 0, Value.bool false, Value.bool false, Value.pointer (some ⟨gs0, 0, none⟩), Value.bool false, Value.bool false, Value.int IntKind.i64 ↑i, Value.slice (some ⟨b, o, none⟩) j c, Value.int IntKind.i64 ↑j, Value.bool true, u72, u73, Value.pointer (some ⟨gs, 0, none⟩), Value.string sp0, Value.string sp0, Value.int IntKind.i64 ↑q, Value.slice (some ⟨b, o, none⟩) j c, Value.int IntKind.i64 ↑i, Value.pointer (some ⟨b, o + i * 3, none⟩), Value.pointer (some ⟨b, o + i * 3, none⟩), Value.slice (some ⟨b2, o2, none⟩) ma ca, Value.int IntKind.i64 ↑ma, Value.bool true, u85, u86, Value.int IntKind.i64 ↑q, Value.slice (some ⟨b, o, none⟩) j c, Value.int IntKind.i64 ↑i, Value.pointer (some ⟨b, o + i * 3, none⟩), Value.pointer (some ⟨b, o + i * 3, none⟩), Value.slice (some ⟨b2, o2, none⟩) ma ca, Value.int IntKind.i64 ↑ma, Value.int IntKind.i64 (↑ma - 1), Value.bool true, Value.pointer (some ⟨gd, 0, none⟩), Value.slice (some ⟨b, o, none⟩) j c, Value.int IntKind.i64 ↑i, Value.pointer (some ⟨b, o + i * 3, none⟩), Value.pointer (some ⟨b, o + i * 3 + 1, none⟩), Value.int IntKind.i64 x.fuse, Value.tuple #[], Value.slice (some ⟨b, o, none⟩) j c, Value.int IntKind.i64 ↑i, Value.pointer (some ⟨b, o + i * 3, none⟩), Value.pointer (some ⟨b, o + i * 3, none⟩), Value.slice (some ⟨b2, o2, none⟩) ma ca, Value.int IntKind.i64 ↑q, Value.pointer (some ⟨b2, o2 + q * 3, none⟩), Value.agg #[Value.int IntKind.u8 ↑y.do_, Value.int IntKind.u64 ↑y.e, Value.slice B2 y.l.length c3], Value.pointer (some ⟨gs, 0, none⟩), Value.agg #[Value.int IntKind.u8 ↑y.do_, Value.int IntKind.u64 ↑y.e, Value.slice B2 y.l.length c3], Value.int IntKind.i64 9, Value.int IntKind.i64 9, Value.bool false, u116, u117, u118, Value.int IntKind.i64 9, Value.bool true, v 0, v 1, v 2, v 3, v 4, u126, u127, u128, u129, u130, u131, u132, u133, u134, u135, u136, u137, u138, u139, u140, u141, u142, u143, u144, u145, u146, u147, u148, u149, u150, u151, u152, u153, u154, u155, u156, u157, u158, u159, u160, u161, u162, u163, u164, u165, u166, u167, u168, u169, u170, u171, u172, u173, u174, u175, u176, u177, u178, u179, u180, u181, u182, u183, u184, u185, u186, u187, u188, u189, u190, u191, u192, u193, u194, u195, undef], defers := [] }) (fun v => by kernel_rfl) ?_
                    · intro k x W W' hx h1 h2
                      exact RL.below _ _ _ _ hx h2
                    · refine stepsL_cons ?_ (stepsL_cons ?_ (stepsL_cons ?_ (stepsL_cons ?_ (stepsL_cons ?_ (stepsL_cons ?_ (stepsL_nil))))))
                      · intro a v W hd hb K hK
                        have k11 : a.tmps.getD 11 undef = .string sp := hd.kept 11 (by kernel_rfl)
                        have hk := hK (.string sp) W (Below.refl _ _) rfl
                        clear hK
                        unfold Oper.wp
                        go_simp
                        exact hk
                      · intro a v W hd hb K hK
                        have k8 : a.tmps.getD 8 undef = .pointer (some ⟨gs, 0, none⟩) := hd.kept 8 (by kernel_rfl)
                        have hk := hK (.pointer (some ⟨gs, 0, none⟩)) W (Below.refl _ _) rfl
                        clear hK
                        unfold Oper.wp
                        go_simp
                        exact hk
                      · intro a v W hd hb K hK
                        obtain ⟨h122, r122⟩ := hd.done_ 1 _ 122 (by kernel_rfl) rfl rfl
                        have r122 : v 1 = .pointer (some ⟨gs, 0, none⟩) := r122
                        rw [r122] at h122
                        have ck := HK1.out W hb
                        have hk := hK
                        clear hK
                        unfold Oper.wp
                        go_simp
                        refine ck.mono ?_
                        rintro e W' ⟨A1, c1, rfl, hown, hbw⟩
                        exact hk _ W' hbw ⟨A1, c1, rfl, hown.lns.mono fun _ _ => trivial⟩
                      · intro a v W hd hb K hK
                        have k14 : a.tmps.getD 14 undef = .pointer (some ⟨wf.heap.size, 0, none⟩) := hd.kept 14 (by kernel_rfl)
                        obtain ⟨m0, m1, m2⟩ := HBX.out W hb
                        have hk := hK (.agg #[.int .u8 (y.do_ : Int), .int .u64 (y.e : Int), .slice B2 y.l.length c3]) W (Below.refl _ _) rfl
                        clear hK
                        unfold Oper.wp
                        go_simp
                        exact hk
                      · intro a v W hd hb K hK
                        obtain ⟨h121, r121⟩ := hd.done_ 0 _ 121 (by kernel_rfl) rfl rfl
                        have r121 : v 0 = .string sp := r121
                        rw [r121] at h121
                        obtain ⟨h124, r124⟩ := hd.done_ 3 _ 124 (by kernel_rfl) rfl rfl
                        have r124 : v 3 = .agg #[.int .u8 (y.do_ : Int), .int .u64 (y.e : Int), .slice B2 y.l.length c3] := r124
                        rw [r124] at h124
                        obtain ⟨h123, r123⟩ := hd.done_ 2 _ 123 (by kernel_rfl) rfl rfl
                        obtain ⟨A1, c1, e1, hln⟩ := r123
                        rw [e1] at h123
                        have ca := HAF.out W A1 c1 hb hln
                        have hk := hK
                        clear hK
                        unfold kpV at h123
                        unfold Oper.wp
                        go_simp
                        refine ca.mono ?_
                        rintro e W' ⟨rfl, hbw⟩
                        exact hk _ W' hbw rfl
                      · intro a v W hd hb K hK
                        obtain ⟨h125, r125⟩ := hd.done_ 4 _ 125 (by kernel_rfl) rfl rfl
                        have r125 : v 4 = .string sq := r125
                        rw [r125] at h125
                        have hk := hK (.string sq) W (Below.refl _ _) rfl
                        clear hK
                        unfold Oper.wp
                        go_simp
                        exact hk
                    · intro v w4 hb4 hv
                      have hv5 : v 5 = .string sq := hv 5 (by decide)
                      have HS4 := Lib.hid (HS3.out.below_ hb4)
                      rw [hv5]
                      clear hv hv5 hb4 HS3 HBX HK1 HAF
                      have CDD := Lib.hid HS4.out.disk_dead
                      have CSD := Lib.hid HS4.out.dead
                      have CPR := Lib.hid (HS4.out.promise 140737488355328 (by decide))
                      go_wp2_with fail
                      refine CDD.out.mono ?_
                      rintro e w5 ⟨rfl, rfl⟩
                      go_wp2_with fail
                      refine CSD.out.mono ?_
                      rintro e w5 ⟨rfl, rfl⟩
                      go_wp2_with fail
                      refine CPR.out.mono ?_
                      rintro e w5 ⟨rfl, Z5, hs5, -⟩
                      obtain ⟨Xt, ht⟩ := hs5.td HP3.out HR3.out (k2 := D.run kq) (N := 600 * (i + 1)) (fun fates => (HRS.out fates).mono (by unfold upTo; omega) fun _ q => q)
                      have HT := Lib.hid ht
                      clear hs5 ht CDD CSD CPR HS4 HRS
                      have CK := Lib.hid HT.out.kill
                      clear HT
                      go_wp2_with fail
                      refine CK.out.mono ?_
                      rintro e wk ⟨rfl, Xk, hk⟩
                      obtain ⟨-, -, c2⟩ := HC.out _ hk.below
                      have CR := Lib.hid (hk.restart F kf df x.fates (HRA.out.below hk.below).fates (fun h0 a ha hx => by have := HRA.out.there h0 a ha; have := hk.own _ hx; omega) (by omega))
                      clear hk CK
                      go_wp2_with fail
                      refine CR.out.mono ?_
                      rintro e wl ⟨rfl, Xl, kz, hkz, hd⟩
                      have CO := Lib.hid (hd.open_ (by omega))
                      have HKZ := Lib.hid hkz
                      clear hd hkz CR
                      go_wp2_with fail
                      refine CO.out.mono ?_
                      rintro e wx ⟨gx, Zx, rfl, hsx, -, -, -⟩
                      have HSX := Lib.hid hsx
                      obtain ⟨Xy, hdy, -⟩ := hsx.disk
                      have CO2 := Lib.hid (hdy.open_ (by omega))
                      clear hsx hdy CO
                      go_wp2_with fail
                      refine CO2.out.mono ?_
                      rintro e wy ⟨gy, Zy, rfl, hsy, hby, -, -⟩
                      have HSX2 := Lib.hid (HSX.out.below_ hby)
                      obtain ⟨sz, hsz⟩ : ∃ sz, sz = S (textK kz) := ⟨_, rfl⟩
                      have HSZ := Lib.hid hsz
                      have CTX0 := text_any HSX2.out.kept HSX2.out.fine
                      rw [← hsz] at CTX0
                      have CTX := Lib.hid CTX0
                      have HSY := Lib.hid hsy
                      clear hsy hby HSX CO2 hsz CTX0
                      go_wp2_with fail
                      refine CTX.out.mono ?_
                      rintro e wz ⟨rfl, hb⟩
                      have HSX3 := Lib.hid (HSX2.out.below_ hb)
                      have CTY0 := text_any (HSY.out.below_ hb).kept HSY.out.fine
                      rw [← HSZ.out] at CTY0
                      have CTY := Lib.hid CTY0
                      clear hb CTX HSX2 HSY CTY0
                      go_wp2_with fail
                      refine CTY.out.mono ?_
                      rintro e wa ⟨rfl, hb⟩
                      have HSX4 := Lib.hid (HSX3.out.below_ hb)
                      have CTX0 := text_any HSX4.out.kept HSX4.out.fine
                      rw [← HSZ.out] at CTX0
                      have CTX := Lib.hid CTX0
                      clear hb CTY HSX3 CTX0
                      go_wp2_with fail
                      refine CTX.out.mono ?_
                      rintro e wb ⟨rfl, hb⟩
                      have HSX5 := Lib.hid (HSX4.out.below_ hb)
                      clear hb CTX HSX4
                      by_cases hez : sz = sp
                      · subst hez
                        have HFIN : Hid (RelO w gd n (.pointer (some ⟨gx, 0, none⟩)) (.int .i64 ((i + 1 : Nat) : Int)) wb) := ⟨i + 1, gx, Zx, kz, rfl, rfl, by omega, HSX5.out⟩
                        clear HSX5
                        go_wp2_with fail
                        exact ⟨HFIN.out, by simp [intOf]; omega⟩
                      · have hez2 : sz = sq := by
                          rcases HKZ.out with q | q
                          · exact absurd (by rw [HSZ.out, q, HSP.out]) hez
                          · rw [HSZ.out, q, HSQ.out]
                        have hne : (sz.toList == sp.toList) = false := by
                          rw [HSZ.out, HSP.out, S_list', S_list']
                          have : textK kz ≠ textK kq := fun e => hez (by rw [HSZ.out, HSP.out, e])
                          simpa using this
                        subst hez2
                        have CTX0 := text_any HSX5.out.kept HSX5.out.fine
                        rw [← HSZ.out] at CTX0
                        have CTX := Lib.hid CTX0
                        clear CTX0
                        go_wp2_with fail
                        refine CTX.out.mono ?_
                        rintro e wc ⟨rfl, hb⟩
                        have HFIN : Hid (RelO w gd n (.pointer (some ⟨gx, 0, none⟩)) (.int .i64 ((i + 1 : Nat) : Int)) wc) := ⟨i + 1, gx, Zx, kz, rfl, rfl, by omega, HSX5.out.below_ hb⟩
                        clear HSX5 hb CTX
                        go_wp2_with fail
                        exact ⟨HFIN.out, by simp [intOf]; omega⟩
              · have hl1 : ((q : Int) == (ma : Int) - 1) = false := beq_eq_false_iff_ne.2 (by omega)
                obtain ⟨c0, -, -⟩ := HC.out _ HS.out.below
                obtain ⟨a0, a1, a2, hls⟩ := HAC.out _ HS.out.below
                obtain ⟨WB, hWB⟩ : ∃ WB, WB = (wr).alloc (.cells #[.int .u8 (y.do_ : Int), .int .u64 (y.e : Int), .slice B2 y.l.length c3] 39) := ⟨_, rfl⟩
                have hbw : Below (wr).heap.size (wr) WB := by rw [hWB]; exact (Below.refl _ _).alloc (Nat.le_refl _) _
                have HKB : Hid (Bk WB (wr).heap.size 39 #[.int .u8 (y.do_ : Int), .int .u64 (y.e : Int), .slice B2 y.l.length c3]) := by show Bk _ _ _ _; rw [hWB]; exact Bk.new _ _ _
                have HSB := Lib.hid (HS.out.below_ hbw)
                have hown := HS.out.own
                have hlt := HS.out.lt
                have hsz := HS.out.below.size
                have HNZ : Hid (¬ Zq (wr).heap.size) := fun hz => by have := hlt _ hz; omega
                have CD := Lib.hid (does_any HSB.out (by omega) y HOK.out HLD.out.2.2 B2 c3 (hls.below hbw) (fun b hb => ⟨fun hz => by have := hown b hz; omega, Nat.lt_of_lt_of_le hb HSB.out.below.size⟩))
                have HWB := Lib.hid hWB
                clear hWB hbw hls hown hlt hsz HS
                go_wp2_with fail
                rw [← HWB.out]
                refine CD.out.mono ?_
                rintro e w3 hact
                clear CD
                rcases hact with ⟨hd, rfl, hb3⟩ | ⟨D, v, hd, rfl, Z3, hg3, hres⟩
                · have HS3 := Lib.hid (HSB.out.below_ hb3)
                  clear HSB hb3
                  obtain ⟨sk, hsk⟩ : ∃ sk, sk = S (textK (kq)) := ⟨_, rfl⟩
                  have HSK := Lib.hid hsk
                  have CT0 := text_any HS3.out.kept HS3.out.fine
                  rw [← hsk] at CT0
                  have CT := Lib.hid CT0
                  clear CT0 hsk
                  go_wp2_with fail
                  refine CT.out.mono ?_
                  rintro e w4 ⟨rfl, hb⟩
                  have HS4 := Lib.hid (HS3.out.below_ hb)
                  have CT0 := text_any HS4.out.kept HS4.out.fine
                  rw [← HSK.out] at CT0
                  clear hb CT HS3
                  have CT := Lib.hid CT0
                  clear CT0
                  go_wp2_with fail
                  refine CT.out.mono ?_
                  rintro e w5 ⟨rfl, hb⟩
                  have HF : Hid (RelI w gs gd n (600 * i) ma (.string sk) (.string sk) (.int .i64 ((q + 1 : Nat) : Int)) w5) := ⟨q + 1, _, _, _, rfl, by omega, by rw [HSK.out], by rw [HSK.out], HDP.out, (HS4.out.below_ hb).mono (by omega)⟩
                  clear hb CT HS4
                  go_wp2_with fail
                  exact ⟨HF.out, by simp [intOf]; omega⟩
                · rcases hres with ⟨rfl, _, hs3⟩ | ⟨rfl, _, _, hs3⟩ | ⟨rfl, hm, hfit, d3, hs3, hp3, _⟩ | ⟨rfl, hm, hfit, _, d3, hs3, hp3, hr3, hrest⟩
                  · have HS3 := Lib.hid hs3
                    clear hs3 HSB hg3
                    have CT0 := text_any HS3.out.kept HS3.out.fine
                    rw [← HSP.out] at CT0
                    have CT := Lib.hid CT0
                    clear CT0
                    go_wp2_with fail
                    refine CT.out.mono ?_
                    rintro e w4 ⟨rfl, hb⟩
                    have HF : Hid (RelI w gs gd n (600 * i) ma (.string sp) (.string sp) (.int .i64 ((q + 1 : Nat) : Int)) w4) := ⟨q + 1, _, _, _, rfl, by omega, by rw [HSP.out], by rw [HSP.out], HDP.out, (HS3.out.below_ hb).mono (by omega)⟩
                    clear hb CT HS3
                    go_wp2_with fail
                    exact ⟨HF.out, by simp [intOf]; omega⟩
                  · have HS3 := Lib.hid hs3
                    clear hs3 HSB hg3
                    have CT0 := text_any HS3.out.kept HS3.out.fine
                    rw [← HSP.out] at CT0
                    have CT := Lib.hid CT0
                    clear CT0
                    go_wp2_with fail
                    refine CT.out.mono ?_
                    rintro e w4 ⟨rfl, hb⟩
                    have HF : Hid (RelI w gs gd n (600 * i) ma (.string sp) (.string sp) (.int .i64 ((q + 1 : Nat) : Int)) w4) := ⟨q + 1, _, _, _, rfl, by omega, by rw [HSP.out], by rw [HSP.out], HDP.out, (HS3.out.below_ hb).mono (by omega)⟩
                    clear hb CT HS3
                    go_wp2_with fail
                    exact ⟨HF.out, by simp [intOf]; omega⟩
                  · have HS3 := Lib.hid hs3
                    have HP3 := Lib.hid (hp3.trans HDP.out)
                    clear hs3 HSB hg3 hp3
                    obtain ⟨sk, hsk⟩ : ∃ sk, sk = S (textK (D.run kq)) := ⟨_, rfl⟩
                    have HSK := Lib.hid hsk
                    have CT0 := text_any HS3.out.kept HS3.out.fine
                    rw [← hsk] at CT0
                    have CT := Lib.hid CT0
                    clear CT0 hsk
                    go_wp2_with fail
                    refine CT.out.mono ?_
                    rintro e w4 ⟨rfl, hb⟩
                    have HS4 := Lib.hid (HS3.out.below_ hb)
                    have CT0 := text_any HS4.out.kept HS4.out.fine
                    rw [← HSK.out] at CT0
                    clear hb CT HS3
                    have CT := Lib.hid CT0
                    clear CT0
                    go_wp2_with fail
                    refine CT.out.mono ?_
                    rintro e w5 ⟨rfl, hb⟩
                    have HF : Hid (RelI w gs gd n (600 * i) ma (.string sk) (.string sk) (.int .i64 ((q + 1 : Nat) : Int)) w5) := ⟨q + 1, _, _, _, rfl, by omega, by rw [HSK.out], by rw [HSK.out], HP3.out, (HS4.out.below_ hb).mono (by omega)⟩
                    clear hb CT HS4
                    go_wp2_with fail
                    exact ⟨HF.out, by simp [intOf]; omega⟩
                  · have hf := fine_x hs3
                    have HKR : Hid (afterK (textK kq) kq y = textK (D.run kq)) := by show _ = _; unfold afterK; rw [hd]
                    obtain ⟨sq, hsq⟩ : ∃ sq, sq = S (textK (D.run kq)) := ⟨_, rfl⟩
                    have HSQ := Lib.hid hsq
                    have HS3 := Lib.hid hs3
                    have hbx : Bk w3 wr.heap.size 39 #[.int .u8 (y.do_ : Int), .int .u64 (y.e : Int), .slice B2 y.l.length c3] := bk_out' HKB.out hg3.1 HNZ.out
                    have HBX : Hid (∀ V, Below w3.heap.size w3 V → V.cell? ⟨wr.heap.size, 0, none⟩ = some (.int .u8 (y.do_ : Int)) ∧ V.cell? ⟨wr.heap.size, 1, none⟩ = some (.int .u64 (y.e : Int)) ∧ V.cell? ⟨wr.heap.size, 2, none⟩ = some (.slice B2 y.l.length c3)) := fun V hV => ⟨(hbx.below hV).cell 0, (hbx.below hV).cell 1, (hbx.below hV).cell 2⟩
                    have HK1 : Hid (∀ V, Below w3.heap.size w3 V → Calls Tryz.prog 21 #[.pointer (some ⟨gs, 0, none⟩)] V (KeptPost kq V)) := fun V hV => (HS3.out.below_ hV).kept
                    have HAF : Hid (∀ V A1 c1, Below w3.heap.size w3 V → LnS (fun _ => True) V A1 kq.lines.length kq.lines → Calls Tryz.prog 20 #[.string sp, .agg #[.int .u64 (kq.promised : Int), .int .u64 (kq.current : Int), .slice A1 kq.lines.length c1], .agg #[.int .u8 (y.do_ : Int), .int .u64 (y.e : Int), .slice B2 y.l.length c3]] V fun e V' => e = .returned (.string sq) ∧ Below V.heap.size V V') := fun V A1 c1 hV hln => by
                      have := after_any (textK kq) kq A1 c1 y B2 c3 hln (HAC.out V (HS3.out.below_ hV).below).2.2.2 hf HOK.out HLD.out.2.2 (by have := HLD.out.1; omega)
                      rw [HKR.out, ← HSP.out, ← HSQ.out] at this
                      exact this
                    have HP3 := Lib.hid (hp3.trans HDP.out)
                    have HR3 := Lib.hid hr3
                    have HRS := Lib.hid hrest
                    clear hsq hs3 hbx hf hg3 hp3 hr3 hrest hm hfit HSB HKR HKB HNZ HDP hd
                    go_wp2_with fail
                    refine wp_region_free (RL gs sp sq kq y B2 c3) (by kernel_rfl) (by kernel_rfl) (by kernel_rfl) ?_ ?_ (fun v => { tmps := #[Value.int IntKind.i64 ↑n, Value.slice (some ⟨b, o, none⟩) j c, undef, undef, u4, Value.int IntKind.i64 ↑j, Value.pointer (some ⟨gd, 0, none⟩), Value.int IntKind.i64 0, Value.pointer (some ⟨gs, 0, none⟩), Value.int IntKind.i64 0, Value.int IntKind.i64 ↑i, Value.string sp, v 5, Value.int IntKind.i64 ↑q, Value.pointer (some ⟨wr.heap.size, 0, none⟩), Value.int IntKind.i64 9, u16, u17, u18, u19, Value.int IntKind.i64 ↑n, Value.bool false, Value.bool false, Value.int IntKind.i64 ↑n, Value.bool false, Value.bool false, Value.bool false, Value.slice (some ⟨b, o, none⟩) j c, Value.int IntKind.i64 ↑j, Value.bool false, Value.bool false, Value.int IntKind.i64 ↑j, Value.slice (some ⟨b, o, none⟩) j c, Value.int IntKind.i64 ↑j, Value.bool false, u35, u36, u37, u38, u39, u40, u41, u42, u43, u44, u45, u46, u47, u48, u49, u50, u51, Value.tuple #[Value.pointer (some ⟨gd, 0, none⟩), Value.int IntKind.i64 0], Value.int IntKind.i64 ↑n, Value.tuple #[Value.pointer (some ⟨gd, 0, none⟩), Value.int IntKind.i64 0], Value.pointer (some ⟨gd, 0, none⟩), Value.int IntKind.i64 0, Value.tuple #[Value.pointer (some ⟨gs0, 0, none⟩), Value.int IntKind.i64 0], Value.pointer (some ⟨gd, 0, none⟩), Value.tuple #[Value.pointer (some ⟨gs0, 0, none⟩), Value.int IntKind.i64 0], Value.pointer (some ⟨gs0, 0, none⟩), Value.int IntKind.i64 0, Value.int IntKind.i64 0, Value.bool false, Value.bool false, Value.pointer (some ⟨gs0, 0, none⟩), Value.bool false, Value.bool false, Value.int IntKind.i64 ↑i, Value.slice (some ⟨b, o, none⟩) j c, Value.int IntKind.i64 ↑j, Value.bool true, u72, u73, Value.pointer (some ⟨gs, 0, none⟩), Value.string sp0, Value.string sp0, Value.int IntKind.i64 ↑q, Value.slice (some ⟨b, o, none⟩) j c, Value.int IntKind.i64 ↑i, Value.pointer (some ⟨b, o + i * 3, none⟩), Value.pointer (some ⟨b, o + i * 3, none⟩), Value.slice (some ⟨b2, o2, none⟩) ma ca, Value.int IntKind.i64 ↑ma, Value.bool true, u85, u86, Value.int IntKind.i64 ↑q, Value.slice (some ⟨b, o, none⟩) j c, Value.int IntKind.i64 ↑i, Value.pointer (some ⟨b, o + i * 3, none⟩), Value.pointer (some ⟨b, o + i * 3, none⟩), Value.slice (some ⟨b2, o2, none⟩) ma ca, Value.int IntKind.i64 ↑ma, Value.int IntKind.i64 (↑ma - 1), Value.bool false, u96, u97, u98, u99, u100, u101, u102, Value.slice (some ⟨b, o, none⟩) j c, Value.int IntKind.i64 ↑i, Value.pointer (some ⟨b, o + i * 3, none⟩), Value.pointer (some ⟨b, o + i * 3, none⟩), Value.slice (some ⟨b2, o2, none⟩) ma ca, Value.int IntKind.i64 ↑q, Value.pointer (some ⟨b2, o2 + q * 3, none⟩), Value.agg #[Value.int IntKind.u8 ↑y.do_, Value.int IntKind.u64 ↑y.e, Value.slice B2 y.l.length c3], Value.pointer (some ⟨gs, 0, none⟩), Value.agg #[Value.int IntKind.u8 ↑y.do_, Value.int IntKind.u64 ↑y.e, Value.slice B2 y.l.length c3], Value.int IntKind.i64 9, Value.int IntKind.i64 9, Value.bool false, u116, u117, u118, Value.int IntKind.i64 9, Value.bool true, v 0, v 1, v 2, v 3, v 4, u126, u127, u128, u129, u130, u131, u132, u133, u134, u135, u136, u137, u138, u139, u140, u141, u142, u143, u144, u145, u146, u147, u148, u149, u150, u151, u152, u153, u154, u155, u156, u157, u158, u159, u160, u161, u162, u163, u164, u165, u166, u167, u168, u169, u170, u171, u172, u173, u174, u175, u176, u177, u178, u179, u180, u181, u182, u183, u184, u185, u186, u187, u188, u189, u190, u191, u192, u193, u194, u195, undef], defers := [] }) (fun v => by kernel_rfl) ?_
                    · intro k x W W' hx h1 h2
                      exact RL.below _ _ _ _ hx h2
                    · refine stepsL_cons ?_ (stepsL_cons ?_ (stepsL_cons ?_ (stepsL_cons ?_ (stepsL_cons ?_ (stepsL_cons ?_ (stepsL_nil))))))
                      · intro a v W hd hb K hK
                        have k11 : a.tmps.getD 11 undef = .string sp := hd.kept 11 (by kernel_rfl)
                        have hk := hK (.string sp) W (Below.refl _ _) rfl
                        clear hK
                        unfold Oper.wp
                        go_simp
                        exact hk
                      · intro a v W hd hb K hK
                        have k8 : a.tmps.getD 8 undef = .pointer (some ⟨gs, 0, none⟩) := hd.kept 8 (by kernel_rfl)
                        have hk := hK (.pointer (some ⟨gs, 0, none⟩)) W (Below.refl _ _) rfl
                        clear hK
                        unfold Oper.wp
                        go_simp
                        exact hk
                      · intro a v W hd hb K hK
                        obtain ⟨h122, r122⟩ := hd.done_ 1 _ 122 (by kernel_rfl) rfl rfl
                        have r122 : v 1 = .pointer (some ⟨gs, 0, none⟩) := r122
                        rw [r122] at h122
                        have ck := HK1.out W hb
                        have hk := hK
                        clear hK
                        unfold Oper.wp
                        go_simp
                        refine ck.mono ?_
                        rintro e W' ⟨A1, c1, rfl, hown, hbw⟩
                        exact hk _ W' hbw ⟨A1, c1, rfl, hown.lns.mono fun _ _ => trivial⟩
                      · intro a v W hd hb K hK
                        have k14 : a.tmps.getD 14 undef = .pointer (some ⟨wr.heap.size, 0, none⟩) := hd.kept 14 (by kernel_rfl)
                        obtain ⟨m0, m1, m2⟩ := HBX.out W hb
                        have hk := hK (.agg #[.int .u8 (y.do_ : Int), .int .u64 (y.e : Int), .slice B2 y.l.length c3]) W (Below.refl _ _) rfl
                        clear hK
                        unfold Oper.wp
                        go_simp
                        exact hk
                      · intro a v W hd hb K hK
                        obtain ⟨h121, r121⟩ := hd.done_ 0 _ 121 (by kernel_rfl) rfl rfl
                        have r121 : v 0 = .string sp := r121
                        rw [r121] at h121
                        obtain ⟨h124, r124⟩ := hd.done_ 3 _ 124 (by kernel_rfl) rfl rfl
                        have r124 : v 3 = .agg #[.int .u8 (y.do_ : Int), .int .u64 (y.e : Int), .slice B2 y.l.length c3] := r124
                        rw [r124] at h124
                        obtain ⟨h123, r123⟩ := hd.done_ 2 _ 123 (by kernel_rfl) rfl rfl
                        obtain ⟨A1, c1, e1, hln⟩ := r123
                        rw [e1] at h123
                        have ca := HAF.out W A1 c1 hb hln
                        have hk := hK
                        clear hK
                        unfold kpV at h123
                        unfold Oper.wp
                        go_simp
                        refine ca.mono ?_
                        rintro e W' ⟨rfl, hbw⟩
                        exact hk _ W' hbw rfl
                      · intro a v W hd hb K hK
                        obtain ⟨h125, r125⟩ := hd.done_ 4 _ 125 (by kernel_rfl) rfl rfl
                        have r125 : v 4 = .string sq := r125
                        rw [r125] at h125
                        have hk := hK (.string sq) W (Below.refl _ _) rfl
                        clear hK
                        unfold Oper.wp
                        go_simp
                        exact hk
                    · intro v w4 hb4 hv
                      have hv5 : v 5 = .string sq := hv 5 (by decide)
                      have HS4 := Lib.hid (HS3.out.below_ hb4)
                      rw [hv5]
                      clear hv hv5 hb4 HS3 HBX HK1 HAF
                      have CDD := Lib.hid HS4.out.disk_dead
                      have CSD := Lib.hid HS4.out.dead
                      have CPR := Lib.hid (HS4.out.promise 140737488355328 (by decide))
                      go_wp2_with fail
                      refine CDD.out.mono ?_
                      rintro e w5 ⟨rfl, rfl⟩
                      go_wp2_with fail
                      refine CSD.out.mono ?_
                      rintro e w5 ⟨rfl, rfl⟩
                      go_wp2_with fail
                      refine CPR.out.mono ?_
                      rintro e w5 ⟨rfl, Z5, hs5, -⟩
                      obtain ⟨Xt, ht⟩ := hs5.td HP3.out HR3.out (k2 := D.run kq) (N := 600 * (i + 1)) (fun fates => (HRS.out fates).mono (by unfold upTo; omega) fun _ q => q)
                      have HT := Lib.hid ht
                      clear hs5 ht CDD CSD CPR HS4 HRS
                      have CK := Lib.hid HT.out.kill
                      clear HT
                      go_wp2_with fail
                      refine CK.out.mono ?_
                      rintro e wk ⟨rfl, Xk, hk⟩
                      obtain ⟨-, -, c2⟩ := HC.out _ hk.below
                      have CR := Lib.hid (hk.restart F kf df x.fates (HRA.out.below hk.below).fates (fun h0 a ha hx => by have := HRA.out.there h0 a ha; have := hk.own _ hx; omega) (by omega))
                      clear hk CK
                      go_wp2_with fail
                      refine CR.out.mono ?_
                      rintro e wl ⟨rfl, Xl, kz, hkz, hd⟩
                      have CO := Lib.hid (hd.open_ (by omega))
                      have HKZ := Lib.hid hkz
                      clear hd hkz CR
                      go_wp2_with fail
                      refine CO.out.mono ?_
                      rintro e wx ⟨gx, Zx, rfl, hsx, -, -, -⟩
                      have HSX := Lib.hid hsx
                      obtain ⟨Xy, hdy, -⟩ := hsx.disk
                      have CO2 := Lib.hid (hdy.open_ (by omega))
                      clear hsx hdy CO
                      go_wp2_with fail
                      refine CO2.out.mono ?_
                      rintro e wy ⟨gy, Zy, rfl, hsy, hby, -, -⟩
                      have HSX2 := Lib.hid (HSX.out.below_ hby)
                      obtain ⟨sz, hsz⟩ : ∃ sz, sz = S (textK kz) := ⟨_, rfl⟩
                      have HSZ := Lib.hid hsz
                      have CTX0 := text_any HSX2.out.kept HSX2.out.fine
                      rw [← hsz] at CTX0
                      have CTX := Lib.hid CTX0
                      have HSY := Lib.hid hsy
                      clear hsy hby HSX CO2 hsz CTX0
                      go_wp2_with fail
                      refine CTX.out.mono ?_
                      rintro e wz ⟨rfl, hb⟩
                      have HSX3 := Lib.hid (HSX2.out.below_ hb)
                      have CTY0 := text_any (HSY.out.below_ hb).kept HSY.out.fine
                      rw [← HSZ.out] at CTY0
                      have CTY := Lib.hid CTY0
                      clear hb CTX HSX2 HSY CTY0
                      go_wp2_with fail
                      refine CTY.out.mono ?_
                      rintro e wa ⟨rfl, hb⟩
                      have HSX4 := Lib.hid (HSX3.out.below_ hb)
                      have CTX0 := text_any HSX4.out.kept HSX4.out.fine
                      rw [← HSZ.out] at CTX0
                      have CTX := Lib.hid CTX0
                      clear hb CTY HSX3 CTX0
                      go_wp2_with fail
                      refine CTX.out.mono ?_
                      rintro e wb ⟨rfl, hb⟩
                      have HSX5 := Lib.hid (HSX4.out.below_ hb)
                      clear hb CTX HSX4
                      by_cases hez : sz = sp
                      · subst hez
                        have HFIN : Hid (RelO w gd n (.pointer (some ⟨gx, 0, none⟩)) (.int .i64 ((i + 1 : Nat) : Int)) wb) := ⟨i + 1, gx, Zx, kz, rfl, rfl, by omega, HSX5.out⟩
                        clear HSX5
                        go_wp2_with fail
                        exact ⟨HFIN.out, by simp [intOf]; omega⟩
                      · have hez2 : sz = sq := by
                          rcases HKZ.out with q | q
                          · exact absurd (by rw [HSZ.out, q, HSP.out]) hez
                          · rw [HSZ.out, q, HSQ.out]
                        have hne : (sz.toList == sp.toList) = false := by
                          rw [HSZ.out, HSP.out, S_list', S_list']
                          have : textK kz ≠ textK kq := fun e => hez (by rw [HSZ.out, HSP.out, e])
                          simpa using this
                        subst hez2
                        have CTX0 := text_any HSX5.out.kept HSX5.out.fine
                        rw [← HSZ.out] at CTX0
                        have CTX := Lib.hid CTX0
                        clear CTX0
                        go_wp2_with fail
                        refine CTX.out.mono ?_
                        rintro e wc ⟨rfl, hb⟩
                        have HFIN : Hid (RelO w gd n (.pointer (some ⟨gx, 0, none⟩)) (.int .i64 ((i + 1 : Nat) : Int)) wc) := ⟨i + 1, gx, Zx, kz, rfl, rfl, by omega, HSX5.out.below_ hb⟩
                        clear HSX5 hb CTX
                        go_wp2_with fail
                        exact ⟨HFIN.out, by simp [intOf]; omega⟩
            · have hq1 : ¬ (q : Int) < (ma : Int) := by omega
              obtain ⟨c0, -, -⟩ := HC.out _ HS.out.below
              obtain ⟨Xt, ht⟩ := HS.out.td HDP.out
              have HT : Hid (Td w wr Xt gd n kq kq (600 * (i + 1))) := by
                obtain ⟨d5, t1, t2, t3, t4⟩ := ht
                exact ⟨d5, t1, t2, t3, fun fates => (t4 fates).mono (by omega) fun _ q => q⟩
              have HSQ := Lib.hid HSP.out
              clear ht HS HDP
              have CK := Lib.hid HT.out.kill
              clear HT
              go_wp2_with fail
              refine CK.out.mono ?_
              rintro e wk ⟨rfl, Xk, hk⟩
              obtain ⟨-, -, c2⟩ := HC.out _ hk.below
              have CR := Lib.hid (hk.restart F kf df x.fates (HRA.out.below hk.below).fates (fun h0 a ha hx => by have := HRA.out.there h0 a ha; have := hk.own _ hx; omega) (by omega))
              clear hk CK
              go_wp2_with fail
              refine CR.out.mono ?_
              rintro e wl ⟨rfl, Xl, kz, hkz, hd⟩
              have CO := Lib.hid (hd.open_ (by omega))
              have HKZ := Lib.hid hkz
              clear hd hkz CR
              go_wp2_with fail
              refine CO.out.mono ?_
              rintro e wx ⟨gx, Zx, rfl, hsx, -, -, -⟩
              have HSX := Lib.hid hsx
              obtain ⟨Xy, hdy, -⟩ := hsx.disk
              have CO2 := Lib.hid (hdy.open_ (by omega))
              clear hsx hdy CO
              go_wp2_with fail
              refine CO2.out.mono ?_
              rintro e wy ⟨gy, Zy, rfl, hsy, hby, -, -⟩
              have HSX2 := Lib.hid (HSX.out.below_ hby)
              obtain ⟨sz, hsz⟩ : ∃ sz, sz = S (textK kz) := ⟨_, rfl⟩
              have HSZ := Lib.hid hsz
              have CTX0 := text_any HSX2.out.kept HSX2.out.fine
              rw [← hsz] at CTX0
              have CTX := Lib.hid CTX0
              have HSY := Lib.hid hsy
              clear hsy hby HSX CO2 hsz CTX0
              go_wp2_with fail
              refine CTX.out.mono ?_
              rintro e wz ⟨rfl, hb⟩
              have HSX3 := Lib.hid (HSX2.out.below_ hb)
              have CTY0 := text_any (HSY.out.below_ hb).kept HSY.out.fine
              rw [← HSZ.out] at CTY0
              have CTY := Lib.hid CTY0
              clear hb CTX HSX2 HSY CTY0
              go_wp2_with fail
              refine CTY.out.mono ?_
              rintro e wa ⟨rfl, hb⟩
              have HSX4 := Lib.hid (HSX3.out.below_ hb)
              have CTX0 := text_any HSX4.out.kept HSX4.out.fine
              rw [← HSZ.out] at CTX0
              have CTX := Lib.hid CTX0
              clear hb CTY HSX3 CTX0
              go_wp2_with fail
              refine CTX.out.mono ?_
              rintro e wb ⟨rfl, hb⟩
              have HSX5 := Lib.hid (HSX4.out.below_ hb)
              clear hb CTX HSX4
              by_cases hez : sz = sp
              · subst hez
                have HFIN : Hid (RelO w gd n (.pointer (some ⟨gx, 0, none⟩)) (.int .i64 ((i + 1 : Nat) : Int)) wb) := ⟨i + 1, gx, Zx, kz, rfl, rfl, by omega, HSX5.out⟩
                clear HSX5
                go_wp2_with fail
                exact ⟨HFIN.out, by simp [intOf]; omega⟩
              · exact absurd (by rcases HKZ.out with q | q <;> rw [HSZ.out, q, HSP.out]) hez
        · have hi1 : ¬ (i : Int) < (j : Int) := by omega
          have HB := Lib.hid HS.out.below
          clear HS
          go_wp2_with fail
          refine (keeps_any wr).mono ?_
          rintro e w9 ⟨rfl, hb⟩
          have HB9 := Lib.hid (HB.out.trans (hb.mono HB.out.size))
          clear hb
          go_wp2_with fail
          go_ret
          exact ⟨rfl, HB9.out⟩

set_option maxRecDepth 100000 in
theorem lifted (os : Os) (started : os.Started) (H : Type) (enc : TypeId × Value → H) :
    ReturnsInHanded {} Tryz.checked os 4 .any (Rows.storeKeepsSpec.pre6 enc Tryz.prog Tryz.f4 Rows.storeKeepsRow.domain false) (Rows.storeKeepsSpec.post enc Tryz.prog Tryz.f4 false true false false) := by
  refine returnsInHanded_of_change_sized (C := Tryz.checked) own started (by kernel_rfl) Tryz.func4
    (ChangeSpec.witness6 (enc := enc) (C := Tryz.checked) false ⟨#[], #[.int .i64 0, .slice none 0 0], []⟩ 8 (by kernel_rfl) (by kernel_rfl) (by kernel_rfl) (by kernel_rfl)) ?_
  intro W base args ds gs before hval0 hW hcnd hsz _
  have hval : ∀ (j : Nat) t v, Tryz.f4.params[j]? = some t → args[j]? = some v → Value.okWide Tryz.prog W .any base t v := hval0
  have hW' := hW
  obtain ⟨p, q, hA0, hV, rfl, hfz, hnd⟩ := hW
  have hA : DataW.TrodAll enc Tryz.prog W 0 (fun _ => true) true Tryz.f4.params.toList args.toList ds p := hA0
  rw [Tryz.params4] at hA hval
  obtain ⟨v0, v1, d0, d1, p0, p1, rfl, rfl, rfl, h0, h1⟩ := trodAll_two hA
  obtain ⟨rfl, rfl⟩ := trodVars_none hV
  obtain ⟨z, rfl, _, _, _⟩ := open_int (show Tryz.prog.underlying 3 = some (.int .i64) by kernel_rfl) (hval 0 _ v0 rfl rfl) h0
  obtain ⟨A, m, c, xs, rfl, _, hl⟩ := arg_runs (hval 1 _ v1 rfl rfl) h1 (fun n hn => by have := List.all_eq_true.1 hsz _ (DataW.weights_mem_each (j := 1) (t := 45) rfl rfl n hn); simpa using this)
  refine (walk z A m c xs W hl).mono fun e W' ⟨he, hb⟩ => ?_
  subst he
  exact ⟨_, rfl, post_true laidOut (by kernel_rfl) ty_bool (by kernel_rfl) rfl hW' hb rfl⟩

theorem over : Rows.storeKeepsRow.holds Tryz.pinned (OpenSpec.ofChange Rows.storeKeepsSpec) :=
  OpenClaim.holds_of_wide 4 Tryz.f4 rfl rfl rfl rfl rfl rfl rfl ⟨rfl, rfl, rfl, rfl, rfl⟩ rfl rfl rfl rfl rfl (by kernel_rfl) Tryz.func4 (by kernel_rfl)
    (of_decide_eq_true (by kernel_rfl)) (by unfold Func.isWrapper; first | (rw [if_pos (by decide +kernel)]; kernel_rfl) | (rw [if_neg (by decide +kernel)]; exact ⟨rfl, rfl⟩))
    (fun os started H enc _ => lifted os started H enc)

theorem proved : Rows.StoreKeepsSaid :=
  over
end Go.Proofs.YtmhfhhhhbcignaaGreat.storeKeeps
