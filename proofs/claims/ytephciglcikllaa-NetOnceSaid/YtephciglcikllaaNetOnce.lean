/- NetOnce: what is taken was sent, and no more often than it was sent and doubled; what is under way, taken and dropped is all of that: for all acts the call returns true, and nothing that was there has turned. No conditions. -/
import Derived.Test.YtephciglcikllaaNetOnce0
import Derived.Test.YtephciglcikllaaNetTwo
namespace Go.Proofs.Ytephciglcikllaa.netOnce
open Go.ChangeShapes Go.WideShapes Go.ChangeAt Go.RowKit Disk Zab Sto Net

def zO : Nt := Nt.new [2, 3, 1]
/-- Behind k acts. -/
def Rel1 (W0 : World) (gz b n : Nat) (t i : Value) (wr : World) : Prop := ∃ (k : Nat) (O : Nat → Prop) (z : Nt), k ≤ n ∧ i = .int .i64 (k : Int) ∧ t = .int .i64 (z.row.length : Int) ∧ Sn W0 wr O gz z k ∧ MapC wr b z.row k ∧ ¬ O b ∧ z.row.length ≤ k
/-- Behind k letters that are left. -/
def Rel2 (W0 : World) (gz b g E N : Nat) (z : Nt) (O : Nat → Prop) (ls : List Lt) (n : Nat) (i : Value) (wr : World) : Prop := ∃ k : Nat, k ≤ n ∧ i = .int .i64 (k : Int) ∧ Sn W0 wr O gz z N ∧ MapC wr b (ls.drop k) (60 + k) ∧ LtS (fun x => g ≤ x ∧ x < E) wr (some ⟨g, 0, none⟩) n ls
theorem turned_row {z y : Nt} {x : A1} {d : Nat} (hd : d = x.do_ % 7) (h : d = 5 ∨ d = 6) (he : (z.act x).1 = y) : y.row = z.row := by
  rw [← he]
  exact done_56 (by rcases h with h | h <;> omega)
theorem key_le {x : Lt} (h : x.bs.length ≤ 2097152) : (keyB x).length ≤ 3000000 := by
  show (_ ++ x.bs).length ≤ _
  rw [List.length_append]
  show 4 + _ ≤ _
  omega
set_option maxRecDepth 100000 in
set_option maxHeartbeats 16000000 in
theorem walk (A : Option Addr) (n c : Nat) (xs : List A1) (w : World) (h : ActS (fun b => b < w.heap.size) w A n xs) (hn : n ≤ 140737488355328) (hy : ∀ x ∈ xs, x.l.bs.length ≤ 140737488355328) : Calls Try.prog 4 #[.slice A n c] w fun e w' => e = .returned (.bool true) ∧ Below w.heap.size w w' := by
  have CG0 := great_any h c hn hy
  by_cases hg : greatF xs = true
  · rw [hg] at CG0
    have CG := Lib.hid CG0
    clear CG0 h hy
    go_enter Try.func4, Try.ntmps4
    go_wp2_with fail
    refine CG.out.mono ?_
    rintro e w1 ⟨rfl, rfl⟩
    go_wp2_with fail
    go_ret
    exact ⟨rfl, Below.refl _ _⟩
  have hg : greatF xs = false := by simpa using hg
  rw [hg] at CG0
  have CG := Lib.hid CG0
  have HG := Lib.hid (great_no hg)
  have HA := Lib.hid h
  have HXL : Hid (xs.length = n) := h.len
  have hn60 : n ≤ 60 := by have := (great_no hg).1; rw [h.len] at this; exact this
  clear CG0 hg h hy
  have CN := Lib.hid (new_lit [2, 3, 1] (by decide) w)
  have HW0 : Hid (Below w.heap.size w (w.alloc (.cells (iv [2, 3, 1]).toArray 3))) := (Below.refl _ _).alloc (Nat.le_refl _) _
  obtain ⟨W0, hW0⟩ : ∃ W0, W0 = w.alloc (.cells (iv [2, 3, 1]).toArray 3) := ⟨_, rfl⟩
  rw [← hW0] at CN HW0
  have hw := hW0.symm
  clear hW0
  unfold iv at hw
  simp only [List.map_cons, List.map_nil] at hw
  go_enter Try.func4, Try.ntmps4
  go_wp2_with fail
  refine CG.out.mono ?_
  rintro e w1 ⟨rfl, rfl⟩
  clear CG
  go_wp2_with fail
  refine CN.out.mono ?_
  rintro e w2 ⟨gz, O, rfl, hs0⟩
  have HS : Hid (Sn W0 w2 O gz zO 0) := hs0
  clear hs0 CN hw
  have hmm := @run_makeMap Try.prog
  have hun := Try.underlying54
  go_wp2_with fail
  clear hmm hun
  have HI : Hid (Sn W0 (w2.alloc (.map #[] 0)) O gz zO 0 ∧ MapC (w2.alloc (.map #[] 0)) w2.heap.size zO.row 0 ∧ ¬ O w2.heap.size ∧ W0.heap.size ≤ w2.heap.size) :=
    ⟨HS.out.later ((Below.refl _ _).alloc (Nat.le_refl _) _), MapC.new w2, fun hq => by have := lt_of_O HS.out _ hq; omega, HS.out.bl.size⟩
  generalize World.alloc _ _ = W2 at *
  generalize w2.heap.size = b at *
  clear HS
  go_loopw [6, 7] (fun t i wr => Rel1 W0 gz b n t i wr) (fun _ i _ => n - (intOf i).toNat)
  case atStart => exact ⟨0, O, zO, Nat.zero_le _, rfl, rfl, HI.out.1, HI.out.2.1, HI.out.2.2.1, Nat.le_refl _⟩
  case round =>
    have HB0 := Lib.hid HI.out.2.2.2
    clear HI
    obtain ⟨k, O, z, hk, rfl, rfl, hsn, hmp, hob, hrk⟩ := hrel
    obtain ⟨r, hrz⟩ : ∃ r, r = z.row.length := ⟨_, rfl⟩
    rw [← hrz] at hrk ⊢
    by_cases hlt : k < n
    · have hxl : k < xs.length := by rw [HXL.out]; exact hlt
      have hx := List.getElem?_eq_getElem hxl
      have hbl := HG.out.2 _ (List.getElem_mem hxl)
      generalize xs[k] = x at hx hbl
      obtain ⟨bb, o, X, mx, cx, rfl, hbw, -, -, -, -, -, -, hc6, hmc, hrd, hbb, hxok⟩ := HA.out.get hx
      have HC6 := Lib.hid hc6
      have HC : Hid (∀ V, Below w1.heap.size w1 V → (V.cell? ⟨bb, o + k * 7, none⟩ = some (.int .u8 (x.do_ : Int)) ∧ V.cell? ⟨bb, o + k * 7 + 1, none⟩ = some (.int .i64 x.i) ∧ V.cell? ⟨bb, o + k * 7 + 2, none⟩ = some (.int .i64 x.l.fr.g) ∧ V.cell? ⟨bb, o + k * 7 + 3, none⟩ = some (.int .i64 x.l.fr.n) ∧ V.cell? ⟨bb, o + k * 7 + 4, none⟩ = some (.int .i64 x.l.to.g) ∧ V.cell? ⟨bb, o + k * 7 + 5, none⟩ = some (.int .i64 x.l.to.n) ∧ V.cell? ⟨bb, o + k * 7 + 6, none⟩ = some (.slice X mx cx)) ∧ Rd V X mx x.l.bs) := fun V hV => by
        obtain ⟨b', o', X', mx', cx', e0, hb', c0, c1, c2, c3, c4, c5, c6, h1, h2, -, -⟩ := HA.out.get hx
        injection e0 with e0
        injection e0 with e1 e2
        subst e1 e2
        have q := fun i v (hv : w1.cell? ⟨bb, i, none⟩ = some v) => (hV.cell (p := ⟨bb, i, none⟩) hb').trans hv
        obtain ⟨rfl, rfl, rfl⟩ : X' = X ∧ mx' = mx ∧ cx' = cx := by
          have := c6.symm.trans HC6.out
          injection this with this
          injection this with e1 e2 e3
          exact ⟨e1, e2, e3⟩
        exact ⟨⟨q _ _ c0, q _ _ c1, q _ _ c2, q _ _ c3, q _ _ c4, q _ _ c5, q _ _ c6⟩, h2.below hV⟩
      have hmx : mx ≤ 200 := by rw [← hrd.len]; exact hbl
      have HMC := Lib.hid hmc
      have HOK := Lib.hid hxok
      have HSN := Lib.hid hsn
      have HMP := Lib.hid hmp
      have HOB := Lib.hid hob
      have HRZ := Lib.hid hrz
      have HXLEN : Hid (x.l.bs.length ≤ 2097152) := by have := hbl; show _ ≤ _; omega
      have hi0 : (0 : Int) ≤ (k : Int) := by omega
      have hi1 : (k : Int) < (n : Int) := by omega
      have hr60 : r ≤ 60 := by omega
      have CL := Lib.hid (Letters_any hsn.nt)
      clear hsn hmp hob hrz hxok hrd hx hbl hxl hbw hbb hmc hc6 HC6 HA HG
      go_wp2_with fail
      refine CL.out.mono ?_
      rintro e w3 ⟨g, rfl, hgl, hlo, hb3⟩
      rw [← HRZ.out]
      have hlts := hlo.lts
      obtain ⟨E, hE⟩ : ∃ E, E = w3.heap.size := ⟨_, rfl⟩
      rw [← hE, ← HRZ.out] at hlts
      have HL3 : Hid (LtS (fun x => g ≤ x ∧ x < E) w3 (some ⟨g, 0, none⟩) r z.row) := hlts
      have hs3 := HSN.out.later hb3
      have HBW3 : Hid (Below w1.heap.size w1 w3) := HW0.out.trans (hs3.bl.mono HW0.out.size)
      have HM3 := Lib.hid (HMP.out.below hb3)
      have HG3 : Hid ((∀ b', O b' → b' < g) ∧ b < g ∧ E ≤ w3.heap.size) := ⟨fun b' hb' => by have := lt_of_O HSN.out b' hb'; omega, by have := HMP.out.lt; omega, by omega⟩
      obtain ⟨⟨c0, c1, c2, c3, c4, c5, c6⟩, hrd3⟩ := HC.out _ HBW3.out
      have CD0 := does_any hs3 (by omega) HOK.out hrd3 HMC.out (by omega)
      obtain ⟨y, p, f, he⟩ : ∃ y p f, z.act x = (y, p, f) := ⟨_, _, _, rfl⟩
      rw [he] at CD0
      have CD := Lib.hid CD0
      unfold actA at CD
      have HE := Lib.hid he
      have HZOK := Lib.hid hs3.nt.ok
      clear hgl hlo hb3 hlts hE hs3 hrd3 CD0 he HSN HMP CL
      go_wp2_with fail
      refine CD.out.mono ?_
      rintro e w4 ⟨O4, Bp, mp, cp, rfl, hmp, hrp, hbp, hs4, hg4⟩
      dsimp only at hrp hs4 ⊢
      have hbn := (Below.refl w4.heap.size w4).alloc (Nat.le_refl _) (.cells (ltA p (.slice Bp mp cp)) 37)
      have HS5 := Lib.hid (hs4.later hbn)
      have HM5 := Lib.hid ((HM3.out.out hg4.1 HOB.out).below hbn)
      have HOB5 : Hid (¬ O4 b) := fun hq => (hg4.2 b hq).elim HOB.out (fun q => by have := HM3.out.lt; omega)
      have HL5 := Lib.hid ((HL3.out.out hg4.1 fun x hx hq => by have := HG3.out.1 x hq; omega).below hbn)
      have HK5 := Lib.hid (Bk.new w4 37 (ltA p (.slice Bp mp cp)))
      have HR5 := Lib.hid (And.intro hmp (hrp.below hbn))
      have HRN : Hid (∀ a, Bp = some a → 1 ≤ mp → ¬ a.block = b) := fun a ha _ e => by have := (hbp a ha).1; have := HM3.out.lt; omega
      have HB5 : Hid (Below w1.heap.size w1 (w4.alloc (.cells (ltA p (.slice Bp mp cp)) 37))) := HW0.out.trans (HS5.out.bl.mono HW0.out.size)
      have HBP : Hid (b < w4.heap.size) := Nat.lt_of_lt_of_le HM3.out.lt hg4.1.size
      have HZ5 : Hid (w4.heap.size < (w4.alloc (.cells (ltA p (.slice Bp mp cp)) 37)).heap.size) := by show _ < _; simp
      clear hmp hrp hbp hs4 hg4 hbn CD HM3 HL3 HOB HBW3 c0 c1 c2 c3 c4 c5 c6
      unfold ltV
      generalize hw5 : w4.alloc (.cells (ltA p (.slice Bp mp cp)) 37) = W5 at *
      unfold ltA at hw5 ⊢
      obtain ⟨⟨c0, c1, c2, c3, c4, c5, c6⟩, hrd5⟩ := HC.out _ HB5.out
      have HRD5 := Lib.hid hrd5
      clear hrd5
      by_cases hf : f = 0
      · skip
        subst hf
        obtain ⟨d, hdd⟩ : ∃ d, d = x.do_ % 7 := ⟨_, rfl⟩
        have hd7 : d < 7 := by omega
        have hd := HOK.out.d
        have hd0 : (0 : Int) ≤ (x.do_ : Int) := by omega
        have hd1 : (x.do_ : Int) < 256 := by omega
        have HF : Hid ((z.act x).2.2 = 0) := by rw [HE.out]; exact rfl
        clear hd
        match d, hd7, hdd with
        | 0, hd7, hdd =>
          have hq7 : (x.do_ : Int) % 7 = 0 := by omega
          have HD := Lib.hid hdd
          clear hdd hd7
          have HYR : Hid (y.row = z.row ++ [x.l]) := by have := done_0 HD.out.symm HF.out; rw [HE.out] at this; exact this
          have HRY : Hid ((y.row.length : Int) = (r : Int) + 1) := by
            rw [HYR.out, List.length_append, List.length_singleton, HRZ.out]
            rfl
          
          have CK := Lib.hid (key_any (l := x.l) (c := cx) HRD5.out HXLEN.out)
          unfold ltV ltA at CK
          go_wp2_with fail
          refine CK.out.mono ?_
          rintro e w6 ⟨rfl, hb6⟩
          have HB6 := Lib.hid hb6
          obtain ⟨v, WX, hv1, hlook, hput, hmx7, ho7⟩ := (HM5.out.below hb6).up (ks := y.row) (x := x.l) (fun q => by rw [HYR.out, cnt_snoc]) (by omega) (key_le HXLEN.out)
          rw [← HRZ.out] at hv1
          have HSX := Lib.hid (sn_map (HS5.out.later hb6) ho7 HOB5.out HB0.out)
          have HMX := Lib.hid hmx7
          have HO7 := Lib.hid ho7
          obtain ⟨sk, hsk⟩ : ∃ sk, sk = S (keyB x.l) := ⟨_, rfl⟩
          rw [← hsk] at hlook hput ⊢
          have HSK := Lib.hid hsk
          clear hb6 hmx7 ho7 CK hsk
          
          have CN0 := Len_any HSX.out.nt
          rw [HRY.out] at CN0
          have CN := Lib.hid CN0
          have HREL : Hid (Rel1 W0 gz b n (.int .i64 ((r : Int) + 1)) (.int .i64 ((k + 1 : Nat) : Int)) WX) := ⟨k + 1, O4, y, by omega, rfl, by rw [HRY.out], HSX.out, HMX.out, HOB5.out, by have := HRY.out; omega⟩
          clear CN0
          go_wp2_with fail
          refine CN.out.mono ?_
          rintro e wz ⟨rfl, rfl⟩
          clear CN HSX HMX
          go_wp2_with fail
          exact ⟨HREL.out, by simp [intOf]; omega⟩
        | 1, hd7, hdd =>
          have hq7 : (x.do_ : Int) % 7 = 1 := by omega
          have HD := Lib.hid hdd
          clear hdd hd7
          obtain ⟨j, hj, hjr⟩ := done_i (z := z) (x := x) (by rw [← HD.out]; decide) (by rw [← HD.out]; decide) HF.out
          obtain ⟨yl, hyl⟩ : ∃ yl, z.row[j]? = some yl := ⟨_, List.getElem?_eq_getElem hjr⟩
          rw [← HRZ.out] at hjr
          rw [hj] at c1
          have HJ := Lib.hid hj
          have HYL := Lib.hid hyl
          have HYI : Hid (yl ∈ z.row) := List.mem_of_getElem? hyl
          have j0 : ¬ (j : Int) < 0 := by omega
          have j1 : ¬ (r : Int) ≤ (j : Int) := by omega
          have j2 : (0 : Int) ≤ (j : Int) := by omega
          have j3 : (j : Int) < (r : Int) := by omega
          clear hj hyl
          
          have HPY : Hid (y.row = z.row.eraseIdx j ∧ p = yl) := by have := done_1 HD.out.symm HJ.out HYL.out HF.out; rw [HE.out] at this; exact this
          have hpl := HPY.out.2
          have HYR : Hid (y.row = z.row.eraseIdx j) := HPY.out.1
          have HRY : Hid ((y.row.length : Int) = (r : Int) - 1) := by
            show (_ : Int) = _
            rw [HYR.out, List.length_eraseIdx, if_pos (by rw [← HRZ.out]; exact hjr), ← HRZ.out]
            omega
          have HYLEN : Hid (p.bs.length ≤ 2097152) := by rw [HPY.out.2]; exact (HZOK.out.each _ HYI.out).2
          have HKC : Hid (∀ V' : World, W5.heap[w4.heap.size]? = V'.heap[w4.heap.size]? → (V'.cell? ⟨w4.heap.size, 0, none⟩ = some (.int .i64 p.fr.g) ∧ V'.cell? ⟨w4.heap.size, 1, none⟩ = some (.int .i64 p.fr.n) ∧ V'.cell? ⟨w4.heap.size, 2, none⟩ = some (.int .i64 p.to.g) ∧ V'.cell? ⟨w4.heap.size, 3, none⟩ = some (.int .i64 p.to.n) ∧ V'.cell? ⟨w4.heap.size, 4, none⟩ = some (.slice Bp mp cp))) := fun V' hb => bk_cells5 (HK5.out.kept hb.symm)
          obtain ⟨z0, z1, z2, z3, z4⟩ := HKC.out W5 rfl
          clear hpl
          
          have CK := Lib.hid (key_any (l := p) (c := cp) HR5.out.2 HYLEN.out)
          unfold ltV ltA at CK
          go_wp2_with fail
          refine CK.out.mono ?_
          rintro e w6 ⟨rfl, hb6⟩
          have HB6 := Lib.hid hb6
          obtain ⟨v, WX, hv1, hv0, hlook, hput, hmx7, ho7⟩ := (HM5.out.below hb6).dn (ks := y.row) (x := p) (fun q => by rw [HYR.out, HPY.out.2, cnt_erase z.row j yl q HYL.out]) (by omega) (key_le HYLEN.out)
          rw [← HRZ.out] at hv1
          have HSX := Lib.hid (sn_map (HS5.out.later hb6) ho7 HOB5.out HB0.out)
          have HMX := Lib.hid hmx7
          have HO7 := Lib.hid ho7
          obtain ⟨sk, hsk⟩ : ∃ sk, sk = S (keyB p) := ⟨_, rfl⟩
          rw [← hsk] at hlook hput ⊢
          have HSK := Lib.hid hsk
          clear hb6 hmx7 ho7 CK hsk
          
          clear z0 z1 z2 z3 z4 c0 c2 c3 c4 c5 c6
          have hbk7 : W5.heap[w4.heap.size]? = WX.heap[w4.heap.size]? := by
            rw [HO7.out.block _ (Nat.lt_of_lt_of_le HZ5.out HB6.out.size) (by have := HBP.out; omega), HB6.out.block _ HZ5.out]
          have HW7 : Hid (Below w1.heap.size w1 WX) := HW0.out.trans (HSX.out.bl.mono HW0.out.size)
          have HSD : Hid (∀ V', Below WX.heap.size WX V' → (V'.cell? ⟨w4.heap.size, 0, none⟩ = some (.int .i64 p.fr.g) ∧ V'.cell? ⟨w4.heap.size, 1, none⟩ = some (.int .i64 p.fr.n) ∧ V'.cell? ⟨w4.heap.size, 2, none⟩ = some (.int .i64 p.to.g) ∧ V'.cell? ⟨w4.heap.size, 3, none⟩ = some (.int .i64 p.to.n) ∧ V'.cell? ⟨w4.heap.size, 4, none⟩ = some (.slice Bp mp cp) ∧ V'.cell? ⟨bb, o + k * 7 + 1, none⟩ = some (.int .i64 (j : Int)) ∧ (Instr.lookup 54 (.map (some b)) (.string sk) false).run Try.prog V' = .ok (.int .i64 (cnt y.row (keyB p) : Int)) V')) := fun V' hb => by
            obtain ⟨q0, q1, q2, q3, q4⟩ := HKC.out V' (hbk7.trans (hb.block _ (Nat.lt_of_lt_of_le (Nat.lt_of_lt_of_le HZ5.out HB6.out.size) HO7.out.size)).symm)
            obtain ⟨⟨-, q6, -⟩, -⟩ := HC.out V' (HW7.out.trans (hb.mono HW7.out.size))
            rw [HJ.out] at q6
            refine ⟨q0, q1, q2, q3, q4, q6, ?_⟩
            rw [HSK.out]
            exact (HMX.out.below hb).look _ (key_le HYLEN.out)
          have HRP : Hid (∀ V', Below WX.heap.size WX V' → Rd V' Bp mp p.bs) := fun V' hb => ((rd_out (HR5.out.2.below HB6.out) HO7.out fun a ha h0 e => HRN.out a ha h0 e)).below hb
          have HLP : Hid (∀ V', Below WX.heap.size WX V' → LtS (fun x => g ≤ x ∧ x < E) V' (some ⟨g, 0, none⟩) r z.row) := fun V' hb => ((HL5.out.below HB6.out).out HO7.out fun x hx e => by have := HG3.out.2.1; omega).below hb
          obtain ⟨qv, hqv⟩ : ∃ qv, qv = cnt y.row (keyB p) := ⟨_, rfl⟩
          rw [← hqv] at HSD
          have hq0 : ¬ (qv : Int) < 0 := by omega
          clear hqv hbk7
          have CK2 := Lib.hid (fun V' (hb : Below WX.heap.size WX V') => key_any (l := p) (c := cp) (HRP.out V' hb) HYLEN.out)
          have hsl : ∀ V' : World, (Instr.slice 46 (.slice (some ⟨g, 0, none⟩) r r) (some (.int .i64 (j : Int))) (some (.int .i64 ((j : Int) + 1))) none).run Try.prog V' = .ok (.slice (some ⟨g, j * 5, none⟩) 1 (r - j)) V' := fun V' => by
            have ht : Try.prog.underlying 46 = some (.slice (Try.prog.elem 46)) := by kernel_rfl
            have hsz : (sizeOf (Try.prog.elem 46)).run Try.prog V' = .ok 5 V' := by kernel_rfl
            rw [run_slice_lh V' _ _ _ _ ht .i64 .i64 (j : Int) ((j : Int) + 1) (by omega) (by omega) (by omega), hsz]
            have e1 : ((j : Int) + 1).toNat = j + 1 := by omega
            have e2 : ¬ r = j := by omega
            simp only [Result.andThen, sliced, e1, Int.toNat_natCast, e2, if_false, Option.map_some, plus_add, Nat.add_sub_cancel_left]
          have CSAME : Hid (∀ V0, Below WX.heap.size WX V0 → Calls Try.prog 16 #[.slice (some ⟨V0.heap.size, 0, none⟩) 1 1, .slice (some ⟨g, j * 5, none⟩) 1 (r - j)] (V0.alloc (.cells (ltA p (.slice Bp mp cp)) 37)) (SameP true (V0.alloc (.cells (ltA p (.slice Bp mp cp)) 37)))) := fun V0 hb => by
            have hbA : Below V0.heap.size V0 (V0.alloc (.cells (ltA p (.slice Bp mp cp)) 37)) := (Below.refl _ _).alloc (Nat.le_refl _) _
            have hb' := hb.trans (hbA.mono hb.size)
            have h1 : LtS (fun _ => True) (V0.alloc (.cells (ltA p (.slice Bp mp cp)) 37)) (some ⟨V0.heap.size, 0, none⟩) 1 [p] := lts_one (Bk.new V0 37 (ltA p (.slice Bp mp cp))) trivial HR5.out.1 (HRP.out _ hb') fun _ _ _ => trivial
            have h2 := ((HLP.out _ hb').drop j).take (k := 1) (by omega)
            have e4 : (z.row.drop j).take 1 = [p] := by
              rw [(take_next' HYL.out).2, HPY.out.2]
              rfl
            rw [e4, Nat.zero_add] at h2
            have := Same_any h1 h2 1 (r - j) (by omega) (by omega)
            rw [decide_eq_true rfl] at this
            exact this
          have HBD : Hid (Below WX.heap.size WX WX.drew) := below_drewN (Below.refl _ WX) 1
          have CK3 := Lib.hid (CK2.out _ HBD.out)
          have HSD0 := Lib.hid (HSD.out _ HBD.out)
          have HKA : Hid (∀ V', Below WX.heap.size WX V' → Below WX.heap.size WX (V'.alloc (.cells (ltA p (.slice Bp mp cp)) 37))) := fun V' hb => hb.trans (((Below.refl _ _).alloc (Nat.le_refl _) _).mono hb.size)
          have hwi : IntKind.i64.wrap ((j : Int) + 1) = (j : Int) + 1 := IntWalk.i64_in _ (by omega)
          have i5 : (j : Int) + 1 ≤ (r : Int) := by omega
          unfold KeyP at CK3
          rw [← HSK.out] at CK3
          unfold ltV ltA at CK3
          unfold ltA at CSAME HKA
          clear CK2
          go_wp2_with fail
          go_region_held3 (fun V' => V'.cell? ⟨w4.heap.size, 0, none⟩ = some (.int .i64 p.fr.g) ∧ V'.cell? ⟨w4.heap.size, 1, none⟩ = some (.int .i64 p.fr.n) ∧ V'.cell? ⟨w4.heap.size, 2, none⟩ = some (.int .i64 p.to.g) ∧ V'.cell? ⟨w4.heap.size, 3, none⟩ = some (.int .i64 p.to.n) ∧ V'.cell? ⟨w4.heap.size, 4, none⟩ = some (.slice Bp mp cp) ∧ V'.cell? ⟨bb, o + k * 7 + 1, none⟩ = some (.int .i64 (j : Int)) ∧ (Instr.lookup 54 (.map (some b)) (.string sk) false).run Try.prog V' = .ok (.int .i64 (qv : Int)) V')
            (first | (with_reducible assumption) | (with_reducible exact HSD0.out) | (with_reducible exact HSD1.out) | (with_reducible exact HSD2.out) | (with_reducible exact HSD3.out))
            (first
              | (go_at_call 21; (with_reducible refine CK3.out.mono ?_); rintro e w8 ⟨rfl, hb8⟩; have HB8 := Lib.hid (HBD.out.trans (hb8.mono HBD.out.size)); have HSD1 := Lib.hid (HSD.out _ HB8.out); have HSD2 := Lib.hid (HSD.out _ (HKA.out _ HB8.out)); have CS1 := Lib.hid (CSAME.out _ HB8.out); clear hb8)
              | (go_at_call 16; (with_reducible refine CS1.out.mono ?_); rintro e w9 ⟨rfl, hb9⟩; have HB9 := Lib.hid ((HKA.out _ HB8.out).trans (hb9.mono (HKA.out _ HB8.out).size)); have HSD3 := Lib.hid (HSD.out _ HB9.out); clear hb9))
          have HS9 := Lib.hid (HSX.out.later HB9.out)
          have HM9 := Lib.hid (HMX.out.below HB9.out)
          clear HSX HMX hsl hwi
          have HSX := HS9
          have HMX := HM9
          
          have CN0 := Len_any HSX.out.nt
          rw [HRY.out] at CN0
          have CN := Lib.hid CN0
          have HREL : Hid (Rel1 W0 gz b n (.int .i64 ((r : Int) - 1)) (.int .i64 ((k + 1 : Nat) : Int)) w9) := ⟨k + 1, O4, y, by omega, rfl, by rw [HRY.out], HSX.out, HMX.out, HOB5.out, by have := HRY.out; omega⟩
          clear CN0
          go_wp2_with fail
          refine CN.out.mono ?_
          rintro e wz ⟨rfl, rfl⟩
          clear CN HSX HMX
          go_wp2_with fail
          exact ⟨HREL.out, by simp [intOf]; omega⟩
        | 2, hd7, hdd =>
          have hq7 : (x.do_ : Int) % 7 = 2 := by omega
          have HD := Lib.hid hdd
          clear hdd hd7
          obtain ⟨j, hj, hjr⟩ := done_i (z := z) (x := x) (by rw [← HD.out]; decide) (by rw [← HD.out]; decide) HF.out
          obtain ⟨yl, hyl⟩ : ∃ yl, z.row[j]? = some yl := ⟨_, List.getElem?_eq_getElem hjr⟩
          rw [← HRZ.out] at hjr
          rw [hj] at c1
          have HJ := Lib.hid hj
          have HYL := Lib.hid hyl
          have HYI : Hid (yl ∈ z.row) := List.mem_of_getElem? hyl
          have j0 : ¬ (j : Int) < 0 := by omega
          have j1 : ¬ (r : Int) ≤ (j : Int) := by omega
          have j2 : (0 : Int) ≤ (j : Int) := by omega
          have j3 : (j : Int) < (r : Int) := by omega
          clear hj hyl
          
          obtain ⟨b', o', Bw, mw, cw, e1, -, x0, x1, x2, x3, x4, hmw, hrw, -⟩ := HL5.out.get HYL.out
          injection e1 with e1
          injection e1 with e1 e2
          subst e1 e2
          have HRW := Lib.hid hrw
          simp only [Nat.zero_add] at x0 x1 x2 x3 x4
          have HYLEN : Hid (yl.bs.length ≤ 2097152) := (HZOK.out.each _ HYI.out).2
          clear hmw hrw
          
          have HYR : Hid (y.row = z.row.eraseIdx j) := by have := done_2 HD.out.symm HJ.out HYL.out; rw [HE.out] at this; exact this
          have HRY : Hid ((y.row.length : Int) = (r : Int) - 1) := by
            show (_ : Int) = _
            rw [HYR.out, List.length_eraseIdx, if_pos (by rw [← HRZ.out]; exact hjr), ← HRZ.out]
            omega
          
          have CK := Lib.hid (key_any (l := yl) (c := cw) HRW.out HYLEN.out)
          unfold ltV ltA at CK
          go_wp2_with fail
          refine CK.out.mono ?_
          rintro e w6 ⟨rfl, hb6⟩
          have HB6 := Lib.hid hb6
          obtain ⟨v, WX, hv1, hv0, hlook, hput, hmx7, ho7⟩ := (HM5.out.below hb6).dn (ks := y.row) (x := yl) (fun q => by rw [HYR.out, cnt_erase z.row j yl q HYL.out]) (by omega) (key_le HYLEN.out)
          rw [← HRZ.out] at hv1
          have HSX := Lib.hid (sn_map (HS5.out.later hb6) ho7 HOB5.out HB0.out)
          have HMX := Lib.hid hmx7
          have HO7 := Lib.hid ho7
          obtain ⟨sk, hsk⟩ : ∃ sk, sk = S (keyB yl) := ⟨_, rfl⟩
          rw [← hsk] at hlook hput ⊢
          have HSK := Lib.hid hsk
          clear hb6 hmx7 ho7 CK hsk
          
          have CN0 := Len_any HSX.out.nt
          rw [HRY.out] at CN0
          have CN := Lib.hid CN0
          have HREL : Hid (Rel1 W0 gz b n (.int .i64 ((r : Int) - 1)) (.int .i64 ((k + 1 : Nat) : Int)) WX) := ⟨k + 1, O4, y, by omega, rfl, by rw [HRY.out], HSX.out, HMX.out, HOB5.out, by have := HRY.out; omega⟩
          clear CN0
          go_wp2_with fail
          refine CN.out.mono ?_
          rintro e wz ⟨rfl, rfl⟩
          clear CN HSX HMX
          go_wp2_with fail
          exact ⟨HREL.out, by simp [intOf]; omega⟩
        | 3, hd7, hdd =>
          have hq7 : (x.do_ : Int) % 7 = 3 := by omega
          have HD := Lib.hid hdd
          clear hdd hd7
          obtain ⟨j, hj, hjr⟩ := done_i (z := z) (x := x) (by rw [← HD.out]; decide) (by rw [← HD.out]; decide) HF.out
          obtain ⟨yl, hyl⟩ : ∃ yl, z.row[j]? = some yl := ⟨_, List.getElem?_eq_getElem hjr⟩
          rw [← HRZ.out] at hjr
          rw [hj] at c1
          have HJ := Lib.hid hj
          have HYL := Lib.hid hyl
          have HYI : Hid (yl ∈ z.row) := List.mem_of_getElem? hyl
          have j0 : ¬ (j : Int) < 0 := by omega
          have j1 : ¬ (r : Int) ≤ (j : Int) := by omega
          have j2 : (0 : Int) ≤ (j : Int) := by omega
          have j3 : (j : Int) < (r : Int) := by omega
          clear hj hyl
          
          obtain ⟨b', o', Bw, mw, cw, e1, -, x0, x1, x2, x3, x4, hmw, hrw, -⟩ := HL5.out.get HYL.out
          injection e1 with e1
          injection e1 with e1 e2
          subst e1 e2
          have HRW := Lib.hid hrw
          simp only [Nat.zero_add] at x0 x1 x2 x3 x4
          have HYLEN : Hid (yl.bs.length ≤ 2097152) := (HZOK.out.each _ HYI.out).2
          clear hmw hrw
          
          have HYR : Hid (y.row = z.row ++ [yl]) := by have := done_3 HD.out.symm HJ.out HYL.out HF.out; rw [HE.out] at this; exact this
          have HRY : Hid ((y.row.length : Int) = (r : Int) + 1) := by
            rw [HYR.out, List.length_append, List.length_singleton, HRZ.out]
            rfl
          
          have CK := Lib.hid (key_any (l := yl) (c := cw) HRW.out HYLEN.out)
          unfold ltV ltA at CK
          go_wp2_with fail
          refine CK.out.mono ?_
          rintro e w6 ⟨rfl, hb6⟩
          have HB6 := Lib.hid hb6
          obtain ⟨v, WX, hv1, hlook, hput, hmx7, ho7⟩ := (HM5.out.below hb6).up (ks := y.row) (x := yl) (fun q => by rw [HYR.out, cnt_snoc]) (by omega) (key_le HYLEN.out)
          rw [← HRZ.out] at hv1
          have HSX := Lib.hid (sn_map (HS5.out.later hb6) ho7 HOB5.out HB0.out)
          have HMX := Lib.hid hmx7
          have HO7 := Lib.hid ho7
          obtain ⟨sk, hsk⟩ : ∃ sk, sk = S (keyB yl) := ⟨_, rfl⟩
          rw [← hsk] at hlook hput ⊢
          have HSK := Lib.hid hsk
          clear hb6 hmx7 ho7 CK hsk
          
          have CN0 := Len_any HSX.out.nt
          rw [HRY.out] at CN0
          have CN := Lib.hid CN0
          have HREL : Hid (Rel1 W0 gz b n (.int .i64 ((r : Int) + 1)) (.int .i64 ((k + 1 : Nat) : Int)) WX) := ⟨k + 1, O4, y, by omega, rfl, by rw [HRY.out], HSX.out, HMX.out, HOB5.out, by have := HRY.out; omega⟩
          clear CN0
          go_wp2_with fail
          refine CN.out.mono ?_
          rintro e wz ⟨rfl, rfl⟩
          clear CN HSX HMX
          go_wp2_with fail
          exact ⟨HREL.out, by simp [intOf]; omega⟩
        | 4, hd7, hdd =>
          have hq7 : (x.do_ : Int) % 7 = 4 := by omega
          have HD := Lib.hid hdd
          clear hdd hd7
          obtain ⟨j, hj, hjr⟩ := done_i (z := z) (x := x) (by rw [← HD.out]; decide) (by rw [← HD.out]; decide) HF.out
          obtain ⟨yl, hyl⟩ : ∃ yl, z.row[j]? = some yl := ⟨_, List.getElem?_eq_getElem hjr⟩
          rw [← HRZ.out] at hjr
          rw [hj] at c1
          have HJ := Lib.hid hj
          have HYL := Lib.hid hyl
          have HYI : Hid (yl ∈ z.row) := List.mem_of_getElem? hyl
          have j0 : ¬ (j : Int) < 0 := by omega
          have j1 : ¬ (r : Int) ≤ (j : Int) := by omega
          have j2 : (0 : Int) ≤ (j : Int) := by omega
          have j3 : (j : Int) < (r : Int) := by omega
          clear hj hyl
          
          have HYR : Hid (y.row = z.row.eraseIdx j ++ [yl]) := by have := done_4 HD.out.symm HJ.out HYL.out HF.out; rw [HE.out] at this; exact this
          have HRY : Hid ((y.row.length : Int) = (r : Int)) := by
            show (_ : Int) = _
            rw [HYR.out, List.length_append, List.length_singleton, List.length_eraseIdx, if_pos (by rw [← HRZ.out]; exact hjr), ← HRZ.out]
            omega
          have HSX := HS5
          have HMX : Hid (MapC W5 b y.row (k + 1)) := by rw [HYR.out]; exact (HM5.out.same fun q => by rw [cnt_snoc, cnt_erase z.row j yl q HYL.out]).mono (Nat.le_succ _)
          obtain ⟨WX, hWX⟩ : ∃ WX, WX = W5 := ⟨_, rfl⟩
          subst hWX
          
          have CN0 := Len_any HSX.out.nt
          rw [HRY.out] at CN0
          have CN := Lib.hid CN0
          have HREL : Hid (Rel1 W0 gz b n (.int .i64 ((r : Int))) (.int .i64 ((k + 1 : Nat) : Int)) WX) := ⟨k + 1, O4, y, by omega, rfl, by rw [HRY.out], HSX.out, HMX.out, HOB5.out, by have := HRY.out; omega⟩
          clear CN0
          go_wp2_with fail
          refine CN.out.mono ?_
          rintro e wz ⟨rfl, rfl⟩
          clear CN HSX HMX
          go_wp2_with fail
          exact ⟨HREL.out, by simp [intOf]; omega⟩
        | 5, hd7, hdd =>
          have hq7 : (x.do_ : Int) % 7 = 5 := by omega
          have HD := Lib.hid hdd
          clear hdd hd7
          have HYR : Hid (y.row = z.row) := turned_row HD.out (by decide) (by rw [HE.out])
          have HRY : Hid ((y.row.length : Int) = (r : Int)) := by show (_ : Int) = _; rw [HYR.out, HRZ.out]
          have HSX := HS5
          have HMX : Hid (MapC W5 b y.row (k + 1)) := by rw [HYR.out]; exact HM5.out.mono (Nat.le_succ _)
          obtain ⟨WX, hWX⟩ : ∃ WX, WX = W5 := ⟨_, rfl⟩
          subst hWX
          
          have CN0 := Len_any HSX.out.nt
          rw [HRY.out] at CN0
          have CN := Lib.hid CN0
          have HREL : Hid (Rel1 W0 gz b n (.int .i64 ((r : Int))) (.int .i64 ((k + 1 : Nat) : Int)) WX) := ⟨k + 1, O4, y, by omega, rfl, by rw [HRY.out], HSX.out, HMX.out, HOB5.out, by have := HRY.out; omega⟩
          clear CN0
          go_wp2_with fail
          refine CN.out.mono ?_
          rintro e wz ⟨rfl, rfl⟩
          clear CN HSX HMX
          go_wp2_with fail
          exact ⟨HREL.out, by simp [intOf]; omega⟩
        | 6, hd7, hdd =>
          have hq7 : (x.do_ : Int) % 7 = 6 := by omega
          have HD := Lib.hid hdd
          clear hdd hd7
          have HYR : Hid (y.row = z.row) := turned_row HD.out (by decide) (by rw [HE.out])
          have HRY : Hid ((y.row.length : Int) = (r : Int)) := by show (_ : Int) = _; rw [HYR.out, HRZ.out]
          have HSX := HS5
          have HMX : Hid (MapC W5 b y.row (k + 1)) := by rw [HYR.out]; exact HM5.out.mono (Nat.le_succ _)
          obtain ⟨WX, hWX⟩ : ∃ WX, WX = W5 := ⟨_, rfl⟩
          subst hWX
          
          have CN0 := Len_any HSX.out.nt
          rw [HRY.out] at CN0
          have CN := Lib.hid CN0
          have HREL : Hid (Rel1 W0 gz b n (.int .i64 ((r : Int))) (.int .i64 ((k + 1 : Nat) : Int)) WX) := ⟨k + 1, O4, y, by omega, rfl, by rw [HRY.out], HSX.out, HMX.out, HOB5.out, by have := HRY.out; omega⟩
          clear CN0
          go_wp2_with fail
          refine CN.out.mono ?_
          rintro e wz ⟨rfl, rfl⟩
          clear CN HSX HMX
          go_wp2_with fail
          exact ⟨HREL.out, by simp [intOf]; omega⟩
      · skip
        have hq : (f == 0) = false := beq_eq_false_iff_ne.2 hf
        have hyz : y = z := by
          have := act_no HZOK.out (x := x) (by rw [HE.out]; exact hf)
          rw [HE.out] at this
          exact this
        rw [hyz] at HS5
        have CL2 := Lib.hid (Letters_any HS5.out.nt)
        clear c0 c1 c2 c3 c4 c5 c6 hf hyz
        go_wp2_with fail
        refine CL2.out.mono ?_
        rintro e w6 ⟨g6, rfl, hg6, hlo6, hb6⟩
        rw [← HRZ.out]
        have hl6 := hlo6.lts
        rw [← HRZ.out] at hl6
        have CS0 := Same_any (HL5.out.below hb6) hl6 r r (by omega) (by omega)
        rw [decide_eq_true rfl] at CS0
        have CS := Lib.hid CS0
        have HB6 := Lib.hid hb6
        clear hg6 hlo6 hb6 hl6 CS0 CL2 hw5
        go_wp2_with fail
        refine CS.out.mono ?_
        rintro e w7 ⟨rfl, hb7⟩
        have hb57 := HB6.out.trans (hb7.mono HB6.out.size)
        have HREL : Hid (Rel1 W0 gz b n (.int .i64 (r : Int)) (.int .i64 ((k + 1 : Nat) : Int)) w7) := ⟨k + 1, O4, z, by omega, rfl, by rw [HRZ.out], HS5.out.later hb57, (HM5.out.below hb57).mono (Nat.le_succ _), HOB5.out, by rw [← HRZ.out]; omega⟩
        clear hb57 hb7 CS HB6 HS5 HM5 HL5
        go_wp2_with fail
        exact ⟨HREL.out, by simp [intOf]; omega⟩
    · skip
      have HSN := Lib.hid hsn
      have HMP := Lib.hid hmp
      have HOB := Lib.hid hob
      have HRZ := Lib.hid hrz
      have v1 : ¬ (k : Int) < (n : Int) := by omega
      have hr60 : r ≤ 60 := by omega
      have hk60 : k ≤ 60 := by omega
      have CL := Lib.hid (Letters_any hsn.nt)
      clear hsn hmp hob hrz hlt HA HG
      go_wp2_with fail
      refine CL.out.mono ?_
      rintro e w3 ⟨g, rfl, hgl, hlo, hb3⟩
      rw [← HRZ.out]
      have hlts := hlo.lts
      obtain ⟨E, hE⟩ : ∃ E, E = w3.heap.size := ⟨_, rfl⟩
      rw [← hE, ← HRZ.out] at hlts
      have HL3 : Hid (LtS (fun x => g ≤ x ∧ x < E) w3 (some ⟨g, 0, none⟩) r z.row) := hlts
      have HS3 := Lib.hid (HSN.out.later hb3)
      have HM3 : Hid (MapC w3 b z.row (60 + 0)) := (HMP.out.below hb3).mono (by omega)
      have HG3 : Hid ((∀ b', O b' → b' < g) ∧ b < g) := ⟨fun b' hb' => by have := lt_of_O HSN.out b' hb'; omega, by have := HMP.out.lt; omega⟩
      have HZOK := Lib.hid HSN.out.nt.ok
      clear hgl hlo hb3 hlts hE HSN HMP CL
      go_wp2_with fail
      go_loopw [12] (fun i wr => Rel2 W0 gz b g E k z O z.row r i wr) (fun i _ => r - (intOf i).toNat)
      case atStart => exact ⟨0, Nat.zero_le _, rfl, HS3.out, by rw [List.drop_zero]; exact HM3.out, HL3.out⟩
      case round =>
        clear HS3 HM3 HL3
        obtain ⟨j, hj, rfl, hsn, hmp, hlt⟩ := hrel
        by_cases hjr : j < r
        · have HS5 := Lib.hid hsn
          have HM5 := Lib.hid hmp
          have HL5 := Lib.hid hlt
          obtain ⟨yl, hyl⟩ : ∃ yl, z.row[j]? = some yl := ⟨_, List.getElem?_eq_getElem (by rw [← HRZ.out]; exact hjr)⟩
          have HYL := Lib.hid hyl
          have HYI : Hid (yl ∈ z.row) := List.mem_of_getElem? hyl
          have j2 : (0 : Int) ≤ (j : Int) := by omega
          have j3 : (j : Int) < (r : Int) := by omega
          have HYLEN : Hid (yl.bs.length ≤ 2097152) := (HZOK.out.each _ HYI.out).2
          obtain ⟨b', o', Bw, mw, cw, e1, hpw, x0, x1, x2, x3, x4, hmw, hrw, hbw⟩ := hlt.get hyl
          injection e1 with e1
          injection e1 with e1 e2
          subst e1 e2
          simp only [Nat.zero_add] at x0 x1 x2 x3 x4
          have hxs := fun i (V : World) (hV : V.heap[g]? = wr.heap[g]?) v (hv : wr.cell? ⟨g, i, none⟩ = some v) => (World.cell?_of_block (a := ⟨g, i, none⟩) hV).trans hv
          have HX : Hid (∀ V : World, V.heap[g]? = wr.heap[g]? → (V.cell? ⟨g, j * 5, none⟩ = some (.int .i64 yl.fr.g) ∧ V.cell? ⟨g, j * 5 + 1, none⟩ = some (.int .i64 yl.fr.n) ∧ V.cell? ⟨g, j * 5 + 2, none⟩ = some (.int .i64 yl.to.g) ∧ V.cell? ⟨g, j * 5 + 3, none⟩ = some (.int .i64 yl.to.n) ∧ V.cell? ⟨g, j * 5 + 4, none⟩ = some (.slice Bw mw cw))) := fun V hV => ⟨hxs _ V hV _ x0, hxs _ V hV _ x1, hxs _ V hV _ x2, hxs _ V hV _ x3, hxs _ V hV _ x4⟩
          have hglt : g < wr.heap.size := World.block_lt_of_cell? wr _ x0
          have CK := Lib.hid (key_any (l := yl) (c := cw) hrw HYLEN.out)
          have HRW := Lib.hid hrw
          have HBW : Hid (∀ a, Bw = some a → 1 ≤ mw → ¬ a.block = b) := fun a ha h0 e => by have := (hbw a ha h0).1; have := HG3.out.2; omega
          have HGLT := Lib.hid hglt
          unfold ltV ltA at CK
          clear hsn hmp hlt hyl hmw hrw hbw hpw hxs hglt
          go_wp2_with fail
          refine CK.out.mono ?_
          rintro e w6 ⟨rfl, hb6⟩
          have HB6 := Lib.hid hb6
          obtain ⟨v, w7, hv1, hv0, hlook, hput, hmx7, ho7⟩ := (HM5.out.below hb6).dn (ks := z.row.drop (j + 1)) (x := yl) (fun q => cnt_drop z.row j yl q HYL.out) (by omega) (key_le HYLEN.out)
          have hv2 : v ≤ 60 := by
            rw [List.length_drop, ← HRZ.out] at hv1
            omega
          have HS7 := Lib.hid (sn_map (HS5.out.later hb6) ho7 HOB.out HB0.out)
          have HM7 := Lib.hid hmx7
          have HO7 := Lib.hid ho7
          have HL7 := Lib.hid ((HL5.out.below hb6).out ho7 fun x hx e => by have := HG3.out.2; omega)
          have HR7 : Hid (Rd w7 Bw mw yl.bs) := rd_out (HRW.out.below hb6) ho7 fun a ha h0 e => HBW.out a ha h0 e
          have hx7 := HX.out w7 (by rw [ho7.block g (Nat.lt_of_lt_of_le HGLT.out hb6.size) (by have := HG3.out.2; omega), hb6.block g HGLT.out])
          have HX7 := Lib.hid hx7
          obtain ⟨sk, hsk⟩ : ∃ sk, sk = S (keyB yl) := ⟨_, rfl⟩
          rw [← hsk] at hlook hput ⊢
          have CK2 := Lib.hid (key_any (l := yl) (c := cw) HR7.out HYLEN.out)
          unfold KeyP at CK2
          rw [← hsk] at CK2
          unfold ltV ltA at CK2
          have HSK := Lib.hid hsk
          obtain ⟨y0, y1, y2, y3, y4⟩ := hx7
          clear hb6 hmx7 ho7 CK hsk x0 x1 x2 x3 x4 hv1 HRW HS5 HM5 HL5 HX
          go_wp2_with fail
          refine CK2.out.mono ?_
          rintro e w8 ⟨rfl, hb8⟩
          have hlk := (HM7.out.below hb8).look (keyB yl) (key_le HYLEN.out)
          rw [← HSK.out] at hlk
          obtain ⟨q, hq⟩ : ∃ q, q = cnt (z.row.drop (j + 1)) (keyB yl) := ⟨_, rfl⟩
          rw [← hq] at hlk
          have hq0 : ¬ (q : Int) < 0 := by omega
          have HREL : Hid (Rel2 W0 gz b g E k z O z.row r (.int .i64 ((j + 1 : Nat) : Int)) w8) := ⟨j + 1, by omega, rfl, HS7.out.later hb8, HM7.out.below hb8, HL7.out.below hb8⟩
          clear hb8 hq CK2 hlook hput y0 y1 y2 y3 y4 HS7 HM7 HL7
          go_wp2_with fail
          exact ⟨HREL.out, by simp [intOf]; omega⟩
        · have v2 : ¬ (j : Int) < (r : Int) := by omega
          have HS5 := Lib.hid hsn
          have CG2 := Lib.hid (goes_any wr)
          clear hsn hmp hlt
          go_wp2_with fail
          refine CG2.out.mono ?_
          rintro e w9 ⟨rfl, hb9⟩
          have HBF : Hid (Below w1.heap.size w1 w9) := HW0.out.trans ((HS5.out.later hb9).bl.mono HW0.out.size)
          clear hb9 CG2
          go_wp2_with fail
          go_ret
          exact ⟨rfl, HBF.out⟩
set_option maxRecDepth 100000 in
theorem lifted (os : Os) (started : os.Started) (H : Type) (enc : TypeId × Value → H) :
    ReturnsInHanded {} Try.checked os 4 .any (Rows.netOnceSpec.pre6 enc Try.prog Try.f4 Rows.netOnceRow.domain false) (Rows.netOnceSpec.post enc Try.prog Try.f4 false true false false) := by
  refine returnsInHanded_of_change_sized (C := Try.checked) own started (by kernel_rfl) Try.func4
    (ChangeSpec.witness6 (enc := enc) (C := Try.checked) false ⟨#[], #[.slice none 0 0], []⟩ 8 (by kernel_rfl) (by kernel_rfl) (by kernel_rfl) (by kernel_rfl)) ?_
  intro W base args ds gs before hval0 hW hcnd hsz _
  have hval : ∀ (j : Nat) t v, Try.f4.params[j]? = some t → args[j]? = some v → Value.okWide Try.prog W .any base t v := hval0
  have hW' := hW
  obtain ⟨p, q, hA0, hV, rfl, hfz, hnd⟩ := hW
  have hA : DataW.TrodAll enc Try.prog W 0 (fun _ => true) true Try.f4.params.toList args.toList ds p := hA0
  rw [Try.params4] at hA hval
  obtain ⟨v0, d0, rfl, rfl, h0⟩ := trodAll_one hA
  obtain ⟨rfl, rfl⟩ := trodVars_none hV
  obtain ⟨A, n, c, xs, rfl, _, hn, hl, hy⟩ := arg_acts (hval 0 _ v0 rfl rfl) h0 (fun n hn => by have := List.all_eq_true.1 hsz _ (DataW.weights_mem_each (j := 0) (t := 23) rfl rfl n hn); simpa using this)
  refine (walk A n c xs W hl (Nat.le_trans hn (by decide)) (fun x hx => Nat.le_trans (hy x hx) (by decide))).mono fun e W' ⟨he, hb⟩ => ?_
  subst he
  exact ⟨_, rfl, post_true laidOut (by kernel_rfl) ty_bool (by kernel_rfl) rfl hW' hb rfl⟩

theorem over : Rows.netOnceRow.holds Try.pinned (OpenSpec.ofChange Rows.netOnceSpec) :=
  OpenClaim.holds_of_wide 4 Try.f4 rfl rfl rfl rfl rfl rfl rfl ⟨rfl, rfl, rfl, rfl, rfl⟩ rfl rfl rfl rfl rfl (by kernel_rfl) Try.func4 (by kernel_rfl)
    (of_decide_eq_true (by kernel_rfl)) (by unfold Func.isWrapper; first | (rw [if_pos (by decide +kernel)]; kernel_rfl) | (rw [if_neg (by decide +kernel)]; exact ⟨rfl, rfl⟩))
    (fun os started H enc _ => lifted os started H enc)

theorem proved : Rows.NetOnceSaid :=
  over
end Go.Proofs.Ytephciglcikllaa.netOnce
