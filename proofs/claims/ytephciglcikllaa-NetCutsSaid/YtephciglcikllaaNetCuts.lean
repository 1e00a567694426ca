/- NetCuts: while a link is cut no letter of it is taken, either way, and all stay, while others are taken; healed, all come: for all acts and addresses the call returns true, and nothing that was there has turned. No conditions. -/
import Derived.Test.YtephciglcikllaaNetTwo
import Derived.Test.YtephciglcikllaaNetEq
namespace Go.Proofs.Ytephciglcikllaa.netCuts
open Go.ChangeShapes Go.WideShapes Go.ChangeAt Go.RowKit Disk Zab Sto Net

def zO : Nt := Nt.new [2, 3, 1]
def cut0 : Ad × Ad → Bool := fun _ => false
def cut1 (a b : Ad) : Ad × Ad → Bool := fun l => if l = linkOf a b then true else cut0 l
/-- Behind k letters that were sent to both. -/
def Rel1 (W : World) (ga gb n : Nat) (i : Value) (wr : World) : Prop := ∃ (k : Nat) (A B : Nat → Prop) (z : Nt), k ≤ n ∧ i = .int .i64 (k : Int) ∧ Two W wr A B ga gb z z 0 0 ∧ z.cut = cut0 ∧ z.row.length ≤ k
/-- Behind k letters that were tried. -/
def Rel2 (W : World) (ga gb : Nat) (a b : Ad) (g E : Nat) (z0 : Nt) (ls : List Lt) (n : Nat) (vi vk : Value) (wr : World) : Prop := ∃ (k : Nat) (A B : Nat → Prop) (z : Nt), k ≤ n ∧ vk = .int .i64 (k : Int) ∧ vi = .int .i64 (leftI a b ls k : Int) ∧ Two W wr A B ga gb z z0 1 0 ∧ z.cut = cut1 a b ∧ z.sizes = z0.sizes ∧ z.row = leftR a b ls k ∧ LtS (fun x => g ≤ x ∧ x < E) wr (some ⟨g, 0, none⟩) n ls ∧ (∀ x, (g ≤ x ∧ x < E) → ¬ A x ∧ ¬ B x) ∧ E ≤ wr.heap.size
def Rel3 (W : World) (ga gb : Nat) (g E : Nat) (z0 : Nt) (ls : List Lt) (n : Nat) (k : Nat) (wr : World) : Prop := ∃ (A B : Nat → Prop) (z : Nt), Two W wr A B ga gb z z0 2 0 ∧ z.cut = cut0 ∧ z.row.length = k ∧ k ≤ 60 ∧ LtS (fun x => g ≤ x ∧ x < E) wr (some ⟨g, 0, none⟩) n ls ∧ (∀ x, (g ≤ x ∧ x < E) → ¬ A x ∧ ¬ B x) ∧ E ≤ wr.heap.size
set_option maxRecDepth 100000 in
set_option maxHeartbeats 8000000 in
theorem walk (A0 : Option Addr) (n c : Nat) (a b : Ad) (xs : List A1) (w : World) (ha : a.Wf) (hb : b.Wf) (h : ActS (fun b => b < w.heap.size) w A0 n xs) (hn : n ≤ 140737488355328) (hy : ∀ x ∈ xs, x.l.bs.length ≤ 140737488355328) : Calls Try.prog 5 #[.slice A0 n c, adV a, adV b] w fun e w' => e = .returned (.bool true) ∧ Below w.heap.size w w' := by
  have hB : Below w.heap.size w ((w.alloc (.cells #[.int .i64 a.g, .int .i64 a.n] 34)).alloc (.cells #[.int .i64 b.g, .int .i64 b.n] 34)) := ((Below.refl _ _).alloc (Nat.le_refl _) _).alloc (by simp) _
  have B1 := (Bk.new w 34 #[.int .i64 a.g, .int .i64 a.n]).alloc (.cells #[.int .i64 b.g, .int .i64 b.n] 34)
  have B2 : Bk ((w.alloc (.cells #[.int .i64 a.g, .int .i64 a.n] 34)).alloc (.cells #[.int .i64 b.g, .int .i64 b.n] 34)) (w.heap.size + 1) 34 #[.int .i64 b.g, .int .i64 b.n] := by simpa using Bk.new (w.alloc (.cells #[.int .i64 a.g, .int .i64 a.n] 34)) 34 #[.int .i64 b.g, .int .i64 b.n]
  have CG0 := great_any (h.below hB) c hn hy
  have HG0 : greatF xs = false → xs.length ≤ 60 ∧ ∀ x ∈ xs, x.l.bs.length ≤ 200 := great_no
  have HA := Lib.hid h
  have HB := Lib.hid hB
  have HB1 := Lib.hid B1
  have HB2 := Lib.hid B2
  have HL := Lib.hid h.len
  clear h hB B1 B2 hy
  unfold adV
  generalize hw : (w.alloc (.cells #[.int .i64 a.g, .int .i64 a.n] 34)).alloc (.cells #[.int .i64 b.g, .int .i64 b.n] 34) = W at *
  by_cases hg : greatF xs = true
  · rw [hg] at CG0
    have CG := Lib.hid CG0
    clear CG0 HG0
    go_enter Try.func5, Try.ntmps5
    go_wp2_with fail
    refine CG.out.mono ?_
    rintro e w1 ⟨rfl, rfl⟩
    go_wp2_with fail
    go_ret
    exact ⟨rfl, HB.out⟩
  have hg : greatF xs = false := by simpa using hg
  rw [hg] at CG0
  have CG := Lib.hid CG0
  have HG := Lib.hid (HG0 hg)
  have hn60 : n ≤ 60 := by have := HG.out.1; rw [HL.out] at this; exact this
  clear CG0 HG0 hg
  have CN := Lib.hid (new_lit [2, 3, 1] (by decide) W)
  have HW0 : Hid (Below W.heap.size W (W.alloc (.cells (iv [2, 3, 1]).toArray 3))) := (Below.refl _ _).alloc (Nat.le_refl _) _
  obtain ⟨W0, hW0⟩ : ∃ W0, W0 = W.alloc (.cells (iv [2, 3, 1]).toArray 3) := ⟨_, rfl⟩
  rw [← hW0] at CN HW0
  have hw2 := hW0.symm
  clear hW0
  unfold iv at hw2
  simp only [List.map_cons, List.map_nil] at hw2
  have HWA := Lib.hid ha
  have HWB := Lib.hid hb
  clear ha hb
  go_enter Try.func5, Try.ntmps5
  go_wp2_with fail
  refine CG.out.mono ?_
  rintro e w1 ⟨rfl, rfl⟩
  clear CG
  go_wp2_with fail
  refine CN.out.mono ?_
  rintro e w2 ⟨ga, Oa, rfl, hs0⟩
  have HSA : Hid (Sn W0 w2 Oa ga zO 0) := hs0
  clear hs0 CN hw2
  have CN := Lib.hid (new_lit [2, 3, 1] (by decide) w2)
  have HW2 : Hid (Below w2.heap.size w2 (w2.alloc (.cells (iv [2, 3, 1]).toArray 3))) := (Below.refl _ _).alloc (Nat.le_refl _) _
  obtain ⟨W3, hW3⟩ : ∃ W3, W3 = w2.alloc (.cells (iv [2, 3, 1]).toArray 3) := ⟨_, rfl⟩
  rw [← hW3] at CN HW2
  have hw3 := hW3.symm
  clear hW3
  unfold iv at hw3
  simp only [List.map_cons, List.map_nil] at hw3
  go_wp2_with fail
  refine CN.out.mono ?_
  rintro e w4 ⟨gb, Ob, rfl, hs0⟩
  have HTW : Hid (Two w1 w4 Oa Ob ga gb zO zO 0 0) := by
    have h4 : Below w2.heap.size w2 w4 := HW2.out.trans (hs0.bl.mono HW2.out.size)
    have h3 := (HSA.out.nt.below h4).base HW0.out.size
    refine ⟨h3, hs0.nt.base ?_, fun k hk hq => ?_, ?_⟩
    · have := HW0.out.size; have := HSA.out.bl.size; have := HW2.out.size; omega
    · have e1 := (HSA.out.nt.low k hk).2
      have e2 := (hs0.nt.low k hq).1
      have := HW2.out.size
      omega
    · exact HW0.out.trans ((HSA.out.bl.mono HW0.out.size).trans (h4.mono (Nat.le_trans HW0.out.size HSA.out.bl.size)))
  clear hs0 CN hw3 HSA HW2
  go_wp2_with fail
  go_loopw [11] (fun i wr => Rel1 w1 ga gb n i wr) (fun i _ => n - (intOf i).toNat)
  case atStart => exact ⟨0, Oa, Ob, zO, Nat.zero_le _, rfl, HTW.out, rfl, Nat.le_refl _⟩
  case round =>
    clear HTW
    obtain ⟨k, A, B, z, hk, rfl, htw, hcut, hrl⟩ := hrel
    by_cases hlt : k < n
    · have HBW : Hid (Below w.heap.size w wr) := HB.out.trans (htw.bl.mono HB.out.size)
      have hxl : k < xs.length := by rw [HL.out]; exact hlt
      have hx := List.getElem?_eq_getElem hxl
      have hbl := HG.out.2 _ (List.getElem_mem hxl)
      generalize xs[k] = x at hx hbl
      obtain ⟨bb, o, X, mx, cx, rfl, hbw, c0, c1, c2, c3, c4, c5, c6, hmc, hrd, hbb, hxok⟩ := (HA.out.below HBW.out).get hx
      have hmx : mx ≤ 200 := by rw [← hrd.len]; exact hbl
      have CS := Lib.hid (Send_any htw.a (l := x.l) hrd hmc (by omega))
      have HTW := Lib.hid htw
      have HCUT := Lib.hid hcut
      have HBB := Lib.hid hbb
      have HRD := Lib.hid hrd
      have hi0 : (0 : Int) ≤ (k : Int) := by omega
      have hi1 : (k : Int) < (n : Int) := by omega
      have HMC := Lib.hid hmc
      have HBWW := Lib.hid hbw
      clear htw hcut hbb hrd hx hbl hxl hbw hxok hmc
      unfold ltV ltA at CS
      go_wp2_with fail
      refine CS.out.mono ?_
      rintro e w3 ⟨O3, rfl, hs3, hg3⟩
      have ht3 := HTW.out.nextA hs3 hg3
      have HBW3 : Hid (Below w.heap.size w w3) := HB.out.trans (ht3.bl.mono HB.out.size)
      have ceq : ∀ i, w3.cell? ⟨bb, i, none⟩ = wr.cell? ⟨bb, i, none⟩ := fun i => (HBW3.out.cell (p := ⟨bb, i, none⟩) HBWW.out).trans (HBW.out.cell (p := ⟨bb, i, none⟩) HBWW.out).symm
      have d2 := (ceq _).trans c2
      have d3 := (ceq _).trans c3
      have d5 := (ceq _).trans c4
      have d6 := (ceq _).trans c5
      have d7 := (ceq _).trans c6
      have hRD3 : Rd w3 X mx x.l.bs := rd_out HRD.out hg3.1 fun a ha h0 hq => by
        have := (HTW.out.a.low _ hq).1
        have := HBB.out a ha h0
        have := HB.out.size
        omega
      have CS2 := Lib.hid (Send_any ht3.b (l := x.l) hRD3 HMC.out (by omega))
      have HT3 := Lib.hid ht3
      unfold ltV ltA at CS2
      clear CS hs3 hg3 ht3 ceq hRD3 c0 c1 c2 c3 c4 c5 c6
      go_wp2_with fail
      refine CS2.out.mono ?_
      rintro e w5 ⟨O5, rfl, hs5, hg5⟩
      have HREL : Hid (Rel1 w1 ga gb n (.int .i64 ((k + 1 : Nat) : Int)) w5) := by
        refine ⟨k + 1, O3, O5, (z.send x.l).1, by omega, rfl, HT3.out.nextB hs5 hg5, ?_, ?_⟩
        · rcases send_cases z x.l with ⟨_, e⟩ | ⟨_, e⟩ <;> rw [e] <;> exact HCUT.out
        · rcases send_cases z x.l with ⟨_, e⟩ | ⟨_, e⟩ <;> rw [e]
          · show (z.row ++ [x.l]).length ≤ _
            rw [List.length_append, List.length_singleton]; omega
          · omega
      clear hs5 hg5 CS2 HTW HCUT
      go_wp2_with fail
      exact ⟨HREL.out, by simp [intOf]; omega⟩
    · have v1 : ¬ (k : Int) < (n : Int) := by omega
      have hr60 : z.row.length ≤ 60 := by omega
      have HTW := Lib.hid htw
      have HCUT := Lib.hid hcut
      have K1 := HB1.out.below htw.bl
      have K2 := HB2.out.below htw.bl
      have p0 := K1.cell 0
      have p1 := K1.cell 1
      have p2 := K2.cell 0
      have p3 := K2.cell 1
      have CC := Lib.hid (Cut_any htw.a (by decide) a b)
      unfold adV at CC
      clear htw hcut hrl hlt K1 K2 HG HA
      go_wp2_with fail
      refine CC.out.mono ?_
      rintro e w3 ⟨O3, rfl, hs3, hg3⟩
      clear p0 p1 p2 p3 CC
      have ht3 := HTW.out.nextA hs3 hg3
      have K1 := HB1.out.below ht3.bl
      have K2 := HB2.out.below ht3.bl
      have p0 := K1.cell 0
      have p1 := K1.cell 1
      have p2 := K2.cell 0
      have p3 := K2.cell 1
      have HT3 := Lib.hid ht3
      clear hs3 hg3 ht3 K1 K2 HTW
      by_cases hlk : z.link a b = true
      · have et : z.turn a b true = ({ z with cut := cut1 a b }, 0) := by
          unfold Nt.turn
          rw [if_neg (by rw [hlk]; simp), HCUT.out]
          rfl
        rw [et] at HT3 ⊢
        have CL := Lib.hid (Letters_any HT3.out.a)
        have HLK := Lib.hid hlk
        clear et hlk
        dsimp only at CL ⊢
        clear p0 p1 p2 p3
        go_wp2_with fail
        refine CL.out.mono ?_
        rintro e w5 ⟨g, rfl, hgl, hlo, hb5⟩
        obtain ⟨ls, hls⟩ : ∃ ls, ls = z.row := ⟨_, rfl⟩
        obtain ⟨r, hr⟩ : ∃ r, r = z.row.length := ⟨_, rfl⟩
        have HLS := Lib.hid hls
        have HRZ := Lib.hid hr
        have hlts := hlo.lts
        rw [← hls] at hlts
        rw [← hr]
        have HLT : Hid (LtS (fun x => g ≤ x ∧ x < w5.heap.size) w5 (some ⟨g, 0, none⟩) r ls) := by rw [hr, ← hls]; exact hlts
        have HT5 := Lib.hid (HT3.out.later hb5)
        have HNO : Hid (∀ x, (g ≤ x ∧ x < w5.heap.size) → ¬ O3 x ∧ ¬ B x) := fun x hx => ⟨fun hq => by have := (HT3.out.a.low x hq).2; omega, fun hq => by have := (HT3.out.b.low x hq).2; omega⟩
        have hr6 : r ≤ 60 := by omega
        obtain ⟨E, hE⟩ : ∃ E, E = w5.heap.size := ⟨_, rfl⟩
        rw [← hE] at HLT HNO
        have HEW : Hid (E ≤ w5.heap.size) := by rw [hE]; exact Nat.le_refl _
        clear hls hr hgl hlo hb5 hlts CL hE
        clear hr60
        go_wp2_with fail
        go_loopw [13, 14] (fun vi vk wr => Rel2 w1 ga gb a b g E z ls r vi vk wr) (fun _ vk _ => r - (intOf vk).toNat)
        case atStart => exact ⟨0, O3, B, _, Nat.zero_le _, rfl, rfl, HT5.out, rfl, rfl, by rw [HLS.out]; rfl, HLT.out, HNO.out, HEW.out⟩
        case round =>
          clear HT5 HLT HNO HT3 HEW
          obtain ⟨k2, A, B, y, hk2, rfl, rfl, htw, hcut, hsz, hrow, hlts, hno, hew⟩ := hrel
          have HEW := Lib.hid hew
          clear hew
          by_cases hlt : k2 < r
          · have hkl : k2 < ls.length := by rw [HLS.out, ← HRZ.out]; exact hlt
            have hx := List.getElem?_eq_getElem hkl
            generalize ls[k2] = x at hx
            obtain ⟨b', o', X, mx, cx, e1, hP, x0, x1, x2, x3, x4, hmc, hrd, hbb⟩ := hlts.get hx
            injection e1 with e1
            injection e1 with e1 e2
            subst e1 e2
            have K1 := HB1.out.below htw.bl
            have K2 := HB2.out.below htw.bl
            have p0 := K1.cell 0
            have p1 := K1.cell 1
            have p2 := K2.cell 0
            have p3 := K2.cell 1
            have HTW := Lib.hid htw
            have HCUT := Lib.hid hcut
            have HSZ := Lib.hid hsz
            have HROW := Lib.hid hrow
            have HLTS := Lib.hid hlts
            have HNO := Lib.hid hno
            have HX := Lib.hid hx
            have i0 : (0 : Int) ≤ (k2 : Int) := by omega
            have i1 : (k2 : Int) < (r : Int) := by omega
            clear htw hcut hsz hrow hlts hno hx hmc hrd hbb K1 K2 hkl hP
            simp only [Nat.zero_add] at x0 x1 x2 x3 x4
            obtain ⟨⟨fg, fn⟩, ⟨tg, tn⟩, xb⟩ := x
            dsimp only at *
            go_wp2_with fail
            obtain ⟨e1, he1⟩ : ∃ e1, e1 = decide ((⟨fg, fn⟩ : Ad) = a) := ⟨_, rfl⟩
            obtain ⟨e2, he2⟩ : ∃ e2, e2 = decide ((⟨tg, tn⟩ : Ad) = b) := ⟨_, rfl⟩
            obtain ⟨e3, he3⟩ : ∃ e3, e3 = decide ((⟨fg, fn⟩ : Ad) = b) := ⟨_, rfl⟩
            obtain ⟨e4, he4⟩ : ∃ e4, e4 = decide ((⟨tg, tn⟩ : Ad) = a) := ⟨_, rfl⟩
            have q1 := eq_addr fg fn a
            have q2 := eq_addr tg tn b
            have q3 := eq_addr fg fn b
            have q4 := eq_addr tg tn a
            rw [← he1] at q1
            rw [← he2] at q2
            rw [← he3] at q3
            rw [← he4] at q4
            have HE := Lib.hid (And.intro he1 (And.intro he2 (And.intro he3 he4)))
            clear he1 he2 he3 he4
            have hab : ¬ a = b := by
              have := HLK.out
              unfold Nt.link at this
              simp at this
              exact this.1.1
            cases e1
            · cases e3
              · clear hab
                refine ws_tail 33 (by kernel_rfl) (by kernel_rfl) ?_
                simp only [List.take_succ_cons, List.take_zero, List.drop_succ_cons, List.drop_zero]
                iterate 8
                  refine ws_want (by kernel_rfl) ?_
                  apply Exists.intro
                  refine And.intro ?_ ?_
                  · unfold StillAt
                    first
                      | (go_simp; done)
                      | (go_simp; exact rfl)
                  try simp only [Act.put, List.setIfInBounds_toArray, List.set_cons_zero, List.set_cons_succ]
                iterate 7
                  refine ws_skip (by kernel_rfl) ?_
                  try simp only [Act.put, List.setIfInBounds_toArray, List.set_cons_zero, List.set_cons_succ]
                iterate 10
                  refine ws_want (by kernel_rfl) ?_
                  apply Exists.intro
                  refine And.intro ?_ ?_
                  · unfold StillAt
                    first
                      | (go_simp; done)
                      | (go_simp; exact rfl)
                  try simp only [Act.put, List.setIfInBounds_toArray, List.set_cons_zero, List.set_cons_succ]
                iterate 7
                  refine ws_skip (by kernel_rfl) ?_
                  try simp only [Act.put, List.setIfInBounds_toArray, List.set_cons_zero, List.set_cons_succ]
                refine ws_want (by kernel_rfl) ?_
                apply Exists.intro
                refine And.intro ?_ ?_
                · unfold StillAt
                  first
                    | (go_simp; done)
                    | (go_simp; exact rfl)
                try simp only [Act.put, List.setIfInBounds_toArray, List.set_cons_zero, List.set_cons_succ]
                refine ws_nil ?_
                have HOF : Hid (isOn a b ⟨⟨fg, fn⟩, ⟨tg, tn⟩, xb⟩ = false) := by
                  show ((decide ((⟨fg, fn⟩ : Ad) = a) && decide ((⟨tg, tn⟩ : Ad) = b)) || (decide ((⟨fg, fn⟩ : Ad) = b) && decide ((⟨tg, tn⟩ : Ad) = a))) = false
                  rw [← HE.out.1, ← HE.out.2.1, ← HE.out.2.2.1, ← HE.out.2.2.2]
                  first | rfl | simp
                clear HE q1 q2 q3 q4
                change wpList _ _ _ _ _ wr.drew
                have hcu : ¬ y.cuts (⟨fg, fn⟩ : Ad) ⟨tg, tn⟩ = true := by
                  unfold Nt.cuts
                  rw [HCUT.out]
                  unfold cut1
                  rw [if_neg (fun e => by have := (isOn_iff a b ⟨⟨fg, fn⟩, ⟨tg, tn⟩, xb⟩).2 e; rw [HOF.out] at this; cases this)]
                  simp [cut0]
                have hyl : y.row[leftI a b ls k2]? = some ⟨⟨fg, fn⟩, ⟨tg, tn⟩, xb⟩ := by rw [HROW.out]; exact left_get HX.out
                have hok : y.okAt (leftI a b ls k2 : Int) = true := okAt_iff.2 ⟨_, rfl, (List.getElem?_eq_some_iff.1 hyl).1⟩
                have htk : y.take (leftI a b ls k2 : Int) = (y.out (leftI a b ls k2), ⟨⟨fg, fn⟩, ⟨tg, tn⟩, xb⟩, 0) := by
                  have e : y.row.getD ((leftI a b ls k2 : Nat) : Int).toNat lt0 = ⟨⟨fg, fn⟩, ⟨tg, tn⟩, xb⟩ := by
                    rw [Int.toNat_natCast, List.getD_eq_getElem?_getD, hyl]
                    rfl
                  unfold Nt.take
                  rw [if_neg (by rw [hok]; simp), e, if_neg hcu, Int.toNat_natCast]
                have CT0 := Take_any (HTW.out.a.below (below_drewN (Below.refl _ wr) 1)) (leftI a b ls k2 : Int)
                rw [htk] at CT0
                have CT := Lib.hid CT0
                have HLI := Lib.hid (left_off HX.out HOF.out)
                have hli := leftI_le a b ls k2
                clear hcu hyl hok htk CT0
                go_wp2_with fail
                refine CT.out.mono ?_
                rintro e w3 ⟨O7, Bx, mx, cx2, rfl, hmc, hrd, -, hs3, hg3⟩
                dsimp only at hs3 hg3 hmc hrd ⊢
                obtain ⟨x, hx⟩ : ∃ x : Lt, x = ⟨⟨fg, fn⟩, ⟨tg, tn⟩, xb⟩ := ⟨_, rfl⟩
                have ht3 := (HTW.out.later (below_drewN (Below.refl _ wr) 1)).nextA hs3 hg3
                have hwb : Below w3.heap.size w3 (w3.alloc (.cells (ltA x (.slice Bx mx cx2)) 37)) := (Below.refl _ _).alloc (Nat.le_refl _) _
                have hlt3 : LtS (fun x => g ≤ x ∧ x < E) w3 (some ⟨g, 0, none⟩) r ls := (HLTS.out.below (below_drewN (Below.refl _ wr) 1)).out hg3.1 fun q hq hqa => (HNO.out q hq).1 hqa
                have hno3 : ∀ x, (g ≤ x ∧ x < E) → ¬ O7 x ∧ ¬ B x := fun q hq => ⟨fun hqa => by
                  rcases hg3.2 q hqa with h1 | h1
                  · exact (HNO.out q hq).1 h1
                  · have e9 : (wr.drewN 1).heap.size = wr.heap.size := rfl
                    have h2 : q < wr.heap.size := by have := HEW.out; have := HTW.out.bl.size; omega
                    omega, (HNO.out q hq).2⟩
                have HREL : ∀ V, Below (w3.alloc (.cells (ltA x (.slice Bx mx cx2)) 37)).heap.size (w3.alloc (.cells (ltA x (.slice Bx mx cx2)) 37)) V → Rel2 w1 ga gb a b g E z ls r (.int .i64 (leftI a b ls k2 : Int)) (.int .i64 ((k2 + 1 : Nat) : Int)) V := fun V hV => by
                  refine ⟨k2 + 1, O7, B, y.out (leftI a b ls k2), by omega, rfl, ?_, (ht3.later hwb).later hV, HCUT.out, HSZ.out, ?_, (hlt3.below hwb).below hV, hno3, ?_⟩
                  · rw [HLI.out.2]
                  · show y.row.eraseIdx _ = _
                    rw [HLI.out.1, HROW.out]
                  · have h9 := HEW.out
                    have h8 := hV.size
                    have h7 := hwb.size
                    have h6 := hg3.1.size
                    have e9 : (wr.drewN 1).heap.size = wr.heap.size := rfl
                    omega
                have HREL := Lib.hid HREL
                have hbx := Bk.new w3 37 (ltA x (.slice Bx mx cx2))
                have HBX := Lib.hid hbx
                have HL4 := Lib.hid (hlt3.below hwb)
                have hrd' : Rd w3 Bx mx x.bs := by rw [hx]; exact hrd
                have HR4 := Lib.hid (And.intro hmc (hrd'.below hwb))
                have hxk : ls[k2]? = some x := by rw [hx]; exact HX.out
                have HXK := Lib.hid hxk
                have HXE := Lib.hid hx
                clear hs3 hg3 ht3 hlt3 hno3 CT hmc hrd hrd' hbx hwb hxk
                unfold ltV
                rw [← hx]
                clear hx
                generalize hw4 : w3.alloc (.cells (ltA x (.slice Bx mx cx2)) 37) = W4 at *
                have HW4D : Hid (Below W4.heap.size W4 W4.drew) := below_drewN (Below.refl _ W4) 1
                obtain ⟨z0, z1, z2, z3, z4⟩ := bk_cells5 HBX.out
                have hsl : ∀ V' : World, (Instr.slice 46 (.slice (some ⟨g, 0, none⟩) r r) (some (.int .i64 (k2 : Int))) (some (.int .i64 ((k2 : Int) + 1))) none).run Try.prog V' = .ok (.slice (some ⟨g, k2 * 5, none⟩) 1 (r - k2)) V' := fun V' => by
                  have ht : Try.prog.underlying 46 = some (.slice (Try.prog.elem 46)) := by kernel_rfl
                  have hsz : (sizeOf (Try.prog.elem 46)).run Try.prog V' = .ok 5 V' := by kernel_rfl
                  rw [run_slice_lh V' _ _ _ _ ht .i64 .i64 (k2 : Int) ((k2 : Int) + 1) (by omega) (by omega) (by omega), hsz]
                  have e1 : ((k2 : Int) + 1).toNat = k2 + 1 := by omega
                  have e2 : ¬ r = k2 := by omega
                  simp only [Result.andThen, sliced, e1, Int.toNat_natCast, e2, if_false, Option.map_some, plus_add, Nat.add_sub_cancel_left]
                have CSAME : Hid (∀ V', Below W4.heap.size W4 V' → Bk V' W4.heap.size 37 (ltA x (.slice Bx mx cx2)) → Calls Try.prog 16 #[.slice (some ⟨W4.heap.size, 0, none⟩) 1 1, .slice (some ⟨g, k2 * 5, none⟩) 1 (r - k2)] V' (SameP true V')) := fun V' hb hbk => by
                  have h1 : LtS (fun _ => True) V' (some ⟨W4.heap.size, 0, none⟩) 1 [x] := lts_one hbk trivial HR4.out.1 (HR4.out.2.below hb) fun _ _ _ => trivial
                  have h2 := ((HL4.out.below hb).drop k2).take (k := 1) (by omega)
                  have e4 : (ls.drop k2).take 1 = [x] := by
                    rw [(take_next' HXK.out).2]
                    rfl
                  rw [e4, Nat.zero_add] at h2
                  have := Same_any h1 h2 1 (r - k2) (by omega) (by omega)
                  rw [decide_eq_true rfl] at this
                  exact this
                have HB1 : Hid (Below W4.heap.size W4 (W4.alloc (.cells (ltA x (.slice Bx mx cx2)) 37)).drew) := below_drewN ((Below.refl _ _).alloc (Nat.le_refl _) _) 1
                have CS1 := Lib.hid (CSAME.out _ HB1.out (Bk.new W4 37 (ltA x (.slice Bx mx cx2))))
                have HSD : Hid (∀ V', Below W4.heap.size W4 V' → (V'.cell? ⟨w3.heap.size, 0, none⟩ = some (.int .i64 x.fr.g) ∧ V'.cell? ⟨w3.heap.size, 1, none⟩ = some (.int .i64 x.fr.n) ∧ V'.cell? ⟨w3.heap.size, 2, none⟩ = some (.int .i64 x.to.g) ∧ V'.cell? ⟨w3.heap.size, 3, none⟩ = some (.int .i64 x.to.n) ∧ V'.cell? ⟨w3.heap.size, 4, none⟩ = some (.slice Bx mx cx2))) := fun V' hb => bk_cells5 (HBX.out.below hb)
                have HSD0 := Lib.hid (HSD.out _ HW4D.out)
                have HSD1 := Lib.hid (HSD.out _ HB1.out)
                have hwi : IntKind.i64.wrap ((k2 : Int) + 1) = (k2 : Int) + 1 := IntWalk.i64_in _ (by omega)
                have i5 : (k2 : Int) + 1 ≤ (r : Int) := by omega
                unfold ltA at hw4 HB1 CS1 HSD1 ⊢
                clear CSAME
                go_wp2_with fail
                go_region_held3 (fun V' => V'.cell? ⟨w3.heap.size, 0, none⟩ = some (.int .i64 x.fr.g) ∧ V'.cell? ⟨w3.heap.size, 1, none⟩ = some (.int .i64 x.fr.n) ∧ V'.cell? ⟨w3.heap.size, 2, none⟩ = some (.int .i64 x.to.g) ∧ V'.cell? ⟨w3.heap.size, 3, none⟩ = some (.int .i64 x.to.n) ∧ V'.cell? ⟨w3.heap.size, 4, none⟩ = some (.slice Bx mx cx2))
                  (first | (with_reducible assumption) | (with_reducible exact HSD0.out) | (with_reducible exact HSD1.out) | (with_reducible exact HSD2.out))
                  (first | (go_at_call 16; (with_reducible refine CS1.out.mono ?_); rintro e w5 ⟨rfl, hb5⟩; have HB5 := Lib.hid (HB1.out.trans (hb5.mono HB1.out.size)); have HSD2 := Lib.hid (HSD.out _ HB5.out); clear hb5))
                have HR2 := Lib.hid (HREL.out _ HB5.out)
                clear hsl hwi
                go_wp2_with fail
                exact ⟨HR2.out, by simp [intOf]; omega⟩
              · clear hab
                cases e4
                · skip
                  refine ws_tail 33 (by kernel_rfl) (by kernel_rfl) ?_
                  simp only [List.take_succ_cons, List.take_zero, List.drop_succ_cons, List.drop_zero]
                  iterate 8
                    refine ws_want (by kernel_rfl) ?_
                    apply Exists.intro
                    refine And.intro ?_ ?_
                    · unfold StillAt
                      first
                        | (go_simp; done)
                        | (go_simp; exact rfl)
                    try simp only [Act.put, List.setIfInBounds_toArray, List.set_cons_zero, List.set_cons_succ]
                  iterate 7
                    refine ws_skip (by kernel_rfl) ?_
                    try simp only [Act.put, List.setIfInBounds_toArray, List.set_cons_zero, List.set_cons_succ]
                  iterate 18
                    refine ws_want (by kernel_rfl) ?_
                    apply Exists.intro
                    refine And.intro ?_ ?_
                    · unfold StillAt
                      first
                        | (go_simp; done)
                        | (go_simp; exact rfl)
                    try simp only [Act.put, List.setIfInBounds_toArray, List.set_cons_zero, List.set_cons_succ]
                  refine ws_nil ?_
                  have HOF : Hid (isOn a b ⟨⟨fg, fn⟩, ⟨tg, tn⟩, xb⟩ = false) := by
                    show ((decide ((⟨fg, fn⟩ : Ad) = a) && decide ((⟨tg, tn⟩ : Ad) = b)) || (decide ((⟨fg, fn⟩ : Ad) = b) && decide ((⟨tg, tn⟩ : Ad) = a))) = false
                    rw [← HE.out.1, ← HE.out.2.1, ← HE.out.2.2.1, ← HE.out.2.2.2]
                    first | rfl | simp
                  clear HE q1 q2 q3 q4
                  change wpList _ _ _ _ _ wr.drew
                  have hcu : ¬ y.cuts (⟨fg, fn⟩ : Ad) ⟨tg, tn⟩ = true := by
                    unfold Nt.cuts
                    rw [HCUT.out]
                    unfold cut1
                    rw [if_neg (fun e => by have := (isOn_iff a b ⟨⟨fg, fn⟩, ⟨tg, tn⟩, xb⟩).2 e; rw [HOF.out] at this; cases this)]
                    simp [cut0]
                  have hyl : y.row[leftI a b ls k2]? = some ⟨⟨fg, fn⟩, ⟨tg, tn⟩, xb⟩ := by rw [HROW.out]; exact left_get HX.out
                  have hok : y.okAt (leftI a b ls k2 : Int) = true := okAt_iff.2 ⟨_, rfl, (List.getElem?_eq_some_iff.1 hyl).1⟩
                  have htk : y.take (leftI a b ls k2 : Int) = (y.out (leftI a b ls k2), ⟨⟨fg, fn⟩, ⟨tg, tn⟩, xb⟩, 0) := by
                    have e : y.row.getD ((leftI a b ls k2 : Nat) : Int).toNat lt0 = ⟨⟨fg, fn⟩, ⟨tg, tn⟩, xb⟩ := by
                      rw [Int.toNat_natCast, List.getD_eq_getElem?_getD, hyl]
                      rfl
                    unfold Nt.take
                    rw [if_neg (by rw [hok]; simp), e, if_neg hcu, Int.toNat_natCast]
                  have CT0 := Take_any (HTW.out.a.below (below_drewN (Below.refl _ wr) 1)) (leftI a b ls k2 : Int)
                  rw [htk] at CT0
                  have CT := Lib.hid CT0
                  have HLI := Lib.hid (left_off HX.out HOF.out)
                  have hli := leftI_le a b ls k2
                  clear hcu hyl hok htk CT0
                  go_wp2_with fail
                  refine CT.out.mono ?_
                  rintro e w3 ⟨O7, Bx, mx, cx2, rfl, hmc, hrd, -, hs3, hg3⟩
                  dsimp only at hs3 hg3 hmc hrd ⊢
                  obtain ⟨x, hx⟩ : ∃ x : Lt, x = ⟨⟨fg, fn⟩, ⟨tg, tn⟩, xb⟩ := ⟨_, rfl⟩
                  have ht3 := (HTW.out.later (below_drewN (Below.refl _ wr) 1)).nextA hs3 hg3
                  have hwb : Below w3.heap.size w3 (w3.alloc (.cells (ltA x (.slice Bx mx cx2)) 37)) := (Below.refl _ _).alloc (Nat.le_refl _) _
                  have hlt3 : LtS (fun x => g ≤ x ∧ x < E) w3 (some ⟨g, 0, none⟩) r ls := (HLTS.out.below (below_drewN (Below.refl _ wr) 1)).out hg3.1 fun q hq hqa => (HNO.out q hq).1 hqa
                  have hno3 : ∀ x, (g ≤ x ∧ x < E) → ¬ O7 x ∧ ¬ B x := fun q hq => ⟨fun hqa => by
                    rcases hg3.2 q hqa with h1 | h1
                    · exact (HNO.out q hq).1 h1
                    · have e9 : (wr.drewN 1).heap.size = wr.heap.size := rfl
                      have h2 : q < wr.heap.size := by have := HEW.out; have := HTW.out.bl.size; omega
                      omega, (HNO.out q hq).2⟩
                  have HREL : ∀ V, Below (w3.alloc (.cells (ltA x (.slice Bx mx cx2)) 37)).heap.size (w3.alloc (.cells (ltA x (.slice Bx mx cx2)) 37)) V → Rel2 w1 ga gb a b g E z ls r (.int .i64 (leftI a b ls k2 : Int)) (.int .i64 ((k2 + 1 : Nat) : Int)) V := fun V hV => by
                    refine ⟨k2 + 1, O7, B, y.out (leftI a b ls k2), by omega, rfl, ?_, (ht3.later hwb).later hV, HCUT.out, HSZ.out, ?_, (hlt3.below hwb).below hV, hno3, ?_⟩
                    · rw [HLI.out.2]
                    · show y.row.eraseIdx _ = _
                      rw [HLI.out.1, HROW.out]
                    · have h9 := HEW.out
                      have h8 := hV.size
                      have h7 := hwb.size
                      have h6 := hg3.1.size
                      have e9 : (wr.drewN 1).heap.size = wr.heap.size := rfl
                      omega
                  have HREL := Lib.hid HREL
                  have hbx := Bk.new w3 37 (ltA x (.slice Bx mx cx2))
                  have HBX := Lib.hid hbx
                  have HL4 := Lib.hid (hlt3.below hwb)
                  have hrd' : Rd w3 Bx mx x.bs := by rw [hx]; exact hrd
                  have HR4 := Lib.hid (And.intro hmc (hrd'.below hwb))
                  have hxk : ls[k2]? = some x := by rw [hx]; exact HX.out
                  have HXK := Lib.hid hxk
                  have HXE := Lib.hid hx
                  clear hs3 hg3 ht3 hlt3 hno3 CT hmc hrd hrd' hbx hwb hxk
                  unfold ltV
                  rw [← hx]
                  clear hx
                  generalize hw4 : w3.alloc (.cells (ltA x (.slice Bx mx cx2)) 37) = W4 at *
                  have HW4D : Hid (Below W4.heap.size W4 W4.drew) := below_drewN (Below.refl _ W4) 1
                  obtain ⟨z0, z1, z2, z3, z4⟩ := bk_cells5 HBX.out
                  have hsl : ∀ V' : World, (Instr.slice 46 (.slice (some ⟨g, 0, none⟩) r r) (some (.int .i64 (k2 : Int))) (some (.int .i64 ((k2 : Int) + 1))) none).run Try.prog V' = .ok (.slice (some ⟨g, k2 * 5, none⟩) 1 (r - k2)) V' := fun V' => by
                    have ht : Try.prog.underlying 46 = some (.slice (Try.prog.elem 46)) := by kernel_rfl
                    have hsz : (sizeOf (Try.prog.elem 46)).run Try.prog V' = .ok 5 V' := by kernel_rfl
                    rw [run_slice_lh V' _ _ _ _ ht .i64 .i64 (k2 : Int) ((k2 : Int) + 1) (by omega) (by omega) (by omega), hsz]
                    have e1 : ((k2 : Int) + 1).toNat = k2 + 1 := by omega
                    have e2 : ¬ r = k2 := by omega
                    simp only [Result.andThen, sliced, e1, Int.toNat_natCast, e2, if_false, Option.map_some, plus_add, Nat.add_sub_cancel_left]
                  have CSAME : Hid (∀ V', Below W4.heap.size W4 V' → Bk V' W4.heap.size 37 (ltA x (.slice Bx mx cx2)) → Calls Try.prog 16 #[.slice (some ⟨W4.heap.size, 0, none⟩) 1 1, .slice (some ⟨g, k2 * 5, none⟩) 1 (r - k2)] V' (SameP true V')) := fun V' hb hbk => by
                    have h1 : LtS (fun _ => True) V' (some ⟨W4.heap.size, 0, none⟩) 1 [x] := lts_one hbk trivial HR4.out.1 (HR4.out.2.below hb) fun _ _ _ => trivial
                    have h2 := ((HL4.out.below hb).drop k2).take (k := 1) (by omega)
                    have e4 : (ls.drop k2).take 1 = [x] := by
                      rw [(take_next' HXK.out).2]
                      rfl
                    rw [e4, Nat.zero_add] at h2
                    have := Same_any h1 h2 1 (r - k2) (by omega) (by omega)
                    rw [decide_eq_true rfl] at this
                    exact this
                  have HB1 : Hid (Below W4.heap.size W4 (W4.alloc (.cells (ltA x (.slice Bx mx cx2)) 37)).drew) := below_drewN ((Below.refl _ _).alloc (Nat.le_refl _) _) 1
                  have CS1 := Lib.hid (CSAME.out _ HB1.out (Bk.new W4 37 (ltA x (.slice Bx mx cx2))))
                  have HSD : Hid (∀ V', Below W4.heap.size W4 V' → (V'.cell? ⟨w3.heap.size, 0, none⟩ = some (.int .i64 x.fr.g) ∧ V'.cell? ⟨w3.heap.size, 1, none⟩ = some (.int .i64 x.fr.n) ∧ V'.cell? ⟨w3.heap.size, 2, none⟩ = some (.int .i64 x.to.g) ∧ V'.cell? ⟨w3.heap.size, 3, none⟩ = some (.int .i64 x.to.n) ∧ V'.cell? ⟨w3.heap.size, 4, none⟩ = some (.slice Bx mx cx2))) := fun V' hb => bk_cells5 (HBX.out.below hb)
                  have HSD0 := Lib.hid (HSD.out _ HW4D.out)
                  have HSD1 := Lib.hid (HSD.out _ HB1.out)
                  have hwi : IntKind.i64.wrap ((k2 : Int) + 1) = (k2 : Int) + 1 := IntWalk.i64_in _ (by omega)
                  have i5 : (k2 : Int) + 1 ≤ (r : Int) := by omega
                  unfold ltA at hw4 HB1 CS1 HSD1 ⊢
                  clear CSAME
                  go_wp2_with fail
                  go_region_held3 (fun V' => V'.cell? ⟨w3.heap.size, 0, none⟩ = some (.int .i64 x.fr.g) ∧ V'.cell? ⟨w3.heap.size, 1, none⟩ = some (.int .i64 x.fr.n) ∧ V'.cell? ⟨w3.heap.size, 2, none⟩ = some (.int .i64 x.to.g) ∧ V'.cell? ⟨w3.heap.size, 3, none⟩ = some (.int .i64 x.to.n) ∧ V'.cell? ⟨w3.heap.size, 4, none⟩ = some (.slice Bx mx cx2))
                    (first | (with_reducible assumption) | (with_reducible exact HSD0.out) | (with_reducible exact HSD1.out) | (with_reducible exact HSD2.out))
                    (first | (go_at_call 16; (with_reducible refine CS1.out.mono ?_); rintro e w5 ⟨rfl, hb5⟩; have HB5 := Lib.hid (HB1.out.trans (hb5.mono HB1.out.size)); have HSD2 := Lib.hid (HSD.out _ HB5.out); clear hb5))
                  have HR2 := Lib.hid (HREL.out _ HB5.out)
                  clear hsl hwi
                  go_wp2_with fail
                  exact ⟨HR2.out, by simp [intOf]; omega⟩
                · skip
                  refine ws_tail 33 (by kernel_rfl) (by kernel_rfl) ?_
                  simp only [List.take_succ_cons, List.take_zero, List.drop_succ_cons, List.drop_zero]
                  iterate 8
                    refine ws_want (by kernel_rfl) ?_
                    apply Exists.intro
                    refine And.intro ?_ ?_
                    · unfold StillAt
                      first
                        | (go_simp; done)
                        | (go_simp; exact rfl)
                    try simp only [Act.put, List.setIfInBounds_toArray, List.set_cons_zero, List.set_cons_succ]
                  iterate 7
                    refine ws_skip (by kernel_rfl) ?_
                    try simp only [Act.put, List.setIfInBounds_toArray, List.set_cons_zero, List.set_cons_succ]
                  iterate 18
                    refine ws_want (by kernel_rfl) ?_
                    apply Exists.intro
                    refine And.intro ?_ ?_
                    · unfold StillAt
                      first
                        | (go_simp; done)
                        | (go_simp; exact rfl)
                    try simp only [Act.put, List.setIfInBounds_toArray, List.set_cons_zero, List.set_cons_succ]
                  refine ws_nil ?_
                  have HON : Hid (isOn a b ⟨⟨fg, fn⟩, ⟨tg, tn⟩, xb⟩ = true) := by
                    show ((decide ((⟨fg, fn⟩ : Ad) = a) && decide ((⟨tg, tn⟩ : Ad) = b)) || (decide ((⟨fg, fn⟩ : Ad) = b) && decide ((⟨tg, tn⟩ : Ad) = a))) = true
                    rw [← HE.out.1, ← HE.out.2.1, ← HE.out.2.2.1, ← HE.out.2.2.2]
                    rfl
                  clear HE q1 q2 q3 q4
                  change wpList _ _ _ _ _ wr.drew
                  have hcu : y.cuts (⟨fg, fn⟩ : Ad) ⟨tg, tn⟩ = true := by
                    unfold Nt.cuts
                    rw [HCUT.out]
                    unfold cut1
                    rw [if_pos ((isOn_iff a b _).1 HON.out)]
                  have hyl : y.row[leftI a b ls k2]? = some ⟨⟨fg, fn⟩, ⟨tg, tn⟩, xb⟩ := by rw [HROW.out]; exact left_get HX.out
                  have hok : y.okAt (leftI a b ls k2 : Int) = true := okAt_iff.2 ⟨_, rfl, (List.getElem?_eq_some_iff.1 hyl).1⟩
                  have htk : y.take (leftI a b ls k2 : Int) = (y, lt0, 65) := by
                    have e : y.row.getD ((leftI a b ls k2 : Nat) : Int).toNat lt0 = ⟨⟨fg, fn⟩, ⟨tg, tn⟩, xb⟩ := by
                      rw [Int.toNat_natCast, List.getD_eq_getElem?_getD, hyl]
                      rfl
                    unfold Nt.take
                    rw [if_neg (by rw [hok]; simp), e, if_pos hcu]
                  have CT0 := Take_any (HTW.out.a.below (below_drewN (Below.refl _ wr) 1)) (leftI a b ls k2 : Int)
                  rw [htk] at CT0
                  have CT := Lib.hid CT0
                  have HLI := Lib.hid (left_on HX.out HON.out)
                  have hli := leftI_le a b ls k2
                  clear hcu hyl hok htk CT0
                  go_wp2_with fail
                  refine CT.out.mono ?_
                  rintro e w3 ⟨O7, Bx, mx, cx2, rfl, -, -, -, hs3, hg3⟩
                  dsimp only at hs3 hg3 ⊢
                  have ht3 := (HTW.out.later (below_drewN (Below.refl _ wr) 1)).nextA hs3 hg3
                  have hwb : Below w3.heap.size w3 (w3.alloc (.cells (ltA lt0 (.slice Bx mx cx2)) 37)) := (Below.refl _ _).alloc (Nat.le_refl _) _
                  have hlt3 : LtS (fun x => g ≤ x ∧ x < E) w3 (some ⟨g, 0, none⟩) r ls := (HLTS.out.below (below_drewN (Below.refl _ wr) 1)).out hg3.1 fun q hq hqa => (HNO.out q hq).1 hqa
                  have hno3 : ∀ x, (g ≤ x ∧ x < E) → ¬ O7 x ∧ ¬ B x := fun q hq => ⟨fun hqa => by
                    rcases hg3.2 q hqa with h1 | h1
                    · exact (HNO.out q hq).1 h1
                    · have e9 : (wr.drewN 1).heap.size = wr.heap.size := rfl
                      have h2 : q < wr.heap.size := by have := HEW.out; have := HTW.out.bl.size; omega
                      omega, (HNO.out q hq).2⟩
                  have HREL : ∀ V, Below (w3.alloc (.cells (ltA lt0 (.slice Bx mx cx2)) 37)).heap.size (w3.alloc (.cells (ltA lt0 (.slice Bx mx cx2)) 37)) V → Rel2 w1 ga gb a b g E z ls r (.int .i64 ((leftI a b ls k2 : Int) + 1)) (.int .i64 ((k2 + 1 : Nat) : Int)) V := fun V hV => by
                    refine ⟨k2 + 1, O7, B, y, by omega, rfl, ?_, (ht3.later hwb).later hV, HCUT.out, HSZ.out, ?_, (hlt3.below hwb).below hV, hno3, ?_⟩
                    · rw [HLI.out.2]; rfl
                    · rw [HLI.out.1]; exact HROW.out
                    · have h9 := HEW.out
                      have h8 := hV.size
                      have h7 := hwb.size
                      have h6 := hg3.1.size
                      have e9 : (wr.drewN 1).heap.size = wr.heap.size := rfl
                      omega
                  have HREL := Lib.hid HREL
                  clear hs3 hg3 ht3 hwb hlt3 hno3 CT
                  unfold ltV
                  generalize hw4 : w3.alloc (.cells (ltA lt0 (.slice Bx mx cx2)) 37) = W4 at *
                  unfold ltA lt0 ad0 at hw4
                  unfold ltA lt0 ad0
                  dsimp only at hw4 ⊢
                  go_wp2_with fail
                  go_quiet (fail)
                  have HR2 := Lib.hid (HREL.out (W4.drewN nq) (below_drewN (Below.refl _ W4) nq))
                  go_wp2_with fail
                  exact ⟨HR2.out, by simp [intOf]; omega⟩
            · cases e2
              · cases e3
                · clear hab
                  refine ws_tail 33 (by kernel_rfl) (by kernel_rfl) ?_
                  simp only [List.take_succ_cons, List.take_zero, List.drop_succ_cons, List.drop_zero]
                  iterate 25
                    refine ws_want (by kernel_rfl) ?_
                    apply Exists.intro
                    refine And.intro ?_ ?_
                    · unfold StillAt
                      first
                        | (go_simp; done)
                        | (go_simp; exact rfl)
                    try simp only [Act.put, List.setIfInBounds_toArray, List.set_cons_zero, List.set_cons_succ]
                  iterate 7
                    refine ws_skip (by kernel_rfl) ?_
                    try simp only [Act.put, List.setIfInBounds_toArray, List.set_cons_zero, List.set_cons_succ]
                  refine ws_want (by kernel_rfl) ?_
                  apply Exists.intro
                  refine And.intro ?_ ?_
                  · unfold StillAt
                    first
                      | (go_simp; done)
                      | (go_simp; exact rfl)
                  try simp only [Act.put, List.setIfInBounds_toArray, List.set_cons_zero, List.set_cons_succ]
                  refine ws_nil ?_
                  have HOF : Hid (isOn a b ⟨⟨fg, fn⟩, ⟨tg, tn⟩, xb⟩ = false) := by
                    show ((decide ((⟨fg, fn⟩ : Ad) = a) && decide ((⟨tg, tn⟩ : Ad) = b)) || (decide ((⟨fg, fn⟩ : Ad) = b) && decide ((⟨tg, tn⟩ : Ad) = a))) = false
                    rw [← HE.out.1, ← HE.out.2.1, ← HE.out.2.2.1, ← HE.out.2.2.2]
                    first | rfl | simp
                  clear HE q1 q2 q3 q4
                  change wpList _ _ _ _ _ wr.drew
                  have hcu : ¬ y.cuts (⟨fg, fn⟩ : Ad) ⟨tg, tn⟩ = true := by
                    unfold Nt.cuts
                    rw [HCUT.out]
                    unfold cut1
                    rw [if_neg (fun e => by have := (isOn_iff a b ⟨⟨fg, fn⟩, ⟨tg, tn⟩, xb⟩).2 e; rw [HOF.out] at this; cases this)]
                    simp [cut0]
                  have hyl : y.row[leftI a b ls k2]? = some ⟨⟨fg, fn⟩, ⟨tg, tn⟩, xb⟩ := by rw [HROW.out]; exact left_get HX.out
                  have hok : y.okAt (leftI a b ls k2 : Int) = true := okAt_iff.2 ⟨_, rfl, (List.getElem?_eq_some_iff.1 hyl).1⟩
                  have htk : y.take (leftI a b ls k2 : Int) = (y.out (leftI a b ls k2), ⟨⟨fg, fn⟩, ⟨tg, tn⟩, xb⟩, 0) := by
                    have e : y.row.getD ((leftI a b ls k2 : Nat) : Int).toNat lt0 = ⟨⟨fg, fn⟩, ⟨tg, tn⟩, xb⟩ := by
                      rw [Int.toNat_natCast, List.getD_eq_getElem?_getD, hyl]
                      rfl
                    unfold Nt.take
                    rw [if_neg (by rw [hok]; simp), e, if_neg hcu, Int.toNat_natCast]
                  have CT0 := Take_any (HTW.out.a.below (below_drewN (Below.refl _ wr) 1)) (leftI a b ls k2 : Int)
                  rw [htk] at CT0
                  have CT := Lib.hid CT0
                  have HLI := Lib.hid (left_off HX.out HOF.out)
                  have hli := leftI_le a b ls k2
                  clear hcu hyl hok htk CT0
                  go_wp2_with fail
                  refine CT.out.mono ?_
                  rintro e w3 ⟨O7, Bx, mx, cx2, rfl, hmc, hrd, -, hs3, hg3⟩
                  dsimp only at hs3 hg3 hmc hrd ⊢
                  obtain ⟨x, hx⟩ : ∃ x : Lt, x = ⟨⟨fg, fn⟩, ⟨tg, tn⟩, xb⟩ := ⟨_, rfl⟩
                  have ht3 := (HTW.out.later (below_drewN (Below.refl _ wr) 1)).nextA hs3 hg3
                  have hwb : Below w3.heap.size w3 (w3.alloc (.cells (ltA x (.slice Bx mx cx2)) 37)) := (Below.refl _ _).alloc (Nat.le_refl _) _
                  have hlt3 : LtS (fun x => g ≤ x ∧ x < E) w3 (some ⟨g, 0, none⟩) r ls := (HLTS.out.below (below_drewN (Below.refl _ wr) 1)).out hg3.1 fun q hq hqa => (HNO.out q hq).1 hqa
                  have hno3 : ∀ x, (g ≤ x ∧ x < E) → ¬ O7 x ∧ ¬ B x := fun q hq => ⟨fun hqa => by
                    rcases hg3.2 q hqa with h1 | h1
                    · exact (HNO.out q hq).1 h1
                    · have e9 : (wr.drewN 1).heap.size = wr.heap.size := rfl
                      have h2 : q < wr.heap.size := by have := HEW.out; have := HTW.out.bl.size; omega
                      omega, (HNO.out q hq).2⟩
                  have HREL : ∀ V, Below (w3.alloc (.cells (ltA x (.slice Bx mx cx2)) 37)).heap.size (w3.alloc (.cells (ltA x (.slice Bx mx cx2)) 37)) V → Rel2 w1 ga gb a b g E z ls r (.int .i64 (leftI a b ls k2 : Int)) (.int .i64 ((k2 + 1 : Nat) : Int)) V := fun V hV => by
                    refine ⟨k2 + 1, O7, B, y.out (leftI a b ls k2), by omega, rfl, ?_, (ht3.later hwb).later hV, HCUT.out, HSZ.out, ?_, (hlt3.below hwb).below hV, hno3, ?_⟩
                    · rw [HLI.out.2]
                    · show y.row.eraseIdx _ = _
                      rw [HLI.out.1, HROW.out]
                    · have h9 := HEW.out
                      have h8 := hV.size
                      have h7 := hwb.size
                      have h6 := hg3.1.size
                      have e9 : (wr.drewN 1).heap.size = wr.heap.size := rfl
                      omega
                  have HREL := Lib.hid HREL
                  have hbx := Bk.new w3 37 (ltA x (.slice Bx mx cx2))
                  have HBX := Lib.hid hbx
                  have HL4 := Lib.hid (hlt3.below hwb)
                  have hrd' : Rd w3 Bx mx x.bs := by rw [hx]; exact hrd
                  have HR4 := Lib.hid (And.intro hmc (hrd'.below hwb))
                  have hxk : ls[k2]? = some x := by rw [hx]; exact HX.out
                  have HXK := Lib.hid hxk
                  have HXE := Lib.hid hx
                  clear hs3 hg3 ht3 hlt3 hno3 CT hmc hrd hrd' hbx hwb hxk
                  unfold ltV
                  rw [← hx]
                  clear hx
                  generalize hw4 : w3.alloc (.cells (ltA x (.slice Bx mx cx2)) 37) = W4 at *
                  have HW4D : Hid (Below W4.heap.size W4 W4.drew) := below_drewN (Below.refl _ W4) 1
                  obtain ⟨z0, z1, z2, z3, z4⟩ := bk_cells5 HBX.out
                  have hsl : ∀ V' : World, (Instr.slice 46 (.slice (some ⟨g, 0, none⟩) r r) (some (.int .i64 (k2 : Int))) (some (.int .i64 ((k2 : Int) + 1))) none).run Try.prog V' = .ok (.slice (some ⟨g, k2 * 5, none⟩) 1 (r - k2)) V' := fun V' => by
                    have ht : Try.prog.underlying 46 = some (.slice (Try.prog.elem 46)) := by kernel_rfl
                    have hsz : (sizeOf (Try.prog.elem 46)).run Try.prog V' = .ok 5 V' := by kernel_rfl
                    rw [run_slice_lh V' _ _ _ _ ht .i64 .i64 (k2 : Int) ((k2 : Int) + 1) (by omega) (by omega) (by omega), hsz]
                    have e1 : ((k2 : Int) + 1).toNat = k2 + 1 := by omega
                    have e2 : ¬ r = k2 := by omega
                    simp only [Result.andThen, sliced, e1, Int.toNat_natCast, e2, if_false, Option.map_some, plus_add, Nat.add_sub_cancel_left]
                  have CSAME : Hid (∀ V', Below W4.heap.size W4 V' → Bk V' W4.heap.size 37 (ltA x (.slice Bx mx cx2)) → Calls Try.prog 16 #[.slice (some ⟨W4.heap.size, 0, none⟩) 1 1, .slice (some ⟨g, k2 * 5, none⟩) 1 (r - k2)] V' (SameP true V')) := fun V' hb hbk => by
                    have h1 : LtS (fun _ => True) V' (some ⟨W4.heap.size, 0, none⟩) 1 [x] := lts_one hbk trivial HR4.out.1 (HR4.out.2.below hb) fun _ _ _ => trivial
                    have h2 := ((HL4.out.below hb).drop k2).take (k := 1) (by omega)
                    have e4 : (ls.drop k2).take 1 = [x] := by
                      rw [(take_next' HXK.out).2]
                      rfl
                    rw [e4, Nat.zero_add] at h2
                    have := Same_any h1 h2 1 (r - k2) (by omega) (by omega)
                    rw [decide_eq_true rfl] at this
                    exact this
                  have HB1 : Hid (Below W4.heap.size W4 (W4.alloc (.cells (ltA x (.slice Bx mx cx2)) 37)).drew) := below_drewN ((Below.refl _ _).alloc (Nat.le_refl _) _) 1
                  have CS1 := Lib.hid (CSAME.out _ HB1.out (Bk.new W4 37 (ltA x (.slice Bx mx cx2))))
                  have HSD : Hid (∀ V', Below W4.heap.size W4 V' → (V'.cell? ⟨w3.heap.size, 0, none⟩ = some (.int .i64 x.fr.g) ∧ V'.cell? ⟨w3.heap.size, 1, none⟩ = some (.int .i64 x.fr.n) ∧ V'.cell? ⟨w3.heap.size, 2, none⟩ = some (.int .i64 x.to.g) ∧ V'.cell? ⟨w3.heap.size, 3, none⟩ = some (.int .i64 x.to.n) ∧ V'.cell? ⟨w3.heap.size, 4, none⟩ = some (.slice Bx mx cx2))) := fun V' hb => bk_cells5 (HBX.out.below hb)
                  have HSD0 := Lib.hid (HSD.out _ HW4D.out)
                  have HSD1 := Lib.hid (HSD.out _ HB1.out)
                  have hwi : IntKind.i64.wrap ((k2 : Int) + 1) = (k2 : Int) + 1 := IntWalk.i64_in _ (by omega)
                  have i5 : (k2 : Int) + 1 ≤ (r : Int) := by omega
                  unfold ltA at hw4 HB1 CS1 HSD1 ⊢
                  clear CSAME
                  go_wp2_with fail
                  go_region_held3 (fun V' => V'.cell? ⟨w3.heap.size, 0, none⟩ = some (.int .i64 x.fr.g) ∧ V'.cell? ⟨w3.heap.size, 1, none⟩ = some (.int .i64 x.fr.n) ∧ V'.cell? ⟨w3.heap.size, 2, none⟩ = some (.int .i64 x.to.g) ∧ V'.cell? ⟨w3.heap.size, 3, none⟩ = some (.int .i64 x.to.n) ∧ V'.cell? ⟨w3.heap.size, 4, none⟩ = some (.slice Bx mx cx2))
                    (first | (with_reducible assumption) | (with_reducible exact HSD0.out) | (with_reducible exact HSD1.out) | (with_reducible exact HSD2.out))
                    (first | (go_at_call 16; (with_reducible refine CS1.out.mono ?_); rintro e w5 ⟨rfl, hb5⟩; have HB5 := Lib.hid (HB1.out.trans (hb5.mono HB1.out.size)); have HSD2 := Lib.hid (HSD.out _ HB5.out); clear hb5))
                  have HR2 := Lib.hid (HREL.out _ HB5.out)
                  clear hsl hwi
                  go_wp2_with fail
                  exact ⟨HR2.out, by simp [intOf]; omega⟩
                · exfalso
                  have h1 := of_decide_eq_true HE.out.1.symm
                  have h3 := of_decide_eq_true HE.out.2.2.1.symm
                  exact hab (h1.symm.trans h3)
              · clear hab
                refine ws_tail 33 (by kernel_rfl) (by kernel_rfl) ?_
                simp only [List.take_succ_cons, List.take_zero, List.drop_succ_cons, List.drop_zero]
                iterate 17
                  refine ws_want (by kernel_rfl) ?_
                  apply Exists.intro
                  refine And.intro ?_ ?_
                  · unfold StillAt
                    first
                      | (go_simp; done)
                      | (go_simp; exact rfl)
                  try simp only [Act.put, List.setIfInBounds_toArray, List.set_cons_zero, List.set_cons_succ]
                iterate 16
                  refine ws_skip (by kernel_rfl) ?_
                  try simp only [Act.put, List.setIfInBounds_toArray, List.set_cons_zero, List.set_cons_succ]
                refine ws_nil ?_
                have HON : Hid (isOn a b ⟨⟨fg, fn⟩, ⟨tg, tn⟩, xb⟩ = true) := by
                  show ((decide ((⟨fg, fn⟩ : Ad) = a) && decide ((⟨tg, tn⟩ : Ad) = b)) || (decide ((⟨fg, fn⟩ : Ad) = b) && decide ((⟨tg, tn⟩ : Ad) = a))) = true
                  rw [← HE.out.1, ← HE.out.2.1, ← HE.out.2.2.1, ← HE.out.2.2.2]
                  rfl
                clear HE q1 q2 q3 q4
                change wpList _ _ _ _ _ wr.drew
                have hcu : y.cuts (⟨fg, fn⟩ : Ad) ⟨tg, tn⟩ = true := by
                  unfold Nt.cuts
                  rw [HCUT.out]
                  unfold cut1
                  rw [if_pos ((isOn_iff a b _).1 HON.out)]
                have hyl : y.row[leftI a b ls k2]? = some ⟨⟨fg, fn⟩, ⟨tg, tn⟩, xb⟩ := by rw [HROW.out]; exact left_get HX.out
                have hok : y.okAt (leftI a b ls k2 : Int) = true := okAt_iff.2 ⟨_, rfl, (List.getElem?_eq_some_iff.1 hyl).1⟩
                have htk : y.take (leftI a b ls k2 : Int) = (y, lt0, 65) := by
                  have e : y.row.getD ((leftI a b ls k2 : Nat) : Int).toNat lt0 = ⟨⟨fg, fn⟩, ⟨tg, tn⟩, xb⟩ := by
                    rw [Int.toNat_natCast, List.getD_eq_getElem?_getD, hyl]
                    rfl
                  unfold Nt.take
                  rw [if_neg (by rw [hok]; simp), e, if_pos hcu]
                have CT0 := Take_any (HTW.out.a.below (below_drewN (Below.refl _ wr) 1)) (leftI a b ls k2 : Int)
                rw [htk] at CT0
                have CT := Lib.hid CT0
                have HLI := Lib.hid (left_on HX.out HON.out)
                have hli := leftI_le a b ls k2
                clear hcu hyl hok htk CT0
                go_wp2_with fail
                refine CT.out.mono ?_
                rintro e w3 ⟨O7, Bx, mx, cx2, rfl, -, -, -, hs3, hg3⟩
                dsimp only at hs3 hg3 ⊢
                have ht3 := (HTW.out.later (below_drewN (Below.refl _ wr) 1)).nextA hs3 hg3
                have hwb : Below w3.heap.size w3 (w3.alloc (.cells (ltA lt0 (.slice Bx mx cx2)) 37)) := (Below.refl _ _).alloc (Nat.le_refl _) _
                have hlt3 : LtS (fun x => g ≤ x ∧ x < E) w3 (some ⟨g, 0, none⟩) r ls := (HLTS.out.below (below_drewN (Below.refl _ wr) 1)).out hg3.1 fun q hq hqa => (HNO.out q hq).1 hqa
                have hno3 : ∀ x, (g ≤ x ∧ x < E) → ¬ O7 x ∧ ¬ B x := fun q hq => ⟨fun hqa => by
                  rcases hg3.2 q hqa with h1 | h1
                  · exact (HNO.out q hq).1 h1
                  · have e9 : (wr.drewN 1).heap.size = wr.heap.size := rfl
                    have h2 : q < wr.heap.size := by have := HEW.out; have := HTW.out.bl.size; omega
                    omega, (HNO.out q hq).2⟩
                have HREL : ∀ V, Below (w3.alloc (.cells (ltA lt0 (.slice Bx mx cx2)) 37)).heap.size (w3.alloc (.cells (ltA lt0 (.slice Bx mx cx2)) 37)) V → Rel2 w1 ga gb a b g E z ls r (.int .i64 ((leftI a b ls k2 : Int) + 1)) (.int .i64 ((k2 + 1 : Nat) : Int)) V := fun V hV => by
                  refine ⟨k2 + 1, O7, B, y, by omega, rfl, ?_, (ht3.later hwb).later hV, HCUT.out, HSZ.out, ?_, (hlt3.below hwb).below hV, hno3, ?_⟩
                  · rw [HLI.out.2]; rfl
                  · rw [HLI.out.1]; exact HROW.out
                  · have h9 := HEW.out
                    have h8 := hV.size
                    have h7 := hwb.size
                    have h6 := hg3.1.size
                    have e9 : (wr.drewN 1).heap.size = wr.heap.size := rfl
                    omega
                have HREL := Lib.hid HREL
                clear hs3 hg3 ht3 hwb hlt3 hno3 CT
                unfold ltV
                generalize hw4 : w3.alloc (.cells (ltA lt0 (.slice Bx mx cx2)) 37) = W4 at *
                unfold ltA lt0 ad0 at hw4
                unfold ltA lt0 ad0
                dsimp only at hw4 ⊢
                go_wp2_with fail
                go_quiet (fail)
                have HR2 := Lib.hid (HREL.out (W4.drewN nq) (below_drewN (Below.refl _ W4) nq))
                go_wp2_with fail
                exact ⟨HR2.out, by simp [intOf]; omega⟩
          · skip
            have v2 : ¬ (k2 : Int) < (r : Int) := by omega
            have hkr : k2 = r := by omega
            have hrl : r = ls.length := by rw [HLS.out]; exact HRZ.out
            have hyl : y.row.length = leftI a b ls k2 := by
              rw [hrow]
              unfold leftR leftI
              rw [List.length_append, List.length_drop]
              omega
            have hli := leftI_le a b ls k2
            obtain ⟨q, hq⟩ : ∃ q, q = leftI a b ls k2 := ⟨_, rfl⟩
            have hlk2 : y.link b a = true := by
              rw [link_comm, link_keep hsz]
              exact HLK.out
            have CL0 := Len_any htw.a
            rw [hyl, ← hq] at CL0
            have CL := Lib.hid CL0
            have CH0 := Heal_any htw.a (by decide) b a
            have et : y.turn b a false = ({ y with cut := cut0 }, 0) := by
              unfold Nt.turn
              rw [if_neg (by rw [hlk2]; simp)]
              have e : (fun l => if l = linkOf b a then false else y.cut l) = cut0 := by
                funext l
                rw [hcut, linkOf_comm b a]
                unfold cut1 cut0
                by_cases hl : l = linkOf a b <;> simp [hl]
              rw [e]
            rw [et] at CH0
            have CH := Lib.hid CH0
            unfold adV at CH
            have K1 := HB1.out.below htw.bl
            have K2 := HB2.out.below htw.bl
            have p0 := K1.cell 0
            have p1 := K1.cell 1
            have p2 := K2.cell 0
            have p3 := K2.cell 1
            have HTW := Lib.hid htw
            have HLTS := Lib.hid hlts
            have HNO := Lib.hid hno
            have HQY : Hid (y.row.length = q) := by show _ = _; rw [hyl, hq]
            have hq60 : q ≤ 60 := by omega
            have HNB : Hid (0 + 2 = 2) := rfl
            rw [← hq]
            clear htw hcut hsz hrow hlts hno K1 K2 CL0 CH0 et hyl hlk2 hrl hli hq hkr hlt
            go_wp2_with fail
            refine CL.out.mono ?_
            rintro e w6 ⟨rfl, rfl⟩
            clear CL
            go_wp2_with fail
            refine CH.out.mono ?_
            rintro e w7 ⟨O7, rfl, hs7, hg7⟩
            have ht7 := HTW.out.nextA hs7 hg7
            have hlt7 := HLTS.out.out hg7.1 fun x hx hxa => (HNO.out x hx).1 hxa
            have hno7 : ∀ x, (g ≤ x ∧ x < E) → ¬ O7 x ∧ ¬ B x := fun x hx => ⟨fun hxa => by
              rcases hg7.2 x hxa with h1 | h1
              · exact (HNO.out x hx).1 h1
              · have := HEW.out; omega, (HNO.out x hx).2⟩
            have hew7 : E ≤ w7.heap.size := by have := HEW.out; have := hg7.1.size; omega
            have HREL : Hid (Rel3 w1 ga gb g E z ls r q w7) := ⟨O7, B, _, ht7, rfl, HQY.out, hq60, hlt7, hno7, hew7⟩
            clear hs7 hg7 ht7 hlt7 hno7 hew7 CH HTW HLTS HNO HQY p0 p1 p2 p3 HEW
            go_wp2_with fail
            obtain ⟨wC, hwC⟩ : ∃ wC : World, wC = w7 := ⟨_, rfl⟩
            go_loopg [] q (fun k wr => Rel3 w1 ga gb g E z ls r k wr)
            case atStart => exact HREL.out
            case round =>
              clear HREL
              obtain ⟨A, B, y, htw, hcut, hyl, hgk, hlts, hno, hew⟩ := hrel
              have CL0 := Len_any htw.a
              rw [hyl] at CL0
              have CL := Lib.hid CL0
              have HTW := Lib.hid htw
              have HCUT := Lib.hid hcut
              have HYL := Lib.hid hyl
              have HLTS := Lib.hid hlts
              have HNO := Lib.hid hno
              have HEW := Lib.hid hew
              clear htw hcut hyl hlts hno hew CL0
              by_cases h0 : 0 < gk
              · have i9 : (0 : Int) < (gk : Int) := by omega
                have hok : y.okAt 0 = true := okAt_iff.2 ⟨0, rfl, by rw [HYL.out]; exact h0⟩
                have htk : y.take 0 = (y.out 0, y.row.getD 0 lt0, 0) := by
                  unfold Nt.take Nt.cuts
                  rw [if_neg (by rw [hok]; simp), if_neg (by rw [HCUT.out]; simp [cut0])]
                  rfl
                have CT0 := Take_any HTW.out.a 0
                rw [htk] at CT0
                have CT := Lib.hid CT0
                have HL1 : Hid ((y.out 0).row.length = gk - 1) := by
                  show (y.row.eraseIdx 0).length = _
                  rw [List.length_eraseIdx_of_lt (by rw [HYL.out]; exact h0), HYL.out]
                obtain ⟨x, hx⟩ : ∃ x, x = y.row.getD 0 lt0 := ⟨_, rfl⟩
                rw [← hx] at CT
                clear hok htk CT0 hx
                go_wp2_with fail
                refine CL.out.mono ?_
                rintro e w8 ⟨rfl, rfl⟩
                clear CL
                go_wp2_with fail
                refine CT.out.mono ?_
                rintro e w9 ⟨O9, Bx, mx, cx2, rfl, -, -, -, hs9, hg9⟩
                dsimp only at hs9 hg9 ⊢
                have ht9 := HTW.out.nextA hs9 hg9
                have hlt9 := HLTS.out.out hg9.1 fun x hx hxa => (HNO.out x hx).1 hxa
                have hno9 : ∀ x, (g ≤ x ∧ x < E) → ¬ O9 x ∧ ¬ B x := fun x hx => ⟨fun hxa => by
                  rcases hg9.2 x hxa with h1 | h1
                  · exact (HNO.out x hx).1 h1
                  · have := HEW.out; omega, (HNO.out x hx).2⟩
                have hew9 : E ≤ w9.heap.size := by have := HEW.out; have := hg9.1.size; omega
                have hwb : Below w9.heap.size w9 (w9.alloc (.cells (ltA x (.slice Bx mx cx2)) 37)) := (Below.refl _ _).alloc (Nat.le_refl _) _
                have HREL : Hid (Rel3 w1 ga gb g E z ls r (gk - 1) (w9.alloc (.cells (ltA x (.slice Bx mx cx2)) 37))) := ⟨O9, B, _, ht9.later hwb, HCUT.out, HL1.out, by omega, hlt9.below hwb, hno9, Nat.le_trans hew9 hwb.size⟩
                clear hs9 hg9 ht9 hlt9 hno9 hew9 hwb CT HTW HCUT HYL HLTS HNO HEW
                unfold ltV
                unfold ltA at HREL ⊢
                go_wp2_with fail
                go_roundg (gk - 1)
                case measure => omega
                case rel => exact HREL.out
              · have i9 : ¬ (0 : Int) < (gk : Int) := by omega
                have CLB := Lib.hid (Letters_any HTW.out.b)
                clear h0
                go_wp2_with fail
                refine CL.out.mono ?_
                rintro e w8 ⟨rfl, rfl⟩
                clear CL
                go_wp2_with fail
                refine CLB.out.mono ?_
                rintro e w9 ⟨g9, rfl, -, hlo, hb9⟩
                have h1 := hlo.lts
                have h2 := HLTS.out.below hb9
                have hzl : z.row = ls := HLS.out.symm
                have hrz := HRZ.out
                rw [← hrz] at h1
                have CS0 := Same_any h1 h2 z.row.length r (by omega) (by omega)
                rw [decide_eq_true hzl, ← hrz] at CS0
                rw [← hrz]
                have CS := Lib.hid CS0
                have HB9 : Hid (Below w.heap.size w w9) := HB.out.trans ((HTW.out.bl.trans (hb9.mono HTW.out.bl.size)).mono HB.out.size)
                clear h1 h2 hzl hrz CS0 hlo hb9 CLB
                go_wp2_with fail
                refine CS.out.mono ?_
                rintro e w10 ⟨rfl, hb10⟩
                have HB10 := Lib.hid (HB9.out.trans (hb10.mono HB9.out.size))
                have CGO := Lib.hid (goes_any w10)
                clear hb10 CS
                go_wp2_with fail
                refine CGO.out.mono ?_
                rintro e w11 ⟨rfl, hb11⟩
                have HB11 := Lib.hid (HB10.out.trans (hb11.mono HB10.out.size))
                clear CGO hb11
                go_wp2_with fail
                go_ret
                exact ⟨rfl, HB11.out⟩
      · skip
        have hlk : z.link a b = false := by simpa using hlk
        have et : z.turn a b true = (z, 1) := by unfold Nt.turn; rw [if_pos hlk]
        rw [et] at HT3 ⊢
        have CU0 := Cuts_any HT3.out.a HWA.out HWB.out
        have ecu : z.cuts a b = false := by unfold Nt.cuts; rw [HCUT.out]; rfl
        rw [ecu] at CU0
        have CU := Lib.hid CU0
        unfold adV at CU
        clear et ecu CU0 hlk
        dsimp only
        go_wp2_with fail
        refine CU.out.mono ?_
        rintro e w5 ⟨rfl, hb5⟩
        have HB5 : Hid (Below w.heap.size w w5) := HB.out.trans ((HT3.out.bl.trans (hb5.mono HT3.out.bl.size)).mono HB.out.size)
        have CGO := Lib.hid (goes_any w5)
        clear hb5 CU p0 p1 p2 p3
        go_wp2_with fail
        refine CGO.out.mono ?_
        rintro e w11 ⟨rfl, hb11⟩
        have HB11 := Lib.hid (HB5.out.trans (hb11.mono HB5.out.size))
        clear CGO hb11
        go_wp2_with fail
        go_ret
        exact ⟨rfl, HB11.out⟩
set_option maxRecDepth 100000 in
theorem lifted (os : Os) (started : os.Started) (H : Type) (enc : TypeId × Value → H) :
    ReturnsInHanded {} Try.checked os 5 .any (Rows.netCutsSpec.pre6 enc Try.prog Try.f5 Rows.netCutsRow.domain false) (Rows.netCutsSpec.post enc Try.prog Try.f5 false true false false) := by
  refine returnsInHanded_of_change_sized (C := Try.checked) own started (by kernel_rfl) Try.func5
    (ChangeSpec.witness6 (enc := enc) (C := Try.checked) false ⟨#[], #[.slice none 0 0, .agg #[.int .i64 0, .int .i64 0], .agg #[.int .i64 0, .int .i64 0]], []⟩ 8 (by kernel_rfl) (by kernel_rfl) (by kernel_rfl) (by kernel_rfl)) ?_
  intro W base args ds gs before hval0 hW hcnd hsz _
  have hval : ∀ (j : Nat) t v, Try.f5.params[j]? = some t → args[j]? = some v → Value.okWide Try.prog W .any base t v := hval0
  have hW' := hW
  obtain ⟨p, q, hA0, hV, rfl, hfz, hnd⟩ := hW
  have hA : DataW.TrodAll enc Try.prog W 0 (fun _ => true) true Try.f5.params.toList args.toList ds p := hA0
  rw [Try.params5] at hA hval
  obtain ⟨v0, v1, v2, d0, d1, d2, p0, p1, p2, rfl, rfl, rfl, h0, h1, h2⟩ := trodAll_three hA
  obtain ⟨rfl, rfl⟩ := trodVars_none hV
  obtain ⟨A, n, c, xs, rfl, _, hn, hl, hy⟩ := arg_acts (hval 0 _ v0 rfl rfl) h0 (fun n hn => by have := List.all_eq_true.1 hsz _ (DataW.weights_mem_each (j := 0) (t := 23) rfl rfl n hn); simpa using this)
  obtain ⟨a, rfl, ha⟩ := arg_addr (hval 1 _ v1 rfl rfl) h1
  obtain ⟨b, rfl, hb⟩ := arg_addr (hval 2 _ v2 rfl rfl) h2
  refine (walk A n c a b xs W ha hb hl (Nat.le_trans hn (by decide)) (fun x hx => Nat.le_trans (hy x hx) (by decide))).mono fun e W' ⟨he, hb⟩ => ?_
  subst he
  exact ⟨_, rfl, post_true laidOut (by kernel_rfl) ty_bool (by kernel_rfl) rfl hW' hb rfl⟩

theorem over : Rows.netCutsRow.holds Try.pinned (OpenSpec.ofChange Rows.netCutsSpec) :=
  OpenClaim.holds_of_wide 5 Try.f5 rfl rfl rfl rfl rfl rfl rfl ⟨rfl, rfl, rfl, rfl, rfl⟩ rfl rfl rfl rfl rfl (by kernel_rfl) Try.func5 (by kernel_rfl)
    (of_decide_eq_true (by kernel_rfl)) (by unfold Func.isWrapper; first | (rw [if_pos (by decide +kernel)]; kernel_rfl) | (rw [if_neg (by decide +kernel)]; exact ⟨rfl, rfl⟩))
    (fun os started H enc _ => lifted os started H enc)

theorem proved : Rows.NetCutsSaid :=
  over
end Go.Proofs.Ytephciglcikllaa.netCuts
