/- NetOrder: letters that are taken from the front, one by one, come in the order in which they were sent, held ones behind all others: for all acts and all numbers the call returns true, and nothing that was there has turned. No conditions. -/
import Derived.Test.YtephciglcikllaaNetCutRow
import Derived.Test.YtephciglcikllaaPhaseLate
namespace Go.Proofs.Ytephciglcikllaa.netOrder
open Go.ChangeShapes Go.WideShapes Go.ChangeAt Go.RowKit Disk Zab Sto Net
open Phase (wp_region_late step_stays2 stepsL_cons stepsL_nil reachB)

def zO : Nt := Nt.new [2, 3, 1]
/-- Behind j letters that were held. -/
def Rel2 (w W0 : World) (gz m : Nat) (v i : Value) (wr : World) : Prop := ∃ (j : Nat) (O : Nat → Prop) (z : Nt) (r : Nat) (V : Option Addr) (d : Nat), j ≤ m ∧ i = .int .i64 (j : Int) ∧ v = .slice V r d ∧ r = z.row.length ∧ Sn W0 wr O gz z 0 ∧ z.cut = (fun _ => false) ∧ r ≤ 60 ∧ LtW (fun b => b < w.heap.size) W0.heap.size wr (.slice V r d) z.row ∧ ∀ b, (Value.slice V r d).ownBlock = some b → ¬ O b
/-- Behind j letters that were taken. -/
def Rel3 (w W0 : World) (gz r : Nat) (V : Option Addr) (dv : Nat) (ls : List Lt) (i : Value) (wr : World) : Prop := ∃ (j : Nat) (O : Nat → Prop) (z : Nt), j ≤ r ∧ i = .int .i64 (j : Int) ∧ z.row = ls.drop j ∧ Sn W0 wr O gz z 0 ∧ z.cut = (fun _ => false) ∧ LtW (fun b => b < w.heap.size) W0.heap.size wr (.slice V r dv) ls ∧ ∀ b, (Value.slice V r dv).ownBlock = some b → ¬ O b
/-- Behind k letters that were sent. -/
def Rel1 (w W0 : World) (gz n : Nat) (v i : Value) (wr : World) : Prop := ∃ (k : Nat) (O : Nat → Prop) (z : Nt) (r : Nat) (V : Option Addr) (d : Nat), k ≤ n ∧ i = .int .i64 (k : Int) ∧ v = .slice V r d ∧ r = z.row.length ∧ Sn W0 wr O gz z 0 ∧ z.cut = (fun _ => false) ∧ r ≤ k ∧ LtW (fun b => b < w.heap.size) W0.heap.size wr (.slice V r d) z.row ∧ ∀ b, (Value.slice V r d).ownBlock = some b → ¬ O b
set_option maxRecDepth 100000 in
set_option maxHeartbeats 8000000 in
theorem walk (A B : Option Addr) (n c m d : Nat) (xs : List A1) (hs : List UInt8) (w : World) (h : ActS (fun b => b < w.heap.size) w A n xs) (hn : n ≤ 140737488355328) (hy : ∀ x ∈ xs, x.l.bs.length ≤ 140737488355328) (hr : Rd w B m hs) (hm : m ≤ 140737488355328) : Calls Try.prog 7 #[.slice A n c, .slice B m d] w fun e w' => e = .returned (.bool true) ∧ Below w.heap.size w w' := by
  have CG0 := great_any h c hn hy
  by_cases hg : greatF xs = true
  · rw [hg] at CG0
    have CG := Lib.hid CG0
    clear CG0 h hy hr
    go_enter Try.func7, Try.ntmps7
    go_wp2_with fail
    refine CG.out.mono ?_
    rintro e w1 ⟨rfl, rfl⟩
    go_wp2_with fail
    go_ret
    exact ⟨rfl, Below.refl _ _⟩
  have hg : greatF xs = false := by simpa using hg
  rw [hg] at CG0
  have CG := Lib.hid CG0
  have HG := Lib.hid (great_no hg)
  have HA := Lib.hid h
  have HR := Lib.hid hr
  have hn60 : n ≤ 60 := by have := (great_no hg).1; rw [h.len] at this; exact this
  clear CG0 hg h hy hr
  by_cases h40 : 40 < m
  · have hi : (40 : Int) < (m : Int) := by omega
    go_enter Try.func7, Try.ntmps7
    go_wp2_with fail
    refine CG.out.mono ?_
    rintro e w1 ⟨rfl, rfl⟩
    clear CG
    go_wp2_with fail
    go_ret
    exact ⟨rfl, Below.refl _ _⟩
  have hi40 : ¬ (40 : Int) < (m : Int) := by omega
  have CN := Lib.hid (new_lit [2, 3, 1] (by decide) w)
  have HW0 : Hid (Below w.heap.size w (w.alloc (.cells (iv [2, 3, 1]).toArray 3))) := (Below.refl _ _).alloc (Nat.le_refl _) _
  obtain ⟨W0, hW0⟩ : ∃ W0, W0 = w.alloc (.cells (iv [2, 3, 1]).toArray 3) := ⟨_, rfl⟩
  rw [← hW0] at CN HW0
  have hw := hW0.symm
  clear hW0
  unfold iv at hw
  simp only [List.map_cons, List.map_nil] at hw
  go_enter Try.func7, Try.ntmps7
  go_wp2_with fail
  refine CG.out.mono ?_
  rintro e w1 ⟨rfl, rfl⟩
  clear CG
  go_wp2_with fail
  refine CN.out.mono ?_
  rintro e w2 ⟨gz, O, rfl, hs0⟩
  have HS : Hid (Sn W0 w2 O gz zO 0) := hs0
  clear hs0 CN hw
  go_wp2_with fail
  go_loopw [7, 8] (fun v i wr => Rel1 w1 W0 gz n v i wr) (fun _ i _ => n - (intOf i).toNat)
  case atStart => exact ⟨0, O, zO, 0, none, 0, Nat.zero_le _, rfl, rfl, rfl, HS.out, rfl, Nat.le_refl _, LtW.nil_ _ _ _, fun b hb => by cases hb⟩
  case round =>
    clear HS
    obtain ⟨k, O1, z, r, V, dv, hk, rfl, rfl, hrz, hsn, hcut, hrl, hlw, hno⟩ := hrel
    by_cases hlt : k < n
    · have HBW : Hid (Below w1.heap.size w1 wr) := HW0.out.trans (hsn.bl.mono HW0.out.size)
      have hxl : k < xs.length := by rw [HA.out.len]; exact hlt
      have hx := List.getElem?_eq_getElem hxl
      have hbl := HG.out.2 _ (List.getElem_mem hxl)
      generalize xs[k] = x at hx hbl
      obtain ⟨b, o, X, mx, cx, rfl, hbw, c0, c1, c2, c3, c4, c5, c6, hmc, hrd, hbb, hxok⟩ := (HA.out.below HBW.out).get hx
      have hmx : mx ≤ 200 := by rw [← hrd.len]; exact hbl
      have CS := Lib.hid (hsn.send (l := x.l) hrd hmc (by omega))
      have HSN := Lib.hid hsn
      have HLW := Lib.hid hlw
      have HNO := Lib.hid hno
      have HCUT := Lib.hid hcut
      have HBB := Lib.hid hbb
      have HRD := Lib.hid hrd
      have HAG := Lib.hid (HA.out.below HBW.out)
      have hi0 : (0 : Int) ≤ (k : Int) := by omega
      have hi1 : (k : Int) < (n : Int) := by omega
      have HRZ := Lib.hid hrz
      have HMC := Lib.hid hmc
      have HBWW := Lib.hid hbw
      clear hsn hlw hno hcut hbb hrd hx hbl hxl hbw hxok hmc hrz
      unfold ltV ltA at CS
      go_wp2_with fail
      refine CS.out.mono ?_
      rintro e w3 ⟨O3, rfl, hs3, hg3⟩
      have HS3 := Lib.hid hs3
      have HLW3 : Hid (LtW (fun b => b < w1.heap.size) W0.heap.size w3 (.slice V r dv) z.row) := HLW.out.out hg3.1 (fun b hb hq => by have := (HSN.out.nt.low b hq).1; have := HW0.out.size; omega) fun b hb => HNO.out b hb
      have HNO3 : Hid (∀ b, (Value.slice V r dv).ownBlock = some b → ¬ O3 b) := fun b hb hq => by
        rcases hg3.2 b hq with q | q
        · exact HNO.out b hb q
        · have := (HLW.out.lt b hb).2; omega
      have HBW3 : Hid (Below w1.heap.size w1 w3) := HW0.out.trans (hs3.bl.mono HW0.out.size)
      have HG3 := Lib.hid hg3
      clear hs3 hg3 CS HLW HNO
      rcases send_cases z x.l with ⟨e1, e2⟩ | ⟨e1, e2⟩
      · rw [e2] at HS3
        have hRD3 : Rd w3 X mx x.l.bs := rd_out HRD.out HG3.out.1 fun a ha h0 hq => by have := (HSN.out.nt.low _ hq).1; have := HW0.out.size; have := HBB.out a ha h0; omega
        obtain ⟨v', W4, hrun, hlw4, ho4, hv4⟩ := HLW3.out.snoc HMC.out hRD3 HBB.out (fun b hb => Nat.lt_of_lt_of_le hb HW0.out.size) (by rw [← HRZ.out]; omega) HS3.out.bl.size rfl
        obtain ⟨V4, d4, rfl, -⟩ := hlw4.form
        have e3 : (z.row ++ [x.l]).length = r + 1 := by rw [List.length_append, List.length_singleton, ← HRZ.out]
        rw [e3] at hrun hlw4 hv4
        have HREL : Hid (Rel1 w1 W0 gz n (.slice V4 (r + 1) d4) (.int .i64 ((k + 1 : Nat) : Int)) W4) := by
          refine ⟨k + 1, O3, _, _, V4, d4, by omega, rfl, rfl, e3.symm, HS3.out.out ho4 fun b hb => ⟨HNO3.out b hb, (HLW3.out.lt b hb).1⟩, HCUT.out, ?_, hlw4, fun b hb hq => ?_⟩
          · omega
          · rcases hv4 b hb with q | q
            · exact HNO3.out b q hq
            · have := lt_of_O HS3.out b hq; omega
        have hrun' := Lib.hid hrun
        have ceq : ∀ i, w3.cell? ⟨b, i, none⟩ = wr.cell? ⟨b, i, none⟩ := fun i => (HBW3.out.cell (p := ⟨b, i, none⟩) HBWW.out).trans (HBW.out.cell (p := ⟨b, i, none⟩) HBWW.out).symm
        have d2 := (ceq _).trans c2
        have d3 := (ceq _).trans c3
        have d5 := (ceq _).trans c4
        have d6 := (ceq _).trans c5
        have d7 := (ceq _).trans c6
        clear hlw4 ho4 hv4 hRD3 hrun HLW3 HNO3 ceq c0 c1 c2 c3 c4 c5 c6 e2
        unfold ltA at hrun'
        go_wp2_with (at_builtin; refine wpList_append_of rfl (.tmp 47) (.tmp 53) 46 rfl rfl rfl hrun'.out ?_)
        go_wp2_with fail
        exact ⟨HREL.out, by simp [intOf]; omega⟩
      · rw [e2] at HS3
        have hq : ((z.send x.l).2 == 0) = false := beq_eq_false_iff_ne.2 e1
        have HREL : Hid (Rel1 w1 W0 gz n (.slice V r dv) (.int .i64 ((k + 1 : Nat) : Int)) w3) := ⟨k + 1, O3, z, r, V, dv, by omega, rfl, rfl, HRZ.out, HS3.out, HCUT.out, by omega, HLW3.out, HNO3.out⟩
        clear e1 e2 HLW3 HNO3 c0 c1 c2 c3 c4 c5 c6
        go_wp2_with fail
        exact ⟨HREL.out, by simp [intOf]; omega⟩
    · have v1 : ¬ (k : Int) < (n : Int) := by omega
      have HSN := Lib.hid hsn
      have HLW := Lib.hid hlw
      have HNO := Lib.hid hno
      have HCUT := Lib.hid hcut
      have HRZ := Lib.hid hrz
      have hr60 : r ≤ 60 := by omega
      clear hsn hlw hno hcut hrz hlt HA HG hrl
      go_wp2_with fail
      obtain ⟨wA, rfl⟩ : ∃ wA : World, wA = wr := ⟨_, rfl⟩
      go_loopw [7, 9] (fun v i wr => Rel2 w1 W0 gz m v i wr) (fun _ i _ => m - (intOf i).toNat)
      case atStart => exact ⟨0, O1, z, r, V, dv, Nat.zero_le _, rfl, rfl, HRZ.out, HSN.out, HCUT.out, hr60, HLW.out, HNO.out⟩
      case round =>
        clear HSN HLW HNO HCUT HRZ hr60
        obtain ⟨j, O2, z, r, V, dv, hj, rfl, rfl, hrz, hsn, hcut, hr60, hlw, hno⟩ := hrel
        have HSN := Lib.hid hsn
        have HLW := Lib.hid hlw
        have HNO := Lib.hid hno
        have HCUT := Lib.hid hcut
        have HRZ := Lib.hid hrz
        have HBW : Hid (Below w1.heap.size w1 wr) := HW0.out.trans (hsn.bl.mono HW0.out.size)
        clear hsn hlw hno hcut hrz
        by_cases hgo : j < m ∧ 0 < r
        · obtain ⟨hjm, hr0⟩ := hgo
          obtain ⟨ad, rfl, hcs⟩ := (HR.out.below HBW.out).cells (by omega)
          have hjl : j < hs.length := by rw [HR.out.len]; exact hjm
          have hc := hcs j hs[j] (List.getElem?_eq_getElem hjl)
          generalize hs[j] = byte at hc
          unfold U at hc
          obtain ⟨y, hy⟩ : ∃ y : Nat, y = byte.toNat := ⟨_, rfl⟩
          have hy256 : y < 256 := by rw [hy]; exact UInt8.toNat_lt byte
          rw [← hy] at hc
          obtain ⟨q, hq⟩ : ∃ q, q = y % r := ⟨_, rfl⟩
          have hqr : q < r := by rw [hq]; exact Nat.mod_lt _ hr0
          have hrem : (y : Int) % (r : Int) = (q : Int) := by rw [hq]; rfl
          have hrem2 : (y : Int).tmod (r : Int) = (q : Int) := by rw [hq]; rfl
          have hok : z.okAt (q : Int) = true := okAt_iff.2 ⟨q, rfl, by rw [← HRZ.out]; exact hqr⟩
          have CH0 := HSN.out.hold (q : Int)
          rw [hold_eq HSN.out.nt.ok hok, Int.toNat_natCast] at CH0
          have hrk : q < z.row.length := by rw [← HRZ.out]; exact hqr
          have hgx := List.getElem?_eq_getElem hrk
          have hge : z.row.getD q lt0 = z.row[q] := by rw [List.getD_eq_getElem?_getD, hgx]; rfl
          rw [hge] at CH0
          have CH := Lib.hid CH0
          clear CH0
          generalize z.row[q] = x at hgx CH
          have i0 : (0 : Int) ≤ (j : Int) := by omega
          have i1 : (j : Int) < (m : Int) := by omega
          have i2 : (0 : Int) < (r : Int) := by omega
          have i3 : (r : Int) ≤ 60 := by omega
          have HGX := Lib.hid hgx
          clear hcs hjl hy hq hok hrk hgx hge
          go_wp2_with fail
          refine CH.out.mono ?_
          rintro e w3 ⟨O3, rfl, hs3, hg3⟩
          have HS3 := Lib.hid hs3
          have HLW3 : Hid (LtW (fun b => b < w1.heap.size) W0.heap.size w3 (.slice V r dv) z.row) := HLW.out.out hg3.1 (fun b hb hq => by have := (HSN.out.nt.low b hq).1; have := HW0.out.size; omega) fun b hb => HNO.out b hb
          have HNO3 : Hid (∀ b, (Value.slice V r dv).ownBlock = some b → ¬ O3 b) := fun b hb hq => by
            rcases hg3.2 b hq with q | q
            · exact HNO.out b hb q
            · have := (HLW.out.lt b hb).2; omega
          obtain ⟨b, X, mx, cx, e1, hVl, hVs, hle, c0, c1, c2, c3, c4, hmc, hrd, hbb⟩ := HLW3.out.get HGX.out
          have HX := Lib.hid (And.intro hmc (And.intro hrd hbb))
          subst e1
          clear hs3 hg3 CH HLW HNO hmc hrd hbb
          have i4 : (q : Int) < (r : Int) := by omega
          have i5 : (0 : Int) ≤ (q : Int) := by omega
          have i6 : (r : Int) ≤ (dv : Int) := by omega
          have hwb : Below w3.heap.size w3 (w3.alloc (.cells (ltA x (.slice X mx cx)) 37)) := (Below.refl _ _).alloc (Nat.le_refl _) _
          have hbx := Bk.new w3 37 (ltA x (.slice X mx cx))
          have hLW4 := HLW3.out.below hwb
          have hs4 := HS3.out.later hwb
          have hX4 : Rd (w3.alloc (.cells (ltA x (.slice X mx cx)) 37)) X mx x.bs := HX.out.2.1.below hwb
          have HBX := Lib.hid hbx
          have HS4 := Lib.hid hs4
          have HX4 := Lib.hid hX4
          have HL4 := Lib.hid hLW4
          have hsz4 : (w3.alloc (.cells (ltA x (.slice X mx cx)) 37)).heap.size = w3.heap.size + 1 := by simp
          have HSZ4 := Lib.hid hsz4
          clear hwb hbx hLW4 hs4 hX4 hsz4
          generalize hw4 : w3.alloc (.cells (ltA x (.slice X mx cx)) 37) = W4 at *
          unfold ltA at hw4
          obtain ⟨N4, hN4⟩ : ∃ N4, N4 = W4.heap.size := ⟨_, rfl⟩
          obtain ⟨W5, hW5⟩ : ∃ W5, W5 = (W4.alloc (.cells #[] 37)).drew := ⟨_, rfl⟩
          obtain ⟨a2, v5, W6, v6, W7, ha2, hr5, hr6, hlw7, hb7, hv7⟩ := HL4.out.cuts HRZ.out hqr (by omega) HS4.out.bl.size hW5
          rw [← hN4] at hr5
          have HSL1 : Hid (∀ V : World, (Instr.slice 46 (.slice (some ⟨b, 0, none⟩) r dv) none (some (.int .i64 (q : Int))) none).run Try.prog V = .ok (.slice (some ⟨b, 0, none⟩) q dv) V) := fun V => by
            have ht : Try.prog.underlying 46 = some (.slice (Try.prog.elem 46)) := by kernel_rfl
            have hsz : (sizeOf (Try.prog.elem 46)).run Try.prog V = .ok 5 V := by kernel_rfl
            rw [run_slice_h V _ _ _ _ ht .i64 (q : Int) (by omega) (by omega), hsz]
            simp [Result.andThen, sliced, Addr.add]
          have HSL2 : Hid (∀ V : World, (Instr.slice 46 (.slice (some ⟨b, 0, none⟩) r dv) (some (.int .i64 ((q : Int) + 1))) none none).run Try.prog V = .ok (.slice (some a2) (r - (q + 1)) (dv - (q + 1))) V) := fun V => by
            have ht : Try.prog.underlying 46 = some (.slice (Try.prog.elem 46)) := by kernel_rfl
            have hsz : (sizeOf (Try.prog.elem 46)).run Try.prog V = .ok 5 V := by kernel_rfl
            rw [run_slice_l V _ _ _ _ ht .i64 ((q : Int) + 1) (by omega) (by omega), hsz]
            have e1 : ((q : Int) + 1).toNat = q + 1 := by omega
            simp only [Result.andThen, sliced, e1, ha2]
          obtain ⟨Ws, E0, E1, E2, E3⟩ : ∃ Ws : Nat → World, Hid (Ws 0 = W4.drew) ∧ Hid (Ws 1 = W5) ∧ Hid (Ws 2 = W6) ∧ Hid (Ws 3 = W7) := ⟨fun k => match k with | 0 => W4.drew | 1 => W5 | 2 => W6 | _ => W7, rfl, rfl, rfl, rfl⟩
          have HR5 := Lib.hid hr5
          have HR6 := Lib.hid hr6
          have HLW7 := Lib.hid hlw7
          have HB7 := Lib.hid hb7
          have HV7 := Lib.hid hv7
          have HN4 := Lib.hid hN4
          have HW5 := Lib.hid hW5
          have hwq : IntKind.i64.wrap ((q : Int) + 1) = (q : Int) + 1 := IntWalk.i64_in _ (by omega)
          clear hr5 hr6 hlw7 hb7 hv7 ha2 hN4 hW5
          go_wp2_with fail
          refine wp_region_late (fun k => ([.slice (some ⟨N4, 0, none⟩) 0 0, .slice (some ⟨b, 0, none⟩) r dv, .int .i64 (q : Int), .slice (some ⟨b, 0, none⟩) q dv, v5, .slice (some ⟨b, 0, none⟩) r dv, .int .i64 (q : Int), .int .i64 ((q : Int) + 1), .slice (some a2) (r - (q + 1)) (dv - (q + 1)), v6, v6] : List Value).getD k undef) [0, 4, 9] Ws 20 (by kernel_rfl) (by kernel_rfl) E0.out ?hin ?hchain ?hsteps ?F ?hF ?hend
          case hF =>
            simp only [List.length_cons, List.length_nil, Nat.zero_add, Nat.reduceAdd, Phase.final, List.getElem?_toArray, List.getElem?_cons_zero, List.getElem?_cons_succ, Option.bind_some, Act.put, List.setIfInBounds_toArray, List.set_cons_zero, List.set_cons_succ]
            exact rfl
          case hin =>
            intro k x hk
            match k, hk with
            | 0, hk => injection hk with hk; subst hk; decide
            | 1, hk => injection hk with hk; subst hk; decide
            | 2, hk => injection hk with hk; subst hk; decide
            | _ + 3, hk => cases hk
          case hchain =>
            intro k x y hx hy
            match k, hx, hy with
            | 0, hx, hy => injection hx with hx; injection hy with hy; subst hx hy; show reachB _ _ _ _ = true; kernel_rfl
            | 1, hx, hy => injection hx with hx; injection hy with hy; subst hx hy; show reachB _ _ _ _ = true; kernel_rfl
            | 2, _, hy => cases hy
            | _ + 3, hx, _ => cases hx
          case hsteps =>
            refine stepsL_cons ?_ (stepsL_cons ?_ (stepsL_cons ?_ (stepsL_cons ?_ (stepsL_cons ?_ (stepsL_cons ?_ (stepsL_cons ?_ (stepsL_cons ?_ (stepsL_cons ?_ (stepsL_cons ?_ (stepsL_cons ?_ (stepsL_nil)))))))))))
            · intro a s hs hd hL h1 h2 h3 K hK
              obtain rfl := h1 0 rfl
              have hk := hK 1 (fun h => absurd rfl (h 0)) (fun k hk => by have := h1 k hk; omega)
              rw [E1.out, HW5.out, HN4.out] at hk
              rw [E0.out]
              unfold Oper.wp
              go_simp
              exact hk
            · refine step_stays2 (by decide) fun a s hs hd hL h2 h3 K hK => ?_
              have h7 : a.tmps.getD 7 undef = .slice (some ⟨b, 0, none⟩) r dv := hL 7 (by kernel_rfl)
              unfold Oper.wp
              go_simp
              exact hK
            · refine step_stays2 (by decide) fun a s hs hd hL h2 h3 K hK => ?_
              have h10 : a.tmps.getD 10 undef = .int .i64 (q : Int) := hd.kept 10 (by kernel_rfl)
              unfold Oper.wp
              go_simp
              exact hK
            · refine step_stays2 (by decide) fun a s hs hd hL h2 h3 K hK => ?_
              have h83 : a.tmps.getD 83 undef = .slice (some ⟨b, 0, none⟩) r dv := hd.done_ 1 _ 83 (by kernel_rfl) rfl rfl
              have h84 : a.tmps.getD 84 undef = .int .i64 (q : Int) := hd.done_ 2 _ 84 (by kernel_rfl) rfl rfl
              have ksl := HSL1.out (Ws s)
              unfold Oper.wp
              go_simp
              exact hK
            · intro a s hs hd hL h1 h2 h3 K hK
              obtain rfl := h1 1 rfl
              have h82 : a.tmps.getD 82 undef = .slice (some ⟨N4, 0, none⟩) 0 0 := hd.done_ 0 _ 82 (by kernel_rfl) rfl rfl
              have h85 : a.tmps.getD 85 undef = .slice (some ⟨b, 0, none⟩) q dv := hd.done_ 3 _ 85 (by kernel_rfl) rfl rfl
              have hk := hK 2 (fun h => absurd rfl (h 1)) (fun k hk => by have := h1 k hk; omega)
              have e1 : Act.eval a (.tmp 82) = .slice (some ⟨N4, 0, none⟩) 0 0 := h82
              have e2 : Act.eval a (.tmp 85) = .slice (some ⟨b, 0, none⟩) q dv := h85
              unfold Oper.wp execOp
              simp only [resolve, invoke, builtin, Sem.run_bind, Sem.run_pure, Result.andThen_ok, List.map_toArray, List.map_cons, List.map_nil, e1, e2]
              rw [E1.out]
              rw [E2.out] at hk
              have hru := HR5.out
              rw [hru]
              exact hk
            · refine step_stays2 (by decide) fun a s hs hd hL h2 h3 K hK => ?_
              have h7 : a.tmps.getD 7 undef = .slice (some ⟨b, 0, none⟩) r dv := hL 7 (by kernel_rfl)
              unfold Oper.wp
              go_simp
              exact hK
            · refine step_stays2 (by decide) fun a s hs hd hL h2 h3 K hK => ?_
              have h10 : a.tmps.getD 10 undef = .int .i64 (q : Int) := hd.kept 10 (by kernel_rfl)
              unfold Oper.wp
              go_simp
              exact hK
            · refine step_stays2 (by decide) fun a s hs hd hL h2 h3 K hK => ?_
              have h88 : a.tmps.getD 88 undef = .int .i64 (q : Int) := hd.done_ 6 _ 88 (by kernel_rfl) rfl rfl
              unfold Oper.wp
              go_simp
              exact hK
            · refine step_stays2 (by decide) fun a s hs hd hL h2 h3 K hK => ?_
              have h87 : a.tmps.getD 87 undef = .slice (some ⟨b, 0, none⟩) r dv := hd.done_ 5 _ 87 (by kernel_rfl) rfl rfl
              have h89 : a.tmps.getD 89 undef = .int .i64 ((q : Int) + 1) := hd.done_ 7 _ 89 (by kernel_rfl) rfl rfl
              have ksl := HSL2.out (Ws s)
              unfold Oper.wp
              go_simp
              exact hK
            · intro a s hs hd hL h1 h2 h3 K hK
              obtain rfl := h1 2 rfl
              have h86 : a.tmps.getD 86 undef = v5 := hd.done_ 4 _ 86 (by kernel_rfl) rfl rfl
              have h90 : a.tmps.getD 90 undef = .slice (some a2) (r - (q + 1)) (dv - (q + 1)) := hd.done_ 8 _ 90 (by kernel_rfl) rfl rfl
              have hk := hK 3 (fun h => absurd rfl (h 2)) (fun k hk => by have := h1 k hk; omega)
              have e1 : Act.eval a (.tmp 86) = v5 := h86
              have e2 : Act.eval a (.tmp 90) = .slice (some a2) (r - (q + 1)) (dv - (q + 1)) := h90
              unfold Oper.wp execOp
              simp only [resolve, invoke, builtin, Sem.run_bind, Sem.run_pure, Result.andThen_ok, List.map_toArray, List.map_cons, List.map_nil, e1, e2]
              rw [E2.out]
              rw [E3.out] at hk
              have hru := HR6.out
              rw [hru]
              exact hk
            · refine step_stays2 (by decide) fun a s hs hd hL h2 h3 K hK => ?_
              have h91 : a.tmps.getD 91 undef = v6 := hd.done_ 9 _ 91 (by kernel_rfl) rfl rfl
              unfold Oper.wp
              go_simp
              exact hK
          case hend =>
            show Exit.then _ _ _ _ _
            have e2 : Ws ([0, 4, 9] : List Nat).length = W7 := E3.out
            rw [e2]
            have hS7 := HS4.out.later HB7.out
            have el : (z.row.eraseIdx q).length + 1 = r := by
              have h1 := HRZ.out
              have h2 : q < z.row.length := by omega
              rw [List.length_eraseIdx_of_lt h2]
              omega
            obtain ⟨v8, W8, hrun, hlw8, ho8, hv8⟩ := HLW7.out.snoc HX.out.1 (HX4.out.below HB7.out) HX.out.2.2 (fun b hb => Nat.lt_of_lt_of_le hb HW0.out.size) (by omega) hS7.bl.size rfl
            obtain ⟨V8, d8, rfl, -⟩ := hlw8.form
            have e3 : (z.row.eraseIdx q ++ [x]).length = r := by rw [List.length_append, List.length_singleton, el]
            rw [e3] at hrun hlw8 hv8
            have hno7 : ∀ b, v6.ownBlock = some b → ¬ O3 b ∧ W0.heap.size ≤ b := fun b hb => by
              have h1 := HV7.out b hb
              refine ⟨fun hq => ?_, ?_⟩
              · have := lt_of_O HS4.out b hq; omega
              · have := HS4.out.bl.size; omega
            have HREL : Hid (Rel2 w1 W0 gz m (.slice V8 r d8) (.int .i64 ((j + 1 : Nat) : Int)) W8) := by
              refine ⟨j + 1, O3, _, r, V8, d8, by omega, rfl, rfl, e3.symm, hS7.out ho8 hno7, HCUT.out, hr60, hlw8, fun b hb hq => ?_⟩
              rcases hv8 b hb with q1 | q1
              · exact (hno7 b q1).1 hq
              · have := lt_of_O hS7 b hq; omega
            have hrun' := Lib.hid hrun
            obtain ⟨k0, k1, k2, k3, k4⟩ := bk_cells5 (HBX.out.below HB7.out)
            clear hlw8 ho8 hv8 hrun hS7 hno7 el e3 c0 c1 c2 c3 c4
            unfold ltA at hrun'
            go_wp2_with (at_builtin; refine wpList_append_of rfl (.tmp 92) (.tmp 94) 46 rfl rfl rfl hrun'.out ?_)
            go_wp2_with fail
            exact ⟨HREL.out, by simp [intOf]; omega⟩
        · have hend : ¬ (j < m) ∨ r = 0 := by omega
          have v2 : Hid True := Lib.hid trivial
          rcases hend with hend | hend
          · have v2 : ¬ (j : Int) < (m : Int) := by omega
            clear hgo hend
            go_wp2_with fail
            obtain ⟨ls, hls⟩ : ∃ ls, ls = z.row := ⟨_, rfl⟩
            have HLS := Lib.hid hls
            clear hls
            go_wp2_with fail
            obtain ⟨wB, hwB⟩ : ∃ wB : World, wB = wr := ⟨_, rfl⟩
            subst hwB
            go_loopw [12] (fun i wr => Rel3 w1 W0 gz r V dv ls i wr) (fun i _ => r - (intOf i).toNat)
            case atStart => exact ⟨0, O2, z, Nat.zero_le _, rfl, by rw [HLS.out]; rfl, HSN.out, HCUT.out, by rw [HLS.out]; exact HLW.out, HNO.out⟩
            case round =>
              have HLR : Hid (ls.length = r) := by rw [HLS.out]; exact HRZ.out.symm
              clear HSN HLW HNO HCUT HRZ HLS
              obtain ⟨i, O5, y, hi, rfl, hyr, hsn, hcut, hlw, hno⟩ := hrel
              by_cases hir : i < r
              · have hil : i < ls.length := by rw [HLR.out]; exact hir
                have hgx := List.getElem?_eq_getElem hil
                generalize ls[i] = x at hgx
                have hy0 : y.row[0]? = some x := by rw [hyr, List.getElem?_drop, Nat.add_zero]; exact hgx
                have hyl : 0 < y.row.length := (List.getElem?_eq_some_iff.1 hy0).1
                have hok : y.okAt 0 = true := okAt_iff.2 ⟨0, rfl, hyl⟩
                have htk : y.take 0 = (y.out 0, x, 0) := by
                  unfold Nt.take Nt.cuts
                  rw [if_neg (by rw [hok]; simp), if_neg (by rw [hcut]; simp)]
                  have e : y.row.getD (0 : Int).toNat lt0 = x := by
                    show y.row.getD 0 lt0 = x
                    rw [List.getD_eq_getElem?_getD, hy0]
                    rfl
                  rw [e]
                  rfl
                have CT0 := hsn.take 0
                rw [htk] at CT0
                have CT := Lib.hid CT0
                have HSN := Lib.hid hsn
                have HLW := Lib.hid hlw
                have HNO := Lib.hid hno
                have HCUT := Lib.hid hcut
                have HGX := Lib.hid hgx
                have HYR : Hid ((y.out 0).row = ls.drop (i + 1)) := by
                  show y.row.eraseIdx 0 = _
                  rw [hyr]
                  cases hd : ls.drop i with
                  | nil => rw [List.drop_eq_nil_iff] at hd; omega
                  | cons a l =>
                    have := congrArg List.tail hd
                    rw [List.tail_drop] at this
                    rw [this]
                    rfl
                clear hsn hlw hno hcut hgx hy0 hyl hok htk CT0 hyr hil
                go_wp2_with fail
                refine CT.out.mono ?_
                rintro e w3 ⟨O3, Bx, mx, cx, rfl, hmc, hrd, hnx, hs3, hg3⟩
                dsimp only at hmc hrd hnx hs3 hg3 ⊢
                have HLW3 : LtW (fun b => b < w1.heap.size) W0.heap.size w3 (.slice V r dv) ls := HLW.out.out hg3.1 (fun b hb hq => by have := (HSN.out.nt.low b hq).1; have := HW0.out.size; omega) fun b hb => HNO.out b hb
                have HNO3 : Hid (∀ b, (Value.slice V r dv).ownBlock = some b → ¬ O3 b) := fun b hb hq => by
                  rcases hg3.2 b hq with q | q
                  · exact HNO.out b hb q
                  · have := (HLW.out.lt b hb).2; omega
                have hwb : Below w3.heap.size w3 (w3.alloc (.cells (ltA x (.slice Bx mx cx)) 37)) := (Below.refl _ _).alloc (Nat.le_refl _) _
                have hbx := Bk.new w3 37 (ltA x (.slice Bx mx cx))
                have HBX := Lib.hid hbx
                have HS4 := Lib.hid (hs3.later hwb)
                have HL4 := Lib.hid (HLW3.below hwb)
                have HR4 := Lib.hid (And.intro hmc (hrd.below hwb))
                clear hs3 hg3 hmc hrd hnx HLW3 hwb hbx CT HSN HLW HNO
                unfold ltV
                generalize hw4 : w3.alloc (.cells (ltA x (.slice Bx mx cx)) 37) = W4 at *
                have HW4D : Hid (Below W4.heap.size W4 W4.drew) := below_drewN (Below.refl _ W4) 1
                obtain ⟨k0, k1, k2, k3, k4⟩ := bk_cells5 HBX.out
                obtain ⟨b, _, _, _, hV, -⟩ := HL4.out.get HGX.out
                subst hV
                have hrdv : r ≤ dv := by
                  obtain ⟨_, _, _, _, e, _, _, q, _⟩ := HL4.out.get HGX.out
                  exact q
                have hsl : ∀ V' : World, (Instr.slice 46 (.slice (some ⟨b, 0, none⟩) r dv) (some (.int .i64 (i : Int))) (some (.int .i64 ((i : Int) + 1))) none).run Try.prog V' = .ok (.slice (some ⟨b, i * 5, none⟩) 1 (dv - i)) V' := fun V' => by
                  have ht : Try.prog.underlying 46 = some (.slice (Try.prog.elem 46)) := by kernel_rfl
                  have hsz : (sizeOf (Try.prog.elem 46)).run Try.prog V' = .ok 5 V' := by kernel_rfl
                  rw [run_slice_lh V' _ _ _ _ ht .i64 .i64 (i : Int) ((i : Int) + 1) (by omega) (by omega) (by omega), hsz]
                  have e1 : ((i : Int) + 1).toNat = i + 1 := by omega
                  have e2 : ¬ dv = i := by omega
                  simp only [Result.andThen, sliced, e1, Int.toNat_natCast, e2, if_false, Option.map_some, plus_add, Nat.add_sub_cancel_left]
                have CSAME : Hid (∀ V', Below W4.heap.size W4 V' → Bk V' W4.heap.size 37 (ltA x (.slice Bx mx cx)) → Calls Try.prog 16 #[.slice (some ⟨W4.heap.size, 0, none⟩) 1 1, .slice (some ⟨b, i * 5, none⟩) 1 (dv - i)] V' (SameP true V')) := fun V' hb hbk => by
                  have h1 : LtS (fun _ => True) V' (some ⟨W4.heap.size, 0, none⟩) 1 [x] := lts_one hbk trivial HR4.out.1 (HR4.out.2.below hb) fun _ _ _ => trivial
                  obtain ⟨A', c', e1, hle, hlts, -, -⟩ := (HL4.out.below hb).form
                  injection e1 with e1 e2 e3
                  subst e1 e3
                  have h2 : LtS (fun b' => b' < w1.heap.size ∨ W0.heap.size ≤ b') V' (some ⟨b, 0 + i * 5, none⟩) 1 ((ls.drop i).take 1) := by
                    have := (hlts.drop i).take (k := 1) (by rw [HLR.out]; omega)
                    exact this
                  have e4 : (ls.drop i).take 1 = [x] := by
                    have hil : i < ls.length := by rw [HLR.out]; exact hir
                    rw [List.drop_eq_getElem_cons hil]
                    have := HGX.out
                    rw [List.getElem?_eq_getElem hil] at this
                    injection this with this
                    rw [this]
                    rfl
                  rw [e4, Nat.zero_add] at h2
                  have := Same_any h1 h2 1 (dv - i) (by omega) (by omega)
                  rw [decide_eq_true rfl] at this
                  exact this
                have HB1 : Hid (Below W4.heap.size W4 (W4.alloc (.cells (ltA x (.slice Bx mx cx)) 37)).drew) := below_drewN ((Below.refl _ _).alloc (Nat.le_refl _) _) 1
                have CS1 := Lib.hid (CSAME.out _ HB1.out (Bk.new W4 37 (ltA x (.slice Bx mx cx))))
                have HSD : Hid (∀ V', Below W4.heap.size W4 V' → (V'.cell? ⟨w3.heap.size, 0, none⟩ = some (.int .i64 x.fr.g) ∧ V'.cell? ⟨w3.heap.size, 1, none⟩ = some (.int .i64 x.fr.n) ∧ V'.cell? ⟨w3.heap.size, 2, none⟩ = some (.int .i64 x.to.g) ∧ V'.cell? ⟨w3.heap.size, 3, none⟩ = some (.int .i64 x.to.n) ∧ V'.cell? ⟨w3.heap.size, 4, none⟩ = some (.slice Bx mx cx))) := fun V' hb => bk_cells5 (HBX.out.below hb)
                have HSD0 := Lib.hid (HSD.out _ HW4D.out)
                have HSD1 := Lib.hid (HSD.out _ HB1.out)
                have i0 : (0 : Int) ≤ (i : Int) := by omega
                have i1 : (i : Int) < (r : Int) := by omega
                have i2 : (i : Int) + 1 ≤ (dv : Int) := by omega
                have i3 : (r : Int) ≤ 60 := by omega
                have hwi : IntKind.i64.wrap ((i : Int) + 1) = (i : Int) + 1 := IntWalk.i64_in _ (by omega)
                unfold ltA at hw4 HB1 CS1 HSD1 ⊢
                clear CSAME
                go_wp2_with fail
                go_region_held3 (fun V' => V'.cell? ⟨w3.heap.size, 0, none⟩ = some (.int .i64 x.fr.g) ∧ V'.cell? ⟨w3.heap.size, 1, none⟩ = some (.int .i64 x.fr.n) ∧ V'.cell? ⟨w3.heap.size, 2, none⟩ = some (.int .i64 x.to.g) ∧ V'.cell? ⟨w3.heap.size, 3, none⟩ = some (.int .i64 x.to.n) ∧ V'.cell? ⟨w3.heap.size, 4, none⟩ = some (.slice Bx mx cx))
                  (first | (with_reducible assumption) | (with_reducible exact HSD0.out) | (with_reducible exact HSD1.out) | (with_reducible exact HSD2.out))
                  (first | (go_at_call 16; (with_reducible refine CS1.out.mono ?_); rintro e w5 ⟨rfl, hb5⟩; have HB5 := Lib.hid (HB1.out.trans (hb5.mono HB1.out.size)); have HSD2 := Lib.hid (HSD.out _ HB5.out); clear hb5))
                have HREL : Hid (Rel3 w1 W0 gz r (some ⟨b, 0, none⟩) dv ls (.int .i64 ((i + 1 : Nat) : Int)) w5) := ⟨i + 1, O3, y.out 0, by omega, rfl, HYR.out, HS4.out.later HB5.out, HCUT.out, HL4.out.below HB5.out, HNO3.out⟩
                clear hsl hwi
                go_wp2_with fail
                exact ⟨HREL.out, by simp [intOf]; omega⟩
              · obtain rfl : i = r := by omega
                have hy0 : y.row.length = 0 := by rw [hyr, List.length_drop, HLR.out]; omega
                have CL0 := Len_any hsn.nt
                rw [hy0] at CL0
                have CL := Lib.hid CL0
                have CGO := Lib.hid (goes_any wr)
                have HBW2 : Hid (Below w1.heap.size w1 wr) := HW0.out.trans (hsn.bl.mono HW0.out.size)
                have v3 : ¬ (i : Int) < (i : Int) := by omega
                clear hyr hsn hcut hlw hno hy0 CL0 hir
                go_wp2_with fail
                refine CL.out.mono ?_
                rintro e w3 ⟨rfl, rfl⟩
                clear CL
                go_wp2_with fail
                refine CGO.out.mono ?_
                rintro e w4 ⟨rfl, hb4⟩
                have HB4 := Lib.hid (HBW2.out.trans (hb4.mono HBW2.out.size))
                clear CGO hb4
                go_wp2_with fail
                go_ret
                exact ⟨rfl, HB4.out⟩
          · have v2 : ¬ (0 : Int) < (r : Int) := by omega
            by_cases hjm : j < m
            · have v4 : (j : Int) < (m : Int) := by omega
              clear hgo
              go_wp2_with fail
              obtain ⟨ls, hls⟩ : ∃ ls, ls = z.row := ⟨_, rfl⟩
              have HLS := Lib.hid hls
              clear hls
              go_wp2_with fail
              obtain ⟨wB, hwB⟩ : ∃ wB : World, wB = wr := ⟨_, rfl⟩
              subst hwB
              go_loopw [12] (fun i wr => Rel3 w1 W0 gz r V dv ls i wr) (fun i _ => r - (intOf i).toNat)
              case atStart => exact ⟨0, O2, z, Nat.zero_le _, rfl, by rw [HLS.out]; rfl, HSN.out, HCUT.out, by rw [HLS.out]; exact HLW.out, HNO.out⟩
              case round =>
                have HLR : Hid (ls.length = r) := by rw [HLS.out]; exact HRZ.out.symm
                clear HSN HLW HNO HCUT HRZ HLS
                obtain ⟨i, O5, y, hi, rfl, hyr, hsn, hcut, hlw, hno⟩ := hrel
                by_cases hir : i < r
                · exfalso
                  omega
                · obtain rfl : i = r := by omega
                  have hy0 : y.row.length = 0 := by rw [hyr, List.length_drop, HLR.out]; omega
                  have CL0 := Len_any hsn.nt
                  rw [hy0] at CL0
                  have CL := Lib.hid CL0
                  have CGO := Lib.hid (goes_any wr)
                  have HBW2 : Hid (Below w1.heap.size w1 wr) := HW0.out.trans (hsn.bl.mono HW0.out.size)
                  have v3 : ¬ (i : Int) < (i : Int) := by omega
                  clear hyr hsn hcut hlw hno hy0 CL0 hir
                  go_wp2_with fail
                  refine CL.out.mono ?_
                  rintro e w3 ⟨rfl, rfl⟩
                  clear CL
                  go_wp2_with fail
                  refine CGO.out.mono ?_
                  rintro e w4 ⟨rfl, hb4⟩
                  have HB4 := Lib.hid (HBW2.out.trans (hb4.mono HBW2.out.size))
                  clear CGO hb4
                  go_wp2_with fail
                  go_ret
                  exact ⟨rfl, HB4.out⟩
            · have v4 : ¬ (j : Int) < (m : Int) := by omega
              clear hgo
              go_wp2_with fail
              obtain ⟨ls, hls⟩ : ∃ ls, ls = z.row := ⟨_, rfl⟩
              have HLS := Lib.hid hls
              clear hls
              go_wp2_with fail
              obtain ⟨wB, hwB⟩ : ∃ wB : World, wB = wr := ⟨_, rfl⟩
              subst hwB
              go_loopw [12] (fun i wr => Rel3 w1 W0 gz r V dv ls i wr) (fun i _ => r - (intOf i).toNat)
              case atStart => exact ⟨0, O2, z, Nat.zero_le _, rfl, by rw [HLS.out]; rfl, HSN.out, HCUT.out, by rw [HLS.out]; exact HLW.out, HNO.out⟩
              case round =>
                have HLR : Hid (ls.length = r) := by rw [HLS.out]; exact HRZ.out.symm
                clear HSN HLW HNO HCUT HRZ HLS
                obtain ⟨i, O5, y, hi, rfl, hyr, hsn, hcut, hlw, hno⟩ := hrel
                by_cases hir : i < r
                · exfalso
                  omega
                · obtain rfl : i = r := by omega
                  have hy0 : y.row.length = 0 := by rw [hyr, List.length_drop, HLR.out]; omega
                  have CL0 := Len_any hsn.nt
                  rw [hy0] at CL0
                  have CL := Lib.hid CL0
                  have CGO := Lib.hid (goes_any wr)
                  have HBW2 : Hid (Below w1.heap.size w1 wr) := HW0.out.trans (hsn.bl.mono HW0.out.size)
                  have v3 : ¬ (i : Int) < (i : Int) := by omega
                  clear hyr hsn hcut hlw hno hy0 CL0 hir
                  go_wp2_with fail
                  refine CL.out.mono ?_
                  rintro e w3 ⟨rfl, rfl⟩
                  clear CL
                  go_wp2_with fail
                  refine CGO.out.mono ?_
                  rintro e w4 ⟨rfl, hb4⟩
                  have HB4 := Lib.hid (HBW2.out.trans (hb4.mono HBW2.out.size))
                  clear CGO hb4
                  go_wp2_with fail
                  go_ret
                  exact ⟨rfl, HB4.out⟩
set_option maxRecDepth 100000 in
theorem lifted (os : Os) (started : os.Started) (H : Type) (enc : TypeId × Value → H) :
    ReturnsInHanded {} Try.checked os 7 .any (Rows.netOrderSpec.pre6 enc Try.prog Try.f7 Rows.netOrderRow.domain false) (Rows.netOrderSpec.post enc Try.prog Try.f7 false true false false) := by
  refine returnsInHanded_of_change_sized (C := Try.checked) own started (by kernel_rfl) Try.func7
    (ChangeSpec.witness6 (enc := enc) (C := Try.checked) false ⟨#[], #[.slice none 0 0, .slice none 0 0], []⟩ 8 (by kernel_rfl) (by kernel_rfl) (by kernel_rfl) (by kernel_rfl)) ?_
  intro W base args ds gs before hval0 hW hcnd hsz _
  have hval : ∀ (j : Nat) t v, Try.f7.params[j]? = some t → args[j]? = some v → Value.okWide Try.prog W .any base t v := hval0
  have hW' := hW
  obtain ⟨p, q, hA0, hV, rfl, hfz, hnd⟩ := hW
  have hA : DataW.TrodAll enc Try.prog W 0 (fun _ => true) true Try.f7.params.toList args.toList ds p := hA0
  rw [Try.params7] at hA hval
  obtain ⟨v0, v1, d0, d1, p0, p1, rfl, rfl, rfl, h0, h1⟩ := trodAll_two hA
  obtain ⟨rfl, rfl⟩ := trodVars_none hV
  obtain ⟨A, n, c, xs, rfl, _, hn, hl, hy⟩ := arg_acts (hval 0 _ v0 rfl rfl) h0 (fun n hn => by have := List.all_eq_true.1 hsz _ (DataW.weights_mem_each (j := 0) (t := 23) rfl rfl n hn); simpa using this)
  obtain ⟨B, m, d, bs, rfl, _, hm, hr⟩ := arg_bs (hval 1 _ v1 rfl rfl) h1 (fun n hn => by have := List.all_eq_true.1 hsz _ (DataW.weights_mem_each (j := 1) (t := 35) rfl rfl n hn); simpa using this)
  refine (walk A B n c m d xs bs W hl (Nat.le_trans hn (by decide)) (fun x hx => Nat.le_trans (hy x hx) (by decide)) hr (Nat.le_trans hm (by decide))).mono fun e W' ⟨he, hb⟩ => ?_
  subst he
  exact ⟨_, rfl, post_true laidOut (by kernel_rfl) ty_bool (by kernel_rfl) rfl hW' hb rfl⟩

theorem over : Rows.netOrderRow.holds Try.pinned (OpenSpec.ofChange Rows.netOrderSpec) :=
  OpenClaim.holds_of_wide 7 Try.f7 rfl rfl rfl rfl rfl rfl rfl ⟨rfl, rfl, rfl, rfl, rfl⟩ rfl rfl rfl rfl rfl (by kernel_rfl) Try.func7 (by kernel_rfl)
    (of_decide_eq_true (by kernel_rfl)) (by unfold Func.isWrapper; first | (rw [if_pos (by decide +kernel)]; kernel_rfl) | (rw [if_neg (by decide +kernel)]; exact ⟨rfl, rfl⟩))
    (fun os started H enc _ => lifted os started H enc)

theorem proved : Rows.NetOrderSaid :=
  over
end Go.Proofs.Ytephciglcikllaa.netOrder
