/- Layer 6's code: All. -/
import Derived.Test.YtnmlknhomhonaaaDoorRegCode4
namespace Go.Proofs.YtnmlknhomhonaaaDoor.Reg
open Go.RowKit Path

set_option maxRecDepth 100000 in
set_option maxHeartbeats 2000000 in
theorem all_any (ls : List (List UInt8)) (y : OR) (os : List OR) (A : Option Addr) (n c : Nat) (w : World) (hS : RdV w A n (sv ls)) (hn : n ≤ 1000000) (hl : ∀ x ∈ ls, x.length ≤ 1000000) (hO : OrS w y.pa y.pn os) (hpn : y.pn ≤ 1000000) (hy : y.path.length ≤ 1000000) (hos : ∀ o ∈ os, o.path.length ≤ 1000000) :
    Calls Tryd.prog 15 #[.slice A n c, orV y] w fun e w' => e = .returned (.tuple #[.int .i64 (allF ls y.path (pathsL os)).1, .int .i64 (allF ls y.path (pathsL os)).2]) ∧ Below w.heap.size w w' := by
  have hb0 : Below w.heap.size w (w.alloc (.cells #[.slice A n c] 22)) := (Below.refl _ _).alloc (Nat.le_refl _) _
  have hb1 : Below w.heap.size w ((w.alloc (.cells #[.slice A n c] 22)).alloc (.cells (orC y).toArray 32)) := hb0.alloc hb0.size _
  have K0 : Boxed ((w.alloc (.cells #[.slice A n c] 22)).alloc (.cells (orC y).toArray 32)) w.heap.size 22 (.slice A n c) := (Boxed.new _ _ _).alloc _
  have K1 : Bk ((w.alloc (.cells #[.slice A n c] 22)).alloc (.cells (orC y).toArray 32)) (w.alloc (.cells #[.slice A n c] 22)).heap.size 32 (orC y).toArray := Bk.new _ _ _
  have hsz : (w.alloc (.cells #[.slice A n c] 22)).heap.size = w.heap.size + 1 := by simp
  rw [hsz] at K1
  have HS := Lib.hid hS
  have cp := pathsOf_any y os ((w.alloc (.cells #[.slice A n c] 22)).alloc (.cells (orC y).toArray 32)) (hO.below hb1) hpn
  have HPL : Hid (pathsF y.path (pathsL os) ≠ [] ∧ ∀ p ∈ pathsF y.path (pathsL os), p.length ≤ 1000000) := by
    show _ ∧ _
    unfold pathsF pathsL
    split
    · exact ⟨by simp, fun p hp => by rw [List.mem_singleton.1 hp]; exact hy⟩
    · next h => exact ⟨fun e => h (by rw [e]; rfl), fun p hp => by
        obtain ⟨o, ho, rfl⟩ := List.mem_map.1 hp
        exact hos o ho⟩
  obtain ⟨r, hr⟩ : ∃ r, r = allF ls y.path (pathsL os) := ⟨_, rfl⟩
  have HR : Hid (r = if ofF ls ((pathsF y.path (pathsL os)).headD []) = -1 ∨ ((pathsF y.path (pathsL os)).any fun p => ofF ls p != ofF ls ((pathsF y.path (pathsL os)).headD [])) = true then (0, 60) else (ofF ls ((pathsF y.path (pathsL os)).headD []), 0)) := hr
  rw [← hr]
  clear hr
  have HKL := Lib.hid K0
  have HNP : Hid ((pathsF y.path (pathsL os)).length ≤ 1000000) := by
    show _ ≤ _
    unfold pathsF pathsL
    split
    · exact (by decide : 1 ≤ 1000000)
    · rw [List.length_map, hO.len]; exact hpn
  generalize pathsF y.path (pathsL os) = ps at *
  obtain ⟨knd, pth, da, dn, dc, ver, sq, ep, pa, pn, pc⟩ := y
  unfold orV at cp ⊢
  dsimp only [orC] at cp K0 K1 hb1 HKL ⊢
  have k0 := K0.cell
  have kc := K1.cell
  have o0 := kc 0
  have o1 := kc 1
  have o2 := kc 2
  have o3 := kc 3
  have o4 := kc 4
  have o5 := kc 5
  have o6 := kc 6
  have HB1 := Lib.hid hb1
  have hlt0 := K0.lt
  generalize hW0 : (w.alloc (.cells #[.slice A n c] 22)).alloc (.cells #[.int .u8 knd, .string (S pth), .slice da dn dc, .int .i64 ver, .bool sq, .bool ep, .slice pa pn pc] 32) = W0 at *
  clear K0 K1 kc hsz hb0 hb1 hS hO hpn hy hos
  go_enter Tryd.func15, Tryd.ntmps15
  go_wp2_with fail
  refine cp.mono ?_
  rintro e w1 ⟨B, d, rfl, hb1, hps⟩
  have HB2 := Lib.hid (HB1.out.trans (hb1.mono HB1.out.size))
  have hbx : w1.cell? ⟨w.heap.size, 0, none⟩ = some (.slice A n c) := (hb1.cell (p := ⟨w.heap.size, 0, none⟩) hlt0).trans k0
  clear hb1 cp k0 o0 o1 o2 o3 o4 o5 o6 hW0 HKL hlt0
  obtain ⟨p0, ps', hp0⟩ : ∃ p0 ps', ps = p0 :: ps' := by
    cases ps with
    | nil => exact absurd rfl HPL.out.1
    | cons a b => exact ⟨a, b, rfl⟩
  have h0 : ps.headD [] = p0 := by rw [hp0]; rfl
  have hpos : 0 < ps.length := by rw [hp0]; exact Nat.succ_pos _
  have hat : ps[0] = p0 := by simp only [hp0]; rfl
  obtain ⟨bb, oo, rfl, hcells⟩ := text_at hps hpos
  rw [hat] at hcells
  rw [h0] at HR
  have HPS := Lib.hid hps
  have HP0 := Lib.hid (HPL.out.2 p0 (by rw [hp0]; exact List.mem_cons_self ..))
  have CO := Lib.hid (fun W (hW : Below w.heap.size w W) => of_any ls p0 A n c W (HS.out.below hW) hn HP0.out hl)
  have HC : Hid (∀ W, Below w1.heap.size w1 W → W.cell? ⟨w.heap.size, 0, none⟩ = some (.slice A n c) ∧ W.cell? ⟨bb, oo, none⟩ = some (.string (S p0))) :=
    fun W hW => ⟨(hW.cell (p := ⟨w.heap.size, 0, none⟩) (World.block_lt_of_cell? w1 _ hbx)).trans hbx, by simpa only [World.drewN_zero, Nat.add_zero] using hcells W hW 0⟩
  have B1 := Lib.hid (Below.refl w1.heap.size w1).drew
  have HW1 := Lib.hid HB2.out.size
  have HS0 := Lib.hid (HC.out _ B1.out)
  have HSA := Lib.hid (fun o => HC.out _ (B1.out.alloc B1.out.size o))
  obtain ⟨z, hz⟩ : ∃ z, z = ofF ls p0 := ⟨_, rfl⟩
  rw [← hz] at HR CO
  have HZ := Lib.hid hz
  have hpi : (0 : Int) < (ps.length : Int) := by omega
  clear hcells hps h0 hat hbx hz hp0
  obtain ⟨np, hnp⟩ : ∃ np, np = ps.length := ⟨_, rfl⟩
  rw [← hnp] at HPS hpi ⊢
  have HNPS := Lib.hid hnp
  have hnp0 : 0 < np := by omega
  clear hnp hpos
  have B2 := Lib.hid ((Below.refl w1.heap.size w1).alloc (Nat.le_refl _) (.cells #[.int .i64 0] 3)).drew
  have BX0 : Hid (Bk (w1.alloc (.cells #[.int .i64 0] 3)).drew w1.heap.size 3 #[.int .i64 0]) := Bk.new w1 3 #[.int .i64 0]
  generalize S p0 = sp at *
  go_wp2_with fail
  go_region_held3 (fun V => V.cell? ⟨w.heap.size, 0, none⟩ = some (.slice A n c) ∧ V.cell? ⟨bb, oo, none⟩ = some (.string sp))
    (first | assumption | exact HS0.out | exact HSA.out _ | (refine HC.out _ ?_; exact Hid.out (by assumption)) | (refine HC.out _ ?_; exact Below.alloc (Hid.out (by assumption)) (Below.size (Hid.out (by assumption))) _) | (refine HC.out _ ?_; refine Below.setCell ?_ ?_ _; (first | exact Hid.out (by assumption) | (refine Below.alloc ?_ ?_ _; exact Hid.out (by assumption); exact Below.size (Hid.out (by assumption)))); (first | exact Nat.le_refl _ | exact Below.size (Hid.out (by assumption)))))
    (first
      | (go_at_call 12; refine (CO.out w1.drew (HB2.out.trans (B1.out.mono HW1.out))).mono ?_; rintro e we ⟨rfl, hg⟩; have BE := below_on (n := w1.heap.size) (w := w1) B1 (Nat.le_refl _) hg; clear hg)
      | (go_at_call 12; refine (CO.out (w1.alloc (.cells #[.int .i64 0] 3)).drew (HB2.out.trans (B2.out.mono HW1.out))).mono ?_; rintro e we ⟨rfl, hg⟩; have BX := BX0.out.below hg; have bc := BX.cell 0; have bf := BX.frozen 0; have BE := below_on (n := w1.heap.size) (w := w1) B2 (Nat.le_refl _) hg; clear hg))
  · skip
    have HBW : Hid (Below w1.heap.size w1 (we.alloc (.cells #[.int .i64 z] 3))) := BE.out.alloc BE.out.size _
    have HQ : Hid ((we.alloc (.cells #[.int .i64 z] 3)).cell? ⟨we.heap.size, 0, none⟩ = some (.int .i64 z)) := (Boxed.new we 3 (.int .i64 z)).cell
    generalize we.alloc (.cells #[.int .i64 z] 3) = W at *
    generalize we.heap.size = q at *
    have HB3 : Hid (Below w.heap.size w W) := HB2.out.trans (HBW.out.mono HW1.out)
    have hq := HQ.out
    have hL := (HC.out W HBW.out).1
    have cf := containsFunc_else_ (fun p => ofF ls p != z) ps (some ⟨bb, oo, none⟩) np d w.heap.size q W (HPS.out.below HBW.out) (by rw [HNPS.out]; exact HNP.out)
      (fun V hV s hs => elsewhere_any ls s A n c w.heap.size q z V ((HS.out.below HB3.out).below hV) hn (HPL.out.2 s hs) hl ((hV.cell (p := ⟨w.heap.size, 0, none⟩) (World.block_lt_of_cell? W _ hL)).trans hL) ((hV.cell (p := ⟨q, 0, none⟩) (World.block_lt_of_cell? W _ hq)).trans hq))
    clear hL
    generalize (ps.any fun p => ofF ls p != z) = b at *
    by_cases hz : z = -1
    · have hr : r = (0, 60) := by rw [HR.out, if_pos (.inl hz)]
      subst hr hz
      clear cf
      go_wp2_with fail
      go_ret2
      exact ⟨rfl, HB3.out⟩
    · have hz2 : (z == -1) = false := beq_eq_false_iff_ne.2 hz
      have hr := HR.out
      cases b
      · rw [if_neg (by rintro (h | h); exact hz h; cases h)] at hr
        subst hr
        clear hz
        go_wp2_with fail
        refine cf.mono ?_
        rintro e w2 ⟨rfl, hb2⟩
        have HB4 := Lib.hid (HB3.out.trans (hb2.mono HB3.out.size))
        have hq2 := (hb2.cell (p := ⟨q, 0, none⟩) (World.block_lt_of_cell? W _ hq)).trans hq
        clear hb2 cf hq
        go_wp2_with fail
        go_ret2
        exact ⟨rfl, HB4.out⟩
      · rw [if_pos (.inr rfl)] at hr
        subst hr
        clear hz
        go_wp2_with fail
        refine cf.mono ?_
        rintro e w2 ⟨rfl, hb2⟩
        have HB4 := Lib.hid (HB3.out.trans (hb2.mono HB3.out.size))
        clear hb2 cf hq
        go_wp2_with fail
        go_ret2
        exact ⟨rfl, HB4.out⟩
  · skip
    have HBW : Hid (Below w1.heap.size w1 (we.setCell ⟨w1.heap.size, 0, none⟩ (.int .i64 z))) := BE.out.setCell (p := ⟨w1.heap.size, 0, none⟩) (Nat.le_refl _) _
    have HQ : Hid ((we.setCell ⟨w1.heap.size, 0, none⟩ (.int .i64 z)).cell? ⟨w1.heap.size, 0, none⟩ = some (.int .i64 z)) := (Boxed.set (.int .i64 z) (show Boxed we w1.heap.size 3 (.int .i64 0) from BX)).cell
    clear BX
    generalize hWW : we.setCell ⟨w1.heap.size, 0, none⟩ (.int .i64 z) = W at *
    clear hWW
    generalize hqq : w1.heap.size = q at HQ ⊢
    clear hqq
    have HB3 : Hid (Below w.heap.size w W) := HB2.out.trans (HBW.out.mono HW1.out)
    have hq := HQ.out
    have hL := (HC.out W HBW.out).1
    have cf := containsFunc_else_ (fun p => ofF ls p != z) ps (some ⟨bb, oo, none⟩) np d w.heap.size q W (HPS.out.below HBW.out) (by rw [HNPS.out]; exact HNP.out)
      (fun V hV s hs => elsewhere_any ls s A n c w.heap.size q z V ((HS.out.below HB3.out).below hV) hn (HPL.out.2 s hs) hl ((hV.cell (p := ⟨w.heap.size, 0, none⟩) (World.block_lt_of_cell? W _ hL)).trans hL) ((hV.cell (p := ⟨q, 0, none⟩) (World.block_lt_of_cell? W _ hq)).trans hq))
    clear hL
    generalize (ps.any fun p => ofF ls p != z) = b at *
    by_cases hz : z = -1
    · have hr : r = (0, 60) := by rw [HR.out, if_pos (.inl hz)]
      subst hr hz
      clear cf
      go_wp2_with fail
      go_ret2
      exact ⟨rfl, HB3.out⟩
    · have hz2 : (z == -1) = false := beq_eq_false_iff_ne.2 hz
      have hr := HR.out
      cases b
      · rw [if_neg (by rintro (h | h); exact hz h; cases h)] at hr
        subst hr
        clear hz
        go_wp2_with fail
        refine cf.mono ?_
        rintro e w2 ⟨rfl, hb2⟩
        have HB4 := Lib.hid (HB3.out.trans (hb2.mono HB3.out.size))
        have hq2 := (hb2.cell (p := ⟨q, 0, none⟩) (World.block_lt_of_cell? W _ hq)).trans hq
        clear hb2 cf hq
        go_wp2_with fail
        go_ret2
        exact ⟨rfl, HB4.out⟩
      · rw [if_pos (.inr rfl)] at hr
        subst hr
        clear hz
        go_wp2_with fail
        refine cf.mono ?_
        rintro e w2 ⟨rfl, hb2⟩
        have HB4 := Lib.hid (HB3.out.trans (hb2.mono HB3.out.size))
        clear hb2 cf hq
        go_wp2_with fail
        go_ret2
        exact ⟨rfl, HB4.out⟩
end Go.Proofs.YtnmlknhomhonaaaDoor.Reg
