/- NetKnown: limits, nil, new memory: the call returns true, and nothing that was there has turned. Closed. -/
import Derived.Test.YtephciglcikllaaNetKnown0
namespace Go.Proofs.Ytephciglcikllaa.netKnown
open Go.ChangeShapes Go.WideShapes Go.ChangeAt Go.RowKit Disk Zab Sto Net

def RelS (W0 : World) (gz gx gi : Nat) (i : Value) (wr : World) : Prop := ∃ (k : Nat) (O : Nat → Prop), k ≤ 4096 ∧ i = .int .i64 (k : Int) ∧ Sn W0 wr O gz (kk k) 2 ∧ KX O wr gx gi [97, 98, 99]
set_option maxRecDepth 100000 in
set_option maxHeartbeats 8000000 in
theorem walk (w : World) : Calls Try.prog 6 #[] w fun e w' => e = .returned (.bool true) ∧ Below w.heap.size w w' := by
  go_enter Try.func6, Try.ntmps6
  go_wp2_with fail
  generalize hW : World.alloc _ (.cells #[.slice none 0 0, _, _, _, _] 22) = W
  have HBAD := Lib.hid (bad_at w hW.symm)
  clear hW
  go_loopw [2] (fun i wr => RelB W i wr) (fun i _ => 5 - (intOf i).toNat)
  case atStart => exact ⟨0, by omega, rfl, Below.refl _ _⟩
  case round =>
    obtain ⟨k, hk, rfl, hb⟩ := hrel
    by_cases hlt : k < 5
    · obtain ⟨A, n, c, zs, c1, hr, hz, hn⟩ := HBAD.out.2 k hlt wr hb
      have CN := Lib.hid (new_bad (c := c) hr hz hn)
      have HB := Lib.hid hb
      have i0 : (0 : Int) ≤ (k : Int) := by omega
      have i1 : (k : Int) < (5 : Int) := by omega
      clear hr hz hn hb HBAD
      go_wp2_with fail
      refine CN.out.mono ?_
      rintro e w2 ⟨rfl, hb2⟩
      have HREL : Hid (RelB W (.int .i64 ((k + 1 : Nat) : Int)) w2) := ⟨k + 1, by omega, rfl, HB.out.trans (hb2.mono HB.out.size)⟩
      clear hb2 CN HB
      go_wp2_with fail
      exact ⟨HREL.out, by simp [intOf]; omega⟩
    · have v1 : ¬ (k : Int) < (5 : Int) := by omega
      have HB : Hid (Below w.heap.size w wr) := HBAD.out.1.trans (hb.mono HBAD.out.1.size)
      have CN := Lib.hid (new_lit [3, 1] (by decide) wr)
      have HW0 : Hid (Below wr.heap.size wr (wr.alloc (.cells (iv [3, 1]).toArray 3))) := (Below.refl _ _).alloc (Nat.le_refl _) _
      obtain ⟨W0, hW0⟩ : ∃ W0, W0 = wr.alloc (.cells (iv [3, 1]).toArray 3) := ⟨_, rfl⟩
      rw [← hW0] at CN HW0
      have HWB : Hid (Below w.heap.size w W0) := HB.out.trans (HW0.out.mono HB.out.size)
      have hw := hW0.symm
      clear hW0 HB HW0 HBAD hb hlt
      unfold iv at hw
      simp only [List.map_cons, List.map_nil] at hw
      have L1 := Lib.hid (letter_any 0 0 0 0 [])
      have L2 := Lib.hid (letter_any 0 3 1 0 [])
      have L3 := Lib.hid (letter_any 0 0 2 0 [])
      have L4 := Lib.hid (letter_any 0 0 1 (-1) [])
      have hS0 : S [] = ⟨#[]⟩ := rfl
      rw [hS0] at L1 L2 L3 L4
      clear hS0
      go_wp2_with fail
      refine CN.out.mono ?_
      rintro e w1 ⟨gz, O, rfl, hs⟩
      have HS : Hid (Sn W0 w1 O gz k0 0) := hs
      clear hs CN hw
      go_wp2_with fail
      refine (L1.out _).mono ?_
      rintro e w2 ⟨B, m, c, rfl, hmc, hm, hr, -, hb⟩
      have CS0 := Sn.send (HS.out.later hb) (l := ⟨⟨0, 0⟩, ⟨0, 0⟩, []⟩) hr hmc (by rw [hm]; decide)
      rw [s1] at CS0
      have CS := Lib.hid CS0
      clear hmc hm hr hb L1 CS0
      go_wp2_with fail
      refine CS.out.mono ?_
      rintro e w3 ⟨O, rfl, hs, -⟩
      have HS3 : Hid (Sn W0 w3 O gz k0 0) := hs
      clear hs CS HS
      go_wp2_with fail
      refine (L2.out _).mono ?_
      rintro e w4 ⟨B, m, c, rfl, hmc, hm, hr, -, hb⟩
      have CS0 := Sn.send (HS3.out.later hb) (l := ⟨⟨0, 3⟩, ⟨1, 0⟩, []⟩) hr hmc (by rw [hm]; decide)
      rw [s2] at CS0
      have CS := Lib.hid CS0
      clear hmc hm hr hb L2 CS0
      go_wp2_with fail
      refine CS.out.mono ?_
      rintro e w5 ⟨O, rfl, hs, -⟩
      have HS5 : Hid (Sn W0 w5 O gz k0 0) := hs
      clear hs CS HS3
      go_wp2_with fail
      refine (L3.out _).mono ?_
      rintro e w6 ⟨B, m, c, rfl, hmc, hm, hr, -, hb⟩
      have CS0 := Sn.send (HS5.out.later hb) (l := ⟨⟨0, 0⟩, ⟨2, 0⟩, []⟩) hr hmc (by rw [hm]; decide)
      rw [s3] at CS0
      have CS := Lib.hid CS0
      clear hmc hm hr hb L3 CS0
      go_wp2_with fail
      refine CS.out.mono ?_
      rintro e w7 ⟨O, rfl, hs, -⟩
      have HS7 : Hid (Sn W0 w7 O gz k0 0) := hs
      clear hs CS HS5
      go_wp2_with fail
      refine (L4.out _).mono ?_
      rintro e w8 ⟨B, m, c, rfl, hmc, hm, hr, -, hb⟩
      have CS0 := Sn.send (HS7.out.later hb) (l := ⟨⟨0, 0⟩, ⟨1, -1⟩, []⟩) hr hmc (by rw [hm]; decide)
      rw [s4] at CS0
      have CS := Lib.hid CS0
      clear hmc hm hr hb L4 CS0
      go_wp2_with fail
      refine CS.out.mono ?_
      rintro e w9 ⟨O, rfl, hs, -⟩
      have HS9 : Hid (Sn W0 w9 O gz k0 0) := hs
      clear hs CS HS7
      have hmk := make_big w9
      have CS0 := Sn.send (HS9.out.later ((Below.refl _ _).alloc (Nat.le_refl _) (.cells (big.map U).toArray 5))) (l := ⟨⟨0, 0⟩, ⟨1, 0⟩, big⟩) (c := 2097153) (big_rd w9) (Nat.le_refl _) (by decide)
      rw [s5 big_len] at CS0
      have CS := Lib.hid CS0
      unfold ltV ltA at CS
      dsimp only at CS
      clear CS0
      generalize (big.map U).toArray = BA at hmk CS
      go_wp2_with fail
      refine CS.out.mono ?_
      rintro e w10 ⟨O, rfl, hs, -⟩
      have HS10 : Hid (Sn W0 w10 O gz k0 0) := hs
      have CC0 := Sn.cut hs (by decide) ⟨0, 0⟩ ⟨0, 0⟩
      rw [t1] at CC0
      have CC := Lib.hid CC0
      unfold adV at CC
      clear hs CS CC0 hmk HS9
      dsimp only at CC
      go_wp2_with fail
      refine CC.out.mono ?_
      rintro e w11 ⟨O, rfl, hs, -⟩
      have CC0 := Sn.heal hs (by decide) ⟨0, 0⟩ ⟨0, 3⟩
      rw [t2] at CC0
      have CH := Lib.hid CC0
      unfold adV at CH
      clear hs CC CC0 HS10
      dsimp only at CH
      go_wp2_with fail
      refine CH.out.mono ?_
      rintro e w12 ⟨O, rfl, hs, -⟩
      have HS12 : Hid (Sn W0 w12 O gz k0 2) := hs
      have CL0 := Len_any hs.nt
      have e0 : (k0.row.length : Int) = 0 := rfl
      rw [e0] at CL0
      have CL := Lib.hid CL0
      clear hs CH CL0 e0
      go_wp2_with fail
      refine CL.out.mono ?_
      rintro e w13 ⟨rfl, rfl⟩
      have kc := fun (w : World) (C : Array Value) (n c : Nat) => conv_const w C n c
      clear CL
      go_wp2_with fail
      have HX0 : Hid (Sn W0 ((w13.alloc (.cells #[.int .u8 97, .int .u8 98, .int .u8 99] 5 (3, 4))).alloc (.cells #[.int .i64 0, .int .i64 0, .int .i64 1, .int .i64 0, .slice (some ⟨w13.heap.size, 0, none⟩) 3 3] 37)) O gz (kk 0) 2 ∧ KX O ((w13.alloc (.cells #[.int .u8 97, .int .u8 98, .int .u8 99] 5 (3, 4))).alloc (.cells #[.int .i64 0, .int .i64 0, .int .i64 1, .int .i64 0, .slice (some ⟨w13.heap.size, 0, none⟩) 3 3] 37)) (w13.heap.size + 1) w13.heap.size [97, 98, 99] ∧ W0.heap.size ≤ w13.heap.size) := by
        have h0 : Sn W0 w13 O gz (kk 0) 2 := HS12.out
        refine ⟨h0.later (((Below.refl _ _).alloc (Nat.le_refl _) _).alloc (by simp) _), ⟨?_, ?_, rfl, ⟨fun hq => ?_, fun hq => ?_⟩, by omega⟩, h0.bl.size⟩
        · have := Bk.new (w13.alloc (.cells #[.int .u8 97, .int .u8 98, .int .u8 99] 5 (3, 4))) 37 #[.int .i64 0, .int .i64 0, .int .i64 1, .int .i64 0, .slice (some ⟨w13.heap.size, 0, none⟩) 3 3]
          rw [World.size_alloc] at this
          exact this
        · have h1 := heap_alloc_new w13 (.cells #[.int .u8 97, .int .u8 98, .int .u8 99] 5 (3, 4))
          exact (Below.heap_alloc _ _ _ (by simp)).trans h1
        · have := (h0.nt.low _ hq).2; omega
        · have := (h0.nt.low _ hq).2; omega
      generalize World.alloc _ _ = W1 at *
      generalize w13.heap.size = gi at *
      clear HS12 kc
      obtain ⟨gx, hgx⟩ : ∃ gx, gx = gi + 1 := ⟨_, rfl⟩
      rw [← hgx] at HX0 ⊢
      clear hgx
      go_loopw [10] (fun i wr => RelS W0 gz gx gi i wr) (fun i _ => 4096 - (intOf i).toNat)
      case atStart => exact ⟨0, O, by omega, rfl, HX0.out.1, HX0.out.2.1⟩
      case round =>
        have HGI := Lib.hid HX0.out.2.2
        clear HX0
        obtain ⟨k, O, hk, rfl, hs, hx⟩ := hrel
        by_cases hlt : k < 4096
        · obtain ⟨x0, x1, x2, x3, x4⟩ := hx.cells
          have CS0 := Sn.send hs (l := lx) hx.mm.rd (Nat.le_refl _) (by decide)
          rw [kk_send hlt] at CS0
          have CS := Lib.hid CS0
          unfold ltV ltA lx at CS
          have HX := Lib.hid hx
          have HS := Lib.hid hs
          have i1 : (k : Int) < (4096 : Int) := by omega
          clear hs hx CS0 HGI
          dsimp only [List.length_cons, List.length_nil] at CS
          go_wp2_with fail
          refine CS.out.mono ?_
          rintro e w2 ⟨O2, rfl, hs2, hg2⟩
          have HREL : Hid (RelS W0 gz gx gi (.int .i64 ((k + 1 : Nat) : Int)) w2) := ⟨k + 1, O2, by omega, rfl, hs2, HX.out.next hg2⟩
          clear hs2 hg2 CS HX HS
          go_wp2_with fail
          exact ⟨HREL.out, by simp [intOf]; omega⟩
        · obtain rfl : k = 4096 := by omega
          have HX := Lib.hid hx
          have HS := Lib.hid hs
          have y0 : wr.cell? ⟨gi, 0, none⟩ = some (.int .u8 97) := hx.mm.cell 0
          have y1 : wr.frozen? ⟨gi, 0, none⟩ = false := hx.mm.frozen (by decide)
          have hxo : Out (fun b => b = gi) wr (wr.setCell ⟨gi, 0, none⟩ (.int .u8 122)) := Out.setCell (X := fun b => b = gi) _ rfl _
          have hx2 : KX O (wr.setCell ⟨gi, 0, none⟩ (.int .u8 122)) gx gi [122, 98, 99] := ⟨hx.bk.kept (hxo.block gx hx.bk.lt (fun e => hx.ne e.symm)), hx.mm.set 0 122, rfl, hx.off, hx.ne⟩
          have hs2 : Sn W0 (wr.setCell ⟨gi, 0, none⟩ (.int .u8 122)) O gz (kk 4096) 2 := sn_out hs hxo fun b hb => by subst hb; exact ⟨hx.off.2, HGI.out⟩
          have CS0 := Sn.send hs2 (l := ⟨⟨0, 0⟩, ⟨1, 0⟩, [122, 98, 99]⟩) hx2.mm.rd (c := 3) (Nat.le_refl _) (by decide)
          rw [kk_full _ rfl] at CS0
          have CS := Lib.hid CS0
          unfold ltV ltA at CS
          have HX2 := Lib.hid hx2
          obtain ⟨x0, x1, x2, x3, x4⟩ := hx2.cells
          clear hs hx hk hlt hs2 hx2 hxo HS HX CS0
          dsimp only [List.length_cons, List.length_nil] at CS
          go_wp2_with fail
          refine CS.out.mono ?_
          rintro e w2 ⟨O2, rfl, hs2, hg2⟩
          have HX := Lib.hid (HX2.out.next hg2)
          have CD0 := hs2.double 0
          rw [d1] at CD0
          have CD := Lib.hid CD0
          clear CS HX2 hs2 hg2 CD0 y0 y1 x0 x1 x2 x3 x4
          go_wp2_with fail
          refine CD.out.mono ?_
          rintro e w3 ⟨O3, rfl, hs2, hg2⟩
          have HX3 := Lib.hid (HX.out.next hg2)
          have CD0 := hs2.drop 4096
          rw [d2] at CD0
          have CE := Lib.hid CD0
          clear CD HX hs2 hg2 CD0
          go_wp2_with fail
          refine CE.out.mono ?_
          rintro e w4 ⟨O4, rfl, hs2, hg2⟩
          have HX := Lib.hid (HX3.out.next hg2)
          have CD0 := hs2.drop 0
          rw [d3] at CD0
          have CD := Lib.hid CD0
          clear CE HX3 hs2 hg2 CD0
          go_wp2_with fail
          refine CD.out.mono ?_
          rintro e w5 ⟨O5, rfl, hs2, hg2⟩
          have HX3 := Lib.hid (HX.out.next hg2)
          have CD0 := hs2.double 0
          rw [d4] at CD0
          have CE := Lib.hid CD0
          clear CD HX hs2 hg2 CD0
          go_wp2_with fail
          refine CE.out.mono ?_
          rintro e w6 ⟨O6, rfl, hs6, hg6⟩
          have HX := Lib.hid (HX3.out.next hg6)
          have HS : Hid (Sn W0 w6 O6 gz (kk 4096) 2) := hs6
          have CL := Lib.hid (Letters_any HS.out.nt)
          clear CE HX3 hs6 hg6
          go_wp2_with fail
          refine CL.out.mono ?_
          rintro e w7 ⟨gl, rfl, hgl, hlo, hb7⟩
          rw [kk_len]
          obtain ⟨gb, cb, l4, lz, lf, hgb, hgb2⟩ := lets_first hlo rfl
          have hgo : ∀ b, O6 b → b < gb := fun b hb => by have := (HS.out.nt.low b hb).2; omega
          have hxo : Out (fun b => b = gb) w7 (w7.setCell ⟨gb, 0, none⟩ (.int .u8 121)) := Out.setCell (X := fun b => b = gb) _ rfl _
          have hx7 := HX.out.later hb7
          have hx8 : KX O6 (w7.setCell ⟨gb, 0, none⟩ (.int .u8 121)) gx gi [122, 98, 99] := ⟨hx7.bk.kept (hxo.block gx hx7.bk.lt (fun e => by have := HX.out.bk.lt; omega)), hx7.mm.kept (hxo.block gi hx7.mm.lt (fun e => by have := HX.out.mm.lt; omega)), rfl, hx7.off, hx7.ne⟩
          have hs8 := sn_out (HS.out.later hb7) hxo fun b hb => by subst hb; exact ⟨fun hq => by have := hgo _ hq; omega, by have := HS.out.bl.size; omega⟩
          have CT0 := hs8.take 0
          rw [d5] at CT0
          have CT := Lib.hid CT0
          have HX8 := Lib.hid hx8
          clear HX HS CL hgl hlo hb7 hgb hgb2 hgo hxo hx7 hx8 hs8 CT0
          go_wp2_with fail
          refine CT.out.mono ?_
          rintro e w9 ⟨O9, B, m, c, rfl, hmc, hr, hn, hs9, hg9⟩
          have hbn := (Below.refl w9.heap.size w9).alloc (Nat.le_refl _) (.cells (ltA lx (.slice B m c)) 37)
          have HS9 := Lib.hid (hs9.later hbn)
          have HX9 := Lib.hid ((HX8.out.next hg9).later hbn)
          have HK9 := Lib.hid (LtK.new hmc hr (fun a ha => (hn a ha).2) fun b hb => (hs9.nt.low b hb).2)
          have CN1 := Lib.hid (Take_nil 0)
          unfold ltV ltA lt0 ad0 at CN1
          unfold ltV ltA lx
          unfold ltA lx at HS9 HX9 HK9
          clear hmc hr hn hs9 hg9 hbn CT HX8 l4 lz lf
          dsimp only at *
          go_wp2_with fail
          refine (CN1.out _).mono ?_
          rintro e w10 ⟨rfl, hb10⟩
          have HX10 := Lib.hid (HX9.out.later hb10)
          have HS10 := Lib.hid (HS9.out.later hb10)
          have HK10 := Lib.hid (HK9.out.later hb10)
          have hbn := (Below.refl w10.heap.size w10).alloc (Nat.le_refl _) (.cells #[.int .i64 0, .int .i64 0, .int .i64 0, .int .i64 0, .slice none 0 0] 37)
          obtain ⟨Ba, ma, ca, la, sa, -⟩ := (HK10.out.later hbn).load
          obtain ⟨x0, x1, x2, x3, x4⟩ := (HX10.out.later hbn).cells
          have CS := Lib.hid (Send_nil (⟨⟨0, 0⟩, ⟨1, 0⟩, []⟩ : Lt) (.slice (some ⟨gi, 0, none⟩) 3 3))
          unfold ltV ltA at CS
          have HSN := Lib.hid (HS10.out.later hbn)
          have HXN := Lib.hid (HX10.out.later hbn)
          have hS1 : S [97, 98, 99] = ⟨#[97, 98, 99]⟩ := rfl
          dsimp only at sa
          rw [hS1] at sa
          clear hb10 HX9 HS9 HK9 CN1 hbn HK10 HX10 HS10 hS1
          dsimp only at *
          go_wp2_with fail
          refine (CS.out _).mono ?_
          rintro e w11 ⟨rfl, hb11⟩
          have HX11 := Lib.hid (HXN.out.later hb11)
          have HS11 := Lib.hid (HSN.out.later hb11)
          have C1 := Lib.hid (Len_nil w11)
          clear hb11 HXN HSN CS la sa x0 x1 x2 x3 x4
          go_wp2_with fail
          refine C1.out.mono ?_
          rintro e w12 ⟨rfl, rfl⟩
          have C1 := Lib.hid (Letters_nil w12)
          go_wp2_with fail
          refine C1.out.mono ?_
          rintro e w13 ⟨rfl, rfl⟩
          have C1 := Lib.hid (Drop_nil 0 w13)
          go_wp2_with fail
          refine C1.out.mono ?_
          rintro e w14 ⟨rfl, rfl⟩
          have C1 := Lib.hid (Double_nil 0 w14)
          go_wp2_with fail
          refine C1.out.mono ?_
          rintro e w15 ⟨rfl, rfl⟩
          have C1 := Lib.hid (Hold_nil 0 w15)
          obtain ⟨x0, x1, x2, x3, x4⟩ := HX11.out.cells
          go_wp2_with fail
          refine C1.out.mono ?_
          rintro e w16 ⟨rfl, rfl⟩
          have C1 := Lib.hid (Cut_nil ⟨0, 0⟩ ⟨1, 0⟩ w16)
          unfold adV at C1
          dsimp only at C1
          go_wp2_with fail
          refine C1.out.mono ?_
          rintro e w17 ⟨rfl, hb17⟩
          have HX17 := Lib.hid (HX11.out.later hb17)
          have HS17 := Lib.hid (HS11.out.later hb17)
          have C1 := Lib.hid (Heal_nil ⟨0, 0⟩ ⟨1, 0⟩ w17)
          unfold adV at C1
          dsimp only at C1
          clear x0 x1 x2 x3 x4
          obtain ⟨x0, x1, x2, x3, x4⟩ := HX17.out.cells
          clear hb17 HX11 HS11
          go_wp2_with fail
          refine C1.out.mono ?_
          rintro e w18 ⟨rfl, hb18⟩
          have HX18 := Lib.hid (HX17.out.later hb18)
          have HS18 := Lib.hid (HS17.out.later hb18)
          have C1 := Lib.hid (Cuts_nil ⟨0, 0⟩ ⟨1, 0⟩ w18)
          unfold adV at C1
          dsimp only at C1
          clear x0 x1 x2 x3 x4
          obtain ⟨x0, x1, x2, x3, x4⟩ := HX18.out.cells
          clear hb18 HX17 HS17
          go_wp2_with fail
          refine C1.out.mono ?_
          rintro e w19 ⟨rfl, hb19⟩
          have HS19 := Lib.hid (HS18.out.later hb19)
          have C1 := Lib.hid (goes_any w19)
          clear x0 x1 x2 x3 x4
          clear hb19 HX18 HS18
          go_wp2_with fail
          refine C1.out.mono ?_
          rintro e w20 ⟨rfl, hb20⟩
          have HB20 : Hid (Below w.heap.size w w20) := HWB.out.trans ((HS19.out.later hb20).bl.mono HWB.out.size)
          clear hb20 HS19 C1
          go_wp2_with fail
          go_ret
          exact ⟨rfl, HB20.out⟩
set_option maxRecDepth 100000 in
theorem lifted (os : Os) (started : os.Started) (H : Type) (enc : TypeId × Value → H) :
    ReturnsInHanded {} Try.checked os 6 .any (Rows.netKnownSpec.pre6 enc Try.prog Try.f6 Rows.netKnownRow.domain false) (Rows.netKnownSpec.post enc Try.prog Try.f6 false true false false) := by
  refine returnsInHanded_of_change (C := Try.checked) own started (by kernel_rfl) Try.func6
    (ChangeSpec.witness6 (enc := enc) (C := Try.checked) false ⟨#[], #[], []⟩ 8 (by kernel_rfl) (by kernel_rfl) (by kernel_rfl) (by kernel_rfl)) ?_
  intro W base args ds gs before hval0 hW hcnd _
  have hW' := hW
  obtain ⟨p, q, hA0, hV, rfl, hfz, hnd⟩ := hW
  have hA : DataW.TrodAll enc Try.prog W 0 (fun _ => true) true Try.f6.params.toList args.toList ds p := hA0
  rw [Try.params6] at hA
  obtain ⟨rfl, rfl, rfl⟩ := trodAll_none hA
  obtain ⟨rfl, rfl⟩ := trodVars_none hV

  refine (walk W).mono fun e W' ⟨he, hb⟩ => ?_
  subst he
  exact ⟨_, rfl, post_true laidOut (by kernel_rfl) ty_bool (by kernel_rfl) rfl hW' hb rfl⟩

theorem over : Rows.netKnownRow.holds Try.pinned (OpenSpec.ofChange Rows.netKnownSpec) :=
  OpenClaim.holds_of_wide 6 Try.f6 rfl rfl rfl rfl rfl rfl rfl ⟨rfl, rfl, rfl, rfl, rfl⟩ rfl rfl rfl rfl rfl (by kernel_rfl) Try.func6 (by kernel_rfl)
    (of_decide_eq_true (by kernel_rfl)) (by unfold Func.isWrapper; first | (rw [if_pos (by decide +kernel)]; kernel_rfl) | (rw [if_neg (by decide +kernel)]; exact ⟨rfl, rfl⟩))
    (fun os started H enc _ => lifted os started H enc)

theorem proved : Rows.NetKnownSaid :=
  over
end Go.Proofs.Ytephciglcikllaa.netKnown
