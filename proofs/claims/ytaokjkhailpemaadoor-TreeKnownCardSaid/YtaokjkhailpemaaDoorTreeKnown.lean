/- TreeKnown: the chapter's examples, and limits. The call returns true. No conditions. -/
import Derived.Test.YtaokjkhailpemaaDoorTreeKnownPure
import Derived.Test.YtaokjkhailpemaaDoorPathFrame
namespace Go.Proofs.YtaokjkhailpemaaDoor.treeKnown
open Go.ChangeShapes Go.WideShapes Go.ChangeAt Go.RowKit Path Tree

def RelK (w : World) (a : Addr) (i : Value) (wr : World) : Prop := ∃ (k : Nat) (X : Nat → Prop), 1 ≤ k ∧ k ≤ 48 ∧ i = .int .i64 (k : Int) ∧ St w wr [(a, tL (k - 1))] X

set_option maxRecDepth 8000 in
set_option maxHeartbeats 4000000 in
theorem walk (w : World) : Calls Tryd.prog 7 #[] w fun e w' => e = .returned (.bool true) ∧ Below w.heap.size w w' := by
  have H0 := Lib.hid (St.start w)
  go_enter Tryd.func7, Tryd.ntmps7
  go_wp2_with fail
  refine (New_no [114] w (by decide) kn0).mono ?_
  rintro e w1 ⟨rfl, hb⟩
  have H1 := Lib.hid (H0.out.below hb)
  clear hb H0
  go_wp2_with fail
  refine (New_st pR w w1 [] _ (by decide) gr0 H1.out).mono ?_
  rintro e w2 ⟨a, X2, rfl, _, hS⟩
  have H2 := Lib.hid hS
  clear hS H1
  have c := put_any pX w2 (by decide)
  go_wp2_with fail
  refine c.mono ?_
  rintro e w3 ⟨d3, rfl, hb3, hd3⟩
  have HB3 := Lib.hid hb3
  have HD3 := Lib.hid hd3
  clear hb3 hd3 c
  dsimp only [efV, efC, znC, efPut, ZN.zero]
  have hbb : Below w2.heap.size w2 w3 := HB3.out
  have c3 := Apply_lit [(efPut pX, d3)] w2.heap.size 0 a (TR.new pR) w w3 _ X2 (H2.out.below hbb) rfl H2.out.lt hbb.size (fun y hy => by simp at hy; subst hy; exact HD3.out) (show ∀ x ∈ [efPut pX], x.path.length ≤ 1000000 ∧ x.node.data.length ≤ 1000000 by decide) (by simp)
  rw [show List.map (·.1) [(efPut pX, d3)] = [efPut pX] from rfl, kn1] at c3
  clear hbb H2 HB3 HD3
  go_wp2_with fail
  refine c3.mono ?_
  rintro e w4 ⟨rfl, X3, hS, _, _⟩
  have H4 : Hid (St w w4 [(a, TR.new pR)] X3) := hS
  clear hS c3
  go_wp2_with fail
  have c := put_any pRa w4 (by decide)
  refine c.mono ?_
  rintro e w5 ⟨d5, rfl, hb5, hd5⟩
  have HB5 := Lib.hid hb5
  have HD5 := Lib.hid hd5
  clear hb5 hd5 c
  dsimp only [efV, efC, znC, efPut, ZN.zero]
  have hbb : Below w4.heap.size w4 w5 := HB5.out
  have c3 := Apply_lit [(efPut pRa, d5)] w4.heap.size 0 a (TR.new pR) w w5 _ X3 (H4.out.below hbb) rfl H4.out.lt hbb.size (fun y hy => by simp at hy; subst hy; exact HD5.out) (show ∀ x ∈ [efPut pRa], x.path.length ≤ 1000000 ∧ x.node.data.length ≤ 1000000 by decide) (by simp)
  rw [show List.map (·.1) [(efPut pRa, d5)] = [efPut pRa] from rfl, gr1] at c3
  clear hbb H4 HB5 HD5
  go_wp2_with fail
  refine c3.mono ?_
  rintro e w6 ⟨rfl, X4, hS, _, _⟩
  have H6 : Hid (St w w6 [(a, tR1)] X4) := hS
  clear hS c3
  go_wp2_with fail
  have c := gone_any pR w6
  refine c.mono ?_
  rintro e w7 ⟨rfl, hb7⟩
  have HB7 := Lib.hid hb7
  clear hb7 c
  dsimp only [efV, efC, znC, efGone, ZN.zero]
  have hbb : Below w6.heap.size w6 w7 := HB7.out
  have c3 := Apply_lit [(efGone pR, Value.slice none 0 0)] w6.heap.size 0 a (tR1) w w7 _ X4 (H6.out.below hbb) rfl H6.out.lt hbb.size (fun y hy => by simp at hy; subst hy; exact DataS.nil_ _ _) (show ∀ x ∈ [efGone pR], x.path.length ≤ 1000000 ∧ x.node.data.length ≤ 1000000 by decide) (by simp)
  rw [show List.map (·.1) [(efGone pR, Value.slice none 0 0)] = [efGone pR] from rfl, kn2] at c3
  clear hbb H6 HB7
  go_wp2_with fail
  refine c3.mono ?_
  rintro e w8 ⟨rfl, X5, hS, _, _⟩
  have H8 : Hid (St w w8 [(a, tR1)] X5) := hS
  clear hS c3
  go_wp2_with fail
  have c := gone_any pRx w8
  refine c.mono ?_
  rintro e w9 ⟨rfl, hb9⟩
  have HB9 := Lib.hid hb9
  clear hb9 c
  dsimp only [efV, efC, znC, efGone, ZN.zero]
  have hbb : Below w8.heap.size w8 w9 := HB9.out
  have c3 := Apply_lit [(efGone pRx, Value.slice none 0 0)] w8.heap.size 0 a (tR1) w w9 _ X5 (H8.out.below hbb) rfl H8.out.lt hbb.size (fun y hy => by simp at hy; subst hy; exact DataS.nil_ _ _) (show ∀ x ∈ [efGone pRx], x.path.length ≤ 1000000 ∧ x.node.data.length ≤ 1000000 by decide) (by simp)
  rw [show List.map (·.1) [(efGone pRx, Value.slice none 0 0)] = [efGone pRx] from rfl, kn3] at c3
  clear hbb H8 HB9
  go_wp2_with fail
  refine c3.mono ?_
  rintro e w10 ⟨rfl, X6, hS, _, _⟩
  have H10 : Hid (St w w10 [(a, tR1)] X6) := hS
  clear hS c3
  go_wp2_with fail
  have c := gone_any pRa w10
  refine c.mono ?_
  rintro e w11 ⟨rfl, hb11⟩
  have HB11 := Lib.hid hb11
  clear hb11 c
  dsimp only [efV, efC, znC, efGone, ZN.zero]
  have c := gone_any pRa w11
  go_wp2_with fail
  refine c.mono ?_
  rintro e w12 ⟨rfl, hb12⟩
  have HB12 := Lib.hid hb12
  clear hb12 c
  dsimp only [efV, efC, znC, efGone, ZN.zero]
  have hbb : Below w10.heap.size w10 w12 := HB11.out.trans (HB12.out.mono HB11.out.size)
  have c3 := Apply_lit [(efGone pRa, Value.slice none 0 0), (efGone pRa, Value.slice none 0 0)] w10.heap.size 0 a (tR1) w w12 _ X6 (H10.out.below hbb) rfl H10.out.lt hbb.size (fun y hy => by simp at hy; subst hy; exact DataS.nil_ _ _) (show ∀ x ∈ [efGone pRa, efGone pRa], x.path.length ≤ 1000000 ∧ x.node.data.length ≤ 1000000 by decide) (by simp)
  rw [show List.map (·.1) [(efGone pRa, Value.slice none 0 0), (efGone pRa, Value.slice none 0 0)] = [efGone pRa, efGone pRa] from rfl, kn4] at c3
  clear hbb H10 HB11 HB12
  go_wp2_with fail
  refine c3.mono ?_
  rintro e w13 ⟨rfl, X7, hS, _, _⟩
  have H13 : Hid (St w w13 [(a, tR1)] X7) := hS
  clear hS c3
  go_wp2_with fail
  have c := gone_any pRa w13
  refine c.mono ?_
  rintro e w14 ⟨rfl, hb14⟩
  have HB14 := Lib.hid hb14
  clear hb14 c
  dsimp only [efV, efC, znC, efGone, ZN.zero]
  have hbb : Below w13.heap.size w13 w14 := HB14.out
  have c3 := Apply_lit [(efGone pRa, Value.slice none 0 0)] w13.heap.size 0 a (tR1) w w14 _ X7 (H13.out.below hbb) rfl H13.out.lt hbb.size (fun y hy => by simp at hy; subst hy; exact DataS.nil_ _ _) (show ∀ x ∈ [efGone pRa], x.path.length ≤ 1000000 ∧ x.node.data.length ≤ 1000000 by decide) (by simp)
  rw [show List.map (·.1) [(efGone pRa, Value.slice none 0 0)] = [efGone pRa] from rfl, kn5] at c3
  clear hbb H13 HB14
  go_wp2_with fail
  refine c3.mono ?_
  rintro e w15 ⟨rfl, X8, hS, _, _⟩
  have H15 : Hid (St w w15 [(a, tK2)] X8) := hS
  clear hS c3
  go_wp2_with fail
  have c3 := Apply_none 0 a tK2 w w15 _ X8 H15.out rfl
  rw [kn6] at c3
  clear H15
  refine c3.mono ?_
  rintro e w16 ⟨rfl, X9, hS⟩
  have H16 : Hid (St w w16 [(a, tK3)] X9) := hS
  clear hS c3
  have c3 := Apply_lit [(⟨pR, false, n3⟩, Value.slice none 0 0)] w16.heap.size 0 a tK3 w w16 _ X9 H16.out rfl H16.out.lt (Nat.le_refl _) (fun y hy => by simp at hy; subst hy; exact DataS.nil_ _ _) (show ∀ x ∈ [(⟨pR, false, n3⟩ : Ef)], x.path.length ≤ 1000000 ∧ x.node.data.length ≤ 1000000 by decide) (by simp)
  rw [show List.map (·.1) [((⟨pR, false, n3⟩ : Ef), Value.slice none 0 0)] = [⟨pR, false, n3⟩] from rfl, kn7] at c3
  clear H16
  go_wp2_with fail
  refine c3.mono ?_
  rintro e w17 ⟨rfl, X10, hS, _, _⟩
  have H17 : Hid (St w w17 [(a, tK4)] X10) := hS
  clear hS c3
  go_wp2_with fail
  refine (Get_yes pR n3 0 a tK4 _ _ X10 H17.out.1 rfl (by decide) kn8).mono ?_
  rintro e w18 ⟨A1, k1, c1, rfl, hb, hk1, hr, hf⟩
  have H18 := Lib.hid (H17.out.below hb)
  have HR1 := Lib.hid hr
  have HF1 := Lib.hid hf
  clear hb hr hf HR1 HF1 H17
  dsimp only [znV, znC, n3, ZN.zero]
  go_wp2_with fail
  refine (At_any 0 a tK4 _ _ X10 (H18.out.alloc _).1 rfl).mono ?_
  rintro e w19 ⟨rfl, hb⟩
  have H19 := Lib.hid ((H18.out.alloc _).below hb)
  have hcell : w19.cell? ⟨w18.heap.size, 1, none⟩ = some (.int .u32 3) := by
    have h1 := (hb.block w18.heap.size (by simp)).trans (heap_alloc_new _ _)
    simp only [World.cell?, h1]
    rfl
  clear hb H18
  rw [show (tK4.cnt : Int) = 4 from rfl]
  go_wp2_with fail
  clear hcell
  go_loopw [15] (fun i wr => RelK w a i wr) (fun i _ => 48 - (intOf i).toNat)
  case atStart => exact ⟨1, X10, by omega, by omega, rfl, H19.out⟩
  case round =>
    obtain ⟨k, X, h1, h48, rfl, hS⟩ := hrel
    have HS := Lib.hid hS
    clear hS H19
    by_cases hlt : k < 48
    · obtain ⟨j, rfl⟩ : ∃ j, k = j + 1 := ⟨k - 1, by omega⟩
      rw [Nat.add_sub_cancel] at HS
      have v1 : ((j + 1 : Nat) : Int) < 48 := by omega
      have hcv : (convert 37 9 (.slice (some ⟨wr.heap.size, 0, none⟩) 2 2)).run Tryd.prog (wr.alloc (.cells #[.int .u8 (97 + ((j : Int) + 1) / 10), .int .u8 (48 + ((j : Int) + 1) % 10)] 5)) = .ok (.string (S (px j))) (wr.alloc (.cells #[.int .u8 (97 + ((j : Int) + 1) / 10), .int .u8 (48 + ((j : Int) + 1) % 10)] 5)) := run_string_Rd (P := Tryd.prog) 37 9 5 Tree.ty_bytes Tree.ty_byte ty_string (px_rd wr j hlt) 2
      have hap := px_pk j
      have hz : (S (px j)).size = 2 := by rw [S_size]; rfl
      have hS1 := HS.out.alloc (.cells #[.int .u8 (97 + ((j : Int) + 1) / 10), .int .u8 (48 + ((j : Int) + 1) % 10)] 5)
      have cput := put_any (pk (j + 1)) (wr.alloc (.cells #[.int .u8 (97 + ((j : Int) + 1) / 10), .int .u8 (48 + ((j : Int) + 1) % 10)] 5)) (pk_len _)
      have HS1 := Lib.hid hS1
      clear hS1 HS
      generalize S (px j) = sx at *
      go_wp2_with fail
      refine cput.mono ?_
      rintro e v2 ⟨d, rfl, hb, hd⟩
      have c3 := Apply_lit [(efPut (pk (j + 1)), d)] _ 0 a (tL j) w v2 _ X (HS1.out.below hb) rfl HS1.out.lt hb.size (fun y hy => by simp at hy; subst hy; exact hd) (fun x hx => by simp at hx; subst hx; exact ⟨pk_len _, pk_len _⟩) (by simp)
      rw [show List.map (·.1) [(efPut (pk (j + 1)), d)] = [efPut (pk (j + 1))] from rfl, kn9' (by omega)] at c3
      clear hb hd cput HS1 hcv hap hz
      dsimp only [efV, efC, znC, efPut, ZN.zero]
      go_wp2_with fail
      refine c3.mono ?_
      rintro e v3 ⟨rfl, X', hS, _, _⟩
      have HS : Hid (St w v3 [(a, tL (j + 1))] X') := hS
      clear hS c3
      go_wp2_with fail
      exact ⟨⟨j + 1 + 1, X', by omega, by omega, by simp, HS.out⟩, by simp [intOf]; omega⟩
    · obtain rfl : k = 48 := by omega
      obtain ⟨v0, hv0⟩ : ∃ v0 : World, v0 = wr := ⟨_, rfl⟩
      obtain ⟨w30, hw30⟩ : ∃ w30 : World, w30 = wr := ⟨_, rfl⟩
      rw [← hw30]
      have H30 : Hid (St w w30 [(a, tL 47)] X) := by rw [hw30]; exact HS.out
      clear hw30 HS hv0
      have c := put_any pRx w30 (by decide)
      go_wp2_with fail
      refine c.mono ?_
      rintro e w31 ⟨d31, rfl, hb31, hd31⟩
      have HB31 := Lib.hid hb31
      have HD31 := Lib.hid hd31
      clear hb31 hd31 c
      dsimp only [efV, efC, znC, efPut, ZN.zero]
      have hbb : Below w30.heap.size w30 w31 := HB31.out
      have c3 := Apply_lit [(efPut pRx, d31)] w30.heap.size 0 a (tL 47) w w31 _ X (H30.out.below hbb) rfl H30.out.lt hbb.size (fun y hy => by simp at hy; subst hy; exact HD31.out) (show ∀ x ∈ [efPut pRx], x.path.length ≤ 1000000 ∧ x.node.data.length ≤ 1000000 by decide) (by simp)
      rw [show List.map (·.1) [(efPut pRx, d31)] = [efPut pRx] from rfl, kn10] at c3
      clear hbb H30 HB31 HD31
      go_wp2_with fail
      refine c3.mono ?_
      rintro e w32 ⟨rfl, Y1, hS, _, _⟩
      have H32 : Hid (St w w32 [(a, tL 47)] Y1) := hS
      clear hS c3
      go_wp2_with fail
      have c := put_any pRa1 w32 (by decide)
      refine c.mono ?_
      rintro e w33 ⟨d33, rfl, hb33, hd33⟩
      have HB33 := Lib.hid hb33
      have HD33 := Lib.hid hd33
      clear hb33 hd33 c
      dsimp only [efV, efC, znC, efPut, ZN.zero]
      have hbb : Below w32.heap.size w32 w33 := HB33.out
      have c3 := Apply_lit [(efPut pRa1, d33)] w32.heap.size 0 a (tL 47) w w33 _ Y1 (H32.out.below hbb) rfl H32.out.lt hbb.size (fun y hy => by simp at hy; subst hy; exact HD33.out) (show ∀ x ∈ [efPut pRa1], x.path.length ≤ 1000000 ∧ x.node.data.length ≤ 1000000 by decide) (by simp)
      rw [show List.map (·.1) [(efPut pRa1, d33)] = [efPut pRa1] from rfl, kn11] at c3
      clear hbb H32 HB33 HD33
      go_wp2_with fail
      refine c3.mono ?_
      rintro e w34 ⟨rfl, Y2, hS, _, _⟩
      have H34 : Hid (St w w34 [(a, tL48)] Y2) := hS
      clear hS c3
      go_wp2_with fail
      have c := gone_any pRa1 w34
      refine c.mono ?_
      rintro e w35 ⟨rfl, hb35⟩
      have HB35 := Lib.hid hb35
      clear hb35 c
      dsimp only [efV, efC, znC, efGone, ZN.zero]
      have c := put_any pRx w35 (by decide)
      go_wp2_with fail
      refine c.mono ?_
      rintro e w36 ⟨d36, rfl, hb36, hd36⟩
      have HB36 := Lib.hid hb36
      have HD36 := Lib.hid hd36
      clear hb36 hd36 c
      dsimp only [efV, efC, znC, efPut, ZN.zero]
      have hbb : Below w34.heap.size w34 w36 := HB35.out.trans (HB36.out.mono HB35.out.size)
      have c3 := Apply_lit [(efGone pRa1, Value.slice none 0 0), (efPut pRx, d36)] w34.heap.size 0 a (tL48) w w36 _ Y2 (H34.out.below hbb) rfl H34.out.lt hbb.size (fun y hy => by
        simp at hy
        rcases hy with rfl | rfl
        · exact DataS.nil_ _ _
        · exact (HD36.out).mono (fun q hq => Nat.le_trans HB35.out.size hq)) (show ∀ x ∈ [efGone pRa1, efPut pRx], x.path.length ≤ 1000000 ∧ x.node.data.length ≤ 1000000 by decide) (by simp)
      rw [show List.map (·.1) [(efGone pRa1, Value.slice none 0 0), (efPut pRx, d36)] = [efGone pRa1, efPut pRx] from rfl, kn12] at c3
      clear hbb H34 HB35 HB36 HD36
      go_wp2_with fail
      refine c3.mono ?_
      rintro e w37 ⟨rfl, Y3, hS, _, _⟩
      have H37 : Hid (St w w37 [(a, tL49)] Y3) := hS
      clear hS c3
      go_wp2_with fail
      have c := Paths_any 0 a tL49 w37 _ Y3 H37.out.1 rfl
      rw [kn13] at c
      refine c.mono ?_
      rintro e w38 ⟨A5, c5, rfl, hb, _, _⟩
      have H38 := Lib.hid (H37.out.below hb)
      clear hb c H37
      go_wp2_with fail
      have c := Kids_any pRx 0 a tL49 w38 _ Y3 H38.out.1 rfl (by decide)
      rw [kn14] at c
      refine c.mono ?_
      rintro e w39 ⟨A6, c6, rfl, hb, hr⟩
      have H39 := Lib.hid (H38.out.below hb)
      have HR := Lib.hid hr
      clear hb hr c H38
      go_wp2_with fail
      have c := Texts_any A6 none 0 c6 0 0 [] [] w39 HR.out (RdV.nil_ _ _) (by decide) (by decide)
      rw [decide_eq_true (rfl : ([] : List (List UInt8)) = [])] at c
      refine c.mono ?_
      rintro e w40 ⟨rfl, hb⟩
      have H40 := Lib.hid (H39.out.below hb)
      clear hb HR c H39
      go_wp2_with fail
      have c := Kids_any pNone 0 a tL49 w40 _ Y3 H40.out.1 rfl (by decide)
      rw [kn15] at c
      refine c.mono ?_
      rintro e w41 ⟨A7, c7, rfl, hb, _⟩
      have H41 := Lib.hid (H40.out.below hb)
      clear hb c H40
      go_wp2_with fail
      refine (grows_any _).mono ?_
      rintro e w42 ⟨rfl, hb⟩
      have H42 := Lib.hid (H41.out.below hb)
      clear hb H41
      go_wp2_with fail
      go_ret
      exact ⟨rfl, H42.out.2.1⟩

set_option maxRecDepth 100000 in
theorem lifted (os : Os) (started : os.Started) (H : Type) (enc : TypeId × Value → H) :
    ReturnsInHanded {} Tryd.checked os 7 .any (fun w args => (Rows.treeKnownSpec.pre enc Tryd.prog Tryd.f7 Rows.treeKnownRow.domain false w args ∧ laidMetH Tryd.prog Rows.treeKnownRow.laid w) ∧ sizedMet enc Tryd.prog Tryd.f7 (OpenSpec.ofChange Rows.treeKnownSpec) false w args) (Rows.treeKnownSpec.post enc Tryd.prog Tryd.f7 false true false false) := by
  refine returnsInHanded_of_change_and (C := Tryd.checked) (X := fun w _ => laidMetH Tryd.prog Rows.treeKnownRow.laid w) (fun _ _ _ hh h => h.of_heap hh) own started (by kernel_rfl) Tryd.func7
    (ChangeSpec.witness_shaped (enc := enc) (C := Tryd.checked) (os := os) (X := fun w _ => laidMetH Tryd.prog Rows.treeKnownRow.laid w) false (World.laidAll Tryd.prog os Rows.treeKnownRow.laid) #[] 8 (World.laidAll_os _ _ _)
      (World.shaped_of_ZipB (by kernel_rfl) (by kernel_rfl)) (by kernel_rfl) (by kernel_rfl) (by kernel_rfl)
      (by rw [MakeChecks.laidMetH_plain _ _ _ (by kernel_rfl)]; exact laidMet_laidAll _ (by kernel_rfl) (by kernel_rfl))) ?_
  intro W base args ds gs before hval0 hW _ _ _ _
  have hval : ∀ (j : Nat) t v, Tryd.f7.params[j]? = some t → args[j]? = some v → Value.okWide Tryd.prog W .any base t v := hval0
  have hW' := hW
  obtain ⟨p, q, hA0, hV, rfl, hfz, hnd⟩ := hW
  have hA : DataW.TrodAll enc Tryd.prog W 0 (fun _ => true) true Tryd.f7.params.toList args.toList ds p := hA0
  rw [Tryd.params7] at hA hval
  obtain ⟨rfl, rfl, rfl⟩ := trodAll_none hA
  obtain ⟨rfl, rfl⟩ := trodVars_none hV

  refine (walk W).mono fun e W' ⟨he, hb⟩ => ?_
  subst he
  exact ⟨_, rfl, post_true laidOut (by kernel_rfl) ty_bool (by kernel_rfl) rfl hW' hb rfl⟩

theorem over : Rows.treeKnownRow.holds Tryd.pinned (OpenSpec.ofChange Rows.treeKnownSpec) :=
  OpenClaim.holds_of_wide 7 Tryd.f7 rfl rfl rfl rfl rfl rfl rfl ⟨rfl, rfl, rfl, rfl, rfl⟩ rfl rfl rfl rfl rfl (by kernel_rfl) Tryd.func7 (by kernel_rfl)
    (of_decide_eq_true (by kernel_rfl)) (by unfold Func.isWrapper; first | (rw [if_pos (by decide +kernel)]; kernel_rfl) | (rw [if_neg (by decide +kernel)]; exact ⟨rfl, rfl⟩))
    (fun os started H enc _ => lifted os started H enc)

theorem proved : Rows.TreeKnownCardSaid :=
  Claim7.holds_tied_plain_at .later [] Rows.treeKnownCard.laidKinds true Rows.treeKnownCard.stood.harness Rows.treeKnownCard.stood.looks over (fun _ h => by cases h) (by kernel_rfl) (fun _ h => by cases h) treeKnown_row_tie rfl ⟨rfl, rfl⟩ (by kernel_rfl) rfl
    (fun f fn hf hfn => by
      obtain rfl : f = 7 := Option.some.inj ((show Tryd.pinned.checked.prog.funcNamed Rows.treeKnownRow.func = some 7 by kernel_rfl).symm.trans hf) |>.symm
      obtain rfl : fn = Tryd.f7 := (Option.some.inj (Tryd.func7.symm.trans hfn)).symm
      exact ⟨by kernel_rfl, fun j t ht => by
        have hall : (Tryd.f7.params.toList.all fun u => !Tryd.prog.wantsStandIn u) = true := by kernel_rfl
        exact (show Tryd.prog.wantsStandIn t = false by simpa using List.all_eq_true.1 hall t (by simpa using Array.mem_of_getElem? ht))⟩)
    (by kernel_rfl)
end Go.Proofs.YtaokjkhailpemaaDoor.treeKnown
