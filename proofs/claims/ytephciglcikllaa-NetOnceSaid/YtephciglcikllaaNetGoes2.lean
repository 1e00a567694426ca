/- The laws' own: goes. -/
import Derived.Test.YtephciglcikllaaNetGoes
namespace Go.Proofs.Ytephciglcikllaa.Net
open Go.RowKit Disk Zab Sto

/-- A letter that is kept beside the net's memory. -/
def LtK (O : Nat → Prop) (w : World) (g : Nat) (l : Lt) : Prop := ∃ B m c, Bk w g 37 (ltA l (.slice B m c)) ∧ m ≤ c ∧ Rd w B m l.bs ∧ ¬ O g ∧ ∀ a, B = some a → 1 ≤ m → ¬ O a.block ∧ a.block < w.heap.size
theorem LtK.out {O O' X : Nat → Prop} {w w' : World} {g : Nat} {l : Lt} (h : LtK O w g l) (ho : Out X w w') (hx : ∀ b, b < w.heap.size → ¬ O b → ¬ X b ∧ ¬ O' b) : LtK O' w' g l := by
  obtain ⟨B, m, c, h1, h2, h3, h4, h5⟩ := h
  exact ⟨B, m, c, h1.kept (ho.block g h1.lt (hx g h1.lt h4).1), h2, rd_out h3 ho fun a ha h0 => (hx _ (h5 a ha h0).2 (h5 a ha h0).1).1, (hx g h1.lt h4).2, fun a ha h0 => ⟨(hx _ (h5 a ha h0).2 (h5 a ha h0).1).2, Nat.lt_of_lt_of_le (h5 a ha h0).2 ho.size⟩⟩
theorem LtK.next {O O' : Nat → Prop} {w w' : World} {g : Nat} {l : Lt} (h : LtK O w g l) (hg : Go_ O O' w w') : LtK O' w' g l :=
  h.out hg.1 fun b hb hn => ⟨hn, fun hq => (hg.2 b hq).elim hn (by omega)⟩
theorem LtK.later {O : Nat → Prop} {w w' : World} {g : Nat} {l : Lt} (h : LtK O w g l) (hb : Below w.heap.size w w') : LtK O w' g l :=
  h.out (X := fun _ => False) (Out.of_below hb) fun _ _ hn => ⟨fun q => q, hn⟩
theorem LtK.new {O : Nat → Prop} {w : World} {l : Lt} {B : Option Addr} {m c : Nat} (hm : m ≤ c) (hr : Rd w B m l.bs) (hn : ∀ a, B = some a → ¬ O a.block) (hO : ∀ b, O b → b < w.heap.size) : LtK O (w.alloc (.cells (ltA l (.slice B m c)) 37)) w.heap.size l := by
  have hb : Below w.heap.size w (w.alloc (.cells (ltA l (.slice B m c)) 37)) := (Below.refl _ _).alloc (Nat.le_refl _) _
  refine ⟨B, m, c, Bk.new _ _ _, hm, hr.below hb, fun h => by have := hO _ h; omega, fun a ha h0 => ⟨hn a ha, ?_⟩⟩
  obtain ⟨ad, e1, hc⟩ := (hr.below hb).cells h0
  rw [ha] at e1
  injection e1 with e1
  subst e1
  have hlt : 0 < l.bs.length := by have := hr.len; omega
  have := World.block_lt_of_cell? _ _ (hc 0 _ (List.getElem?_eq_getElem hlt))
  rwa [addr_add_block] at this
theorem LtK.load {O : Nat → Prop} {w : World} {g : Nat} {l : Lt} (h : LtK O w g l) : ∃ B m c, w.cell? ⟨g, 4, none⟩ = some (.slice B m c) ∧ (convert 35 9 (.slice B m c)).run Try.prog w = .ok (.string (S l.bs)) w ∧ Bk w g 37 (ltA l (.slice B m c)) ∧ Rd w B m l.bs ∧ m ≤ c := by
  obtain ⟨B, m, c, h1, h2, h3, _⟩ := h
  exact ⟨B, m, c, (bk_cells5 h1).2.2.2.2, conv_string h3 c, h1, h3, h2⟩
def gA : Lt := ⟨⟨0, 0⟩, ⟨1, 0⟩, [97]⟩
def gB : Lt := ⟨⟨1, 0⟩, ⟨1, 1⟩, [98]⟩
def g0 : Nt := Nt.new [1, 2]
def g1 : Nt := (g0.send gA).1
def g2 : Nt := (g1.send gB).1
def g3 : Nt := (g2.hold 0).1
def g4 : Nt := (g3.take 0).1
def g5 : Nt := (g4.turn ⟨1, 0⟩ ⟨0, 0⟩ true).1
def g6 : Nt := (g5.take 0).1
def g7 : Nt := (g6.turn ⟨0, 0⟩ ⟨1, 0⟩ false).1
def g8 : Nt := (g7.take 0).1
theorem f1 : (g0.send gA).2 = 0 := by kernel_rfl
theorem f2 : (g1.send gB).2 = 0 := by kernel_rfl
theorem f3 : (g2.hold 0).2 = 0 := by kernel_rfl
theorem f4 : g3.take 0 = (g4, gB, 0) := rfl
theorem f5 : (g4.turn ⟨1, 0⟩ ⟨0, 0⟩ true).2 = 0 := by kernel_rfl
theorem f6 : g5.take 0 = (g6, lt0, 65) := rfl
theorem f7 : (g6.turn ⟨0, 0⟩ ⟨1, 0⟩ false).2 = 0 := by kernel_rfl
theorem f8 : g7.take 0 = (g8, gA, 0) := rfl
theorem f9 : g8.row.length = 0 := by kernel_rfl
set_option maxRecDepth 100000 in
set_option maxHeartbeats 4000000 in
theorem goes_any (w : World) : Calls Try.prog 11 #[] w fun e w' => e = .returned (.bool true) ∧ Below w.heap.size w w' := by
  have CN := Lib.hid (new_lit [1, 2] (by decide) w)
  have HW0 : Hid (Below w.heap.size w (w.alloc (.cells (iv [1, 2]).toArray 3))) := (Below.refl _ _).alloc (Nat.le_refl _) _
  have C1 := Lib.hid (letter_any 0 0 1 0 [97])
  have C2 := Lib.hid (letter_any 1 0 1 1 [98])
  have hS1 : S [97] = ⟨#[97]⟩ := rfl
  have hS2 : S [98] = ⟨#[98]⟩ := rfl
  simp only [hS1] at C1
  simp only [hS2] at C2
  clear hS1 hS2
  obtain ⟨W0, hW0⟩ : ∃ W0, W0 = w.alloc (.cells (iv [1, 2]).toArray 3) := ⟨_, rfl⟩
  rw [← hW0] at CN HW0
  have hw := hW0.symm
  clear hW0
  unfold iv at hw
  simp only [List.map_cons, List.map_nil] at hw
  go_enter Try.func11, Try.ntmps11
  go_wp2_with fail
  refine CN.out.mono ?_
  rintro e w1 ⟨gz, O, rfl, hs⟩
  have HS : Hid (Sn W0 w1 O gz g0 0) := hs
  clear hs CN hw
  go_wp2_with fail
  refine (C1.out _).mono ?_
  rintro e w2 ⟨B, m, c, rfl, hmc, hm, hr, -, hb⟩
  have CS0 := Sn.send (HS.out.later hb) (l := gA) hr hmc (by rw [hm]; decide)
  rw [f1] at CS0
  have CS := Lib.hid CS0
  clear hmc hm hr hb C1 CS0
  go_wp2_with fail
  refine CS.out.mono ?_
  rintro e w3 ⟨O3, rfl, hs, -⟩
  have HS3 : Hid (Sn W0 w3 O3 gz g1 0) := hs
  clear hs CS HS
  go_wp2_with fail
  refine (C2.out _).mono ?_
  rintro e w4 ⟨B, m, c, rfl, hmc, hm, hr, -, hb⟩
  have CS0 := Sn.send (HS3.out.later hb) (l := gB) hr hmc (by rw [hm]; decide)
  rw [f2] at CS0
  have CS := Lib.hid CS0
  clear hmc hm hr hb C2 CS0
  go_wp2_with fail
  refine CS.out.mono ?_
  rintro e w5 ⟨O5, rfl, hs, -⟩
  have HS5 : Hid (Sn W0 w5 O5 gz g2 0) := hs
  have CH0 := Sn.hold HS5.out 0
  rw [f3] at CH0
  have CH := Lib.hid CH0
  clear hs CS HS3 CH0
  go_wp2_with fail
  refine CH.out.mono ?_
  rintro e w6 ⟨O6, rfl, hs, -⟩
  have HS6 : Hid (Sn W0 w6 O6 gz g3 0) := hs
  have CT0 := Sn.take HS6.out 0
  rw [f4] at CT0
  have CT := Lib.hid CT0
  clear CT0 hs CH HS5
  go_wp2_with fail
  refine CT.out.mono ?_
  rintro e w7 ⟨O7, B, m, c, rfl, hmc, hr, hn, hs, -⟩
  have HS7 := Lib.hid hs
  have HK7 := Lib.hid (LtK.new hmc hr (fun a ha => (hn a ha).2) fun b hb => (hs.nt.low b hb).2)
  have CC0 := Sn.cut (hs.later ((Below.refl _ _).alloc (Nat.le_refl _) (.cells (ltA gB (.slice B m c)) 37))) (by decide) ⟨1, 0⟩ ⟨0, 0⟩
  dsimp only at CC0
  rw [f5] at CC0
  have CC := Lib.hid CC0
  unfold adV ltA gB at CC
  unfold ltV ltA gB
  clear hmc hr hn hs CT HS6 CC0
  dsimp only at CC ⊢
  go_wp2_with fail
  refine CC.out.mono ?_
  rintro e w8 ⟨O8, rfl, hs, hg⟩
  have HK8 := Lib.hid (HK7.out.next hg)
  have HS8 : Hid (Sn W0 w8 O8 gz g5 1) := hs
  have CT0 := Sn.take HS8.out 0
  rw [f6] at CT0
  have CT := Lib.hid CT0
  clear CT0 hs hg CC HK7 HS7
  go_wp2_with fail
  refine CT.out.mono ?_
  rintro e w9 ⟨O9, B2, m2, c2, rfl, -, -, -, hs, hg⟩
  have hbn := (Below.refl w9.heap.size w9).alloc (Nat.le_refl _) (.cells (ltA lt0 (.slice B2 m2 c2)) 37)
  have HK9 := Lib.hid ((HK8.out.next hg).later hbn)
  have CC0 := Sn.heal (hs.later hbn) (by decide) ⟨0, 0⟩ ⟨1, 0⟩
  dsimp only at CC0
  rw [f7] at CC0
  have CC := Lib.hid CC0
  unfold adV ltA lt0 ad0 at CC
  unfold ltV ltA lt0 ad0
  clear hs hg CT HK8 HS8 hbn CC0
  dsimp only at CC ⊢
  go_wp2_with fail
  refine CC.out.mono ?_
  rintro e w10 ⟨O10, rfl, hs, hg⟩
  have HK10 := Lib.hid (HK9.out.next hg)
  have HS10 : Hid (Sn W0 w10 O10 gz g7 2) := hs
  have CT0 := Sn.take HS10.out 0
  rw [f8] at CT0
  have CT := Lib.hid CT0
  clear CT0 hs hg CC HK9
  go_wp2_with fail
  refine CT.out.mono ?_
  rintro e w11 ⟨O11, B3, m3, c3, rfl, hmc, hr, hn, hs, hg⟩
  have hbn := (Below.refl w11.heap.size w11).alloc (Nat.le_refl _) (.cells (ltA gA (.slice B3 m3 c3)) 37)
  obtain ⟨Ba, ma, ca, la, sa, -⟩ := ((HK10.out.next hg).later hbn).load
  obtain ⟨Bb, mb, cb, lb, sb, -⟩ := (LtK.new hmc hr (fun a ha => (hn a ha).2) fun b hb => (hs.nt.low b hb).2).load
  have HS11 := Lib.hid (hs.later hbn)
  have CL0 := Len_any HS11.out.nt
  rw [f9] at CL0
  have CL := Lib.hid CL0
  clear CL0 hmc hr hn hs hg CT HK10 HS10 hbn
  unfold gA gB at *
  unfold ltV ltA
  unfold ltA at la sa lb sb CL HS11
  dsimp only at *
  have hS1 : S [97] = ⟨#[97]⟩ := rfl
  have hS2 : S [98] = ⟨#[98]⟩ := rfl
  rw [hS2] at sa
  rw [hS1] at sb
  go_wp2_with fail
  refine CL.out.mono ?_
  rintro e w12 ⟨rfl, rfl⟩
  go_wp2_with fail
  go_ret
  exact ⟨rfl, HW0.out.trans (HS11.out.bl.mono HW0.out.size)⟩
end Go.Proofs.Ytephciglcikllaa.Net
