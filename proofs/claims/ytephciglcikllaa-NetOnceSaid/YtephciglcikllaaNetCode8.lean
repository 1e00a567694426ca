/- net: Send, Take. -/
import Derived.Test.YtephciglcikllaaNetCode7
namespace Go.Proofs.Ytephciglcikllaa.Net
open Go.RowKit Disk Zab Sto

section
variable {w0 w : World} {O F : Nat → Prop} {gz : Nat} {As : Option Addr} {cs : Nat} {Ar : Option Addr} {cr gm : Nat} {D : DataW Value} {ps : List Nat} {z : Nt} {N : Nat}
theorem bk_cells5 {W : World} {g : Nat} {t : TypeId} {a b c d e : Value} (h : Bk W g t #[a, b, c, d, e]) : W.cell? ⟨g, 0, none⟩ = some a ∧ W.cell? ⟨g, 1, none⟩ = some b ∧ W.cell? ⟨g, 2, none⟩ = some c ∧ W.cell? ⟨g, 3, none⟩ = some d ∧ W.cell? ⟨g, 4, none⟩ = some e := ⟨h.cell 0, h.cell 1, h.cell 2, h.cell 3, h.cell 4⟩
set_option maxRecDepth 8000 in
set_option maxHeartbeats 1000000 in
theorem Send_any (h : NtAt w0 w O gz z N) {l : Lt} {B : Option Addr} {m c : Nat} (hr : Rd w B m l.bs) (hmc : m ≤ c) (hm64 : m ≤ 140737488355328) : Calls Try.prog 22 #[.pointer (some ⟨gz, 0, none⟩), ltV l (.slice B m c)] w (DidN w0 O gz (.int .i64 (z.send l).2) (z.send l).1 N w) := by
  have hB : Below w.heap.size w (w.alloc (.cells (ltA l (.slice B m c)) 37)) := (Below.refl _ _).alloc (Nat.le_refl _) _
  have hbx := Bk.new w 37 (ltA l (.slice B m c))
  have CF := Lib.hid (faultOf_any (h.below hB) l.fr l.to)
  have hlen : l.bs.length = m := hr.len
  have hr1 := hr.below hB
  have hok := h.ok.send l
  have hs := h.s0
  unfold adV at CF
  unfold ltV
  obtain ⟨k0, k1, k2, k3, k4⟩ := bk_cells5 hbx
  by_cases hi : z.link l.fr l.to = true
  · by_cases hb : 2097152 < m
    · have e : z.send l = (z, 1) := by unfold Nt.send; rw [if_neg (by rw [hi]; simp), if_pos (by omega)]
      rw [e]
      rw [hi, okC_t] at CF
      have HF := Lib.hid (fun W (hW : Below w.heap.size w W) => DidN.same (v := .int .i64 1) h hW)
      have HB := Lib.hid hB
      have HBX := Lib.hid hbx
      have hb' : (2097152 : Int) < (m : Int) := by omega
      clear h hr hr1 hok e hi hB hbx hlen hb
      generalize hw : w.alloc (.cells (ltA l (.slice B m c)) 37) = W at *
      unfold ltA at hw ⊢
      go_enter Try.func22, Try.ntmps22
      go_wp2_with fail
      refine CF.out.mono ?_
      rintro e w1 ⟨rfl, hb1⟩
      have k4' := (bk_cells5 (HBX.out.below hb1)).2.2.2.2
      have HB1 := Lib.hid (HB.out.trans (hb1.mono HB.out.size))
      clear CF hb1
      go_wp2_with fail
      go_ret
      exact HF.out _ HB1.out
    · have e : z.send l = z.add l := by unfold Nt.send; rw [if_neg (by rw [hi]; simp), if_neg (by omega)]
      rw [e] at hok ⊢
      rw [hi, okC_t] at CF
      have hb' : ¬ (2097152 : Int) < (m : Int) := by omega
      have HB := Lib.hid hB
      have HBX := Lib.hid hbx
      have HR := Lib.hid hr
      have HH := Lib.hid h
      have HOK := Lib.hid hok
      have HL := Lib.hid hlen
      have CC : Hid (∀ V, Below (w.alloc (.cells (ltA l (.slice B m c)) 37)).heap.size (w.alloc (.cells (ltA l (.slice B m c)) 37)) V → Calls Try.prog 35 #[.pointer (some ⟨w.heap.size, 0, none⟩)] V (LtP l V)) := fun V hV => by
        have := copyOf_any (w := V) (F := fun _ => True) (p := w.heap.size) (l := l) ⟨B, m, c, hbx.below hV, hmc, hr1.below hV, fun _ _ _ => trivial⟩ (by omega)
        exact this
      clear h hr hr1 hok e hi hB hbx hlen hb
      obtain ⟨r, hr⟩ : ∃ r, r = z.add l := ⟨_, rfl⟩
      rw [← hr] at HOK ⊢
      have HRR := Lib.hid hr
      clear hr
      generalize hw : w.alloc (.cells (ltA l (.slice B m c)) 37) = W at *
      unfold ltA at hw ⊢
      go_enter Try.func22, Try.ntmps22
      go_wp2_with fail
      refine CF.out.mono ?_
      rintro e w1 ⟨rfl, hb1⟩
      have k4' := (bk_cells5 (HBX.out.below hb1)).2.2.2.2
      have CC1 := Lib.hid (CC.out w1 hb1)
      have HB1 := Lib.hid (HB.out.trans (hb1.mono HB.out.size))
      clear CF hb1 CC
      go_wp2_with fail
      refine CC1.out.mono ?_
      rintro e w2 ⟨B2, m2, c2, rfl, hmc2, hr2, hn2, hb2, -⟩
      have HB2 := Lib.hid (HB1.out.trans (hb2.mono HB1.out.size))
      have CA : Hid (Calls Try.prog 38 #[.pointer (some ⟨gz, 0, none⟩), .pointer (some ⟨w2.heap.size, 0, none⟩)] (w2.alloc (.cells (ltA l (.slice B2 m2 c2)) 37)) (DidN w0 O gz (.int .i64 r.2) r.1 N w)) := by
        show Calls _ _ _ _ _
        have hb3 : Below w.heap.size w (w2.alloc (.cells (ltA l (.slice B2 m2 c2)) 37)) := HB2.out.alloc HB2.out.size _
        have h3 := HH.out.below hb3
        obtain ⟨hz, _, hlow, F, As, cs, Ar, cr, gm, D, ps, hm⟩ := h3
        have hlow0 := HH.out.low
        have hbe : Below w2.heap.size w2 (w2.alloc (.cells (ltA l (.slice B2 m2 c2)) 37)) := (Below.refl _ _).alloc (Nat.le_refl _) _
        have hm2 := hm.widen (G := fun b => w.heap.size ≤ b ∧ b < (w2.alloc (.cells (ltA l (.slice B2 m2 c2)) 37)).heap.size) fun b hb ho => by have := (hlow0 b ho).2; omega
        have hs3 := hb3.size
        have hp2 : LtAt (w2.alloc (.cells (ltA l (.slice B2 m2 c2)) 37)) (fun b => F b ∨ (w.heap.size ≤ b ∧ b < (w2.alloc (.cells (ltA l (.slice B2 m2 c2)) 37)).heap.size)) w2.heap.size l := ⟨B2, m2, c2, Bk.new _ _ _, hmc2, hr2.below hbe, fun a ha h0 => .inr ⟨Nat.le_trans HB1.out.size (hn2 a ha), by
          obtain ⟨ad, e1, hc⟩ := (hr2.below hbe).cells h0
          rw [ha] at e1
          injection e1 with e1
          subst e1
          have hlt : 0 < l.bs.length := by have := hr2.len; omega
          have := World.block_lt_of_cell? _ _ (hc 0 _ (List.getElem?_eq_getElem hlt))
          rwa [addr_add_block] at this⟩⟩
        have := add_any hm2 (fun b hb => by
          rcases hb with hb | hb
          · exact hlow b hb
          · exact ⟨by omega, hb.2⟩) (by omega) (p := w2.heap.size) (l := l) (.inr ⟨HB2.out.size, by simp⟩) hp2 (by rw [← HRR.out]; exact HOK.out) hz.few
        rw [← HRR.out] at this
        refine this.mono fun e w' hd => DidN.earlier (O1 := fun b => O b ∨ (w.heap.size ≤ b ∧ b < (w2.alloc (.cells (ltA l (.slice B2 m2 c2)) 37)).heap.size)) ⟨Out.of_below hb3, fun b hb => hb.imp id And.left⟩ hd
      clear hmc2 hr2 hn2 hb2 CC1 HB1 HB2
      unfold ltA at CA
      unfold ltV ltA
      go_wp2_with fail
      refine CA.out.mono ?_
      rintro e w3 ⟨O', rfl, q1, q2⟩
      have HQ := Lib.hid (And.intro q1 q2)
      clear q1 q2 CA
      go_wp2_with fail
      go_ret
      exact ⟨O', rfl, HQ.out⟩
  · have hi : z.link l.fr l.to = false := by simpa using hi
    have e : z.send l = (z, 1) := by unfold Nt.send; rw [if_pos hi]
    rw [e]
    rw [hi, okC_f] at CF
    have HF := Lib.hid (fun W (hW : Below w.heap.size w W) => DidN.same (v := .int .i64 1) h hW)
    have HB := Lib.hid hB
    clear h hr hr1 hok e hi hB hbx hlen
    generalize hw : w.alloc (.cells (ltA l (.slice B m c)) 37) = W at *
    unfold ltA at hw ⊢
    go_enter Try.func22, Try.ntmps22
    go_wp2_with fail
    refine CF.out.mono ?_
    rintro e w1 ⟨rfl, hb1⟩
    have HB1 := Lib.hid (HB.out.trans (hb1.mono HB.out.size))
    clear CF hb1
    go_wp2_with fail
    go_ret
    exact HF.out _ HB1.out
set_option maxRecDepth 8000 in
theorem Send_nil (l : Lt) (v : Value) (w : World) : Calls Try.prog 22 #[.pointer none, ltV l v] w fun e w' => e = .returned (.int .i64 8) ∧ Below w.heap.size w w' := by
  have hB : Below w.heap.size w (w.alloc (.cells (ltA l v) 37)) := (Below.refl _ _).alloc (Nat.le_refl _) _
  obtain ⟨k0, k1, k2, k3, k4⟩ := bk_cells5 (Bk.new w 37 (ltA l v))
  have CF := Lib.hid (faultOf_nil l.fr l.to (w.alloc (.cells (ltA l v) 37)))
  have HB := Lib.hid hB
  clear hB
  unfold adV at CF
  unfold ltV
  generalize hw : w.alloc (.cells (ltA l v) 37) = W at *
  unfold ltA at hw ⊢
  go_enter Try.func22, Try.ntmps22
  go_wp2_with fail
  refine CF.out.mono ?_
  rintro e w1 ⟨rfl, hb1⟩
  have HB1 := Lib.hid (HB.out.trans (hb1.mono HB.out.size))
  clear CF hb1
  go_wp2_with fail
  go_ret
  exact ⟨rfl, HB1.out⟩
end
end Go.Proofs.Ytephciglcikllaa.Net
