/- Lemmas, part 5: NetCode7, NetCode8, NetCode9, NetCodeA, NetCodeB, NetCodeC -/
import Derived.Test.YtmjipeagbogpmaaBase4
namespace Go.Proofs.Ytmjipeagbogpmaa.Net
open Go.RowKit Disk Zab Sto

theorem DidN.earlier {w0 w w1 w' : World} {O O1 : Nat → Prop} {gz : Nat} {v : Value} {z : Nt} {N : Nat} {e : Ending} (k : Go_ O O1 w w1) (h : DidN w0 O1 gz v z N w1 e w') : DidN w0 O gz v z N w e w' := by
  obtain ⟨O', h1, h2, h3⟩ := h
  exact ⟨O', h1, h2, k.trans h3⟩
theorem DidN.same {w0 w w1 : World} {O : Nat → Prop} {gz : Nat} {v : Value} {z : Nt} {N : Nat} (h : NtAt w0 w O gz z N) (hb : Below w.heap.size w w1) : DidN w0 O gz v z N w (.returned v) w1 := ⟨O, rfl, h.below hb, Go_.of_below hb⟩
theorem okC_t : okC true = 0 := rfl
theorem okC_f : okC false = 1 := rfl
section
variable {w0 w : World} {O F : Nat → Prop} {gz : Nat} {As : Option Addr} {cs : Nat} {Ar : Option Addr} {cr gm : Nat} {D : DataW Value} {ps : List Nat} {z : Nt} {N : Nat}
theorem NtM.widen (h : NtM w O F gz As cs Ar cr gm D ps z N) {G : Nat → Prop} (hg : ∀ b, G b → ¬ O b) : NtM w (fun b => O b ∨ G b) (fun b => F b ∨ G b) gz As cs Ar cr gm D ps z N := by
  obtain ⟨h1, h2, h3, h4, h5, h6, h7, h8, h9⟩ := h
  refine ⟨h1, fun b hb => ?_, h3, fun a ha h0 => .inl (h4 a ha h0), h5, fun a ha => ⟨.inl (h6 a ha).1, (h6 a ha).2⟩, fun i p l hp hl => ⟨.inl (h7 i p l hp hl).1, (h7 i p l hp hl).2.mono fun b => .inl⟩, ⟨.inl h8.1, .inl h8.2.1, h8.2.2⟩, h9⟩
  rcases hb with hb | hb
  · exact ⟨.inl (h2 b hb).1, (h2 b hb).2⟩
  · refine ⟨.inr hb, fun e => ?_, fun e => ?_, fun a ha e => ?_⟩
    · subst e; exact hg _ hb h8.1
    · subst e; exact hg _ hb h8.2.1
    · subst e; exact hg _ hb (h6 a ha).1
theorem NtM.at_ (h : NtM w O F gz As cs Ar cr gm D ps z N) {i : Nat} (hi : i < z.row.length) : ∃ p g, ps[i]? = some p ∧ Ar = some ⟨g, 0, none⟩ ∧ w.cell? ⟨g, i, none⟩ = some (P1 p) ∧ F p ∧ LtAt w F p (z.row.getD i lt0) := by
  have hlen : ps.length = z.row.length := by have := h.row.len; simpa using this
  have hp : ps[i]? = some ps[i] := List.getElem?_eq_getElem (by omega)
  have hl : z.row[i]? = some (z.row.getD i lt0) := by rw [List.getD_eq_getElem?_getD, List.getElem?_eq_getElem hi]; rfl
  obtain ⟨g, e1, h1⟩ := h.row.cell (i := i) (v := P1 ps[i]) (by rw [List.getElem?_map, hp]; rfl)
  obtain ⟨q1, q2⟩ := h.each i _ _ hp hl
  exact ⟨_, g, hp, e1, h1, q1, q2⟩
theorem NtAt.s0 (h : NtAt w0 w O gz z N) : w0.heap.size ≤ w.heap.size := by have := h.low gz h.gz_; omega
set_option maxRecDepth 8000 in
theorem Double_any (h : NtAt w0 w O gz z N) (i : Int) : Calls Try.prog 27 #[.pointer (some ⟨gz, 0, none⟩), .int .i64 i] w (DidN w0 O gz (.int .i64 (z.double i).2) (z.double i).1 N w) := by
  have CF := Lib.hid (faultAt_any h i)
  by_cases hi : z.okAt i = true
  · rw [hi, okC_t] at CF
    obtain ⟨k, rfl, hk⟩ := okAt_iff.1 hi
    have hok := h.ok.double (k : Int)
    have e : z.double (k : Int) = z.add (z.row.getD k lt0) := by unfold Nt.double; rw [if_neg (by rw [hi]; simp), Int.toNat_natCast]
    rw [e] at hok ⊢
    have hs := h.s0
    obtain ⟨hz, _, hlow, F, As, cs, Ar, cr, gm, D, ps, hm⟩ := h
    obtain ⟨p, g, hp, rfl, hc, hF, hl⟩ := hm.at_ hk
    have CA := Lib.hid (add_any hm hlow hs hF hl hok hz.few)
    obtain ⟨-, c1, -, -⟩ := hm.cells
    have h02 : (k : Int) < (z.row.length : Int) := by omega
    have hf := hz.few
    unfold P1 at CA hc
    clear hz hlow hm hp hF hl e hok hs hi
    generalize z.row.length = n at *
    go_enter Try.func27, Try.ntmps27
    go_wp2_with fail
    refine CF.out.mono ?_
    rintro e w1 ⟨rfl, rfl⟩
    clear CF
    go_wp2_with fail
    refine CA.out.mono ?_
    rintro e w2 ⟨O', rfl, q1, q2⟩
    have HQ := Lib.hid (And.intro q1 q2)
    clear q1 q2 CA
    go_wp2_with fail
    go_ret
    exact ⟨O', rfl, HQ.out⟩
  · have hi : z.okAt i = false := by simpa using hi
    rw [hi, okC_f] at CF
    have e : z.double i = (z, 1) := by unfold Nt.double; rw [if_pos hi]
    rw [e]
    have HF := Lib.hid (DidN.same (v := .int .i64 1) h (Below.refl _ _))
    clear h e hi
    go_enter Try.func27, Try.ntmps27
    go_wp2_with fail
    refine CF.out.mono ?_
    rintro e w1 ⟨rfl, rfl⟩
    clear CF
    go_wp2_with fail
    go_ret
    exact HF.out
set_option maxRecDepth 8000 in
theorem Drop_any (h : NtAt w0 w O gz z N) (i : Int) : Calls Try.prog 26 #[.pointer (some ⟨gz, 0, none⟩), .int .i64 i] w (DidN w0 O gz (.int .i64 (z.drop i).2) (z.drop i).1 N w) := by
  have CF := Lib.hid (faultAt_any h i)
  by_cases hi : z.okAt i = true
  · rw [hi, okC_t] at CF
    obtain ⟨k, rfl, hk⟩ := okAt_iff.1 hi
    have hok := h.ok.drop (k : Int)
    have e : z.drop (k : Int) = (z.out k, 0) := by unfold Nt.drop; rw [if_neg (by rw [hi]; simp), Int.toNat_natCast]
    rw [e] at hok ⊢
    have hs := h.s0
    obtain ⟨hz, _, hlow, F, As, cs, Ar, cr, gm, D, ps, hm⟩ := h
    obtain ⟨p, g, hp, rfl, hc, hF, hl⟩ := hm.at_ hk
    have CA := Lib.hid (cutOut_any hm hlow hs hz.few hk hp)
    clear hz hlow hm hp hF hl e hs hi hc
    have HOK := Lib.hid hok
    clear hok
    go_enter Try.func26, Try.ntmps26
    go_wp2_with fail
    refine CF.out.mono ?_
    rintro e w1 ⟨rfl, rfl⟩
    clear CF
    go_wp2_with fail
    refine CA.out.mono ?_
    rintro e w2 ⟨Ar', cr', rfl, q1, q2, q3, q4⟩
    have HQ : Hid (NtAt w0 w2 (Oo O w1 w2) gz (z.out k) N ∧ Go_ O (Oo O w1 w2) w1 w2) := ⟨⟨HOK.out, q1.go.1, q3, _, _, _, _, _, _, _, _, q1⟩, q2⟩
    clear q1 q2 q3 q4 CA
    go_wp2_with fail
    go_ret
    exact ⟨_, rfl, HQ.out⟩
  · have hi : z.okAt i = false := by simpa using hi
    rw [hi, okC_f] at CF
    have e : z.drop i = (z, 1) := by unfold Nt.drop; rw [if_pos hi]
    rw [e]
    have HF := Lib.hid (DidN.same (v := .int .i64 1) h (Below.refl _ _))
    clear h e hi
    go_enter Try.func26, Try.ntmps26
    go_wp2_with fail
    refine CF.out.mono ?_
    rintro e w1 ⟨rfl, rfl⟩
    clear CF
    go_wp2_with fail
    go_ret
    exact HF.out
set_option maxRecDepth 8000 in
theorem Hold_any (h : NtAt w0 w O gz z N) (i : Int) : Calls Try.prog 22 #[.pointer (some ⟨gz, 0, none⟩), .int .i64 i] w (DidN w0 O gz (.int .i64 (z.hold i).2) (z.hold i).1 N w) := by
  have CF := Lib.hid (faultAt_any h i)
  by_cases hi : z.okAt i = true
  · rw [hi, okC_t] at CF
    obtain ⟨k, rfl, hk⟩ := okAt_iff.1 hi
    have hok := h.ok.hold (k : Int)
    have e : z.hold (k : Int) = (z.out k).add (z.row.getD k lt0) := by unfold Nt.hold; rw [if_neg (by rw [hi]; simp), Int.toNat_natCast]
    rw [e] at hok ⊢
    have hs := h.s0
    obtain ⟨hz, _, hlow, F, As, cs, Ar, cr, gm, D, ps, hm⟩ := h
    obtain ⟨p, g, hp, rfl, hc, hF, hl⟩ := hm.at_ hk
    have CA := Lib.hid (cutOut_any hm hlow hs hz.few hk hp)
    have HD : Hid (∀ w2 Ar' cr', NtM w2 (Oo O w w2) F gz As cs Ar' cr' gm D (ps.eraseIdx k) (z.out k) N → Go_ O (Oo O w w2) w w2 → (∀ b, Oo O w w2 b → w0.heap.size ≤ b ∧ b < w2.heap.size) → Out (fun b => O b ∧ ¬ F b) w w2 → Calls Try.prog 34 #[.pointer (some ⟨gz, 0, none⟩), P1 p] w2 (DidN w0 O gz (.int .i64 ((z.out k).add (z.row.getD k lt0)).2) ((z.out k).add (z.row.getD k lt0)).1 N w)) := fun w2 Ar' cr' q1 q2 q3 q4 =>
      (add_any q1 q3 (by have := q2.1.size; omega) hF (hl.out q4 (fun h => h.2 hF) fun b hb h => h.2 hb) hok (Nat.le_trans (List.length_eraseIdx_le ..) hz.few)).mono fun e w' h => DidN.earlier q2 h
    unfold P1 at HD
    clear hz hlow hm hp hF hl e hs hi hc hok
    obtain ⟨r, hr⟩ : ∃ r, r = (z.out k).add (z.row.getD k lt0) := ⟨_, rfl⟩
    rw [← hr] at HD ⊢
    clear hr
    go_enter Try.func22, Try.ntmps22
    go_wp2_with fail
    refine CF.out.mono ?_
    rintro e w1 ⟨rfl, rfl⟩
    clear CF
    go_wp2_with fail
    refine CA.out.mono ?_
    rintro e w2 ⟨Ar', cr', rfl, q1, q2, q3, q4⟩
    have HD2 := Lib.hid (HD.out w2 Ar' cr' q1 q2 q3 q4)
    clear q1 q2 q3 q4 CA HD
    unfold P1
    go_wp2_with fail
    refine HD2.out.mono ?_
    rintro e w3 ⟨O', rfl, q1, q2⟩
    have HQ := Lib.hid (And.intro q1 q2)
    clear q1 q2 HD2
    go_wp2_with fail
    go_ret
    exact ⟨O', rfl, HQ.out⟩
  · have hi : z.okAt i = false := by simpa using hi
    rw [hi, okC_f] at CF
    have e : z.hold i = (z, 1) := by unfold Nt.hold; rw [if_pos hi]
    rw [e]
    have HF := Lib.hid (DidN.same (v := .int .i64 1) h (Below.refl _ _))
    clear h e hi
    go_enter Try.func22, Try.ntmps22
    go_wp2_with fail
    refine CF.out.mono ?_
    rintro e w1 ⟨rfl, rfl⟩
    clear CF
    go_wp2_with fail
    go_ret
    exact HF.out
end
end Go.Proofs.Ytmjipeagbogpmaa.Net

namespace Go.Proofs.Ytmjipeagbogpmaa.Net
open Go.RowKit Disk Zab Sto

section
variable {w0 w : World} {O F : Nat → Prop} {gz : Nat} {As : Option Addr} {cs : Nat} {Ar : Option Addr} {cr gm : Nat} {D : DataW Value} {ps : List Nat} {z : Nt} {N : Nat}
theorem bk_cells5 {W : World} {g : Nat} {t : TypeId} {a b c d e : Value} (h : Bk W g t #[a, b, c, d, e]) : W.cell? ⟨g, 0, none⟩ = some a ∧ W.cell? ⟨g, 1, none⟩ = some b ∧ W.cell? ⟨g, 2, none⟩ = some c ∧ W.cell? ⟨g, 3, none⟩ = some d ∧ W.cell? ⟨g, 4, none⟩ = some e := ⟨h.cell 0, h.cell 1, h.cell 2, h.cell 3, h.cell 4⟩
set_option maxRecDepth 8000 in
set_option maxHeartbeats 1000000 in
theorem Send_any (h : NtAt w0 w O gz z N) {l : Lt} {B : Option Addr} {m c : Nat} (hr : Rd w B m l.bs) (hmc : m ≤ c) (hm64 : m ≤ 140737488355328) : Calls Try.prog 20 #[.pointer (some ⟨gz, 0, none⟩), ltV l (.slice B m c)] w (DidN w0 O gz (.int .i64 (z.send l).2) (z.send l).1 N w) := by
  have hB : Below w.heap.size w (w.alloc (.cells (ltA l (.slice B m c)) 37)) := (Below.refl _ _).alloc (Nat.le_refl _) _
  have hbx := Bk.new w 37 (ltA l (.slice B m c))
  have CF := Lib.hid (faultOf_any (h.below hB) l.fr l.to)
  have hlen : l.bs.length = m := hr.len
  have hr1 := hr.below hB
  have hok := h.ok.send l
  have hs := h.s0
  unfold adV at CF
  unfold ltV
  obtain ⟨k0, k1, k2, k3, k4⟩ := bk_cells5 hbx
  by_cases hi : z.link l.fr l.to = true
  · by_cases hb : 2097152 < m
    · have e : z.send l = (z, 1) := by unfold Nt.send; rw [if_neg (by rw [hi]; simp), if_pos (by omega)]
      rw [e]
      rw [hi, okC_t] at CF
      have HF := Lib.hid (fun W (hW : Below w.heap.size w W) => DidN.same (v := .int .i64 1) h hW)
      have HB := Lib.hid hB
      have HBX := Lib.hid hbx
      have hb' : (2097152 : Int) < (m : Int) := by omega
      clear h hr hr1 hok e hi hB hbx hlen hb
      generalize hw : w.alloc (.cells (ltA l (.slice B m c)) 37) = W at *
      unfold ltA at hw ⊢
      go_enter Try.func20, Try.ntmps20
      go_wp2_with fail
      refine CF.out.mono ?_
      rintro e w1 ⟨rfl, hb1⟩
      have k4' := (bk_cells5 (HBX.out.below hb1)).2.2.2.2
      have HB1 := Lib.hid (HB.out.trans (hb1.mono HB.out.size))
      clear CF hb1
      go_wp2_with fail
      go_ret
      exact HF.out _ HB1.out
    · have e : z.send l = z.add l := by unfold Nt.send; rw [if_neg (by rw [hi]; simp), if_neg (by omega)]
      rw [e] at hok ⊢
      rw [hi, okC_t] at CF
      have hb' : ¬ (2097152 : Int) < (m : Int) := by omega
      have HB := Lib.hid hB
      have HBX := Lib.hid hbx
      have HR := Lib.hid hr
      have HH := Lib.hid h
      have HOK := Lib.hid hok
      have HL := Lib.hid hlen
      have CC : Hid (∀ V, Below (w.alloc (.cells (ltA l (.slice B m c)) 37)).heap.size (w.alloc (.cells (ltA l (.slice B m c)) 37)) V → Calls Try.prog 30 #[.pointer (some ⟨w.heap.size, 0, none⟩)] V (LtP l V)) := fun V hV => by
        have := copyOf_any (w := V) (F := fun _ => True) (p := w.heap.size) (l := l) ⟨B, m, c, hbx.below hV, hmc, hr1.below hV, fun _ _ _ => trivial⟩ (by omega)
        exact this
      clear h hr hr1 hok e hi hB hbx hlen hb
      obtain ⟨r, hr⟩ : ∃ r, r = z.add l := ⟨_, rfl⟩
      rw [← hr] at HOK ⊢
      have HRR := Lib.hid hr
      clear hr
      generalize hw : w.alloc (.cells (ltA l (.slice B m c)) 37) = W at *
      unfold ltA at hw ⊢
      go_enter Try.func20, Try.ntmps20
      go_wp2_with fail
      refine CF.out.mono ?_
      rintro e w1 ⟨rfl, hb1⟩
      have k4' := (bk_cells5 (HBX.out.below hb1)).2.2.2.2
      have CC1 := Lib.hid (CC.out w1 hb1)
      have HB1 := Lib.hid (HB.out.trans (hb1.mono HB.out.size))
      clear CF hb1 CC
      go_wp2_with fail
      refine CC1.out.mono ?_
      rintro e w2 ⟨B2, m2, c2, rfl, hmc2, hr2, hn2, hb2, -⟩
      have HB2 := Lib.hid (HB1.out.trans (hb2.mono HB1.out.size))
      have CA : Hid (Calls Try.prog 34 #[.pointer (some ⟨gz, 0, none⟩), .pointer (some ⟨w2.heap.size, 0, none⟩)] (w2.alloc (.cells (ltA l (.slice B2 m2 c2)) 37)) (DidN w0 O gz (.int .i64 r.2) r.1 N w)) := by
        show Calls _ _ _ _ _
        have hb3 : Below w.heap.size w (w2.alloc (.cells (ltA l (.slice B2 m2 c2)) 37)) := HB2.out.alloc HB2.out.size _
        have h3 := HH.out.below hb3
        obtain ⟨hz, _, hlow, F, As, cs, Ar, cr, gm, D, ps, hm⟩ := h3
        have hlow0 := HH.out.low
        have hbe : Below w2.heap.size w2 (w2.alloc (.cells (ltA l (.slice B2 m2 c2)) 37)) := (Below.refl _ _).alloc (Nat.le_refl _) _
        have hm2 := hm.widen (G := fun b => w.heap.size ≤ b ∧ b < (w2.alloc (.cells (ltA l (.slice B2 m2 c2)) 37)).heap.size) fun b hb ho => by have := (hlow0 b ho).2; omega
        have hs3 := hb3.size
        have hp2 : LtAt (w2.alloc (.cells (ltA l (.slice B2 m2 c2)) 37)) (fun b => F b ∨ (w.heap.size ≤ b ∧ b < (w2.alloc (.cells (ltA l (.slice B2 m2 c2)) 37)).heap.size)) w2.heap.size l := ⟨B2, m2, c2, Bk.new _ _ _, hmc2, hr2.below hbe, fun a ha h0 => .inr ⟨Nat.le_trans HB1.out.size (hn2 a ha), by
          obtain ⟨ad, e1, hc⟩ := (hr2.below hbe).cells h0
          rw [ha] at e1
          injection e1 with e1
          subst e1
          have hlt : 0 < l.bs.length := by have := hr2.len; omega
          have := World.block_lt_of_cell? _ _ (hc 0 _ (List.getElem?_eq_getElem hlt))
          rwa [addr_add_block] at this⟩⟩
        have := add_any hm2 (fun b hb => by
          rcases hb with hb | hb
          · exact hlow b hb
          · exact ⟨by omega, hb.2⟩) (by omega) (p := w2.heap.size) (l := l) (.inr ⟨HB2.out.size, by simp⟩) hp2 (by rw [← HRR.out]; exact HOK.out) hz.few
        rw [← HRR.out] at this
        refine this.mono fun e w' hd => DidN.earlier (O1 := fun b => O b ∨ (w.heap.size ≤ b ∧ b < (w2.alloc (.cells (ltA l (.slice B2 m2 c2)) 37)).heap.size)) ⟨Out.of_below hb3, fun b hb => hb.imp id And.left⟩ hd
      clear hmc2 hr2 hn2 hb2 CC1 HB1 HB2
      unfold ltA at CA
      unfold ltV ltA
      go_wp2_with fail
      refine CA.out.mono ?_
      rintro e w3 ⟨O', rfl, q1, q2⟩
      have HQ := Lib.hid (And.intro q1 q2)
      clear q1 q2 CA
      go_wp2_with fail
      go_ret
      exact ⟨O', rfl, HQ.out⟩
  · have hi : z.link l.fr l.to = false := by simpa using hi
    have e : z.send l = (z, 1) := by unfold Nt.send; rw [if_pos hi]
    rw [e]
    rw [hi, okC_f] at CF
    have HF := Lib.hid (fun W (hW : Below w.heap.size w W) => DidN.same (v := .int .i64 1) h hW)
    have HB := Lib.hid hB
    clear h hr hr1 hok e hi hB hbx hlen
    generalize hw : w.alloc (.cells (ltA l (.slice B m c)) 37) = W at *
    unfold ltA at hw ⊢
    go_enter Try.func20, Try.ntmps20
    go_wp2_with fail
    refine CF.out.mono ?_
    rintro e w1 ⟨rfl, hb1⟩
    have HB1 := Lib.hid (HB.out.trans (hb1.mono HB.out.size))
    clear CF hb1
    go_wp2_with fail
    go_ret
    exact HF.out _ HB1.out
end
end Go.Proofs.Ytmjipeagbogpmaa.Net

namespace Go.Proofs.Ytmjipeagbogpmaa.Net
open Go.RowKit Disk Zab Sto

section
variable {w0 w : World} {O F : Nat → Prop} {gz : Nat} {As : Option Addr} {cs : Nat} {Ar : Option Addr} {cr gm : Nat} {D : DataW Value} {ps : List Nat} {z : Nt} {N : Nat}
def TookP (w0 : World) (O : Nat → Prop) (gz : Nat) (r : Nt × Lt × Int) (N : Nat) (w : World) (e : Ending) (w' : World) : Prop :=
  ∃ O' B m k, e = .returned (.tuple #[ltV r.2.1 (.slice B m k), .int .i64 r.2.2]) ∧ m ≤ k ∧ Rd w' B m r.2.1.bs ∧ (∀ a, B = some a → w.heap.size ≤ a.block ∧ ¬ O' a.block) ∧ NtAt w0 w' O' gz r.1 N ∧ Go_ O O' w w'
theorem TookP.no (h : NtAt w0 w O gz z N) (e : Int) {w1 : World} (hb : Below w.heap.size w w1) : TookP w0 O gz (z, lt0, e) N w (.returned (.tuple #[ltV lt0 (.slice none 0 0), .int .i64 e])) w1 :=
  ⟨O, none, 0, 0, rfl, Nat.le_refl _, Rd.nil_ _ _, (fun a ha => by cases ha), h.below hb, Go_.of_below hb⟩
set_option maxRecDepth 8000 in
set_option maxHeartbeats 2000000 in
theorem Take_any (h : NtAt w0 w O gz z N) (i : Int) : Calls Try.prog 23 #[.pointer (some ⟨gz, 0, none⟩), .int .i64 i] w (TookP w0 O gz (z.take i) N w) := by
  have hB : Below w.heap.size w (w.alloc (.cells ltZ 37)) := (Below.refl _ _).alloc (Nat.le_refl _) _
  have CF := Lib.hid (faultAt_any (h.below hB) i)
  by_cases hi : z.okAt i = true
  · rw [hi, okC_t] at CF
    obtain ⟨k, rfl, hk⟩ := okAt_iff.1 hi
    have hs := h.s0
    have hHB := Lib.hid (h.below hB)
    have hHH := Lib.hid h
    have hmem := (getD_mem hi).1
    rw [Int.toNat_natCast] at hmem
    obtain ⟨hlk, hlb⟩ := h.ok.each _ hmem
    obtain ⟨hwa, hwb⟩ := link_wf h.ok.sizes hlk
    obtain ⟨hz, _, hlow, F, As, cs, Ar, cr, gm, D, ps, hm⟩ := h.below hB
    obtain ⟨p, g, hp, rfl, hc, hF, hl⟩ := hm.at_ hk
    have hh := h
    have hf := hz.few
    have h02 : (k : Int) < (z.row.length : Int) := by omega
    have h01 : (0 : Int) ≤ (k : Int) := by omega
    have CU := Lib.hid (Cuts_any (hHB.out.below (below_drewN (Below.refl _ _) 1)) hwa hwb)
    obtain ⟨v, hv⟩ : ∃ v, v = z.cuts (z.row.getD k lt0).fr (z.row.getD k lt0).to := ⟨_, rfl⟩
    rw [← hv] at CU
    have ht : z.take (k : Int) = if v = true then (z, lt0, 65) else (z.out k, z.row.getD k lt0, 0) := by
      unfold Nt.take
      rw [if_neg (by rw [hi]; simp), Int.toNat_natCast, ← hv]
    obtain ⟨R, hR⟩ : ∃ R, R = z.take (k : Int) := ⟨_, rfl⟩
    rw [← hR]
    have HRR := Lib.hid (hR.trans ht)
    clear hR
    have HHB := Lib.hid (hh.below hB)
    obtain ⟨B, m, c, hlbk, hmc, hlr, hlf⟩ := hl
    have CT : Hid (∀ V, Below (w.alloc (.cells ltZ 37)).heap.size (w.alloc (.cells ltZ 37)) V → Calls Try.prog 36 #[.pointer (some ⟨gz, 0, none⟩), .int .i64 (k : Int)] V (CutP w0 O F gz As cs gm D p ps k z N V)) := fun V hV => by
      refine cutOut_any (hm.below hV) (fun b hb => ⟨(hlow b hb).1, Nat.lt_of_lt_of_le (hlow b hb).2 hV.size⟩) ?_ hf hk hp
      have := hV.size
      have := hB.size
      omega
    have CC : Hid (∀ V V', Below (w.alloc (.cells ltZ 37)).heap.size (w.alloc (.cells ltZ 37)) V → Out (fun b => O b ∧ ¬ F b) V V' → Calls Try.prog 30 #[.pointer (some ⟨p, 0, none⟩)] V' (LtP (z.row.getD k lt0) V')) := fun V V' hV hO => by
      have h1 : LtAt V F p (z.row.getD k lt0) := (LtAt.out (X := fun _ => False) ⟨B, m, c, hlbk, hmc, hlr, hlf⟩ (Out.of_below hV) (fun q => q) (fun _ _ q => q))
      exact copyOf_any (p := p) (h1.out hO (fun q => q.2 hF) fun b hb q => q.2 hb) hlb
    have HC : Hid (∀ V, Below (w.alloc (.cells ltZ 37)).heap.size (w.alloc (.cells ltZ 37)) V → Bk V w.heap.size 37 ltZ) := fun V hV => (Bk.new w 37 ltZ).below hV
    obtain ⟨-, c1, -, -⟩ := hm.cells
    obtain ⟨l0, l1, l2, l3, -⟩ := bk_cells5 hlbk
    have HOK := Lib.hid (hh.ok.out k)
    have HNO : Hid (∀ b, O b → b < w.heap.size) := fun b hb => (hh.low b hb).2
    have HNA := Lib.hid (fun w1 (hb : Below w.heap.size w w1) => TookP.no hh 65 hb)
    have HB := Lib.hid hB
    unfold P1 at hc
    clear hm hlow hp hF hlbk hmc hlr hlf hh hHB hHH HHB hz hi hmem hlk hlb hwa hwb hv ht h hs hB
    generalize z.row.length = n at *
    generalize z.row.getD k lt0 = l at *
    generalize hw : w.alloc (.cells ltZ 37) = W at *
    unfold ltZ at hw
    obtain ⟨lfr, lto, lbs⟩ := l
    obtain ⟨ag, an⟩ := lfr
    obtain ⟨bg, bn⟩ := lto
    unfold adV at CU
    dsimp only at *
    go_enter Try.func23, Try.ntmps23
    go_wp2_with fail
    refine CF.out.mono ?_
    rintro e w1 ⟨rfl, rfl⟩
    clear CF
    go_wp2_with fail
    refine ws_tail 21 (by kernel_rfl) (by kernel_rfl) ?_
    simp only [List.take_succ_cons, List.take_zero, List.drop_succ_cons, List.drop_zero]
    iterate 21
      refine ws_want (by kernel_rfl) ?_
      apply Exists.intro
      refine And.intro ?_ ?_
      · unfold StillAt
        first
          | (go_simp; done)
          | (go_simp; exact rfl)
      try simp only [Act.put, List.setIfInBounds_toArray, List.set_cons_zero, List.set_cons_succ]
    refine ws_nil ?_
    change wpList _ _ _ _ _ w1.drew
    go_wp2_with fail
    refine CU.out.mono ?_
    rintro e w2 ⟨rfl, hb2⟩
    have HB12 := Lib.hid ((below_drewN (Below.refl w1.heap.size w1) 1).trans hb2)
    have HBK := Lib.hid (HC.out w2 HB12.out)
    clear hb2 CU
    cases v
    · have hR2 : Hid (R = (z.out k, ⟨⟨ag, an⟩, ⟨bg, bn⟩, lbs⟩, 0)) := HRR.out
      have CT2 := Lib.hid (CT.out w2 HB12.out)
      clear CT HNA l0 l1 l2 l3
      go_wp2_with fail
      refine CT2.out.mono ?_
      rintro e w3 ⟨Ar', cr', rfl, q1, q2, q3, q4⟩
      have HQ : Hid (NtAt w0 w3 (Oo O w2 w3) gz (z.out k) N ∧ Go_ O (Oo O w2 w3) w2 w3) := ⟨⟨HOK.out, q1.go.1, q3, _, _, _, _, _, _, _, _, q1⟩, q2⟩
      have CC2 := Lib.hid (CC.out w2 w3 HB12.out q4)
      have HBK3 := Lib.hid (HBK.out.kept (q2.1.block w.heap.size HBK.out.lt fun hb => by have := HNO.out _ hb; omega))
      clear q1 q2 q3 q4 CT2 CC
      unfold P1
      go_wp2_with fail
      refine CC2.out.mono ?_
      rintro e w4 ⟨B', m', c', rfl, hmc4, hr4, hn4, hb4, -⟩
      have HBK4 := Lib.hid (HBK3.out.below hb4)
      have kb := HBK4.out.frozen
      have kf0 := kb 0
      have kf1 := kb 1
      have kf2 := kb 2
      have kf3 := kb 3
      have kf4 := kb 4
      obtain ⟨k0, k1, k2, k3, k4⟩ := bk_cells5 HBK4.out
      have HB4 := Lib.hid hb4
      have HR4 := Lib.hid (And.intro hmc4 (And.intro hr4 hn4))
      clear hmc4 hr4 hn4 hb4 kb CC2
      unfold ltV ltA
      go_wp2_with fail
      have hb5 := bk_set5 HBK4.out (.int .i64 ag) (.int .i64 an) (.int .i64 bg) (.int .i64 bn) (.slice B' m' c')
      obtain ⟨hmc4, hr4, hn4⟩ := HR4.out
      have hO5 := out_set5 w4 w.heap.size (.int .i64 ag) (.int .i64 an) (.int .i64 bg) (.int .i64 bn) (.slice B' m' c')
      have hs3 := HQ.out.2.1.size
      have hs2 := HB12.out.size
      have hs1 := HB.out.size
      have hlt := (HC.out w1 (Below.refl _ _)).lt
      refine bodyPost_ret (v := .tuple #[.agg #[.int .i64 ag, .int .i64 an, .int .i64 bg, .int .i64 bn, .slice B' m' c'], .int .i64 0]) ?_ rfl ?_
      · have k0 := hb5.cell 0
        have k1 := hb5.cell 1
        have k2 := hb5.cell 2
        have k3 := hb5.cell 3
        have k4 := hb5.cell 4
        unfold set5 at k0 k1 k2 k3 k4
        simp [results, Try.results23, go_sem, k0, k1, k2, k3, k4]
      rw [hR2.out]
      refine ⟨Oo O w2 w3, B', m', c', rfl, hmc4, rd_out hr4 hO5 fun a ha h0 => ?_, fun a ha => ⟨?_, fun hq => ?_⟩, ?_, ?_, ?_⟩
      · have := hn4 a ha
        show a.block ≠ _
        omega
      · have := hn4 a ha
        omega
      · have := hn4 a ha
        rcases hq with hq | hq
        · have := HNO.out _ hq; omega
        · omega
      · refine (HQ.out.1.below HB4.out).out hO5 fun b hb e => ?_
        subst e
        rcases hb with hb | hb
        · have := HNO.out _ hb; omega
        · omega
      · have h2 : Out O w w2 := (Out.of_below HB.out).trans (Out.of_below (X := fun _ => False) HB12.out) fun _ q => q.elim
        have h4 : Out O w w4 := (h2.trans HQ.out.2.1 fun b q => .inl q).trans (Out.of_below (X := fun _ => False) HB4.out) fun _ q => q.elim
        exact h4.trans hO5 fun b hb => .inr (by subst hb; exact Nat.le_refl _)
      · intro b hb
        rcases hb with hb | hb
        · exact .inl hb
        · right; omega
    · have hR2 : Hid (R = (z, lt0, 65)) := HRR.out
      clear CT CC l0 l1 l2 l3 HNO HOK
      have kb := HBK.out.frozen
      have kf0 := kb 0
      have kf1 := kb 1
      have kf2 := kb 2
      have kf3 := kb 3
      have kf4 := kb 4
      obtain ⟨k0, k1, k2, k3, k4⟩ := bk_cells5 HBK.out
      clear kb
      go_wp2_with fail
      have hb5 := bk_set5 HBK.out (.int .i64 0) (.int .i64 0) (.int .i64 0) (.int .i64 0) (.slice none 0 0)
      refine bodyPost_ret (v := .tuple #[.agg #[.int .i64 0, .int .i64 0, .int .i64 0, .int .i64 0, .slice none 0 0], .int .i64 65]) ?_ rfl (by rw [hR2.out]; exact HNA.out _ (below_set5 (HB.out.trans (HB12.out.mono HB.out.size)) (Nat.le_refl _) _ _ _ _ _))
      have k0 := hb5.cell 0
      have k1 := hb5.cell 1
      have k2 := hb5.cell 2
      have k3 := hb5.cell 3
      have k4 := hb5.cell 4
      unfold set5 at k0 k1 k2 k3 k4
      simp [results, Try.results23, go_sem, k0, k1, k2, k3, k4]
  · have hi : z.okAt i = false := by simpa using hi
    rw [hi, okC_f] at CF
    have e : z.take i = (z, lt0, 1) := by unfold Nt.take; rw [if_pos hi]
    rw [e]
    have HNA := Lib.hid (fun w1 (hb : Below w.heap.size w w1) => TookP.no h 1 hb)
    have HB := Lib.hid hB
    clear h e hi hB
    unfold ltZ at *
    go_enter Try.func23, Try.ntmps23
    go_wp2_with fail
    refine CF.out.mono ?_
    rintro e w1 ⟨rfl, rfl⟩
    clear CF
    go_wp2_with fail
    refine bodyPost_ret (v := .tuple #[.agg #[.int .i64 0, .int .i64 0, .int .i64 0, .int .i64 0, .slice none 0 0], .int .i64 1]) (by simp [results, Try.results23, go_sem]) rfl (HNA.out _ HB.out)
end
end Go.Proofs.Ytmjipeagbogpmaa.Net

namespace Go.Proofs.Ytmjipeagbogpmaa.Net
open Go.RowKit Disk Zab Sto

section
variable {w0 w : World} {O F : Nat → Prop} {gz : Nat} {As : Option Addr} {cs : Nat} {Ar : Option Addr} {cr gm : Nat} {D : DataW Value} {ps : List Nat} {z : Nt} {N : Nat}
theorem NtM.remap (h : NtM w O F gz As cs Ar cr gm D ps z N) {w' : World} (ho : Out (fun b => b = gm) w w') {f : Ad × Ad → Bool} {D' : DataW Value} {M : Nat} (hk : KMap linkT w' gm (cutV f) M D') : NtM w' O F gz As cs Ar cr gm D' ps { z with cut := f } M := by
  obtain ⟨h1, h2, h3, h4, h5, h6, h7, h8, h9⟩ := h
  refine ⟨h1.kept (ho.block _ h1.lt (Ne.symm h8.2.2)), h2, rdv_out h3 ho fun a ha h0 => (h2 _ (h4 a ha h0)).2.2.1, h4, h5.kept fun a ha => ho.block _ (h5.lt a ha) (h6 a ha).2.2, h6, fun i p l hp hl => ?_, h8, hk⟩
  obtain ⟨q1, q2⟩ := h7 i p l hp hl
  exact ⟨q1, q2.out ho (h2 _ q1).2.2.1 fun b hb => (h2 _ hb).2.2.1⟩
set_option maxRecDepth 8000 in
set_option maxHeartbeats 1000000 in
theorem Cut_any (h : NtAt w0 w O gz z N) (hN : N < 1000000) (a b : Ad) : Calls Try.prog 24 #[.pointer (some ⟨gz, 0, none⟩), adV a, adV b] w (DidN w0 O gz (.int .i64 (z.turn a b true).2) (z.turn a b true).1 (N + 1) w) := by
  have hB : Below w.heap.size w ((w.alloc (.cells #[.int .i64 a.g, .int .i64 a.n] 34)).alloc (.cells #[.int .i64 b.g, .int .i64 b.n] 34)) := ((Below.refl _ _).alloc (Nat.le_refl _) _).alloc (by simp) _
  have B1 := (Bk.new w 34 #[.int .i64 a.g, .int .i64 a.n]).alloc (.cells #[.int .i64 b.g, .int .i64 b.n] 34)
  have B2 : Bk ((w.alloc (.cells #[.int .i64 a.g, .int .i64 a.n] 34)).alloc (.cells #[.int .i64 b.g, .int .i64 b.n] 34)) (w.heap.size + 1) 34 #[.int .i64 b.g, .int .i64 b.n] := by simpa using Bk.new (w.alloc (.cells #[.int .i64 a.g, .int .i64 a.n] 34)) 34 #[.int .i64 b.g, .int .i64 b.n]
  have CF := Lib.hid (faultOf_any (h.below hB) a b)
  have CL := Lib.hid (linkOf_any a b)
  have hc := h.below hB
  have HB := Lib.hid hB
  have HH := Lib.hid h
  clear hB
  obtain ⟨r, hr⟩ : ∃ r, r = z.turn a b true := ⟨_, rfl⟩
  rw [← hr]
  unfold adV at CF CL ⊢
  have k1 := B1.cell 0
  have k2 := B1.cell 1
  have k3 := B2.cell 0
  have k4 := B2.cell 1
  by_cases hi : z.link a b = true
  · have e : Hid (r = ({ z with cut := fun l => if l = linkOf a b then true else z.cut l }, 0)) := by
      show _ = _
      rw [hr]; unfold Nt.turn; rw [if_neg (by rw [hi]; simp)]
    rw [hi, okC_t] at CF
    have hok := h.ok.turn a b true
    rw [← hr] at hok
    have HOK := Lib.hid hok
    obtain ⟨ha, hb⟩ := link_wf h.ok.sizes hi
    obtain ⟨hz, _, hlow, F, As, cs, Ar, cr, gm, D, ps, hm⟩ := hc
    have HM := Lib.hid hm
    have HLOW := Lib.hid hlow
    have HN := Lib.hid hN
    have HC : Hid (∀ V, Below ((w.alloc (.cells #[.int .i64 a.g, .int .i64 a.n] 34)).alloc (.cells #[.int .i64 b.g, .int .i64 b.n] 34)).heap.size ((w.alloc (.cells #[.int .i64 a.g, .int .i64 a.n] 34)).alloc (.cells #[.int .i64 b.g, .int .i64 b.n] 34)) V → (V.cell? ⟨gz, 2, none⟩ = some (.map (some gm)) ∧ V.cell? ⟨w.heap.size, 0, none⟩ = some (.int .i64 a.g) ∧ V.cell? ⟨w.heap.size, 1, none⟩ = some (.int .i64 a.n) ∧ V.cell? ⟨w.heap.size + 1, 0, none⟩ = some (.int .i64 b.g) ∧ V.cell? ⟨w.heap.size + 1, 1, none⟩ = some (.int .i64 b.n))) := fun V hV =>
      ⟨(HM.out.below hV).cells.2.2.1, (B1.below hV).cell 0, (B1.below hV).cell 1, (B2.below hV).cell 0, (B2.below hV).cell 1⟩
    have HP : Hid (∀ V, Below ((w.alloc (.cells #[.int .i64 a.g, .int .i64 a.n] 34)).alloc (.cells #[.int .i64 b.g, .int .i64 b.n] 34)).heap.size ((w.alloc (.cells #[.int .i64 a.g, .int .i64 a.n] 34)).alloc (.cells #[.int .i64 b.g, .int .i64 b.n] 34)) V → ∃ V2, (Instr.mapUpdate 57 (.map (some gm)) (lkV (linkOf a b)) (.bool true)).run Try.prog V = .ok () V2 ∧ DidN w0 O gz (.int .i64 0) r.1 (N + 1) w (.returned (.int .i64 0)) V2 ∧ (V2.cell? ⟨gz, 2, none⟩ = some (.map (some gm)) ∧ V2.cell? ⟨w.heap.size, 0, none⟩ = some (.int .i64 a.g) ∧ V2.cell? ⟨w.heap.size, 1, none⟩ = some (.int .i64 a.n) ∧ V2.cell? ⟨w.heap.size + 1, 0, none⟩ = some (.int .i64 b.g) ∧ V2.cell? ⟨w.heap.size + 1, 1, none⟩ = some (.int .i64 b.n))) := fun V hV => by
      obtain ⟨V2, D', hrun, hk, ho⟩ := (HM.out.below hV).map.put ty_cuts (linkOf a b) (linkOf_wf ha hb) (.bool true) (by have := HN.out; omega)
      rw [cutV_put] at hk
      have hm2 := (HM.out.below hV).remap ho hk
      have hg := HH.out.low gm HM.out.go.2.1
      have e1 := B1.below hV
      have e2 := B2.below hV
      have f1 : Bk V2 w.heap.size _ _ := e1.kept (ho.block _ e1.lt (by omega))
      have f2 : Bk V2 (w.heap.size + 1) _ _ := e2.kept (ho.block _ e2.lt (by omega))
      refine ⟨V2, hrun, ⟨O, rfl, ⟨HOK.out, HM.out.go.1, fun b hb => ⟨(HLOW.out b hb).1, Nat.lt_of_lt_of_le (HLOW.out b hb).2 (Nat.le_trans hV.size ho.size)⟩, F, As, cs, Ar, cr, gm, D', ps, by rw [e.out]; exact hm2⟩, ((Out.of_below (HB.out.trans (hV.mono HB.out.size))).trans (ho.mono (Y := O) fun b hb => .inl (by subst hb; exact HM.out.go.2.1)) fun b q => .inl q), fun b hb => .inl hb⟩, hm2.bk.cell 2, f1.cell 0, f1.cell 1, f2.cell 0, f2.cell 1⟩
    clear h hz hlow hm hi hok ha hb hN hr HM HLOW HN HOK HH B1 B2
    have er : Hid (r.2 = 0) := by show _ = _; rw [e.out]
    clear e
    generalize hw : (w.alloc (.cells #[.int .i64 a.g, .int .i64 a.n] 34)).alloc (.cells #[.int .i64 b.g, .int .i64 b.n] 34) = W at *
    go_enter Try.func24, Try.ntmps24
    go_wp2_with fail
    refine CF.out.mono ?_
    rintro e w1 ⟨rfl, hb1⟩
    have HSD := Lib.hid (HC.out w1.drew (below_drewN hb1 1))
    have HSW := Lib.hid (HC.out w1 hb1)
    obtain ⟨k1', k2', k3', k4', k5'⟩ := HSW.out
    have HB1 := Lib.hid (below_drewN hb1 1)
    clear CF hb1 k1 k2 k3 k4
    go_wp2_with fail
    go_region_held3 (fun V => V.cell? ⟨gz, 2, none⟩ = some (.map (some gm)) ∧ V.cell? ⟨w.heap.size, 0, none⟩ = some (.int .i64 a.g) ∧ V.cell? ⟨w.heap.size, 1, none⟩ = some (.int .i64 a.n) ∧ V.cell? ⟨w.heap.size + 1, 0, none⟩ = some (.int .i64 b.g) ∧ V.cell? ⟨w.heap.size + 1, 1, none⟩ = some (.int .i64 b.n))
      (first | (with_reducible assumption) | (with_reducible exact HSD.out) | (with_reducible exact HS1.out) | (with_reducible exact HS2.out))
      (first | (go_at_call 31; (with_reducible refine (CL.out _).mono ?_); rintro e w2 ⟨rfl, hb2⟩; have HB2 := Lib.hid (HB1.out.trans (hb2.mono HB1.out.size)); have HS1 := Lib.hid (HC.out w2 HB2.out); obtain ⟨w3, hrun, hd3, hs3⟩ := HP.out w2 HB2.out; have HD3 := Lib.hid hd3; have HS2 := Lib.hid hs3; clear hb2 hd3 hs3))
    go_wp2_with fail
    go_ret
    rw [er.out]
    exact HD3.out
  · have hi : z.link a b = false := by simpa using hi
    have e : Hid (r = (z, 1)) := by show _ = _; rw [hr]; unfold Nt.turn; rw [if_pos hi]
    rw [hi, okC_f] at CF
    clear hr hc hi B1 B2
    have HF := Lib.hid (fun W (hW : Below w.heap.size w W) => DidN.same (v := .int .i64 1) (h.mono (Nat.le_succ N)) hW)
    clear h HH
    generalize hw : (w.alloc (.cells #[.int .i64 a.g, .int .i64 a.n] 34)).alloc (.cells #[.int .i64 b.g, .int .i64 b.n] 34) = W at *
    go_enter Try.func24, Try.ntmps24
    go_wp2_with fail
    refine CF.out.mono ?_
    rintro e w1 ⟨rfl, hb1⟩
    have HB1 := Lib.hid (HB.out.trans (hb1.mono HB.out.size))
    clear CF hb1
    go_wp2_with fail
    go_ret
    rw [e.out]
    exact HF.out _ HB1.out
set_option maxRecDepth 8000 in
set_option maxHeartbeats 1000000 in
theorem Heal_any (h : NtAt w0 w O gz z N) (hN : N < 1000000) (a b : Ad) : Calls Try.prog 25 #[.pointer (some ⟨gz, 0, none⟩), adV a, adV b] w (DidN w0 O gz (.int .i64 (z.turn a b false).2) (z.turn a b false).1 (N + 1) w) := by
  have hB : Below w.heap.size w ((w.alloc (.cells #[.int .i64 a.g, .int .i64 a.n] 34)).alloc (.cells #[.int .i64 b.g, .int .i64 b.n] 34)) := ((Below.refl _ _).alloc (Nat.le_refl _) _).alloc (by simp) _
  have B1 := (Bk.new w 34 #[.int .i64 a.g, .int .i64 a.n]).alloc (.cells #[.int .i64 b.g, .int .i64 b.n] 34)
  have B2 : Bk ((w.alloc (.cells #[.int .i64 a.g, .int .i64 a.n] 34)).alloc (.cells #[.int .i64 b.g, .int .i64 b.n] 34)) (w.heap.size + 1) 34 #[.int .i64 b.g, .int .i64 b.n] := by simpa using Bk.new (w.alloc (.cells #[.int .i64 a.g, .int .i64 a.n] 34)) 34 #[.int .i64 b.g, .int .i64 b.n]
  have CF := Lib.hid (faultOf_any (h.below hB) a b)
  have CL := Lib.hid (linkOf_any a b)
  have hc := h.below hB
  have HB := Lib.hid hB
  have HH := Lib.hid h
  clear hB
  obtain ⟨r, hr⟩ : ∃ r, r = z.turn a b false := ⟨_, rfl⟩
  rw [← hr]
  unfold adV at CF CL ⊢
  have k1 := B1.cell 0
  have k2 := B1.cell 1
  have k3 := B2.cell 0
  have k4 := B2.cell 1
  by_cases hi : z.link a b = true
  · have e : Hid (r = ({ z with cut := fun l => if l = linkOf a b then false else z.cut l }, 0)) := by
      show _ = _
      rw [hr]; unfold Nt.turn; rw [if_neg (by rw [hi]; simp)]
    rw [hi, okC_t] at CF
    have hok := h.ok.turn a b false
    rw [← hr] at hok
    have HOK := Lib.hid hok
    obtain ⟨ha, hb⟩ := link_wf h.ok.sizes hi
    obtain ⟨hz, _, hlow, F, As, cs, Ar, cr, gm, D, ps, hm⟩ := hc
    have HM := Lib.hid hm
    have HLOW := Lib.hid hlow
    have HN := Lib.hid hN
    have HC : Hid (∀ V, Below ((w.alloc (.cells #[.int .i64 a.g, .int .i64 a.n] 34)).alloc (.cells #[.int .i64 b.g, .int .i64 b.n] 34)).heap.size ((w.alloc (.cells #[.int .i64 a.g, .int .i64 a.n] 34)).alloc (.cells #[.int .i64 b.g, .int .i64 b.n] 34)) V → (V.cell? ⟨gz, 2, none⟩ = some (.map (some gm)) ∧ V.cell? ⟨w.heap.size, 0, none⟩ = some (.int .i64 a.g) ∧ V.cell? ⟨w.heap.size, 1, none⟩ = some (.int .i64 a.n) ∧ V.cell? ⟨w.heap.size + 1, 0, none⟩ = some (.int .i64 b.g) ∧ V.cell? ⟨w.heap.size + 1, 1, none⟩ = some (.int .i64 b.n))) := fun V hV =>
      ⟨(HM.out.below hV).cells.2.2.1, (B1.below hV).cell 0, (B1.below hV).cell 1, (B2.below hV).cell 0, (B2.below hV).cell 1⟩
    have HP : Hid (∀ V, Below ((w.alloc (.cells #[.int .i64 a.g, .int .i64 a.n] 34)).alloc (.cells #[.int .i64 b.g, .int .i64 b.n] 34)).heap.size ((w.alloc (.cells #[.int .i64 a.g, .int .i64 a.n] 34)).alloc (.cells #[.int .i64 b.g, .int .i64 b.n] 34)) V → ∃ V2, (Builtin.delete_ #[57, 71] 0 #[.map (some gm), lkV (linkOf a b)]).run Try.prog V = .ok (.tuple #[]) V2 ∧ DidN w0 O gz (.int .i64 0) r.1 (N + 1) w (.returned (.int .i64 0)) V2 ∧ (V2.cell? ⟨gz, 2, none⟩ = some (.map (some gm)) ∧ V2.cell? ⟨w.heap.size, 0, none⟩ = some (.int .i64 a.g) ∧ V2.cell? ⟨w.heap.size, 1, none⟩ = some (.int .i64 a.n) ∧ V2.cell? ⟨w.heap.size + 1, 0, none⟩ = some (.int .i64 b.g) ∧ V2.cell? ⟨w.heap.size + 1, 1, none⟩ = some (.int .i64 b.n))) := fun V hV => by
      obtain ⟨V2, D', hrun, hk, ho⟩ := (HM.out.below hV).map.drop ty_cuts (linkOf a b) (linkOf_wf ha hb) 0
      rw [cutV_drop] at hk
      have hk := hk.mono (Nat.le_succ _)
      have hm2 := (HM.out.below hV).remap ho hk
      have hg := HH.out.low gm HM.out.go.2.1
      have e1 := B1.below hV
      have e2 := B2.below hV
      have f1 : Bk V2 w.heap.size _ _ := e1.kept (ho.block _ e1.lt (by omega))
      have f2 : Bk V2 (w.heap.size + 1) _ _ := e2.kept (ho.block _ e2.lt (by omega))
      refine ⟨V2, hrun, ⟨O, rfl, ⟨HOK.out, HM.out.go.1, fun b hb => ⟨(HLOW.out b hb).1, Nat.lt_of_lt_of_le (HLOW.out b hb).2 (Nat.le_trans hV.size ho.size)⟩, F, As, cs, Ar, cr, gm, D', ps, by rw [e.out]; exact hm2⟩, ((Out.of_below (HB.out.trans (hV.mono HB.out.size))).trans (ho.mono (Y := O) fun b hb => .inl (by subst hb; exact HM.out.go.2.1)) fun b q => .inl q), fun b hb => .inl hb⟩, hm2.bk.cell 2, f1.cell 0, f1.cell 1, f2.cell 0, f2.cell 1⟩
    clear h hz hlow hm hi hok ha hb hN hr HM HLOW HN HOK HH B1 B2
    have er : Hid (r.2 = 0) := by show _ = _; rw [e.out]
    clear e
    generalize hw : (w.alloc (.cells #[.int .i64 a.g, .int .i64 a.n] 34)).alloc (.cells #[.int .i64 b.g, .int .i64 b.n] 34) = W at *
    go_enter Try.func25, Try.ntmps25
    go_wp2_with fail
    refine CF.out.mono ?_
    rintro e w1 ⟨rfl, hb1⟩
    have HSD := Lib.hid (HC.out w1.drew (below_drewN hb1 1))
    have HSW := Lib.hid (HC.out w1 hb1)
    obtain ⟨k1', k2', k3', k4', k5'⟩ := HSW.out
    have HB1 := Lib.hid (below_drewN hb1 1)
    clear CF hb1 k1 k2 k3 k4
    go_wp2_with fail
    go_region_held3 (fun V => V.cell? ⟨gz, 2, none⟩ = some (.map (some gm)) ∧ V.cell? ⟨w.heap.size, 0, none⟩ = some (.int .i64 a.g) ∧ V.cell? ⟨w.heap.size, 1, none⟩ = some (.int .i64 a.n) ∧ V.cell? ⟨w.heap.size + 1, 0, none⟩ = some (.int .i64 b.g) ∧ V.cell? ⟨w.heap.size + 1, 1, none⟩ = some (.int .i64 b.n))
      (first | (with_reducible assumption) | (with_reducible exact HSD.out) | (with_reducible exact HS1.out) | (with_reducible exact HS2.out))
      (first | (go_at_call 31; (with_reducible refine (CL.out _).mono ?_); rintro e w2 ⟨rfl, hb2⟩; have HB2 := Lib.hid (HB1.out.trans (hb2.mono HB1.out.size)); have HS1 := Lib.hid (HC.out w2 HB2.out); obtain ⟨w3, hrun, hd3, hs3⟩ := HP.out w2 HB2.out; have HD3 := Lib.hid hd3; have HS2 := Lib.hid hs3; clear hb2 hd3 hs3))
    go_wp2_with fail
    go_ret
    rw [er.out]
    exact HD3.out
  · have hi : z.link a b = false := by simpa using hi
    have e : Hid (r = (z, 1)) := by show _ = _; rw [hr]; unfold Nt.turn; rw [if_pos hi]
    rw [hi, okC_f] at CF
    clear hr hc hi B1 B2
    have HF := Lib.hid (fun W (hW : Below w.heap.size w W) => DidN.same (v := .int .i64 1) (h.mono (Nat.le_succ N)) hW)
    clear h HH
    generalize hw : (w.alloc (.cells #[.int .i64 a.g, .int .i64 a.n] 34)).alloc (.cells #[.int .i64 b.g, .int .i64 b.n] 34) = W at *
    go_enter Try.func25, Try.ntmps25
    go_wp2_with fail
    refine CF.out.mono ?_
    rintro e w1 ⟨rfl, hb1⟩
    have HB1 := Lib.hid (HB.out.trans (hb1.mono HB.out.size))
    clear CF hb1
    go_wp2_with fail
    go_ret
    rw [e.out]
    exact HF.out _ HB1.out
end
end Go.Proofs.Ytmjipeagbogpmaa.Net

namespace Go.Proofs.Ytmjipeagbogpmaa.Net
open Go.RowKit Disk Zab Sto

theorem info_int : (Try.prog.info? 3).map (fun i => (i.zero, i.size, i.bytes)) = some (some (.int .i64 0), 1, 8) := by kernel_rfl
theorem ty_ints : Try.prog.underlying 22 = some (.slice 3) := by kernel_rfl
def noSize (s : Int) : Bool := decide (s < 1) || decide (3 < s)
set_option maxRecDepth 8000 in
theorem isNoSize_any (s : Int) (w : World) : Calls Try.prog 18 #[.int .i64 s] w fun e w' => e = .returned (.bool (noSize s)) ∧ w' = w := by
  by_cases h1 : s < 1
  · have e : noSize s = true := by unfold noSize; rw [decide_eq_true h1]; rfl
    rw [e]
    clear e
    go_enter Try.func18, Try.ntmps18
    go_wp2_with fail
    go_ret
    exact ⟨rfl, rfl⟩
  · have e : noSize s = decide (3 < s) := by unfold noSize; rw [decide_eq_false h1]; rfl
    rw [e]
    clear e
    go_enter Try.func18, Try.ntmps18
    go_wp2_with fail
    go_ret
    exact ⟨rfl, rfl⟩
theorem any_take {α : Type} {l : List α} {p : α → Bool} {k : Nat} (hk : k < l.length) : (l.take (k + 1)).any p = ((l.take k).any p || p l[k]) := by
  rw [List.take_succ_eq_append_getElem hk, List.any_append]
  simp
def RelAny (ls : List Int) (n : Nat) (i : Value) : Prop := ∃ k : Nat, k ≤ n ∧ i = .int .i64 (k : Int) ∧ (ls.take k).any noSize = false
def IdxP (r : Bool) (w : World) (e : Ending) (w' : World) : Prop := ∃ i : Int, e = .returned (.int .i64 i) ∧ decide (0 ≤ i) = r ∧ w' = w
set_option maxRecDepth 100000 in
set_option maxHeartbeats 2000000 in
theorem indexFunc_sizes (zs : List Int) (A : Option Addr) (n c : Nat) (w : World) (hS : RdV w A n (iv zs)) (hn : n ≤ 1000000) :
    Calls Try.prog 32 #[.slice A n c, .func (.func 18) #[] #[]] w (IdxP (zs.any noSize) w) := by
  have HS := Lib.hid hS
  have hl : zs.length = n := by rw [← hS.len]; simp [iv]
  have HL := Lib.hid hl
  obtain ⟨r, hr⟩ : ∃ r, r = zs.any noSize := ⟨_, rfl⟩
  rw [← hr]
  have HR := Lib.hid hr
  clear hS hl hr
  go_enter Try.func32, Try.ntmps32
  go_wp2_with fail
  go_loop [8] (fun i => RelAny zs n i) (fun i => n - (intOf i).toNat)
  case atStart => exact ⟨0, Nat.zero_le _, rfl, by simp⟩
  case round =>
    obtain ⟨k, hk, rfl, hall⟩ := hrel
    have HALL := Lib.hid hall
    clear hall
    by_cases hlt : k < n
    · have hjx : k < zs.length := by rw [HL.out]; exact hlt
      obtain ⟨ad, rfl, hcells⟩ := HS.out.cells (by omega)
      have q1 := hcells k (.int .i64 zs[k]) (by unfold iv; rw [List.getElem?_map, List.getElem?_eq_getElem hjx]; rfl)
      have HAT := Lib.hid (any_take (p := noSize) hjx)
      have HMEM := Lib.hid (List.getElem_mem hjx)
      generalize zs[k] = y at *
      have cf := Lib.hid (isNoSize_any y)
      obtain ⟨b, hb⟩ : ∃ b, b = noSize y := ⟨_, rfl⟩
      rw [← hb] at HAT cf
      have HBY := Lib.hid hb
      clear hcells hb
      cases b
      · have HREL : Hid ((zs.take (k + 1)).any noSize = false) := by
          show _ = _
          rw [HAT.out, HALL.out]
          rfl
        go_wp2_with fail
        refine (cf.out _).mono ?_
        rintro e w3 ⟨rfl, rfl⟩
        clear cf q1
        go_wp2_with fail
        go_round
        case rel => exact ⟨k + 1, by omega, by go_num, HREL.out⟩
        case measure => simp [intOf]; omega
      · have HANY : Hid (r = true) := by
          show _ = _
          rw [HR.out]
          exact List.any_eq_true.2 ⟨y, HMEM.out, HBY.out.symm⟩
        go_wp2_with fail
        refine (cf.out _).mono ?_
        rintro e w3 ⟨rfl, rfl⟩
        clear cf q1
        go_wp2_with fail
        go_ret
        exact ⟨(k : Int), rfl, by rw [HANY.out]; exact decide_eq_true (by omega), rfl⟩
    · obtain rfl : k = n := by omega
      have HNO : Hid (r = false) := by
        show _ = _
        have h1 := HALL.out
        rwa [List.take_of_length_le (by rw [HL.out]; exact Nat.le_refl _), ← HR.out] at h1
      clear hlt
      have v1 : ¬ (k : Int) < (k : Int) := by omega
      go_wp2_with fail
      go_ret
      exact ⟨-1, rfl, by rw [HNO.out]; rfl, rfl⟩
set_option maxRecDepth 8000 in
theorem contains_sizes (zs : List Int) (A : Option Addr) (n c : Nat) (w : World) (hS : RdV w A n (iv zs)) (hn : n ≤ 1000000) :
    Calls Try.prog 17 #[.slice A n c, .func (.func 18) #[] #[]] w fun e w' => e = .returned (.bool (zs.any noSize)) ∧ w' = w := by
  have ci := Lib.hid (indexFunc_sizes zs A n c w hS hn)
  obtain ⟨r, hr⟩ : ∃ r, r = zs.any noSize := ⟨_, rfl⟩
  rw [← hr] at ci ⊢
  clear hS hn hr
  go_enter Try.func17, Try.ntmps17
  go_wp2_with fail
  refine ci.out.mono ?_
  rintro e w1 ⟨i, rfl, hi, rfl⟩
  have HI := Lib.hid hi
  clear hi ci
  go_wp2_with fail
  go_ret
  exact ⟨by rw [← HI.out]; rfl, rfl⟩
def CopyI (zs : List Int) (w : World) (e : Ending) (w' : World) : Prop := ∃ B m k, e = .returned (.slice B m k) ∧ m = zs.length ∧ RdV w' B m (iv zs) ∧ (∀ a, B = some a → w.heap.size ≤ a.block) ∧ Below w.heap.size w w'
set_option maxRecDepth 8000 in
theorem clone_ints (A : Option Addr) (n c : Nat) (zs : List Int) (w : World) (hr : RdV w A n (iv zs)) (hle : n ≤ 1000000) :
    Calls Try.prog 19 #[.slice A n c] w (CopyI zs w) := by
  have H := Lib.hid hr
  have hl : zs.length = n := by rw [← hr.len]; simp [iv]
  have HL := Lib.hid hl
  clear hl
  cases A with
  | none =>
    have h0 : n = 0 := by
      rcases Nat.eq_zero_or_pos n with h | h
      · exact h
      · obtain ⟨_, e', _⟩ := hr.cells h
        cases e'
    subst h0
    have hb0 : zs = [] := List.eq_nil_of_length_eq_zero HL.out
    subst hb0
    clear hr
    have heq := Lib.run_eql_slice_nil (P := Try.prog) w 22 3 none 0 c 0 0 ty_ints
    go_enter Try.func19, Try.ntmps19
    go_wp2_with fail
    go_ret
    exact ⟨none, 0, 0, rfl, rfl, RdV.nil_ _ _, (fun a h => by cases h), Below.refl _ _⟩
  | some ad =>
    clear hr
    obtain ⟨i, hi, hz0, hz1, hz2⟩ := infos info_int
    have HI := Lib.hid hi
    have HZ0 := Lib.hid hz0
    have HZ1 := Lib.hid hz1
    have HZ2 := Lib.hid hz2
    clear hi hz0 hz1 hz2
    have heq := Lib.run_eql_slice_nil (P := Try.prog) w 22 3 (some ad) n c 0 0 ty_ints
    go_enter Try.func19, Try.ntmps19
    have HBa := Lib.hid ((Below.refl w.heap.size w).alloc (Nat.le_refl _) (.cells #[] 3))
    have HONE : Hid (∀ u ∈ iv zs, u.oneCell' = true) := fun u hu => by
      obtain ⟨q, _, rfl⟩ := List.mem_map.1 hu
      rfl
    obtain ⟨v', w3, hrun, hown3, hgr3⟩ := run_append_RdV (ty := 22) ty_ints HI.out HZ0.out HZ1.out HZ2.out rfl (own_lit1 w 3) (H.out.below HBa.out) HONE.out c (by unfold maxLen; omega) (by omega) (by simp)
    have HRUN := Lib.hid hrun
    have HO3 := Lib.hid hown3
    have HB3 := Lib.hid (HBa.out.grown hgr3 HBa.out.size (fun g hg => ((own_lit1 w 3).lt g hg).1))
    clear hown3 hgr3 hrun
    go_wp2_with (at_builtin; refine wpList_append_of rfl (.tmp 5) (.tmp 6) 22 rfl rfl rfl HRUN.out ?_)
    go_wp2_with fail
    go_ret
    obtain ⟨B, k, e1⟩ := own_slice HO3.out
    have ho := HO3.out
    rw [e1] at ho ⊢
    rw [Nat.zero_add, List.nil_append] at ho
    refine ⟨B, n, k, by simp, HL.out.symm, (RdV.of_own ho).1, fun a ha => (ho.lt a.block (by rw [ha]; rfl)).1, HB3.out⟩
end Go.Proofs.Ytmjipeagbogpmaa.Net

namespace Go.Proofs.Ytmjipeagbogpmaa.Net
open Go.RowKit Disk Zab Sto

def NewP (zs : List Int) (w : World) (e : Ending) (w' : World) : Prop := Below w.heap.size w w' ∧ ((sizesOk zs = false ∧ e = .returned (.tuple #[.pointer none, .int .i64 1])) ∨ (sizesOk zs = true ∧ ∃ g O, e = .returned (.tuple #[.pointer (some ⟨g, 0, none⟩), .int .i64 0]) ∧ NtAt w w' O g (Nt.new zs) 0))
theorem any_noSize {zs : List Int} : zs.any noSize = false ↔ ∀ x ∈ zs, 1 ≤ x ∧ x ≤ 3 := by
  unfold noSize
  rw [List.any_eq_false]
  constructor
  · intro h x hx
    have := h x hx
    simp at this
    omega
  · intro h x hx
    have := h x hx
    simp
    omega
theorem new_nt {w w1 w' : World} {zs : List Int} (hz : sizesOk zs = true) {A : Option Addr} {c : Nat} (hr : RdV w1 A zs.length (iv zs)) (ha : ∀ a, A = some a → w.heap.size ≤ a.block) (hb : Below w.heap.size w w1) (hw : w' = (w1.alloc (.map #[] 0)).alloc (.cells #[.slice A zs.length c, .slice none 0 0, .map (some w1.heap.size)] 60)) : NtAt w w' (fun b => w.heap.size ≤ b ∧ b < w'.heap.size) (w1.heap.size + 1) (Nt.new zs) 0 ∧ Below w.heap.size w w' := by
  have hs1 := hb.size
  have hb1 : Below w1.heap.size w1 w' := by rw [hw]; exact ((Below.refl _ _).alloc (Nat.le_refl _) _).alloc (by simp) _
  have hsz : w'.heap.size = w1.heap.size + 2 := by rw [hw]; simp
  have hbk : Bk w' (w1.heap.size + 1) 60 #[.slice A zs.length c, .slice none 0 0, .map (some w1.heap.size)] := by
    rw [hw]
    simpa using Bk.new (w1.alloc (.map #[] 0)) 60 #[.slice A zs.length c, .slice none 0 0, .map (some w1.heap.size)]
  have hmap : KMap linkT w' w1.heap.size (cutV fun _ => false) 0 (.map []) := by
    rw [hw]
    have := (KMap.new linkT w1).below ((Below.refl _ _).alloc (Nat.le_refl _) (.cells #[.slice A zs.length c, .slice none 0 0, .map (some w1.heap.size)] 60))
    exact this.congr (by funext x; rfl)
  have hlen : (Nt.new zs).row.length = 0 := rfl
  refine ⟨⟨Nt.Ok.new hz, ⟨by omega, by omega⟩, fun b hb => hb, fun b => w.heap.size ≤ b ∧ b < w1.heap.size, A, c, none, 0, w1.heap.size, .map [], [], hbk, fun b hb => ⟨⟨hb.1, by omega⟩, by omega, by omega, fun a ha => by cases ha⟩, hr.below hb1, fun a e h0 => ?_, RowE.nil_ _ _, (fun a e => by cases e), (fun i p l hp hl => by cases hl), ⟨⟨by omega, by omega⟩, ⟨by omega, by omega⟩, by omega⟩, hmap⟩, hb.trans (hb1.mono hs1)⟩
  refine ⟨ha a e, ?_⟩
  obtain ⟨ad, e1, hc⟩ := hr.cells h0
  rw [e] at e1
  injection e1 with e1
  subst e1
  have hi : (iv zs)[0]? = some (.int .i64 (zs.getD 0 0)) := by
    have h0' : 0 < zs.length := h0
    unfold iv
    rw [List.getElem?_map, List.getElem?_eq_getElem h0', List.getD_eq_getElem?_getD, List.getElem?_eq_getElem h0']
    rfl
  have := World.block_lt_of_cell? _ _ (hc 0 _ hi)
  rwa [addr_add_block] at this
set_option maxRecDepth 8000 in
set_option maxHeartbeats 1000000 in
theorem New_any (zs : List Int) (A : Option Addr) (n c : Nat) (w : World) (hS : RdV w A n (iv zs)) (hn : n ≤ 1000000) : Calls Try.prog 5 #[.slice A n c] w (NewP zs w) := by
  have hl : zs.length = n := by rw [← hS.len]; simp [iv]
  by_cases h1 : n < 1
  · have hno : sizesOk zs = false := by
      rw [Bool.eq_false_iff]
      intro h
      have := (sizesOk_iff.1 h).1
      omega
    have HF : Hid (NewP zs w (.returned (.tuple #[.pointer none, .int .i64 1])) w) := ⟨Below.refl _ _, .inl ⟨hno, rfl⟩⟩
    have h1' : (n : Int) < 1 := by omega
    clear hno hl hS
    go_enter Try.func5, Try.ntmps5
    go_wp2_with fail
    go_ret2
    exact HF.out
  by_cases h2 : 4 < n
  · have hno : sizesOk zs = false := by
      rw [Bool.eq_false_iff]
      intro h
      have := (sizesOk_iff.1 h).2.1
      omega
    have HF : Hid (NewP zs w (.returned (.tuple #[.pointer none, .int .i64 1])) w) := ⟨Below.refl _ _, .inl ⟨hno, rfl⟩⟩
    have h1' : ¬ (n : Int) < 1 := by omega
    have h2' : (4 : Int) < (n : Int) := by omega
    clear hno hl hS
    go_enter Try.func5, Try.ntmps5
    go_wp2_with fail
    go_ret2
    exact HF.out
  have CA := Lib.hid (contains_sizes zs A n c w hS hn)
  have CC := Lib.hid (clone_ints A n c zs w hS hn)
  have h1' : ¬ (n : Int) < 1 := by omega
  have h2' : ¬ (4 : Int) < (n : Int) := by omega
  obtain ⟨r, hr⟩ : ∃ r, r = zs.any noSize := ⟨_, rfl⟩
  rw [← hr] at CA
  have HZ : Hid (sizesOk zs = !r) := by
    show _ = _
    cases hq : zs.any noSize
    · rw [hr, hq]
      exact sizesOk_iff.2 ⟨by omega, by omega, any_noSize.1 hq⟩
    · rw [hr, hq]
      rw [Bool.not_true, Bool.eq_false_iff]
      intro h
      rw [any_noSize.2 (sizesOk_iff.1 h).2.2] at hq
      cases hq
  have HL := Lib.hid hl
  clear hr hS hl h1 h2
  cases r
  · have hmm := @run_makeMap Try.prog
    go_enter Try.func5, Try.ntmps5
    go_wp2_with fail
    refine CA.out.mono ?_
    rintro e w1 ⟨rfl, rfl⟩
    clear CA
    go_wp2_with fail
    refine CC.out.mono ?_
    rintro e w2 ⟨B, m, k, rfl, hm, hr2, hn2, hb2⟩
    have HX := Lib.hid (new_nt (c := k) HZ.out (by rw [← hm]; exact hr2) hn2 hb2 rfl)
    have HM := Lib.hid hm
    clear CC hm hr2 hn2 hb2
    go_wp2_with fail
    go_ret2
    have hx := HX.out
    rw [← HM.out] at hx
    exact ⟨hx.2, .inr ⟨HZ.out, _, _, rfl, hx.1⟩⟩
  · clear CC
    go_enter Try.func5, Try.ntmps5
    go_wp2_with fail
    refine CA.out.mono ?_
    rintro e w1 ⟨rfl, rfl⟩
    clear CA
    go_wp2_with fail
    go_ret2
    exact ⟨Below.refl _ _, .inl ⟨HZ.out, rfl⟩⟩
end Go.Proofs.Ytmjipeagbogpmaa.Net
