/- net: Send, Drop, Double, Hold. -/
import Derived.Test.YtephciglcikllaaNetCode6
namespace Go.Proofs.Ytephciglcikllaa.Net
open Go.RowKit Disk Zab Sto

theorem DidN.earlier {w0 w w1 w' : World} {O O1 : Nat → Prop} {gz : Nat} {v : Value} {z : Nt} {N : Nat} {e : Ending} (k : Go_ O O1 w w1) (h : DidN w0 O1 gz v z N w1 e w') : DidN w0 O gz v z N w e w' := by
  obtain ⟨O', h1, h2, h3⟩ := h
  exact ⟨O', h1, h2, k.trans h3⟩
theorem DidN.same {w0 w w1 : World} {O : Nat → Prop} {gz : Nat} {v : Value} {z : Nt} {N : Nat} (h : NtAt w0 w O gz z N) (hb : Below w.heap.size w w1) : DidN w0 O gz v z N w (.returned v) w1 := ⟨O, rfl, h.below hb, Go_.of_below hb⟩
theorem okC_t : okC true = 0 := rfl
theorem okC_f : okC false = 1 := rfl
section
variable {w0 w : World} {O F : Nat → Prop} {gz : Nat} {As : Option Addr} {cs : Nat} {Ar : Option Addr} {cr gm : Nat} {D : DataW Value} {ps : List Nat} {z : Nt} {N : Nat}
theorem NtM.widen (h : NtM w O F gz As cs Ar cr gm D ps z N) {G : Nat → Prop} (hg : ∀ b, G b → ¬ O b) : NtM w (fun b => O b ∨ G b) (fun b => F b ∨ G b) gz As cs Ar cr gm D ps z N := by
  obtain ⟨h1, h2, h3, h4, h5, h6, h7, h8, h9⟩ := h
  refine ⟨h1, fun b hb => ?_, h3, fun a ha h0 => .inl (h4 a ha h0), h5, fun a ha => ⟨.inl (h6 a ha).1, (h6 a ha).2⟩, fun i p l hp hl => ⟨.inl (h7 i p l hp hl).1, (h7 i p l hp hl).2.mono fun b => .inl⟩, ⟨.inl h8.1, .inl h8.2.1, h8.2.2⟩, h9⟩
  rcases hb with hb | hb
  · exact ⟨.inl (h2 b hb).1, (h2 b hb).2⟩
  · refine ⟨.inr hb, fun e => ?_, fun e => ?_, fun a ha e => ?_⟩
    · subst e; exact hg _ hb h8.1
    · subst e; exact hg _ hb h8.2.1
    · subst e; exact hg _ hb (h6 a ha).1
/-- Where letter i lies. -/
theorem NtM.at_ (h : NtM w O F gz As cs Ar cr gm D ps z N) {i : Nat} (hi : i < z.row.length) : ∃ p g, ps[i]? = some p ∧ Ar = some ⟨g, 0, none⟩ ∧ w.cell? ⟨g, i, none⟩ = some (P1 p) ∧ F p ∧ LtAt w F p (z.row.getD i lt0) := by
  have hlen : ps.length = z.row.length := by have := h.row.len; simpa using this
  have hp : ps[i]? = some ps[i] := List.getElem?_eq_getElem (by omega)
  have hl : z.row[i]? = some (z.row.getD i lt0) := by rw [List.getD_eq_getElem?_getD, List.getElem?_eq_getElem hi]; rfl
  obtain ⟨g, e1, h1⟩ := h.row.cell (i := i) (v := P1 ps[i]) (by rw [List.getElem?_map, hp]; rfl)
  obtain ⟨q1, q2⟩ := h.each i _ _ hp hl
  exact ⟨_, g, hp, e1, h1, q1, q2⟩
theorem NtAt.s0 (h : NtAt w0 w O gz z N) : w0.heap.size ≤ w.heap.size := by have := h.low gz h.gz_; omega
set_option maxRecDepth 8000 in
theorem Double_any (h : NtAt w0 w O gz z N) (i : Int) : Calls Try.prog 27 #[.pointer (some ⟨gz, 0, none⟩), .int .i64 i] w (DidN w0 O gz (.int .i64 (z.double i).2) (z.double i).1 N w) := by
  have CF := Lib.hid (faultAt_any h i)
  by_cases hi : z.okAt i = true
  · rw [hi, okC_t] at CF
    obtain ⟨k, rfl, hk⟩ := okAt_iff.1 hi
    have hok := h.ok.double (k : Int)
    have e : z.double (k : Int) = z.add (z.row.getD k lt0) := by unfold Nt.double; rw [if_neg (by rw [hi]; simp), Int.toNat_natCast]
    rw [e] at hok ⊢
    have hs := h.s0
    obtain ⟨hz, _, hlow, F, As, cs, Ar, cr, gm, D, ps, hm⟩ := h
    obtain ⟨p, g, hp, rfl, hc, hF, hl⟩ := hm.at_ hk
    have CA := Lib.hid (add_any hm hlow hs hF hl hok hz.few)
    obtain ⟨-, c1, -, -⟩ := hm.cells
    have h02 : (k : Int) < (z.row.length : Int) := by omega
    have hf := hz.few
    unfold P1 at CA hc
    clear hz hlow hm hp hF hl e hok hs hi
    generalize z.row.length = n at *
    go_enter Try.func27, Try.ntmps27
    go_wp2_with fail
    refine CF.out.mono ?_
    rintro e w1 ⟨rfl, rfl⟩
    clear CF
    go_wp2_with fail
    refine CA.out.mono ?_
    rintro e w2 ⟨O', rfl, q1, q2⟩
    have HQ := Lib.hid (And.intro q1 q2)
    clear q1 q2 CA
    go_wp2_with fail
    go_ret
    exact ⟨O', rfl, HQ.out⟩
  · have hi : z.okAt i = false := by simpa using hi
    rw [hi, okC_f] at CF
    have e : z.double i = (z, 1) := by unfold Nt.double; rw [if_pos hi]
    rw [e]
    have HF := Lib.hid (DidN.same (v := .int .i64 1) h (Below.refl _ _))
    clear h e hi
    go_enter Try.func27, Try.ntmps27
    go_wp2_with fail
    refine CF.out.mono ?_
    rintro e w1 ⟨rfl, rfl⟩
    clear CF
    go_wp2_with fail
    go_ret
    exact HF.out
set_option maxRecDepth 8000 in
theorem Drop_any (h : NtAt w0 w O gz z N) (i : Int) : Calls Try.prog 28 #[.pointer (some ⟨gz, 0, none⟩), .int .i64 i] w (DidN w0 O gz (.int .i64 (z.drop i).2) (z.drop i).1 N w) := by
  have CF := Lib.hid (faultAt_any h i)
  by_cases hi : z.okAt i = true
  · rw [hi, okC_t] at CF
    obtain ⟨k, rfl, hk⟩ := okAt_iff.1 hi
    have hok := h.ok.drop (k : Int)
    have e : z.drop (k : Int) = (z.out k, 0) := by unfold Nt.drop; rw [if_neg (by rw [hi]; simp), Int.toNat_natCast]
    rw [e] at hok ⊢
    have hs := h.s0
    obtain ⟨hz, _, hlow, F, As, cs, Ar, cr, gm, D, ps, hm⟩ := h
    obtain ⟨p, g, hp, rfl, hc, hF, hl⟩ := hm.at_ hk
    have CA := Lib.hid (cutOut_any hm hlow hs hz.few hk hp)
    clear hz hlow hm hp hF hl e hs hi hc
    have HOK := Lib.hid hok
    clear hok
    go_enter Try.func28, Try.ntmps28
    go_wp2_with fail
    refine CF.out.mono ?_
    rintro e w1 ⟨rfl, rfl⟩
    clear CF
    go_wp2_with fail
    refine CA.out.mono ?_
    rintro e w2 ⟨Ar', cr', rfl, q1, q2, q3, q4⟩
    have HQ : Hid (NtAt w0 w2 (Oo O w1 w2) gz (z.out k) N ∧ Go_ O (Oo O w1 w2) w1 w2) := ⟨⟨HOK.out, q1.go.1, q3, _, _, _, _, _, _, _, _, q1⟩, q2⟩
    clear q1 q2 q3 q4 CA
    go_wp2_with fail
    go_ret
    exact ⟨_, rfl, HQ.out⟩
  · have hi : z.okAt i = false := by simpa using hi
    rw [hi, okC_f] at CF
    have e : z.drop i = (z, 1) := by unfold Nt.drop; rw [if_pos hi]
    rw [e]
    have HF := Lib.hid (DidN.same (v := .int .i64 1) h (Below.refl _ _))
    clear h e hi
    go_enter Try.func28, Try.ntmps28
    go_wp2_with fail
    refine CF.out.mono ?_
    rintro e w1 ⟨rfl, rfl⟩
    clear CF
    go_wp2_with fail
    go_ret
    exact HF.out
set_option maxRecDepth 8000 in
theorem Hold_any (h : NtAt w0 w O gz z N) (i : Int) : Calls Try.prog 29 #[.pointer (some ⟨gz, 0, none⟩), .int .i64 i] w (DidN w0 O gz (.int .i64 (z.hold i).2) (z.hold i).1 N w) := by
  have CF := Lib.hid (faultAt_any h i)
  by_cases hi : z.okAt i = true
  · rw [hi, okC_t] at CF
    obtain ⟨k, rfl, hk⟩ := okAt_iff.1 hi
    have hok := h.ok.hold (k : Int)
    have e : z.hold (k : Int) = (z.out k).add (z.row.getD k lt0) := by unfold Nt.hold; rw [if_neg (by rw [hi]; simp), Int.toNat_natCast]
    rw [e] at hok ⊢
    have hs := h.s0
    obtain ⟨hz, _, hlow, F, As, cs, Ar, cr, gm, D, ps, hm⟩ := h
    obtain ⟨p, g, hp, rfl, hc, hF, hl⟩ := hm.at_ hk
    have CA := Lib.hid (cutOut_any hm hlow hs hz.few hk hp)
    have HD : Hid (∀ w2 Ar' cr', NtM w2 (Oo O w w2) F gz As cs Ar' cr' gm D (ps.eraseIdx k) (z.out k) N → Go_ O (Oo O w w2) w w2 → (∀ b, Oo O w w2 b → w0.heap.size ≤ b ∧ b < w2.heap.size) → Out (fun b => O b ∧ ¬ F b) w w2 → Calls Try.prog 38 #[.pointer (some ⟨gz, 0, none⟩), P1 p] w2 (DidN w0 O gz (.int .i64 ((z.out k).add (z.row.getD k lt0)).2) ((z.out k).add (z.row.getD k lt0)).1 N w)) := fun w2 Ar' cr' q1 q2 q3 q4 =>
      (add_any q1 q3 (by have := q2.1.size; omega) hF (hl.out q4 (fun h => h.2 hF) fun b hb h => h.2 hb) hok (Nat.le_trans (List.length_eraseIdx_le ..) hz.few)).mono fun e w' h => DidN.earlier q2 h
    unfold P1 at HD
    clear hz hlow hm hp hF hl e hs hi hc hok
    obtain ⟨r, hr⟩ : ∃ r, r = (z.out k).add (z.row.getD k lt0) := ⟨_, rfl⟩
    rw [← hr] at HD ⊢
    clear hr
    go_enter Try.func29, Try.ntmps29
    go_wp2_with fail
    refine CF.out.mono ?_
    rintro e w1 ⟨rfl, rfl⟩
    clear CF
    go_wp2_with fail
    refine CA.out.mono ?_
    rintro e w2 ⟨Ar', cr', rfl, q1, q2, q3, q4⟩
    have HD2 := Lib.hid (HD.out w2 Ar' cr' q1 q2 q3 q4)
    clear q1 q2 q3 q4 CA HD
    unfold P1
    go_wp2_with fail
    refine HD2.out.mono ?_
    rintro e w3 ⟨O', rfl, q1, q2⟩
    have HQ := Lib.hid (And.intro q1 q2)
    clear q1 q2 HD2
    go_wp2_with fail
    go_ret
    exact ⟨O', rfl, HQ.out⟩
  · have hi : z.okAt i = false := by simpa using hi
    rw [hi, okC_f] at CF
    have e : z.hold i = (z, 1) := by unfold Nt.hold; rw [if_pos hi]
    rw [e]
    have HF := Lib.hid (DidN.same (v := .int .i64 1) h (Below.refl _ _))
    clear h e hi
    go_enter Try.func29, Try.ntmps29
    go_wp2_with fail
    refine CF.out.mono ?_
    rintro e w1 ⟨rfl, rfl⟩
    clear CF
    go_wp2_with fail
    go_ret
    exact HF.out
set_option maxRecDepth 8000 in
theorem Drop_nil (i : Int) (w : World) : Calls Try.prog 28 #[.pointer none, .int .i64 i] w fun e w' => e = .returned (.int .i64 8) ∧ w' = w := by
  have CF := Lib.hid (faultAt_nil i w)
  go_enter Try.func28, Try.ntmps28
  go_wp2_with fail
  refine CF.out.mono ?_
  rintro e w1 ⟨rfl, rfl⟩
  clear CF
  go_wp2_with fail
  go_ret
  exact ⟨rfl, rfl⟩
set_option maxRecDepth 8000 in
theorem Hold_nil (i : Int) (w : World) : Calls Try.prog 29 #[.pointer none, .int .i64 i] w fun e w' => e = .returned (.int .i64 8) ∧ w' = w := by
  have CF := Lib.hid (faultAt_nil i w)
  go_enter Try.func29, Try.ntmps29
  go_wp2_with fail
  refine CF.out.mono ?_
  rintro e w1 ⟨rfl, rfl⟩
  clear CF
  go_wp2_with fail
  go_ret
  exact ⟨rfl, rfl⟩
set_option maxRecDepth 8000 in
theorem Double_nil (i : Int) (w : World) : Calls Try.prog 27 #[.pointer none, .int .i64 i] w fun e w' => e = .returned (.int .i64 8) ∧ w' = w := by
  have CF := Lib.hid (faultAt_nil i w)
  go_enter Try.func27, Try.ntmps27
  go_wp2_with fail
  refine CF.out.mono ?_
  rintro e w1 ⟨rfl, rfl⟩
  clear CF
  go_wp2_with fail
  go_ret
  exact ⟨rfl, rfl⟩
end
end Go.Proofs.Ytephciglcikllaa.Net
