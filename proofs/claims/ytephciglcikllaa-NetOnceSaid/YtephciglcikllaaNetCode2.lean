/- net's helpers: faults of numbers and of links; Cuts, Len. -/
import Derived.Test.YtephciglcikllaaNetCode1
namespace Go.Proofs.Ytephciglcikllaa.Net
open Go.RowKit Disk Zab

/-- The code of a call: 0 or ErrArg. -/
def okC (b : Bool) : Int := cond b 0 1
section
variable {w0 w : World} {O F : Nat → Prop} {gz : Nat} {As : Option Addr} {cs : Nat} {Ar : Option Addr} {cr gm : Nat} {D : DataW Value} {ps : List Nat} {z : Nt} {N : Nat}
set_option maxRecDepth 8000 in
theorem faultAt_any (h : NtAt w0 w O gz z N) (i : Int) : Calls Try.prog 39 #[.pointer (some ⟨gz, 0, none⟩), .int .i64 i] w fun e w' => e = .returned (.int .i64 (okC (z.okAt i))) ∧ w' = w := by
  obtain ⟨hok, _, _, F, As, cs, Ar, cr, gm, D, ps, hm⟩ := h
  obtain ⟨-, c1, -, -⟩ := hm.cells
  have hl : z.row.length ≤ 4096 := hok.few
  obtain ⟨r, hr⟩ : ∃ r, r = z.okAt i := ⟨_, rfl⟩
  rw [← hr]
  unfold Nt.okAt at hr
  have HR := Lib.hid hr
  clear hm hok hr
  generalize z.row.length = n at *
  by_cases h1 : i < 0
  · have e : r = false := by rw [HR.out, decide_eq_false (by omega)]; rfl
    subst e
    clear HR
    go_enter Try.func39, Try.ntmps39
    go_wp2_with fail
    go_ret
    exact ⟨rfl, rfl⟩
  by_cases h2 : i < (n : Int)
  · have e : r = true := by rw [HR.out, decide_eq_true (by omega), decide_eq_true h2]; rfl
    subst e
    have h2' : ¬ (n : Int) ≤ i := by omega
    clear HR
    go_enter Try.func39, Try.ntmps39
    go_wp2_with fail
    go_ret
    exact ⟨rfl, rfl⟩
  · have e : r = false := by rw [HR.out, decide_eq_false h2, Bool.and_false]
    subst e
    have h2' : (n : Int) ≤ i := by omega
    clear HR
    go_enter Try.func39, Try.ntmps39
    go_wp2_with fail
    go_ret
    exact ⟨rfl, rfl⟩
set_option maxRecDepth 8000 in
theorem faultAt_nil (i : Int) (w : World) : Calls Try.prog 39 #[.pointer none, .int .i64 i] w fun e w' => e = .returned (.int .i64 8) ∧ w' = w := by
  go_enter Try.func39, Try.ntmps39
  go_wp2_with fail
  go_ret
  exact ⟨rfl, rfl⟩
set_option maxRecDepth 8000 in
theorem faultOf_any (h : NtAt w0 w O gz z N) (a b : Ad) : Calls Try.prog 37 #[.pointer (some ⟨gz, 0, none⟩), adV a, adV b] w fun e w' => e = .returned (.int .i64 (okC (z.link a b))) ∧ Below w.heap.size w w' := by
  obtain ⟨hok, _, _, F, As, cs, Ar, cr, gm, D, ps, hm⟩ := h
  have hB : Below w.heap.size w ((w.alloc (.cells #[.int .i64 a.g, .int .i64 a.n] 34)).alloc (.cells #[.int .i64 b.g, .int .i64 b.n] 34)) := ((Below.refl _ _).alloc (Nat.le_refl _) _).alloc (by simp) _
  have CH := Lib.hid (fun W (hW : Below w.heap.size w W) (x : Ad) => has_any (hm.below hW) hok.sizes x)
  have HB := Lib.hid hB
  obtain ⟨r, hr⟩ : ∃ r, r = z.link a b := ⟨_, rfl⟩
  rw [← hr]
  unfold Nt.link at hr
  have HR := Lib.hid hr
  have hs : w.heap.size + 1 < ((w.alloc (.cells #[.int .i64 a.g, .int .i64 a.n] 34)).alloc (.cells #[.int .i64 b.g, .int .i64 b.n] 34)).heap.size := by simp
  have B1 := (Bk.new w 34 #[.int .i64 a.g, .int .i64 a.n]).alloc (.cells #[.int .i64 b.g, .int .i64 b.n] 34)
  have B2 : Bk ((w.alloc (.cells #[.int .i64 a.g, .int .i64 a.n] 34)).alloc (.cells #[.int .i64 b.g, .int .i64 b.n] 34)) (w.heap.size + 1) 34 #[.int .i64 b.g, .int .i64 b.n] := by simpa using Bk.new (w.alloc (.cells #[.int .i64 a.g, .int .i64 a.n] 34)) 34 #[.int .i64 b.g, .int .i64 b.n]
  clear hm hok hB hr hs
  obtain ⟨ag, an⟩ := a
  obtain ⟨bg, bn⟩ := b
  unfold adV at CH ⊢
  dsimp only at *
  have h10 := B1.cell 0
  have h11 := B1.cell 1
  have h20 := B2.cell 0
  have h21 := B2.cell 1
  have HB2 := Lib.hid B2
  clear B1 B2
  generalize hw : (w.alloc (.cells #[.int .i64 ag, .int .i64 an] 34)).alloc (.cells #[.int .i64 bg, .int .i64 bn] 34) = W at *
  by_cases h1 : ag = bg
  · subst h1
    by_cases h2 : an = bn
    · subst h2
      have e : r = false := by rw [HR.out]; simp
      subst e
      clear HR
      go_enter Try.func37, Try.ntmps37
      go_wp2_with fail
      go_ret
      exact ⟨rfl, HB.out⟩
    · have hne : decide ((⟨ag, an⟩ : Ad) = ⟨ag, bn⟩) = false := decide_eq_false fun e => h2 (by injection e)
      have h2' : (an == bn) = false := beq_eq_false_iff_ne.2 h2
      clear h2
      have CH1 := CH.out W HB.out ⟨ag, an⟩
      dsimp only at CH1
      have HRa := Lib.hid HR.out
      obtain ⟨ra, hra⟩ : ∃ ra, ra = z.has ⟨ag, an⟩ := ⟨_, rfl⟩
      rw [← hra] at CH1
      have HRA := Lib.hid hra
      clear hra HR
      cases ra
      · have e : r = false := by rw [HRa.out, ← HRA.out]; simp
        subst e
        clear HRa
        go_enter Try.func37, Try.ntmps37
        go_wp2_with fail
        refine CH1.mono ?_
        rintro e w1 ⟨rfl, hb1⟩
        have HB1 := Lib.hid (HB.out.trans (hb1.mono HB.out.size))
        clear CH1 hb1
        go_wp2_with fail
        go_ret
        exact ⟨rfl, HB1.out⟩
      · have e : r = z.has ⟨ag, bn⟩ := by rw [HRa.out, ← HRA.out, hne]; rfl
        have HRb := Lib.hid e
        clear HRa e
        go_enter Try.func37, Try.ntmps37
        go_wp2_with fail
        refine CH1.mono ?_
        rintro e w1 ⟨rfl, hb1⟩
        have HB1 := Lib.hid (HB.out.trans (hb1.mono HB.out.size))
        have h20' := (HB2.out.below hb1).cell 0
        have h21' := (HB2.out.below hb1).cell 1
        have CH2 := CH.out w1 HB1.out ⟨ag, bn⟩
        rw [← HRb.out] at CH2
        clear CH1 hb1 HRb
        go_wp2_with fail
        refine CH2.mono ?_
        rintro e w2 ⟨rfl, hb2⟩
        have HB3 := Lib.hid (HB1.out.trans (hb2.mono HB1.out.size))
        clear CH2 hb2
        cases r
        · go_wp2_with fail
          go_ret
          exact ⟨rfl, HB3.out⟩
        · go_wp2_with fail
          go_ret
          exact ⟨rfl, HB3.out⟩
  · have hne : decide ((⟨ag, an⟩ : Ad) = ⟨bg, bn⟩) = false := decide_eq_false fun e => h1 (by injection e)
    have h1' : (ag == bg) = false := beq_eq_false_iff_ne.2 h1
    clear h1
    have CH1 := CH.out W HB.out ⟨ag, an⟩
    dsimp only at CH1
    have HRa := Lib.hid HR.out
    obtain ⟨ra, hra⟩ : ∃ ra, ra = z.has ⟨ag, an⟩ := ⟨_, rfl⟩
    rw [← hra] at CH1
    have HRA := Lib.hid hra
    clear hra HR
    cases ra
    · have e : r = false := by rw [HRa.out, ← HRA.out]; simp
      subst e
      clear HRa
      go_enter Try.func37, Try.ntmps37
      go_wp2_with fail
      refine CH1.mono ?_
      rintro e w1 ⟨rfl, hb1⟩
      have HB1 := Lib.hid (HB.out.trans (hb1.mono HB.out.size))
      clear CH1 hb1
      go_wp2_with fail
      go_ret
      exact ⟨rfl, HB1.out⟩
    · have e : r = z.has ⟨bg, bn⟩ := by rw [HRa.out, ← HRA.out, hne]; rfl
      have HRb := Lib.hid e
      clear HRa e
      go_enter Try.func37, Try.ntmps37
      go_wp2_with fail
      refine CH1.mono ?_
      rintro e w1 ⟨rfl, hb1⟩
      have HB1 := Lib.hid (HB.out.trans (hb1.mono HB.out.size))
      have h20' := (HB2.out.below hb1).cell 0
      have h21' := (HB2.out.below hb1).cell 1
      have CH2 := CH.out w1 HB1.out ⟨bg, bn⟩
      rw [← HRb.out] at CH2
      clear CH1 hb1 HRb
      go_wp2_with fail
      refine CH2.mono ?_
      rintro e w2 ⟨rfl, hb2⟩
      have HB3 := Lib.hid (HB1.out.trans (hb2.mono HB1.out.size))
      clear CH2 hb2
      cases r
      · go_wp2_with fail
        go_ret
        exact ⟨rfl, HB3.out⟩
      · go_wp2_with fail
        go_ret
        exact ⟨rfl, HB3.out⟩
set_option maxRecDepth 8000 in
theorem faultOf_nil (a b : Ad) (w : World) : Calls Try.prog 37 #[.pointer none, adV a, adV b] w fun e w' => e = .returned (.int .i64 8) ∧ Below w.heap.size w w' := by
  unfold adV
  have HB := Lib.hid (((Below.refl w.heap.size w).alloc (Nat.le_refl _) (.cells #[.int .i64 a.g, .int .i64 a.n] 34)).alloc (by simp) (.cells #[.int .i64 b.g, .int .i64 b.n] 34))
  go_enter Try.func37, Try.ntmps37
  go_wp2_with fail
  go_ret
  exact ⟨rfl, HB.out⟩
set_option maxRecDepth 8000 in
theorem Len_any (h : NtAt w0 w O gz z N) : Calls Try.prog 18 #[.pointer (some ⟨gz, 0, none⟩)] w fun e w' => e = .returned (.int .i64 (z.row.length : Int)) ∧ w' = w := by
  obtain ⟨hok, _, _, F, As, cs, Ar, cr, gm, D, ps, hm⟩ := h
  obtain ⟨-, c1, -, -⟩ := hm.cells
  have hl : z.row.length ≤ 4096 := hok.few
  clear hm hok
  generalize z.row.length = n at *
  go_enter Try.func18, Try.ntmps18
  go_wp2_with fail
  go_ret
  exact ⟨rfl, rfl⟩
set_option maxRecDepth 8000 in
theorem Len_nil (w : World) : Calls Try.prog 18 #[.pointer none] w fun e w' => e = .returned (.int .i64 0) ∧ w' = w := by
  go_enter Try.func18, Try.ntmps18
  go_wp2_with fail
  go_ret
  exact ⟨rfl, rfl⟩
end
end Go.Proofs.Ytephciglcikllaa.Net
