/- net's helpers: links, copies, faults. -/
import Derived.Test.YtephciglcikllaaNetMem
import Derived.Deep.RegionHeld3
import Derived.BigQuiet
import Derived.Deep.QuietTactic
import Derived.Lib.SliceRun
import Derived.WalkLawsBesides
namespace Go.Proofs.Ytephciglcikllaa.Net
open Go.RowKit Disk Zab

theorem size_letter : (Try.prog.info? 37).map (·.size) = some 5 := by kernel_rfl
theorem size_link : (Try.prog.info? 76).map (·.size) = some 4 := by kernel_rfl
set_option maxRecDepth 8000 in
theorem linkOf_any (a b : Ad) (w : World) : Calls Try.prog 36 #[adV a, adV b] w fun e w' => e = .returned (lkV (linkOf a b)) ∧ Below w.heap.size w w' := by
  obtain ⟨ag, an⟩ := a
  obtain ⟨bg, bn⟩ := b
  unfold linkOf
  dsimp only [adV]
  have HB : Hid (∀ x0 x1 y0 y1 z0 z1 z2 z3 : Value, Below w.heap.size w (((w.alloc (.cells #[x0, x1] 34)).alloc (.cells #[y0, y1] 34)).alloc (.cells #[z0, z1, z2, z3] 76))) := fun _ _ _ _ _ _ _ _ => (((Below.refl _ _).alloc (Nat.le_refl _) _).alloc (by simp) _).alloc (by simp; omega) _
  by_cases h1 : bg < ag
  · rw [if_pos (.inl h1)]
    go_enter Try.func36, Try.ntmps36
    go_wp2_with fail
    refine bodyPost_ret (v := lkV (⟨bg, bn⟩, ⟨ag, an⟩)) (by simp [results, Try.results36, go_sem, lkV]) rfl ⟨rfl, HB.out _ _ _ _ _ _ _ _⟩
  · by_cases h2 : bg = ag
    · subst h2
      by_cases h3 : bn < an
      · rw [if_pos (.inr ⟨rfl, h3⟩)]
        go_enter Try.func36, Try.ntmps36
        go_wp2_with fail
        refine bodyPost_ret (v := lkV (⟨bg, bn⟩, ⟨bg, an⟩)) (by simp [results, Try.results36, go_sem, lkV]) rfl ⟨rfl, HB.out _ _ _ _ _ _ _ _⟩
      · rw [if_neg (by omega)]
        go_enter Try.func36, Try.ntmps36
        go_wp2_with fail
        refine bodyPost_ret (v := lkV (⟨bg, an⟩, ⟨bg, bn⟩)) (by simp [results, Try.results36, go_sem, lkV]) rfl ⟨rfl, HB.out _ _ _ _ _ _ _ _⟩
    · rw [if_neg (by omega)]
      have h2' : (bg == ag) = false := beq_eq_false_iff_ne.2 h2
      clear h2
      go_enter Try.func36, Try.ntmps36
      go_wp2_with fail
      refine bodyPost_ret (v := lkV (⟨ag, an⟩, ⟨bg, bn⟩)) (by simp [results, Try.results36, go_sem, lkV]) rfl ⟨rfl, HB.out _ _ _ _ _ _ _ _⟩
section
variable {w0 w : World} {O F : Nat → Prop} {gz : Nat} {As : Option Addr} {cs : Nat} {Ar : Option Addr} {cr gm : Nat} {D : DataW Value} {ps : List Nat} {z : Nt} {N : Nat}
theorem NtM.cells (h : NtM w O F gz As cs Ar cr gm D ps z N) : w.cell? ⟨gz, 0, none⟩ = some (.slice As z.sizes.length cs) ∧ w.cell? ⟨gz, 1, none⟩ = some (.slice Ar z.row.length cr) ∧ w.cell? ⟨gz, 2, none⟩ = some (.map (some gm)) ∧ ∀ i, w.frozen? ⟨gz, i, none⟩ = false := ⟨h.bk.cell 0, h.bk.cell 1, h.bk.cell 2, h.bk.frozen⟩
theorem NtM.below (h : NtM w O F gz As cs Ar cr gm D ps z N) {W : World} (hb : Below w.heap.size w W) : NtM W O F gz As cs Ar cr gm D ps z N := h.out (X := fun _ => False) (Out.of_below hb) fun _ _ q => q
theorem sizes_get (hz : sizesOk z.sizes = true) {g : Int} (h0 : 0 ≤ g) (h1 : g < (z.sizes.length : Int)) : (iv z.sizes)[g.toNat]? = some (.int .i64 (z.sizes.getD g.toNat 0)) ∧ 1 ≤ z.sizes.getD g.toNat 0 ∧ z.sizes.getD g.toNat 0 ≤ 3 := by
  have hl : g.toNat < z.sizes.length := by omega
  have := (sizesOk_iff.1 hz).2.2 _ (List.getElem_mem hl)
  unfold iv
  rw [List.getElem?_map, List.getD_eq_getElem?_getD, List.getElem?_eq_getElem hl]
  exact ⟨rfl, this.1, this.2⟩
set_option maxRecDepth 8000 in
theorem has_any (h : NtM w O F gz As cs Ar cr gm D ps z N) (hz : sizesOk z.sizes = true) (a : Ad) : Calls Try.prog 44 #[.pointer (some ⟨gz, 0, none⟩), adV a] w fun e w' => e = .returned (.bool (z.has a)) ∧ Below w.heap.size w w' := by
  obtain ⟨g, n⟩ := a
  have hl4 : (z.sizes.length : Int) ≤ 4 := by have := (sizesOk_iff.1 hz).2.1; omega
  have hB : Below w.heap.size w (w.alloc (.cells #[.int .i64 g, .int .i64 n] 34)) := (Below.refl _ _).alloc (Nat.le_refl _) _
  obtain ⟨c0, -, -, -⟩ := (h.below hB).cells
  have hbx := Bk.new w 34 #[.int .i64 g, .int .i64 n]
  have b0 := hbx.cell 0
  have b1 := hbx.cell 1
  have hrd := (h.below hB).sz
  obtain ⟨r, hr⟩ : ∃ r, r = z.has ⟨g, n⟩ := ⟨_, rfl⟩
  rw [← hr]
  unfold Nt.has at hr
  dsimp only [adV] at *
  have HB := Lib.hid hB
  have HR := Lib.hid hr
  have HRD := Lib.hid hrd
  clear hB hr hrd hbx
  generalize hw : w.alloc (.cells #[.int .i64 g, .int .i64 n] 34) = W at *
  by_cases h1 : 0 ≤ g
  · by_cases h2 : g < (z.sizes.length : Int)
    · have d2 : decide (g < (z.sizes.length : Int)) = true := decide_eq_true h2
      by_cases h3 : 0 ≤ n
      · obtain ⟨hg1, hg2, hg3⟩ := sizes_get hz h1 h2
        obtain ⟨ad, rfl, hc⟩ := HRD.out.cells (by omega)
        have hcell := hc _ _ hg1
        have HE : Hid (r = decide (n < z.sizes.getD g.toNat 0)) := by
          show _ = _
          rw [HR.out]
          simp [h1, h2, h3]
        clear hc hg1 HRD h hz
        generalize z.sizes.getD g.toNat 0 = s at *
        obtain ⟨k, rfl⟩ : ∃ k : Nat, g = (k : Int) := ⟨g.toNat, by omega⟩
        simp only [Int.toNat_natCast] at hcell
        by_cases h4 : n < s
        · have e : r = true := by rw [HE.out]; simp [h4]
          subst e
          clear HE HR
          go_enter Try.func44, Try.ntmps44
          go_wp2_with fail
          go_quiet (fail)
          go_wp2_with fail
          go_ret
          exact ⟨rfl, below_drewN HB.out _⟩
        · have e : r = false := by rw [HE.out]; simp [h4]
          subst e
          have d4 : decide (n < s) = false := decide_eq_false h4
          clear HE HR
          go_enter Try.func44, Try.ntmps44
          go_wp2_with fail
          go_quiet (fail)
          go_wp2_with fail
          go_ret
          exact ⟨rfl, below_drewN HB.out _⟩
      · have e : r = false := by rw [HR.out]; simp [h3]
        subst e
        have d3 : decide (0 ≤ n) = false := decide_eq_false h3
        clear HR
        go_enter Try.func44, Try.ntmps44
        go_wp2_with fail
        go_quiet (fail)
        go_wp2_with fail
        go_ret
        exact ⟨rfl, below_drewN HB.out _⟩
    · have e : r = false := by rw [HR.out]; simp [h2]
      subst e
      have d2 : decide (g < (z.sizes.length : Int)) = false := decide_eq_false h2
      clear HR
      go_enter Try.func44, Try.ntmps44
      go_wp2_with fail
      go_quiet (fail)
      go_wp2_with fail
      go_ret
      exact ⟨rfl, below_drewN HB.out _⟩
  · have e : r = false := by rw [HR.out]; simp [h1]
    subst e
    have d1 : decide (0 ≤ g) = false := decide_eq_false h1
    clear HR
    go_enter Try.func44, Try.ntmps44
    go_wp2_with fail
    go_quiet (fail)
    go_wp2_with fail
    go_ret
    exact ⟨rfl, below_drewN HB.out _⟩
end
end Go.Proofs.Ytephciglcikllaa.Net
