/- net's Cuts; a copy of a letter. -/
import Derived.Test.YtephciglcikllaaNetCode2
namespace Go.Proofs.Ytephciglcikllaa.Net
open Go.RowKit Disk Zab

theorem ty_cuts : Try.prog.underlying 66 = some (.map 76 4) := by kernel_rfl
theorem zero_bool (w : World) : (zeroValue 4).run Try.prog w = .ok (.bool false) w := by kernel_rfl
section
variable {w0 w : World} {O F : Nat → Prop} {gz : Nat} {As : Option Addr} {cs : Nat} {Ar : Option Addr} {cr gm : Nat} {D : DataW Value} {ps : List Nat} {z : Nt} {N : Nat}
theorem NtM.look (h : NtM w O F gz As cs Ar cr gm D ps z N) {a b : Ad} (ha : a.Wf) (hb : b.Wf) : (Instr.lookup 66 (.map (some gm)) (lkV (linkOf a b)) false).run Try.prog w = .ok (.bool (z.cuts a b)) w := by
  have := (h.map.look ty_cuts (zero_bool w) (linkOf a b) (linkOf_wf ha hb)).1
  rw [cutV_get] at this
  exact this
def S4 (gz gm b1 b2 : Nat) (a b : Ad) (v : Bool) (V : World) : Prop := V.cell? ⟨gz, 2, none⟩ = some (.map (some gm)) ∧ V.cell? ⟨b1, 0, none⟩ = some (.int .i64 a.g) ∧ V.cell? ⟨b1, 1, none⟩ = some (.int .i64 a.n) ∧ V.cell? ⟨b2, 0, none⟩ = some (.int .i64 b.g) ∧ V.cell? ⟨b2, 1, none⟩ = some (.int .i64 b.n) ∧ (Instr.lookup 66 (.map (some gm)) (lkV (linkOf a b)) false).run Try.prog V = .ok (.bool v) V
set_option maxRecDepth 8000 in
set_option maxHeartbeats 1000000 in
theorem Cuts_any (h : NtAt w0 w O gz z N) {a b : Ad} (ha : a.Wf) (hb : b.Wf) : Calls Try.prog 19 #[.pointer (some ⟨gz, 0, none⟩), adV a, adV b] w fun e w' => e = .returned (.bool (z.cuts a b)) ∧ Below w.heap.size w w' := by
  obtain ⟨hok, _, _, F, As, cs, Ar, cr, gm, D, ps, hm⟩ := h
  have hB : Below w.heap.size w ((w.alloc (.cells #[.int .i64 a.g, .int .i64 a.n] 34)).alloc (.cells #[.int .i64 b.g, .int .i64 b.n] 34)) := ((Below.refl _ _).alloc (Nat.le_refl _) _).alloc (by simp) _
  have B1 := (Bk.new w 34 #[.int .i64 a.g, .int .i64 a.n]).alloc (.cells #[.int .i64 b.g, .int .i64 b.n] 34)
  have B2 : Bk ((w.alloc (.cells #[.int .i64 a.g, .int .i64 a.n] 34)).alloc (.cells #[.int .i64 b.g, .int .i64 b.n] 34)) (w.heap.size + 1) 34 #[.int .i64 b.g, .int .i64 b.n] := by simpa using Bk.new (w.alloc (.cells #[.int .i64 a.g, .int .i64 a.n] 34)) 34 #[.int .i64 b.g, .int .i64 b.n]
  have CL := Lib.hid (linkOf_any a b)
  have HB := Lib.hid hB
  have HM := Lib.hid (hm.below hB)
  clear hB hm
  obtain ⟨v, hv⟩ : ∃ v, v = z.cuts a b := ⟨_, rfl⟩
  rw [← hv]
  unfold adV at CL ⊢
  have HC : Hid (∀ V, Below ((w.alloc (.cells #[.int .i64 a.g, .int .i64 a.n] 34)).alloc (.cells #[.int .i64 b.g, .int .i64 b.n] 34)).heap.size ((w.alloc (.cells #[.int .i64 a.g, .int .i64 a.n] 34)).alloc (.cells #[.int .i64 b.g, .int .i64 b.n] 34)) V → S4 gz gm w.heap.size (w.heap.size + 1) a b v V) := fun V hV =>
    ⟨(HM.out.below hV).cells.2.2.1, (B1.below hV).cell 0, (B1.below hV).cell 1, (B2.below hV).cell 0, (B2.below hV).cell 1, by rw [hv]; exact (HM.out.below hV).look ha hb⟩
  clear HM B1 B2 hv hok
  generalize hw : (w.alloc (.cells #[.int .i64 a.g, .int .i64 a.n] 34)).alloc (.cells #[.int .i64 b.g, .int .i64 b.n] 34) = W at *
  have HSD := Lib.hid (HC.out W.drew (below_drewN (Below.refl _ W) 1))
  have HSW := Lib.hid (HC.out W (Below.refl _ W))
  obtain ⟨k1, k2, k3, k4, k5, -⟩ := HSW.out
  unfold S4 at HC HSD
  go_enter Try.func19, Try.ntmps19
  go_wp2_with fail
  go_region_held3 (fun V => V.cell? ⟨gz, 2, none⟩ = some (.map (some gm)) ∧ V.cell? ⟨w.heap.size, 0, none⟩ = some (.int .i64 a.g) ∧ V.cell? ⟨w.heap.size, 1, none⟩ = some (.int .i64 a.n) ∧ V.cell? ⟨w.heap.size + 1, 0, none⟩ = some (.int .i64 b.g) ∧ V.cell? ⟨w.heap.size + 1, 1, none⟩ = some (.int .i64 b.n) ∧ (Instr.lookup 66 (.map (some gm)) (lkV (linkOf a b)) false).run Try.prog V = .ok (.bool v) V)
    (first | (with_reducible assumption) | (with_reducible exact HSD.out) | (with_reducible exact HS1.out))
    (first | (go_at_call 36; (with_reducible refine (CL.out _).mono ?_); rintro e w1 ⟨rfl, hb1⟩; have HB1 := Lib.hid ((below_drewN (Below.refl _ W) 1).trans (hb1.mono (Nat.le_refl _))); have HS1 := Lib.hid (HC.out w1 HB1.out); clear hb1))
  go_wp2_with fail
  go_ret
  exact ⟨rfl, HB.out.trans (HB1.out.mono HB.out.size)⟩
set_option maxRecDepth 8000 in
theorem Cuts_nil (a b : Ad) (w : World) : Calls Try.prog 19 #[.pointer none, adV a, adV b] w fun e w' => e = .returned (.bool false) ∧ Below w.heap.size w w' := by
  have HB := Lib.hid (((Below.refl w.heap.size w).alloc (Nat.le_refl _) (.cells #[.int .i64 a.g, .int .i64 a.n] 34)).alloc (by simp) (.cells #[.int .i64 b.g, .int .i64 b.n] 34))
  unfold adV
  go_enter Try.func19, Try.ntmps19
  go_wp2_with fail
  go_quiet (fail)
  go_wp2_with fail
  go_ret
  exact ⟨rfl, below_drewN HB.out _⟩
end
end Go.Proofs.Ytephciglcikllaa.Net
