/- The two numbers of a page; a head's stamp. (Written by gen/logends.py.) -/
import Derived.Test.YtikpedkckijioaaLogLeafOf
namespace Go.Proofs.Ytikpedkckijioaa.Log
open Go.RowKit Disk
open PhaseG (wp_region_own Took)
open Phase (stepsL_cons stepsL_nil)

theorem rd_out {W W' : World} {A : Option Addr} {n : Nat} {bs : List UInt8} {Z : Nat → Prop} (h : Rd W A n bs) (ho : Out Z W W') (hz : ∀ b, Z b → ∃ t cs, Bk W b t cs ∧ ∀ (i : Nat) (y : UInt8), cs[i]? ≠ some (U y)) : Rd W' A n bs :=
  ⟨h.len, fun h0 => by
    obtain ⟨ad, e, hc⟩ := h.cells h0
    refine ⟨ad, e, fun j b hb => ?_⟩
    have h1 := hc j b hb
    refine (ho.cell (World.block_lt_of_cell? W _ h1) fun hZ => ?_).trans h1
    obtain ⟨t, cs, hk, hn⟩ := hz _ hZ
    exact cell_ne_block hk hn h1 rfl⟩
theorem rdr_out {W W' : World} {r : Nat} {s : List UInt8 × Bool} {Z : Nat → Prop} (h : Rdr W r s) (ho : Out Z W W') (hr : ¬ Z r) (hz : ∀ b, Z b → ∃ s', Rdr W b s') : Rdr W' r s := by
  obtain ⟨A, n, c, hk, h1, h2, h3⟩ := h
  refine ⟨A, n, c, hk.kept (ho.block r hk.lt hr), h1, h2, rd_out h3 ho fun b hb => ?_⟩
  obtain ⟨s', A', n', c', hk', _⟩ := hz b hb
  exact ⟨_, _, hk', rdr_nobyte _ _ _ _⟩
theorem rdr_lt {W : World} {r : Nat} {s : List UInt8 × Bool} (h : Rdr W r s) : r < W.heap.size := by
  obtain ⟨A, n, c, hk, _⟩ := h
  exact hk.lt
theorem out_of_grown {W W' : World} {r : Nat} {Z : Nat → Prop} (h : W.grownBy W' (some r)) (hz : Z r) : Out Z W W' :=
  ⟨h.os, h.tape, h.output, h.size, fun k hk hZ => h.block k hk (fun e => by injection e with e; exact hZ (e ▸ hz))⟩
def conE : Nat → Option Nat
  | 2 => some 1
  | 6 => some 5
  | _ => none
def RE (_w : World) (ad : Addr) (c : Nat) (p : List UInt8) : Nat → Value → World → Prop
  | 0, x, _ => x = .slice (some ad) 512 c
  | 1, x, W => ∃ r, x = .pointer (some ⟨r, 0, none⟩) ∧ Rdr W r (p, false)
  | 2, x, _ => x = .int .u64 (first8 p : Int)
  | 3, x, _ => x = .slice (some ad) 512 c
  | 4, x, _ => x = .slice (some (ad.add 504)) 8 (c - 504)
  | 5, x, W => ∃ r, x = .pointer (some ⟨r, 0, none⟩) ∧ Rdr W r (p.drop 504, false)
  | 6, x, _ => x = .int .u64 (last8 p : Int)
  | 7, x, _ => x = .int .u64 ((max (first8 p) (last8 p) : Nat) : Int)
  | 8, x, _ => x = .int .u64 ((max (first8 p) (last8 p) : Nat) : Int)
  | _, _, _ => True
def OE : Nat → Value → Nat → Prop
  | 1, x, b => x = .pointer (some ⟨b, 0, none⟩)
  | 5, x, b => x = .pointer (some ⟨b, 0, none⟩)
  | _, _, _ => False
theorem OE.rdr {w : World} {ad : Addr} {c : Nat} {p : List UInt8} {W : World} {k b : Nat} {x : Value} (h : RE w ad c p k x W) (ho : OE k x b) : ∃ s, Rdr W b s := by
  match k, h, ho with
  | 1, ⟨r, e, h⟩, ho =>
    have ho : x = .pointer (some ⟨b, 0, none⟩) := ho
    rw [e] at ho
    injection ho with ho
    injection ho with ho
    injection ho with ho
    exact ⟨_, ho ▸ h⟩
  | 5, ⟨r, e, h⟩, ho =>
    have ho : x = .pointer (some ⟨b, 0, none⟩) := ho
    rw [e] at ho
    injection ho with ho
    injection ho with ho
    injection ho with ho
    exact ⟨_, ho ▸ h⟩
theorem RE.out {w : World} {ad : Addr} {c : Nat} {p : List UInt8} (k : Nat) (x : Value) (Z : Nat → Prop) (W W' : World) (h : RE w ad c p k x W) (ho : Out Z W W') (hz : ∀ b, Z b → ∃ k' x', RE w ad c p k' x' W ∧ OE k' x' b) (hn : ∀ b, OE k x b → ¬ Z b) : RE w ad c p k x W' := by
  have hz' : ∀ b, Z b → ∃ s, Rdr W b s := fun b hb => by
    obtain ⟨k', x', h1, h2⟩ := hz b hb
    exact OE.rdr h1 h2
  match k, h with
  | 0, h => exact h
  | 1, ⟨r, e, h⟩ => exact ⟨r, e, rdr_out h ho (hn r e) hz'⟩
  | 2, h => exact h
  | 3, h => exact h
  | 4, h => exact h
  | 5, ⟨r, e, h⟩ => exact ⟨r, e, rdr_out h ho (hn r e) hz'⟩
  | 6, h => exact h
  | 7, h => exact h
  | 8, h => exact h
  | _ + 9, _ => trivial
theorem last8_lt (p : List UInt8) (hp : p.length = 512) : last8 p < 18446744073709551616 := by
  have h := num_lt (p.drop 504)
  rw [List.length_drop, hp] at h
  exact h
set_option maxRecDepth 100000 in
set_option maxHeartbeats 2000000 in
theorem endsOf_any (A : Option Addr) (c : Nat) (p : List UInt8) (w : World) (h : Rd w A 512 p) (hc : 512 ≤ c) : Calls Try.prog 31 #[.slice A 512 c] w fun e w' => e = .returned (.int .u64 ((max (first8 p) (last8 p) : Nat) : Int)) ∧ Below w.heap.size w w' := by
  obtain ⟨ad, rfl, -⟩ := h.cells (by omega)
  have HR : Hid (∀ W, Below w.heap.size w W → Rd W (some ad) 512 p) := fun W hW => h.below hW
  have HD : Hid (∀ W, Below w.heap.size w W → Rd W (some (ad.add 504)) 8 (p.drop 504)) := fun W hW => by
    have := (h.below hW).drop (k := 504) (c := c) (by omega) hc
    rw [if_neg (by omega)] at this
    exact this
  have HP : Hid (p.length = 512) := h.len
  have HC := Lib.hid hc
  clear h hc
  go_enter Try.func31, Try.ntmps31
  go_wp2_with fail
  refine wp_region_own conE (RE w ad c p) OE (by kernel_rfl) (by kernel_rfl) (by kernel_rfl) (by kernel_rfl) ?_ ?_ (fun v => { tmps := #[.slice (some ad) 512 c, undef, v 8, v 0, v 1, v 2, v 3, v 4, v 5, v 6, v 7], defers := [] }) (fun v => by kernel_rfl) ?_
  · intro k x Z W W' hx hb ho hzw hz hn
    exact RE.out _ _ _ _ _ hx ho hz hn
  · refine stepsL_cons ?_ (stepsL_cons ?_ (stepsL_cons ?_ (stepsL_cons ?_ (stepsL_cons ?_ (stepsL_cons ?_ (stepsL_cons ?_ (stepsL_cons ?_ (stepsL_cons ?_ (stepsL_nil)))))))))
    · intro a v W hd hb K hK
      have k0 : a.tmps.getD 0 undef = .slice (some ad) 512 c := hd.kept 0 (by kernel_rfl)
      have hk := hK (.slice (some ad) 512 c) W (Out.refl _ _) rfl (fun b hob => False.elim hob)
      clear hK
      unfold Oper.wp
      go_simp
      exact hk
    · intro a v W hd hb K hK
      obtain ⟨h3, r3⟩ := hd.done_ 0 _ 3 (by kernel_rfl) rfl rfl (by kernel_rfl)
      have r3 : v 0 = .slice (some ad) 512 c := r3
      rw [r3] at h3
      have cw := rNew_any _ 512 c (p) W (HR.out W hb) (by omega)
      have hk := hK
      clear hK
      unfold Oper.wp
      go_simp
      refine cw.mono ?_
      rintro e W' ⟨r, rfl, hr, hrd, hbw⟩
      refine hk _ W' (Out.of_below hbw) ⟨r, rfl, hrd⟩ fun b hob => ?_
      have hob : Value.pointer (some ⟨r, 0, none⟩) = .pointer (some ⟨b, 0, none⟩) := hob
      injection hob with hob
      injection hob with hob
      injection hob with hob
      rw [← hob]
      exact ⟨rdr_lt hrd, Or.inl hr⟩
    · intro a v W hd hb K hK
      obtain ⟨h4, r4⟩ := hd.done_ 1 _ 4 (by kernel_rfl) rfl rfl (by kernel_rfl)
      obtain ⟨q1, e1, d1⟩ := r4
      rw [e1] at h4
      have cw := rUint_any q1 (p, false) W d1
      rw [takeS_yes (by have := HP.out; omega), val_num] at cw
      have hk := hK
      clear hK
      unfold Oper.wp
      go_simp
      refine cw.mono ?_
      rintro e W' ⟨rfl, hrd, hgr⟩
      refine hk _ W' (out_of_grown hgr ⟨1, rfl, e1⟩) ?_ fun b hob => False.elim hob
      exact rfl
    · intro a v W hd hb K hK
      have k0 : a.tmps.getD 0 undef = .slice (some ad) 512 c := hd.kept 0 (by kernel_rfl)
      have hk := hK (.slice (some ad) 512 c) W (Out.refl _ _) rfl (fun b hob => False.elim hob)
      clear hK
      unfold Oper.wp
      go_simp
      exact hk
    · intro a v W hd hb K hK
      obtain ⟨h6, r6⟩ := hd.done_ 3 _ 6 (by kernel_rfl) rfl rfl (by kernel_rfl)
      have r6 : v 3 = .slice (some ad) 512 c := r6
      rw [r6] at h6
      have hk := hK (.slice (some (ad.add 504)) 8 (c - 504)) W (Out.refl _ _) rfl (fun b hob => False.elim hob)
      clear hK
      have g1 : (504 : Int) ≤ 512 := by omega
      have g2 : ((c - 504 : Nat) : Int) = (c : Int) - 504 := by have := HC.out; omega
      have g3 : ¬ (c = 504) := by have := HC.out; omega
      have g4 : (512 : Int) ≤ (c : Int) := by have := HC.out; omega
      have g5 : (c - 504 = 0) = False := by have := HC.out; exact eq_false (by omega)
      have g6 : ¬ (c ≤ 504) := by have := HC.out; omega
      have g7 : 512 ≤ c := HC.out
      unfold Oper.wp
      go_simp
      exact hk
    · intro a v W hd hb K hK
      obtain ⟨h7, r7⟩ := hd.done_ 4 _ 7 (by kernel_rfl) rfl rfl (by kernel_rfl)
      have r7 : v 4 = .slice (some (ad.add 504)) 8 (c - 504) := r7
      rw [r7] at h7
      have cw := rNew_any _ 8 (c - 504) (p.drop 504) W (HD.out W hb) (by omega)
      have hk := hK
      clear hK
      unfold Oper.wp
      go_simp
      refine cw.mono ?_
      rintro e W' ⟨r, rfl, hr, hrd, hbw⟩
      refine hk _ W' (Out.of_below hbw) ⟨r, rfl, hrd⟩ fun b hob => ?_
      have hob : Value.pointer (some ⟨r, 0, none⟩) = .pointer (some ⟨b, 0, none⟩) := hob
      injection hob with hob
      injection hob with hob
      injection hob with hob
      rw [← hob]
      exact ⟨rdr_lt hrd, Or.inl hr⟩
    · intro a v W hd hb K hK
      obtain ⟨h8, r8⟩ := hd.done_ 5 _ 8 (by kernel_rfl) rfl rfl (by kernel_rfl)
      obtain ⟨q5, e5, d5⟩ := r8
      rw [e5] at h8
      have cw := rUint_any q5 (p.drop 504, false) W d5
      rw [takeS_yes (by rw [List.length_drop]; have := HP.out; omega), val_num] at cw
      have hk := hK
      clear hK
      unfold Oper.wp
      go_simp
      refine cw.mono ?_
      rintro e W' ⟨rfl, hrd, hgr⟩
      refine hk _ W' (out_of_grown hgr ⟨5, rfl, e5⟩) ?_ fun b hob => False.elim hob
      show Value.int .u64 _ = _
      rw [List.take_of_length_le (by rw [List.length_drop]; have := HP.out; omega)]
      rfl
    · intro a v W hd hb K hK
      obtain ⟨h5, r5⟩ := hd.done_ 2 _ 5 (by kernel_rfl) rfl rfl (by kernel_rfl)
      have r5 : v 2 = .int .u64 (first8 p : Int) := r5
      rw [r5] at h5
      obtain ⟨h9, r9⟩ := hd.done_ 6 _ 9 (by kernel_rfl) rfl rfl (by kernel_rfl)
      have r9 : v 6 = .int .u64 (last8 p : Int) := r9
      rw [r9] at h9
      have hk := hK (.int .u64 ((max (first8 p) (last8 p) : Nat) : Int)) W (Out.refl _ _) rfl (fun b hob => False.elim hob)
      clear hK
      have g1 : ((max (first8 p) (last8 p) : Nat) : Int) = max (first8 p : Int) (last8 p : Int) := by omega
      rw [g1] at hk
      clear g1
      generalize (first8 p : Int) = x1 at *
      generalize (last8 p : Int) = x2 at *
      unfold Oper.wp
      go_simp
      exact hk
    · intro a v W hd hb K hK
      obtain ⟨h10, r10⟩ := hd.done_ 7 _ 10 (by kernel_rfl) rfl rfl (by kernel_rfl)
      have r10 : v 7 = .int .u64 ((max (first8 p) (last8 p) : Nat) : Int) := r10
      rw [r10] at h10
      have hk := hK (.int .u64 ((max (first8 p) (last8 p) : Nat) : Int)) W (Out.refl _ _) rfl (fun b hob => False.elim hob)
      clear hK
      unfold Oper.wp
      go_simp
      exact hk
  · intro v w1 hb1 hv
    have v8 : v 8 = .int .u64 ((max (first8 p) (last8 p) : Nat) : Int) := hv 8 (by decide) (fun j _ hc => by
      match j, hc with
      | 2, hc => cases hc
      | 6, hc => cases hc)
    rw [v8]
    clear hv v8
    go_wp2_with fail
    go_ret
    exact ⟨rfl, hb1⟩
end Go.Proofs.Ytikpedkckijioaa.Log
