/- What is done one behind the other, till something is wrong. -/
import Derived.Test.YtikpedkckijioaaLogOpen
namespace Go.Proofs.Ytikpedkckijioaa.Log
open Go.RowKit Disk

/-- A row of closures whose j-th step leads from I j to I (j + 1), or to Bad. -/
structure Does (vs : List Value) (I : Nat → World → Prop) (Bad : Int → World → Prop) : Prop where
  step : ∀ (j : Nat) (v : Value), vs[j]? = some v → ∃ F first caps, v = .func (.func F) first caps ∧ (∀ W, (callFunc F (first ++ caps)).run Try.prog W = .ok (.enter F (first ++ caps)) W) ∧
    ∀ W, I j W → Calls Try.prog F (first ++ caps) W fun e w' => ∃ z : Int, e = .returned (.int .i64 z) ∧ ((z = 0 ∧ I (j + 1) w') ∨ (z ≠ 0 ∧ Bad z w'))
def DoPost (n g : Nat) (I : Nat → World → Prop) (Bad : Int → World → Prop) (e : Ending) (w' : World) : Prop :=
  (e = .returned (.int .i64 0) ∧ I n w') ∨ ∃ z w1, z ≠ 0 ∧ e = .returned (.int .i64 z) ∧ Bad z w1 ∧ w' = w1.setCell ⟨g, 7, none⟩ (.bool true)
def RelDo (n : Nat) (I : Nat → World → Prop) (i : Value) (wr : World) : Prop := ∃ k : Nat, k ≤ n ∧ i = .int .i64 (k : Int) ∧ I k wr
set_option maxRecDepth 100000 in
set_option maxHeartbeats 2000000 in
theorem do_any (w : World) (g : Nat) (stamp t : Nat) (A : Option Addr) (n c : Nat) (vs : List Value) (I : Nat → World → Prop) (Bad : Int → World → Prop) (hd : Does vs I Bad) (hI : I 0 w) (hrow : ∀ j W, I j W → RdV W A n vs) (htop : w.cell? ⟨g, 6, none⟩ = some (.int .u64 (t : Int))) (hst : t < stamp) (hn : n ≤ 100000)
    (hbad : ∀ z W, Bad z W → (∃ b, W.cell? ⟨g, 7, none⟩ = some b) ∧ W.frozen? ⟨g, 7, none⟩ = false) :
    Calls Try.prog 37 #[.pointer (some ⟨g, 0, none⟩), .int .u64 (stamp : Int), .slice A n c] w (DoPost n g I Bad) := by
  have q1 : (stamp ≤ t) = False := eq_false (by omega)
  have HD := Lib.hid hd
  have HI := Lib.hid hI
  have HR := Lib.hid hrow
  have HB := Lib.hid hbad
  clear hd hI hrow hbad
  go_enter Try.func37, Try.ntmps37
  go_wp2_with fail
  go_loopw [18] (fun i wr => RelDo n I i wr) (fun i _ => n - (intOf i).toNat)
  case atStart => exact ⟨0, by omega, rfl, HI.out⟩
  case round =>
    obtain ⟨k, hk, rfl, hi⟩ := hrel
    by_cases hlt : k < n
    · have hr := HR.out k wr hi
      obtain ⟨ad, rfl, hc⟩ := hr.cells (by omega)
      have hkl : k < vs.length := by rw [hr.len]; exact hlt
      have hv : vs[k]? = some vs[k] := List.getElem?_eq_getElem hkl
      have hcell := hc k _ hv
      obtain ⟨F, first, caps, he, hcf, hstep⟩ := HD.out.step k _ hv
      rw [he] at hcell
      have HS := Lib.hid (hstep wr hi)
      have hcf2 := hcf wr
      clear hr hc hv he hstep hi hcf
      go_wp2_with fail
      refine HS.out.mono ?_
      rintro e w2 ⟨z, rfl, hz⟩
      clear hcf2 hcell HS
      rcases hz with ⟨rfl, hi⟩ | ⟨hz, hbd⟩
      · have HII := Lib.hid hi
        clear hi
        go_wp2_with fail
        exact ⟨⟨k + 1, by omega, rfl, HII.out⟩, by simp [intOf]; omega⟩
      · obtain ⟨⟨b7, c7⟩, f7⟩ := HB.out z w2 hbd
        have HBB := Lib.hid hbd
        have HZ := Lib.hid hz
        clear hbd
        go_wp2_with fail
        go_ret
        exact Or.inr ⟨z, w2, HZ.out, rfl, HBB.out, rfl⟩
    · obtain rfl : k = n := by omega
      have HII := Lib.hid hi
      clear hi
      go_wp2_with fail
      go_ret
      exact Or.inl ⟨rfl, HII.out⟩
end Go.Proofs.Ytikpedkckijioaa.Log
