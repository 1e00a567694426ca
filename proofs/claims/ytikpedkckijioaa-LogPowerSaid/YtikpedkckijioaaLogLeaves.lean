/- Rows of leaves; a head's stamp; the record that leaves begin with; its bytes. -/
import Derived.Test.YtikpedkckijioaaLogEnds
namespace Go.Proofs.Ytikpedkckijioaa.Log
open Go.RowKit Disk

abbrev Lf := Nat × Nat × Nat × List UInt8
theorem says_bounds {p : List UInt8} {s a o : Nat} {b : List UInt8} (h : says p = some (s, a, o, b)) : s < 18446744073709551616 ∧ a < 65536 ∧ o < 65536 ∧ b.length ≤ 480 ∧ 0 < s := by
  have h1 := says_some h
  have h2 := says_short h
  unfold says at h
  split at h
  · cases h
  · split at h
    · injection h with h
      injection h with e1 h
      injection h with e2 h
      injection h with e3 e4
      have t1 := num_two (p.drop 8)
      have t2 := num_two (p.drop 10)
      exact ⟨h2.2, by omega, by omega, h2.1, h1.2.2⟩
    · cases h
theorem leafF_some {p : List UInt8} {s a o : Nat} {b : List UInt8} (h : says p = some (s, a, o, b)) : leafF p = (s, a, o, b) := by unfold leafF; rw [h]; rfl
theorem leafF_none {p : List UInt8} (h : says p = none) : leafF p = (0, 0, 0, []) := by unfold leafF; rw [h]; rfl
theorem leafF_bounds (p : List UInt8) : (leafF p).1 < 18446744073709551616 ∧ (leafF p).2.1 < 65536 ∧ (leafF p).2.2.1 < 65536 ∧ (leafF p).2.2.2.length ≤ 480 := by
  cases h : says p with
  | none => rw [leafF_none h]; decide
  | some x =>
    obtain ⟨s, a, o, b⟩ := x
    rw [leafF_some h]
    have := says_bounds h
    exact ⟨this.1, this.2.1, this.2.2.1, this.2.2.2.1⟩
theorem leafF_pos {p : List UInt8} (h : 0 < (leafF p).1) : says p = some (leafF p) := by
  cases hs : says p with
  | none => rw [leafF_none hs] at h; exact absurd h (by decide)
  | some x => obtain ⟨s, a, o, b⟩ := x; rw [leafF_some hs]

/-- A row of leaves. -/
structure LvS (W : World) (B o n : Nat) (fs : List Lf) : Prop where
  len : fs.length = n
  at_ : ∀ (j : Nat) (f : Lf), fs[j]? = some f → ∃ A m c, m ≤ c ∧ Rd W A m f.2.2.2 ∧ W.cell? ⟨B, o + j * 4, none⟩ = some (.int .u64 (f.1 : Int)) ∧ W.cell? ⟨B, o + j * 4 + 1, none⟩ = some (.int .u16 (f.2.1 : Int)) ∧ W.cell? ⟨B, o + j * 4 + 2, none⟩ = some (.int .u16 (f.2.2.1 : Int)) ∧ W.cell? ⟨B, o + j * 4 + 3, none⟩ = some (.slice A m c)
theorem LvS.below {W W' : World} {B o n : Nat} {fs : List Lf} (h : LvS W B o n fs) (hb : Below W.heap.size W W') : LvS W' B o n fs :=
  ⟨h.len, fun j f hj => by
    obtain ⟨A, m, c, h0, h1, c0, c1, c2, c3⟩ := h.at_ j f hj
    have k := fun (i : Nat) (v : Value) (hc : W.cell? ⟨B, i, none⟩ = some v) => (hb.cell (World.block_lt_of_cell? W _ hc)).trans hc
    exact ⟨A, m, c, h0, h1.below hb, k _ _ c0, k _ _ c1, k _ _ c2, k _ _ c3⟩⟩
theorem LvS.drop {W : World} {B o n : Nat} {fs : List Lf} (h : LvS W B o n fs) (k : Nat) (_hk : k ≤ n) : LvS W B (o + k * 4) (n - k) (fs.drop k) :=
  ⟨by rw [List.length_drop, h.len], fun j f hj => by
    rw [List.getElem?_drop] at hj
    obtain ⟨A, m, c, h0, h1, c0, c1, c2, c3⟩ := h.at_ (k + j) f hj
    have e : o + (k + j) * 4 = o + k * 4 + j * 4 := by omega
    rw [e] at c0 c1 c2 c3
    exact ⟨A, m, c, h0, h1, c0, c1, c2, c3⟩⟩
theorem LvS.take {W : World} {B o n : Nat} {fs : List Lf} (h : LvS W B o n fs) (k : Nat) (hk : k ≤ n) : LvS W B o k (fs.take k) :=
  ⟨by rw [List.length_take, h.len]; omega, fun j f hj => by
    rw [List.getElem?_take] at hj
    split at hj
    · exact h.at_ j f hj
    · cases hj⟩
/-- A head's stamp. -/
def headS (f : Lf) : Nat := if f.2.1 = 0 ∧ f.2.2.1 = 0 ∧ f.2.2.2 = [] then f.1 else 0
set_option maxRecDepth 100000 in
set_option maxHeartbeats 1000000 in
theorem headStamp_any (s a o n c : Nat) (A : Option Addr) (b : List UInt8) (w : World) (hb : b.length = n) (_hs : s < 18446744073709551616) (ha : a < 65536) (ho : o < 65536) (hn : n ≤ 480) :
    Calls Try.prog 55 #[.agg #[.int .u64 (s : Int), .int .u16 (a : Int), .int .u16 (o : Int), .slice A n c]] w fun e w' => e = .returned (.int .u64 (headS (s, a, o, b) : Int)) ∧ Below w.heap.size w w' := by
  have HB : Hid (Below w.heap.size w (w.alloc (.cells #[.int .u64 (s : Int), .int .u16 (a : Int), .int .u16 (o : Int), .slice A n c] 79))) := (Below.refl _ _).alloc (Nat.le_refl _) _
  have HL : Hid (b.length = n) := hb
  unfold headS
  dsimp only
  by_cases h1 : a = 0
  · subst h1
    by_cases h2 : o = 0
    · subst h2
      by_cases h3 : n = 0
      · have : b = [] := List.eq_nil_of_length_eq_zero (by rw [HL.out]; exact h3)
        rw [if_pos ⟨rfl, rfl, this⟩]
        subst h3
        clear this hb HL
        go_enter Try.func55, Try.ntmps55
        go_wp2_with fail
        go_ret
        exact ⟨rfl, HB.out⟩
      · have hne : ¬ (b = []) := fun h => h3 (by rw [← HL.out, h]; rfl)
        rw [if_neg (fun h => hne h.2.2)]
        have g1 : decide ((0 : Int) < (n : Int)) = true := decide_eq_true (by omega)
        clear hb HL hne
        go_enter Try.func55, Try.ntmps55
        go_wp2_with fail
        go_ret
        exact ⟨rfl, HB.out⟩
    · rw [if_neg (fun h => h2 h.2.1)]
      have g1 : ¬ ((o : Int) = 0) := by omega
      clear hb HL
      go_enter Try.func55, Try.ntmps55
      go_wp2_with fail
      go_ret
      exact ⟨rfl, HB.out⟩
  · rw [if_neg (fun h => h1 h.1)]
    have g1 : ¬ ((a : Int) = 0) := by omega
    clear hb HL
    go_enter Try.func55, Try.ntmps55
    go_wp2_with fail
    go_ret
    exact ⟨rfl, HB.out⟩
end Go.Proofs.Ytikpedkckijioaa.Log
