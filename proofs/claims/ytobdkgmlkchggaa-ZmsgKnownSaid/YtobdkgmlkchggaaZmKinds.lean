/- What each kind of message has: the map of bounds, made anew at each call; the closure that seeks. -/
import Derived.Test.YtobdkgmlkchggaaZmPure
import Derived.Maps.Own
import Derived.Maps.Keyed
import Derived.Maps.Views
namespace Go.Proofs.Ytobdkgmlkchggaa.Zm
open Go.RowKit Sto

theorem ty_kind : Try.prog.underlying 5 = some (.int .u8) := by kernel_rfl
theorem ty_kinds : Try.prog.underlying 63 = some (.map 5 61) := by kernel_rfl
/-- Bounds, as a value: the greatest Current, At, Commit, number of lines. -/
def bdV (b : Nat × Nat × Nat × Nat) : Value := .agg #[.int .u64 (b.1 : Int), .int .u64 (b.2.1 : Int), .int .u64 (b.2.2.1 : Int), .int .u64 (b.2.2.2 : Int)]
theorem zero_bounds (w : World) : (zeroValue 61).run Try.prog w = .ok (bdV (0, 0, 0, 0)) w := by kernel_rfl
abbrev Bd := Int × Int × Int × Int
/-- How bounds are read: as four numbers. -/
def fB (v : Value) : Option (DataW Bd × List MemPlace) := match v with
  | .agg cs => match cs.toList with
    | [.int .u64 a, .int .u64 b, .int .u64 c, .int .u64 d] => some (.held (a, b, c, d), [])
    | _ => none
  | _ => none
theorem fB_inv {v : Value} {b : Nat × Nat × Nat × Nat} {ps : List MemPlace} (h : fB v = some (.held ((b.1 : Int), (b.2.1 : Int), (b.2.2.1 : Int), (b.2.2.2 : Int)), ps)) : v = bdV b := by
  unfold fB at h
  split at h
  · next cs =>
    split at h
    · next e =>
      simp only [Option.some.injEq, Prod.mk.injEq, DataW.held.injEq] at h
      obtain ⟨⟨rfl, rfl, rfl, rfl⟩, -⟩ := h
      unfold bdV
      congr 1
      rw [← Array.toList_inj]
      exact e
    · cases h
  · cases h
theorem key_kind (k : Int) (hw : (Lit.int .u8 k).wf = true) : keyOf Try.prog 5 (.int .u8 k) = some (.int .u8 k) := Go.Maps.keyOf_int_mk ty_kind hw
def hd (a b c d : Int) : DataW Bd := .held (a, b, c, d)
def kindsD : DataW Bd := (((((((DataW.map [] : DataW Bd)).put (.int .u8 1) (hd 0 0 0 0)).put (.int .u8 2) (hd 281474976710656 0 0 256)).put (.int .u8 3) (hd 0 0 0 0)).put (.int .u8 4) (hd 0 0 0 256)).put (.int .u8 5) (hd 0 256 256 256)).put (.int .u8 6) (hd 0 256 0 0)
/-- What a kind has; whether there is such a kind. -/
def hasK (k : Nat) : Nat × Nat × Nat × Nat := if k = 2 then (top, 0, 0, 256) else if k = 4 then (0, 0, 0, 256) else if k = 5 then (0, 256, 256, 256) else if k = 6 then (0, 256, 0, 0) else (0, 0, 0, 0)
def isK (k : Nat) : Bool := decide (1 ≤ k) && decide (k ≤ 6)
theorem kinds_at (k : Nat) (h1 : 1 ≤ k) (h6 : k ≤ 6) (z : DataW Bd) : kindsD.atKey (.int .u8 (k : Int)) z = .held (((hasK k).1 : Int), ((hasK k).2.1 : Int), ((hasK k).2.2.1 : Int), ((hasK k).2.2.2 : Int)) := by
  obtain rfl | rfl | rfl | rfl | rfl | rfl : k = 1 ∨ k = 2 ∨ k = 3 ∨ k = 4 ∨ k = 5 ∨ k = 6 := by omega
  all_goals kernel_rfl
theorem kinds_none (k : Nat) (h : ¬ (1 ≤ k ∧ k ≤ 6)) (z : DataW Bd) : kindsD.atKey (.int .u8 (k : Int)) z = z := by
  have hne : ∀ j : Int, 1 ≤ j → j ≤ 6 → (Lit.int .u8 (k : Int)) ≠ .int .u8 j := by
    intro j h1 h2 e
    injection e with _ e
    omega
  unfold kindsD
  rw [Go.Maps.atKey_put_other (hne 6 (by omega) (by omega)), Go.Maps.atKey_put_other (hne 5 (by omega) (by omega)), Go.Maps.atKey_put_other (hne 4 (by omega) (by omega)), Go.Maps.atKey_put_other (hne 3 (by omega) (by omega)), Go.Maps.atKey_put_other (hne 2 (by omega) (by omega)), Go.Maps.atKey_put_other (hne 1 (by omega) (by omega))]
  rfl
set_option maxRecDepth 100000 in
set_option maxHeartbeats 1000000 in
theorem kinds_own (w : World) : Calls Try.prog 37 #[] w fun e w' => ∃ b, e = .returned (.map (some b)) ∧ w.heap.size ≤ b ∧ Below w.heap.size w w' ∧ w'.ownsMap Try.prog 5 fB b 6 kindsD := by
  have hmm := @run_makeMap Try.prog
  obtain ⟨w1, hr1, ho1, hg1⟩ := (World.ownsMap_made w Try.prog 5 fB).update (Go.Maps.int_keyed ty_kind) ty_kinds (by unfold maxLen; omega) (key_kind 1 (by decide)) (val := .agg #[.int .u64 0, .int .u64 0, .int .u64 0, .int .u64 0]) (d := hd 0 0 0 0) (ps := []) rfl
  obtain ⟨w2, hr2, ho2, hg2⟩ := ho1.update (Go.Maps.int_keyed ty_kind) ty_kinds (by unfold maxLen; omega) (key_kind 2 (by decide)) (val := .agg #[.int .u64 281474976710656, .int .u64 0, .int .u64 0, .int .u64 256]) (d := hd 281474976710656 0 0 256) (ps := []) rfl
  obtain ⟨w3, hr3, ho3, hg3⟩ := ho2.update (Go.Maps.int_keyed ty_kind) ty_kinds (by unfold maxLen; omega) (key_kind 3 (by decide)) (val := .agg #[.int .u64 0, .int .u64 0, .int .u64 0, .int .u64 0]) (d := hd 0 0 0 0) (ps := []) rfl
  obtain ⟨w4, hr4, ho4, hg4⟩ := ho3.update (Go.Maps.int_keyed ty_kind) ty_kinds (by unfold maxLen; omega) (key_kind 4 (by decide)) (val := .agg #[.int .u64 0, .int .u64 0, .int .u64 0, .int .u64 256]) (d := hd 0 0 0 256) (ps := []) rfl
  obtain ⟨w5, hr5, ho5, hg5⟩ := ho4.update (Go.Maps.int_keyed ty_kind) ty_kinds (by unfold maxLen; omega) (key_kind 5 (by decide)) (val := .agg #[.int .u64 0, .int .u64 256, .int .u64 256, .int .u64 256]) (d := hd 0 256 256 256) (ps := []) rfl
  obtain ⟨w6, hr6, ho6, hg6⟩ := ho5.update (Go.Maps.int_keyed ty_kind) ty_kinds (by unfold maxLen; omega) (key_kind 6 (by decide)) (val := .agg #[.int .u64 0, .int .u64 256, .int .u64 0, .int .u64 0]) (d := hd 0 256 0 0) (ps := []) rfl
  have HO := Lib.hid ho6
  have hB : Below w.heap.size w (w.alloc (.map #[] 0)) := (Below.refl _ _).alloc (Nat.le_refl _) _
  have hb1 := hB.grown hg1 hB.size (fun k e => by cases e; exact Nat.le_refl _)
  have hb2 := hb1.grown hg2 hb1.size (fun k e => by cases e; exact Nat.le_refl _)
  have hb3 := hb2.grown hg3 hb2.size (fun k e => by cases e; exact Nat.le_refl _)
  have hb4 := hb3.grown hg4 hb3.size (fun k e => by cases e; exact Nat.le_refl _)
  have hb5 := hb4.grown hg5 hb4.size (fun k e => by cases e; exact Nat.le_refl _)
  have hb6 := hb5.grown hg6 hb5.size (fun k e => by cases e; exact Nat.le_refl _)
  have HB := Lib.hid hb6
  clear ho1 hg1 hb1 ho2 hg2 hb2 ho3 hg3 hb3 ho4 hg4 hb4 ho5 hg5 hb5 ho6 hg6 hb6 hB
  go_enter Try.func37, Try.ntmps37
  go_wp2_with fail
  go_ret
  exact ⟨_, rfl, Nat.le_refl _, HB.out, HO.out⟩
theorem kinds_look {b : Nat} {w : World} (h : w.ownsMap Try.prog 5 fB b 6 kindsD) (k : Nat) (hk : k < 256) :
    (Instr.lookup 63 (.map (some b)) (.int .u8 (k : Int)) true).run Try.prog w = .ok (.tuple #[bdV (hasK k), .bool (isK k)]) w := by
  have hkey := key_kind (k : Int) (by simp [Lit.wf, IntKind.min, IntKind.max, IntKind.signed, IntKind.bits]; omega)
  obtain ⟨es, clock, hb, Fi, _, hD⟩ := h
  rcases Maps.fit_look true (Go.Maps.int_keyed ty_kind) ty_kinds (zero_bounds w) hb Fi hkey with ⟨hrun, _, hat⟩ | ⟨e0, y, _, _, hrun, hRv, hat, _⟩
  · by_cases hK : 1 ≤ k ∧ k ≤ 6
    · have := hat .nil
      rw [← hD, kinds_at k hK.1 hK.2] at this
      cases this
    · have h1 : hasK k = (0, 0, 0, 0) := by unfold hasK; rw [if_neg (by omega), if_neg (by omega), if_neg (by omega), if_neg (by omega)]
      have h2 : isK k = false := by unfold isK; simp; omega
      rw [h1, h2]
      exact hrun
  · by_cases hK : 1 ≤ k ∧ k ≤ 6
    · have h2 := hat .nil
      rw [← hD, kinds_at k hK.1 hK.2] at h2
      obtain ⟨y1, y2⟩ := y
      have h3 : _ = y1 := h2
      rw [← h3] at hRv
      have hv := fB_inv hRv
      rw [hv] at hrun
      have h2 : isK k = true := by unfold isK; simp; omega
      rw [h2]
      exact hrun
    · have e1 := hat (hd 0 0 0 0)
      have e2 := hat (hd 1 0 0 0)
      rw [← hD, kinds_none k hK] at e1 e2
      rw [← e2] at e1
      injection e1 with e1
      simp at e1
end Go.Proofs.Ytobdkgmlkchggaa.Zm
