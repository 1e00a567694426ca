/- Links as keys of a map; letters and addresses as values. -/
import Derived.Test.YtephciglcikllaaNetPure
import Derived.Test.YtephciglcikllaaKeyMap
import Derived.DeepKeys4
namespace Go.Proofs.Ytephciglcikllaa.Net
open Go.RowKit Disk Zab

/-- An address, a letter, a link as cells. -/
def adC (a : Ad) : List Value := [.int .i64 a.g, .int .i64 a.n]
def adV (a : Ad) : Value := .agg #[.int .i64 a.g, .int .i64 a.n]
def ltA (l : Lt) (v : Value) : Array Value := #[.int .i64 l.fr.g, .int .i64 l.fr.n, .int .i64 l.to.g, .int .i64 l.to.n, v]
def ltV (l : Lt) (v : Value) : Value := .agg (ltA l v)
def lkV (x : Ad × Ad) : Value := .agg #[.int .i64 x.1.g, .int .i64 x.1.n, .int .i64 x.2.g, .int .i64 x.2.n]
theorem under_addr : ∃ f0 f1 : Field, Try.prog.underlying 34 = some (.struct #[f0, f1]) ∧ f0.name ≠ "_" ∧ f1.name ≠ "_" ∧ f0.type = 3 ∧ f1.type = 3 ∧ f0.offset = 0 ∧ f1.offset = 1 := ⟨_, _, Try.underlying34, by decide, by decide, rfl, rfl, rfl, rfl⟩
theorem under_link : Try.prog.underlying 76 = some (.array 2 34) := by kernel_rfl
theorem cells_addr : Try.prog.cellsOf 34 = 2 := by kernel_rfl
theorem cells_int : Try.prog.cellsOf 3 = 1 := by kernel_rfl
theorem cells_link : Try.prog.cellsOf 76 = 4 := by kernel_rfl
theorem lits_int (d : Nat) {n : Int} (h : -9223372036854775808 ≤ n ∧ n ≤ 9223372036854775807) : Try.prog.keyLits (d + 1) 3 [.int .i64 n] = some [.int .i64 n] := by
  unfold Program.keyLits
  rw [ty_int]
  have : (Lit.int .i64 n).wf = true := by simp [Lit.wf, IntKind.min, IntKind.max, IntKind.signed, IntKind.bits]; omega
  simp [this]
theorem lits_addr (d : Nat) {a : Ad} (h : a.Wf) : Try.prog.keyLits (d + 2) 34 (adC a) = some [.int .i64 a.g, .int .i64 a.n] := by
  obtain ⟨f0, f1, hu, n0, n1, t0, t1, o0, o1⟩ := under_addr
  unfold Program.keyLits
  rw [hu]
  simp [cells_addr, adC, n0, n1, t0, t1, o0, o1, cells_int, lits_int d h.1, lits_int d h.2]
theorem lits_link (d : Nat) {a b : Ad} (ha : a.Wf) (hb : b.Wf) : Try.prog.keyLits (d + 3) 76 (adC a ++ adC b) = some [.int .i64 a.g, .int .i64 a.n, .int .i64 b.g, .int .i64 b.n] := by
  unfold Program.keyLits
  rw [under_link]
  have h1 := lits_addr d ha
  have h2 := lits_addr d hb
  unfold adC at h1 h2
  simp [cells_addr, cells_link, adC, h1, h2, List.range_succ]
theorem key_link {a b : Ad} (ha : a.Wf) (hb : b.Wf) : keyOf Try.prog 76 (lkV (a, b)) = some (.string (keyBytes [.int .i64 a.g, .int .i64 a.n, .int .i64 b.g, .int .i64 b.n])) := by
  unfold keyOf
  rw [under_link]
  have h1 : Try.prog.keyType 76 = true := by kernel_rfl
  have h2 : (lkV (a, b)).formed Try.prog 76 = true := by kernel_rfl
  have h3 : Try.prog.types.size + 1 = (Try.prog.types.size - 2) + 3 := by kernel_rfl
  have h4 := lits_link (Try.prog.types.size - 2) ha hb
  simp only [h1, h2, Bool.and_self, if_true]
  rw [h3]
  have h5 : (lkV (a, b)).cells.toList = adC a ++ adC b := rfl
  rw [h5, h4]
  rfl
def AW (x : Ad × Ad) : Prop := x.1.Wf ∧ x.2.Wf
theorem lkV_inj (x y : Ad × Ad) (h : lkV x = lkV y) : x = y := by
  obtain ⟨⟨a, b⟩, ⟨c, d⟩⟩ := x
  obtain ⟨⟨a', b'⟩, ⟨c', d'⟩⟩ := y
  unfold lkV at h
  simp at h
  obtain ⟨rfl, rfl, rfl, rfl⟩ := h
  rfl
def linkT : KeyT (Ad × Ad) 76 := ⟨lkV, AW, Go.Maps.Keyed.of_law (deep_law_laid (by kernel_rfl) (m := 3) (by omega) (of_decide_eq_true (by kernel_rfl)) (by kernel_rfl) (by kernel_rfl)), fun x hx => ⟨_, key_link hx.1 hx.2⟩, lkV_inj⟩
theorem linkOf_wf {a b : Ad} (ha : a.Wf) (hb : b.Wf) : AW (linkOf a b) := by
  unfold linkOf AW
  split
  · exact ⟨hb, ha⟩
  · exact ⟨ha, hb⟩
/-- Which links are cut, as a map's values. -/
def cutV (cut : Ad × Ad → Bool) : Ad × Ad → Option Value := fun x => if cut x = true then some (.bool true) else none
theorem cutV_put (cut : Ad × Ad → Bool) (x : Ad × Ad) : kput (cutV cut) x (some (.bool true)) = cutV fun l => if l = x then true else cut l := by
  funext y
  unfold kput cutV
  by_cases h : y = x <;> simp [h]
theorem cutV_drop (cut : Ad × Ad → Bool) (x : Ad × Ad) : kput (cutV cut) x none = cutV fun l => if l = x then false else cut l := by
  funext y
  unfold kput cutV
  by_cases h : y = x <;> simp [h]
theorem cutV_get (cut : Ad × Ad → Bool) (x : Ad × Ad) : (cutV cut x).getD (.bool false) = .bool (cut x) := by
  unfold cutV
  cases cut x <;> simp
end Go.Proofs.Ytephciglcikllaa.Net
