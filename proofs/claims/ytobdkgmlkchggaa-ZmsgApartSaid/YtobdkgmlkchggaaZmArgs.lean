/- Arguments of layer 11's statements: messages, opened. -/
import Derived.Test.YtobdkgmlkchggaaLineArgs
import Derived.Test.YtobdkgmlkchggaaZmMay2
namespace Go.Proofs.Ytobdkgmlkchggaa.Zm
open Go.ChangeShapes Go.WideShapes Go.ChangeAt Go.RowKit Disk Log Sto

theorem ace_msg : Try.prog.cellsOf 25 = 6 := by kernel_rfl
theorem ace_int : Try.prog.cellsOf 3 = 1 := by kernel_rfl
theorem aty_int : Try.prog.underlying 3 = some (.int .i64) := by kernel_rfl
theorem alist6 {α : Type} {l : List α} (h : l.length = 6) : ∃ a b c d e f, l = [a, b, c, d, e, f] := by
  match l, h with
  | [a, b, c, d, e, f], _ => exact ⟨a, b, c, d, e, f, rfl⟩
section
variable {H : Type} {enc : TypeId × Value → H} {w : World} {base : Nat} {spare : Nat → Bool} {held : Bool}

theorem open_i64n {fuel : Nat} {cs : List Value} {x : DataW H × List MemPlace} (h : DataW.trod enc Try.prog w base spare held fuel 3 cs = some x) : ∃ e : Int, cs = [.int .i64 e] ∧ -9223372036854775808 ≤ e ∧ e ≤ 9223372036854775807 := by
  obtain ⟨z, rfl, _, hz⟩ := DataW.trod_int aty_int h
  simp [Lit.wf, IntKind.min, IntKind.max, IntKind.signed, IntKind.bits] at hz
  exact ⟨z, rfl, by omega, by omega⟩
theorem open_msg {fuel : Nat} {cs : List Value} {x : DataW H × List MemPlace} (h : DataW.trod enc Try.prog w base spare held fuel 25 cs = some x) (hw : Wt 25 x.1) : ∃ (m : Mg) (A : Option Addr) (c : Nat), cs = (mgC m A m.lines.length c).toList ∧ m.lines.length ≤ c ∧ LnS (fun b => b < w.heap.size) w A m.lines.length m.lines ∧ m.Ok := by
  obtain ⟨xs, n, _, hx, hlen, hxl, hf⟩ := DataW.trod_struct Try.underlying25 h
  rw [ace_msg] at hlen
  have hxl : xs.length = 6 := hxl
  obtain ⟨y0, y1, y2, y3, y4, y5, rfl⟩ := alist6 hxl
  obtain ⟨v0, v1, v2, v3, v4, v5, rfl⟩ := alist6 hlen
  have g0 := hf 0 _ rfl
  have g1 := hf 1 _ rfl
  have g2 := hf 2 _ rfl
  have g3 := hf 3 _ rfl
  have g4 := hf 4 _ rfl
  have g5 := hf 5 _ rfl
  simp [ace_u64, ace_u8, ace_int, ace_lines] at g0 g1 g2 g3 g4 g5
  have hw5 : Wt 23 y5.1 := fun n hn => hw n (by rw [hx]; simp [DataW.weights, Try.underlying25, DataW.weightsEach, hn])
  obtain ⟨k, e0, hk⟩ := open_u8n g0
  obtain ⟨e, e1, he⟩ := open_u64n g1
  obtain ⟨cu, e2, hcu⟩ := open_u64n g2
  obtain ⟨at_, e3, ha0, ha1⟩ := open_i64n g3
  obtain ⟨co, e4, hc0, hc1⟩ := open_i64n g4
  obtain ⟨A, n, c, ls, e5, h1, h2, h3, h4⟩ := open_lines g5 hw5
  simp at e0 e1 e2 e3 e4 e5
  subst e0 e1 e2 e3 e4 e5
  have hn := h2.len
  subst hn
  have hr : reachBytes ≤ 140737488355328 := by decide
  exact ⟨⟨k, e, cu, at_, co, ls⟩, A, c, rfl, h1, h2, ⟨hk, he, hcu, ha0, ha1, hc0, hc1, Nat.le_trans h4 hr, fun y hy => ⟨(h3 y hy).1, Nat.le_trans (h3 y hy).2 hr⟩⟩⟩
theorem arg_msg {b0 : Nat} {r : Reach} {v : Value} {d : DataW H} {ps : List MemPlace} (hv : Value.okWide Try.prog w r b0 25 v) (h : DataW.Trod enc Try.prog w base spare held 25 v d ps) (hw : Wt 25 d) : ∃ (m : Mg) (A : Option Addr) (c : Nat), v = .agg (mgC m A m.lines.length c) ∧ m.lines.length ≤ c ∧ LnS (fun b => b < w.heap.size) w A m.lines.length m.lines ∧ m.Ok := by
  obtain ⟨cs, rfl, _⟩ : ∃ cs, v = .agg cs ∧ True := by
    simp only [Value.okWide, Try.underlying25] at hv
    obtain ⟨cs, h, _⟩ := hv
    exact ⟨cs, h, trivial⟩
  obtain ⟨fuel, h⟩ := h
  obtain ⟨m, A, c, e, h1, h2, h3⟩ := open_msg h hw
  exact ⟨m, A, c, by
    simp only [Value.cells] at e
    rw [← Array.toList_inj.1 e], h1, h2, h3⟩
end
end Go.Proofs.Ytobdkgmlkchggaa.Zm
