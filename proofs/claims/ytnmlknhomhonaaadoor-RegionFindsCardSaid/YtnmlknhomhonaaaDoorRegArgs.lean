/- Arguments that are rows of texts, and operations. -/
import Derived.Test.YtnmlknhomhonaaaDoorRegCode
import Derived.Test.YtnmlknhomhonaaaDoorPathFrame
import Derived.Deep.Slices
namespace Go.Proofs.YtnmlknhomhonaaaDoor.Reg
open Go.ChangeShapes Go.WideShapes Go.ChangeAt Go.RowKit Path

/-- An operation as its seven cells have it. -/
structure OR where
  kind : Int
  path : List UInt8
  da : Option Addr
  dn : Nat
  dc : Nat
  ver : Int
  seq : Bool
  eph : Bool
  pa : Option Addr
  pn : Nat
  pc : Nat
def orC (o : OR) : List Value := [.int .u8 o.kind, .string (S o.path), .slice o.da o.dn o.dc, .int .i64 o.ver, .bool o.seq, .bool o.eph, .slice o.pa o.pn o.pc]
def orV (o : OR) : Value := .agg (orC o).toArray
/-- The slice '.slice A n c' reads as these operations. -/
structure OrS (w : World) (A : Option Addr) (n : Nat) (os : List OR) : Prop where
  len : os.length = n
  cells : ∀ j, (h : j < os.length) → ∃ b o, A = some ⟨b, o, none⟩ ∧ ∀ (i : Nat) (v : Value), (orC os[j])[i]? = some v → w.cell? ⟨b, o + (7 * j + i), none⟩ = some v
theorem OrS.nil_ (w : World) (A : Option Addr) : OrS w A 0 [] := ⟨rfl, fun j h => absurd h (by simp)⟩
theorem OrS.below {w w' : World} {A : Option Addr} {n : Nat} {os : List OR} (h : OrS w A n os) (hb : Below w.heap.size w w') : OrS w' A n os :=
  ⟨h.len, fun j hj => by
    obtain ⟨b, o, e, hc⟩ := h.cells j hj
    exact ⟨b, o, e, fun i v hv => (hb.cell (World.block_lt_of_cell? w _ (hc i v hv))).trans (hc i v hv)⟩⟩

theorem ty_ops : Tryd.prog.underlying 30 = some (.slice 32) := by kernel_rfl
theorem ce_op : Tryd.prog.cellsOf 32 = 7 := by kernel_rfl
theorem ce_str : Tryd.prog.cellsOf 9 = 1 := by kernel_rfl
theorem ce_bool : Tryd.prog.cellsOf 4 = 1 := by kernel_rfl
theorem ce_u8 : Tryd.prog.cellsOf 5 = 1 := by kernel_rfl
theorem ce_bytes : Tryd.prog.cellsOf 29 = 1 := by kernel_rfl
theorem ce_i64 : Tryd.prog.cellsOf 2 = 1 := by kernel_rfl
theorem ce_ops : Tryd.prog.cellsOf 30 = 1 := by kernel_rfl
theorem ty_i64 : Tryd.prog.underlying 2 = some (.int .i64) := by kernel_rfl
theorem ty_bytes : Tryd.prog.underlying 29 = some (.slice 5) := by kernel_rfl
theorem ty_u8 : Tryd.prog.underlying 5 = some (.int .u8) := by kernel_rfl
theorem list7 {α : Type} {l : List α} (h : l.length = 7) : ∃ a b c d e f g, l = [a, b, c, d, e, f, g] := by
  match l, h with
  | [a, b, c, d, e, f, g], _ => exact ⟨a, b, c, d, e, f, g, rfl⟩
theorem addr_plain {w : World} {a : Addr} {v : Value} (h : w.cell? a = some v) : a = ⟨a.block, a.off, none⟩ := by
  obtain ⟨b, o, s⟩ := a
  cases s with
  | none => rfl
  | some x =>
    unfold World.cell? at h
    split at h
    · simp at h
    · cases h
theorem add_plain (b o k : Nat) : (⟨b, o, none⟩ : Addr).add k = ⟨b, o + k, none⟩ := by
  unfold Addr.add
  by_cases h : k = 0
  · subst h; simp
  · simp [h]

section
variable {H : Type} {enc : TypeId × Value → H} {w : World} {base : Nat} {spare : Nat → Bool} {held : Bool}

theorem open_some {t e : TypeId} {fuel : Nat} {cs : List Value} {x : DataW H × List MemPlace} (ht : Tryd.prog.underlying t = some (.slice e)) (h : DataW.trod enc Tryd.prog w base spare held fuel t cs = some x) : ∃ A n c, cs = [.slice A n c] := by
  rcases Go.Deep.open_slice ht h with ⟨rfl, _⟩ | ⟨a, len, cap, _, _, _, _, rfl, _⟩
  · exact ⟨_, _, _, rfl⟩
  · exact ⟨_, _, _, rfl⟩
theorem open_texts {fuel : Nat} {cs : List Value} {x : DataW H × List MemPlace} (h : DataW.trod enc Tryd.prog w base spare held fuel 22 cs = some x) : ∃ A n c ls, cs = [.slice A n c] ∧ n ≤ c ∧ c ≤ maxLen ∧ RdV w A n (sv ls) := by
  rcases Go.Deep.open_slice1 ty_texts ce_str h with ⟨rfl, _⟩ | ⟨a, len, cap, m, n, V, D, Pl, rfl, _, hl, hm, hmm, _, hx⟩
  · exact ⟨none, 0, 0, [], rfl, Nat.le_refl _, Nat.zero_le _, RdV.nil_ _ _⟩
  · have hml : len ≤ m := by rw [hmm]; split <;> omega
    have each : ∀ i, i < len → ∃ s : List UInt8, w.cell? (a.add i) = some (.string (S s)) := by
      intro i hi
      obtain ⟨h1, h2⟩ := hx i (by omega)
      obtain ⟨s, e0, _, _⟩ := DataW.trod_string ty_string h2
      injection e0 with e0
      exact ⟨s.data.toList, by rw [h1, e0]; simp [S]⟩
    obtain ⟨q, hq⟩ := Go.Deep.choose_lt each
    refine ⟨some a, len, cap, (List.range len).map q, rfl, hl, hm, ⟨by rw [sv_length]; simp, fun _ => ⟨a, rfl, fun j v hv => ?_⟩⟩⟩
    have hj : j < len := by
      have := (List.getElem?_eq_some_iff.1 hv).1
      rw [sv_length] at this
      simpa using this
    rw [sv_get (by simpa using hj)] at hv
    injection hv with hv
    rw [← hv, hq j hj]
    simp
theorem open_op0 {fuel : Nat} {cs : List Value} {x : DataW H × List MemPlace} (h : DataW.trod enc Tryd.prog w base spare held fuel 32 cs = some x) : ∃ y, cs = orC y ∧ ∃ f2 z, DataW.trod enc Tryd.prog w base spare held f2 30 [.slice y.pa y.pn y.pc] = some z := by
  obtain ⟨xs, m, _, _, hlen, hxl, hf⟩ := DataW.trod_struct Tryd.underlying32 h
  rw [ce_op] at hlen
  have hxl : xs.length = 7 := hxl
  obtain ⟨y0, y1, y2, y3, y4, y5, y6, rfl⟩ := list7 hxl
  obtain ⟨v0, v1, v2, v3, v4, v5, v6, rfl⟩ := list7 hlen
  have g0 := hf 0 _ rfl
  have g1 := hf 1 _ rfl
  have g2 := hf 2 _ rfl
  have g3 := hf 3 _ rfl
  have g4 := hf 4 _ rfl
  have g5 := hf 5 _ rfl
  have g6 := hf 6 _ rfl
  simp [ce_bytes, ce_u8, ce_str, ce_i64, ce_bool, ce_ops] at g0 g1 g2 g3 g4 g5 g6
  obtain ⟨z0, e0, _, _⟩ := DataW.trod_int ty_u8 g0
  obtain ⟨s, e1, _, _⟩ := DataW.trod_string ty_string g1
  obtain ⟨da, dn, dc, e2⟩ := open_some ty_bytes g2
  obtain ⟨z3, e3, _, _⟩ := DataW.trod_int ty_i64 g3
  obtain ⟨b4, e4, _⟩ := DataW.trod_bool Go.Proofs.YtnmlknhomhonaaaDoor.ty_bool g4
  obtain ⟨b5, e5, _⟩ := DataW.trod_bool Go.Proofs.YtnmlknhomhonaaaDoor.ty_bool g5
  obtain ⟨pa, pn, pc, e6⟩ := open_some ty_ops g6
  simp at e0 e1 e2 e3 e4 e5 e6
  subst e0 e1 e2 e3 e4 e5 e6
  exact ⟨⟨z0, s.data.toList, da, dn, dc, z3, b4, b5, pa, pn, pc⟩, rfl, _, _, g6⟩
theorem open_op {fuel : Nat} {cs : List Value} {x : DataW H × List MemPlace} (h : DataW.trod enc Tryd.prog w base spare held fuel 32 cs = some x) : ∃ y os, cs = orC y ∧ y.pn ≤ y.pc ∧ y.pc ≤ maxLen ∧ OrS w y.pa y.pn os := by
  obtain ⟨y, rfl, f2, z, g6⟩ := open_op0 h
  rcases Go.Deep.open_slice ty_ops g6 with ⟨e, _⟩ | ⟨a, len, cap, m, n, D, Pl, e, _, hl, hm, hmm, _, hx⟩
  · simp at e
    obtain ⟨e1, e2, e3⟩ := e
    refine ⟨y, [], rfl, by omega, by omega, ?_⟩
    rw [e2]
    exact OrS.nil_ _ _
  · simp at e
    obtain ⟨e1, e2, e3⟩ := e
    have hml : len ≤ m := by rw [hmm]; split <;> omega
    have each : ∀ i, i < len → ∃ q : OR, ∀ (j : Nat) (v : Value), (orC q)[j]? = some v → w.cell? (a.add (7 * i + j)) = some v := by
      intro i hi
      obtain ⟨cs', h1, h2⟩ := hx i (by omega)
      rw [ce_op] at h1
      obtain ⟨_, hlen, hcell⟩ := World.cells?_some h1
      obtain ⟨q, rfl, _⟩ := open_op0 h2
      refine ⟨q, fun j v hv => ?_⟩
      have hj : j < 7 := (List.getElem?_eq_some_iff.1 hv).1
      have := hcell j hj
      rw [Go.Deep.add_add, Nat.mul_comm] at this
      rw [this]
      exact hv
    haveI : Inhabited OR := ⟨⟨0, [], none, 0, 0, 0, false, false, none, 0, 0⟩⟩
    obtain ⟨q, hq⟩ := Go.Deep.choose_lt each
    refine ⟨y, (List.range len).map q, rfl, by omega, by omega, ?_⟩
    rw [e1, e2]
    refine ⟨by simp, fun j hj => ?_⟩
    have hj' : j < len := by simpa using hj
    have hp : a = ⟨a.block, a.off, none⟩ := addr_plain (by simpa [Addr.add] using hq 0 (by omega) 0 _ rfl)
    refine ⟨a.block, a.off, congrArg some hp, fun i v hv => ?_⟩
    simp only [List.getElem_map, List.getElem_range] at hv
    have := hq j hj' i v hv
    rw [hp, add_plain] at this
    exact this
set_option maxRecDepth 100000 in
theorem arg_texts {b0 : Nat} {r : Reach} {v : Value} {d : DataW H} {ps : List MemPlace} (hv : Value.okWide Tryd.prog w r b0 22 v) (h : DataW.Trod enc Tryd.prog w base spare held 22 v d ps) : ∃ A n c ls, v = .slice A n c ∧ n ≤ c ∧ c ≤ maxLen ∧ RdV w A n (sv ls) := by
  obtain ⟨A, n, c, rfl⟩ := okWide_slice ty_texts hv
  obtain ⟨fuel, h⟩ := h
  obtain ⟨A', n', c', xs, e, h1, h2, h3⟩ := open_texts h
  simp [Value.cells] at e
  obtain ⟨rfl, rfl, rfl⟩ := e
  exact ⟨_, _, _, xs, rfl, h1, h2, h3⟩
set_option maxRecDepth 100000 in
theorem arg_op {b0 : Nat} {r : Reach} {v : Value} {d : DataW H} {ps : List MemPlace} (hv : Value.okWide Tryd.prog w r b0 32 v) (h : DataW.Trod enc Tryd.prog w base spare held 32 v d ps) : ∃ y os, v = orV y ∧ y.pn ≤ y.pc ∧ y.pc ≤ maxLen ∧ OrS w y.pa y.pn os := by
  obtain ⟨cs, rfl, hsz⟩ := okWide_struct Tryd.underlying32 hv
  obtain ⟨fuel, h⟩ := h
  obtain ⟨y, os, e, h1, h2, h3⟩ := open_op h
  refine ⟨y, os, ?_, h1, h2, h3⟩
  unfold orV
  rw [← e]
  rfl
end
end Go.Proofs.YtnmlknhomhonaaaDoor.Reg
