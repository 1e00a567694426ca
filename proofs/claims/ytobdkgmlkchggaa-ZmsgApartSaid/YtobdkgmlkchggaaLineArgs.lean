/- Arguments that hold lines: bytes, numbers, lines, opened; the reach of the form bounds them. -/
import Derived.Test.YtobdkgmlkchggaaLines
import Derived.Deep.Slices
import Derived.SizedLaws
namespace Go.Proofs.Ytobdkgmlkchggaa.Sto
open Go.ChangeShapes Go.WideShapes Go.ChangeAt Go.RowKit Disk Log

theorem aty_lines : Try.prog.underlying 23 = some (.slice 37) := by kernel_rfl
theorem aty_bytes : Try.prog.underlying 27 = some (.slice 5) := by kernel_rfl
theorem aty_u8 : Try.prog.underlying 5 = some (.int .u8) := by kernel_rfl
theorem aty_u64 : Try.prog.underlying 22 = some (.int .u64) := by kernel_rfl
theorem ace_line : Try.prog.cellsOf 37 = 2 := by kernel_rfl
theorem ace_u8 : Try.prog.cellsOf 5 = 1 := by kernel_rfl
theorem ace_u64 : Try.prog.cellsOf 22 = 1 := by kernel_rfl
theorem ace_bytes : Try.prog.cellsOf 27 = 1 := by kernel_rfl
theorem ace_lines : Try.prog.cellsOf 23 = 1 := by kernel_rfl
theorem asz_line : Try.prog.bytesOf 37 = 32 := by kernel_rfl
theorem asz_u8 : Try.prog.bytesOf 5 = 1 := by kernel_rfl
theorem alist2 {α : Type} {l : List α} (h : l.length = 2) : ∃ a b, l = [a, b] := by
  match l, h with
  | [a, b], _ => exact ⟨a, b, rfl⟩
theorem alist3 {α : Type} {l : List α} (h : l.length = 3) : ∃ a b c, l = [a, b, c] := by
  match l, h with
  | [a, b, c], _ => exact ⟨a, b, c, rfl⟩
theorem weights_mem {H : Type} {P : Program} {e : TypeId} : ∀ {l : List (DataW H)} {d : DataW H}, d ∈ l → ∀ n ∈ d.weights P e, n ∈ DataW.weightsAll P e l
  | d :: l, _, h, n, hn => by
    simp only [DataW.weightsAll, List.mem_append]
    rcases List.mem_cons.1 h with rfl | h
    · exact .inl hn
    · exact .inr (weights_mem h n hn)
/-- Nothing that was met in reading it is larger than the platform's room. -/
def Wt {H : Type} (t : TypeId) (d : DataW H) : Prop := ∀ n ∈ d.weights Try.prog t, n ≤ reachBytes
theorem a_plain {w : World} {a : Addr} {v : Value} (h : w.cell? a = some v) : a = ⟨a.block, a.off, none⟩ := by
  obtain ⟨b, o, s⟩ := a
  cases s with
  | none => rfl
  | some x =>
    unfold World.cell? at h
    split at h
    · simp at h
    · cases h
theorem a_add (b o k : Nat) : (⟨b, o, none⟩ : Addr).add k = ⟨b, o + k, none⟩ := by
  unfold Addr.add
  by_cases h : k = 0
  · subst h; simp
  · simp [h]

section
variable {H : Type} {enc : TypeId × Value → H} {w : World} {base : Nat} {spare : Nat → Bool} {held : Bool}

theorem open_bs {fuel : Nat} {cs : List Value} {x : DataW H × List MemPlace} (h : DataW.trod enc Try.prog w base spare held fuel 27 cs = some x) (hw : Wt 27 x.1) : ∃ B m c bs, cs = [.slice B m c] ∧ m ≤ c ∧ m ≤ reachBytes ∧ Rd w B m bs ∧ ∀ b, B = some b → 1 ≤ m → b.block < w.heap.size := by
  rcases open_ints aty_bytes aty_u8 ace_u8 h with ⟨rfl, _⟩ | ⟨a, len, cap, zs, rfl, _, hl, _, hz, hx, hc, hwf⟩
  · exact ⟨none, 0, 0, [], rfl, Nat.le_refl _, Nat.zero_le _, Rd.nil_ _ _, fun b hb => by cases hb⟩
  · have hlz : len ≤ zs.length := by rw [hz]; split <;> omega
    have hr : len ≤ reachBytes := by
      have := hw ((lits (H := H) .u8 (zs.take len)).length + (lits (H := H) .u8 (zs.drop len)).length) (by rw [hx]; simp [DataW.weights, asz_u8])
      simp [lits] at this
      omega
    refine ⟨some a, len, cap, (zs.take len).map (fun z => UInt8.ofNat z.toNat), rfl, hl, hr, ⟨by simp; omega, fun _ => ⟨a, rfl, fun j b hb => ?_⟩⟩, fun b hb h1 => ?_⟩
    · rw [List.getElem?_map, List.getElem?_take] at hb
      split at hb
      · next hj =>
        have hjl : j < zs.length := by omega
        rw [List.getElem?_eq_getElem hjl] at hb
        injection hb with hb
        rw [hc j hjl, ← hb]
        have hw := hwf zs[j] (List.getElem_mem hjl)
        simp [Lit.wf, IntKind.min, IntKind.max, IntKind.signed, IntKind.bits] at hw
        unfold U
        congr 2
        rw [List.getD_eq_getElem?_getD, List.getElem?_eq_getElem hjl]
        simp
        omega
      · cases hb
    · injection hb with hb
      subst hb
      have := World.block_lt_of_cell? w _ (hc 0 (by omega))
      rwa [addr_add_block] at this
theorem open_u64n {fuel : Nat} {cs : List Value} {x : DataW H × List MemPlace} (h : DataW.trod enc Try.prog w base spare held fuel 22 cs = some x) : ∃ e : Nat, cs = [.int .u64 (e : Int)] ∧ e < 18446744073709551616 := by
  obtain ⟨z, rfl, _, hz⟩ := DataW.trod_int aty_u64 h
  simp [Lit.wf, IntKind.min, IntKind.max, IntKind.signed, IntKind.bits] at hz
  exact ⟨z.toNat, by congr 2; omega, by omega⟩
theorem open_u8n {fuel : Nat} {cs : List Value} {x : DataW H × List MemPlace} (h : DataW.trod enc Try.prog w base spare held fuel 5 cs = some x) : ∃ e : Nat, cs = [.int .u8 (e : Int)] ∧ e < 256 := by
  obtain ⟨z, rfl, _, hz⟩ := DataW.trod_int aty_u8 h
  simp [Lit.wf, IntKind.min, IntKind.max, IntKind.signed, IntKind.bits] at hz
  exact ⟨z.toNat, by congr 2; omega, by omega⟩
theorem open_line {fuel : Nat} {cs : List Value} {x : DataW H × List MemPlace} (h : DataW.trod enc Try.prog w base spare held fuel 37 cs = some x) (hw : Wt 37 x.1) : ∃ (y : Ln) (B : Option Addr) (m c : Nat), cs = [.int .u64 (y.epoch : Int), .slice B m c] ∧ m ≤ c ∧ y.epoch < 18446744073709551616 ∧ y.bytes.length ≤ reachBytes ∧ Rd w B m y.bytes ∧ ∀ b, B = some b → 1 ≤ m → b.block < w.heap.size := by
  obtain ⟨xs, m, _, hx, hlen, hxl, hf⟩ := DataW.trod_struct Try.underlying37 h
  rw [ace_line] at hlen
  have hxl : xs.length = 2 := hxl
  obtain ⟨y0, y1, rfl⟩ := alist2 hxl
  obtain ⟨v0, v1, rfl⟩ := alist2 hlen
  have g0 := hf 0 _ rfl
  have g1 := hf 1 _ rfl
  simp [ace_u64, ace_bytes] at g0 g1
  have hw1 : Wt 27 y1.1 := fun n hn => hw n (by rw [hx]; simp [DataW.weights, Try.underlying37, DataW.weightsEach, hn])
  obtain ⟨e, e0, he⟩ := open_u64n g0
  obtain ⟨B, k, c, bs, e1, h1, h2, h3, h4⟩ := open_bs g1 hw1
  simp at e0 e1
  subst e0 e1
  exact ⟨⟨e, bs⟩, B, k, c, rfl, h1, he, by show bs.length ≤ _; rw [h3.len]; exact h2, h3, h4⟩
theorem open_lines {fuel : Nat} {cs : List Value} {x : DataW H × List MemPlace} (h : DataW.trod enc Try.prog w base spare held fuel 23 cs = some x) (hw : Wt 23 x.1) : ∃ A n c ls, cs = [.slice A n c] ∧ n ≤ c ∧ LnS (fun b => b < w.heap.size) w A n ls ∧ (∀ y ∈ ls, y.epoch < 18446744073709551616 ∧ y.bytes.length ≤ reachBytes) ∧ n ≤ reachBytes := by
  rcases Go.Deep.open_slice aty_lines h with ⟨rfl, _⟩ | ⟨a, len, cap, m, n, D, Pl, rfl, _, hl, _, hmm, hx, hel⟩
  · exact ⟨none, 0, 0, [], rfl, Nat.le_refl _, LnS.nil_ _ _ _, (fun y hy => by cases hy), Nat.zero_le _⟩
  · have hml : len ≤ m := by rw [hmm]; split <;> omega
    have hrn : len ≤ reachBytes := by
      have := hw _ (by rw [hx]; simp only [DataW.weights, aty_lines]; exact List.mem_cons_self)
      rw [asz_line] at this
      simp at this
      omega
    have each : ∀ i, i < len → ∃ y : Ln, ∃ B k c, w.cell? (a.add (2 * i)) = some (.int .u64 (y.epoch : Int)) ∧ w.cell? (a.add (2 * i + 1)) = some (.slice B k c) ∧ k ≤ c ∧ y.epoch < 18446744073709551616 ∧ y.bytes.length ≤ reachBytes ∧ Rd w B k y.bytes ∧ ∀ b, B = some b → 1 ≤ k → b.block < w.heap.size := by
      intro i hi
      obtain ⟨cs', h1, h2⟩ := hel i (by omega)
      rw [ace_line] at h1
      obtain ⟨_, hlen, hcell⟩ := World.cells?_some h1
      obtain ⟨y, B, k, c, rfl, q1, q2, q3, q4, q5⟩ := open_line h2 fun v hv => hw v (by
        rw [hx]
        simp only [DataW.weights, aty_lines, List.mem_cons, List.mem_append]
        exact .inr (.inl (weights_mem (List.mem_map.2 ⟨i, List.mem_range.2 hi, rfl⟩) v hv)))
      refine ⟨y, B, k, c, ?_, ?_, q1, q2, q3, q4, q5⟩
      · have := hcell 0 (by omega)
        rw [Go.Deep.add_add, Nat.mul_comm] at this
        exact this
      · have := hcell 1 (by omega)
        rw [Go.Deep.add_add, Nat.mul_comm] at this
        exact this
    haveI : Inhabited Ln := ⟨⟨0, []⟩⟩
    obtain ⟨q, hq⟩ := Go.Deep.choose_lt each
    refine ⟨some a, len, cap, (List.range len).map q, rfl, hl, ⟨by simp, fun j y hj => ?_⟩, fun y hy => ?_, hrn⟩
    · have hjl : j < len := by simpa using (List.getElem?_eq_some_iff.1 hj).1
      rw [List.getElem?_map, List.getElem?_range hjl] at hj
      injection hj with hj
      subst hj
      obtain ⟨B, k, c, q1, q2, q3, q4, q5, q6, q7⟩ := hq j hjl
      have hp : a = ⟨a.block, a.off, none⟩ := by
        obtain ⟨_, _, _, z1, _⟩ := hq 0 (by omega)
        exact a_plain (by simpa [Addr.add] using z1)
      rw [hp, a_add] at q1 q2
      exact ⟨a.block, a.off, B, k, c, congrArg some hp, World.block_lt_of_cell? w ⟨a.block, a.off + 2 * j, none⟩ q1, by rw [Nat.mul_comm j 2]; exact q1, by rw [Nat.mul_comm j 2]; exact q2, q3, q6, q7⟩
    · obtain ⟨i, hi, rfl⟩ := List.mem_map.1 hy
      obtain ⟨_, _, _, _, _, _, q4, q5, _⟩ := hq i (List.mem_range.1 hi)
      exact ⟨q4, q5⟩
end
end Go.Proofs.Ytobdkgmlkchggaa.Sto
