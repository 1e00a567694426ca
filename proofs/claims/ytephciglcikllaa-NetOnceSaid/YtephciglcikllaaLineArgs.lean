/- Arguments that hold lines: bytes, numbers, lines, opened; the reach of the form bounds them. -/
import Derived.Test.YtephciglcikllaaLines
import Derived.Deep.Slices
import Derived.SizedLaws
namespace Go.Proofs.Ytephciglcikllaa.Sto
open Go.ChangeShapes Go.WideShapes Go.ChangeAt Go.RowKit Disk Log

theorem aty_bytes : Try.prog.underlying 35 = some (.slice 5) := by kernel_rfl
theorem aty_u8 : Try.prog.underlying 5 = some (.int .u8) := by kernel_rfl
theorem ace_u8 : Try.prog.cellsOf 5 = 1 := by kernel_rfl
theorem ace_bytes : Try.prog.cellsOf 35 = 1 := by kernel_rfl
theorem asz_u8 : Try.prog.bytesOf 5 = 1 := by kernel_rfl
theorem alist2 {α : Type} {l : List α} (h : l.length = 2) : ∃ a b, l = [a, b] := by
  match l, h with
  | [a, b], _ => exact ⟨a, b, rfl⟩
theorem alist3 {α : Type} {l : List α} (h : l.length = 3) : ∃ a b c, l = [a, b, c] := by
  match l, h with
  | [a, b, c], _ => exact ⟨a, b, c, rfl⟩
theorem weights_mem {H : Type} {P : Program} {e : TypeId} : ∀ {l : List (DataW H)} {d : DataW H}, d ∈ l → ∀ n ∈ d.weights P e, n ∈ DataW.weightsAll P e l
  | d :: l, _, h, n, hn => by
    simp only [DataW.weightsAll, List.mem_append]
    rcases List.mem_cons.1 h with rfl | h
    · exact .inl hn
    · exact .inr (weights_mem h n hn)
/-- Nothing that was met in reading it is larger than the platform's room. -/
def Wt {H : Type} (t : TypeId) (d : DataW H) : Prop := ∀ n ∈ d.weights Try.prog t, n ≤ reachBytes
theorem a_plain {w : World} {a : Addr} {v : Value} (h : w.cell? a = some v) : a = ⟨a.block, a.off, none⟩ := by
  obtain ⟨b, o, s⟩ := a
  cases s with
  | none => rfl
  | some x =>
    unfold World.cell? at h
    split at h
    · simp at h
    · cases h
theorem a_add (b o k : Nat) : (⟨b, o, none⟩ : Addr).add k = ⟨b, o + k, none⟩ := by
  unfold Addr.add
  by_cases h : k = 0
  · subst h; simp
  · simp [h]

section
variable {H : Type} {enc : TypeId × Value → H} {w : World} {base : Nat} {spare : Nat → Bool} {held : Bool}

theorem open_bs {fuel : Nat} {cs : List Value} {x : DataW H × List MemPlace} (h : DataW.trod enc Try.prog w base spare held fuel 35 cs = some x) (hw : Wt 35 x.1) : ∃ B m c bs, cs = [.slice B m c] ∧ m ≤ c ∧ m ≤ reachBytes ∧ Rd w B m bs ∧ ∀ b, B = some b → 1 ≤ m → b.block < w.heap.size := by
  rcases open_ints aty_bytes aty_u8 ace_u8 h with ⟨rfl, _⟩ | ⟨a, len, cap, zs, rfl, _, hl, _, hz, hx, hc, hwf⟩
  · exact ⟨none, 0, 0, [], rfl, Nat.le_refl _, Nat.zero_le _, Rd.nil_ _ _, fun b hb => by cases hb⟩
  · have hlz : len ≤ zs.length := by rw [hz]; split <;> omega
    have hr : len ≤ reachBytes := by
      have := hw ((lits (H := H) .u8 (zs.take len)).length + (lits (H := H) .u8 (zs.drop len)).length) (by rw [hx]; simp [DataW.weights, asz_u8])
      simp [lits] at this
      omega
    refine ⟨some a, len, cap, (zs.take len).map (fun z => UInt8.ofNat z.toNat), rfl, hl, hr, ⟨by simp; omega, fun _ => ⟨a, rfl, fun j b hb => ?_⟩⟩, fun b hb h1 => ?_⟩
    · rw [List.getElem?_map, List.getElem?_take] at hb
      split at hb
      · next hj =>
        have hjl : j < zs.length := by omega
        rw [List.getElem?_eq_getElem hjl] at hb
        injection hb with hb
        rw [hc j hjl, ← hb]
        have hw := hwf zs[j] (List.getElem_mem hjl)
        simp [Lit.wf, IntKind.min, IntKind.max, IntKind.signed, IntKind.bits] at hw
        unfold U
        congr 2
        rw [List.getD_eq_getElem?_getD, List.getElem?_eq_getElem hjl]
        simp
        omega
      · cases hb
    · injection hb with hb
      subst hb
      have := World.block_lt_of_cell? w _ (hc 0 (by omega))
      rwa [addr_add_block] at this
theorem open_u8n {fuel : Nat} {cs : List Value} {x : DataW H × List MemPlace} (h : DataW.trod enc Try.prog w base spare held fuel 5 cs = some x) : ∃ e : Nat, cs = [.int .u8 (e : Int)] ∧ e < 256 := by
  obtain ⟨z, rfl, _, hz⟩ := DataW.trod_int aty_u8 h
  simp [Lit.wf, IntKind.min, IntKind.max, IntKind.signed, IntKind.bits] at hz
  exact ⟨z.toNat, by congr 2; omega, by omega⟩
end
end Go.Proofs.Ytephciglcikllaa.Sto
