/- Arguments that are arrays of bytes, and numbers, opened; rows of the call's own. -/
import Derived.Test.YtnclphceglpchaaCrcGoes
import Derived.WalkLawsBesides
namespace Go.Proofs.Ytnclphceglpchaa
open Go.ChangeShapes Go.WideShapes Go.ChangeAt Go.RowKit

section
variable {H : Type} {enc : TypeId × Value → H} {P : Program}
theorem u8_of_wf {z : Int} (h : (Lit.int .u8 z).wf = true) : Value.int .u8 z = U (UInt8.ofNat z.toNat) := by
  have hb := bounds_u8 h
  unfold U
  congr 1
  simp
  omega

theorem open_byteArr {t e : TypeId} {n : Nat} (ht : P.underlying t = some (.array n e)) (he : P.underlying e = some (.int .u8)) (hc : P.cellsOf e = 1) (hct : P.cellsOf t = n) {w : World} {base b0 : Nat} {r : Reach} {spare : Nat → Bool} {held : Bool} {v : Value} {d : DataW H} {ps : List MemPlace}
    (hv : Value.okWide P w r b0 t v) (h : DataW.Trod enc P w base spare held t v d ps) : ∃ bs : List UInt8, v = .agg (bs.map U).toArray ∧ bs.length = n := by
  unfold Value.okWide at hv
  rw [ht] at hv
  obtain ⟨cs, rfl, hs, _⟩ := hv
  obtain ⟨fuel, h⟩ := h
  obtain ⟨xs, m, rfl, _, _, hl, hx⟩ := DataW.trod_array ht h
  rw [hct] at hs
  have hget : ∀ i, i < n → ∃ b : UInt8, cs[i]? = some (U b) := by
    intro i hi
    have h1 := hx i hi
    rw [List.getElem?_eq_getElem (by omega), hc] at h1
    obtain ⟨z, hz, _, hw⟩ := DataW.trod_int he h1
    refine ⟨UInt8.ofNat z.toNat, ?_⟩
    rw [← u8_of_wf hw]
    have h2 := congrArg (fun l => l[0]?) hz
    simp [Value.cells] at h2
    simpa using h2
  refine ⟨cs.toList.map fun v => match v with | .int _ z => UInt8.ofNat z.toNat | _ => 0, ?_, by simp [hs]⟩
  congr 1
  apply Array.ext_getElem?
  intro i
  by_cases hi : i < n
  · obtain ⟨b, hb⟩ := hget i hi
    rw [hb]
    simp [hb, U]
  · rw [Array.getElem?_eq_none (by omega), Array.getElem?_eq_none (by simp; omega)]

/-- A number below 2^16. -/
theorem open_u16 {t : TypeId} (ht : P.underlying t = some (.int .u16)) {w : World} {base b0 : Nat} {r : Reach} {spare : Nat → Bool} {held : Bool} {v : Value} {d : DataW H} {ps : List MemPlace}
    (hv : Value.okWide P w r b0 t v) (h : DataW.Trod enc P w base spare held t v d ps) : ∃ a : Nat, v = .int .u16 (a : Int) ∧ a < 65536 := by
  obtain ⟨z, rfl, _, _, hw⟩ := open_int ht hv h
  have hb := bounds_u16 hw
  exact ⟨z.toNat, by congr 1; omega, by omega⟩
theorem open_u8 {t : TypeId} (ht : P.underlying t = some (.int .u8)) {w : World} {base b0 : Nat} {r : Reach} {spare : Nat → Bool} {held : Bool} {v : Value} {d : DataW H} {ps : List MemPlace}
    (hv : Value.okWide P w r b0 t v) (h : DataW.Trod enc P w base spare held t v d ps) : ∃ a : Nat, v = .int .u8 (a : Int) ∧ a < 256 := by
  obtain ⟨z, rfl, _, _, hw⟩ := open_int ht hv h
  have hb := bounds_u8 hw
  exact ⟨z.toNat, by congr 1; omega, by omega⟩
end

theorem ty_u16 : Try.prog.underlying 27 = some (.int .u16) := by kernel_rfl
theorem ty_arr8 : Try.prog.underlying 28 = some (.array 8 5) := by kernel_rfl
theorem cells_arr8 : Try.prog.cellsOf 28 = 8 := by kernel_rfl

theorem own_form {w : World} {base : Nat} {e : TypeId} {v : Value} {n : Nat} {xs : List Value} (h : w.ownsRow base e 1 v n xs) (hn : 0 < n) : ∃ g cap, v = .slice (some ⟨g, 0, none⟩) n cap ∧ base ≤ g ∧ g < w.heap.size := by
  rcases h.2 with ⟨_, h0⟩ | ⟨g, cap, cur, h0, hb, hg, _⟩
  · omega
  · exact ⟨g, cap, h0, hb, (Array.getElem?_eq_some_iff.1 hg).1⟩
theorem own_lit0 (w : World) (e : TypeId) : (w.alloc (.cells #[] e)).ownsRow w.heap.size e 1 (.slice (some ⟨w.heap.size, 0, none⟩) 0 0) 0 ([].map U) := World.ownsRow_lit w #[] 0 (Nat.le_refl _) (Nat.zero_le _) rfl
theorem info_parts {P : Program} {t : TypeId} {z : Value} {a b : Nat} (h : (P.info? t).map (fun i => (i.zero, i.size, i.bytes)) = some (some z, a, b)) : ∃ i, P.info? t = some i ∧ i.zero = some z ∧ i.size = a ∧ i.bytes = b := by
  cases hi : P.info? t with
  | none => rw [hi] at h; cases h
  | some i =>
    rw [hi] at h
    simp at h
    exact ⟨i, rfl, h⟩
theorem sum_within (bs cs : List UInt8) (k : Nat) (hl : bs.length = cs.length) (h : ∀ i, i < k ∨ k + 8 ≤ i → bs[i]? = cs[i]?) : Crc.sum bs = Crc.sum cs ↔ bs = cs := by
  have cut : ∀ l : List UInt8, l = l.take k ++ ((l.drop k).take 8 ++ l.drop (k + 8)) := by
    intro l
    rw [← List.drop_drop, List.take_append_drop, List.take_append_drop]
  have h1 : bs.take k = cs.take k := by
    apply List.ext_getElem?
    intro i
    rw [List.getElem?_take, List.getElem?_take]
    split
    · next hi => exact h i (Or.inl hi)
    · rfl
  have h2 : bs.drop (k + 8) = cs.drop (k + 8) := by
    apply List.ext_getElem?
    intro i
    rw [List.getElem?_drop, List.getElem?_drop]
    exact h _ (Or.inr (by omega))
  have hw := Crc.sum_window (cs.take k) ((bs.drop k).take 8) ((cs.drop k).take 8) (cs.drop (k + 8)) (by simp [hl]) (by simp; omega)
  have e1 : bs = cs.take k ++ ((bs.drop k).take 8 ++ cs.drop (k + 8)) := by rw [← h1, ← h2]; exact cut bs
  constructor
  · intro hs
    have e2 : Crc.sum (cs.take k ++ ((bs.drop k).take 8 ++ cs.drop (k + 8))) = Crc.sum (cs.take k ++ ((cs.drop k).take 8 ++ cs.drop (k + 8))) := by rw [← e1, ← cut cs]; exact hs
    have e3 := hw.1 e2
    rw [e1, e3]
    exact (cut cs).symm
  · rintro rfl
    rfl
end Go.Proofs.Ytnclphceglpchaa
