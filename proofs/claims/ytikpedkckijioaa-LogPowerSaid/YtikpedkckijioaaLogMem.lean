/- The log's small calls: rows of rows of bytes, what stands one behind the other, two bytes, eight bytes turned round. -/
import Derived.Test.YtikpedkckijioaaDiskSt
import Derived.Test.YtikpedkckijioaaRead3
import Derived.Test.YtikpedkckijioaaCrcSum
import Derived.Test.YtikpedkckijioaaLogPureAll
import Derived.Test.YtikpedkckijioaaPathTexts
import Derived.BigQuiet
namespace Go.Proofs.Ytikpedkckijioaa.Log
open Go.RowKit Disk

/-- These values are slices that read as these rows of bytes. -/
structure Many (w : World) (vs : List Value) (bs : List (List UInt8)) : Prop where
  len : vs.length = bs.length
  at_ : ∀ (j : Nat) (b : List UInt8), bs[j]? = some b → ∃ A n c, vs[j]? = some (.slice A n c) ∧ n ≤ c ∧ Rd w A n b
theorem Many.below {w w' : World} {vs : List Value} {bs : List (List UInt8)} (h : Many w vs bs) (hb : Below w.heap.size w w') : Many w' vs bs :=
  ⟨h.len, fun j b hj => by
    obtain ⟨A, n, c, h1, h2, h3⟩ := h.at_ j b hj
    exact ⟨A, n, c, h1, h2, h3.below hb⟩⟩
theorem Many.nil_ (w : World) : Many w [] [] := ⟨rfl, fun j b hj => by simp at hj⟩
theorem Many.cons_ {w : World} {A : Option Addr} {n c : Nat} {b : List UInt8} {vs : List Value} {bs : List (List UInt8)} (h1 : Rd w A n b) (h2 : n ≤ c) (h : Many w vs bs) : Many w (.slice A n c :: vs) (b :: bs) :=
  ⟨by simp [h.len], fun j x hj => by
    cases j with
    | zero => simp at hj; subst hj; exact ⟨A, n, c, rfl, h2, h1⟩
    | succ j => exact h.at_ j x (by simpa using hj)⟩
theorem Many.snoc {w : World} {A : Option Addr} {n c : Nat} {b : List UInt8} {vs : List Value} {bs : List (List UInt8)} (h : Many w vs bs) (h1 : Rd w A n b) (h2 : n ≤ c) : Many w (vs ++ [.slice A n c]) (bs ++ [b]) :=
  ⟨by simp [h.len], fun j x hj => by
    rcases Nat.lt_or_ge j bs.length with hl | hl
    · rw [List.getElem?_append_left hl] at hj
      rw [List.getElem?_append_left (by rw [h.len]; exact hl)]
      exact h.at_ j x hj
    · rw [List.getElem?_append_right hl] at hj
      rw [List.getElem?_append_right (by rw [h.len]; exact hl), h.len]
      have : j - bs.length = 0 := by
        have := (List.getElem?_eq_some_iff.1 hj).1
        simp at this
        omega
      rw [this] at hj ⊢
      simp at hj
      subst hj
      exact ⟨A, n, c, rfl, h2, h1⟩⟩
theorem Many.one {w : World} {vs : List Value} {bs : List (List UInt8)} (h : Many w vs bs) : ∀ u ∈ vs, u.oneCell' = true := by
  intro u hu
  obtain ⟨j, hj, rfl⟩ := List.mem_iff_getElem.1 hu
  obtain ⟨A, n, c, h1, _⟩ := h.at_ j (bs[j]'(by rw [← h.len]; exact hj)) (List.getElem?_eq_getElem _)
  rw [List.getElem?_eq_getElem hj] at h1
  injection h1 with h1
  rw [h1]
  rfl

theorem info_row : (Try.prog.info? 32).map (fun i => (i.zero, i.size, i.bytes)) = some (some (.slice none 0 0), 1, 24) := by kernel_rfl
theorem ty_rows : Try.prog.underlying 59 = some (.slice 32) := by kernel_rfl

/-- The first k, one behind the other. -/
def flatK (bs : List (List UInt8)) (k : Nat) : List UInt8 := (bs.take k).flatten
theorem flat_take (bs : List (List UInt8)) (k : Nat) (h : k < bs.length) : flatK bs (k + 1) = flatK bs k ++ bs[k] := by
  unfold flatK
  rw [← List.take_append_getElem h, List.flatten_append]
  simp
theorem flat_le (bs : List (List UInt8)) (k : Nat) : (flatK bs k).length ≤ bs.flatten.length := by
  unfold flatK
  have : bs.flatten = (bs.take k).flatten ++ (bs.drop k).flatten := by rw [← List.flatten_append, List.take_append_drop]
  rw [this, List.length_append]
  omega
theorem flat_all (bs : List (List UInt8)) (k : Nat) (h : bs.length ≤ k) : flatK bs k = bs.flatten := by unfold flatK; rw [List.take_of_length_le h]
def RelTog (w : World) (bs : List (List UInt8)) (n : Nat) (v i : Value) (wr : World) : Prop :=
  ∃ k : Nat, k ≤ n ∧ i = .int .i64 (k : Int) ∧ wr.ownsRow w.heap.size 5 1 v (flatK bs k).length ((flatK bs k).map U) ∧ Below w.heap.size w wr
set_option maxRecDepth 100000 in
set_option maxHeartbeats 400000 in
theorem together_any (A : Option Addr) (n c : Nat) (vs : List Value) (bs : List (List UInt8)) (w : World) (h : RdV w A n vs) (hm : Many w vs bs) (hl : bs.flatten.length ≤ 100000000) (hn : n ≤ 1000000) :
    Calls Try.prog 78 #[.slice A n c] w (Put w bs.flatten) := by
  obtain ⟨i0, hi, hz0, hz1, hz2⟩ := info_parts info_byte
  have HI := Lib.hid hi
  have HZ0 := Lib.hid hz0
  have HZ1 := Lib.hid hz1
  have HZ2 := Lib.hid hz2
  clear hi hz0 hz1 hz2
  have HN : Hid (n = bs.length) := by show _ = _; rw [← h.len, hm.len]
  have H := Lib.hid h
  have HM := Lib.hid hm
  have HL := Lib.hid hl
  clear h hm hl
  go_enter Try.func78, Try.ntmps78
  go_wp2_with fail
  go_loopw [3, 5, 8] (fun v _ i wr => RelTog w bs n v i wr) (fun _ _ i _ => n - (intOf i).toNat)
  case atStart => exact ⟨0, by omega, rfl, own_nil _ _ _, Below.refl _ _⟩
  case round =>
    obtain ⟨k, hk, rfl, hown, hbel⟩ := hrel
    have HO := Lib.hid hown
    have HB := Lib.hid hbel
    clear hown hbel
    by_cases hlt : k < n
    · have hkl : k < bs.length := by have := HN.out; omega
      obtain ⟨A1, n1, c1, hv1, _, hr1⟩ := HM.out.at_ k _ (List.getElem?_eq_getElem hkl)
      obtain ⟨ad, rfl, hc⟩ := (H.out.below HB.out).cells (by omega)
      have hcell := hc k _ hv1
      have HR1 := Lib.hid (hr1.below HB.out)
      have hle := flat_le bs (k + 1)
      have hft := flat_take bs k hkl
      rw [hft, List.length_append] at hle
      have hn1 := hr1.len
      have HF := Lib.hid hft
      have HN1 := Lib.hid hn1
      have HLE : Hid ((flatK bs k).length + n1 ≤ 100000000) := by
        have := HL.out
        show _ ≤ _
        omega
      clear hc hv1 hr1 hle hft hn1
      go_wp2_with (at_builtin; refine wpList_append_Rd rfl (.tmp 12) (.tmp 13) _ rfl ty_bytes HI.out HZ0.out HZ1.out HZ2.out rfl rfl HO.out rfl HR1.out (by have := HLE.out; omega) HB.out.size ?_)
      intro v' w3 hown3 hgr3
      have HO3 : Hid (w3.ownsRow w.heap.size 5 1 v' (flatK bs (k + 1)).length ((flatK bs (k + 1)).map U)) := by
        show World.ownsRow _ _ _ _ _ _ _
        rw [HF.out, List.length_append, HN1.out, List.map_append]
        exact hown3
      have HB3 := Lib.hid (HB.out.grown hgr3 HB.out.size (fun g hg => (HO.out.lt g hg).1))
      clear hown3 hgr3
      go_wp2_with fail
      exact ⟨⟨k + 1, by omega, rfl, HO3.out, HB3.out⟩, by simp [intOf]; omega⟩
    · obtain rfl : k = n := by omega
      have HO3 := HO.out
      rw [flat_all bs k (by have := HN.out; omega)] at HO3
      have HO4 := Lib.hid HO3
      clear HO3
      go_wp2_with fail
      go_ret
      exact Put.of HO4.out HB.out
end Go.Proofs.Ytikpedkckijioaa.Log
