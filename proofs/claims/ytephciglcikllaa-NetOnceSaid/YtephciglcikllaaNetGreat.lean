/- The laws' own: great. -/
import Derived.Test.YtephciglcikllaaNetArgs
namespace Go.Proofs.Ytephciglcikllaa.Net
open Go.RowKit Disk Zab Sto

def bigA (x : A1) : Bool := decide (200 < x.l.bs.length)
def greatF (xs : List A1) : Bool := decide (60 < xs.length) || xs.any bigA
theorem great_no {xs : List A1} (h : greatF xs = false) : xs.length ≤ 60 ∧ ∀ x ∈ xs, x.l.bs.length ≤ 200 := by
  unfold greatF at h
  rw [Bool.or_eq_false_iff] at h
  refine ⟨by have := of_decide_eq_false h.1; omega, fun x hx => ?_⟩
  have := List.any_eq_false.1 h.2 x hx
  unfold bigA at this
  simp at this
  omega
def RelG (xs : List A1) (n : Nat) (i : Value) : Prop := ∃ k : Nat, k ≤ n ∧ i = .int .i64 (k : Int) ∧ (xs.take k).any bigA = false
theorem any_takes {α : Type} {l : List α} {p : α → Bool} {k : Nat} {x : α} (hk : l[k]? = some x) : (l.take (k + 1)).any p = ((l.take k).any p || p x) := by
  obtain ⟨h, e⟩ := List.getElem?_eq_some_iff.1 hk
  rw [List.take_succ_eq_append_getElem h, List.any_append, e]
  simp
set_option maxRecDepth 100000 in
set_option maxHeartbeats 2000000 in
theorem great_any {P : Nat → Prop} {w : World} {A : Option Addr} {n : Nat} {xs : List A1} (h : ActS P w A n xs) (c : Nat) (hn : n ≤ 140737488355328) (hy : ∀ x ∈ xs, x.l.bs.length ≤ 140737488355328) : Calls Try.prog 8 #[.slice A n c] w fun e w' => e = .returned (.bool (greatF xs)) ∧ w' = w := by
  obtain ⟨r, hr⟩ : ∃ r, r = greatF xs := ⟨_, rfl⟩
  rw [← hr]
  have hl := h.len
  by_cases h60 : 60 < n
  · have e : r = true := by rw [hr]; unfold greatF; rw [decide_eq_true (by omega)]; rfl
    subst e
    have hi : (60 : Int) < (n : Int) := by omega
    clear hr h hl hy
    go_enter Try.func8, Try.ntmps8
    go_wp2_with fail
    go_ret
    exact ⟨rfl, rfl⟩
  · have HR : Hid (r = xs.any bigA) := by
      show _ = _
      rw [hr]; unfold greatF; rw [decide_eq_false (by omega)]; rfl
    have HL := Lib.hid hl
    have HS := Lib.hid h
    have HY := Lib.hid hy
    have hi : ¬ (60 : Int) < (n : Int) := by omega
    clear hr h hl hy
    go_enter Try.func8, Try.ntmps8
    go_wp2_with fail
    go_loop [3] (fun i => RelG xs n i) (fun i => n - (intOf i).toNat)
    case atStart => exact ⟨0, Nat.zero_le _, rfl, by simp⟩
    case round =>
      obtain ⟨k, hk, rfl, hall⟩ := hrel
      have HALL := Lib.hid hall
      clear hall
      by_cases hlt : k < n
      · have hk1 : k < xs.length := by rw [HL.out]; exact hlt
        have hx := List.getElem?_eq_getElem hk1
        generalize xs[k] = x at hx
        obtain ⟨b, o, X, m, c2, rfl, -, -, -, -, -, -, -, c6, -, hrd, -, -⟩ := HS.out.get hx
        have hm := hrd.len
        have HM : Hid (x.l.bs.length = m) := hm
        have hm2 := HY.out x (List.mem_of_getElem? hx)
        have hm3 : m ≤ 140737488355328 := by omega
        have HAT := Lib.hid (any_takes (p := bigA) hx)
        have HIN := Lib.hid (List.mem_of_getElem? hx)
        clear hx hrd hm hm2 hk1
        by_cases hb : 200 < m
        · have HANY : Hid (r = true) := by
            show _ = _
            rw [HR.out]
            exact List.any_eq_true.2 ⟨x, HIN.out, by unfold bigA; rw [HM.out]; exact decide_eq_true hb⟩
          have hb' : (200 : Int) < (m : Int) := by omega
          go_wp2_with fail
          go_ret
          exact ⟨by rw [HANY.out]; exact rfl, rfl⟩
        · have HREL : Hid ((xs.take (k + 1)).any bigA = false) := by
            show _ = _
            rw [HAT.out, HALL.out]
            unfold bigA
            rw [HM.out, decide_eq_false hb]
            rfl
          have hb' : ¬ (200 : Int) < (m : Int) := by omega
          go_wp2_with fail
          go_round
          case rel => exact ⟨k + 1, by omega, by go_num, HREL.out⟩
          case measure => simp [intOf]; omega
      · obtain rfl : k = n := by omega
        have HNO : Hid (r = false) := by
          show _ = _
          have h1 := HALL.out
          rwa [List.take_of_length_le (by rw [HL.out]; exact Nat.le_refl _), ← HR.out] at h1
        clear hlt
        have v1 : ¬ (k : Int) < (k : Int) := by omega
        go_wp2_with fail
        go_ret
        exact ⟨by rw [HNO.out]; exact rfl, rfl⟩
end Go.Proofs.Ytephciglcikllaa.Net
