/- The laws' own bound: great. -/
import Derived.Test.YtaokjkhailpemaaDoorTreeArgs
namespace Go.Proofs.YtaokjkhailpemaaDoor.Tree
open Go.RowKit Path

def sumL (xss : List (List Ef)) : Nat := (xss.map List.length).sum
def okE (x : Ef) : Prop := x.path.length ≤ 200 ∧ x.node.data.length ≤ 200
/-- No more than a statement looks at. -/
def SmallL (xss : List (List Ef)) : Prop := xss.length ≤ 40 ∧ sumL xss ≤ 200 ∧ ∀ xs ∈ xss, ∀ x ∈ xs, okE x
def SmallT (xss : List (List Ef)) (i : Nat) : Prop := ∀ xs ∈ xss.take i, ∀ x ∈ xs, okE x
theorem sumL_take_succ {xss : List (List Ef)} {i : Nat} (h : i < xss.length) : sumL (xss.take (i + 1)) = sumL (xss.take i) + xss[i].length := by
  unfold sumL
  rw [← List.take_append_getElem h, List.map_append, List.sum_append]
  simp
theorem SmallT.succ {xss : List (List Ef)} {i : Nat} (h : i < xss.length) (hs : SmallT xss i) (hx : ∀ x ∈ xss[i], okE x) : SmallT xss (i + 1) := by
  intro xs hxs
  rw [← List.take_append_getElem h, List.mem_append] at hxs
  rcases hxs with hxs | hxs
  · exact hs xs hxs
  · simp at hxs; subst hxs; exact hx
theorem ok_succ {xs : List Ef} {k : Nat} (h : k < xs.length) (hs : ∀ x ∈ xs.take k, okE x) (hx : okE xs[k]) : ∀ x ∈ xs.take (k + 1), okE x := by
  intro x hxs
  rw [← List.take_append_getElem h, List.mem_append] at hxs
  rcases hxs with hxs | hxs
  · exact hs x hxs
  · simp at hxs; subst hxs; exact hx

set_option maxRecDepth 8000 in
set_option maxHeartbeats 2000000 in
theorem great_any (P : Nat → Prop) (A : Option Addr) (n c : Nat) (xss : List (List Ef)) (w : World) (h : EfSS P w A n xss) : Calls Tryd.prog 9 #[.slice A n c] w fun e w' => w' = w ∧ (e = .returned (.bool true) ∨ (e = .returned (.bool false) ∧ SmallL xss)) := by
  have hl := h.len
  have HE := Lib.hid h
  clear h
  by_cases h40 : 40 < n
  · go_enter Tryd.func9, Tryd.ntmps9
    go_wp2_with fail
    go_ret
    exact ⟨rfl, .inl rfl⟩
  · go_enter Tryd.func9, Tryd.ntmps9
    go_wp2_with fail
    go_loop [3, 4] (fun z i => ∃ j : Nat, j ≤ n ∧ i = .int .i64 (j : Int) ∧ z = .int .i64 (sumL (xss.take j) : Int) ∧ sumL (xss.take j) ≤ 200 ∧ SmallT xss j) (fun _ i => n - (intOf i).toNat)
    case atStart => exact ⟨0, by omega, rfl, rfl, Nat.zero_le _, fun xs hxs => by simp at hxs⟩
    case round =>
      obtain ⟨j, hj, rfl, rfl, hs, hsm⟩ := hrel
      have HSM := Lib.hid hsm
      clear hsm
      by_cases hlt : j < n
      · have hjx : j < xss.length := by omega
        obtain ⟨b, o, B, m, cc, rfl, hcell, hm1, hm2, hE⟩ := HE.out.at_ hjx
        have HSU := Lib.hid (sumL_take_succ hjx)
        have HST := Lib.hid (SmallT.succ hjx HSM.out)
        generalize xss[j] = xs at *
        have hml := hE.len
        have HE2 := Lib.hid hE
        have v1 : (j : Int) < (n : Int) := by omega
        have hmx : m ≤ 9223372036854775807 := by unfold maxLen at hm2; omega
        clear hE hjx HSM
        generalize hsj : sumL (xss.take j) = sj at *
        clear hsj
        go_wp2_with fail
        go_loop [3, 5] (fun z i => ∃ k : Nat, k ≤ m ∧ i = .int .i64 (k : Int) ∧ z = .int .i64 ((sj + k : Nat) : Int) ∧ sj + k ≤ 200 ∧ ∀ x ∈ xs.take k, okE x) (fun _ i => m - (intOf i).toNat)
        case atStart => exact ⟨0, by omega, rfl, rfl, by omega, fun x hx => by simp at hx⟩
        case round =>
          obtain ⟨k, hk, rfl, rfl, hks, hok⟩ := hrel
          have HOK := Lib.hid hok
          clear hok
          by_cases hklt : k < m
          · have hkx : k < xs.length := by omega
            obtain ⟨b2, o2, D, m2, c2, rfl, _, _, hdl, hc⟩ := HE2.out.at_ hkx
            have h0 := hc 0 _ rfl
            have h2 := hc 2 _ rfl
            rw [show o2 + (11 * k + 0) = o2 + k * 11 by omega] at h0
            rw [show o2 + (11 * k + 2) = o2 + k * 11 + 2 by omega] at h2
            have HK := Lib.hid (ok_succ hkx HOK.out)
            have v2 : (k : Int) < (m : Int) := by omega
            have hz : ((S xs[k].path).size : Int) = (xs[k].path.length : Int) := by rw [S_size]
            clear hc
            generalize xs[k] = x at *
            generalize S x.path = s at *
            by_cases g1 : 200 < x.path.length
            · go_wp2_with fail
              go_ret
              exact ⟨rfl, .inl rfl⟩
            · by_cases g2 : 200 < m2
              · go_wp2_with fail
                go_ret
                exact ⟨rfl, .inl rfl⟩
              · by_cases g3 : 200 < sj + k + 1
                · have v3 : (200 : Int) < (sj : Int) + (k : Int) + 1 := by omega
                  go_wp2_with fail
                  go_ret
                  exact ⟨rfl, .inl rfl⟩
                · have v3 : ¬ (200 : Int) < (sj : Int) + (k : Int) + 1 := by omega
                  have HK2 := Lib.hid (HK.out ⟨by omega, by omega⟩)
                  go_wp2_with fail
                  exact ⟨⟨k + 1, by omega, rfl, by congr 1, by omega, HK2.out⟩, by simp [intOf]; omega⟩
          · obtain rfl : k = m := by omega
            have HOK2 : Hid (∀ x ∈ xs, okE x) := by
              have h := HOK.out
              rw [List.take_of_length_le (by omega)] at h
              exact h
            have v2 : ¬ (k : Int) < (k : Int) := by omega
            go_wp2_with fail
            exact ⟨⟨j + 1, by omega, rfl, by rw [HSU.out, hml], by rw [HSU.out, hml]; omega, HST.out HOK2.out⟩, by simp [intOf]; omega⟩
      · obtain rfl : j = n := by omega
        have v1 : ¬ (j : Int) < (j : Int) := by omega
        go_wp2_with fail
        go_ret
        refine ⟨rfl, .inr ⟨rfl, by omega, ?_, ?_⟩⟩
        · rwa [List.take_of_length_le (by omega)] at hs
        · have h := HSM.out
          unfold SmallT at h
          rwa [List.take_of_length_le (by omega)] at h
/-- The slices in a row of rows, as values. -/
theorem EfSS.vals {P : Nat → Prop} {w : World} {A : Option Addr} {n : Nat} {xss : List (List Ef)} (h : EfSS P w A n xss) : ∃ vs, RdV w A n vs ∧ (∀ u ∈ vs, u.oneCell' = true) ∧ ∀ j, (hj : j < xss.length) → ∃ B m c, vs[j]? = some (.slice B m c) ∧ m ≤ c ∧ c ≤ maxLen ∧ EfS P w B m xss[j] := by
  have each : ∀ j, j < n → ∃ (q : Option Addr × Nat × Nat), ∃ ad, A = some ad ∧ w.cell? (ad.add j) = some (.slice q.1 q.2.1 q.2.2) ∧ q.2.1 ≤ q.2.2 ∧ q.2.2 ≤ maxLen ∧ ∀ hj : j < xss.length, EfS P w q.1 q.2.1 xss[j] := by
    intro j hj
    obtain ⟨ad, B, m, c, e, _, hc, h1, h2, h3⟩ := h.cells j (by rw [h.len]; exact hj)
    exact ⟨(B, m, c), ad, e, hc, h1, h2, fun _ => h3⟩
  haveI : Inhabited (Option Addr × Nat × Nat) := ⟨(none, 0, 0)⟩
  obtain ⟨q, hq⟩ := Go.Deep.choose_lt each
  refine ⟨(List.range n).map fun j => .slice (q j).1 (q j).2.1 (q j).2.2, ⟨by simp, fun h0 => ?_⟩, ?_, fun j hj => ?_⟩
  · obtain ⟨ad, e, _⟩ := hq 0 h0
    refine ⟨ad, e, fun j v hv => ?_⟩
    rw [List.getElem?_map] at hv
    have hjn : j < n := by
      rcases Nat.lt_or_ge j n with h | h
      · exact h
      · rw [List.getElem?_eq_none (by simpa using h)] at hv; cases hv
    rw [List.getElem?_range hjn] at hv
    injection hv with hv
    obtain ⟨ad', e', hc, _⟩ := hq j hjn
    rw [e] at e'
    injection e' with e'
    subst e'
    rw [← hv]
    exact hc
  · intro u hu
    obtain ⟨j, _, rfl⟩ := List.mem_map.1 hu
    rfl
  · have hjn : j < n := by rw [← h.len]; exact hj
    obtain ⟨ad, e, hc, h1, h2, h3⟩ := hq j hjn
    exact ⟨_, _, _, by rw [List.getElem?_map, List.getElem?_range hjn]; rfl, h1, h2, h3 hj⟩
theorem EfSS.of_vals {P : Nat → Prop} {w : World} {A : Option Addr} {n : Nat} {xss : List (List Ef)} {vs : List Value} (hr : RdV w A n vs) (hn : xss.length = n) (hv : ∀ j, (hj : j < xss.length) → ∃ B m c, vs[j]? = some (.slice B m c) ∧ m ≤ c ∧ c ≤ maxLen ∧ EfS P w B m xss[j]) : EfSS (fun _ => True) w A n xss :=
  ⟨hn, fun j hj => by
    obtain ⟨ad, e, hc⟩ := hr.cells (by omega)
    obtain ⟨B, m, c, h0, h1, h2, h3⟩ := hv j hj
    exact ⟨ad, B, m, c, e, trivial, hc j _ h0, h1, h2, h3.any⟩⟩
end Go.Proofs.YtaokjkhailpemaaDoor.Tree
