/- The document's own Commit; rows of bools. -/
import Derived.Test.YtcnmfbbliaemhaaBalFrame
namespace Go.Proofs.Ytcnmfbbliaemhaa.Bal
open Go.RowKit

theorem vi_at {A : Option Addr} {n : Nat} {zs : List Int} {w : World} (h : RdV w A n (vi zs)) {k : Nat} (hk : k < zs.length) : ∃ ad, A = some ad ∧ w.cell? (ad.add k) = some (.int .i64 zs[k]) := by
  have hl := h.len
  rw [vi_length] at hl
  obtain ⟨ad, e, hc⟩ := h.cells (by omega)
  exact ⟨ad, e, hc k _ (by simp [vi, hk])⟩
def RelO (w : World) (zs : List Int) (n : Nat) (b s i : Value) (wr : World) : Prop := ∃ k : Nat, k ≤ n ∧ i = .int .i64 (k : Int) ∧ b = .int .i64 ((sofar zs k).getD 0) ∧ s = .bool (sofar zs k).isSome ∧ Below w.heap.size w wr
def RelI (w : World) (zs : List Int) (n : Nat) (x : Int) (c i : Value) (wr : World) : Prop := ∃ k : Nat, k ≤ n ∧ i = .int .i64 (k : Int) ∧ c = .int .i64 (geN (zs.take k) x : Nat) ∧ Below w.heap.size w wr
theorem take_snoc (zs : List Int) {k : Nat} (hk : k < zs.length) : zs.take (k + 1) = zs.take k ++ [zs[k]] := (List.take_append_getElem hk).symm
theorem sofar_no {zs : List Int} {k : Nat} (hk : k < zs.length) (h : ¬ quorum zs.length ≤ geN zs zs[k]) : sofar zs (k + 1) = sofar zs k := by
  simp only [sofar, List.getElem?_eq_getElem hk, if_neg h]
theorem sofar_first {zs : List Int} {k : Nat} (hk : k < zs.length) (h : quorum zs.length ≤ geN zs zs[k]) (hs : sofar zs k = none) : sofar zs (k + 1) = some zs[k] := by
  simp only [sofar, List.getElem?_eq_getElem hk, if_pos h, hs]
theorem sofar_more {zs : List Int} {k : Nat} {b : Int} (hk : k < zs.length) (h : quorum zs.length ≤ geN zs zs[k]) (hs : sofar zs k = some b) (hb : b < zs[k]) : sofar zs (k + 1) = some zs[k] := by
  simp only [sofar, List.getElem?_eq_getElem hk, if_pos h, hs, if_pos hb]
theorem sofar_less {zs : List Int} {k : Nat} {b : Int} (hk : k < zs.length) (h : quorum zs.length ≤ geN zs zs[k]) (hs : sofar zs k = some b) (hb : ¬ b < zs[k]) : sofar zs (k + 1) = some b := by
  simp only [sofar, List.getElem?_eq_getElem hk, if_pos h, hs, if_neg hb]
theorem sofar_end {zs : List Int} {n : Nat} (h : zs.length = n) : (sofar zs n).getD 0 = best zs := by
  subst h
  by_cases h0 : zs = []
  · subst h0
    rw [best_nil]
    rfl
  · rw [sofar_best h0]
    rfl
set_option maxRecDepth 100000 in
set_option maxHeartbeats 4000000 in
theorem refcommit_any {A : Option Addr} {n c : Nat} {zs : List Int} {w : World} (h : RdV w A n (vi zs)) (hn : n ≤ 1000000) :
    Calls Try.prog 16 #[.slice A n c] w fun e w' => e = .returned (.int .i64 (best zs)) ∧ Below w.heap.size w w' := by
  have hl : zs.length = n := by rw [← h.len, vi_length]
  have HE := Lib.hid (sofar_end hl)
  have HL := Lib.hid hl
  have HR := Lib.hid h
  clear h hl
  go_enter Try.func16, Try.ntmps16
  go_wp2_with fail
  go_loopw [3, 4, 5] (fun b s i wr => RelO w zs n b s i wr) (fun _ _ i _ => n - (intOf i).toNat)
  case atStart => exact ⟨0, Nat.zero_le _, rfl, rfl, rfl, Below.refl _ _⟩
  case round =>
    obtain ⟨k, hk, rfl, rfl, rfl, hb⟩ := hrel
    have HB := Lib.hid hb
    clear hb
    by_cases hlt : k < n
    · have hkl : k < zs.length := by rw [HL.out]; exact hlt
      obtain ⟨ad, rfl, hck⟩ := vi_at (HR.out.below HB.out) hkl
      have HNO := Lib.hid (sofar_no hkl)
      have HFI := Lib.hid (sofar_first hkl)
      have HMO := Lib.hid (fun b => sofar_more (b := b) hkl)
      have HLE := Lib.hid (fun b => sofar_less (b := b) hkl)
      have HQ : Hid (quorum zs.length = n / 2 + 1) := by show _ = _; rw [HL.out]; rfl
      obtain ⟨x, hx⟩ : ∃ x, x = zs[k] := ⟨_, rfl⟩
      rw [← hx] at hck HNO HFI HMO HLE
      have HX := Lib.hid hx
      have vk : (k : Int) < (n : Int) := by omega
      clear hx
      obtain ⟨so, hso⟩ : ∃ so, so = sofar zs k := ⟨_, rfl⟩
      rw [← hso] at HNO HFI HMO HLE ⊢
      have HSO := Lib.hid hso
      clear hso
      go_wp2_with fail
      obtain ⟨wo, hwo⟩ : ∃ wo : World, wo = wr := ⟨_, rfl⟩
      subst hwo
      go_loopw [6, 7] (fun g j wr => RelI wo zs n x g j wr) (fun _ j _ => n - (intOf j).toNat)
      case atStart => exact ⟨0, Nat.zero_le _, rfl, rfl, Below.refl _ _⟩
      case round =>
        obtain ⟨j, hj, rfl, rfl, hb⟩ := hrel
        have HB2 := Lib.hid hb
        have hck2 : wr.cell? (ad.add k) = some (.int .i64 x) := (hb.cell (World.block_lt_of_cell? wo _ hck)).trans hck
        clear hb
        by_cases hjt : j < n
        · have hjl : j < zs.length := by rw [HL.out]; exact hjt
          obtain ⟨ad2, e2, hcj⟩ := vi_at ((HR.out.below HB.out).below HB2.out) hjl
          injection e2 with e2
          subst e2
          have HG : Hid (geN (zs.take (j + 1)) x = geN (zs.take j) x + if x ≤ zs[j] then 1 else 0) := by show _ = _; rw [take_snoc zs hjl, geN_snoc]
          have hgb : geN (zs.take j) x ≤ j := Nat.le_trans (geN_le _ _) (List.length_take_le _ _)
          obtain ⟨y, hy⟩ : ∃ y, y = zs[j] := ⟨_, rfl⟩
          rw [← hy] at hcj HG
          generalize geN (zs.take j) x = g at *
          have vj : (j : Int) < (n : Int) := by omega
          clear hy hck
          by_cases hxy : x ≤ y
          · have HG2 : Hid (geN (zs.take (j + 1)) x = g + 1) := by show _ = _; rw [HG.out, if_pos hxy]
            clear HG
            go_wp2_with fail
            go_quiet (fail)
            go_wp2_with fail
            exact ⟨⟨j + 1, by omega, by go_num, by rw [HG2.out]; go_num, HB2.out.trans (below_drewN _ _ _)⟩, by simp [intOf]; omega⟩
          · have HG2 : Hid (geN (zs.take (j + 1)) x = g) := by show _ = _; rw [HG.out, if_neg hxy]; omega
            clear HG
            go_wp2_with fail
            go_quiet (fail)
            go_wp2_with fail
            exact ⟨⟨j + 1, by omega, by go_num, by rw [HG2.out], HB2.out.trans (below_drewN _ _ _)⟩, by simp [intOf]; omega⟩
        · obtain rfl : j = n := by omega
          have HG : Hid (geN (zs.take j) x = geN zs x) := by show _ = _; rw [List.take_of_length_le (by rw [HL.out]; exact Nat.le_refl _)]
          rw [HG.out]
          have hgb : geN zs x ≤ j := by have := geN_le zs x; rw [HL.out] at this; exact this
          have HB3 := Lib.hid (HB.out.trans (HB2.out.mono HB.out.size))
          generalize geN zs x = g at *
          clear hck hjt
          by_cases hq : j < 2 * g
          · have hqq : quorum zs.length ≤ g := by rw [HQ.out]; omega
            have hq2 : (j : Int) < 2 * (g : Int) := by omega
            clear hq
            cases so with
            | none =>
              have HN := Lib.hid (HFI.out hqq rfl)
              clear hqq
              go_wp2_with fail
              exact ⟨⟨k + 1, by omega, by go_num, by rw [HN.out]; rfl, by rw [HN.out]; rfl, HB3.out⟩, by simp [intOf]; omega⟩
            | some b =>
              by_cases hbx : b < x
              · have HN := Lib.hid (HMO.out b hqq rfl hbx)
                clear hqq
                go_wp2_with fail
                exact ⟨⟨k + 1, by omega, by go_num, by rw [HN.out]; rfl, by rw [HN.out]; rfl, HB3.out⟩, by simp [intOf]; omega⟩
              · have HN := Lib.hid (HLE.out b hqq rfl (by omega))
                clear hqq
                go_wp2_with fail
                exact ⟨⟨k + 1, by omega, by go_num, by rw [HN.out], by rw [HN.out], HB3.out⟩, by simp [intOf]; omega⟩
          · have HN : Hid (sofar zs (k + 1) = so) := HNO.out (by rw [HQ.out]; omega)
            have hq2 : ¬ (j : Int) < 2 * (g : Int) := by omega
            clear hq
            go_wp2_with fail
            exact ⟨⟨k + 1, by omega, by go_num, by rw [HN.out], by rw [HN.out], HB3.out⟩, by simp [intOf]; omega⟩
    · obtain rfl : k = n := by omega
      rw [HE.out]
      clear hlt
      have vk : ¬ (k : Int) < (k : Int) := by omega
      go_wp2_with fail
      go_ret
      exact ⟨rfl, HB.out⟩
end Go.Proofs.Ytcnmfbbliaemhaa.Bal
