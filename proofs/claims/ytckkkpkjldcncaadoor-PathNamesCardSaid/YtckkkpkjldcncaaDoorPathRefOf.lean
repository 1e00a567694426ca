/- The document's own answers for paths: a path of parts; texts that are the same; under. -/
import Derived.Test.YtckkkpkjldcncaaDoorPathRefParts
import Derived.BigQuiet
namespace Go.Proofs.YtckkkpkjldcncaaDoor.Path
open Go.RowKit

theorem S_append (a b : List UInt8) : S a ++ S b = S (a ++ b) := by
  apply ByteArray.ext
  simp [S]

set_option maxRecDepth 8000 in
set_option maxHeartbeats 1000000 in
theorem refOf_any (A : Option Addr) (n c : Nat) (ps : List (List UInt8)) (w : World) (h : RdV w A n (sv ps)) (hn : n ≤ 1000000) (hl : (ps.flatMap (47 :: ·)).length ≤ 1000000) :
    Calls Tryd.prog 18 #[.slice A n c] w fun e w' => e = .returned (.string (S (ofL ps))) ∧ w = w' := by
  have hpn : ps.length = n := by rw [← h.len, sv_length]
  have H := Lib.hid h
  clear h
  by_cases h0 : n = 0
  · have HR : Hid (ofL ps = [47]) := by
      have : ps = [] := List.eq_nil_of_length_eq_zero (by omega)
      subst this; rfl
    subst h0
    go_enter Tryd.func18, Tryd.ntmps18
    go_wp2_with fail
    go_ret
    rw [HR.out]
    exact ⟨rfl, rfl⟩
  · have HR : Hid (ofL ps = ps.flatMap (47 :: ·)) := by
      show _ = _
      unfold ofL
      rw [if_neg (by rintro rfl; simp at hpn; omega)]
    have z0 : ((n : Int) == 0) = false := beq_eq_false_iff_ne.2 (by omega)
    have HL := Lib.hid hl
    clear hl
    go_enter Tryd.func18, Tryd.ntmps18
    go_wp2_with fail
    go_loop [3, 4] (fun s i => ∃ k : Nat, k ≤ n ∧ i = .int .i64 (k : Int) ∧ s = .string (S ((ps.take k).flatMap (47 :: ·)))) (fun _ i => n - (intOf i).toNat)
    case atStart => exact ⟨0, by omega, rfl, rfl⟩
    case round =>
      obtain ⟨k, hk, rfl, rfl⟩ := hrel
      by_cases hlt : k < n
      · have hkp : k < ps.length := by omega
        obtain ⟨ad, rfl, hcell⟩ := H.out.cells (by omega)
        have hc := hcell k _ (sv_get hkp)
        clear hcell
        have HT : Hid ((ps.take (k + 1)).flatMap (47 :: ·) = (ps.take k).flatMap (47 :: ·) ++ 47 :: ps[k]) := by
          show _ = _
          rw [← List.take_append_getElem hkp, List.flatMap_append]
          simp
        have HLE : Hid (((ps.take (k + 1)).flatMap (47 :: ·)).length ≤ 1000000) := by
          have h1 := HL.out
          rw [← List.take_append_drop (k + 1) ps, List.flatMap_append, List.length_append] at h1
          show _ ≤ _
          omega
        have hs1 : (S ((ps.take k).flatMap (47 :: ·))).size ≤ 1000000 := by
          have := HLE.out
          rw [HT.out, List.length_append] at this
          rw [S_size]
          omega
        have hs2 : (S ps[k]).size ≤ 1000000 := by
          have := HLE.out
          rw [HT.out, List.length_append, List.length_cons] at this
          rw [S_size]
          omega
        have HF : Hid (S ((ps.take k).flatMap (47 :: ·)) ++ ⟨#[47]⟩ ++ S ps[k] = S ((ps.take (k + 1)).flatMap (47 :: ·))) := by
          show _ = _
          rw [HT.out, show (⟨#[47]⟩ : ByteArray) = S [47] from rfl, S_append, S_append]
          simp
        generalize S ((ps.take k).flatMap (47 :: ·)) = X at *
        generalize S ps[k] = Y at *
        go_wp2_with fail
        exact ⟨⟨k + 1, by omega, rfl, by rw [← HF.out]⟩, by simp [intOf]; omega⟩
      · obtain rfl : k = n := by omega
        have HT : Hid (ps.take k = ps) := List.take_of_length_le (by omega)
        rw [HT.out]
        go_wp2_with fail
        go_ret
        rw [HR.out]
        exact ⟨rfl, rfl⟩

theorem below_drewN {B : Nat} {w w' : World} (h : Below B w w') (m : Nat) : Below B w (w'.drewN m) := ⟨h.os, h.tape, h.output, h.size, h.block⟩

/-- Two texts of two rows, at one place. -/
theorem two_at {w : World} {A B : Option Addr} {n m k : Nat} {a b : List (List UInt8)} (ha : RdV w A n (sv a)) (hb : RdV w B m (sv b)) (h1 : k < a.length) (h2 : k < b.length) :
    ∃ p q, A = some p ∧ B = some q ∧ ∀ W, Below w.heap.size w W → ∀ r, (W.drewN r).cell? (p.add k) = some (.string (S a[k])) ∧ (W.drewN r).cell? (q.add k) = some (.string (S b[k])) := by
  have e1 : n = a.length := by rw [← ha.len, sv_length]
  have e2 : m = b.length := by rw [← hb.len, sv_length]
  obtain ⟨p, rfl, hc1⟩ := ha.cells (by omega)
  obtain ⟨q, rfl, hc2⟩ := hb.cells (by omega)
  refine ⟨p, q, rfl, rfl, fun W hW r => ?_⟩
  obtain ⟨_, x1, hd1⟩ := (ha.below (below_drewN hW r)).cells (by omega)
  obtain ⟨_, x2, hd2⟩ := (hb.below (below_drewN hW r)).cells (by omega)
  injection x1 with x1
  injection x2 with x2
  subst x1 x2
  exact ⟨hd1 k _ (sv_get h1), hd2 k _ (sv_get h2)⟩

theorem take_ne {a b : List (List UInt8)} {k : Nat} (h1 : k < a.length) (h2 : k < b.length) (hne : ¬ a[k] = b[k]) : ¬ a.take (k + 1) = b.take (k + 1) := by
  intro h
  have := congrArg (fun l => l[k]?) h
  simp only [List.getElem?_take, if_pos (Nat.lt_succ_self k), List.getElem?_eq_getElem h1, List.getElem?_eq_getElem h2] at this
  injection this with this
  exact hne this
theorem take_eq {a b : List (List UInt8)} {k : Nat} (h1 : k < a.length) (h2 : k < b.length) (h : a.take k = b.take k) (he : a[k] = b[k]) : a.take (k + 1) = b.take (k + 1) := by
  rw [← List.take_append_getElem h1, ← List.take_append_getElem h2, h, he]

set_option maxRecDepth 8000 in
set_option maxHeartbeats 1000000 in
theorem texts_any (A B : Option Addr) (n c m d : Nat) (a b : List (List UInt8)) (w : World) (ha : RdV w A n (sv a)) (hb : RdV w B m (sv b)) (hn : n ≤ 1000000) (hm : m ≤ 1000000) :
    Calls Tryd.prog 19 #[.slice A n c, .slice B m d] w fun e w' => e = .returned (.bool (decide (a = b))) ∧ Below w.heap.size w w' := by
  have hna : a.length = n := by rw [← ha.len, sv_length]
  have hmb : b.length = m := by rw [← hb.len, sv_length]
  have HA := Lib.hid ha
  have HB := Lib.hid hb
  clear ha hb
  by_cases hnm : n = m
  · subst hnm
    have z0 : ((n : Int) != (n : Int)) = false := by simp
    go_enter Tryd.func19, Tryd.ntmps19
    go_wp2_with fail
    go_loopw [5] (fun i wr => ∃ k : Nat, k ≤ n ∧ i = .int .i64 (k : Int) ∧ a.take k = b.take k ∧ Below w.heap.size w wr) (fun i _ => n - (intOf i).toNat)
    case atStart => exact ⟨0, by omega, rfl, rfl, Below.refl _ _⟩
    case round =>
      obtain ⟨k, hk, rfl, htk, hbel⟩ := hrel
      have HT := Lib.hid htk
      have HBe := Lib.hid hbel
      clear htk hbel
      by_cases hlt : k < n
      · have hka : k < a.length := by omega
        have hkb : k < b.length := by omega
        obtain ⟨p, q, rfl, rfl, hc⟩ := two_at HA.out HB.out hka hkb
        have hc1 := fun r => (hc wr HBe.out r).1
        have hc2 := fun r => (hc wr HBe.out r).2
        clear hc
        have v1 : (k : Int) < (n : Int) := by omega
        have hy1 := S_list a[k]
        have hy2 := S_list b[k]
        have HNE := Lib.hid (take_ne hka hkb)
        have HEQ := Lib.hid (take_eq hka hkb HT.out)
        generalize S a[k] = X at *
        generalize S b[k] = Y at *
        by_cases he : a[k] = b[k]
        · have HT2 := Lib.hid (HEQ.out he)
          have hq : (!(X.toList == Y.toList)) = false := by rw [hy1, hy2, he]; simp
          clear hy1 hy2 HNE HEQ he
          go_wp2_with fail
          go_quiet (fail)
          have HBq := Lib.hid (below_drewN HBe.out nq)
          generalize wr.drewN nq = wq at *
          clear hc1 hc2
          go_wp2_with fail
          exact ⟨⟨k + 1, by omega, rfl, HT2.out, HBq.out⟩, by simp [intOf]; omega⟩
        · have HD : Hid (decide (a = b) = false) := by
            show _ = _
            refine decide_eq_false ?_
            rintro rfl
            exact HNE.out he rfl
          have hq : (!(X.toList == Y.toList)) = true := by rw [hy1, hy2]; simp [he]
          clear hy1 hy2 HNE HEQ he
          go_wp2_with fail
          go_quiet (fail)
          have HBq := Lib.hid (below_drewN HBe.out nq)
          generalize wr.drewN nq = wq at *
          clear hc1 hc2
          go_wp2_with fail
          go_ret
          rw [HD.out]
          exact ⟨rfl, HBq.out⟩
      · obtain rfl : k = n := by omega
        have HD : Hid (decide (a = b) = true) := by
          show _ = _
          refine decide_eq_true ?_
          have := HT.out
          rwa [List.take_of_length_le (by omega), List.take_of_length_le (by omega)] at this
        go_wp2_with fail
        go_ret
        rw [HD.out]
        exact ⟨rfl, HBe.out⟩
  · have z0 : ((n : Int) != (m : Int)) = true := bne_iff_ne.2 (by omega)
    have HD : Hid (decide (a = b) = false) := by
      show _ = _
      refine decide_eq_false ?_
      rintro rfl
      omega
    go_enter Tryd.func19, Tryd.ntmps19
    go_wp2_with fail
    go_ret
    rw [HD.out]
    exact ⟨rfl, Below.refl _ _⟩
end Go.Proofs.YtckkkpkjldcncaaDoor.Path
