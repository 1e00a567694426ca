/- The contracts of path's calls, for the landed code. -/
import Derived.Test.YtplbckibogmicaaGreatDoorPathSplit
import Derived.Deep.RegionHeld3
namespace Go.Proofs.YtplbckibogmicaaGreatDoor.Path
open Go.RowKit

theorem length_of {l : List UInt8} {ps : List (List UInt8)} (h : partsF l = some ps) : ps.length ≤ 64 := by
  have h1 := (parts_iff l ps).1 h
  have h2 := h1.2.1
  rw [h1.1] at h2
  exact Nat.le_trans (ofL_length ps) h2
theorem parent_len {l : List UInt8} {ps : List (List UInt8)} (h : partsF l = some ps) : (ofL ps.dropLast).length ≤ 64 := by
  have h1 := (parts_iff l ps).1 h
  have h2 := h1.2.1
  rw [h1.1] at h2
  refine Nat.le_trans ?_ h2
  by_cases h0 : ps = []
  · subst h0; exact Nat.le_refl _
  · unfold ofL
    rw [if_neg h0]
    have h3 : (ps.flatMap (47 :: ·)).length = (ps.dropLast.flatMap (47 :: ·)).length + (ps.getLast h0).length + 1 := by
      conv => lhs; rw [← List.dropLast_concat_getLast h0, List.flatMap_append, List.length_append]
      simp
      omega
    split
    · show 1 ≤ _; omega
    · omega
set_option maxRecDepth 8000 in
set_option maxHeartbeats 1000000 in
theorem whole_any (A : Option Addr) (n c : Nat) (ps : List (List UInt8)) (w : World) (h : RdS w A ps) (hn : ps.length = n) (hc : n ≤ c) (hN : n ≤ 1000) (hl : (ofL ps).length ≤ 1000000000) : Calls Tryz.prog 110 #[.slice A n c] w fun e w' => e = .returned (.string (S (ofL ps))) ∧ Below w.heap.size w w' := by
  have hj := ofL_join ps
  rw [← hj] at hl ⊢
  subst hn
  have cj := strJoin_any A c ps w h hc hN (by simp at hl; omega)
  have hz : (S (Lib.join ps [47])).size ≤ 1000000000 := by rw [S_size]; simp at hl; omega
  have hap : (⟨#[47]⟩ : ByteArray) ++ S (Lib.join ps [47]) = S (47 :: Lib.join ps [47]) := by
    apply ByteArray.ext
    simp [S]
  clear hl hj h
  generalize S (47 :: Lib.join ps [47]) = s2 at *
  generalize S (Lib.join ps [47]) = s at *
  go_enter Tryz.func110, Tryz.ntmps110
  go_wp2_with fail
  refine cj.mono ?_
  rintro e w1 ⟨rfl, hb⟩
  have HB := Lib.hid hb
  clear hb cj
  go_wp2_with fail
  go_ret
  exact ⟨rfl, HB.out⟩
set_option maxRecDepth 8000 in
theorem Check_any (l : List UInt8) (w : World) (hl : l.length ≤ 1000000) : Calls Tryz.prog 39 #[.string (S l)] w fun e w' => e = .returned (.int .i64 (checkE l)) ∧ Below w.heap.size w w' := by
  have c := split_any l w hl
  go_enter Tryz.func39, Tryz.ntmps39
  go_wp2_with fail
  refine c.mono ?_
  rintro e w1 ⟨A, n, ok, rfl, hb, hno, hyes⟩
  have hok : (partsF l).isSome = ok := by
    cases hp : partsF l with
    | none => rw [(hno hp).2.2]; rfl
    | some ps => rw [(hyes ps hp).1]; rfl
  have HB := Lib.hid hb
  have HOK := Lib.hid hok
  clear hb c hno hyes hok
  go_wp2_with fail
  refine (errno_any ok w1).mono ?_
  rintro e w2 ⟨rfl, rfl⟩
  cases ok with
  | true =>
    go_wp2_with fail
    go_ret
    exact ⟨by unfold checkE; rw [HOK.out]; rfl, HB.out⟩
  | false =>
    go_wp2_with fail
    go_ret
    exact ⟨by unfold checkE; rw [HOK.out]; rfl, HB.out⟩
set_option maxRecDepth 8000 in
theorem Parent_any (l : List UInt8) (w : World) (hl : l.length ≤ 1000000) : Calls Tryz.prog 93 #[.string (S l)] w fun e w' => e = .returned (.string (S (parentF l))) ∧ Below w.heap.size w w' := by
  have c := split_any l w hl
  go_enter Tryz.func93, Tryz.ntmps93
  go_wp2_with fail
  refine c.mono ?_
  rintro e w1 ⟨A, n, ok, rfl, hb, hno, hyes⟩
  have HB := Lib.hid hb
  clear hb c
  cases hp : partsF l with
  | none =>
    obtain ⟨rfl, rfl, rfl⟩ := hno hp
    have HQ : Hid (parentF l = []) := by show _ = _; unfold parentF; rw [hp]
    clear hno hyes hp
    go_wp2_with fail
    go_ret
    rw [HQ.out]
    exact ⟨rfl, HB.out⟩
  | some ps =>
    obtain ⟨rfl, hn, hr⟩ := hyes ps hp
    have HQ : Hid (parentF l = ofL ps.dropLast) := by show _ = _; unfold parentF; rw [hp]
    have HN64 := length_of hp
    have HLEN : Hid ((ofL ps.dropLast).length ≤ 64) := parent_len hp
    have HR := Lib.hid (RdS.of_own hr)
    clear hr hno hyes hp
    by_cases h0 : n = 0
    · have hps : ps = [] := List.eq_nil_of_length_eq_zero (by omega)
      subst hps h0
      have cw := whole_any A 0 0 [] w1 HR.out rfl (by omega) (by omega) (by decide)
      clear hn HN64
      go_wp2_with fail
      refine cw.mono ?_
      rintro e w2 ⟨rfl, hb⟩
      have HB2 := Lib.hid (HB.out.trans (hb.mono HB.out.size))
      clear hb cw
      go_wp2_with fail
      go_ret
      rw [HQ.out]
      exact ⟨rfl, HB2.out⟩
    · obtain ⟨k, rfl⟩ : ∃ k, n = k + 1 := ⟨n - 1, by omega⟩
      have cw := whole_any A k (k + 1) ps.dropLast w1 (by rw [List.dropLast_eq_take]; exact HR.out.take _) (by rw [List.length_dropLast]; omega) (by omega) (by omega) (Nat.le_trans HLEN.out (by decide))
      have e1 : (((k + 1 : Nat) : Int) - 1) = (k : Int) := by omega
      have e2 : wrap64 (k : Int) = (k : Int) := by unfold wrap64; omega
      have v1 : ¬ (k : Int) < 0 := by omega
      have v2 : (0 : Int) ≤ (k : Int) := by omega
      have v3 : (k : Int) ≤ ((k + 1 : Nat) : Int) := by omega
      have v4 : (k : Int).toNat = k := by omega
      clear h0 hn HN64
      go_wp2_with fail
      refine cw.mono ?_
      rintro e w2 ⟨rfl, hb⟩
      have HB2 := Lib.hid (HB.out.trans (hb.mono HB.out.size))
      clear hb cw
      go_wp2_with fail
      go_ret
      rw [HQ.out]
      exact ⟨rfl, HB2.out⟩
set_option maxRecDepth 8000 in
theorem Base_any (l : List UInt8) (w : World) (hl : l.length ≤ 1000000) : Calls Tryz.prog 67 #[.string (S l)] w fun e w' => e = .returned (.string (S (baseF l))) ∧ Below w.heap.size w w' := by
  have c := split_any l w hl
  go_enter Tryz.func67, Tryz.ntmps67
  go_wp2_with fail
  refine c.mono ?_
  rintro e w1 ⟨A, n, ok, rfl, hb, hno, hyes⟩
  have HB := Lib.hid hb
  clear hb c
  have hps : ∃ ps, partsL l = ps ∧ n = ps.length ∧ RdS w1 A ps ∧ n ≤ 64 := by
    unfold partsL
    cases hp : partsF l with
    | none => obtain ⟨rfl, rfl, rfl⟩ := hno hp; exact ⟨[], rfl, rfl, fun h => absurd h (by simp), by omega⟩
    | some ps => obtain ⟨rfl, h1, hr⟩ := hyes ps hp; exact ⟨ps, rfl, h1, RdS.of_own hr, by rw [h1]; exact length_of hp⟩
  obtain ⟨ps, hp, hn, hr, h64⟩ := hps
  have HR := Lib.hid hr
  have HQ : Hid (baseF l = ps.getLastD []) := by show _ = _; unfold baseF; rw [hp]
  clear hno hyes hr hp
  by_cases h0 : n = 0
  · have hps : ps = [] := List.eq_nil_of_length_eq_zero (by omega)
    subst hps h0
    clear hn
    go_wp2_with fail
    go_ret
    rw [HQ.out]
    exact ⟨rfl, HB.out⟩
  · obtain ⟨k, rfl⟩ : ∃ k, n = k + 1 := ⟨n - 1, by omega⟩
    obtain ⟨g, rfl, hcs⟩ := HR.out (by omega)
    have hcell := hcs k (by omega)
    have HL : Hid (ps.getLastD [] = ps[k]) := by
      show _ = _
      rw [List.getLastD_eq_getLast?, List.getLast?_eq_getElem?, show ps.length - 1 = k by omega, List.getElem?_eq_getElem (by omega)]
      rfl
    have e1 : (((k + 1 : Nat) : Int) - 1) = (k : Int) := by omega
    have e2 : wrap64 (k : Int) = (k : Int) := by unfold wrap64; omega
    have v0 : (((k + 1 : Nat) : Int) == 0) = false := beq_eq_false_iff_ne.2 (by omega)
    have v2 : (0 : Int) ≤ (k : Int) := by omega
    have v3 : (k : Int) < ((k + 1 : Nat) : Int) := by omega
    have v4 : (k : Int).toNat = k := by omega
    rw [HL.out] at HQ
    generalize ps[k] = x at *
    clear hcs h0 hn h64 HL HR
    go_wp2_with fail
    go_ret
    rw [HQ.out]
    exact ⟨rfl, HB.out⟩
set_option maxRecDepth 8000 in
theorem Under_any (p r : List UInt8) (w : World) (hp : p.length ≤ 1000000) (hr : r.length ≤ 1000000) : Calls Tryz.prog 34 #[.string (S p), .string (S r)] w fun e w' => e = .returned (.bool (underF p r)) ∧ Below w.heap.size w w' := by
  have c := split_any p w hp
  go_enter Tryz.func34, Tryz.ntmps34
  go_wp2_with fail
  refine c.mono ?_
  rintro e w1 ⟨A, n, ok1, rfl, hb1, hno1, hyes1⟩
  have HB1 := Lib.hid hb1
  have HS1 := Lib.hid hyes1
  have HN1 := Lib.hid hno1
  clear hb1 hno1 hyes1 c
  have c := split_any r w1 hr
  go_wp2_with fail
  refine c.mono ?_
  rintro e w2 ⟨B, k, ok2, rfl, hb2, hno2, hyes2⟩
  have HB2 := Lib.hid (HB1.out.trans (hb2.mono HB1.out.size))
  have HB12 := Lib.hid hb2
  have HS2 := Lib.hid hyes2
  have HN2 := Lib.hid hno2
  clear hb2 hno2 hyes2 c
  cases hp1 : partsF p with
  | none =>
    obtain ⟨rfl, rfl, rfl⟩ := HN1.out hp1
    have HU : Hid (underF p r = false) := by show _ = _; unfold underF; rw [hp1]
    clear HN1 HN2 HS1 HS2 hp1
    go_wp2_with fail
    go_ret
    rw [HU.out]
    exact ⟨rfl, HB2.out⟩
  | some a =>
    obtain ⟨rfl, hn, ho1⟩ := HS1.out a hp1
    have HA := Lib.hid ((RdS.of_own ho1).below HB12.out)
    clear ho1
    cases hp2 : partsF r with
    | none =>
      obtain ⟨rfl, rfl, rfl⟩ := HN2.out hp2
      have HU : Hid (underF p r = false) := by show _ = _; unfold underF; rw [hp1, hp2]
      clear HN1 HN2 HS1 HS2 hp1 hp2
      go_wp2_with fail
      go_ret
      rw [HU.out]
      exact ⟨rfl, HB2.out⟩
    | some b =>
      obtain ⟨rfl, hk, ho2⟩ := HS2.out b hp2
      have HBb := Lib.hid (RdS.of_own ho2)
      have HU : Hid (underF p r = decide (b = a.take b.length)) := by show _ = _; unfold underF; rw [hp1, hp2]
      have hn64 := length_of hp1
      have hk64 := length_of hp2
      clear HN1 HN2 HS1 HS2 hp1 hp2 ho2
      by_cases hle : n < k
      · have HF : Hid (decide (b = a.take b.length) = false) := by
          show _ = _
          refine decide_eq_false fun h => ?_
          have := congrArg List.length h
          rw [List.length_take] at this
          omega
        have v1 : (n : Int) < (k : Int) := by omega
        go_wp2_with fail
        go_ret
        rw [HU.out, HF.out]
        exact ⟨rfl, HB2.out⟩
      · have ce := equal_any A B k n k (a.take k) b w2 (HA.out.take k) HBb.out (by rw [List.length_take]; omega) hk.symm (by omega)
        have HD : Hid (decide (b = a.take b.length) = decide (a.take k = b)) := by
          show _ = _
          rw [← hk]
          exact decide_eq_decide.2 eq_comm
        have v1 : ¬ (n : Int) < (k : Int) := by omega
        have v2 : (0 : Int) ≤ (k : Int) := by omega
        have v3 : (k : Int) ≤ (n : Int) := by omega
        have v4 : (k : Int).toNat = k := by omega
        generalize decide (a.take k = b) = x at *
        clear hn64 hk64 hn hk hle
        go_wp2_with fail
        refine ce.mono ?_
        rintro e w3 ⟨rfl, hb⟩
        have HB3 := Lib.hid (HB2.out.trans (hb.mono HB2.out.size))
        clear hb ce
        go_wp2_with fail
        go_ret
        rw [HU.out, HD.out]
        exact ⟨rfl, HB3.out⟩
end Go.Proofs.YtplbckibogmicaaGreatDoor.Path
