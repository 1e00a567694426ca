/- The contracts of path's calls, for the landed code. -/
import Derived.Test.YtnmlknhomhonaaaDoorPathSplit
import Derived.Deep.RegionHeld3
namespace Go.Proofs.YtnmlknhomhonaaaDoor.Path
open Go.RowKit

theorem length_of {l : List UInt8} {ps : List (List UInt8)} (h : partsF l = some ps) : ps.length ≤ 64 := by
  have h1 := (parts_iff l ps).1 h
  have h2 := h1.2.1
  rw [h1.1] at h2
  exact Nat.le_trans (ofL_length ps) h2
theorem parent_len {l : List UInt8} {ps : List (List UInt8)} (h : partsF l = some ps) : (ofL ps.dropLast).length ≤ 64 := by
  have h1 := (parts_iff l ps).1 h
  have h2 := h1.2.1
  rw [h1.1] at h2
  refine Nat.le_trans ?_ h2
  by_cases h0 : ps = []
  · subst h0; exact Nat.le_refl _
  · unfold ofL
    rw [if_neg h0]
    have h3 : (ps.flatMap (47 :: ·)).length = (ps.dropLast.flatMap (47 :: ·)).length + (ps.getLast h0).length + 1 := by
      conv => lhs; rw [← List.dropLast_concat_getLast h0, List.flatMap_append, List.length_append]
      simp
      omega
    split
    · show 1 ≤ _; omega
    · omega
set_option maxRecDepth 8000 in
set_option maxHeartbeats 1000000 in
theorem whole_any (A : Option Addr) (n c : Nat) (ps : List (List UInt8)) (w : World) (h : RdS w A ps) (hn : ps.length = n) (hc : n ≤ c) (hN : n ≤ 1000) (hl : (ofL ps).length ≤ 1000000000) : Calls Tryd.prog 34 #[.slice A n c] w fun e w' => e = .returned (.string (S (ofL ps))) ∧ Below w.heap.size w w' := by
  have hj := ofL_join ps
  rw [← hj] at hl ⊢
  subst hn
  have cj := strJoin_any A c ps w h hc hN (by simp at hl; omega)
  have hz : (S (Lib.join ps [47])).size ≤ 1000000000 := by rw [S_size]; simp at hl; omega
  have hap : (⟨#[47]⟩ : ByteArray) ++ S (Lib.join ps [47]) = S (47 :: Lib.join ps [47]) := by
    apply ByteArray.ext
    simp [S]
  clear hl hj h
  generalize S (47 :: Lib.join ps [47]) = s2 at *
  generalize S (Lib.join ps [47]) = s at *
  go_enter Tryd.func34, Tryd.ntmps34
  go_wp2_with fail
  refine cj.mono ?_
  rintro e w1 ⟨rfl, hb⟩
  have HB := Lib.hid hb
  clear hb cj
  go_wp2_with fail
  go_ret
  exact ⟨rfl, HB.out⟩
set_option maxRecDepth 8000 in
theorem Check_any (l : List UInt8) (w : World) (hl : l.length ≤ 1000000) : Calls Tryd.prog 37 #[.string (S l)] w fun e w' => e = .returned (.int .i64 (checkE l)) ∧ Below w.heap.size w w' := by
  have c := split_any l w hl
  go_enter Tryd.func37, Tryd.ntmps37
  go_wp2_with fail
  refine c.mono ?_
  rintro e w1 ⟨A, n, ok, rfl, hb, hno, hyes⟩
  have hok : (partsF l).isSome = ok := by
    cases hp : partsF l with
    | none => rw [(hno hp).2.2]; rfl
    | some ps => rw [(hyes ps hp).1]; rfl
  have HB := Lib.hid hb
  have HOK := Lib.hid hok
  clear hb c hno hyes hok
  go_wp2_with fail
  refine (errno_any ok w1).mono ?_
  rintro e w2 ⟨rfl, rfl⟩
  cases ok with
  | true =>
    go_wp2_with fail
    go_ret
    exact ⟨by unfold checkE; rw [HOK.out]; rfl, HB.out⟩
  | false =>
    go_wp2_with fail
    go_ret
    exact ⟨by unfold checkE; rw [HOK.out]; rfl, HB.out⟩
set_option maxRecDepth 8000 in
theorem Parts_any (l : List UInt8) (w : World) (hl : l.length ≤ 1000000) : Calls Tryd.prog 40 #[.string (S l)] w fun e w' => ∃ A c, e = .returned (.slice A (partsL l).length c) ∧ Below w.heap.size w w' ∧ RdV w' A (partsL l).length (sv (partsL l)) := by
  have c := split_any l w hl
  go_enter Tryd.func40, Tryd.ntmps40
  go_wp2_with fail
  refine c.mono ?_
  rintro e w1 ⟨A, n, ok, rfl, hb, hno, hyes⟩
  have HQ : Hid ((partsL l).length = n ∧ RdV w1 A (partsL l).length (sv (partsL l))) := by
    show _ ∧ _
    unfold partsL
    cases hp : partsF l with
    | none => obtain ⟨rfl, rfl, rfl⟩ := hno hp; exact ⟨rfl, RdV.nil_ _ _⟩
    | some ps => obtain ⟨rfl, rfl, hr⟩ := hyes ps hp; exact ⟨rfl, (RdS.of_own hr).rdV⟩
  have HB := Lib.hid hb
  clear hb c hno hyes
  go_wp2_with fail
  go_ret
  refine ⟨A, n, ?_, HB.out, HQ.out.2⟩
  rw [HQ.out.1]
  rfl
set_option maxRecDepth 8000 in
theorem Join_any (p q : List UInt8) (w : World) (hp : p.length ≤ 1000000) (hq : q.length ≤ 1000000) : Calls Tryd.prog 18 #[.string (S p), .string (S q)] w fun e w' => e = .returned (.tuple #[.string (S (joinF p q).1), .int .i64 (joinF p q).2]) ∧ Below w.heap.size w w' := by
  have c := split_any p w hp
  go_enter Tryd.func18, Tryd.ntmps18
  go_wp2_with fail
  refine c.mono ?_
  rintro e w1 ⟨A, n, ok, rfl, hb, hno, hyes⟩
  have HB := Lib.hid hb
  clear hb c
  cases hpp : partsF p with
  | none =>
    obtain ⟨rfl, rfl, rfl⟩ := hno hpp
    have HQ : Hid (joinF p q = ([], 30)) := by show _ = _; unfold joinF; rw [hpp]
    clear hno hyes hpp
    go_wp2_with fail
    go_ret2
    rw [HQ.out]
    exact ⟨rfl, HB.out⟩
  | some ps =>
    obtain ⟨rfl, rfl, hr⟩ := hyes ps hpp
    have HR := Lib.hid hr
    have hlen := length_of hpp
    have HLEN : Hid ((ofL ps).length ≤ 64) := by
      have h1 := (parts_iff p ps).1 hpp
      have h2 := h1.2.1
      rw [h1.1] at h2
      exact h2
    have HQ : Hid (joinF p q = if name q = true then (if (ofL (ps ++ [q])).length ≤ 64 then (ofL (ps ++ [q]), 0) else ([], 3)) else ([], 30)) := by show _ = _; unfold joinF; rw [hpp]
    clear hno hyes hr hpp
    have cn := isName_any q w1
    generalize hnm : name q = b at *
    go_wp2_with fail
    refine cn.mono ?_
    rintro e w2 ⟨rfl, hb⟩
    have HO := Lib.hid (own_below HR.out hb)
    have HB2 := Lib.hid (HB.out.trans (hb.mono HB.out.size))
    clear hb cn HR
    cases b with
    | false =>
      go_wp2_with fail
      go_ret2
      rw [HQ.out]
      exact ⟨rfl, HB2.out⟩
    | true =>
      obtain ⟨i0, hi0, hz0, hz1, hz2⟩ := infos info_text
      have HI := Lib.hid hi0
      have HZ0 := Lib.hid hz0
      have HZ1 := Lib.hid hz1
      have HZ2 := Lib.hid hz2
      clear hi0 hz0 hz1 hz2 hnm
      have hofl : (ofL (ps ++ [q])).length ≤ 1000000000 := by
        have h1 : (ps.flatMap (47 :: ·)).length ≤ (ofL ps).length := by
          unfold ofL
          split
          · next h => subst h; simp
          · exact Nat.le_refl _
        have h2 := HLEN.out
        unfold ofL at h2 ⊢
        unfold ofL at h1
        rw [if_neg (by simp), List.flatMap_append, List.length_append]
        have h3 : ([q].flatMap (47 :: ·)).length = q.length + 1 := by simp
        omega
      go_wp2_with (at_builtin; refine wpList_append_own _ rfl (.tmp 21) (.tmp 23) _ rfl w.heap.size 9 i0 _ 1 16 ty_texts HI.out HZ0.out HZ1.out HZ2.out rfl (by decide) _ _ _ rfl (HO.out.alloc _) ⟨w2.heap.size, 0, none⟩ 1 1 _ rfl rfl (one_new _ _ _) (by simp [Value.oneCell']) (by unfold maxLen; omega) (by omega) (by simp; have := HB2.out.size; omega) ?_)
      intro v2 w3 hown hg _
      have hown2 : w3.ownsRow w.heap.size 9 1 v2 (ps.length + 1) (sv (ps ++ [q])) := by rw [sv_append]; simpa [sv] using hown
      have hb3 := (HB2.out.alloc HB2.out.size _).grown hg (by simp; have := HB2.out.size; omega) (fun g hg => (HO.out.lt g hg).1)
      obtain ⟨A3, c3, rfl⟩ := own_slice hown2
      have hc3 : ps.length + 1 ≤ c3 := by rcases hown2.2 with ⟨e0, e1⟩ | ⟨_, _, _, e0, _, _, e1, _⟩ <;> injection e0 <;> omega
      have cw := whole_any A3 (ps.length + 1) c3 (ps ++ [q]) w3 (RdS.of_own hown2) (by simp) hc3 (by omega) hofl
      have HB3 := Lib.hid hb3
      have hzo : ((S (ofL (ps ++ [q]))).size : Int) = ((ofL (ps ++ [q])).length : Int) := by rw [S_size]
      clear hown hg hown2 hb3 HO HI HZ0 HZ1 HZ2 HLEN hc3
      generalize hs : S (ofL (ps ++ [q])) = s at *
      have HS := Lib.hid hs
      clear hs
      go_wp2_with fail
      refine cw.mono ?_
      rintro e w4 ⟨rfl, hb⟩
      have HB4 := Lib.hid (HB3.out.trans (hb.mono HB3.out.size))
      clear hb cw
      by_cases hlt : 64 < (ofL (ps ++ [q])).length
      · have HJ : Hid (joinF p q = ([], 3)) := by show _ = _; rw [HQ.out, if_pos trivial, if_neg (by omega)]
        clear HQ
        go_wp2_with fail
        go_ret2
        rw [HJ.out]
        exact ⟨rfl, HB4.out⟩
      · have HJ : Hid (joinF p q = (ofL (ps ++ [q]), 0)) := by show _ = _; rw [HQ.out, if_pos trivial, if_pos (by omega)]
        clear HQ
        go_wp2_with fail
        go_ret2
        rw [HJ.out, ← HS.out]
        exact ⟨rfl, HB4.out⟩
set_option maxRecDepth 8000 in
theorem Under_any (p r : List UInt8) (w : World) (hp : p.length ≤ 1000000) (hr : r.length ≤ 1000000) : Calls Tryd.prog 17 #[.string (S p), .string (S r)] w fun e w' => e = .returned (.bool (underF p r)) ∧ Below w.heap.size w w' := by
  have c := split_any p w hp
  go_enter Tryd.func17, Tryd.ntmps17
  go_wp2_with fail
  refine c.mono ?_
  rintro e w1 ⟨A, n, ok1, rfl, hb1, hno1, hyes1⟩
  have HB1 := Lib.hid hb1
  have HS1 := Lib.hid hyes1
  have HN1 := Lib.hid hno1
  clear hb1 hno1 hyes1 c
  have c := split_any r w1 hr
  go_wp2_with fail
  refine c.mono ?_
  rintro e w2 ⟨B, k, ok2, rfl, hb2, hno2, hyes2⟩
  have HB2 := Lib.hid (HB1.out.trans (hb2.mono HB1.out.size))
  have HB12 := Lib.hid hb2
  have HS2 := Lib.hid hyes2
  have HN2 := Lib.hid hno2
  clear hb2 hno2 hyes2 c
  cases hp1 : partsF p with
  | none =>
    obtain ⟨rfl, rfl, rfl⟩ := HN1.out hp1
    have HU : Hid (underF p r = false) := by show _ = _; unfold underF; rw [hp1]
    clear HN1 HN2 HS1 HS2 hp1
    go_wp2_with fail
    go_ret
    rw [HU.out]
    exact ⟨rfl, HB2.out⟩
  | some a =>
    obtain ⟨rfl, hn, ho1⟩ := HS1.out a hp1
    have HA := Lib.hid ((RdS.of_own ho1).below HB12.out)
    clear ho1
    cases hp2 : partsF r with
    | none =>
      obtain ⟨rfl, rfl, rfl⟩ := HN2.out hp2
      have HU : Hid (underF p r = false) := by show _ = _; unfold underF; rw [hp1, hp2]
      clear HN1 HN2 HS1 HS2 hp1 hp2
      go_wp2_with fail
      go_ret
      rw [HU.out]
      exact ⟨rfl, HB2.out⟩
    | some b =>
      obtain ⟨rfl, hk, ho2⟩ := HS2.out b hp2
      have HBb := Lib.hid (RdS.of_own ho2)
      have HU : Hid (underF p r = decide (b = a.take b.length)) := by show _ = _; unfold underF; rw [hp1, hp2]
      have hn64 := length_of hp1
      have hk64 := length_of hp2
      clear HN1 HN2 HS1 HS2 hp1 hp2 ho2
      by_cases hle : n < k
      · have HF : Hid (decide (b = a.take b.length) = false) := by
          show _ = _
          refine decide_eq_false fun h => ?_
          have := congrArg List.length h
          rw [List.length_take] at this
          omega
        have v1 : (n : Int) < (k : Int) := by omega
        go_wp2_with fail
        go_ret
        rw [HU.out, HF.out]
        exact ⟨rfl, HB2.out⟩
      · have ce := equal_any A B k n k (a.take k) b w2 (HA.out.take k) HBb.out (by rw [List.length_take]; omega) hk.symm (by omega)
        have HD : Hid (decide (b = a.take b.length) = decide (a.take k = b)) := by
          show _ = _
          rw [← hk]
          exact decide_eq_decide.2 eq_comm
        have v1 : ¬ (n : Int) < (k : Int) := by omega
        have v2 : (0 : Int) ≤ (k : Int) := by omega
        have v3 : (k : Int) ≤ (n : Int) := by omega
        have v4 : (k : Int).toNat = k := by omega
        generalize decide (a.take k = b) = x at *
        clear hn64 hk64 hn hk hle
        go_wp2_with fail
        refine ce.mono ?_
        rintro e w3 ⟨rfl, hb⟩
        have HB3 := Lib.hid (HB2.out.trans (hb.mono HB2.out.size))
        clear hb ce
        go_wp2_with fail
        go_ret
        rw [HU.out, HD.out]
        exact ⟨rfl, HB3.out⟩
end Go.Proofs.YtnmlknhomhonaaaDoor.Path
