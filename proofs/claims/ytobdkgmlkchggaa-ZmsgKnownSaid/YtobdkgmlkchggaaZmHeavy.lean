/- Are these the same messages; is a message heavy. -/
import Derived.Test.YtobdkgmlkchggaaZmSame
namespace Go.Proofs.Ytobdkgmlkchggaa.Zm
open Go.RowKit Disk Log Sto

set_option maxRecDepth 100000 in
set_option maxHeartbeats 4000000 in
theorem same_any {P Q : Nat → Prop} (A B : Option Addr) (n k c d : Nat) (m p : Mg) (w : World) (ha : LnS P w A n m.lines) (hb : LnS Q w B k p.lines) (hn : n ≤ 1000000) (hk : k ≤ 1000000) :
    Calls Try.prog 12 #[.agg (mgC m A n c), .agg (mgC p B k d)] w fun e w' => e = .returned (.bool (decide (m = p))) ∧ Below w.heap.size w w' := by
  have hb2 : Below w.heap.size w ((w.alloc (.cells (mgC m A n c) 25)).alloc (.cells (mgC p B k d) 25)) := ((Below.refl _ _).alloc (Nat.le_refl _) _).alloc (by simp) _
  have CL := Lib.hid (lines_any A B n k c d m.lines p.lines _ (ha.below hb2) (hb.below hb2) hn hk)
  have HB2 := Lib.hid hb2
  clear ha hb hb2
  unfold mgC at *
  by_cases h0 : m.kind = p.kind
  · have q0 : ((m.kind : Int) == (p.kind : Int)) = true := by rw [h0]; simp
    replace h0 := Lib.hid h0
    by_cases h1 : m.epoch = p.epoch
    · have q1 : ((m.epoch : Int) == (p.epoch : Int)) = true := by rw [h1]; simp
      replace h1 := Lib.hid h1
      by_cases h2 : m.current = p.current
      · have q2 : ((m.current : Int) == (p.current : Int)) = true := by rw [h2]; simp
        replace h2 := Lib.hid h2
        by_cases h3 : m.at_ = p.at_
        · have q3 : (m.at_ == p.at_) = true := by rw [h3]; simp
          replace h3 := Lib.hid h3
          by_cases h4 : m.commit = p.commit
          · have q4 : (m.commit == p.commit) = true := by rw [h4]; simp
            replace h4 := Lib.hid h4
            have HE : Hid (decide (m = p) = decide (m.lines = p.lines)) := by
              show _ = _
              rw [decide_eq_decide]
              refine ⟨fun e => by rw [e], fun e => ?_⟩
              have := h0.out; have := h1.out; have := h2.out; have := h3.out; have := h4.out
              cases m
              cases p
              simp_all
            go_enter Try.func12, Try.ntmps12
            go_wp2_with fail
            refine CL.out.mono ?_
            rintro e w1 ⟨rfl, hb1⟩
            rw [← HE.out]
            have HB1 := Lib.hid (HB2.out.trans (hb1.mono HB2.out.size))
            clear hb1
            go_wp2_with fail
            go_ret
            exact ⟨rfl, HB1.out⟩
          · have q4 : (m.commit == p.commit) = false := by simp only [beq_eq_false_iff_ne]; omega
            have HE : Hid (decide (m = p) = false) := by
              show _ = _
              simp only [decide_eq_false_iff_not]
              intro e
              exact h4 (by rw [e])
            clear h4 CL
            go_enter Try.func12, Try.ntmps12
            go_wp2_with fail
            go_ret
            exact ⟨congrArg (fun q => Ending.returned (.bool q)) HE.out.symm, HB2.out⟩
        · have q3 : (m.at_ == p.at_) = false := by simp only [beq_eq_false_iff_ne]; omega
          have HE : Hid (decide (m = p) = false) := by
            show _ = _
            simp only [decide_eq_false_iff_not]
            intro e
            exact h3 (by rw [e])
          clear h3 CL
          go_enter Try.func12, Try.ntmps12
          go_wp2_with fail
          go_ret
          exact ⟨congrArg (fun q => Ending.returned (.bool q)) HE.out.symm, HB2.out⟩
      · have q2 : ((m.current : Int) == (p.current : Int)) = false := by simp only [beq_eq_false_iff_ne]; omega
        have HE : Hid (decide (m = p) = false) := by
          show _ = _
          simp only [decide_eq_false_iff_not]
          intro e
          exact h2 (by rw [e])
        clear h2 CL
        go_enter Try.func12, Try.ntmps12
        go_wp2_with fail
        go_ret
        exact ⟨congrArg (fun q => Ending.returned (.bool q)) HE.out.symm, HB2.out⟩
    · have q1 : ((m.epoch : Int) == (p.epoch : Int)) = false := by simp only [beq_eq_false_iff_ne]; omega
      have HE : Hid (decide (m = p) = false) := by
        show _ = _
        simp only [decide_eq_false_iff_not]
        intro e
        exact h1 (by rw [e])
      clear h1 CL
      go_enter Try.func12, Try.ntmps12
      go_wp2_with fail
      go_ret
      exact ⟨congrArg (fun q => Ending.returned (.bool q)) HE.out.symm, HB2.out⟩
  · have q0 : ((m.kind : Int) == (p.kind : Int)) = false := by simp only [beq_eq_false_iff_ne]; omega
    have HE : Hid (decide (m = p) = false) := by
      show _ = _
      simp only [decide_eq_false_iff_not]
      intro e
      exact h0 (by rw [e])
    clear h0 CL
    go_enter Try.func12, Try.ntmps12
    go_wp2_with fail
    go_ret
    exact ⟨congrArg (fun q => Ending.returned (.bool q)) HE.out.symm, HB2.out⟩
def sumL (l : List Ln) : Nat := (l.map fun x => x.bytes.length).sum
theorem sumL_snoc (l : List Ln) (x : Ln) : sumL (l ++ [x]) = sumL l + x.bytes.length := by simp [sumL]
theorem sumL_le {l : List Ln} {x : Ln} (h : x ∈ l) : x.bytes.length ≤ sumL l := by
  induction l with
  | nil => cases h
  | cons y l ih =>
    have e : sumL (y :: l) = y.bytes.length + sumL l := by simp [sumL]
    rcases List.mem_cons.1 h with rfl | h
    · omega
    · have := ih h; omega
theorem encLs_sum (l : List Ln) : (encLs l).length = 12 * l.length + sumL l := by
  induction l with
  | nil => rfl
  | cons y l ih =>
    have e : sumL (y :: l) = y.bytes.length + sumL l := by simp [sumL]
    rw [encLs_cons, List.length_append, encL_length, ih, e, List.length_cons]
    omega
/-- Few lines, few bytes. -/
def Few (m : Mg) : Prop := m.lines.length ≤ 300 ∧ sumL m.lines ≤ 6000
theorem Few.enc {m : Mg} (h : Few m) : m.enc.length ≤ 9641 := by
  have h1 := h.1
  have h2 := h.2
  rw [enc_length, encLs_sum]
  omega
def HeavyPost (w : World) (m : Mg) (e : Ending) (w' : World) : Prop := ∃ f : Bool, e = .returned (.bool f) ∧ Below w.heap.size w w' ∧ (f = false → Few m)
def RelH (w : World) (m : Mg) (g n : Nat) (A : Option Addr) (c : Nat) (s i : Value) (wr : World) : Prop :=
  ∃ k z : Nat, k ≤ n ∧ k ≤ 301 ∧ i = .int .i64 (k : Int) ∧ s = .int .i64 (z : Int) ∧ z = sumL (m.lines.take k) ∧ z ≤ k * 140737488355328 ∧ Below w.heap.size w wr ∧ Bk wr g 25 (mgC m A n c)
set_option maxRecDepth 100000 in
set_option maxHeartbeats 4000000 in
theorem heavy_any {P : Nat → Prop} (A : Option Addr) (n c : Nat) (m : Mg) (w : World) (hok : m.Ok) (h : LnS P w A n m.lines) :
    Calls Try.prog 9 #[.agg (mgC m A n c)] w (HeavyPost w m) := by
  have hb0 : Below w.heap.size w (w.alloc (.cells (mgC m A n c) 25)) := (Below.refl _ _).alloc (Nat.le_refl _) _
  have hbk : Bk (w.alloc (.cells (mgC m A n c) 25)) w.heap.size 25 (mgC m A n c) := Bk.new _ _ _
  have HL := Lib.hid h
  have HN := Lib.hid h.len
  have HB0 := Lib.hid hb0
  have HBK := Lib.hid hbk
  have HOK := Lib.hid hok
  have hnn : n ≤ 140737488355328 := by have := hok.many; have := h.len; omega
  clear h hb0 hbk hok
  unfold mgC at HB0 HBK ⊢
  go_enter Try.func9, Try.ntmps9
  go_wp2_with fail
  go_loopw [3, 4] (fun s i wr => RelH w m w.heap.size n A c s i wr) (fun _ i _ => n - (intOf i).toNat)
  case atStart => exact ⟨0, 0, Nat.zero_le _, by omega, rfl, rfl, by simp [sumL], by omega, HB0.out, HBK.out⟩
  case round =>
    obtain ⟨k, z, hk, hk3, rfl, rfl, hz, hzb, hbe, hbk⟩ := hrel
    have HZ := Lib.hid hz
    have HBE := Lib.hid hbe
    have HK := Lib.hid hbk
    have m5 : wr.cell? ⟨w.heap.size, 5, none⟩ = some (.slice A n c) := hbk.cell 5
    clear hz hbe hbk
    by_cases hlt : k < n
    · by_cases h301 : k < 301
      · obtain ⟨x, hx⟩ : ∃ x, m.lines[k]? = some x := ⟨_, List.getElem?_eq_getElem (by have := HN.out; omega)⟩
        obtain ⟨b1, o1, B1, m1, c1, e1, -, p1, p2, p3, p4, -⟩ := (HL.out.below HBE.out).at_ k x hx
        subst e1
        have HX := Lib.hid hx
        have hm1 : m1 ≤ 140737488355328 := by have := (HOK.out.each x (List.mem_of_getElem? hx)).2; have := p4.len; omega
        have HM1 : Hid (x.bytes.length = m1) := p4.len
        have hw : wrap64 ((z : Int) + (m1 : Int)) = ((z + m1 : Nat) : Int) := by rw [IntWalk.wrap64_in _ (by omega)]; omega
        clear hx p4
        go_wp2_with fail
        refine ⟨⟨k + 1, z + m1, by omega, by omega, rfl, rfl, ?_, by omega, HBE.out, HK.out⟩, by simp [intOf]; omega⟩
        rw [take_snoc1 _ k x HX.out, sumL_snoc, HM1.out, HZ.out]
      · have HF : Hid (300 < n) := by show _ < _; omega
        have hn3 : (300 : Int) < (n : Int) := by omega
        go_wp2_with fail
        go_ret
        exact ⟨true, rfl, HBE.out, fun h => by cases h⟩
    · obtain rfl : k = n := by omega
      have hzz : Hid (z = sumL m.lines) := by
        have := HZ.out
        rwa [List.take_of_length_le (by have := HN.out; omega)] at this
      by_cases h300 : 300 < k
      · have hI : (300 : Int) < (k : Int) := by omega
        go_wp2_with fail
        go_ret
        exact ⟨true, rfl, HBE.out, fun h => by cases h⟩
      · have hI : ¬ (300 : Int) < (k : Int) := by omega
        by_cases h6 : 6000 < z
        · have hJ : (6000 : Int) < (z : Int) := by omega
          go_wp2_with fail
          go_ret
          exact ⟨true, rfl, HBE.out, fun h => by cases h⟩
        · have HFW : Hid (Few m) := ⟨by have := HN.out; omega, by have := hzz.out; omega⟩
          have hJ : ¬ (6000 : Int) < (z : Int) := by omega
          go_wp2_with fail
          go_ret
          exact ⟨false, rfl, HBE.out, fun _ => HFW.out⟩
end Go.Proofs.Ytobdkgmlkchggaa.Zm
