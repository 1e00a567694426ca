/- The laws' own small functions: are these the same lines, the same messages; is a message heavy. -/
import Derived.Test.YtobdkgmlkchggaaZmMay2
import Derived.BigQuiet
namespace Go.Proofs.Ytobdkgmlkchggaa.Zm
open Go.RowKit Disk Log Sto

theorem S_list (l : List UInt8) : (S l).toList = l := ByteArray.toList_mk l
theorem S_eq (a b : List UInt8) : ((S a).toList == (S b).toList) = (a == b) := by rw [S_list, S_list]
theorem rd_drewN' {w : World} {A : Option Addr} {n : Nat} {bs : List UInt8} (h : Rd w A n bs) (q : Nat) : Rd (w.drewN q) A n bs := h.keep fun _ _ hp => hp
theorem below_drewN' {B : Nat} {w w' : World} (h : Below B w w') (q : Nat) : Below B w (w'.drewN q) := ⟨h.os, h.tape, h.output, h.size, h.block⟩
deriving instance DecidableEq for Sto.Ln
deriving instance DecidableEq for Mg
def sameUpto (a b : List Ln) (k : Nat) : Prop := a.take k = b.take k
theorem same_step {a b : List Ln} {k : Nat} {x y : Ln} (hx : a[k]? = some x) (hy : b[k]? = some y) (h : a.take k = b.take k) (hxy : x = y) : a.take (k + 1) = b.take (k + 1) := by
  rw [take_snoc1 a k x hx, take_snoc1 b k y hy, h, hxy]
set_option maxRecDepth 100000 in
set_option maxHeartbeats 4000000 in
theorem lines_any {P Q : Nat → Prop} (A B : Option Addr) (n m c d : Nat) (a b : List Ln) (w : World) (ha : LnS P w A n a) (hb : LnS Q w B m b) (hn : n ≤ 1000000) (hm : m ≤ 1000000) :
    Calls Try.prog 23 #[.slice A n c, .slice B m d] w fun e w' => e = .returned (.bool (decide (a = b))) ∧ Below w.heap.size w w' := by
  by_cases hne : n ≠ m
  · have hd : decide (a = b) = false := by
      simp only [decide_eq_false_iff_not]
      intro e
      have := ha.len
      have := hb.len
      rw [e] at *
      omega
    rw [hd]
    have hI : ((n : Int) == (m : Int)) = false := beq_eq_false_iff_ne.2 (by omega)
    clear hd ha hb
    go_enter Try.func23, Try.ntmps23
    go_wp2_with fail
    go_ret
    exact ⟨rfl, Below.refl _ _⟩
  · obtain rfl : n = m := by omega
    have HA := Lib.hid ha
    have HB := Lib.hid hb
    have HLA := Lib.hid ha.len
    have HLB := Lib.hid hb.len
    clear ha hb hne
    go_enter Try.func23, Try.ntmps23
    go_wp2_with fail
    go_loopw [5] (fun i wr => ∃ k : Nat, k ≤ n ∧ i = .int .i64 (k : Int) ∧ sameUpto a b k ∧ Below w.heap.size w wr) (fun i _ => n - (intOf i).toNat)
    case atStart => exact ⟨0, Nat.zero_le _, rfl, by simp [sameUpto], Below.refl _ _⟩
    case round =>
      obtain ⟨k, hk, rfl, hs, hbe⟩ := hrel
      have HS := Lib.hid hs
      have HBE := Lib.hid hbe
      clear hs hbe
      by_cases hlt : k < n
      · obtain ⟨x, hx⟩ : ∃ x, a[k]? = some x := ⟨_, List.getElem?_eq_getElem (by have := HLA.out; omega)⟩
        obtain ⟨y, hy⟩ : ∃ y, b[k]? = some y := ⟨_, List.getElem?_eq_getElem (by have := HLB.out; omega)⟩
        obtain ⟨b1, o1, B1, m1, c1, e1, -, p1, p2, p3, p4, -⟩ := (HA.out.below HBE.out).at_ k x hx
        obtain ⟨b2, o2, B2, m2, c2, e2, -, q1, q2, q3, q4, -⟩ := (HB.out.below HBE.out).at_ k y hy
        subst e1 e2
        have HX := Lib.hid hx
        have HY := Lib.hid hy
        have s1 : ∀ q, (convert 27 9 (.slice B1 m1 c1)).run Try.prog (wr.drewN q) = .ok (.string (S x.bytes)) (wr.drewN q) := fun q => conv_string (rd_drewN' p4 q) c1
        have s2 : ∀ q, (convert 27 9 (.slice B2 m2 c2)).run Try.prog (wr.drewN q) = .ok (.string (S y.bytes)) (wr.drewN q) := fun q => conv_string (rd_drewN' q4 q) c2
        clear hx hy p4 q4
        by_cases hep : x.epoch = y.epoch
        · have t1 : ((x.epoch : Int) != (y.epoch : Int)) = false := by rw [hep]; simp
          by_cases hby : x.bytes = y.bytes
          · have t2 : ((S x.bytes).toList == (S y.bytes).toList) = true := by rw [hby]; simp
            have HXY : Hid (x = y) := by cases x; cases y; simp at hep hby; rw [hep, hby]; rfl
            clear hep hby
            go_wp2_with fail
            go_quiet (fail)
            clear s1 s2 t1 t2 p1 p2 q1 q2
            have HBQ := Lib.hid (below_drewN' HBE.out nq)
            generalize wr.drewN nq = wq at *
            go_wp2_with fail
            exact ⟨⟨k + 1, by omega, rfl, same_step HX.out HY.out HS.out HXY.out, HBQ.out⟩, by simp [intOf]; omega⟩
          · have t2 : ((S x.bytes).toList == (S y.bytes).toList) = false := by rw [S_eq]; exact beq_eq_false_iff_ne.2 hby
            have HNE : Hid (decide (a = b) = false) := by
              show _ = _
              simp only [decide_eq_false_iff_not]
              intro e
              have h1 := HX.out
              rw [e, HY.out] at h1
              injection h1 with h1
              exact hby (by rw [h1])
            clear hep hby
            go_wp2_with fail
            go_quiet (fail)
            clear s1 s2 t1 t2 p1 p2 q1 q2
            have HBQ := Lib.hid (below_drewN' HBE.out nq)
            generalize wr.drewN nq = wq at *
            go_wp2_with fail
            go_ret
            exact ⟨congrArg (fun q => Ending.returned (.bool q)) HNE.out.symm, HBQ.out⟩
        · have t1 : ((x.epoch : Int) != (y.epoch : Int)) = true := by simp only [bne_iff_ne]; omega
          have HNE : Hid (decide (a = b) = false) := by
            show _ = _
            simp only [decide_eq_false_iff_not]
            intro e
            have h1 := HX.out
            rw [e, HY.out] at h1
            injection h1 with h1
            exact hep (by rw [h1])
          clear hep
          go_wp2_with fail
          go_quiet (fail)
          clear s1 s2 t1 p1 p2 q1 q2
          have HBQ := Lib.hid (below_drewN' HBE.out nq)
          generalize wr.drewN nq = wq at *
          go_wp2_with fail
          go_ret
          exact ⟨congrArg (fun q => Ending.returned (.bool q)) HNE.out.symm, HBQ.out⟩
      · obtain rfl : k = n := by omega
        have HEQ : Hid (decide (a = b) = true) := by
          show _ = _
          have q := HS.out
          unfold sameUpto at q
          rw [List.take_of_length_le (by have := HLA.out; omega), List.take_of_length_le (by have := HLB.out; omega)] at q
          simp [q]
        go_wp2_with fail
        go_ret
        exact ⟨congrArg (fun q => Ending.returned (.bool q)) HEQ.out.symm, HBE.out⟩
end Go.Proofs.Ytobdkgmlkchggaa.Zm
