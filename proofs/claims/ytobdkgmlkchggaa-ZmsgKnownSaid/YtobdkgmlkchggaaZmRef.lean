/- The document's own May. -/
import Derived.Test.YtobdkgmlkchggaaZmMay2
namespace Go.Proofs.Ytobdkgmlkchggaa.Zm
open Go.RowKit Disk Log Sto

set_option maxRecDepth 100000 in
set_option maxHeartbeats 4000000 in
theorem line_any (x : Ln) (B : Option Addr) (m c : Nat) (w : World) (hx : x.bytes.length = m) :
    Calls Try.prog 36 #[.agg #[.int .u64 (x.epoch : Int), .slice B m c]] w fun e w' => e = .returned (.bool (lineB x)) ∧ Below w.heap.size w w' := by
  have HB0 : Hid (Below w.heap.size w (w.alloc (.cells #[.int .u64 (x.epoch : Int), .slice B m c] 37))) := (Below.refl _ _).alloc (Nat.le_refl _) _
  have HX := Lib.hid hx
  clear hx
  go_enter Try.func36, Try.ntmps36
  go_wp2_with fail
  all_goals
    go_ret
    refine ⟨congrArg (fun q => Ending.returned (.bool q)) (?_ : _ = lineB x), HB0.out⟩
    have q := lineB_iff (x := x)
    unfold top at q
    have hx := HX.out
    rw [Bool.eq_iff_iff, q]
    simp only [decide_eq_true_eq, Bool.false_eq_true, false_iff]
    omega
/-- What is asked ahead of the lines; behind them. -/
def PreM (m : Mg) (n : Nat) : Prop := 1 ≤ m.kind ∧ m.kind ≤ 6 ∧ 1 ≤ m.epoch ∧ m.epoch ≤ 281474976710656 ∧ m.current ≤ m.epoch ∧ 0 ≤ m.at_ ∧ m.at_ ≤ 256 ∧ 0 ≤ m.commit ∧ m.commit ≤ 256 ∧ n ≤ 256
def PostM (m : Mg) (n : Nat) : Prop := (m.kind = 2 ∨ m.current = 0) ∧ (m.kind = 5 ∨ m.commit = 0) ∧ (m.kind = 5 ∨ m.kind = 6 ∨ m.at_ = 0) ∧ (m.kind = 2 ∨ m.kind = 4 ∨ m.kind = 5 ∨ n = 0)
theorem may_parts {m : Mg} {n : Nat} (hn : m.lines.length = n) : m.may ↔ PreM m n ∧ (∀ x ∈ m.lines, lineB x = true) ∧ PostM m n := by
  subst hn
  unfold Mg.may PreM PostM top
  constructor
  · rintro ⟨a1, a2, a3, a4, a5, a6, a7, a8, a9, a10, a11, a12, a13, a14, a15⟩
    exact ⟨⟨a1, a2, a3, a4, a5, a6, a7, a8, a9, a10⟩, a11, a12, a13, a14, a15⟩
  · rintro ⟨⟨a1, a2, a3, a4, a5, a6, a7, a8, a9, a10⟩, a11, a12, a13, a14, a15⟩
    exact ⟨a1, a2, a3, a4, a5, a6, a7, a8, a9, a10, a11, a12, a13, a14, a15⟩
theorem not_may {m : Mg} (h : ¬ m.may) : false = decide m.may := by simp [h]
set_option maxRecDepth 100000 in
set_option maxHeartbeats 8000000 in
theorem rmay_no {P : Nat → Prop} (A : Option Addr) (n c : Nat) (m : Mg) (w : World) (_hok : m.Ok) (h : LnS P w A n m.lines) (hp : ¬ PreM m n) :
    Calls Try.prog 16 #[.agg (mgC m A n c)] w fun e w' => e = .returned (.bool (decide m.may)) ∧ Below w.heap.size w w' := by
  have hb0 : Below w.heap.size w (w.alloc (.cells (mgC m A n c) 25)) := (Below.refl _ _).alloc (Nat.le_refl _) _
  have HD : Hid (¬ m.may) := fun hm => hp ((may_parts h.len).1 hm).1
  have HB0 := Lib.hid hb0
  have HP := Lib.hid hp
  clear h hb0 hp
  unfold mgC at HB0 ⊢
  go_enter Try.func16, Try.ntmps16
  go_wp2_with fail
  all_goals first
    | (exfalso; refine HP.out ?_; unfold PreM; omega)
    | (go_ret; exact ⟨congrArg (fun q => Ending.returned (.bool q)) (not_may HD.out), HB0.out⟩)
def RelR (w : World) (m : Mg) (g n : Nat) (A : Option Addr) (c : Nat) (i : Value) (wr : World) : Prop :=
  ∃ k : Nat, k ≤ n ∧ i = .int .i64 (k : Int) ∧ (∀ x ∈ m.lines.take k, lineB x = true) ∧ Below w.heap.size w wr ∧ Bk wr g 25 (mgC m A n c)
set_option maxRecDepth 100000 in
set_option maxHeartbeats 8000000 in
theorem rmay_yes {P : Nat → Prop} (A : Option Addr) (n c : Nat) (m : Mg) (w : World) (_hok : m.Ok) (h : LnS P w A n m.lines) (hp : PreM m n) :
    Calls Try.prog 16 #[.agg (mgC m A n c)] w fun e w' => e = .returned (.bool (decide m.may)) ∧ Below w.heap.size w w' := by
  have hb0 : Below w.heap.size w (w.alloc (.cells (mgC m A n c) 25)) := (Below.refl _ _).alloc (Nat.le_refl _) _
  have hbk : Bk (w.alloc (.cells (mgC m A n c) 25)) w.heap.size 25 (mgC m A n c) := Bk.new _ _ _
  have HL := Lib.hid h
  have HN := Lib.hid h.len
  have HB0 := Lib.hid hb0
  have HBK := Lib.hid hbk
  have HP := Lib.hid hp
  have HMP := Lib.hid (may_parts h.len)
  obtain ⟨p1, p2, p3, p4, p5, p6, p7, p8, p9, p10⟩ := hp
  have i1 : ¬ (m.kind : Int) < 1 := by omega
  have i2 : ¬ (6 : Int) < (m.kind : Int) := by omega
  have i3 : ¬ (m.epoch : Int) < 1 := by omega
  have i4 : ¬ (281474976710656 : Int) < (m.epoch : Int) := by omega
  have i5 : ¬ (m.epoch : Int) < (m.current : Int) := by omega
  have i6 : ¬ m.at_ < 0 := by omega
  have i7 : ¬ 256 < m.at_ := by omega
  have i8 : ¬ m.commit < 0 := by omega
  have i9 : ¬ 256 < m.commit := by omega
  have i10 : ¬ (256 : Int) < (n : Int) := by omega
  clear h hb0 hbk p1 p2 p3 p4 p5 p6 p7 p8 p9
  unfold mgC at HB0 HBK ⊢
  go_enter Try.func16, Try.ntmps16
  go_wp2_with fail
  clear i1 i2 i3 i4 i5 i6 i7 i8 i9 i10
  go_loopw [3] (fun i wr => RelR w m w.heap.size n A c i wr) (fun i _ => n - (intOf i).toNat)
  case atStart => exact ⟨0, Nat.zero_le _, rfl, by simp, HB0.out, HBK.out⟩
  case round =>
    obtain ⟨k, hk, rfl, hall, hbe, hbk⟩ := hrel
    have HALL := Lib.hid hall
    have HBE := Lib.hid hbe
    have HK := Lib.hid hbk
    have m0 : wr.cell? ⟨w.heap.size, 0, none⟩ = some (.int .u8 (m.kind : Int)) := hbk.cell 0
    have m2 : wr.cell? ⟨w.heap.size, 2, none⟩ = some (.int .u64 (m.current : Int)) := hbk.cell 2
    have m3 : wr.cell? ⟨w.heap.size, 3, none⟩ = some (.int .i64 m.at_) := hbk.cell 3
    have m4 : wr.cell? ⟨w.heap.size, 4, none⟩ = some (.int .i64 m.commit) := hbk.cell 4
    have m5 : wr.cell? ⟨w.heap.size, 5, none⟩ = some (.slice A n c) := hbk.cell 5
    clear hall hbe hbk
    by_cases hlt : k < n
    · obtain ⟨x, hx⟩ : ∃ x, m.lines[k]? = some x := ⟨_, List.getElem?_eq_getElem (by have := HN.out; omega)⟩
      obtain ⟨b1, o1, B1, m1, c1, e1, -, p1, p2, p3, p4, -⟩ := (HL.out.below HBE.out).at_ k x hx
      subst e1
      have HX := Lib.hid hx
      have HLX := Lib.hid p4.len
      clear hx p4
      go_wp2_with fail
      refine (line_any x B1 m1 c1 wr HLX.out).mono ?_
      rintro e w1 ⟨rfl, hb1⟩
      have HBE1 := Lib.hid (HBE.out.trans (hb1.mono HBE.out.size))
      have HK1 := Lib.hid (HK.out.below hb1)
      clear hb1 m0 m2 m3 m4 m5 p1 p2
      by_cases hx : lineB x = true
      · rw [hx]
        have HXT := Lib.hid hx
        clear hx
        go_wp2_with fail
        refine ⟨⟨k + 1, by omega, rfl, ?_, HBE1.out, HK1.out⟩, by simp [intOf]; omega⟩
        rw [take_snoc1 _ k x HX.out]
        intro y hy
        rcases List.mem_append.1 hy with hy | hy
        · exact HALL.out y hy
        · rw [List.mem_singleton.1 hy]; exact HXT.out
      · have hxf : lineB x = false := by simpa using hx
        rw [hxf]
        have HD : Hid (¬ m.may) := fun hm => hx ((HMP.out.1 hm).2.1 x (List.mem_of_getElem? HX.out))
        clear hx hxf
        go_wp2_with fail
        go_ret
        exact ⟨congrArg (fun q => Ending.returned (.bool q)) (not_may HD.out), HBE1.out⟩
    · obtain rfl : k = n := by omega
      have HMM : Hid (m.may ↔ PostM m k) := by
        have hall : ∀ x ∈ m.lines, lineB x = true := by
          have := HALL.out
          rwa [List.take_of_length_le (by have := HN.out; omega)] at this
        exact HMP.out.trans ⟨fun h => h.2.2, fun h => ⟨HP.out, hall, h⟩⟩
      go_wp2_with fail
      all_goals
        go_ret
        refine ⟨congrArg (fun q => Ending.returned (.bool q)) (?_ : _ = decide m.may), HBE.out⟩
        have q := HMM.out
        have hp6 := HP.out.2.2.2.2.2.1
        have hp8 := HP.out.2.2.2.2.2.2.2.1
        unfold PostM at q
        rw [Bool.eq_iff_iff, decide_eq_true_iff, q]
        simp only [Bool.or_eq_true, beq_iff_eq, bne_iff_ne, bne_eq_false_iff_eq, Bool.false_eq_true, false_iff, true_iff] at *
        omega
theorem rmay_any {P : Nat → Prop} (A : Option Addr) (n c : Nat) (m : Mg) (w : World) (hok : m.Ok) (h : LnS P w A n m.lines) :
    Calls Try.prog 16 #[.agg (mgC m A n c)] w fun e w' => e = .returned (.bool (decide m.may)) ∧ Below w.heap.size w w' := by
  by_cases hp : PreM m n
  · exact rmay_yes A n c m w hok h hp
  · exact rmay_no A n c m w hok h hp
end Go.Proofs.Ytobdkgmlkchggaa.Zm
