/- The example that each law of layer 11 tries besides. -/
import Derived.Test.YtobdkgmlkchggaaZmHeavy
import Derived.Test.YtobdkgmlkchggaaZmGet
import Derived.Test.YtobdkgmlkchggaaZmPut
import Derived.Lib.SlBytesConst
namespace Go.Proofs.Ytobdkgmlkchggaa.Zm
open Go.RowKit Disk Log Sto
open PhaseG (own_slice)

def tm : Mg := ⟨5, 3, 0, 1, 1, [⟨2, [97, 98]⟩]⟩
theorem tm_may : tm.may := by decide
theorem tm_ok : tm.Ok := ⟨by decide, by decide, by decide, by decide, by decide, by decide, by decide, by decide, fun x hx => by
  simp [tm] at hx
  subst hx
  exact ⟨by decide, by decide⟩⟩
theorem tm_len : tm.enc.length = 55 := by kernel_rfl
theorem get_nil : ¬ getOk [] := by decide
set_option maxRecDepth 100000 in
set_option maxHeartbeats 4000000 in
theorem tells_any (w : World) : Calls Try.prog 13 #[] w fun e w' => e = .returned (.bool true) ∧ Below w.heap.size w w' := by
  have hcv := conv_const
  obtain ⟨W, hW⟩ : ∃ W, W = ((w.alloc (.cells #[.int .u8 97, .int .u8 98] 5 (2, 3))).alloc (.cells #[.int .u64 2, .slice (some ⟨w.heap.size, 0, none⟩) 2 2] 37)).alloc (.cells #[.int .u8 5, .int .u64 3, .int .u64 0, .int .i64 1, .int .i64 1, .slice (some ⟨w.heap.size + 1, 0, none⟩) 1 1] 25) := ⟨_, rfl⟩
  have hb0 : Below w.heap.size w W := by rw [hW]; exact (((Below.refl _ _).alloc (Nat.le_refl _) _).alloc (by simp) _).alloc (by simp; omega) _
  have hl0 : LnS (fun _ => True) W (some ⟨w.heap.size + 1, 0, none⟩) 1 tm.lines := by
    have hr : Rd (w.alloc (.cells #[.int .u8 97, .int .u8 98] 5 (2, 3))) (some ⟨w.heap.size, 0, none⟩) 2 [97, 98] := rd_lit w 5 (2, 3) [97, 98]
    have hb1 : Below (w.heap.size + 1) (w.alloc (.cells #[.int .u8 97, .int .u8 98] 5 (2, 3))) W := by
      rw [hW]
      exact ((Below.refl _ _).alloc (by simp) _).alloc (by simp) _
    have hr2 : Rd W (some ⟨w.heap.size, 0, none⟩) 2 [97, 98] := hr.below (by rw [World.size_alloc]; exact hb1)
    have hk : Bk W (w.heap.size + 1) 37 #[.int .u64 2, .slice (some ⟨w.heap.size, 0, none⟩) 2 2] := by
      have q := Bk.new (w.alloc (.cells #[.int .u8 97, .int .u8 98] 5 (2, 3))) 37 #[.int .u64 2, .slice (some ⟨w.heap.size, 0, none⟩) 2 2]
      rw [World.size_alloc] at q
      rw [hW]
      exact q.alloc _
    refine ⟨rfl, fun j x hj => ?_⟩
    have hj0 : j = 0 := by
      have := (List.getElem?_eq_some_iff.1 hj).1
      simp [tm] at this
      exact this
    subst hj0
    simp [tm] at hj
    subst hj
    exact ⟨w.heap.size + 1, 0, some ⟨w.heap.size, 0, none⟩, 2, 2, rfl, trivial, hk.cell 0, hk.cell 1, Nat.le_refl _, hr2, fun _ _ _ => trivial⟩
  have hm0 : Bk W (w.heap.size + 1 + 1) 25 #[.int .u8 5, .int .u64 3, .int .u64 0, .int .i64 1, .int .i64 1, .slice (some ⟨w.heap.size + 1, 0, none⟩) 1 1] := by
    have q := Bk.new ((w.alloc (.cells #[.int .u8 97, .int .u8 98] 5 (2, 3))).alloc (.cells #[.int .u64 2, .slice (some ⟨w.heap.size, 0, none⟩) 2 2] 37)) 25 #[.int .u8 5, .int .u64 3, .int .u64 0, .int .i64 1, .int .i64 1, .slice (some ⟨w.heap.size + 1, 0, none⟩) 1 1]
    rw [World.size_alloc, World.size_alloc] at q
    rw [hW]
    exact q
  have HW := Lib.hid hW
  have HB0 := Lib.hid hb0
  have HL0 := Lib.hid hl0
  have HM0 := Lib.hid hm0
  have CP := Lib.hid (put_yes (some ⟨w.heap.size + 1, 0, none⟩) 1 1 tm W tm_ok hl0 tm_may)
  clear hW hb0 hl0 hm0
  go_enter Try.func13, Try.ntmps13
  go_wp2_with fail
  rw [← HW.out]
  refine CP.out.mono ?_
  rintro e w1 ⟨A1, n1, c1, rfl, hn1, hc1, hown1, hb1⟩
  obtain rfl : n1 = 55 := by rw [hn1, tm_len]
  have HR1 := Lib.hid (Rd.of_own hown1).1
  have HB1 := Lib.hid (HB0.out.trans (hb1.mono HB0.out.size))
  have HL1 := Lib.hid (HL0.out.below hb1)
  have HM1 := Lib.hid (HM0.out.below hb1)
  clear hn1 hown1 hb1 CP HL0 HM0 hcv
  go_wp2_with fail
  have K1 := get_any A1 55 c1 tm.enc w1 HR1.out (by omega)
  have e1 : getM tm.enc = tm := (get_enc tm_may).2
  have e2 : getE tm.enc = 0 := by unfold getE; rw [if_pos (get_enc tm_may).1]
  unfold GetPost at K1
  rw [e1, e2] at K1
  refine K1.mono ?_
  clear K1 e1 e2
  rintro e w2 ⟨A2, c2, rfl, hown2, hb2⟩
  have HB2 := Lib.hid (HB1.out.trans (hb2.mono HB1.out.size))
  have HL2 := Lib.hid hown2.lns
  have HL1b := Lib.hid (HL1.out.below hb2)
  have HM2 := Lib.hid (HM1.out.below hb2)
  clear hown2 hb2 HR1 HL1 HM1
  unfold mgC tm
  go_wp2_with fail
  have hb3 : Below w2.heap.size w2 (w2.alloc (.cells #[.int .u8 5, .int .u64 3, .int .u64 0, .int .i64 1, .int .i64 1, .slice A2 1 c2] 25)) := (Below.refl _ _).alloc (Nat.le_refl _) _
  have hm3 : Bk (w2.alloc (.cells #[.int .u8 5, .int .u64 3, .int .u64 0, .int .i64 1, .int .i64 1, .slice A2 1 c2] 25)) w2.heap.size 25 #[.int .u8 5, .int .u64 3, .int .u64 0, .int .i64 1, .int .i64 1, .slice A2 1 c2] := Bk.new _ _ _
  have K1 := get_any none 0 0 [] _ (Rd.nil_ (w2.alloc (.cells #[.int .u8 5, .int .u64 3, .int .u64 0, .int .i64 1, .int .i64 1, .slice A2 1 c2] 25)) none) (by omega)
  have e1 : getM [] = Mg.zero := by unfold getM; rw [if_neg get_nil]
  have e2 : getE [] = 2 := by unfold getE; rw [if_neg get_nil]
  unfold GetPost at K1
  rw [e1, e2] at K1
  refine K1.mono ?_
  clear K1 e1 e2
  rintro e w3 ⟨A3, c3, rfl, -, hb4⟩
  have hb23 := hb3.trans (hb4.mono hb3.size)
  have HB3 := Lib.hid (HB2.out.trans (hb23.mono HB2.out.size))
  have HLa := Lib.hid (HL1b.out.below hb23)
  have HLb := Lib.hid (HL2.out.below hb23)
  have HMa := Lib.hid (HM2.out.below hb23)
  have HMb := Lib.hid (hm3.below hb4)
  clear hb3 hm3 hb4 hb23 HL2 HL1b HM2
  unfold mgC Mg.zero
  have hb5 : Below w3.heap.size w3 (w3.alloc (.cells #[.int .u8 0, .int .u64 0, .int .u64 0, .int .i64 0, .int .i64 0, .slice A3 0 c3] 25)) := (Below.refl _ _).alloc (Nat.le_refl _) _
  obtain ⟨W3, hW3⟩ : ∃ W3, W3 = w3.alloc (.cells #[.int .u8 0, .int .u64 0, .int .u64 0, .int .i64 0, .int .i64 0, .slice A3 0 c3] 25) := ⟨_, rfl⟩
  rw [← hW3] at hb5
  have HMa5 := Lib.hid (HMa.out.below hb5)
  have HMb5 := Lib.hid (HMb.out.below hb5)
  have CS := Lib.hid (same_any (some ⟨w.heap.size + 1, 0, none⟩) A2 1 1 1 c2 tm tm W3 (HLa.out.below hb5) (HLb.out.below hb5) (by omega) (by omega))
  have HB5 := Lib.hid (HB3.out.trans (hb5.mono HB3.out.size))
  rw [hW3] at HMa5 HMb5 CS HB5
  have a0 := HMa5.out.cell 0
  have a1 := HMa5.out.cell 1
  have a2 := HMa5.out.cell 2
  have a3 := HMa5.out.cell 3
  have a4 := HMa5.out.cell 4
  have a5 := HMa5.out.cell 5
  have b0 := HMb5.out.cell 0
  have b1 := HMb5.out.cell 1
  have b2 := HMb5.out.cell 2
  have b3 := HMb5.out.cell 3
  have b4 := HMb5.out.cell 4
  have b5 := HMb5.out.cell 5
  simp at a0 a1 a2 a3 a4 a5 b0 b1 b2 b3 b4 b5
  clear hb5 hW3 HMa HMb HLa HLb
  go_wp2_with fail
  refine CS.out.mono ?_
  rintro e w4 ⟨rfl, hb6⟩
  simp only [decide_true]
  have HB6 := Lib.hid (HB5.out.trans (hb6.mono HB5.out.size))
  clear hb6 CS a0 a1 a2 a3 a4 a5 b0 b1 b2 b3 b4 b5
  go_wp2_with fail
  go_ret
  exact ⟨rfl, HB6.out⟩
end Go.Proofs.Ytobdkgmlkchggaa.Zm
