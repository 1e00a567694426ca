/- LogRoom: a record of just as many bytes as there is room for is committed, and then there is none; of one more it is full, and nothing is changed: for every number of pages and every row of records ahead the call returns true, and nothing that was there has turned. No conditions. -/
import Derived.Test.YtikpedkckijioaaLogArgs
namespace Go.Proofs.Ytikpedkckijioaa.logRoom
open Go.ChangeShapes Go.WideShapes Go.ChangeAt Go.RowKit Disk Log

/-- Between two rounds: where the log stands. -/
def RelRm (w : World) (g gd n len : Nat) (i : Value) (wr : World) : Prop :=
  ∃ (k : Nat) (Z : Nat → Prop) (bs : List (List UInt8)) (e : Nat), k ≤ len ∧ i = .int .i64 (k : Int) ∧ Sd w wr Z g gd 0 n bs e (2 * k) ∧ 1 ≤ e ∧ e ≤ n
theorem Sd.end_ {w0 w : World} {Z : Nat → Prop} {g gd f n : Nat} {bs : List (List UInt8)} {e N : Nat} (h : Sd w0 w Z g gd f n bs e N) : 1 ≤ e ∧ e ≤ n := by
  obtain ⟨d, L, h1, hK, hl, rfl, rfl, ht⟩ := h
  obtain ⟨k1, k2, k3, k4, -⟩ := hK.many
  exact ⟨k3, k4⟩
theorem Sd.mono {w0 w : World} {Z : Nat → Prop} {g gd f n : Nat} {bs : List (List UInt8)} {e N M : Nat} (h : Sd w0 w Z g gd f n bs e N) (hM : N ≤ M) : Sd w0 w Z g gd f n bs e M := by
  obtain ⟨d, L, h1, hK, hl, h4, h5, ht⟩ := h
  exact ⟨d, L, h1, hK, hl, h4, h5, Nat.le_trans ht hM⟩
theorem num16 {w : World} {A : Option Addr} {n : Nat} {zs : List Nat} (h : RdV w A n (vals16 zs)) (hz : ∀ z ∈ zs, z < 65536) {k : Nat} (hk : k < n) : ∃ b o z, A = some ⟨b, o, none⟩ ∧ w.cell? ⟨b, o + k, none⟩ = some (.int .u16 (z : Nat)) ∧ z < 65536 := by
  obtain ⟨ad, rfl, hc⟩ := h.cells (by omega)
  have hl : zs.length = n := by have := h.len; simpa [vals16] using this
  have h0 := hc k (.int .u16 (zs[k] : Nat)) (by simp [vals16, List.getElem?_eq_getElem (by omega : k < zs.length)])
  have hp := addr_plain (hc 0 (.int .u16 (zs[0] : Nat)) (by simp [vals16, List.getElem?_eq_getElem (by omega : 0 < zs.length)]))
  simp [Addr.add] at hp
  refine ⟨ad.block, ad.off, zs[k], by rw [← hp], ?_, hz _ (List.getElem_mem _)⟩
  rw [hp, Log.add_plain] at h0
  exact h0
set_option maxRecDepth 100000 in
set_option maxHeartbeats 4000000 in
theorem walk (a : Nat) (A : Option Addr) (m c : Nat) (zs : List Nat) (w : World) (ha : a < 256) (hr : RdV w A m (vals16 zs)) (hzs : ∀ z ∈ zs, z < 65536) (hm : m ≤ maxLen) : Calls Try.prog 5 #[.int .u8 (a : Int), .slice A m c] w fun e w' => e = .returned (.bool true) ∧ Below w.heap.size w w' := by
  obtain ⟨i0, hi, hz0, hz1, hz2⟩ := infos info_byte
  have HI := Lib.hid hi
  have HZ0 := Lib.hid hz0
  have HZ1 := Lib.hid hz1
  have HZ2 := Lib.hid hz2
  clear hi hz0 hz1 hz2
  have hm2 : m < 9223372036854775808 := by unfold maxLen at hm; omega
  by_cases hbig : 20 < m
  · have q1 : (20 < m) = True := eq_true hbig
    clear hr hzs hm
    go_enter Try.func5, Try.ntmps5
    go_wp2_with fail
    refine (wakes_any w).mono ?_
    rintro e w1 ⟨rfl, hb⟩
    have HB := Lib.hid hb
    clear hb
    go_wp2_with fail
    go_ret
    exact ⟨rfl, HB.out⟩
  have q1 : (20 < m) = False := eq_false hbig
  obtain ⟨n, hn⟩ : ∃ n, n = 2 + a % 19 := ⟨_, rfl⟩
  have hn2 : 2 ≤ n := by omega
  have hn20 : n ≤ 20 := by omega
  have hnv : (2 : Int) + (a : Int) % 19 = (n : Int) := by omega
  have HR := Lib.hid hr
  have HZS := Lib.hid hzs
  have hm20 : m ≤ 20 := by omega
  clear hn hr hzs hm hbig hm2
  go_enter Try.func5, Try.ntmps5
  go_wp2_with fail
  refine (made_any n hn2 (by omega) w w (Below.refl _ _)).mono ?_
  intro e w2 hmd
  obtain ⟨g, gd, Z, rfl, hs, hb, hZ⟩ := hmd.sd hn2 (by omega)
  have HS := Lib.hid hs
  clear hs hb hZ hmd hnv
  go_wp2_with fail
  go_loopw [7] (fun i wr => RelRm w g gd n m i wr) (fun i _ => m - (intOf i).toNat)
  case atStart => exact ⟨0, Z, [], 1, by omega, rfl, HS.out, Nat.le_refl _, by omega⟩
  case round =>
    obtain ⟨k, Z1, bs, e, hk, rfl, hs, he1, he2⟩ := hrel
    have HS1 := Lib.hid hs
    clear hs
    by_cases hlt : k < m
    · obtain ⟨bb, oo, z, rfl, hc, hz⟩ := num16 (HR.out.below HS1.out.below) HZS.out hlt
      have HCZ : Hid (∀ W, Below wr.heap.size wr W → W.cell? ⟨bb, oo + k, none⟩ = some (.int .u16 (z : Nat))) := fun W hW => (hW.cell (World.block_lt_of_cell? wr _ hc)).trans hc
      clear hc
      obtain ⟨y, hy⟩ : ∃ y, y = z % 3000 := ⟨_, rfl⟩
      have hyl : y < 3000 := by omega
      have hyv : (wrap64 (z : Int)).tmod 3000 = (y : Int) := by rw [IntWalk.wrap64_in _ (by omega), Int.tmod_eq_emod_of_nonneg (by omega)]; omega
      have hyw : wrap64 ((y : Int) + 479) = (y : Int) + 479 := IntWalk.wrap64_in _ (by omega)
      obtain ⟨M, hM⟩ : ∃ M, M = manyOf y := ⟨_, rfl⟩
      have hMv : max 1 (((y : Int) + 479) / 480) = (M : Int) := by rw [hM]; unfold manyOf; omega
      have hMl : M ≤ 7 := by rw [hM]; unfold manyOf; omega
      obtain ⟨R, hR⟩ : ∃ R, R = n - e := ⟨_, rfl⟩
      have hRl : R ≤ 20 := by omega
      have hrm := HS1.out.room
      rw [← hR] at hrm
      have HRM := Lib.hid hrm
      have HM := Lib.hid hM
      have HRR := Lib.hid hR
      clear hrm hy hM hz hR
      go_wp2_with fail
      refine HRM.out.mono ?_
      rintro e3 w3 ⟨rfl, hb⟩
      have HS2 := Lib.hid (HS1.out.below_ hb)
      have hc3 := HCZ.out w3 hb
      have hmk : (Instr.makeSlice 32 (.int .i64 (y : Nat)) (.int .i64 (y : Nat))).run Try.prog w3 = .ok (.slice (some ⟨w3.heap.size, 0, none⟩) y y) (w3.alloc (.cells ((List.replicate y (0 : UInt8)).map U).toArray 5 (0, 0))) := by
        rw [List.map_replicate]
        exact run_make_bytes (P := Try.prog) ty_bytes HI.out HZ0.out HZ1.out HZ2.out .i64 .i64 y y (Int.le_refl _) (by omega) w3
      have hb7 : Below w3.heap.size w3 (w3.alloc (.cells ((List.replicate y (0 : UInt8)).map U).toArray 5 (0, 0))) := (Below.refl _ _).alloc (Nat.le_refl _) _
      have HR7 : Hid (Rd (w3.alloc (.cells ((List.replicate y (0 : UInt8)).map U).toArray 5 (0, 0))) (some ⟨w3.heap.size, 0, none⟩) y (List.replicate y 0)) := by
        have := rd_lit w3 5 (0, 0) (List.replicate y 0)
        rwa [List.length_replicate] at this
      have HZ7 : Hid (∀ a, (some ⟨w3.heap.size, 0, none⟩ : Option Addr) = some a → ¬ Z1 a.block) := fun a ha hz => by
        injection ha with ha
        subst ha
        have : w3.heap.size < w3.heap.size := HS2.out.lt _ hz
        omega
      have HS7 := Lib.hid (HS2.out.below_ hb7)
      generalize hw7 : w3.alloc (.cells ((List.replicate y (0 : UInt8)).map U).toArray 5 (0, 0)) = w7 at *
      clear hb7 hw7 HS2 HS1 HRM HCZ hb
      by_cases hroom : e + M ≤ n
      · have hle : (M ≤ R) = True := eq_true (by have := HRR.out; omega)
        obtain ⟨R2, hR2⟩ : ∃ R2, R2 = n - (e + M) := ⟨_, rfl⟩
        have hRR : (480 : Int) * (R2 : Int) = 480 * (R : Int) - 480 * (M : Int) := by have := HRR.out; omega
        have HR2 := Lib.hid hR2
        clear hR2
        go_wp2_with fail
        refine (HS7.out.commit (by omega) (some ⟨w3.heap.size, 0, none⟩) y y (List.replicate y 0) HR7.out HZ7.out (Nat.le_refl _) (by omega) (by rw [← HM.out]; exact hroom)).mono ?_
        rintro e8 w8 ⟨rfl, Z8, hs, -⟩
        rw [← HM.out] at hs
        have HS8 := Lib.hid hs
        have hrm := hs.room
        rw [← HR2.out] at hrm
        have HRM := Lib.hid hrm
        clear hs HS7 HR7 HZ7 hmk hc3 hrm
        go_wp2_with fail
        refine HRM.out.mono ?_
        rintro e9 w9 ⟨rfl, hb⟩
        have HS9 := Lib.hid (HS8.out.below_ hb)
        clear hb
        go_wp2_with fail
        refine ⟨⟨k + 1, Z8, _, e + M, by omega, rfl, HS9.out, by omega, hroom⟩, by simp [intOf]; omega⟩
      · have hle : (M ≤ R) = False := eq_false (by have := HRR.out; omega)
        go_wp2_with fail
        refine (HS7.out.full (some ⟨w3.heap.size, 0, none⟩) y y (by rw [← HM.out]; omega)).mono ?_
        rintro e8 w8 ⟨rfl, hb⟩
        have HS8 := Lib.hid (HS7.out.below_ hb)
        have hrm := HS8.out.room
        rw [← HRR.out] at hrm
        have HRM := Lib.hid hrm
        clear hb HS7 HR7 HZ7 hmk hc3 hrm
        go_wp2_with fail
        refine HRM.out.mono ?_
        rintro e9 w9 ⟨rfl, hb⟩
        have HS9 := Lib.hid (HS8.out.below_ hb)
        clear hb
        go_wp2_with fail
        refine ⟨⟨k + 1, Z1, _, e, by omega, rfl, Sd.mono HS9.out (by omega), he1, he2⟩, by simp [intOf]; omega⟩
    · obtain rfl : k = m := by omega
      obtain ⟨R, hR⟩ : ∃ R, R = n - e := ⟨_, rfl⟩
      have hRl : R ≤ 20 := by omega
      have hrm := HS1.out.room
      rw [← hR] at hrm
      have HRM := Lib.hid hrm
      have HRR := Lib.hid hR
      obtain ⟨y1, hy1⟩ : ∃ y, y = 480 * R + 1 := ⟨_, rfl⟩
      have hv1 : (480 : Int) * (R : Int) + 1 = (y1 : Int) := by omega
      have HV1 := Lib.hid hv1
      have HF1 : Hid (n < e + manyOf y1) := by
        show _ < _
        unfold manyOf
        omega
      have hyl : y1 ≤ 10000 := by omega
      clear hrm hR hy1 hv1
      go_wp2_with fail
      refine HRM.out.mono ?_
      rintro e3 w3 ⟨rfl, hb⟩
      have HS2 := Lib.hid (HS1.out.below_ hb)
      clear hb HRM HS1
      have hmk : (Instr.makeSlice 32 (.int .i64 (480 * (R : Int) + 1)) (.int .i64 (480 * (R : Int) + 1))).run Try.prog w3 = .ok (.slice (some ⟨w3.heap.size, 0, none⟩) y1 y1) (w3.alloc (.cells ((List.replicate y1 (0 : UInt8)).map U).toArray 5 (0, 0))) := by
        rw [List.map_replicate, HV1.out]
        exact run_make_bytes (P := Try.prog) ty_bytes HI.out HZ0.out HZ1.out HZ2.out .i64 .i64 y1 y1 (Int.le_refl _) (by omega) w3
      have hb7 : Below w3.heap.size w3 (w3.alloc (.cells ((List.replicate y1 (0 : UInt8)).map U).toArray 5 (0, 0))) := (Below.refl _ _).alloc (Nat.le_refl _) _
      have HR4 : Hid (Rd (w3.alloc (.cells ((List.replicate y1 (0 : UInt8)).map U).toArray 5 (0, 0))) (some ⟨w3.heap.size, 0, none⟩) y1 (List.replicate y1 0)) := by
        have := rd_lit w3 5 (0, 0) (List.replicate y1 0)
        rwa [List.length_replicate] at this
      have HZ4 : Hid (∀ a, (some ⟨w3.heap.size, 0, none⟩ : Option Addr) = some a → ¬ Z1 a.block) := fun a ha hz => by
        injection ha with ha
        subst ha
        have : w3.heap.size < w3.heap.size := HS2.out.lt _ hz
        omega
      have HS4 := Lib.hid (HS2.out.below_ hb7)
      generalize hw7 : w3.alloc (.cells ((List.replicate y1 (0 : UInt8)).map U).toArray 5 (0, 0)) = w4 at *
      clear hb7 hw7
      clear HR4 HZ4 HS2
      go_wp2_with fail
      refine (HS4.out.full (some ⟨w3.heap.size, 0, none⟩) y1 y1 HF1.out).mono ?_
      rintro e5 w5 ⟨rfl, hb⟩
      have HS5 := Lib.hid (HS4.out.below_ hb)
      have hrm := HS5.out.room
      rw [← HRR.out] at hrm
      have HRM := Lib.hid hrm
      clear hb HS4 hrm hmk
      go_wp2_with fail
      refine HRM.out.mono ?_
      rintro e6 w6 ⟨rfl, hb⟩
      have HS6 := Lib.hid (HS5.out.below_ hb)
      clear hb HS5 HRM
      by_cases hR0 : R = 0
      · have HEN : Hid (n < e + manyOf 0) := by
          have h1 := HRR.out
          have h2 : manyOf 0 = 1 := by decide
          show _ < _
          omega
        clear HRR HF1 HV1
        subst hR0
        go_wp2_with fail
        refine (HS6.out.full none 0 0 HEN.out).mono ?_
        rintro e7 w7 ⟨rfl, hb⟩
        have HB7 := Lib.hid (HS6.out.below_ hb).below
        clear hb HS6
        go_wp2_with fail
        refine (wakes_any w7).mono ?_
        rintro e8 w8 ⟨rfl, hb⟩
        have HB8 := Lib.hid (HB7.out.trans (hb.mono HB7.out.size))
        clear hb HB7
        go_wp2_with fail
        go_ret
        exact ⟨rfl, HB8.out⟩
      · obtain ⟨y2, hy2⟩ : ∃ y, y = 480 * R := ⟨_, rfl⟩
        have HV2 : Hid ((480 : Int) * (R : Int) = (y2 : Int)) := by show _ = _; omega
        have HMR : Hid (manyOf y2 = R) := by
          show _ = _
          unfold manyOf
          omega
        have HER : Hid (e + R = n) := by
          have := HRR.out
          show _ = _
          omega
        have hyl2 : y2 ≤ 10000 := by omega
        clear hy2 HF1 HV1
        have hmk : (Instr.makeSlice 32 (.int .i64 (480 * (R : Int))) (.int .i64 (480 * (R : Int)))).run Try.prog w6 = .ok (.slice (some ⟨w6.heap.size, 0, none⟩) y2 y2) (w6.alloc (.cells ((List.replicate y2 (0 : UInt8)).map U).toArray 5 (0, 0))) := by
          rw [List.map_replicate, HV2.out]
          exact run_make_bytes (P := Try.prog) ty_bytes HI.out HZ0.out HZ1.out HZ2.out .i64 .i64 y2 y2 (Int.le_refl _) (by omega) w6
        have hb7 : Below w6.heap.size w6 (w6.alloc (.cells ((List.replicate y2 (0 : UInt8)).map U).toArray 5 (0, 0))) := (Below.refl _ _).alloc (Nat.le_refl _) _
        have HR7 : Hid (Rd (w6.alloc (.cells ((List.replicate y2 (0 : UInt8)).map U).toArray 5 (0, 0))) (some ⟨w6.heap.size, 0, none⟩) y2 (List.replicate y2 0)) := by
          have := rd_lit w6 5 (0, 0) (List.replicate y2 0)
          rwa [List.length_replicate] at this
        have HZ7 : Hid (∀ a, (some ⟨w6.heap.size, 0, none⟩ : Option Addr) = some a → ¬ Z1 a.block) := fun a ha hz => by
          injection ha with ha
          subst ha
          have : w6.heap.size < w6.heap.size := HS6.out.lt _ hz
          omega
        have HS7 := Lib.hid (HS6.out.below_ hb7)
        generalize hw7 : w6.alloc (.cells ((List.replicate y2 (0 : UInt8)).map U).toArray 5 (0, 0)) = w7 at *
        clear hb7 hw7
        go_wp2_with fail
        refine (HS7.out.commit (by omega) (some ⟨w6.heap.size, 0, none⟩) y2 y2 (List.replicate y2 0) HR7.out HZ7.out (Nat.le_refl _) (by omega) (by rw [HMR.out]; exact Nat.le_of_eq HER.out)).mono ?_
        rintro e8 w8 ⟨rfl, Z8, hs, -⟩
        rw [HMR.out, HER.out] at hs
        have HS8 := Lib.hid hs
        have hrm := hs.room
        rw [Nat.sub_self] at hrm
        have HRM := Lib.hid hrm
        clear hs HS7 HR7 HZ7 hmk hrm
        go_wp2_with fail
        refine HRM.out.mono ?_
        rintro e9 w9 ⟨rfl, hb⟩
        have HS9 := Lib.hid (HS8.out.below_ hb)
        clear hb HS8
        go_wp2_with fail
        refine (HS9.out.full none 0 0 (by have := (by decide : manyOf 0 = 1); omega)).mono ?_
        rintro e10 w10 ⟨rfl, hb⟩
        have HB7 := Lib.hid (HS9.out.below_ hb).below
        clear hb HS9
        go_wp2_with fail
        refine (wakes_any w10).mono ?_
        rintro e11 w11 ⟨rfl, hb⟩
        have HB8 := Lib.hid (HB7.out.trans (hb.mono HB7.out.size))
        clear hb HB7
        go_wp2_with fail
        go_ret
        exact ⟨rfl, HB8.out⟩

set_option maxRecDepth 100000 in
theorem lifted (os : Os) (started : os.Started) (H : Type) (enc : TypeId × Value → H) :
    ReturnsInHanded {} Try.checked os 5 .any (Rows.logRoomSpec.pre6 enc Try.prog Try.f5 Rows.logRoomRow.domain false) (Rows.logRoomSpec.post enc Try.prog Try.f5 false true false false) := by
  refine returnsInHanded_of_change (C := Try.checked) own started (by kernel_rfl) Try.func5
    (ChangeSpec.witness6 (enc := enc) (C := Try.checked) false ⟨#[], #[.int .u8 0, .slice none 0 0], []⟩ 8 (by kernel_rfl) (by kernel_rfl) (by kernel_rfl) (by kernel_rfl)) ?_
  intro W base args ds gs before hval0 hW hcnd _
  have hval : ∀ (j : Nat) t v, Try.f5.params[j]? = some t → args[j]? = some v → Value.okWide Try.prog W .any base t v := hval0
  have hW' := hW
  obtain ⟨p, q, hA0, hV, rfl, hfz, hnd⟩ := hW
  have hA : DataW.TrodAll enc Try.prog W 0 (fun _ => true) true Try.f5.params.toList args.toList ds p := hA0
  rw [Try.params5] at hA hval
  obtain ⟨v0, v1, d0, d1, p0, p1, rfl, rfl, rfl, h0, h1⟩ := trodAll_two hA
  obtain ⟨rfl, rfl⟩ := trodVars_none hV
  obtain ⟨a, rfl, ha⟩ := open_u8n ty_byte (hval 0 _ v0 rfl rfl) h0
  obtain ⟨A, n, c, zs, rfl, hnc, hc, hr, hzs⟩ := arg_u16s (hval 1 _ v1 rfl rfl) h1
  refine (walk a A n c zs W ha hr hzs (Nat.le_trans hnc hc)).mono fun e W' ⟨he, hb⟩ => ?_
  subst he
  exact ⟨_, rfl, post_true laidOut (by kernel_rfl) ty_bool (by kernel_rfl) rfl hW' hb rfl⟩

theorem over : Rows.logRoomRow.holds Try.pinned (OpenSpec.ofChange Rows.logRoomSpec) :=
  OpenClaim.holds_of_wide 5 Try.f5 rfl rfl rfl rfl rfl rfl rfl ⟨rfl, rfl, rfl, rfl, rfl⟩ rfl rfl rfl rfl rfl (by kernel_rfl) Try.func5 (by kernel_rfl)
    (of_decide_eq_true (by kernel_rfl)) (by unfold Func.isWrapper; first | (rw [if_pos (by decide +kernel)]; kernel_rfl) | (rw [if_neg (by decide +kernel)]; exact ⟨rfl, rfl⟩))
    (fun os started H enc _ => lifted os started H enc)

theorem proved : Rows.LogRoomSaid :=
  over
end Go.Proofs.Ytikpedkckijioaa.logRoom
