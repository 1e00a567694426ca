/- CrcShort: of texts of up to eight bytes, xs many each, no two have one check. For every input the call returns true, and each argument reads afterwards xs it read before. No conditions. -/
import Derived.Test.YtnclphceglpchaaCrcArr
import Derived.Deep.RegionHeld
namespace Go.Proofs.Ytnclphceglpchaa.crcShort
open Go.ChangeShapes Go.WideShapes Go.ChangeAt Go.RowKit

theorem S_list (bs : List UInt8) : (S bs).toList = bs := ByteArray.toList_mk bs

set_option maxHeartbeats 4000000 in
theorem walk (xs bs : List UInt8) (y : Nat) (w : World) (h1 : xs.length = 8) (h2 : bs.length = 8) (hy : y < 256) :
    Calls Try.prog 6 #[.agg (xs.map U).toArray, .agg (bs.map U).toArray, .int .u8 (y : Int)] w fun e w' => e = .returned (.bool true) ∧ Below w.heap.size w w' := by
  have HL1 := Lib.hid h1
  have HL2 := Lib.hid h2
  have hz1 : (xs.map U).toArray.size = 8 := by simp [h1]
  have hz2 : (bs.map U).toArray.size = 8 := by simp [h2]
  clear h1 h2
  have HRa := Lib.hid (rd_lit w 28 (0, 0) xs)
  have HRb := Lib.hid (rd_lit (w.alloc (.cells (xs.map U).toArray 28)) 28 (0, 0) bs)
  generalize (xs.map U).toArray = ca at *
  generalize (bs.map U).toArray = cb at *
  go_enter Try.func6, Try.ntmps6
  go_wp2_with fail
  have hk : (y : Int) % 9 = ((y % 9 : Nat) : Int) := by omega
  have hk8 : y % 9 ≤ 8 := by omega
  simp only [hk]
  clear hk
  generalize y % 9 = k at *
  have HB4 := Lib.hid (((Below.refl w.heap.size w).alloc (Nat.le_refl _) (.cells ca 28)).alloc (by simp) (.cells cb 28))
  have HA4 := Lib.hid (((HRa.out.below ((Below.refl _ _).alloc (Nat.le_refl _) (.cells cb 28))).take (k := k) (by rw [HL1.out]; exact hk8)))
  have HR4 := Lib.hid ((HRb.out.take (k := k) (by rw [HL2.out]; exact hk8)))
  rw [World.size_alloc] at HR4
  have HKEY : Hid (Crc.sum (xs.take k) = Crc.sum (bs.take k) ↔ xs.take k = bs.take k) := sum_within _ _ 0 (by simp [HL1.out, HL2.out]) (fun i hi => by
    rw [List.getElem?_eq_none (by simp; omega), List.getElem?_eq_none (by simp; omega)])
  clear HRa HRb
  generalize (w.alloc (.cells ca 28)).alloc (.cells cb 28) = w4 at *
  generalize xs.take k = x1 at *
  generalize bs.take k = x2 at *
  generalize w.heap.size + 1 = g2 at *
  have HALL : Hid (∀ W, Below w4.heap.size w4 W → (convert 22 9 (.slice (some ⟨w.heap.size, 0, none⟩) k 8)).run Try.prog W = .ok (.string (S x1)) W ∧ (convert 22 9 (.slice (some ⟨g2, 0, none⟩) k 8)).run Try.prog W = .ok (.string (S x2)) W) := fun W hW => ⟨conv_string (HA4.out.below hW) 8, conv_string (HR4.out.below hW) 8⟩
  have hn6 : k ≤ 1000000 := by omega
  have hq : ((((Crc.sum x1 : Nat) : Int) == ((Crc.sum x2 : Nat) : Int)) == ((S x1).toList == (S x2).toList)) = true := by
    by_cases e : x1 = x2
    · rw [e]; simp
    · have e1 := fun h => e (HKEY.out.1 h)
      have e2 : ¬ (S x1).toList = (S x2).toList := fun h => e (by rwa [S_list, S_list] at h)
      have e3 : (((Crc.sum x1 : Nat) : Int) == ((Crc.sum x2 : Nat) : Int)) = false := beq_eq_false_iff_ne.2 (fun h => e1 (Int.ofNat.inj h))
      have e4 : ((S x1).toList == (S x2).toList) = false := beq_eq_false_iff_ne.2 e2
      rw [e3, e4]; rfl
  have HS1 := fun W (hW : Below w4.heap.size w4 W) => Crc.Sum_same (some ⟨w.heap.size, 0, none⟩) k 8 x1 W (HA4.out.below hW) hn6
  have HS2 := fun W (hW : Below w4.heap.size w4 W) => Crc.Sum_same (some ⟨g2, 0, none⟩) k 8 x2 W (HR4.out.below hW) hn6
  generalize Crc.sum x1 = s1 at *
  generalize Crc.sum x2 = s2 at *
  generalize S x1 = t1 at *
  generalize S x2 = t2 at *
  replace HS1 := Lib.hid HS1
  replace HS2 := Lib.hid HS2
  have B1 := Lib.hid (Below.refl w4.heap.size w4).drew
  have v1 : (k : Int) ≤ 8 := by omega
  have v2 : (0 : Int) ≤ (k : Int) := by omega
  go_region_held (fun w' => (convert 22 9 (.slice (some ⟨w.heap.size, 0, none⟩) k 8)).run Try.prog w' = .ok (.string t1) w' ∧ (convert 22 9 (.slice (some ⟨g2, 0, none⟩) k 8)).run Try.prog w' = .ok (.string t2) w')
    (first | assumption | exact HALL.out _ HE3.out | exact HALL.out _ B1.out)
    (first
      | (go_at_call 8; refine (HS1.out _ B1.out).mono ?_; rintro e we ⟨rfl, rfl⟩; clear HS1)
      | (go_at_call 8; refine (HS2.out _ B1.out).mono ?_; rintro e we ⟨rfl, rfl⟩)
      | (go_at_call 10; refine (Crc.goes_any _).mono ?_; rintro e wg ⟨rfl, hb⟩; have HE3 := Lib.hid (B1.out.trans (hb.mono B1.out.size)); clear hb))
  all_goals
    go_wp2_with fail
    go_ret
    exact ⟨rfl, (HB4.out.trans (HE3.out.mono HB4.out.size))⟩

set_option maxRecDepth 100000 in
theorem lifted (os : Os) (started : os.Started) (H : Type) (enc : TypeId × Value → H) :
    ReturnsInHanded {} Try.checked os 6 .any (Rows.crcShortSpec.pre6 enc Try.prog Try.f6 Rows.crcShortRow.domain false) (Rows.crcShortSpec.post enc Try.prog Try.f6 false true false false) := by
  refine returnsInHanded_of_change (C := Try.checked) own started (by kernel_rfl) Try.func6
    (ChangeSpec.witness6 (enc := enc) (C := Try.checked) false ⟨#[], #[.agg #[.int .u8 0, .int .u8 0, .int .u8 0, .int .u8 0, .int .u8 0, .int .u8 0, .int .u8 0, .int .u8 0], .agg #[.int .u8 0, .int .u8 0, .int .u8 0, .int .u8 0, .int .u8 0, .int .u8 0, .int .u8 0, .int .u8 0], .int .u8 0], []⟩ 8 (by kernel_rfl) (by kernel_rfl) (by kernel_rfl) (by kernel_rfl)) ?_
  intro W base args ds gs before hval0 hW hcnd _
  have hval : ∀ (j : Nat) t v, Try.f6.params[j]? = some t → args[j]? = some v → Value.okWide Try.prog W .any base t v := hval0
  have hW' := hW
  obtain ⟨p, q, hA0, hV, rfl, hfz, hnd⟩ := hW
  have hA : DataW.TrodAll enc Try.prog W 0 (fun _ => true) true Try.f6.params.toList args.toList ds p := hA0
  rw [Try.params6] at hA hval
  obtain ⟨v0, v1, v2, d0, d1, d2, p0, p1, p2, rfl, rfl, rfl, h0, h1, h2⟩ := trodAll_three hA
  obtain ⟨rfl, rfl⟩ := trodVars_none hV
  obtain ⟨xs, rfl, hx⟩ := open_byteArr ty_arr8 ty_byte cells_byte cells_arr8 (hval 0 _ v0 rfl rfl) h0
  obtain ⟨bs, rfl, hb⟩ := open_byteArr ty_arr8 ty_byte cells_byte cells_arr8 (hval 1 _ v1 rfl rfl) h1
  obtain ⟨y, rfl, hy⟩ := open_u8 ty_byte (hval 2 _ v2 rfl rfl) h2
  refine (walk xs bs y W hx hb hy).mono fun e W' ⟨he, hb⟩ => ?_
  subst he
  exact ⟨_, rfl, post_true laidOut (by kernel_rfl) ty_bool (by kernel_rfl) rfl hW' hb rfl⟩

theorem over : Rows.crcShortRow.holds Try.pinned (OpenSpec.ofChange Rows.crcShortSpec) :=
  OpenClaim.holds_of_wide 6 Try.f6 rfl rfl rfl rfl rfl rfl rfl ⟨rfl, rfl, rfl, rfl, rfl⟩ rfl rfl rfl rfl rfl (by kernel_rfl) Try.func6 (by kernel_rfl)
    (of_decide_eq_true (by kernel_rfl)) (by unfold Func.isWrapper; first | (rw [if_pos (by decide +kernel)]; kernel_rfl) | (rw [if_neg (by decide +kernel)]; exact ⟨rfl, rfl⟩))
    (fun os started H enc _ => lifted os started H enc)

theorem proved : Rows.CrcShortSaid :=
  over
end Go.Proofs.Ytnclphceglpchaa.crcShort
