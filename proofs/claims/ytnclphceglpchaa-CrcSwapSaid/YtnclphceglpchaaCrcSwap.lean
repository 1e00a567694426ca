/- CrcSwap: two bytes that are at most seven places apart, and unlike, can't change places without being told. For every input the call returns true, and each argument reads afterwards as it read before. No conditions. -/
import Derived.Test.YtnclphceglpchaaCrcArr
import Derived.Deep.RegionHeld
namespace Go.Proofs.Ytnclphceglpchaa.crcSwap
open Go.ChangeShapes Go.WideShapes Go.ChangeAt Go.RowKit

theorem swap_sum (bs : List UInt8) (k m : Nat) (hkl : k < bs.length) (hml : m < bs.length) (hkm : k < m) (hmk : m < k + 8) : Crc.sum bs = Crc.sum ((bs.set k bs[m]).set m bs[k]) ↔ bs[k] = bs[m] := by
  rw [sum_within _ _ k (by simp) ?_]
  · constructor
    · intro e
      have e2 := congrArg (fun l => l[k]?) e
      simp [hkl, show m ≠ k by omega] at e2
      exact e2
    · intro e
      apply List.ext_getElem?
      intro i
      by_cases h1 : m = i
      · subst h1
        rw [List.getElem?_set_self (by simpa using hml), List.getElem?_eq_getElem hml, e]
      · rw [List.getElem?_set_ne h1]
        by_cases h2 : k = i
        · subst h2
          rw [List.getElem?_set_self hkl, List.getElem?_eq_getElem hkl, e]
        · rw [List.getElem?_set_ne h2]
  · intro i hi
    rw [List.getElem?_set_ne (by omega), List.getElem?_set_ne (by omega)]

set_option maxHeartbeats 4000000 in
theorem walk (A : Option Addr) (n c : Nat) (bs : List UInt8) (a y : Nat) (w : World) (h : Rd w A n bs) (ha : a < 65536) (hy : y < 256) :
    Calls Try.prog 5 #[.slice A n c, .int .u16 (a : Int), .int .u8 (y : Int)] w fun e w' => e = .returned (.bool true) ∧ Below w.heap.size w w' := by
  have H := Lib.hid h
  clear h
  obtain ⟨i0, hi, hz0, hz1, hz2⟩ := info_parts info_byte
  have HI := Lib.hid hi
  have HZ0 := Lib.hid hz0
  have HZ1 := Lib.hid hz1
  have HZ2 := Lib.hid hz2
  clear hi hz0 hz1 hz2
  by_cases hn : 4000 < n
  · go_enter Try.func5, Try.ntmps5
    go_wp2_with fail
    go_ret
    exact ⟨rfl, Below.refl _ _⟩
  · by_cases hn2 : n < 9
    · go_enter Try.func5, Try.ntmps5
      go_wp2_with fail
      refine (Crc.goes_any w).mono ?_
      rintro e w5 ⟨rfl, hb⟩
      have B9 := Lib.hid hb
      clear hb
      go_wp2_with fail
      go_ret
      exact ⟨rfl, B9.out⟩
    · have HBa := Lib.hid ((Below.refl w.heap.size w).alloc (Nat.le_refl _) (.cells #[] 5))
      go_enter Try.func5, Try.ntmps5
      go_wp2_with (at_builtin; refine wpList_append_Rd rfl (.tmp 36) (.tmp 37) _ rfl ty_bytes HI.out HZ0.out HZ1.out HZ2.out rfl rfl (own_lit0 w 5) rfl (H.out.below HBa.out) (by omega) (by simp) ?_)
      intro v1 w2 hown1 hg1
      have hown2 : w2.ownsRow w.heap.size 5 1 v1 n (bs.map U) := by simpa using hown1
      have HB2 := Lib.hid (HBa.out.grown hg1 (by simp) (fun g hg => ((own_lit0 w 5).lt g hg).1))
      obtain ⟨g, cap, rfl, hbg, hgl⟩ := own_form hown2 (by omega)
      have HO2 := Lib.hid hown2
      clear hown1 hg1 hown2
      obtain ⟨k, hk, hkn⟩ : ∃ k : Nat, (a : Int) % ((n : Int) - 8) = (k : Int) ∧ k + 8 < n := by
        have h1 := Int.emod_nonneg (a : Int) (b := (n : Int) - 8) (by omega)
        have h2 := Int.emod_lt_of_pos (a : Int) (b := (n : Int) - 8) (by omega)
        exact ⟨((a : Int) % ((n : Int) - 8)).toNat, by omega, by omega⟩
      obtain ⟨m, hm, hkm, hmk⟩ : ∃ m : Nat, wrap64 (wrap64 ((k : Int) + 1) + (y : Int) % 7) = (m : Int) ∧ k < m ∧ m < k + 8 := by
        refine ⟨k + 1 + y % 7, ?_, by omega, by omega⟩
        have e1 : wrap64 ((k : Int) + 1) = (k : Int) + 1 := IntWalk.wrap64_in _ (by omega)
        rw [e1]
        have e2 : wrap64 ((k : Int) + 1 + (y : Int) % 7) = (k : Int) + 1 + (y : Int) % 7 := IntWalk.wrap64_in _ (by omega)
        rw [e2]
        omega
      simp only [hk, hm]
      clear hk hm
      obtain ⟨ad, hA, hc⟩ := H.out.cells (by omega)
      subst hA
      have hkl : k < bs.length := by rw [H.out.len]; omega
      have hml : m < bs.length := by rw [H.out.len]; omega
      have HLN := Lib.hid H.out.len
      have hadb : Hid (ad.block < w.heap.size) := by
        have := World.block_lt_of_cell? w _ (hc k _ (List.getElem?_eq_getElem hkl))
        rwa [addr_add_block] at this
      have hcells : Hid (∀ W, Below w.heap.size w W → W.cell? (ad.add k) = some (U bs[k]) ∧ W.cell? (ad.add m) = some (U bs[m])) := by
        intro W hW
        obtain ⟨_, e, hc'⟩ := (H.out.below hW).cells (by omega)
        injection e with e
        subst e
        exact ⟨hc' k _ (List.getElem?_eq_getElem hkl), hc' m _ (List.getElem?_eq_getElem hml)⟩
      clear hc
      have hf1 : w2.frozen? ⟨g, k, none⟩ = false := HO2.out.frozenAt k
      have hf2 := fun u => (HO2.out.stored k u).1.frozenAt m
      have hc1 : w2.cell? ⟨g, k, none⟩ = some (U bs[k]) := by
        rw [HO2.out.cellAt k (by omega), List.getElem?_map, List.getElem?_eq_getElem hkl]
        rfl
      have hc2 : (w2.setCell ⟨g, k, none⟩ (U bs[m])).cell? ⟨g, m, none⟩ = some (U bs[m]) := by
        rw [(HO2.out.stored k (U bs[m])).1.cellAt m (by omega), List.getElem?_set_ne (by omega), List.getElem?_map, List.getElem?_eq_getElem hml]
        rfl
      have hl1 := (hcells.out w2 HB2.out).2
      have hl2 := (hcells.out _ (HB2.out.setCell (p := ⟨g, k, none⟩) hbg (U bs[m]))).1
      have HO4 : Hid (((w2.setCell ⟨g, k, none⟩ (U bs[m])).setCell ⟨g, m, none⟩ (U bs[k])).ownsRow w.heap.size 5 1 (.slice (some ⟨g, 0, none⟩) n cap) n ((((bs.set k bs[m]).set m bs[k])).map U)) := by
        have h4 := ((HO2.out.stored k (U bs[m])).1.stored m (U bs[k])).1
        rw [← List.map_set, ← List.map_set] at h4
        exact h4
      have HB4 := Lib.hid ((HB2.out.setCell (p := ⟨g, k, none⟩) hbg (U bs[m])).setCell (p := ⟨g, m, none⟩) hbg (U bs[k]))
      have HKEY := Lib.hid (swap_sum bs k m hkl hml hkm hmk)
      have HR4 := Lib.hid (Rd.of_own HO4.out).1
      generalize bs[k] = x at *
      generalize bs[m] = z at *
      unfold U at hc1 hc2 hl1 hl2 HO4 HB4 HR4 hcells
      go_wp2_with fail
      have HA4 := Lib.hid (H.out.below HB4.out)
      clear hf1 hf2 hc1 hc2 hl1 hl2 HO4
      generalize (w2.setCell ⟨g, k, none⟩ (Value.int .u8 z.toNat)).setCell ⟨g, m, none⟩ (Value.int .u8 x.toNat) = w4 at *
      generalize (bs.set k z).set m x = cs at *
      have HALL : Hid (∀ W, Below w4.heap.size w4 W → W.cell? (ad.add k) = some (.int .u8 x.toNat) ∧ W.cell? (ad.add m) = some (.int .u8 z.toNat)) := fun W hW => hcells.out W (HB4.out.trans (hW.mono HB4.out.size))
      clear hcells
      have hn6 : n ≤ 1000000 := by omega
      have hq : ((((Crc.sum bs : Nat) : Int) == ((Crc.sum cs : Nat) : Int)) == (((x.toNat : Nat) : Int) == ((z.toNat : Nat) : Int))) = true := by
        by_cases e : x = z
        · rw [HKEY.out.2 e, e]; simp
        · have e1 := fun h => e (HKEY.out.1 h)
          have e2 : ¬ x.toNat = z.toNat := fun h => e (UInt8.toNat_inj.1 h)
          have e3 : (((Crc.sum bs : Nat) : Int) == ((Crc.sum cs : Nat) : Int)) = false := beq_eq_false_iff_ne.2 (fun h => e1 (Int.ofNat.inj h))
          have e4 : (((x.toNat : Nat) : Int) == ((z.toNat : Nat) : Int)) = false := beq_eq_false_iff_ne.2 (fun h => e2 (Int.ofNat.inj h))
          rw [e3, e4]; rfl
      have HS1 := fun W (hW : Below w4.heap.size w4 W) => Crc.Sum_same (some ad) n c bs W (HA4.out.below hW) hn6
      have HS2 := fun W (hW : Below w4.heap.size w4 W) => Crc.Sum_same (some ⟨g, 0, none⟩) n cap cs W (HR4.out.below hW) hn6
      generalize Crc.sum bs = s1 at *
      generalize Crc.sum cs = s2 at *
      replace HS1 := Lib.hid HS1
      replace HS2 := Lib.hid HS2
      have v1 : k < n := by omega
      have v2 : m < n := by omega
      have v3 : (k : Int) < (n : Int) := by omega
      have v4 : (m : Int) < (n : Int) := by omega
      have B1 := Lib.hid (Below.refl w4.heap.size w4).drew
      go_region_held (fun w' => w'.cell? (ad.add k) = some (.int .u8 x.toNat) ∧ w'.cell? (ad.add m) = some (.int .u8 z.toNat))
        (first | assumption | exact HALL.out _ HE3.out | exact HALL.out _ B1.out)
        (first
          | (go_at_call 8; refine (HS1.out _ B1.out).mono ?_; rintro e we ⟨rfl, rfl⟩; clear HS1)
          | (go_at_call 8; refine (HS2.out _ B1.out).mono ?_; rintro e we ⟨rfl, rfl⟩)
          | (go_at_call 10; refine (Crc.goes_any _).mono ?_; rintro e wg ⟨rfl, hb⟩; have HE3 := Lib.hid (B1.out.trans (hb.mono B1.out.size)); clear hb))
      all_goals
        go_wp2_with fail
        go_ret
        exact ⟨rfl, (HB4.out.trans (HE3.out.mono HB4.out.size))⟩

set_option maxRecDepth 100000 in
theorem lifted (os : Os) (started : os.Started) (H : Type) (enc : TypeId × Value → H) :
    ReturnsInHanded {} Try.checked os 5 .any (Rows.crcSwapSpec.pre6 enc Try.prog Try.f5 Rows.crcSwapRow.domain false) (Rows.crcSwapSpec.post enc Try.prog Try.f5 false true false false) := by
  refine returnsInHanded_of_change (C := Try.checked) own started (by kernel_rfl) Try.func5
    (ChangeSpec.witness6 (enc := enc) (C := Try.checked) false ⟨#[], #[.slice none 0 0, .int .u16 0, .int .u8 0], []⟩ 8 (by kernel_rfl) (by kernel_rfl) (by kernel_rfl) (by kernel_rfl)) ?_
  intro W base args ds gs before hval0 hW hcnd _
  have hval : ∀ (j : Nat) t v, Try.f5.params[j]? = some t → args[j]? = some v → Value.okWide Try.prog W .any base t v := hval0
  have hW' := hW
  obtain ⟨p, q, hA0, hV, rfl, hfz, hnd⟩ := hW
  have hA : DataW.TrodAll enc Try.prog W 0 (fun _ => true) true Try.f5.params.toList args.toList ds p := hA0
  rw [Try.params5] at hA hval
  obtain ⟨v0, v1, v2, d0, d1, d2, p0, p1, p2, rfl, rfl, rfl, h0, h1, h2⟩ := trodAll_three hA
  obtain ⟨rfl, rfl⟩ := trodVars_none hV
  obtain ⟨A, n, c, bs, rfl, _, _, hr⟩ := open_bytes ty_bytes ty_byte cells_byte (hval 0 _ v0 rfl rfl) h0
  obtain ⟨a, rfl, ha⟩ := open_u16 ty_u16 (hval 1 _ v1 rfl rfl) h1
  obtain ⟨y, rfl, hy⟩ := open_u8 ty_byte (hval 2 _ v2 rfl rfl) h2
  refine (walk A n c bs a y W hr ha hy).mono fun e W' ⟨he, hb⟩ => ?_
  subst he
  exact ⟨_, rfl, post_true laidOut (by kernel_rfl) ty_bool (by kernel_rfl) rfl hW' hb rfl⟩

theorem over : Rows.crcSwapRow.holds Try.pinned (OpenSpec.ofChange Rows.crcSwapSpec) :=
  OpenClaim.holds_of_wide 5 Try.f5 rfl rfl rfl rfl rfl rfl rfl ⟨rfl, rfl, rfl, rfl, rfl⟩ rfl rfl rfl rfl rfl (by kernel_rfl) Try.func5 (by kernel_rfl)
    (of_decide_eq_true (by kernel_rfl)) (by unfold Func.isWrapper; first | (rw [if_pos (by decide +kernel)]; kernel_rfl) | (rw [if_neg (by decide +kernel)]; exact ⟨rfl, rfl⟩))
    (fun os started H enc _ => lifted os started H enc)

theorem proved : Rows.CrcSwapSaid :=
  over
end Go.Proofs.Ytnclphceglpchaa.crcSwap
