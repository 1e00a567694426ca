/- CrcNumber: eight bytes, wherever they stand, in whose place other ones stand, change the check, whatever stands around. For every input the call returns true, and each argument reads afterwards as it read before. No conditions. -/
import Derived.Test.YtnclphceglpchaaCrcArr
import Derived.BigQuiet
namespace Go.Proofs.Ytnclphceglpchaa.crcNumber
open Go.ChangeShapes Go.WideShapes Go.ChangeAt Go.RowKit

/-- The row behind j rounds. -/
structure Laid (bs ns cs : List UInt8) (k j : Nat) (sm : Bool) : Prop where
  len : cs.length = bs.length
  out : ∀ t, t < k ∨ k + j ≤ t → cs[t]? = bs[t]?
  same : sm = true ↔ cs = bs

theorem Laid.next {bs ns cs : List UInt8} {k j : Nat} {sm : Bool} (h : Laid bs ns cs k j sm) (hj : k + j < cs.length) (b : UInt8) : Laid bs ns (cs.set (k + j) b) k (j + 1) (sm && (((cs[k + j].toNat : Nat) : Int) == ((b.toNat : Nat) : Int))) := by
  have e0 : cs[k + j]? = bs[k + j]? := h.out (k + j) (Or.inr (Nat.le_refl _))
  refine ⟨by rw [List.length_set, h.len], fun t ht => ?_, ?_⟩
  · rw [List.getElem?_set_ne (by omega)]
    exact h.out t (by omega)
  · rw [Bool.and_eq_true, beq_iff_eq, h.same]
    constructor
    · rintro ⟨e1, e2⟩
      have e3 : cs[k + j] = b := UInt8.toNat_inj.1 (Int.ofNat.inj e2)
      rw [← e3, List.set_getElem_self, e1]
    · intro e
      have e1 : cs = bs := by
        apply List.ext_getElem?
        intro t
        by_cases ht : k + j = t
        · subst ht; exact e0
        · rw [← List.getElem?_set_ne ht (a := b), e]
      have e2 : (cs.set (k + j) b)[k + j]? = cs[k + j]? := by rw [e, e1]
      rw [List.getElem?_set_self hj, List.getElem?_eq_getElem hj] at e2
      injection e2 with e2
      exact ⟨e1, by rw [e2]⟩

def Rel (w : World) (base g n cap k : Nat) (bs ns : List UInt8) (s i : Value) (wr : World) : Prop :=
  ∃ (j : Nat) (cs : List UInt8) (sm : Bool), j ≤ 8 ∧ i = .int .i64 (j : Int) ∧ s = .bool sm ∧ Laid bs ns cs k j sm ∧ wr.ownsRow base 5 1 (.slice (some ⟨g, 0, none⟩) n cap) n (cs.map U) ∧ Bk wr w.heap.size 28 (ns.map U).toArray ∧ Below w.heap.size w wr

theorem own_drewN {w : World} {base : Nat} {e : TypeId} {v : Value} {n : Nat} {xs : List Value} (h : w.ownsRow base e 1 v n xs) (q : Nat) : (w.drewN q).ownsRow base e 1 v n xs := h
theorem below_drewN {B : Nat} {w w' : World} (h : Below B w w') (m : Nat) : Below B w (w'.drewN m) := ⟨h.os, h.tape, h.output, h.size, h.block⟩

set_option maxHeartbeats 4000000 in
theorem walk (A : Option Addr) (n c : Nat) (bs ns : List UInt8) (a : Nat) (w : World) (h : Rd w A n bs) (ha : a < 65536) (hns : ns.length = 8) :
    Calls Try.prog 4 #[.slice A n c, .int .u16 (a : Int), .agg (ns.map U).toArray] w fun e w' => e = .returned (.bool true) ∧ Below w.heap.size w w' := by
  have H := Lib.hid h
  clear h
  obtain ⟨i0, hi, hz0, hz1, hz2⟩ := info_parts info_byte
  have HI := Lib.hid hi
  have HZ0 := Lib.hid hz0
  have HZ1 := Lib.hid hz1
  have HZ2 := Lib.hid hz2
  clear hi hz0 hz1 hz2
  have HNL := Lib.hid hns
  have hz8 : (ns.map U).toArray.size = 8 := by simp [hns]
  clear hns
  obtain ⟨ca, hca⟩ : ∃ ca, ca = (ns.map U).toArray := ⟨_, rfl⟩
  have HCA := Lib.hid hca
  rw [← hca] at hz8
  rw [← hca]
  clear hca
  have HB0 := Lib.hid ((Below.refl w.heap.size w).alloc (Nat.le_refl _) (.cells ca 28))
  have HK0 := Lib.hid (Bk.new w 28 ca)
  by_cases hn : 4000 < n
  · go_enter Try.func4, Try.ntmps4
    go_wp2_with fail
    go_ret
    exact ⟨rfl, HB0.out⟩
  · by_cases hn2 : n < 8
    · go_enter Try.func4, Try.ntmps4
      go_wp2_with fail
      refine (Crc.goes_any _).mono ?_
      rintro e w5 ⟨rfl, hb⟩
      have B9 := Lib.hid (HB0.out.trans (hb.mono HB0.out.size))
      clear hb
      go_wp2_with fail
      go_ret
      exact ⟨rfl, B9.out⟩
    · have HBa := Lib.hid ((Below.refl _ (w.alloc (.cells ca 28))).alloc (Nat.le_refl _) (.cells #[] 5))
      have hol := own_lit0 (w.alloc (.cells ca 28)) 5
      rw [World.size_alloc] at hol
      have HOL := Lib.hid hol
      clear hol
      go_enter Try.func4, Try.ntmps4
      go_wp2_with (at_builtin; refine wpList_append_Rd rfl (.tmp 31) (.tmp 32) _ rfl ty_bytes HI.out HZ0.out HZ1.out HZ2.out rfl rfl HOL.out rfl ((H.out.below HB0.out).below HBa.out) (by omega) (by simp) ?_)
      intro v1 w2 hown1 hg1
      have hown2 : w2.ownsRow (w.heap.size + 1) 5 1 v1 n (bs.map U) := by simpa using hown1
      have hb2 := HBa.out.grown hg1 (by simp) (fun g hg => by rw [World.size_alloc]; exact (HOL.out.lt g hg).1)
      have HB2 := Lib.hid (HB0.out.trans (hb2.mono HB0.out.size))
      have HK2 := Lib.hid (HK0.out.below hb2)
      obtain ⟨g, cap, rfl, hbg, hgl⟩ := own_form hown2 (by omega)
      have HO2 := Lib.hid hown2
      clear hown1 hg1 hown2 hb2
      obtain ⟨k, hk, hkn⟩ : ∃ k : Nat, (a : Int) % ((n : Int) - 7) = (k : Int) ∧ k + 7 < n := by
        have h1 := Int.emod_nonneg (a : Int) (b := (n : Int) - 7) (by omega)
        have h2 := Int.emod_lt_of_pos (a : Int) (b := (n : Int) - 7) (by omega)
        exact ⟨((a : Int) % ((n : Int) - 7)).toNat, by omega, by omega⟩
      simp only [hk]
      clear hk
      rw [HCA.out] at HK2
      go_wp2_with fail
      go_loopw [9, 10] (fun s i wr => Rel w (w.heap.size + 1) g n cap k bs ns s i wr) (fun _ i _ => 8 - (intOf i).toNat)
      case atStart => exact ⟨0, bs, true, by omega, rfl, rfl, ⟨rfl, fun _ _ => rfl, by simp⟩, HO2.out, HK2.out, HB2.out⟩
      case round =>
        obtain ⟨j, cs, sm, hj, rfl, rfl, hla, hown, hbk, hbel⟩ := hrel
        have HLA := Lib.hid hla
        have HOk := Lib.hid hown
        have HKk := Lib.hid hbk
        have HBk := Lib.hid hbel
        clear hla hown hbk hbel
        by_cases hlt : j < 8
        · have hkl : k + j < cs.length := by rw [HLA.out.len, H.out.len]; omega
          have hnl : j < ns.length := by rw [HNL.out]; exact hlt
          have HNX := Lib.hid (HLA.out.next hkl ns[j])
          have hc1 : ∀ q, (wr.drewN q).cell? ⟨g, k + j, none⟩ = some (U cs[k + j]) := fun q => by
            rw [(own_drewN HOk.out q).cellAt (k + j) (by omega), List.getElem?_map, List.getElem?_eq_getElem hkl]
            rfl
          have hc2 : ∀ q, (wr.drewN q).cell? ⟨w.heap.size, j, none⟩ = some (U ns[j]) := fun q => by
            rw [Bk.cell (w := wr.drewN q) HKk.out j]
            simp [hnl]
          have hf1 : ∀ q, (wr.drewN q).frozen? ⟨g, k + j, none⟩ = false := fun q => (own_drewN HOk.out q).frozenAt (k + j)
          have HST : Hid (∀ q, ((wr.drewN q).setCell ⟨g, k + j, none⟩ (U ns[j])).ownsRow (w.heap.size + 1) 5 1 (.slice (some ⟨g, 0, none⟩) n cap) n ((cs.set (k + j) ns[j]).map U)) := fun q => by
            rw [List.map_set]
            exact ((own_drewN HOk.out q).stored (k + j) (U ns[j])).1
          generalize cs[k + j] = x at *
          generalize ns[j] = z at *
          unfold U at hc1 hc2 HST
          have v1 : (k : Int) + (j : Int) < (n : Int) := by omega
          have HBq : Hid (∀ q, Below w.heap.size w ((wr.drewN q).setCell ⟨g, k + j, none⟩ (.int .u8 z.toNat)) ∧ Bk ((wr.drewN q).setCell ⟨g, k + j, none⟩ (.int .u8 z.toNat)) w.heap.size 28 (ns.map U).toArray) := fun q =>
            ⟨(below_drewN HBk.out q).setCell (p := ⟨g, k + j, none⟩) (by simp only; omega) _, Bk.kept (w := wr.drewN q) HKk.out (Below.heap_setCell _ ⟨g, k + j, none⟩ _ _ (by simp only; omega))⟩
          cases sm
          · go_wp2_with fail
            go_quiet (fail)
            go_wp2_with fail
            exact ⟨⟨j + 1, _, false, by omega, rfl, rfl, HNX.out, HST.out _, (HBq.out _).2, (HBq.out _).1⟩, by simp [intOf]; omega⟩
          · go_wp2_with fail
            go_quiet (fail)
            go_wp2_with fail
            exact ⟨⟨j + 1, _, _, by omega, rfl, rfl, HNX.out, HST.out _, (HBq.out _).2, (HBq.out _).1⟩, by simp [intOf]; omega⟩
        · obtain rfl : j = 8 := by omega
          have HKEY : Hid (Crc.sum bs = Crc.sum cs ↔ sm = true) := by
            show _ ↔ _
            rw [HLA.out.same, sum_within bs cs k HLA.out.len.symm (fun i hi => (HLA.out.out i hi).symm)]
            exact eq_comm
          have hq : ((((Crc.sum bs : Nat) : Int) == ((Crc.sum cs : Nat) : Int)) == sm) = true := by
            cases sm
            · have e1 := fun h => Bool.false_ne_true (HKEY.out.1 h)
              have e3 : (((Crc.sum bs : Nat) : Int) == ((Crc.sum cs : Nat) : Int)) = false := beq_eq_false_iff_ne.2 (fun h => e1 (Int.ofNat.inj h))
              rw [e3]; rfl
            · rw [HKEY.out.2 rfl]; simp
          have hn6 : n ≤ 1000000 := by omega
          have HS1 := Lib.hid (Crc.Sum_same A n c bs wr (H.out.below HBk.out) hn6)
          have HS2 := Lib.hid (Crc.Sum_same (some ⟨g, 0, none⟩) n cap cs wr (Rd.of_own HOk.out).1 hn6)
          generalize Crc.sum bs = s1 at *
          generalize Crc.sum cs = s2 at *
          go_wp2_with fail
          refine HS1.out.mono ?_
          rintro e we ⟨rfl, rfl⟩
          go_wp2_with fail
          refine HS2.out.mono ?_
          rintro e we ⟨rfl, rfl⟩
          go_wp2_with fail
          refine (Crc.goes_any _).mono ?_
          rintro e w9 ⟨rfl, hb⟩
          have B9 := Lib.hid (HBk.out.trans (hb.mono HBk.out.size))
          clear hb
          go_wp2_with fail
          go_ret
          exact ⟨rfl, B9.out⟩

set_option maxRecDepth 100000 in
theorem lifted (os : Os) (started : os.Started) (H : Type) (enc : TypeId × Value → H) :
    ReturnsInHanded {} Try.checked os 4 .any (Rows.crcNumberSpec.pre6 enc Try.prog Try.f4 Rows.crcNumberRow.domain false) (Rows.crcNumberSpec.post enc Try.prog Try.f4 false true false false) := by
  refine returnsInHanded_of_change (C := Try.checked) own started (by kernel_rfl) Try.func4
    (ChangeSpec.witness6 (enc := enc) (C := Try.checked) false ⟨#[], #[.slice none 0 0, .int .u16 0, .agg #[.int .u8 0, .int .u8 0, .int .u8 0, .int .u8 0, .int .u8 0, .int .u8 0, .int .u8 0, .int .u8 0]], []⟩ 8 (by kernel_rfl) (by kernel_rfl) (by kernel_rfl) (by kernel_rfl)) ?_
  intro W base args ds gs before hval0 hW hcnd _
  have hval : ∀ (j : Nat) t v, Try.f4.params[j]? = some t → args[j]? = some v → Value.okWide Try.prog W .any base t v := hval0
  have hW' := hW
  obtain ⟨p, q, hA0, hV, rfl, hfz, hnd⟩ := hW
  have hA : DataW.TrodAll enc Try.prog W 0 (fun _ => true) true Try.f4.params.toList args.toList ds p := hA0
  rw [Try.params4] at hA hval
  obtain ⟨v0, v1, v2, d0, d1, d2, p0, p1, p2, rfl, rfl, rfl, h0, h1, h2⟩ := trodAll_three hA
  obtain ⟨rfl, rfl⟩ := trodVars_none hV
  obtain ⟨A, n, c, bs, rfl, _, _, hr⟩ := open_bytes ty_bytes ty_byte cells_byte (hval 0 _ v0 rfl rfl) h0
  obtain ⟨a, rfl, ha⟩ := open_u16 ty_u16 (hval 1 _ v1 rfl rfl) h1
  obtain ⟨ns, rfl, hns⟩ := open_byteArr ty_arr8 ty_byte cells_byte cells_arr8 (hval 2 _ v2 rfl rfl) h2
  refine (walk A n c bs ns a W hr ha hns).mono fun e W' ⟨he, hb⟩ => ?_
  subst he
  exact ⟨_, rfl, post_true laidOut (by kernel_rfl) ty_bool (by kernel_rfl) rfl hW' hb rfl⟩

theorem over : Rows.crcNumberRow.holds Try.pinned (OpenSpec.ofChange Rows.crcNumberSpec) :=
  OpenClaim.holds_of_wide 4 Try.f4 rfl rfl rfl rfl rfl rfl rfl ⟨rfl, rfl, rfl, rfl, rfl⟩ rfl rfl rfl rfl rfl (by kernel_rfl) Try.func4 (by kernel_rfl)
    (of_decide_eq_true (by kernel_rfl)) (by unfold Func.isWrapper; first | (rw [if_pos (by decide +kernel)]; kernel_rfl) | (rw [if_neg (by decide +kernel)]; exact ⟨rfl, rfl⟩))
    (fun os started H enc _ => lifted os started H enc)

theorem proved : Rows.CrcNumberSaid :=
  over
end Go.Proofs.Ytnclphceglpchaa.crcNumber
