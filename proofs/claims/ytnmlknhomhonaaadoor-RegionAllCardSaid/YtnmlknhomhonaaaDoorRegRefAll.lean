/- The document's own answer of layer 6: All, as a function. -/
import Derived.Test.YtnmlknhomhonaaaDoorRegRef
namespace Go.Proofs.YtnmlknhomhonaaaDoor.Reg
open Go.RowKit Path

def hdF (ls ps : List (List UInt8)) : Int := ofF ls (ps.headD [])
theorem allF_none {ls ps : List (List UInt8)} {p : List UInt8} (h : ps.length = 0) : allF ls p ps = if ofF ls p < 0 then (0, 60) else (ofF ls p, 0) := by
  obtain rfl := List.eq_nil_of_length_eq_zero h
  have hr := (ofF_range ls p).1
  unfold allF pathsF
  simp only [List.length_nil, if_true, List.headD_cons, List.any_cons, List.any_nil, bne_self_eq_false, Bool.or_false, Bool.false_eq_true, or_false]
  by_cases h1 : ofF ls p = -1
  · rw [if_pos h1, if_pos (by omega)]
  · rw [if_neg h1, if_neg (by omega)]
theorem allF_bad {ls ps : List (List UInt8)} {p : List UInt8} (h : 0 < ps.length) (ha : (ps.any fun q => ofF ls q != hdF ls ps) = true) : allF ls p ps = (0, 60) := by
  unfold allF pathsF
  rw [if_neg (by omega : ¬ ps.length = 0)]
  exact if_pos (.inr ha)
theorem allF_ok {ls ps : List (List UInt8)} {p : List UInt8} (h : 0 < ps.length) (ha : (ps.any fun q => ofF ls q != hdF ls ps) = false) : allF ls p ps = if hdF ls ps < 0 then (0, 60) else (hdF ls ps, 0) := by
  have hr := (ofF_range ls (ps.headD [])).1
  unfold allF pathsF
  rw [if_neg (by omega : ¬ ps.length = 0)]
  unfold hdF at ha ⊢
  by_cases h1 : ofF ls (ps.headD []) = -1
  · rw [if_pos (.inl h1), if_pos (by omega)]
  · rw [if_neg (fun h => h.elim h1 (fun h => by rw [ha] at h; cases h)), if_neg (by omega)]
theorem head_at {ps : List (List UInt8)} (h : 0 < ps.length) : ps.headD [] = ps[0] := by
  cases ps with
  | nil => exact absurd h (by simp)
  | cons a b => rfl
def RelAllR (w : World) (ls ps : List (List UInt8)) (z0 : Int) (n : Nat) (a i : Value) (wr : World) : Prop := ∃ k : Nat, k ≤ n ∧ i = .int .i64 (k : Int) ∧ (a = .int .i64 (if k = 0 then z0 else hdF ls ps)) ∧ ((ps.take k).any fun q => ofF ls q != hdF ls ps) = false ∧ Below w.heap.size w wr
set_option maxRecDepth 100000 in
set_option maxHeartbeats 8000000 in
theorem refAll_any (ls : List (List UInt8)) (y : OR) (os : List OR) (A : Option Addr) (n c : Nat) (w : World) (hS : RdV w A n (sv ls)) (hn : n ≤ 1000000) (hl : ∀ x ∈ ls, x.length ≤ 1000000) (hO : OrS w y.pa y.pn os) (hpn : y.pn ≤ 1000000) (hy : y.path.length ≤ 1000000) (hos : ∀ o ∈ os, o.path.length ≤ 1000000) :
    Calls Tryd.prog 16 #[.slice A n c, orV y] w fun e w' => e = .returned (.tuple #[.int .i64 (allF ls y.path (pathsL os)).1, .int .i64 (allF ls y.path (pathsL os)).2]) ∧ Below w.heap.size w w' := by
  obtain ⟨knd, pth, da, dn, dc, ver, sq, ep, pa, pn, pc⟩ := y
  have hbA : Below w.heap.size w (w.alloc (.cells (orC ⟨knd, pth, da, dn, dc, ver, sq, ep, pa, pn, pc⟩).toArray 32)) := (Below.refl w.heap.size w).alloc (Nat.le_refl _) _
  have K : Bk (w.alloc (.cells (orC ⟨knd, pth, da, dn, dc, ver, sq, ep, pa, pn, pc⟩).toArray 32)) w.heap.size 32 (orC ⟨knd, pth, da, dn, dc, ver, sq, ep, pa, pn, pc⟩).toArray := Bk.new _ _ _
  unfold orV
  dsimp only [orC] at hbA K hO hpn hy ⊢
  obtain ⟨z0, hz0⟩ : ∃ z0, z0 = ofF ls pth := ⟨_, rfl⟩
  obtain ⟨R, hR⟩ : ∃ R, R = allF ls pth (pathsL os) := ⟨_, rfl⟩
  rw [← hR]
  have HR := Lib.hid hR
  obtain ⟨r1, r2⟩ := R
  have hlp : (pathsL os).length = pn := by unfold pathsL; rw [List.length_map, hO.len]
  have HLP := Lib.hid hlp
  have HLO := Lib.hid hO.len
  have HBA := Lib.hid hbA
  have HOS := Lib.hid hO
  have HLS := Lib.hid hS
  have HN := Lib.hid hn
  have HXL := Lib.hid hl
  have HPL := Lib.hid hos
  have HY := Lib.hid hy
  have HPN := Lib.hid hpn
  have HZ := Lib.hid hz0
  have kc := K.cell
  have k1 := kc 1
  have k6 := kc 6
  have HK := Lib.hid K
  have HNIL : Hid (pn = 0 → (r1, r2) = if z0 < 0 then ((0 : Int), (60 : Int)) else (z0, 0)) := by
    intro h
    rw [HR.out, HZ.out]
    exact allF_none (by rw [HLP.out]; exact h)
  have HBAD : Hid (0 < pn → ((pathsL os).any fun q => ofF ls q != hdF ls (pathsL os)) = true → (r1, r2) = ((0 : Int), (60 : Int))) := by
    intro h ha
    rw [HR.out]
    exact allF_bad (by rw [HLP.out]; exact h) ha
  have HALLOK : Hid (0 < pn → ((pathsL os).any fun q => ofF ls q != hdF ls (pathsL os)) = false → (r1, r2) = if hdF ls (pathsL os) < 0 then ((0 : Int), (60 : Int)) else (hdF ls (pathsL os), 0)) := by
    intro h ha
    rw [HR.out]
    exact allF_ok (by rw [HLP.out]; exact h) ha
  clear hR HR hlp hn hl hos hy hpn
  have co0 := fun W (hW : Below w.heap.size w W) => refOfNo_any ls pth A n c W (hS.below hW) HN.out HY.out HXL.out
  rw [← hz0] at co0
  generalize hW0 : w.alloc (.cells #[.int .u8 knd, .string (S pth), .slice da dn dc, .int .i64 ver, .bool sq, .bool ep, .slice pa pn pc] 32) = W0 at *
  have co := co0 W0 hbA
  clear hbA K hS hO kc hz0 co0
  go_enter Tryd.func16, Tryd.ntmps16
  go_wp2_with fail
  refine co.mono ?_
  rintro e w1 ⟨rfl, hb⟩
  have B1 := Lib.hid hb
  clear hb co k1 k6
  go_wp2_with fail
  go_loopw [6, 7, 8] (fun a i _ wr => RelAllR W0 ls (pathsL os) z0 pn a i wr) (fun _ i _ _ => pn - (intOf i).toNat)
  case atStart => exact ⟨0, Nat.zero_le _, rfl, rfl, by simp, B1.out⟩
  case round =>
    obtain ⟨k, hk, rfl, rfl, hany, hb⟩ := hrel
    have HANY := Lib.hid hany
    have HB := Lib.hid hb
    have kc := (HK.out.below HB.out).cell
    have k6 := kc 6
    have HBR : Hid (Below w.heap.size w wr) := HBA.out.trans (HB.out.mono HBA.out.size)
    clear hany hb kc
    by_cases hlt : k < pn
    · have hjx : k < os.length := by rw [HLO.out]; exact hlt
      have hjp : k < (pathsL os).length := by rw [HLP.out]; exact hlt
      obtain ⟨bb, oo, rfl, hcells⟩ := (HOS.out.below HBR.out).cells k hjx
      have vk : (k : Int) < (pn : Int) := by omega
      have hkm : k < 1000000 := by have := HPN.out; omega
      have q1 := hcells 1 _ rfl
      rw [show oo + (7 * k + 1) = oo + k * 7 + 1 by omega] at q1
      have hat : (pathsL os)[k] = os[k].path := by simp [pathsL]
      have co := refOfNo_any ls os[k].path A n c wr (HLS.out.below HBR.out) HN.out (HPL.out _ (List.getElem_mem hjx)) HXL.out
      have HAT := Lib.hid (any_take (p := fun q => ofF ls q != hdF ls (pathsL os)) hjp)
      rw [hat] at HAT
      have HMEM : Hid (os[k].path ∈ pathsL os) := by show _ ∈ _; rw [← hat]; exact List.getElem_mem hjp
      have HHD : Hid (k = 0 → hdF ls (pathsL os) = ofF ls os[k].path) := by
        intro h
        subst h
        unfold hdF
        rw [head_at hjp, hat]
      clear hcells hat
      generalize os[k].path = y at *
      obtain ⟨z, hz⟩ : ∃ z, z = ofF ls y := ⟨_, rfl⟩
      have HZY := Lib.hid hz
      rw [← hz] at co HAT HHD
      clear hz
      generalize S y = sy at *
      by_cases h0 : k = 0
      · have HH := Lib.hid (HHD.out h0)
        have vzz : (z != z) = false := bne_self_eq_false z
        have HOK : Hid (((pathsL os).take (k + 1)).any (fun q => ofF ls q != hdF ls (pathsL os)) = false) := by
          show _ = _
          rw [HAT.out, HANY.out, HH.out, vzz]
          rfl
        subst h0
        clear HHD HAT
        go_wp2_with fail
        refine co.mono ?_
        rintro e w4 ⟨rfl, hb⟩
        have HB4 := Lib.hid (HB.out.trans (hb.mono HB.out.size))
        clear hb co q1 k6
        go_wp2_with fail
        go_roundw
        case rel => exact ⟨1, by omega, by go_num, by rw [if_neg (by decide), HH.out], HOK.out, HB4.out⟩
        case measure => simp [intOf]; omega
      · rw [if_neg h0]
        have vk0 : ((k : Int) == 0) = false := beq_eq_false_iff_ne.2 (by omega)
        have vk1 : ¬ (k : Int) = 0 := by omega
        by_cases hz : z = hdF ls (pathsL os)
        · have HOK : Hid (((pathsL os).take (k + 1)).any (fun q => ofF ls q != hdF ls (pathsL os)) = false) := by
            show _ = _
            rw [HAT.out, HANY.out, hz, bne_self_eq_false]
            rfl
          rw [← hz]
          have HH := Lib.hid hz
          have vzz : (z != z) = false := bne_self_eq_false z
          clear hz HHD HAT h0
          go_wp2_with fail
          refine co.mono ?_
          rintro e w4 ⟨rfl, hb⟩
          have HB4 := Lib.hid (HB.out.trans (hb.mono HB.out.size))
          clear hb co q1 k6
          go_wp2_with fail
          go_roundw
          case rel => exact ⟨k + 1, by omega, by go_num, by rw [if_neg (by omega), HH.out], HOK.out, HB4.out⟩
          case measure => simp [intOf]; omega
        · have hr := HBAD.out (by omega) (List.any_eq_true.2 ⟨y, HMEM.out, by rw [← HZY.out]; exact bne_iff_ne.2 hz⟩)
          injection hr with hr1 hr2
          subst hr1 hr2
          generalize hdF ls (pathsL os) = h at *
          have vzz : (z != h) = true := bne_iff_ne.2 hz
          have vzy : (z == h) = false := beq_eq_false_iff_ne.2 hz
          clear hz HHD HAT h0
          go_wp2_with fail
          refine co.mono ?_
          rintro e w4 ⟨rfl, hb⟩
          have HB4 := Lib.hid (HB.out.trans (hb.mono HB.out.size))
          clear hb co q1 k6
          go_wp2_with fail
          go_ret2
          exact ⟨rfl, HBA.out.trans (HB4.out.mono HBA.out.size)⟩
    · obtain rfl : k = pn := by omega
      clear hlt
      have v1 : ¬ (k : Int) < (k : Int) := by omega
      obtain ⟨f, hf⟩ : ∃ f, f = if k = 0 then z0 else hdF ls (pathsL os) := ⟨_, rfl⟩
      have hr : (r1, r2) = if f < 0 then ((0 : Int), (60 : Int)) else (f, 0) := by
        by_cases h0 : k = 0
        · rw [if_pos h0] at hf
          rw [hf]
          exact HNIL.out h0
        · rw [if_neg h0] at hf
          rw [hf]
          refine HALLOK.out (by omega) ?_
          have := HANY.out
          rwa [List.take_of_length_le (by rw [HLP.out]; exact Nat.le_refl _)] at this
      rw [← hf]
      clear hf
      by_cases h0 : f < 0
      · rw [if_pos h0] at hr
        injection hr with hr1 hr2
        subst hr1 hr2
        go_wp2_with fail
        go_ret2
        exact ⟨rfl, HBR.out⟩
      · rw [if_neg h0] at hr
        injection hr with hr1 hr2
        subst hr1 hr2
        go_wp2_with fail
        go_ret2
        exact ⟨rfl, HBR.out⟩
end Go.Proofs.YtnmlknhomhonaaaDoor.Reg
