/- PathParts: every Name, Check, Parts, Parent, Base. For every input the call returns true, and each argument reads afterwards as it read before. No conditions. -/
import Derived.Test.YtckkkpkjldcncaaDoorPathGoes
import Derived.Test.YtckkkpkjldcncaaDoorPathFrame
namespace Go.Proofs.YtckkkpkjldcncaaDoor.pathParts
open Go.ChangeShapes Go.WideShapes Go.ChangeAt Go.RowKit Path

theorem length_of {l : List UInt8} {ps : List (List UInt8)} (h : partsF l = some ps) : ps.length ≤ 64 := by
  have h1 := (parts_iff l ps).1 h
  have h2 := h1.2.1
  rw [h1.1] at h2
  exact Nat.le_trans (ofL_length ps) h2
theorem flat_le (ps : List (List UInt8)) : (ps.flatMap (47 :: ·)).length ≤ (ofL ps).length := by
  unfold ofL
  split
  · next h => subst h; simp
  · exact Nat.le_refl _
theorem flat_dropLast (ps : List (List UInt8)) : (ps.dropLast.flatMap (47 :: ·)).length ≤ (ps.flatMap (47 :: ·)).length := by
  by_cases h : ps = []
  · subst h; simp
  · conv => rhs; rw [← List.dropLast_concat_getLast h, List.flatMap_append, List.length_append]
    omega

set_option maxRecDepth 8000 in
set_option maxHeartbeats 4000000 in
theorem walk (l : List UInt8) (w : World) : Calls Tryd.prog 3 #[.string (S l)] w fun e w' => e = .returned (.bool true) ∧ Below w.heap.size w w' := by
  have hz : ((S l).size : Int) = (l.length : Int) := by rw [S_size]
  have hsl := S_list
  by_cases hn : 1000 < l.length
  · go_enter Tryd.func3, Tryd.ntmps3
    go_wp2_with fail
    go_ret
    exact ⟨rfl, Below.refl _ _⟩
  · have hl : l.length ≤ 1000000 := by omega
    have HL := Lib.hid hl
    have B0 := Lib.hid (Below.refl w.heap.size w)
    have HN := Lib.hid (Name_any l)
    have HRN := Lib.hid (refName_any l)
    cases hnm : name l
    · have HE : Hid (nameE l = 30) := by show _ = _; unfold nameE; rw [hnm]; rfl
      have HNM := Lib.hid hnm
      clear hnm
      go_enter Tryd.func3, Tryd.ntmps3
      go_wp2_with fail
      refine (HN.out w HL.out).mono ?_
      rw [HE.out]
      rintro e w1 ⟨rfl, hb⟩
      have B1 := Lib.hid (B0.out.trans (hb.mono B0.out.size))
      clear hb
      go_wp2_with fail
      refine (HRN.out w1 HL.out).mono ?_
      rw [HNM.out]
      rintro e w2 ⟨rfl, rfl⟩
      go_wp2_with fail
      refine (HN.out w1 HL.out).mono ?_
      rw [HE.out]
      rintro e w2 ⟨rfl, hb⟩
      have B2 := Lib.hid (B1.out.trans (hb.mono B1.out.size))
      clear hb
      go_wp2_with fail
      refine (HN.out w2 HL.out).mono ?_
      rw [HE.out]
      rintro e w3 ⟨rfl, hb⟩
      have B3 := Lib.hid (B2.out.trans (hb.mono B2.out.size))
      clear hb
      go_wp2_with fail
      refine (refParts_any l w3 HL.out).mono ?_
      rintro e w4 ⟨A, n, c, ok, rfl, hb, hs, hno⟩
      have B4 := Lib.hid (B3.out.trans (hb.mono B3.out.size))
      clear hb
      cases hp : partsF l with
      | none =>
        obtain ⟨rfl, rfl, rfl, rfl⟩ := hno hp
        have HC : Hid (checkE l = 30) := by show _ = _; unfold checkE; rw [hp]; rfl
        have HPL : Hid (partsL l = []) := by show _ = _; unfold partsL; rw [hp]; rfl
        have HPA : Hid (parentF l = []) := by show _ = _; unfold parentF; rw [hp]
        have HBA : Hid (baseF l = []) := by show _ = _; unfold baseF; rw [HPL.out]; rfl
        clear hs hno hp
        go_wp2_with fail
        refine (Check_any l w4 HL.out).mono ?_
        rw [HC.out]
        rintro e w5 ⟨rfl, hb⟩
        have B5 := Lib.hid (B4.out.trans (hb.mono B4.out.size))
        clear hb
        go_wp2_with fail
        refine (Parts_any l w5 HL.out).mono ?_
        rw [HPL.out]
        rintro e w6 ⟨A2, c2, rfl, hb, _⟩
        have B6 := Lib.hid (B5.out.trans (hb.mono B5.out.size))
        clear hb
        go_wp2_with fail
        refine (Parent_any l w6 HL.out).mono ?_
        rw [HPA.out]
        rintro e w7 ⟨rfl, hb⟩
        have B7 := Lib.hid (B6.out.trans (hb.mono B6.out.size))
        clear hb
        go_wp2_with fail
        refine (Base_any l w7 HL.out).mono ?_
        rw [HBA.out]
        rintro e w8 ⟨rfl, hb⟩
        have B8 := Lib.hid (B7.out.trans (hb.mono B7.out.size))
        clear hb
        go_wp2_with fail
        refine (goes_any w8).mono ?_
        rintro e w9 ⟨rfl, hb⟩
        have B9 := Lib.hid (B8.out.trans (hb.mono B8.out.size))
        clear hb
        go_wp2_with fail
        go_ret
        exact ⟨rfl, B9.out⟩
      | some ps =>
        obtain ⟨rfl, ho⟩ := hs ps hp
        have HO := Lib.hid (RdV.of_own ho).1
        have hnc : n ≤ c := by rcases ho.2 with ⟨e0, _⟩ | ⟨_, _, _, e0, _, _, e1, _⟩ <;> injection e0 <;> omega
        have hpn : ps.length = n := by rw [← sv_length, HO.out.len]
        have hn64 := length_of hp
        have HC : Hid (checkE l = 0) := by show _ = _; unfold checkE; rw [hp]; rfl
        have HPL : Hid (partsL l = ps) := by show _ = _; unfold partsL; rw [hp]; rfl
        have HPA : Hid (parentF l = ofL ps.dropLast) := by show _ = _; unfold parentF; rw [hp]
        have HBA : Hid (baseF l = ps.getLastD []) := by show _ = _; unfold baseF; rw [HPL.out]
        have HFL : Hid ((ps.dropLast.flatMap (47 :: ·)).length ≤ 1000000) := by
          have h1 := (parts_iff l ps).1 hp
          have h2 := flat_dropLast ps
          have h3 := flat_le ps
          rw [← h1.1] at h3
          show _ ≤ _
          omega
        clear hs hno hp ho
        have HW := Lib.hid (Below.refl w4.heap.size w4)
        by_cases h0 : n = 0
        · have hp0 : ps = [] := List.eq_nil_of_length_eq_zero (by omega)
          rw [hp0, show ofL ([] : List (List UInt8)).dropLast = [47] from rfl] at HPA
          rw [hp0, show ([] : List (List UInt8)).getLastD [] = [] from rfl] at HBA
          clear hp0
          subst h0
          go_wp2_with fail
          refine (Check_any l w4 HL.out).mono ?_
          rw [HC.out]
          rintro e w5 ⟨rfl, hb⟩
          have B5 := Lib.hid (B4.out.trans (hb.mono B4.out.size))
          have HC1 := Lib.hid hb
          clear hb
          go_wp2_with fail
          refine (Parts_any l w5 HL.out).mono ?_
          rw [HPL.out]
          rintro e w6 ⟨A2, c2, rfl, hb, hr2⟩
          rw [hpn] at hr2
          have HX := Lib.hid hb
          have B6 := Lib.hid (B5.out.trans (hb.mono B5.out.size))
          have HR2 := Lib.hid hr2
          clear hb hr2
          go_wp2_with fail
          have HRX := Lib.hid (HO.out.below ((Below.refl _ _).trans (HC1.out.trans (HX.out.mono HC1.out.size))))
          refine (texts_any A2 _ _ c2 _ _ ps ps w6 HR2.out HRX.out (by omega) (by omega)).mono ?_
          rw [decide_eq_true (rfl : ps = ps)]
          rintro e w7 ⟨rfl, hb⟩
          have B7 := Lib.hid (B6.out.trans (hb.mono B6.out.size))
          clear hb HRX
          go_wp2_with fail
          refine (Parent_any l w7 HL.out).mono ?_
          rw [HPA.out]
          rintro e w8 ⟨rfl, hb⟩
          have B8 := Lib.hid (B7.out.trans (hb.mono B7.out.size))
          clear hb
          go_wp2_with fail
          refine (Base_any l w8 HL.out).mono ?_
          rw [HBA.out]
          rintro e w9 ⟨rfl, hb⟩
          have B9 := Lib.hid (B8.out.trans (hb.mono B8.out.size))
          clear hb
          go_wp2_with fail
          refine (goes_any w9).mono ?_
          rintro e w10 ⟨rfl, hb⟩
          have B10 := Lib.hid (B9.out.trans (hb.mono B9.out.size))
          clear hb
          go_wp2_with fail
          go_ret
          exact ⟨rfl, B10.out⟩
        · have hps : ps ≠ [] := by rintro rfl; exact h0 (by simpa using hpn.symm)
          obtain ⟨ad, rfl, hcell⟩ := HO.out.cells (by omega)
          have hc := hcell (n - 1) _ (sv_get (by omega))
          clear hcell
          have HGL : Hid (ps.getLastD [] = ps[n - 1]'(by omega)) := by
            show _ = _
            subst hpn
            rw [List.getLastD_eq_getLast?, List.getLast?_eq_getElem?, List.getElem?_eq_getElem (by omega)]
            rfl
          have HTK : Hid (RdV w4 (some ad) (n - 1) (sv ps.dropLast)) := by
            have := HO.out.take (k := n - 1) (by omega)
            rwa [sv_take, ← hpn, ← List.dropLast_eq_take, hpn] at this
          rw [HGL.out] at HBA
          generalize ps[n - 1]'(by omega) = lastp at *
          have hi1 : ((n : Int) - 1).toNat = n - 1 := by omega
          have v1 : (0 : Int) < (n : Int) := by omega
          have v2 : (n : Int) - 1 ≤ (c : Int) := by omega
          go_wp2_with fail
          refine (refOf_any (some ad) (n - 1) _ ps.dropLast w4 HTK.out (by omega) HFL.out).mono ?_
          rintro e w5 ⟨rfl, rfl⟩
          go_wp2_with fail
          refine (Check_any l w4 HL.out).mono ?_
          rw [HC.out]
          rintro e w5 ⟨rfl, hb⟩
          have B5 := Lib.hid (B4.out.trans (hb.mono B4.out.size))
          have HC1 := Lib.hid hb
          clear hb
          go_wp2_with fail
          refine (Parts_any l w5 HL.out).mono ?_
          rw [HPL.out]
          rintro e w6 ⟨A2, c2, rfl, hb, hr2⟩
          rw [hpn] at hr2
          have HX := Lib.hid hb
          have B6 := Lib.hid (B5.out.trans (hb.mono B5.out.size))
          have HR2 := Lib.hid hr2
          clear hb hr2
          go_wp2_with fail
          have HRX := Lib.hid (HO.out.below ((Below.refl _ _).trans (HC1.out.trans (HX.out.mono HC1.out.size))))
          refine (texts_any A2 _ _ c2 _ _ ps ps w6 HR2.out HRX.out (by omega) (by omega)).mono ?_
          rw [decide_eq_true (rfl : ps = ps)]
          rintro e w7 ⟨rfl, hb⟩
          have B7 := Lib.hid (B6.out.trans (hb.mono B6.out.size))
          clear hb HRX
          go_wp2_with fail
          refine (Parent_any l w7 HL.out).mono ?_
          rw [HPA.out]
          rintro e w8 ⟨rfl, hb⟩
          have B8 := Lib.hid (B7.out.trans (hb.mono B7.out.size))
          clear hb
          go_wp2_with fail
          refine (Base_any l w8 HL.out).mono ?_
          rw [HBA.out]
          rintro e w9 ⟨rfl, hb⟩
          have B9 := Lib.hid (B8.out.trans (hb.mono B8.out.size))
          clear hb
          go_wp2_with fail
          refine (goes_any w9).mono ?_
          rintro e w10 ⟨rfl, hb⟩
          have B10 := Lib.hid (B9.out.trans (hb.mono B9.out.size))
          clear hb
          go_wp2_with fail
          go_ret
          exact ⟨rfl, B10.out⟩
    · have HE : Hid (nameE l = 0) := by show _ = _; unfold nameE; rw [hnm]; rfl
      have HNM := Lib.hid hnm
      clear hnm
      go_enter Tryd.func3, Tryd.ntmps3
      go_wp2_with fail
      refine (HN.out w HL.out).mono ?_
      rw [HE.out]
      rintro e w1 ⟨rfl, hb⟩
      have B1 := Lib.hid (B0.out.trans (hb.mono B0.out.size))
      clear hb
      go_wp2_with fail
      refine (HRN.out w1 HL.out).mono ?_
      rw [HNM.out]
      rintro e w2 ⟨rfl, rfl⟩
      go_wp2_with fail
      refine (HN.out w1 HL.out).mono ?_
      rw [HE.out]
      rintro e w2 ⟨rfl, hb⟩
      have B2 := Lib.hid (B1.out.trans (hb.mono B1.out.size))
      clear hb
      go_wp2_with fail
      refine (refParts_any l w2 HL.out).mono ?_
      rintro e w3 ⟨A, n, c, ok, rfl, hb, hs, hno⟩
      have B3 := Lib.hid (B2.out.trans (hb.mono B2.out.size))
      clear hb
      cases hp : partsF l with
      | none =>
        obtain ⟨rfl, rfl, rfl, rfl⟩ := hno hp
        have HC : Hid (checkE l = 30) := by show _ = _; unfold checkE; rw [hp]; rfl
        have HPL : Hid (partsL l = []) := by show _ = _; unfold partsL; rw [hp]; rfl
        have HPA : Hid (parentF l = []) := by show _ = _; unfold parentF; rw [hp]
        have HBA : Hid (baseF l = []) := by show _ = _; unfold baseF; rw [HPL.out]; rfl
        clear hs hno hp
        go_wp2_with fail
        refine (Check_any l w3 HL.out).mono ?_
        rw [HC.out]
        rintro e w4 ⟨rfl, hb⟩
        have B4 := Lib.hid (B3.out.trans (hb.mono B3.out.size))
        clear hb
        go_wp2_with fail
        refine (Parts_any l w4 HL.out).mono ?_
        rw [HPL.out]
        rintro e w5 ⟨A2, c2, rfl, hb, _⟩
        have B5 := Lib.hid (B4.out.trans (hb.mono B4.out.size))
        clear hb
        go_wp2_with fail
        refine (Parent_any l w5 HL.out).mono ?_
        rw [HPA.out]
        rintro e w6 ⟨rfl, hb⟩
        have B6 := Lib.hid (B5.out.trans (hb.mono B5.out.size))
        clear hb
        go_wp2_with fail
        refine (Base_any l w6 HL.out).mono ?_
        rw [HBA.out]
        rintro e w7 ⟨rfl, hb⟩
        have B7 := Lib.hid (B6.out.trans (hb.mono B6.out.size))
        clear hb
        go_wp2_with fail
        refine (goes_any w7).mono ?_
        rintro e w8 ⟨rfl, hb⟩
        have B8 := Lib.hid (B7.out.trans (hb.mono B7.out.size))
        clear hb
        go_wp2_with fail
        go_ret
        exact ⟨rfl, B8.out⟩
      | some ps =>
        obtain ⟨rfl, ho⟩ := hs ps hp
        have HO := Lib.hid (RdV.of_own ho).1
        have hnc : n ≤ c := by rcases ho.2 with ⟨e0, _⟩ | ⟨_, _, _, e0, _, _, e1, _⟩ <;> injection e0 <;> omega
        have hpn : ps.length = n := by rw [← sv_length, HO.out.len]
        have hn64 := length_of hp
        have HC : Hid (checkE l = 0) := by show _ = _; unfold checkE; rw [hp]; rfl
        have HPL : Hid (partsL l = ps) := by show _ = _; unfold partsL; rw [hp]; rfl
        have HPA : Hid (parentF l = ofL ps.dropLast) := by show _ = _; unfold parentF; rw [hp]
        have HBA : Hid (baseF l = ps.getLastD []) := by show _ = _; unfold baseF; rw [HPL.out]
        have HFL : Hid ((ps.dropLast.flatMap (47 :: ·)).length ≤ 1000000) := by
          have h1 := (parts_iff l ps).1 hp
          have h2 := flat_dropLast ps
          have h3 := flat_le ps
          rw [← h1.1] at h3
          show _ ≤ _
          omega
        clear hs hno hp ho
        have HW := Lib.hid (Below.refl w3.heap.size w3)
        by_cases h0 : n = 0
        · have hp0 : ps = [] := List.eq_nil_of_length_eq_zero (by omega)
          rw [hp0, show ofL ([] : List (List UInt8)).dropLast = [47] from rfl] at HPA
          rw [hp0, show ([] : List (List UInt8)).getLastD [] = [] from rfl] at HBA
          clear hp0
          subst h0
          go_wp2_with fail
          refine (Check_any l w3 HL.out).mono ?_
          rw [HC.out]
          rintro e w4 ⟨rfl, hb⟩
          have B4 := Lib.hid (B3.out.trans (hb.mono B3.out.size))
          have HC1 := Lib.hid hb
          clear hb
          go_wp2_with fail
          refine (Parts_any l w4 HL.out).mono ?_
          rw [HPL.out]
          rintro e w5 ⟨A2, c2, rfl, hb, hr2⟩
          rw [hpn] at hr2
          have HX := Lib.hid hb
          have B5 := Lib.hid (B4.out.trans (hb.mono B4.out.size))
          have HR2 := Lib.hid hr2
          clear hb hr2
          go_wp2_with fail
          have HRX := Lib.hid (HO.out.below ((Below.refl _ _).trans (HC1.out.trans (HX.out.mono HC1.out.size))))
          refine (texts_any A2 _ _ c2 _ _ ps ps w5 HR2.out HRX.out (by omega) (by omega)).mono ?_
          rw [decide_eq_true (rfl : ps = ps)]
          rintro e w6 ⟨rfl, hb⟩
          have B6 := Lib.hid (B5.out.trans (hb.mono B5.out.size))
          clear hb HRX
          go_wp2_with fail
          refine (Parent_any l w6 HL.out).mono ?_
          rw [HPA.out]
          rintro e w7 ⟨rfl, hb⟩
          have B7 := Lib.hid (B6.out.trans (hb.mono B6.out.size))
          clear hb
          go_wp2_with fail
          refine (Base_any l w7 HL.out).mono ?_
          rw [HBA.out]
          rintro e w8 ⟨rfl, hb⟩
          have B8 := Lib.hid (B7.out.trans (hb.mono B7.out.size))
          clear hb
          go_wp2_with fail
          refine (goes_any w8).mono ?_
          rintro e w9 ⟨rfl, hb⟩
          have B9 := Lib.hid (B8.out.trans (hb.mono B8.out.size))
          clear hb
          go_wp2_with fail
          go_ret
          exact ⟨rfl, B9.out⟩
        · have hps : ps ≠ [] := by rintro rfl; exact h0 (by simpa using hpn.symm)
          obtain ⟨ad, rfl, hcell⟩ := HO.out.cells (by omega)
          have hc := hcell (n - 1) _ (sv_get (by omega))
          clear hcell
          have HGL : Hid (ps.getLastD [] = ps[n - 1]'(by omega)) := by
            show _ = _
            subst hpn
            rw [List.getLastD_eq_getLast?, List.getLast?_eq_getElem?, List.getElem?_eq_getElem (by omega)]
            rfl
          have HTK : Hid (RdV w3 (some ad) (n - 1) (sv ps.dropLast)) := by
            have := HO.out.take (k := n - 1) (by omega)
            rwa [sv_take, ← hpn, ← List.dropLast_eq_take, hpn] at this
          rw [HGL.out] at HBA
          generalize ps[n - 1]'(by omega) = lastp at *
          have hi1 : ((n : Int) - 1).toNat = n - 1 := by omega
          have v1 : (0 : Int) < (n : Int) := by omega
          have v2 : (n : Int) - 1 ≤ (c : Int) := by omega
          go_wp2_with fail
          refine (refOf_any (some ad) (n - 1) _ ps.dropLast w3 HTK.out (by omega) HFL.out).mono ?_
          rintro e w4 ⟨rfl, rfl⟩
          go_wp2_with fail
          refine (Check_any l w3 HL.out).mono ?_
          rw [HC.out]
          rintro e w4 ⟨rfl, hb⟩
          have B4 := Lib.hid (B3.out.trans (hb.mono B3.out.size))
          have HC1 := Lib.hid hb
          clear hb
          go_wp2_with fail
          refine (Parts_any l w4 HL.out).mono ?_
          rw [HPL.out]
          rintro e w5 ⟨A2, c2, rfl, hb, hr2⟩
          rw [hpn] at hr2
          have HX := Lib.hid hb
          have B5 := Lib.hid (B4.out.trans (hb.mono B4.out.size))
          have HR2 := Lib.hid hr2
          clear hb hr2
          go_wp2_with fail
          have HRX := Lib.hid (HO.out.below ((Below.refl _ _).trans (HC1.out.trans (HX.out.mono HC1.out.size))))
          refine (texts_any A2 _ _ c2 _ _ ps ps w5 HR2.out HRX.out (by omega) (by omega)).mono ?_
          rw [decide_eq_true (rfl : ps = ps)]
          rintro e w6 ⟨rfl, hb⟩
          have B6 := Lib.hid (B5.out.trans (hb.mono B5.out.size))
          clear hb HRX
          go_wp2_with fail
          refine (Parent_any l w6 HL.out).mono ?_
          rw [HPA.out]
          rintro e w7 ⟨rfl, hb⟩
          have B7 := Lib.hid (B6.out.trans (hb.mono B6.out.size))
          clear hb
          go_wp2_with fail
          refine (Base_any l w7 HL.out).mono ?_
          rw [HBA.out]
          rintro e w8 ⟨rfl, hb⟩
          have B8 := Lib.hid (B7.out.trans (hb.mono B7.out.size))
          clear hb
          go_wp2_with fail
          refine (goes_any w8).mono ?_
          rintro e w9 ⟨rfl, hb⟩
          have B9 := Lib.hid (B8.out.trans (hb.mono B8.out.size))
          clear hb
          go_wp2_with fail
          go_ret
          exact ⟨rfl, B9.out⟩

set_option maxRecDepth 100000 in
theorem lifted (os : Os) (started : os.Started) (H : Type) (enc : TypeId × Value → H) :
    ReturnsInHanded {} Tryd.checked os 3 .any (fun w args => (Rows.pathPartsSpec.pre enc Tryd.prog Tryd.f3 Rows.pathPartsRow.domain false w args ∧ laidMetH Tryd.prog Rows.pathPartsRow.laid w) ∧ sizedMet enc Tryd.prog Tryd.f3 (OpenSpec.ofChange Rows.pathPartsSpec) false w args) (Rows.pathPartsSpec.post enc Tryd.prog Tryd.f3 false true false false) := by
  refine returnsInHanded_of_change_and (C := Tryd.checked) (X := fun w _ => laidMetH Tryd.prog Rows.pathPartsRow.laid w) (fun _ _ _ hh h => h.of_heap hh) own started (by kernel_rfl) Tryd.func3
    (ChangeSpec.witness_shaped (enc := enc) (C := Tryd.checked) (os := os) (X := fun w _ => laidMetH Tryd.prog Rows.pathPartsRow.laid w) false (World.laidAll Tryd.prog os Rows.pathPartsRow.laid) #[.string ⟨#[]⟩] 8 (World.laidAll_os _ _ _)
      (World.shaped_of_ZipB (by kernel_rfl) (by kernel_rfl)) (by kernel_rfl) (by kernel_rfl) (by kernel_rfl)
      (by rw [MakeChecks.laidMetH_plain _ _ _ (by kernel_rfl)]; exact laidMet_laidAll _ (by kernel_rfl) (by kernel_rfl))) ?_
  intro W base args ds gs before hval0 hW _ _ _ _
  have hval : ∀ (j : Nat) t v, Tryd.f3.params[j]? = some t → args[j]? = some v → Value.okWide Tryd.prog W .any base t v := hval0
  have hW' := hW
  obtain ⟨p, q, hA0, hV, rfl, hfz, hnd⟩ := hW
  have hA : DataW.TrodAll enc Tryd.prog W 0 (fun _ => true) true Tryd.f3.params.toList args.toList ds p := hA0
  rw [Tryd.params3] at hA hval
  obtain ⟨v0, d0, rfl, rfl, h0⟩ := trodAll_one hA
  obtain ⟨rfl, rfl⟩ := trodVars_none hV
  obtain ⟨l, rfl⟩ := open_text ty_string (hval 0 _ v0 rfl rfl)
  refine (walk l W).mono fun e W' ⟨he, hb⟩ => ?_
  subst he
  exact ⟨_, rfl, post_true laidOut (by kernel_rfl) ty_bool (by kernel_rfl) rfl hW' hb rfl⟩

theorem over : Rows.pathPartsRow.holds Tryd.pinned (OpenSpec.ofChange Rows.pathPartsSpec) :=
  OpenClaim.holds_of_wide 3 Tryd.f3 rfl rfl rfl rfl rfl rfl rfl ⟨rfl, rfl, rfl, rfl, rfl⟩ rfl rfl rfl rfl rfl (by kernel_rfl) Tryd.func3 (by kernel_rfl)
    (of_decide_eq_true (by kernel_rfl)) (by unfold Func.isWrapper; first | (rw [if_pos (by decide +kernel)]; kernel_rfl) | (rw [if_neg (by decide +kernel)]; exact ⟨rfl, rfl⟩))
    (fun os started H enc _ => lifted os started H enc)

theorem proved : Rows.PathPartsCardSaid :=
  Claim7.holds_tied_plain_at .later [] [.data, .pinned] true Rows.pathPartsCard.stood.harness false over (fun _ h => by cases h) (by kernel_rfl) (fun _ h => by cases h) pathParts_row_tie rfl ⟨rfl, rfl⟩ (by kernel_rfl) rfl
    (fun f fn hf hfn => by
      obtain rfl : f = 3 := Option.some.inj ((show Tryd.pinned.checked.prog.funcNamed Rows.pathPartsRow.func = some 3 by kernel_rfl).symm.trans hf) |>.symm
      obtain rfl : fn = Tryd.f3 := (Option.some.inj (Tryd.func3.symm.trans hfn)).symm
      exact ⟨by kernel_rfl, fun j t ht => by
        have hall : (Tryd.f3.params.toList.all fun u => !Tryd.prog.wantsStandIn u) = true := by kernel_rfl
        exact (show Tryd.prog.wantsStandIn t = false by simpa using List.all_eq_true.1 hall t (by simpa using Array.mem_of_getElem? ht))⟩)
    (by kernel_rfl)
end Go.Proofs.YtckkkpkjldcncaaDoor.pathParts
