/- maps.EqualFunc at nodes. -/
import Derived.Test.YtplbckibogmicaaGreatDoorTreeSames
import Derived.Maps.RangeWalk
import Derived.Shelf.SlMaps.Equal
namespace Go.Proofs.YtplbckibogmicaaGreatDoor.Tree
open Go.RowKit Go.Maps Go.Shelf Path

def eqZ : DataW ZN → DataW ZN → Bool
  | .held n, .held m => decide (n = m)
  | _, _ => false
def mkZ (x : ZN × Option Addr × Nat × Nat) : Value := znV x.1 (.slice x.2.1 x.2.2.1 x.2.2.2)
theorem mkZ_of {D : Nat → Prop} {w : World} (v : Value) (y : DataW ZN × List MemPlace) (h : zR D w v = some y) : ∃ c, v = mkZ c := by
  obtain ⟨n, d, rfl, ⟨A, k, c, rfl, _⟩, _⟩ := zR_inv h
  exact ⟨(n, A, k, c), rfl⟩

theorem grown_of_below {w w' : World} (h : Below w.heap.size w w') : w.grownBy w' none := ⟨h.os, h.tape, h.output, h.size, fun k hk _ => h.block k hk⟩

set_option maxHeartbeats 4000000 in
set_option maxRecDepth 100000 in
theorem equalFunc_any {D D' : Nat → Prop} (b1 b2 n1 n2 : Nat) (D1 D2 : DataW ZN) (w : World) (hD : ∀ k, D k → k < w.heap.size) (hD' : ∀ k, D' k → k < w.heap.size)
    (h1 : w.ownsMap Tryz.prog 9 (zR D w) b1 n1 D1) (h2 : w.ownsMap Tryz.prog 9 (zR D' w) b2 n2 D2) :
    Calls Tryz.prog 54 #[.map (some b1), .map (some b2), .func (.func 55) #[] #[]] w fun e w' => e = .returned (.bool (Lib.equalFuncD eqZ D1 D2)) ∧ w.grownBy w' none := by
  have l1 := fun ty => h1.len (t := 87) ty_map ty
  have l2 := fun ty => h2.len (t := 87) ty_map ty
  obtain ⟨es1, rfl, hap, hkeys⟩ := h1.entries keys
  have hb2 := h2.lt
  generalize hres : Lib.equalFuncD eqZ (.map es1) D2 = res
  have RES : Aside (Lib.equalFuncD eqZ (.map es1) D2 = res) := hres
  clear hres
  by_cases hsz : Maps.size (.map es1 : DataW ZN) = Maps.size D2
  · go_enter Tryz.func54, Tryz.ntmps54
    go_wp2_with (first
      | (at_range; refine wpList_range_own _ rfl _ 87 rfl 9 39 keys ty_map (zR D w) b1 n1 _ rfl h1 ?_; intro w0 hrg0 hg0 hs0))
    go_frame
    go_loopw [18] (fun _ wr => ∃ (left : Lit → Bool) (cnt : Nat), wr.ranges Tryz.prog 9 (zR D w) b1 w.heap.size n1 (.map es1) left cnt ∧ wr.ownsMap Tryz.prog 9 (zR D' w) b2 n2 D2 ∧ w.grownBy wr none ∧ Aside (GoodAt eqZ es1 D2 left))
      (fun _ wr => wr.rangeLeft b1 w.heap.size)
    case atStart => exact ⟨_, _, hrg0, h2.kept hg0 (by simp), hg0, good_start hkeys D2⟩
    case round =>
      obtain ⟨left, cnt, hrg, h2r, hgw, G⟩ := hrel
      go_wp2_with (first
        | (at_next; refine wpList_next_ranges _ rfl _ rfl 9 keys (zR D w) id mkZ (fun key _ _ => ⟨key, rfl⟩) mkZ_of b1 w.heap.size n1 _ _ _ rfl hrg ?_ ?_))
      · -- nothing is left
        intro _ hl0
        go_wp2
        go_ret
        exact ⟨by rw [← RES.out, all_good G.out hl0 hsz]; rfl, hgw⟩
      · -- an entry has come
        intro x z A k c kl yd yp w1 cnt1 hkey hlx hv hat hrg1 hlt hg1 hs1 hen
        obtain ⟨nn, dd, hnv, hdn, hyd⟩ := zR_inv hv
        obtain ⟨rfl, rfl⟩ := Prod.mk.inj hyd
        clear hyd
        have hgw1 : w.grownBy w1 none := hgw.andThen hg1 (fun j hj => by cases hj; exact Or.inl (Nat.le_refl _))
        have h2w1 := h2r.kept hg1 (fun e => by have := Option.some.inj e; omega)
        have HAT : Aside (∀ zd, (DataW.map es1).atKey kl zd = .held nn) := hat
        clear hat
        have hgB : w.grownBy (w1.alloc (.cells (znC nn dd).toArray 39)) none := hgw1.andThen (World.grownBy_alloc w1 _ none) (fun j hj => by cases hj)
        have h2B : (w1.alloc (.cells (znC nn dd).toArray 39)).ownsMap Tryz.prog 9 (zR D' w) b2 n2 D2 := h2w1.alloc _
        obtain ⟨v2, ps2, hlook, hv2⟩ := h2B.look_ok keys ty_map (zero_zn _) (zR_mk (n := ZN.zero) (DataS.nil_ _ _)) hkey
        obtain ⟨mm, ee, rfl, hem, hym⟩ := zR_inv hv2
        have hgC : w.grownBy ((w1.alloc (.cells (znC nn dd).toArray 39)).alloc (.cells (znC mm ee).toArray 39)) none := hgB.andThen (World.grownBy_alloc _ _ none) (fun j hj => by cases hj)
        have hrgC := (hrg1.kept (World.grownBy_alloc w1 (.cells (znC nn dd).toArray 39) none) (by simp) (by simp)).kept (World.grownBy_alloc _ (.cells (znC mm ee).toArray 39) none) (by simp) (by simp)
        have h2C : ((w1.alloc (.cells (znC nn dd).toArray 39)).alloc (.cells (znC mm ee).toArray 39)).ownsMap Tryz.prog 9 (zR D' w) b2 n2 D2 := h2B.alloc _
        have cs := sameNode_any nn mm dd ee _ (hdn.kept fun k hk => hgC.block k (hD k hk) (by simp)) (hem.kept fun k hk => hgC.block k (hD' k hk) (by simp))
        have HGC := Lib.hid hgC
        have HRGC := Lib.hid hrgC
        have H2C := Lib.hid h2C
        have HGB := Lib.hid hgB
        have HRG := Lib.hid hrg
        have HLT := Lib.hid hlt
        have HW := Lib.hid hgw1
        have HYM : Hid (D2.atKey kl (.held ZN.zero) = .held mm) := (Prod.mk.inj hym).1
        rw [hnv] at hen ⊢
        obtain ⟨A1, k1, c1, rfl, _⟩ := hdn
        obtain ⟨A2, k2, c2, rfl, _⟩ := hem
        clear hgC hrgC h2C hgB h2B hv hv2 hnv hrg hrg1 h2r h2w1 hgw hgw1 hym hg1 hs1 hlt hkey hlx
        dsimp only [znV, znC] at hen hlook cs ⊢
        cases hh : Maps.has D2 kl
        · -- the other one has no such key
          have hbad : Lib.goodD eqZ D2 (kl, .held nn) = false := by unfold Lib.goodD; rw [hh]; rfl
          rw [hh] at hlook
          have HBAD := Lib.hid (bad_false hap hkeys HAT.out hbad)
          clear hbad hh cs
          go_wp2_with fail
          go_ret
          exact ⟨by rw [← RES.out, HBAD.out]; rfl, HGC.out⟩
        · rw [hh] at hlook
          by_cases he : nn = mm
          · have hgood : Lib.goodD eqZ D2 (kl, .held nn) = true := by
              unfold Lib.goodD
              rw [hh, atKey_indep hh .nil (.held ZN.zero), HYM.out]
              simp [eqZ, he]
            rw [decide_eq_true he] at cs
            have HGOOD := Lib.hid (good_step hap hkeys HAT.out G.out hgood)
            clear hgood hh he
            go_wp2_with fail
            refine cs.mono ?_
            rintro e w2 ⟨rfl, hb⟩
            have hg2 := grown_of_below hb
            have hrg2 := HRGC.out.kept hg2 (by simp) (by simp)
            have H2 := Lib.hid (H2C.out.kept hg2 (by simp))
            have HG2 := Lib.hid (HGC.out.andThen hg2 (fun j hj => by cases hj))
            have HRG2 := Lib.hid hrg2
            clear hg2 hrg2 hb cs
            go_wp2_with fail
            go_roundw
            case rel => exact ⟨_, cnt1, HRG2.out, H2.out, HG2.out, HGOOD.out⟩
            case measure => rw [HRG2.out.left_eq, HRG.out.left_eq]; exact HLT.out
          · have hbad : Lib.goodD eqZ D2 (kl, .held nn) = false := by
              unfold Lib.goodD
              rw [hh, atKey_indep hh .nil (.held ZN.zero), HYM.out]
              simp [eqZ, he]
            rw [decide_eq_false he] at cs
            have HBAD := Lib.hid (bad_false hap hkeys HAT.out hbad)
            clear hbad hh he
            go_wp2_with fail
            refine cs.mono ?_
            rintro e w2 ⟨rfl, hb⟩
            have HG2 := Lib.hid (HGC.out.andThen (grown_of_below hb) (fun j hj => by cases hj))
            clear hb cs
            go_wp2_with fail
            go_ret
            exact ⟨by rw [← RES.out, HBAD.out]; rfl, HG2.out⟩
  · -- not as many entries
    have hne : ¬ ((Maps.size (.map es1 : DataW ZN) : Int) = (Maps.size D2 : Int)) := fun e => hsz (by exact_mod_cast e)
    go_enter Tryz.func54, Tryz.ntmps54
    go_wp2
    go_ret
    exact ⟨by rw [← RES.out, sizes_false hsz]; rfl, World.grownBy.refl _ _⟩
end Go.Proofs.YtplbckibogmicaaGreatDoor.Tree
