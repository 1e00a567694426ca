/- Check: what an operation may be. -/
import Derived.Test.YtplbckibogmicaaGreatDoorOpBase
import Derived.LoopTactic
import Derived.Test.YtplbckibogmicaaGreatDoorOpRunAll
import Derived.Deep.MidRow
import Derived.Deep.AppendLies
namespace Go.Proofs.YtplbckibogmicaaGreatDoor.Opn
open Go.RowKit Path Tree

set_option maxRecDepth 8000 in
theorem isLong_any (o : O1) (D : Option Addr) (m c : Nat) (ps : Value) (w : World) (hm : o.data.length = m) :
    Calls Tryz.prog 58 #[opV o (.slice D m c) ps] w fun e w' => e = .returned (.bool (isLong o)) ∧ Below w.heap.size w w' := by
  have hb : isLong o = decide (64 < m) := by unfold isLong; rw [hm]
  have HB := Lib.hid ((Below.refl w.heap.size w).alloc (Nat.le_refl _) (.cells (opC o (.slice D m c) ps).toArray 56))
  rw [hb]
  unfold opV
  dsimp only [opC] at HB ⊢
  clear hb hm
  by_cases h : 64 < m
  · have h1 : (64 : Int) < (m : Int) := by omega
    rw [decide_eq_true h]
    go_enter Tryz.func58, Tryz.ntmps58
    go_wp2_with fail
    go_ret
    exact ⟨rfl, HB.out⟩
  · have h1 : ¬ (64 : Int) < (m : Int) := by omega
    have h2 : decide ((64 : Int) < (m : Int)) = false := decide_eq_false h1
    rw [decide_eq_false h]
    go_enter Tryz.func58, Tryz.ntmps58
    go_wp2_with fail
    go_ret
    exact ⟨rfl, HB.out⟩
set_option maxRecDepth 8000 in
set_option maxHeartbeats 1000000 in
theorem isSingle_any (o : O1) (d : Value) (A : Option Addr) (c : Nat) (w : World) :
    Calls Tryz.prog 56 #[opV o d (.slice A o.np c)] w fun e w' => e = .returned (.bool (isSingle o)) ∧ Below w.heap.size w w' := by
  have HB := Lib.hid ((Below.refl w.heap.size w).alloc (Nat.le_refl _) (.cells (opC o d (.slice A o.np c)).toArray 56))
  obtain ⟨r, hr⟩ : ∃ r, r = isSingle o := ⟨_, rfl⟩
  rw [← hr]
  unfold isSingle at hr
  unfold opV
  dsimp only [opC] at HB ⊢
  by_cases h1 : 1 ≤ o.kind
  · have i1 : (1 : Int) ≤ (o.kind : Int) := by omega
    by_cases h2 : o.kind < 7
    · have i2 : (o.kind : Int) < 7 := by omega
      by_cases h3 : o.np = 0
      · have i3 : ((o.np : Int) == 0) = true := by simpa using h3
        have hr2 : r = true := by rw [hr]; exact decide_eq_true ⟨h1, h2, h3⟩
        clear hr
        subst hr2
        clear h1 h2 h3
        go_enter Tryz.func56, Tryz.ntmps56
        go_wp2_with fail
        go_ret
        exact ⟨rfl, HB.out⟩
      · have i3 : ((o.np : Int) == 0) = false := by simpa using h3
        have i4 : o.np ≠ 0 := h3
        have hr2 : r = false := by rw [hr]; exact decide_eq_false fun h => h3 h.2.2
        clear hr
        subst hr2
        clear h1 h2 h3
        go_enter Tryz.func56, Tryz.ntmps56
        go_wp2_with fail
        go_ret
        exact ⟨rfl, HB.out⟩
    · have i2 : ¬ (o.kind : Int) < 7 := by omega
      have i2' : decide ((o.kind : Int) < 7) = false := decide_eq_false i2
      have hr2 : r = false := by rw [hr]; exact decide_eq_false fun h => h2 h.2.1
      clear hr
      subst hr2
      clear h1 h2
      go_enter Tryz.func56, Tryz.ntmps56
      go_wp2_with fail
      go_ret
      exact ⟨rfl, HB.out⟩
  · have i1 : ¬ (1 : Int) ≤ (o.kind : Int) := by omega
    have i1' : decide ((1 : Int) ≤ (o.kind : Int)) = false := decide_eq_false i1
    have hr2 : r = false := by rw [hr]; exact decide_eq_false fun h => h1 h.1
    clear hr
    subst hr2
    clear h1
    go_enter Tryz.func56, Tryz.ntmps56
    go_wp2_with fail
    go_ret
    exact ⟨rfl, HB.out⟩
end Go.Proofs.YtplbckibogmicaaGreatDoor.Opn

namespace Go.Proofs.YtplbckibogmicaaGreatDoor.Opn
open Go.RowKit Path Tree

theorem all_take {α : Type} {l : List α} {p : α → Bool} {k : Nat} (hk : k < l.length) : (l.take (k + 1)).all p = ((l.take k).all p && p l[k]) := by
  rw [List.take_succ_eq_append_getElem hk, List.all_append]
  simp
theorem any_take {α : Type} {l : List α} {p : α → Bool} {k : Nat} (hk : k < l.length) : (l.take (k + 1)).any p = ((l.take k).any p || p l[k]) := by
  rw [List.take_succ_eq_append_getElem hk, List.any_append]
  simp
/-- Some parts were looked at: each may be. -/
def RelAll (w : World) (os : List O1) (n : Nat) (i : Value) (wr : World) : Prop := ∃ k : Nat, k ≤ n ∧ i = .int .i64 (k : Int) ∧ (os.take k).all isSingle = true ∧ Below w.heap.size w wr
set_option maxRecDepth 100000 in
set_option maxHeartbeats 2000000 in
theorem isMulti_any {P : Nat → Prop} (o : O1) (os : List O1) (d : Value) (A : Option Addr) (c : Nat) (w : World) (hS : OpS P w A o.np os) :
    Calls Tryz.prog 57 #[opV o d (.slice A o.np c)] w fun e w' => e = .returned (.bool (isMulti o os)) ∧ Below w.heap.size w w' := by
  have hbA : Below w.heap.size w (w.alloc (.cells (opC o d (.slice A o.np c)).toArray 56)) := (Below.refl w.heap.size w).alloc (Nat.le_refl _) _
  have HBA := Lib.hid hbA
  have HS := Lib.hid hS
  obtain ⟨r, hr⟩ : ∃ r, r = isMulti o os := ⟨_, rfl⟩
  rw [← hr]
  have HR := Lib.hid hr
  have HL := Lib.hid hS.len
  clear hbA hS hr
  obtain ⟨np, hnp⟩ : ∃ np, np = o.np := ⟨_, rfl⟩
  have HNP := Lib.hid hnp
  unfold opV
  dsimp only [opC] at HBA ⊢
  rw [← hnp] at HBA HS HL ⊢
  clear hnp
  by_cases h1 : o.kind = 7
  · have i1 : ((o.kind : Int) != 7) = false := by rw [h1]; rfl
    by_cases h2 : np < 1
    · have i2 : (np : Int) < 1 := by omega
      have hr2 : r = false := by
        rw [HR.out]
        unfold isMulti
        rw [decide_eq_false (fun h => by have := HNP.out; omega)]
        rfl
      subst hr2
      clear h1 h2
      go_enter Tryz.func57, Tryz.ntmps57
      go_wp2_with fail
      go_ret
      exact ⟨rfl, HBA.out⟩
    · have i2 : ¬ (np : Int) < 1 := by omega
      have i2' : decide ((np : Int) < 1) = false := decide_eq_false i2
      by_cases h3 : 6 < np
      · have i3 : (6 : Int) < (np : Int) := by omega
        have hr2 : r = false := by
          rw [HR.out]
          unfold isMulti
          rw [decide_eq_false (fun h => by have := HNP.out; omega)]
          rfl
        subst hr2
        clear h1 h2 h3
        go_enter Tryz.func57, Tryz.ntmps57
        go_wp2_with fail
        go_ret
        exact ⟨rfl, HBA.out⟩
      · have i3' : decide ((6 : Int) < (np : Int)) = false := decide_eq_false (by omega)
        have HR2 : Hid (r = os.all isSingle) := by
          show _ = _
          rw [HR.out]
          unfold isMulti
          rw [decide_eq_true ⟨h1, by have := HNP.out; omega, by have := HNP.out; omega⟩]
          rfl
        have hmax : np ≤ 6 := by omega
        clear h1 h2 h3
        go_enter Tryz.func57, Tryz.ntmps57
        go_wp2_with fail
        clear i1 i2 i2' i3'
        go_loopw [23] (fun i wr => RelAll w os np i wr) (fun i _ => np - (intOf i).toNat)
        case atStart => exact ⟨0, Nat.zero_le _, rfl, rfl, HBA.out⟩
        case round =>
          obtain ⟨k, hk, rfl, hall, hb⟩ := hrel
          have HALL := Lib.hid hall
          have HB := Lib.hid hb
          clear hall hb
          by_cases hlt : k < np
          · have hjx : k < os.length := by rw [HL.out]; exact hlt
            obtain ⟨bb, oo, Dd, m, cp, B2, c2, rfl, hPb, hds, hlen, hcells⟩ := (HS.out.below HB.out).at_ hjx
            have HAT := Lib.hid (all_take (p := isSingle) hjx)
            obtain ⟨x, hx⟩ : ∃ x, os[k] = x := ⟨_, rfl⟩
            rw [hx] at hds hlen hcells HAT
            have q0 := hcells 0 _ rfl
            rw [show oo + (7 * k + 0) = oo + k * 7 by omega] at q0
            have q1 := hcells 1 _ rfl
            rw [show oo + (7 * k + 1) = oo + k * 7 + 1 by omega] at q1
            have q2 := hcells 2 _ rfl
            rw [show oo + (7 * k + 2) = oo + k * 7 + 2 by omega] at q2
            have q3 := hcells 3 _ rfl
            rw [show oo + (7 * k + 3) = oo + k * 7 + 3 by omega] at q3
            have q4 := hcells 4 _ rfl
            rw [show oo + (7 * k + 4) = oo + k * 7 + 4 by omega] at q4
            have q5 := hcells 5 _ rfl
            rw [show oo + (7 * k + 5) = oo + k * 7 + 5 by omega] at q5
            have q6 := hcells 6 _ rfl
            rw [show oo + (7 * k + 6) = oo + k * 7 + 6 by omega] at q6
            have hbA : Below wr.heap.size wr (wr.alloc (.cells (opC x (.slice Dd m cp) (.slice B2 x.np c2)).toArray 56)) := (Below.refl _ _).alloc (Nat.le_refl _) _
            have cf := isSingle_any x (.slice Dd m cp) B2 c2 (wr.alloc (.cells (opC x (.slice Dd m cp) (.slice B2 x.np c2)).toArray 56))
            have HBX := Lib.hid (HB.out.trans (hbA.mono HB.out.size))
            clear hcells hx hds hlen hbA hPb
            unfold opV at cf
            dsimp only [opC] at cf HBX
            cases hsx : isSingle x
            · rw [hsx] at cf
              have hr2 : r = false := by
                have h1 := HAT.out
                rw [hsx, Bool.and_false] at h1
                rw [HR2.out, ← Bool.not_eq_true]
                intro h
                have h2 : (os.take (k + 1)).all isSingle = true := List.all_eq_true.2 fun y hy => List.all_eq_true.1 h y (List.mem_of_mem_take hy)
                rw [h1] at h2
                cases h2
              have HS2 := Lib.hid hsx
              subst hr2
              clear hsx
              go_wp2_with fail
              refine cf.mono ?_
              rintro e w3 ⟨rfl, hb3⟩
              have HB3 := Lib.hid (HBX.out.trans (hb3.mono HBX.out.size))
              clear cf hb3 q0 q1 q2 q3 q4 q5 q6
              go_wp2_with fail
              go_ret
              exact ⟨rfl, HB3.out⟩
            · rw [hsx] at cf
              have HREL : Hid ((os.take (k + 1)).all isSingle = true) := by
                show _ = _
                rw [HAT.out, HALL.out, hsx]
                rfl
              have HS2 := Lib.hid hsx
              clear hsx
              go_wp2_with fail
              refine cf.mono ?_
              rintro e w3 ⟨rfl, hb3⟩
              have HB3 := Lib.hid (HBX.out.trans (hb3.mono HBX.out.size))
              clear cf hb3 q0 q1 q2 q3 q4 q5 q6
              go_wp2_with fail
              go_roundw
              case rel => exact ⟨k + 1, by omega, by go_num, HREL.out, HB3.out⟩
              case measure => simp [intOf]; omega
          · obtain rfl : k = np := by omega
            have hr2 : r = true := by
              have h1 := HALL.out
              rw [List.take_of_length_le (by rw [HL.out]; exact Nat.le_refl _)] at h1
              rw [HR2.out, h1]
            subst hr2
            clear hlt
            have v1 : ¬ (k : Int) < (k : Int) := by omega
            go_wp2_with fail
            go_ret
            exact ⟨rfl, HB.out⟩
  · have i1 : ((o.kind : Int) != 7) = true := by simpa using (by omega : ¬ (o.kind : Int) = 7)
    have hr2 : r = false := by
      rw [HR.out]
      unfold isMulti
      rw [decide_eq_false (fun h => h1 h.1)]
      rfl
    subst hr2
    clear h1
    go_enter Tryz.func57, Tryz.ntmps57
    go_wp2_with fail
    go_ret
    exact ⟨rfl, HBA.out⟩
end Go.Proofs.YtplbckibogmicaaGreatDoor.Opn

namespace Go.Proofs.YtplbckibogmicaaGreatDoor.Opn
open Go.RowKit Path Tree

/-- Some parts were looked at: none is too long. -/
def RelNone (w : World) (os : List O1) (n : Nat) (i : Value) (wr : World) : Prop := ∃ k : Nat, k ≤ n ∧ i = .int .i64 (k : Int) ∧ (os.take k).any isLong = false ∧ Below w.heap.size w wr
def IdxPost (os : List O1) (w : World) (e : Ending) (w' : World) : Prop := (os.any isLong = false ∧ e = .returned (.int .i64 (-1)) ∧ Below w.heap.size w w') ∨ (os.any isLong = true ∧ ∃ k : Nat, k < 1000000 ∧ e = .returned (.int .i64 (k : Int)) ∧ Below w.heap.size w w')
set_option maxRecDepth 100000 in
set_option maxHeartbeats 2000000 in
theorem indexFunc_any {P : Nat → Prop} (os : List O1) (A : Option Addr) (n c : Nat) (w : World) (hS : OpS P w A n os) (hn : n ≤ 1000000) :
    Calls Tryz.prog 83 #[.slice A n c, .func (.func 58) #[] #[]] w (IdxPost os w) := by
  have HS := Lib.hid hS
  have HL := Lib.hid hS.len
  clear hS
  go_enter Tryz.func83, Tryz.ntmps83
  go_wp2_with fail
  go_loopw [8] (fun i wr => RelNone w os n i wr) (fun i _ => n - (intOf i).toNat)
  case atStart => exact ⟨0, Nat.zero_le _, rfl, rfl, Below.refl _ _⟩
  case round =>
    obtain ⟨k, hk, rfl, hall, hb⟩ := hrel
    have HALL := Lib.hid hall
    have HB := Lib.hid hb
    clear hall hb
    by_cases hlt : k < n
    · have hjx : k < os.length := by rw [HL.out]; exact hlt
      obtain ⟨bb, oo, Dd, m, cp, B2, c2, rfl, hPb, hds, hlen, hcells⟩ := (HS.out.below HB.out).at_ hjx
      have HAT := Lib.hid (any_take (p := isLong) hjx)
      have HMEM := Lib.hid (List.getElem_mem hjx)
      obtain ⟨x, hx⟩ : ∃ x, os[k] = x := ⟨_, rfl⟩
      rw [hx] at hds hlen hcells HAT HMEM
      have q0 := hcells 0 _ rfl
      rw [show oo + (7 * k + 0) = oo + k * 7 by omega] at q0
      have q1 := hcells 1 _ rfl
      rw [show oo + (7 * k + 1) = oo + k * 7 + 1 by omega] at q1
      have q2 := hcells 2 _ rfl
      rw [show oo + (7 * k + 2) = oo + k * 7 + 2 by omega] at q2
      have q3 := hcells 3 _ rfl
      rw [show oo + (7 * k + 3) = oo + k * 7 + 3 by omega] at q3
      have q4 := hcells 4 _ rfl
      rw [show oo + (7 * k + 4) = oo + k * 7 + 4 by omega] at q4
      have q5 := hcells 5 _ rfl
      rw [show oo + (7 * k + 5) = oo + k * 7 + 5 by omega] at q5
      have q6 := hcells 6 _ rfl
      rw [show oo + (7 * k + 6) = oo + k * 7 + 6 by omega] at q6

      have cf := isLong_any x Dd m cp (.slice B2 x.np c2) wr hlen
      clear hcells hx hds hlen hPb
      unfold opV at cf
      dsimp only [opC] at cf
      cases hsx : isLong x
      · rw [hsx] at cf
        have HREL : Hid ((os.take (k + 1)).any isLong = false) := by
          show _ = _
          rw [HAT.out, HALL.out, hsx]
          rfl
        clear hsx
        go_wp2_with fail
        refine cf.mono ?_
        rintro e w3 ⟨rfl, hb3⟩
        have HB3 := Lib.hid (HB.out.trans (hb3.mono HB.out.size))
        clear cf hb3 q0 q1 q2 q3 q4 q5 q6
        go_wp2_with fail
        go_roundw
        case rel => exact ⟨k + 1, by omega, by go_num, HREL.out, HB3.out⟩
        case measure => simp [intOf]; omega
      · rw [hsx] at cf
        have HANY : Hid (os.any isLong = true) := List.any_eq_true.2 ⟨x, HMEM.out, hsx⟩
        clear hsx
        go_wp2_with fail
        refine cf.mono ?_
        rintro e w3 ⟨rfl, hb3⟩
        have HB3 := Lib.hid (HB.out.trans (hb3.mono HB.out.size))
        clear cf hb3 q0 q1 q2 q3 q4 q5 q6
        go_wp2_with fail
        go_ret
        exact .inr ⟨HANY.out, k, by omega, rfl, HB3.out⟩
    · obtain rfl : k = n := by omega
      have HNO : Hid (os.any isLong = false) := by
        show _ = _
        have h1 := HALL.out
        rwa [List.take_of_length_le (by rw [HL.out]; exact Nat.le_refl _)] at h1
      clear hlt
      have v1 : ¬ (k : Int) < (k : Int) := by omega
      go_wp2_with fail
      go_ret
      exact .inl ⟨HNO.out, rfl, HB.out⟩
theorem containsFunc_any {P : Nat → Prop} (os : List O1) (A : Option Addr) (n c : Nat) (w : World) (hS : OpS P w A n os) (hn : n ≤ 1000000) :
    Calls Tryz.prog 59 #[.slice A n c, .func (.func 58) #[] #[]] w fun e w' => e = .returned (.bool (os.any isLong)) ∧ Below w.heap.size w w' := by
  have ci := indexFunc_any os A n c w hS hn
  obtain ⟨q, hq⟩ : ∃ q, q = os.any isLong := ⟨_, rfl⟩
  rw [← hq]
  have HQ := Lib.hid hq
  clear hS hq hn
  go_enter Tryz.func59, Tryz.ntmps59
  go_wp2_with fail
  refine ci.mono ?_
  rintro e w1 (⟨h1, rfl, hb⟩ | ⟨h1, k, hk, rfl, hb⟩)
  · have h2 : q = false := HQ.out.trans h1
    have HB := Lib.hid hb
    subst h2
    clear h1 hb ci
    go_wp2_with fail
    go_ret
    exact ⟨rfl, HB.out⟩
  · have h2 : q = true := HQ.out.trans h1
    have HB := Lib.hid hb
    have hk0 : (0 : Int) ≤ (k : Int) := by omega
    subst h2
    clear h1 hb ci
    go_wp2_with fail
    go_ret
    exact ⟨rfl, HB.out⟩
set_option maxRecDepth 100000 in
set_option maxHeartbeats 2000000 in
theorem check_any {P : Nat → Prop} (o : O1) (os : List O1) (D : Option Addr) (m cD : Nat) (A : Option Addr) (c : Nat) (w : World) (hm : o.data.length = m) (hS : OpS P w A o.np os) (hn : o.np ≤ 1000000) :
    Calls Tryz.prog 26 #[opV o (.slice D m cD) (.slice A o.np c)] w fun e w' => e = .returned (.int .i64 (chk o os)) ∧ Below w.heap.size w w' := by
  have hbA : Below w.heap.size w (w.alloc (.cells (opC o (.slice D m cD) (.slice A o.np c)).toArray 56)) := (Below.refl w.heap.size w).alloc (Nat.le_refl _) _
  have HBA := Lib.hid hbA
  have K : Bk (w.alloc (.cells (opC o (.slice D m cD) (.slice A o.np c)).toArray 56)) w.heap.size 56 (opC o (.slice D m cD) (.slice A o.np c)).toArray := Bk.new _ _ _
  have HK := Lib.hid K
  have c1 := isSingle_any o (.slice D m cD) A c (w.alloc (.cells (opC o (.slice D m cD) (.slice A o.np c)).toArray 56))
  have C2 := Lib.hid (fun W (hW : Below w.heap.size w W) => isMulti_any o os (.slice D m cD) A c W (hS.below hW))
  have C3 := Lib.hid (fun W => isLong_any o D m cD (.slice A o.np c) W hm)
  have C4 := Lib.hid (fun W (hW : Below w.heap.size w W) => containsFunc_any os A o.np c W (hS.below hW) hn)
  obtain ⟨r, hr⟩ : ∃ r, r = chk o os := ⟨_, rfl⟩
  rw [← hr]
  have HR : Hid (r = if isSingle o = false ∧ isMulti o os = false then 1 else if isLong o = true ∨ os.any isLong = true then 3 else 0) := hr
  obtain ⟨b1, h1⟩ : ∃ b, b = isSingle o := ⟨_, rfl⟩
  obtain ⟨b2, h2⟩ : ∃ b, b = isMulti o os := ⟨_, rfl⟩
  obtain ⟨b3, h3⟩ : ∃ b, b = isLong o := ⟨_, rfl⟩
  obtain ⟨b4, h4⟩ : ∃ b, b = os.any isLong := ⟨_, rfl⟩
  rw [← h1] at c1 HR
  rw [← h2] at C2 HR
  rw [← h3] at C3 HR
  rw [← h4] at C4 HR
  clear h1 h2 h3 h4 hr hS hm hn hbA K
  unfold opV at c1 C2 C3 ⊢
  dsimp only [opC] at c1 C2 C3 HK HBA ⊢
  go_enter Tryz.func26, Tryz.ntmps26
  go_wp2_with fail
  refine c1.mono ?_
  rintro e w1 ⟨rfl, hb1⟩
  have HB1 := Lib.hid (HBA.out.trans (hb1.mono HBA.out.size))
  have HK1 := Lib.hid (HK.out.below hb1)
  have kc := HK1.out.cell
  clear c1 hb1
  have LAST : ∀ (W : World), Hid (Below w.heap.size w W) → Hid (Bk W w.heap.size 56 #[.int .u8 (o.kind : Int), .string (S o.path), .slice D m cD, .int .i64 o.ver, .bool o.seq, .bool o.eph, .slice A o.np c]) → True := fun _ _ _ => trivial
  clear LAST
  cases b1
  · have c2 := C2.out w1 HB1.out
    go_wp2_with fail
    refine c2.mono ?_
    rintro e w2 ⟨rfl, hb2⟩
    have HB2 := Lib.hid (HB1.out.trans (hb2.mono HB1.out.size))
    have HK2 := Lib.hid (HK1.out.below hb2)
    have kc2 := HK2.out.cell
    clear c2 hb2 kc
    cases b2
    · have hr2 : r = 1 := HR.out
      subst hr2
      go_wp2_with fail
      go_ret
      exact ⟨rfl, HB2.out⟩
    · have c3 := C3.out w2
      go_wp2_with fail
      refine c3.mono ?_
      rintro e w3 ⟨rfl, hb3⟩
      have HB3 := Lib.hid (HB2.out.trans (hb3.mono HB2.out.size))
      have HK3 := Lib.hid (HK2.out.below hb3)
      have kc3 := HK3.out.cell
      clear c3 hb3 kc2
      cases b3
      · have c4 := C4.out w3 HB3.out
        go_wp2_with fail
        refine c4.mono ?_
        rintro e w4 ⟨rfl, hb4⟩
        have HB4 := Lib.hid (HB3.out.trans (hb4.mono HB3.out.size))
        clear c4 hb4 kc3
        cases b4
        · have hr2 : r = 0 := HR.out
          subst hr2
          go_wp2_with fail
          go_ret
          exact ⟨rfl, HB4.out⟩
        · have hr2 : r = 3 := HR.out
          subst hr2
          go_wp2_with fail
          go_ret
          exact ⟨rfl, HB4.out⟩
      · have hr2 : r = 3 := by rw [HR.out]; simp
        subst hr2
        go_wp2_with fail
        go_ret
        exact ⟨rfl, HB3.out⟩
  · have c3 := C3.out w1
    go_wp2_with fail
    refine c3.mono ?_
    rintro e w3 ⟨rfl, hb3⟩
    have HB3 := Lib.hid (HB1.out.trans (hb3.mono HB1.out.size))
    have HK3 := Lib.hid (HK1.out.below hb3)
    have kc3 := HK3.out.cell
    clear c3 hb3 kc
    cases b3
    · have c4 := C4.out w3 HB3.out
      go_wp2_with fail
      refine c4.mono ?_
      rintro e w4 ⟨rfl, hb4⟩
      have HB4 := Lib.hid (HB3.out.trans (hb4.mono HB3.out.size))
      clear c4 hb4 kc3
      cases b4
      · have hr2 : r = 0 := by rw [HR.out]; simp
        subst hr2
        go_wp2_with fail
        go_ret
        exact ⟨rfl, HB4.out⟩
      · have hr2 : r = 3 := by rw [HR.out]; simp
        subst hr2
        go_wp2_with fail
        go_ret
        exact ⟨rfl, HB4.out⟩
    · have hr2 : r = 3 := by rw [HR.out]; simp
      subst hr2
      go_wp2_with fail
      go_ret
      exact ⟨rfl, HB3.out⟩
end Go.Proofs.YtplbckibogmicaaGreatDoor.Opn

namespace Go.Proofs.YtplbckibogmicaaGreatDoor.Opn
open Go.RowKit Path Tree

theorem TextS.kept {P : Nat → Prop} {w w' : World} {v : Value} {xs : List (List UInt8)} (h : TextS P w v xs) (hk : ∀ k, P k → w'.heap[k]? = w.heap[k]?) : TextS P w' v xs := by
  obtain ⟨A, n, c, e, hP, hr⟩ := h
  refine ⟨A, n, c, e, hP, hr.len, fun h0 => ?_⟩
  obtain ⟨ad, rfl, hcell⟩ := hr.cells h0
  exact ⟨ad, rfl, fun j b hb => (World.cell?_of_block (w := w) (hk _ (by rw [add_block]; exact hP h0 ad rfl))).trans (hcell j b hb)⟩

/-! ### Replies of one's own: in blocks of Q -/
def rpRow (y : R1 × Value × Value) : List Value := rpC y.1 y.2.1 y.2.2 nilS
theorem rpRow_length (y : R1 × Value × Value) : (rpRow y).length = 13 := rfl
def OwnR (Q : Nat → Prop) (w : World) (fx : Value) (rs : List R1) : Prop :=
  ∃ xds : List (R1 × Value × Value), xds.map (·.1) = rs ∧ w.ownsRow 0 51 13 fx rs.length (xds.flatMap rpRow) ∧ (∀ g, fx.ownBlock = some g → Q g) ∧ ∀ y ∈ xds, DataS (fun k => Q k ∧ fx.ownBlock ≠ some k) w y.2.1 y.1.node.data ∧ TextS (fun k => Q k ∧ fx.ownBlock ≠ some k) w y.2.2 y.1.kids
theorem OwnR.nil_ (Q : Nat → Prop) (w : World) : OwnR Q w nilS [] := ⟨[], rfl, ⟨rfl, .inl ⟨rfl, rfl⟩⟩, (fun g h => by cases h), fun y hy => by cases hy⟩
theorem OwnR.blk {Q : Nat → Prop} {w : World} {fx : Value} {rs : List R1} (h : OwnR Q w fx rs) : ∀ g, fx.ownBlock = some g → Q g ∧ g < w.heap.size := by
  obtain ⟨xds, _, hown, hq, _⟩ := h
  intro g hg
  exact ⟨hq g hg, (hown.lt g hg).2⟩
theorem OwnR.form {Q : Nat → Prop} {w : World} {fx : Value} {rs : List R1} (h : OwnR Q w fx rs) : ∃ A c, fx = .slice A rs.length c := by
  obtain ⟨xds, rfl, hown, _, _⟩ := h
  rcases hown.2 with ⟨rfl, h0⟩ | ⟨g, cap, cur, rfl, _⟩
  · exact ⟨none, 0, by rw [h0]⟩
  · exact ⟨_, _, rfl⟩
theorem OwnR.out {Q : Nat → Prop} {w w' : World} {fx : Value} {rs : List R1} {X : Nat → Prop} (h : OwnR Q w fx rs) (ho : Out X w w') (hx : ∀ k, Q k → ¬ X k) : OwnR Q w' fx rs := by
  obtain ⟨xds, e, hown, hq, hd⟩ := h
  exact ⟨xds, e, own_out hown ho (fun g hg => hx g (hq g hg)), hq, fun y hy => ⟨(hd y hy).1.out ho (fun k hk => hx k hk.1), (hd y hy).2.out ho (fun k hk => hx k hk.1)⟩⟩
theorem OwnR.below {Q : Nat → Prop} {w w' : World} {fx : Value} {rs : List R1} (h : OwnR Q w fx rs) (hb : Below w.heap.size w w') : OwnR Q w' fx rs := h.out (X := fun _ => False) (.of_below hb) (fun _ _ h => h)
theorem OwnR.mono {Q Q' : Nat → Prop} {w : World} {fx : Value} {rs : List R1} (h : OwnR Q w fx rs) (hQ : ∀ k, Q k → Q' k) : OwnR Q' w fx rs := by
  obtain ⟨xds, e, hown, hq, hd⟩ := h
  exact ⟨xds, e, hown, fun g hg => hQ g (hq g hg), fun y hy => ⟨(hd y hy).1.mono fun k hk => ⟨hQ k hk.1, hk.2⟩, (hd y hy).2.mono fun k hk => ⟨hQ k hk.1, hk.2⟩⟩⟩
theorem OwnR.lt {Q : Nat → Prop} {w : World} {fx : Value} {rs : List R1} (h : OwnR Q w fx rs) : OwnR (fun k => Q k ∧ k < w.heap.size) w fx rs := by
  have hb := h.blk
  obtain ⟨xds, e, hown, hq, hd⟩ := h
  exact ⟨xds, e, hown, hb, fun y hy => ⟨(hd y hy).1.lt.mono fun k hk => ⟨⟨hk.1.1, hk.2⟩, hk.1.2⟩, (hd y hy).2.lt.mono fun k hk => ⟨⟨hk.1.1, hk.2⟩, hk.1.2⟩⟩⟩
/-- One reply more. -/
theorem OwnR.snoc {Q : Nat → Prop} {w w' : World} {fx fx' : Value} {xds : List (R1 × Value × Value)} {x : R1} {d k : Value} (hq : ∀ g, fx.ownBlock = some g → Q g) (hd : ∀ y ∈ xds, DataS (fun k => Q k ∧ fx.ownBlock ≠ some k) w y.2.1 y.1.node.data ∧ TextS (fun k => Q k ∧ fx.ownBlock ≠ some k) w y.2.2 y.1.kids)
    (hx : DataS (fun k => Q k ∧ fx.ownBlock ≠ some k) w d x.node.data) (hx2 : TextS (fun k => Q k ∧ fx.ownBlock ≠ some k) w k x.kids) (hown : w'.ownsRow 0 51 13 fx' (xds.length + 1) ((xds ++ [(x, d, k)]).flatMap rpRow)) (hg : w.grownBy w' fx.ownBlock) (hat : fx'.ownBlock = fx.ownBlock ∨ fx'.ownBlock = some w.heap.size) :
    OwnR (fun k => Q k ∨ k = w.heap.size) w' fx' (xds.map (·.1) ++ [x]) := by
  have hm : ∀ k, ((Q k ∧ fx.ownBlock ≠ some k) ∧ k < w.heap.size) → (Q k ∨ k = w.heap.size) ∧ fx'.ownBlock ≠ some k := fun k hk => by
    refine ⟨.inl hk.1.1, ?_⟩
    rcases hat with e | e
    · rw [e]; exact hk.1.2
    · rw [e]; intro e2; injection e2 with e2; have := hk.2; omega
  have hk : ∀ (v : Value) (bs : List UInt8), DataS (fun k => Q k ∧ fx.ownBlock ≠ some k) w v bs → DataS (fun k => (Q k ∨ k = w.heap.size) ∧ fx'.ownBlock ≠ some k) w' v bs := fun v bs h =>
    (h.lt.kept fun k hk => hg.block k hk.2 (fun e => hk.1.2 e.symm)).mono hm
  have ht : ∀ (v : Value) (bs : List (List UInt8)), TextS (fun k => Q k ∧ fx.ownBlock ≠ some k) w v bs → TextS (fun k => (Q k ∨ k = w.heap.size) ∧ fx'.ownBlock ≠ some k) w' v bs := fun v bs h =>
    (h.lt.kept fun k hk => hg.block k hk.2 (fun e => hk.1.2 e.symm)).mono hm
  refine ⟨xds ++ [(x, d, k)], by simp, by simpa using hown, fun g hg' => ?_, fun y hy => ?_⟩
  · rcases hat with e | e
    · rw [e] at hg'; exact .inl (hq g hg')
    · rw [e] at hg'; injection hg' with hg'; exact .inr hg'.symm
  · rcases List.mem_append.1 hy with hy | hy
    · exact ⟨hk _ _ (hd y hy).1, ht _ _ (hd y hy).2⟩
    · simp at hy; subst hy; exact ⟨hk _ _ hx, ht _ _ hx2⟩
/-- Effects behind effects. -/
theorem OwnE.app {Q : Nat → Prop} {w w' : World} {fx fx' : Value} {xds yds : List (Ef × Value)} (hq : ∀ g, fx.ownBlock = some g → Q g) (hd : ∀ y ∈ xds, DataS (fun k => Q k ∧ fx.ownBlock ≠ some k) w y.2 y.1.node.data)
    (hx : ∀ y ∈ yds, DataS (fun k => Q k ∧ fx.ownBlock ≠ some k) w y.2 y.1.node.data) (hown : w'.ownsRow 0 41 11 fx' (xds.length + yds.length) ((xds ++ yds).flatMap fun y => efC y.1 y.2)) (hg : w.grownBy w' fx.ownBlock) (hat : fx'.ownBlock = fx.ownBlock ∨ fx'.ownBlock = some w.heap.size) :
    OwnE (fun k => Q k ∨ k = w.heap.size) w' fx' (xds.map (·.1) ++ yds.map (·.1)) := by
  have hk : ∀ (v : Value) (bs : List UInt8), DataS (fun k => Q k ∧ fx.ownBlock ≠ some k) w v bs → DataS (fun k => (Q k ∨ k = w.heap.size) ∧ fx'.ownBlock ≠ some k) w' v bs := fun v bs h => by
    refine (h.lt.kept fun k hk => hg.block k hk.2 (fun e => hk.1.2 e.symm)).mono fun k hk => ⟨.inl hk.1.1, ?_⟩
    rcases hat with e | e
    · rw [e]; exact hk.1.2
    · rw [e]; intro e2; injection e2 with e2; have := hk.2; omega
  refine ⟨xds ++ yds, by simp, by simpa using hown, fun g hg' => ?_, fun y hy => ?_⟩
  · rcases hat with e | e
    · rw [e] at hg'; exact .inl (hq g hg')
    · rw [e] at hg'; injection hg' with hg'; exact .inr hg'.symm
  · rcases List.mem_append.1 hy with hy | hy
    · exact hk _ _ (hd y hy)
    · exact hk _ _ (hx y hy)
/-- The cells of one's own effects, as a source of an append. -/
theorem own_cells {w : World} {base : Nat} {e : TypeId} {size : Nat} {v : Value} {n : Nat} {xs : List Value} (h : w.ownsRow base e size v n xs) (hn : 0 < n) : ∃ g cap, v = .slice (some ⟨g, 0, none⟩) n cap ∧ n ≤ cap ∧ cap ≤ maxLen ∧ ∀ j u, xs[j]? = some u → w.cell? ((⟨g, 0, none⟩ : Addr).add j) = some u := by
  rcases h.2 with ⟨rfl, h0⟩ | ⟨g, cap, cur, rfl, hg, hh, hnc, hm, hs, ht⟩
  · omega
  · refine ⟨g, cap, rfl, hnc, hm, fun j u hu => ?_⟩
    rw [add_off]
    simp only [World.cell?, hh]
    rw [← ht, List.getElem?_take] at hu
    split at hu
    · simpa using hu
    · cases hu
end Go.Proofs.YtplbckibogmicaaGreatDoor.Opn

namespace Go.Proofs.YtplbckibogmicaaGreatDoor.Opn
open Go.RowKit Path Tree

theorem ins_all {K : ZN → Prop} {l : Row} (h : ∀ x ∈ l, K x.2) (p : List UInt8) (n : ZN) (hn : K n) : ∀ x ∈ ins p n l, K x.2 := by
  induction l with
  | nil =>
    intro x hx
    simp [ins] at hx
    subst hx
    exact hn
  | cons y l ih =>
    obtain ⟨q, m⟩ := y
    have h1 : ∀ x ∈ l, K x.2 := fun x hx => h x (List.mem_cons_of_mem _ hx)
    have h2 := h (q, m) (by simp)
    intro x hx
    unfold ins at hx
    split at hx
    · rcases List.mem_cons.1 hx with rfl | hx
      · exact hn
      · exact h1 x hx
    · split at hx
      · rcases List.mem_cons.1 hx with rfl | hx
        · exact hn
        · exact h x hx
      · rcases List.mem_cons.1 hx with rfl | hx
        · exact h2
        · exact ih h1 x hx
theorem one_all {K : ZN → Prop} {root : List UInt8} {l : Row} (h : ∀ x ∈ l, K x.2) (x : Ef) (hx : K x.node) : ∀ y ∈ (Tree.one root l x).2, K y.2 := by
  unfold Tree.one
  split
  · exact h
  split
  · split
    · exact h
    split
    · exact h
    · exact fun y hy => h y (List.mem_filter.1 hy).1
  split
  · exact h
  split
  · exact h
  · exact ins_all h _ _ hx
theorem rowApply_all {K : ZN → Prop} {root : List UInt8} : ∀ (xs : List Ef) (l : Row), (∀ x ∈ l, K x.2) → (∀ x ∈ xs, K x.node) → ∀ y ∈ (rowApply root l xs).2, K y.2
  | [], _, h, _ => h
  | x :: xs, l, h, hx => by
    unfold rowApply
    split
    · exact rowApply_all xs _ (one_all h x (hx x (by simp))) (fun y hy => hx y (List.mem_cons_of_mem _ hy))
    · exact h
theorem fine_zero : FineN ZN.zero := by unfold FineN ZN.zero; simp
theorem fine_row {t : TR} (hs : Sorted t.row) (h : FineT t) : ∀ x ∈ t.row, FineN x.2 := fun x hx => by
  have := h x.1
  rwa [nodeAt_some ((get_some_iff hs).2 hx)] at this
theorem fine_of_row {t : TR} (h : ∀ x ∈ t.row, FineN x.2) : FineT t := fun p => by
  unfold nodeAt
  cases hg : get t.row p with
  | none => exact fine_zero
  | some n =>
    unfold Tree.get at hg
    cases hf : t.row.find? (·.1 == p) with
    | none => rw [hf] at hg; cases hg
    | some x =>
      rw [hf] at hg
      have e : x.2 = n := by simpa using hg
      rw [← e]
      exact h x (List.mem_of_find?_eq_some hf)
theorem fine_apply {t : TR} {xs : List Ef} (hs : Sorted t.row) (h : FineT t) (hx : ∀ x ∈ xs, FineN x.node) : FineT (t.apply xs).2 := by
  unfold TR.apply
  split
  · exact fine_of_row (rowApply_all xs _ (fine_row hs h) hx)
  · exact h
theorem apply_root (t : TR) (xs : List Ef) : (t.apply xs).2.root = t.root := by unfold TR.apply; split <;> rfl

/-- An effect that is as one operation makes them. -/
structure FineE (x : Ef) : Prop where
  node : FineN x.node
  path : x.path.length ≤ 1000000
  data : x.node.data.length ≤ 1000000
structure FineX (xs : List Ef) : Prop where
  len : xs.length ≤ 2
  all : ∀ x ∈ xs, FineE x
theorem FineX.nil_ : FineX [] := ⟨by simp, fun x hx => by cases hx⟩
theorem up32_fine (n : Int) : 0 ≤ up32 n ∧ up32 n < 4294967296 := by unfold up32; omega
theorem fine_touched {n : ZN} (h : FineN n) (seq : Bool) (at_ : Int) : FineN (touched (nexted n seq) at_) := by
  obtain ⟨h1, h2, h3, h4⟩ := h
  unfold touched nexted
  split
  · exact ⟨h1, h2, (up32_fine _).1, (up32_fine _).2⟩
  · exact ⟨h1, h2, h3, h4⟩
theorem fine_touched' {n : ZN} (h : FineN n) (at_ : Int) : FineN (touched n at_) := h
theorem fine_setted {n : ZN} (h : FineN n) (o : O1) (at_ : Int) : FineN (setted n o at_) := ⟨(up32_fine _).1, (up32_fine _).2, h.2.2.1, h.2.2.2⟩
theorem fine_new (o : O1) (who : Who) (at_ : Int) : FineN (newNode o who at_) := by unfold FineN newNode; simp
theorem touched_data (n : ZN) (seq : Bool) (at_ : Int) : (touched (nexted n seq) at_).data = n.data := by unfold touched nexted; split <;> rfl
theorem seqPath_len {t : TR} {o : O1} (h : o.path.length ≤ 100000) : (seqPath t o).length ≤ 1000000 := by
  unfold seqPath
  split
  · rw [List.length_append, len_ten]; omega
  · omega
theorem parent_small {p : List UInt8} (h : p.length ≤ 100000) : (parentF p).length ≤ 1000000 := parentF_len _ (by omega)
theorem two_fine {a b : Ef} (ha : FineE a) (hb : FineE b) : FineX [a, b] := ⟨by simp, fun x hx => by
  rcases List.mem_cons.1 hx with rfl | hx
  · exact ha
  · rcases List.mem_cons.1 hx with rfl | hx
    · exact hb
    · cases hx⟩
theorem create_fine {t : TR} {at_ : Int} {who : Who} {o : O1} (hf : FineT t) (hs : ∀ p, (nodeAt t p).data.length ≤ 1000000) (hp : o.path.length ≤ 100000) (hd : o.data.length ≤ 1000000) : FineX (create t at_ who o).1 := by
  unfold create
  split; exact .nil_
  split; exact .nil_
  split; exact .nil_
  split; exact .nil_
  split; exact .nil_
  split; exact .nil_
  split; exact .nil_
  exact two_fine ⟨fine_touched (hf _) _ _, parent_small hp, by rw [touched_data]; exact hs _⟩ ⟨fine_new _ _ _, seqPath_len hp, hd⟩
theorem remove_fine {t : TR} {at_ : Int} {o : O1} (hf : FineT t) (hs : ∀ p, (nodeAt t p).data.length ≤ 1000000) (hp : o.path.length ≤ 100000) : FineX (remove t at_ o).1 := by
  unfold remove
  split; exact .nil_
  split; exact .nil_
  split; exact .nil_
  split; exact .nil_
  exact two_fine ⟨fine_zero, by show o.path.length ≤ _; omega, Nat.zero_le _⟩ ⟨fine_touched' (hf _) _, parent_small hp, hs _⟩
theorem set_fine {t : TR} {at_ : Int} {o : O1} (hf : FineT t) (hp : o.path.length ≤ 100000) (hd : o.data.length ≤ 1000000) : FineX (set_ t at_ o).1 := by
  unfold set_
  split; exact .nil_
  split; exact .nil_
  exact ⟨by simp, fun x hx => by
    rcases List.mem_cons.1 hx with rfl | hx
    · exact ⟨fine_setted (hf _) _ _, by show o.path.length ≤ _; omega, hd⟩
    · cases hx⟩
theorem single_fine {t : TR} {at_ : Int} {who : Who} {o : O1} (hf : FineT t) (hs : ∀ p, (nodeAt t p).data.length ≤ 1000000) (hp : o.path.length ≤ 100000) (hd : o.data.length ≤ 1000000) : FineX (single t at_ who o).1 := by
  unfold single
  split; exact .nil_
  split
  · exact create_fine hf hs hp hd
  · exact remove_fine hf hs hp
  · exact set_fine hf hp hd
  · rw [check_none]; exact .nil_
  · rw [get_none_]; exact .nil_
  · rw [kids_none]; exact .nil_
  · exact .nil_
/-- What one operation makes of the tree. -/
theorem single_apply {t : TR} {at_ : Int} {who : Who} {o : O1} (hG : Tree.Good t.root t.row) : (t.apply (single t at_ who o).1).1 = 0 := by
  unfold TR.apply
  rw [if_pos (single_fits hG)]
theorem rowApply_append {root : List UInt8} : ∀ (xs ys : List Ef) (l : Row), (rowApply root l xs).1 = 0 → rowApply root l (xs ++ ys) = if (rowApply root (rowApply root l xs).2 ys).1 = 0 then rowApply root (rowApply root l xs).2 ys else ((rowApply root (rowApply root l xs).2 ys).1, (rowApply root l (xs ++ ys)).2)
  | [], ys, l, _ => by
    show rowApply root l ys = _
    split
    · rfl
    · rfl
  | x :: xs, ys, l, h => by
    unfold rowApply at h
    split at h
    next h1 =>
      have ih := rowApply_append xs ys (Tree.one root l x).2 h
      have e1 : rowApply root l (x :: xs) = rowApply root (Tree.one root l x).2 xs := by rw [rowApply.eq_2, if_pos h1]
      have e2 : rowApply root l (x :: xs ++ ys) = rowApply root (Tree.one root l x).2 (xs ++ ys) := by
        show rowApply root l (x :: (xs ++ ys)) = _
        rw [rowApply.eq_2, if_pos h1]
      rw [e1, e2]
      exact ih
    next h1 => exact absurd h h1
end Go.Proofs.YtplbckibogmicaaGreatDoor.Opn

namespace Go.Proofs.YtplbckibogmicaaGreatDoor.Opn
open Go.RowKit Path Tree

theorem bk_setCells {g : Nat} {t : TypeId} : ∀ (vs : List Value) (o : Nat) (w : World) (cur : List Value), Bk w g t cur.toArray → o + vs.length ≤ cur.length → Bk (w.setCells g o vs) g t (cur.take o ++ (vs ++ cur.drop (o + vs.length))).toArray
  | [], o, w, cur, h, _ => by simpa [World.setCells] using h
  | v :: r, o, w, cur, h, hl => by
    have hl : o + (r.length + 1) ≤ cur.length := by simpa using hl
    have ih := bk_setCells r (o + 1) (w.setCell ⟨g, o, none⟩ v) (cur.set o v) (bk_set h o v) (by simp; omega)
    rw [World.setCells]
    have e : cur.take o ++ (v :: r ++ cur.drop (o + (v :: r).length)) = (cur.set o v).take (o + 1) ++ (r ++ (cur.set o v).drop (o + 1 + r.length)) := by
      have e1 : (cur.set o v).take (o + 1) = cur.take o ++ [v] := by
        rw [List.take_set, List.set_eq_take_append_cons_drop, if_pos (by simp; omega), List.take_take, Nat.min_eq_left (by omega), List.drop_eq_nil_of_le (by simp; omega)]
      have e2 : (cur.set o v).drop (o + 1 + r.length) = cur.drop (o + (v :: r).length) := by
        rw [List.drop_set_of_lt (by omega)]
        congr 1
        simp
        omega
      rw [e1, e2]
      simp
    rw [e]
    exact ih
theorem own_last {w : World} {e : TypeId} {size G n cap : Nat} {xs zs vs : List Value} (h : w.ownsRow 0 e size (.slice (some ⟨G, 0, none⟩) (n + 1) cap) (n + 1) (xs ++ zs)) (hx : xs.length = n * size) (hv : vs.length = size) : (w.setCells G (n * size) vs).ownsRow 0 e size (.slice (some ⟨G, 0, none⟩) (n + 1) cap) (n + 1) (xs ++ vs) := by
  have hsz : (n + 1) * size = n * size + size := by rw [Nat.add_mul, Nat.one_mul]
  rcases h.2 with ⟨h1, _⟩ | ⟨g, cap', cur, h1, h2, h3, h4, h5, h6, h7⟩
  · cases h1
  injection h1 with h1 _ hc
  injection h1 with h1
  injection h1 with h1
  subst h1 hc
  have hcl : (n + 1) * size ≤ cap * size := Nat.mul_le_mul_right _ h4
  have hb := bk_setCells (g := G) (t := e) vs (n * size) w cur.toList h3 (by have h8 : cur.toList.length = cur.size := Array.length_toList; omega)
  refine ⟨by rw [List.length_append, hx, hv]; omega, .inr ⟨G, cap, _, rfl, h2, hb, h4, h5, ?_, ?_⟩⟩
  · have : cur.toList.length = cap * size := by rw [Array.length_toList, h6]
    simp
    omega
  · have hx2 : cur.toList.take (n * size) = xs := by
      have := congrArg (List.take (n * size)) h7
      rw [List.take_take, Nat.min_eq_left (by omega), List.take_left' hx] at this
      exact this
    show (cur.toList.take (n * size) ++ (vs ++ _)).take ((n + 1) * size) = _
    rw [hx2, ← List.append_assoc]
    exact List.take_left' (by rw [List.length_append, hx, hv]; omega)
theorem own_there {w : World} {e : TypeId} {size G n cap : Nat} {xs zs : List Value} (h : w.ownsRow 0 e size (.slice (some ⟨G, 0, none⟩) (n + 1) cap) (n + 1) (xs ++ zs)) : w.there G (n * size) size := by
  have hsz : (n + 1) * size = n * size + size := by rw [Nat.add_mul, Nat.one_mul]
  rcases h.2 with ⟨h1, _⟩ | ⟨g, cap', cur, h1, h2, h3, h4, h5, h6, h7⟩
  · cases h1
  injection h1 with h1 _ hc
  injection h1 with h1
  injection h1 with h1
  subst h1 hc
  have hcl : (n + 1) * size ≤ cap * size := Nat.mul_le_mul_right _ h4
  have hb : Bk w G e cur := h3
  exact fun j hj => ⟨by rw [hb.cell, Array.getElem?_eq_getElem (by omega)]; rfl, hb.frozen _⟩
theorem step_store_mid {P : Program} {ops : Array Oper} {o : Oper} {a : Act} {w : World} {K : Act → World → Prop} {Q : Exit → Act → World → Prop} {E : Prop} (hgd : o.guard = none) (ty : TypeId) (x y : Operand) (ho : o.op = .store ty x y)
    (b off : Nat) (cells : Array Value) (hx : a.eval x = .pointer (some ⟨b, off, none⟩)) (hy : a.eval y = .agg cells)
    (ht : w.there b off cells.size) (hi : (P.info? ty).map (·.size) = some cells.size) (h1 : cells.all (·.oneCell') = true)
    (h : K (a.put o.dst undef) (w.setCells b off cells.toList)) :
    if Region.wanted o (yielded ops a.tmps) = true then Oper.wp P o a w K Q else E := by
  have hw : Region.wanted o (yielded ops a.tmps) = true := by simp [Region.wanted, hgd]
  rw [if_pos hw]
  exact wp_store_mid ty x y ho b off cells hx hy ht hi h1 h
theorem out_setCells {w : World} {G : Nat} (o : Nat) (vs : List Value) (hG : G < w.heap.size) : Out (· = G) w (w.setCells G o vs) := by
  induction vs generalizing o w with
  | nil => exact Out.refl _ _
  | cons v r ih =>
    have h1 := (Out.refl (· = G) w).set (p := ⟨G, o, none⟩) rfl v
    rw [World.setCells]
    exact h1.trans (ih (w := w.setCell ⟨G, o, none⟩ v) (o + 1) (by simpa [World.setCell] using hG)) (fun j hj => .inl hj)
end Go.Proofs.YtplbckibogmicaaGreatDoor.Opn
