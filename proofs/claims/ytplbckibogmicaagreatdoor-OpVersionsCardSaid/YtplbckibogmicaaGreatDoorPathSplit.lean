/- The contract of path's own split, for the landed code. -/
import Derived.Test.YtplbckibogmicaaGreatDoorPathLib
namespace Go.Proofs.YtplbckibogmicaaGreatDoor.Path
open Go.RowKit

/-- What split answers of l, behind w. -/
def SplitPost (l : List UInt8) (w : World) (e : Ending) (w' : World) : Prop :=
  ∃ A n ok, e = .returned (.tuple #[.slice A n n, .bool ok]) ∧ Below w.heap.size w w' ∧ (partsF l = none → A = none ∧ n = 0 ∧ ok = false) ∧ ∀ ps, partsF l = some ps → ok = true ∧ n = ps.length ∧ w'.ownsRow w.heap.size 9 1 (.slice A n n) n (sv ps)

theorem SplitPost.none_ {l : List UInt8} {w w' : World} (h : partsF l = none) (hb : Below w.heap.size w w') : SplitPost l w (.returned (.tuple #[.slice none 0 0, .bool false])) w' :=
  ⟨none, 0, false, rfl, hb, fun _ => ⟨rfl, rfl, rfl⟩, fun ps h2 => by rw [h] at h2; cases h2⟩
theorem SplitPost.some_ {l : List UInt8} {w w' : World} {ps : List (List UInt8)} {A : Option Addr} (h : partsF l = some ps) (hb : Below w.heap.size w w') (hr : w'.ownsRow w.heap.size 9 1 (.slice A (ps.length : Nat) (ps.length : Nat)) ps.length (sv ps)) : SplitPost l w (.returned (.tuple #[.slice A (ps.length : Nat) (ps.length : Nat), .bool true])) w' :=
  ⟨A, ps.length, true, rfl, hb, (fun h2 => by rw [h] at h2; cases h2), fun qs h2 => by rw [h] at h2; injection h2 with h2; subst h2; exact ⟨rfl, rfl, hr⟩⟩

theorem all_take_succ {α : Type} {p : α → Bool} {l : List α} {j : Nat} (h : j < l.length) (hp : p l[j] = true) (ht : (l.take j).all p = true) : (l.take (j + 1)).all p = true := by
  rw [List.take_add_one, List.getElem?_eq_getElem h, List.all_append, ht]
  simp [hp]
theorem all_false {α : Type} {p : α → Bool} {l : List α} {j : Nat} (h : j < l.length) (hp : p l[j] = false) : l.all p = false := by
  rw [← Bool.not_eq_true]
  intro ha
  rw [List.all_eq_true] at ha
  rw [ha _ (List.getElem_mem h)] at hp
  cases hp

set_option maxRecDepth 8000 in
set_option maxHeartbeats 1000000 in
theorem split_any (l : List UInt8) (w : World) (hl : l.length ≤ 1000000) : Calls Tryz.prog 62 #[.string (S l)] w (SplitPost l w) := by
  by_cases hsl : ∀ t, l ≠ 47 :: t
  · have HP : Hid (partsF l = none) := by
      show _ = _
      unfold partsF
      split
      · rfl
      · next b t => rw [if_neg (fun h => hsl t (by rw [h.1]))]
    have c := cut_no l w hsl
    clear hsl
    generalize S l = s at *
    go_enter Tryz.func62, Tryz.ntmps62
    go_wp2_with fail
    refine c.mono ?_
    rintro e w1 ⟨rfl, rfl⟩
    clear c
    go_wp2_with fail
    go_ret2
    exact SplitPost.none_ HP.out (Below.refl _ _)
  · obtain ⟨t, rfl⟩ : ∃ t, l = 47 :: t := Classical.byContradiction fun h => hsl fun t e => h ⟨t, e⟩
    clear hsl
    have hz : ((S (47 :: t)).size : Int) = (t.length : Int) + 1 := by rw [S_size]; simp
    have c := cut_yes t w
    by_cases hlong : 63 < t.length
    · have HP : Hid (partsF (47 :: t) = none) := by
        show _ = _
        unfold partsF
        simp
        omega
      generalize S (47 :: t) = s at *
      go_enter Tryz.func62, Tryz.ntmps62
      go_wp2_with fail
      refine c.mono ?_
      rintro e w1 ⟨rfl, rfl⟩
      clear c
      go_wp2_with fail
      go_ret2
      exact SplitPost.none_ HP.out (Below.refl _ _)
    · by_cases ht0 : t = []
      · subst ht0
        have HP : Hid (partsF [47] = some []) := rfl
        have hs0 : (S []).toList.isEmpty = true := by rw [S_list]; rfl
        generalize S [47] = s at *
        generalize S [] = s0 at *
        go_enter Tryz.func62, Tryz.ntmps62
        go_wp2_with fail
        refine c.mono ?_
        rintro e w1 ⟨rfl, rfl⟩
        clear c
        go_wp2_with fail
        go_ret2
        exact SplitPost.some_ HP.out (Below.refl _ _) (own_nil _ _ _)
      · have hst := S_list t
        have HP : Hid (partsF (47 :: t) = if (segs t).all name = true then some (segs t) else none) := by
          show _ = _
          unfold partsF
          simp [ht0]
          omega
        have e0 : (t == []) = false := beq_eq_false_iff_ne.2 ht0
        have hlen : (segs t).length ≤ 64 := by
          have h1 := ofL_length (segs t)
          have h2 := flat_segs t
          unfold ofL at h1
          rw [if_neg (segs_ne t), h2] at h1
          simp at h1
          omega
        have cs := fun w => strSplit_any t w (by omega)
        clear ht0
        generalize hss : segs t = ss at *
        clear hss
        generalize S (47 :: t) = s at *
        generalize S t = s2 at *
        go_enter Tryz.func62, Tryz.ntmps62
        go_wp2_with fail
        refine c.mono ?_
        rintro e w1 ⟨rfl, rfl⟩
        clear c
        go_wp2_with fail
        refine (cs w1).mono ?_
        rintro e w2 ⟨rfl, hb, hr⟩
        have HB := Lib.hid hb
        have HR := Lib.hid hr
        clear hb hr cs
        go_wp2_with fail
        go_loopw [27] (fun i wr => ∃ j : Nat, j ≤ ss.length ∧ i = .int .i64 (j : Int) ∧ (ss.take j).all name = true ∧ Below w2.heap.size w2 wr) (fun i _ => ss.length - (intOf i).toNat)
        case atStart => exact ⟨0, by omega, rfl, rfl, Below.refl _ _⟩
        case round =>
          obtain ⟨j, hj, rfl, hall, hbel⟩ := hrel
          have HT := Lib.hid hall
          have HBe := Lib.hid (HB.out.trans (hbel.mono HB.out.size))
          have HBr := Lib.hid hbel
          clear hall hbel
          by_cases hlt : j < ss.length
          · obtain ⟨g, eg, hcs⟩ := RdS.of_own HR.out (by omega)
            injection eg with eg
            injection eg with eg
            subst eg
            have hcell : wr.cell? ⟨w1.heap.size, j, none⟩ = some (.string (S ss[j])) := (HBr.out.cell (World.block_lt_of_cell? w2 _ (hcs j hlt))).trans (hcs j hlt)
            have v1 : (j : Int) < (ss.length : Int) := by omega
            have cn := fun w => isName_any ss[j] w
            have HY := Lib.hid (fun h => all_take_succ (p := name) hlt h HT.out)
            have HNo := Lib.hid (fun h => all_false (p := name) hlt h)
            clear hcs
            generalize S ss[j] = X at *
            generalize name ss[j] = b at *
            go_wp2_with fail
            refine (cn wr).mono ?_
            rintro e w3 ⟨rfl, hb⟩
            have HB3 := Lib.hid (HBe.out.trans (hb.mono HBe.out.size))
            have HBr3 := Lib.hid (HBr.out.trans (hb.mono HBr.out.size))
            clear hb cn hcell
            cases b with
            | true =>
              have HY2 := Lib.hid (HY.out rfl)
              clear HY HNo
              go_wp2_with fail
              exact ⟨⟨j + 1, by omega, rfl, HY2.out, HBr3.out⟩, by simp [intOf]; omega⟩
            | false =>
              have HP2 : Hid (partsF (47 :: t) = none) := by show _ = _; rw [HP.out, HNo.out rfl]; rfl
              clear HY HNo
              go_wp2_with fail
              go_ret2
              exact SplitPost.none_ HP2.out HB3.out
          · obtain rfl : j = ss.length := by omega
            have HP2 : Hid (partsF (47 :: t) = some ss) := by
              show _ = _
              have h := HT.out
              rw [List.take_length] at h
              rw [HP.out, if_pos h]
            have v2 : ¬ (ss.length : Int) < (ss.length : Int) := by omega
            go_wp2_with fail
            go_ret2
            exact SplitPost.some_ HP2.out HBe.out (own_below HR.out HBr.out)
end Go.Proofs.YtplbckibogmicaaGreatDoor.Path
