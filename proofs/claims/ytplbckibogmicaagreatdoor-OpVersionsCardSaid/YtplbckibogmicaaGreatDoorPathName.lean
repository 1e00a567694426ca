/- The contracts of path's names, for the landed code. -/
import Derived.Test.YtplbckibogmicaaGreatDoorPathTexts
import Derived.Laws.RangeAny
namespace Go.Proofs.YtplbckibogmicaaGreatDoor.Path
open Go.RowKit

def nameE (l : List UInt8) : Int := if name l = true then 0 else 30
def checkE (l : List UInt8) : Int := if (partsF l).isSome = true then 0 else 30
def partsL (l : List UInt8) : List (List UInt8) := (partsF l).getD []
def parentF (l : List UInt8) : List UInt8 := match partsF l with
  | none => []
  | some ps => ofL ps.dropLast
def baseF (l : List UInt8) : List UInt8 := (partsL l).getLastD []
def joinF (p q : List UInt8) : List UInt8 × Int := match partsF p with
  | none => ([], 30)
  | some ps => if name q = true then (if (ofL (ps ++ [q])).length ≤ 64 then (ofL (ps ++ [q]), 0) else ([], 3)) else ([], 30)

theorem nameE_ok {l : List UInt8} (h : name l = true) : nameE l = 0 := by unfold nameE; rw [h]; rfl
theorem nameE_no {l : List UInt8} (h : name l = false) : nameE l = 30 := by unfold nameE; rw [h]; rfl
theorem fits_yes (v : Nat) (w : World) (h : okR v = true) : Calls Tryz.prog 107 #[.int .i32 (v : Int)] w fun e w' => e = .returned (.bool true) ∧ w' = w := by
  obtain ⟨a1, a2, a3, a4⟩ := okR_ne h
  have b1 : ((v : Int) == 65533) = false := beq_eq_false_iff_ne.2 (by omega)
  have b2 : ((v : Int) == 47) = false := beq_eq_false_iff_ne.2 (by omega)
  have b3 : ((v : Int) == 127) = false := beq_eq_false_iff_ne.2 (by omega)
  have b4 : decide ((v : Int) ≥ 32) = true := decide_eq_true (by omega)
  clear h a1 a2 a3 a4
  generalize (v : Int) = z at *
  go_enter Tryz.func107, Tryz.ntmps107
  go_wp2_with fail
  go_ret
  exact ⟨rfl, rfl⟩
theorem fits_no (v : Nat) (w : World) (h : okR v = false) : Calls Tryz.prog 107 #[.int .i32 (v : Int)] w fun e w' => e = .returned (.bool false) ∧ w' = w := by
  by_cases c1 : v = 47
  · subst c1
    go_enter Tryz.func107, Tryz.ntmps107
    go_wp2_with fail
    go_ret
    exact ⟨rfl, rfl⟩
  · by_cases c2 : v = 127
    · subst c2
      go_enter Tryz.func107, Tryz.ntmps107
      go_wp2_with fail
      go_ret
      exact ⟨rfl, rfl⟩
    · by_cases c3 : v = 65533
      · subst c3
        go_enter Tryz.func107, Tryz.ntmps107
        go_wp2_with fail
        go_ret
        exact ⟨rfl, rfl⟩
      · have hlt : v < 32 := by
          unfold okR at h
          simp at h
          omega
        have b1 : ((v : Int) == 65533) = false := beq_eq_false_iff_ne.2 (by omega)
        have b2 : ((v : Int) == 47) = false := beq_eq_false_iff_ne.2 (by omega)
        have b3 : ((v : Int) == 127) = false := beq_eq_false_iff_ne.2 (by omega)
        have b4 : decide ((v : Int) ≥ 32) = false := decide_eq_false (by omega)
        clear h c1 c2 c3 hlt
        generalize (v : Int) = z at *
        go_enter Tryz.func107, Tryz.ntmps107
        go_wp2_with fail
        go_ret
        exact ⟨rfl, rfl⟩
theorem errno_any (b : Bool) (w : World) : Calls Tryz.prog 68 #[.bool b] w fun e w' => e = .returned (.int .i64 (if b = true then 0 else 30)) ∧ w' = w := by
  cases b with
  | true =>
    go_enter Tryz.func68, Tryz.ntmps68
    go_wp2_with fail
    go_ret
    exact ⟨rfl, rfl⟩
  | false =>
    go_enter Tryz.func68, Tryz.ntmps68
    go_wp2_with fail
    go_ret
    exact ⟨rfl, rfl⟩
def RelN (w : World) (s : ByteArray) (l : List UInt8) (wr : World) : Prop := ∃ k : Nat, k ≤ l.length ∧ wr = w.iter s k ∧ runes l = runes (l.drop k)

set_option maxRecDepth 8000 in
set_option maxHeartbeats 1000000 in
theorem isName_any (l : List UInt8) (w : World) : Calls Tryz.prog 87 #[.string (S l)] w fun e w' => e = .returned (.bool (name l)) ∧ Below w.heap.size w w' := by
  have hz : (S l).size = l.length := S_size l
  have hsl := S_list l
  have HB : Hid (∀ k, Below w.heap.size w (w.iter (S l) k)) := fun k => (Below.refl _ _).alloc (Nat.le_refl _) _
  have HDE : Hid (∀ k, Utf8.decode (S l) k = dec (l.drop k)) := fun k => decode_eq l k
  by_cases h0 : l = []
  · have HN : Hid (name l = false) := by subst h0; rfl
    generalize S l = s at *
    go_enter Tryz.func87, Tryz.ntmps87
    go_wp2_with fail
    go_ret
    rw [HN.out]
    exact ⟨rfl, Below.refl _ _⟩
  · by_cases h1 : l = [46]
    · have HN : Hid (name l = false) := by subst h1; rfl
      generalize S l = s at *
      go_enter Tryz.func87, Tryz.ntmps87
      go_wp2_with fail
      go_ret
      rw [HN.out]
      exact ⟨rfl, Below.refl _ _⟩
    · by_cases h2 : l = [46, 46]
      · have HN : Hid (name l = false) := by subst h2; rfl
        generalize S l = s at *
        go_enter Tryz.func87, Tryz.ntmps87
        go_wp2_with fail
        go_ret
        rw [HN.out]
        exact ⟨rfl, Below.refl _ _⟩
      · have HN : Hid (name l = runes l) := by
          show _ = _
          unfold name
          cases l with
          | nil => exact absurd rfl h0
          | cons a l => simp [h1, h2]
        have e0 : (l == []) = false := beq_eq_false_iff_ne.2 h0
        have e1 : (l == [46]) = false := beq_eq_false_iff_ne.2 h1
        have e2 : (l == [46, 46]) = false := beq_eq_false_iff_ne.2 h2
        clear h0 h1 h2
        generalize S l = s at *
        go_enter Tryz.func87, Tryz.ntmps87
        go_wp2_with fail
        go_loopw [4] (fun _ wr => RelN w s l wr) (fun _ wr => l.length - wr.iterPos w.heap.size)
        case atStart => exact ⟨0, by omega, rfl, rfl⟩
        case round =>
          obtain ⟨k, hk, rfl, hrun⟩ := hrel
          have HRUN := Lib.hid hrun
          clear hrun
          by_cases hlt : k < l.length
          · have hne : l.drop k ≠ [] := by intro h; have := congrArg List.length h; simp at this; omega
            have HSTEP := Lib.hid (runes_step hne)
            have hle : k + (dec (l.drop k)).2 ≤ l.length := by
              have := dec_le hne
              rw [List.length_drop] at this
              omega
            have hpos := dec_pos (l.drop k)
            have HDD : Hid ((l.drop k).drop (dec (l.drop k)).2 = l.drop (k + (dec (l.drop k)).2)) := List.drop_drop
            have hnx := fun ty => run_next_any (P := Tryz.prog) w s k ty (by omega)
            rw [HDE.out] at hnx
            clear hne
            generalize hd1 : (dec (l.drop k)).1 = v at *
            generalize hd2 : (dec (l.drop k)).2 = n at *
            clear hd1 hd2
            cases hok : okR v with
            | true =>
              have HF : Hid (runes l = runes (l.drop (k + n))) := by show _ = _; rw [HRUN.out, HSTEP.out, hok, Bool.true_and, HDD.out]
              have c := fits_yes v (w.iter s (k + n)) hok
              clear hok HSTEP HDD HRUN
              generalize (v : Int) = z at *
              go_wp2_with fail
              refine c.mono ?_
              rintro e w1 ⟨rfl, rfl⟩
              clear c
              go_wp2_with fail
              refine ⟨⟨k + n, hle, rfl, HF.out⟩, ?_⟩
              rw [World.iterPos_iter, World.iterPos_iter]
              omega
            | false =>
              have HF : Hid (name l = false) := by show _ = _; rw [HN.out, HRUN.out, HSTEP.out, hok, Bool.false_and]
              have c := fits_no v (w.iter s (k + n)) hok
              clear HSTEP HDD HRUN hok
              generalize (v : Int) = z at *
              go_wp2_with fail
              refine c.mono ?_
              rintro e w1 ⟨rfl, rfl⟩
              clear c
              go_wp2_with fail
              go_ret
              rw [HF.out]
              exact ⟨rfl, HB.out _⟩
          · obtain rfl : k = l.length := by omega
            have HF : Hid (name l = true) := by show _ = _; rw [HN.out, HRUN.out, List.drop_length]; rfl
            have hnx := fun ty => run_next_end (P := Tryz.prog) w s l.length ty (by omega)
            go_wp2_with fail
            go_ret
            rw [HF.out]
            exact ⟨rfl, HB.out _⟩
end Go.Proofs.YtplbckibogmicaaGreatDoor.Path
