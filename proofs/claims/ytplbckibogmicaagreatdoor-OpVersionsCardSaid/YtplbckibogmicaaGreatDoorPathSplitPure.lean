/- A text cut at each byte 47: the library's words are 'segs'. -/
import Derived.Test.YtplbckibogmicaaGreatDoorPathTexts
import Derived.Lib.SplitLaws
import Derived.Lib.Join
namespace Go.Proofs.YtplbckibogmicaaGreatDoor.Path
open Go.RowKit

theorem index_cons_eq (l : List UInt8) : Lib.index (47 :: l) [47] = 0 := by
  unfold Lib.index
  rw [if_pos (by simp)]
theorem index_cons_ne {b : UInt8} (l : List UInt8) (h : b ≠ 47) : Lib.index (b :: l) [47] = if Lib.index l [47] == -1 then -1 else Lib.index l [47] + 1 := by
  have h' : ¬ (47 : UInt8) = b := fun e => h e.symm
  conv => lhs; unfold Lib.index
  rw [if_neg (by simp [h'])]
theorem splitK_eq (k : Nat) (l : List UInt8) : Lib.splitK [47] 0 (k + 1) (47 :: l) = [] :: Lib.splitK [47] 0 k l := by
  rw [Lib.splitK, index_cons_eq, if_neg (by decide)]
  simp
theorem splitK_ne {b : UInt8} (k : Nat) (l : List UInt8) (h : b ≠ 47) : ∃ s ss, Lib.splitK [47] 0 k l = s :: ss ∧ Lib.splitK [47] 0 k (b :: l) = (b :: s) :: ss := by
  cases k with
  | zero => exact ⟨l, [], rfl, rfl⟩
  | succ k =>
    rw [Lib.splitK, Lib.splitK, index_cons_ne l h]
    by_cases hi : Lib.index l [47] = -1
    · rw [hi]
      exact ⟨l, [], rfl, rfl⟩
    · have hg := Lib.index_ge l [47]
      have e0 : (Lib.index l [47] == -1) = false := beq_eq_false_iff_ne.2 hi
      obtain ⟨i, hi'⟩ : ∃ i : Nat, Lib.index l [47] = (i : Int) := ⟨(Lib.index l [47]).toNat, by omega⟩
      rw [e0, hi']
      have e1 : (((i : Int) + 1) == -1) = false := beq_eq_false_iff_ne.2 (by omega)
      have e2 : ((i : Int) + 1).toNat = i + 1 := by omega
      have e3 : ((i : Int)).toNat = i := by omega
      refine ⟨_, _, rfl, ?_⟩
      simp [e1, e2, e3]
theorem splitK_segs : ∀ l : List UInt8, Lib.splitK [47] 0 (Lib.count l [47]) l = segs l
  | [] => by rw [Lib.count_one]; rfl
  | b :: l => by
    have ih := splitK_segs l
    by_cases h : b = 47
    · subst h
      rw [Lib.count_cons_eq, Nat.add_comm, splitK_eq, ih]
      simp [segs]
    · rw [Lib.count_cons_ne _ _ _ h]
      obtain ⟨s, ss, h1, h2⟩ := splitK_ne (Lib.count l [47]) l h
      rw [h2, segs, if_neg h, ← ih, h1]
theorem splitB_segs (l : List UInt8) : Lib.splitB (S [47]) 0 (Lib.countB (S l) (S [47])) (S l) = (segs l).map S := by
  have h := Lib.splitB_data (S [47]) 0 (Lib.countB (S l) (S [47])) (S l)
  have hc : Lib.countB (S l) (S [47]) = Lib.count l [47] := by
    show Lib.count _ _ = _
    simp [S]
  rw [hc] at h ⊢
  have h2 : Lib.splitK (S [47]).data.toList 0 (Lib.count l [47]) (S l).data.toList = segs l := by
    rw [← splitK_segs l]
    simp [S]
  rw [h2] at h
  rw [← h, List.map_map]
  conv => lhs; rw [← List.map_id (Lib.splitB (S [47]) 0 (Lib.count l [47]) (S l))]
  apply List.map_congr_left
  intro x _
  simp [S]
theorem countB_segs (l : List UInt8) : Lib.countB (S l) (S [47]) + 1 = (segs l).length := by
  have h1 := Lib.splitB_all (S [47]) (by rw [S_size]; exact Nat.le_refl _) 0 _ (S l) rfl
  rw [splitB_segs, List.length_map] at h1
  exact h1.symm
/-- "/" and the parts with "/" between them. -/
theorem ofL_join (ps : List (List UInt8)) : 47 :: Lib.join ps [47] = ofL ps := by
  cases ps with
  | nil => rfl
  | cons p ps =>
    rw [Lib.join_cons]
    unfold ofL Lib.joinTail
    rw [if_neg (by simp), List.flatMap_cons, ← List.flatMap_def]
    rfl
end Go.Proofs.YtplbckibogmicaaGreatDoor.Path
