/- net: New. -/
import Derived.Test.YtephciglcikllaaNetCodeA
namespace Go.Proofs.Ytephciglcikllaa.Net
open Go.RowKit Disk Zab Sto

theorem info_int : (Try.prog.info? 3).map (fun i => (i.zero, i.size, i.bytes)) = some (some (.int .i64 0), 1, 8) := by kernel_rfl
theorem ty_ints : Try.prog.underlying 22 = some (.slice 3) := by kernel_rfl
def noSize (s : Int) : Bool := decide (s < 1) || decide (3 < s)
set_option maxRecDepth 8000 in
theorem isNoSize_any (s : Int) (w : World) : Calls Try.prog 31 #[.int .i64 s] w fun e w' => e = .returned (.bool (noSize s)) ∧ w' = w := by
  by_cases h1 : s < 1
  · have e : noSize s = true := by unfold noSize; rw [decide_eq_true h1]; rfl
    rw [e]
    clear e
    go_enter Try.func31, Try.ntmps31
    go_wp2_with fail
    go_ret
    exact ⟨rfl, rfl⟩
  · have e : noSize s = decide (3 < s) := by unfold noSize; rw [decide_eq_false h1]; rfl
    rw [e]
    clear e
    go_enter Try.func31, Try.ntmps31
    go_wp2_with fail
    go_ret
    exact ⟨rfl, rfl⟩
theorem any_take {α : Type} {l : List α} {p : α → Bool} {k : Nat} (hk : k < l.length) : (l.take (k + 1)).any p = ((l.take k).any p || p l[k]) := by
  rw [List.take_succ_eq_append_getElem hk, List.any_append]
  simp
def RelAny (ls : List Int) (n : Nat) (i : Value) : Prop := ∃ k : Nat, k ≤ n ∧ i = .int .i64 (k : Int) ∧ (ls.take k).any noSize = false
def IdxP (r : Bool) (w : World) (e : Ending) (w' : World) : Prop := ∃ i : Int, e = .returned (.int .i64 i) ∧ decide (0 ≤ i) = r ∧ w' = w
set_option maxRecDepth 100000 in
set_option maxHeartbeats 2000000 in
theorem indexFunc_sizes (zs : List Int) (A : Option Addr) (n c : Nat) (w : World) (hS : RdV w A n (iv zs)) (hn : n ≤ 1000000) :
    Calls Try.prog 41 #[.slice A n c, .func (.func 31) #[] #[]] w (IdxP (zs.any noSize) w) := by
  have HS := Lib.hid hS
  have hl : zs.length = n := by rw [← hS.len]; simp [iv]
  have HL := Lib.hid hl
  obtain ⟨r, hr⟩ : ∃ r, r = zs.any noSize := ⟨_, rfl⟩
  rw [← hr]
  have HR := Lib.hid hr
  clear hS hl hr
  go_enter Try.func41, Try.ntmps41
  go_wp2_with fail
  go_loop [8] (fun i => RelAny zs n i) (fun i => n - (intOf i).toNat)
  case atStart => exact ⟨0, Nat.zero_le _, rfl, by simp⟩
  case round =>
    obtain ⟨k, hk, rfl, hall⟩ := hrel
    have HALL := Lib.hid hall
    clear hall
    by_cases hlt : k < n
    · have hjx : k < zs.length := by rw [HL.out]; exact hlt
      obtain ⟨ad, rfl, hcells⟩ := HS.out.cells (by omega)
      have q1 := hcells k (.int .i64 zs[k]) (by unfold iv; rw [List.getElem?_map, List.getElem?_eq_getElem hjx]; rfl)
      have HAT := Lib.hid (any_take (p := noSize) hjx)
      have HMEM := Lib.hid (List.getElem_mem hjx)
      generalize zs[k] = y at *
      have cf := Lib.hid (isNoSize_any y)
      obtain ⟨b, hb⟩ : ∃ b, b = noSize y := ⟨_, rfl⟩
      rw [← hb] at HAT cf
      have HBY := Lib.hid hb
      clear hcells hb
      cases b
      · have HREL : Hid ((zs.take (k + 1)).any noSize = false) := by
          show _ = _
          rw [HAT.out, HALL.out]
          rfl
        go_wp2_with fail
        refine (cf.out _).mono ?_
        rintro e w3 ⟨rfl, rfl⟩
        clear cf q1
        go_wp2_with fail
        go_round
        case rel => exact ⟨k + 1, by omega, by go_num, HREL.out⟩
        case measure => simp [intOf]; omega
      · have HANY : Hid (r = true) := by
          show _ = _
          rw [HR.out]
          exact List.any_eq_true.2 ⟨y, HMEM.out, HBY.out.symm⟩
        go_wp2_with fail
        refine (cf.out _).mono ?_
        rintro e w3 ⟨rfl, rfl⟩
        clear cf q1
        go_wp2_with fail
        go_ret
        exact ⟨(k : Int), rfl, by rw [HANY.out]; exact decide_eq_true (by omega), rfl⟩
    · obtain rfl : k = n := by omega
      have HNO : Hid (r = false) := by
        show _ = _
        have h1 := HALL.out
        rwa [List.take_of_length_le (by rw [HL.out]; exact Nat.le_refl _), ← HR.out] at h1
      clear hlt
      have v1 : ¬ (k : Int) < (k : Int) := by omega
      go_wp2_with fail
      go_ret
      exact ⟨-1, rfl, by rw [HNO.out]; rfl, rfl⟩
set_option maxRecDepth 8000 in
theorem contains_sizes (zs : List Int) (A : Option Addr) (n c : Nat) (w : World) (hS : RdV w A n (iv zs)) (hn : n ≤ 1000000) :
    Calls Try.prog 30 #[.slice A n c, .func (.func 31) #[] #[]] w fun e w' => e = .returned (.bool (zs.any noSize)) ∧ w' = w := by
  have ci := Lib.hid (indexFunc_sizes zs A n c w hS hn)
  obtain ⟨r, hr⟩ : ∃ r, r = zs.any noSize := ⟨_, rfl⟩
  rw [← hr] at ci ⊢
  clear hS hn hr
  go_enter Try.func30, Try.ntmps30
  go_wp2_with fail
  refine ci.out.mono ?_
  rintro e w1 ⟨i, rfl, hi, rfl⟩
  have HI := Lib.hid hi
  clear hi ci
  go_wp2_with fail
  go_ret
  exact ⟨by rw [← HI.out]; rfl, rfl⟩
/-- A copy of numbers. -/
def CopyI (zs : List Int) (w : World) (e : Ending) (w' : World) : Prop := ∃ B m k, e = .returned (.slice B m k) ∧ m = zs.length ∧ RdV w' B m (iv zs) ∧ (∀ a, B = some a → w.heap.size ≤ a.block) ∧ Below w.heap.size w w'
set_option maxRecDepth 8000 in
theorem clone_ints (A : Option Addr) (n c : Nat) (zs : List Int) (w : World) (hr : RdV w A n (iv zs)) (hle : n ≤ 1000000) :
    Calls Try.prog 32 #[.slice A n c] w (CopyI zs w) := by
  have H := Lib.hid hr
  have hl : zs.length = n := by rw [← hr.len]; simp [iv]
  have HL := Lib.hid hl
  clear hl
  cases A with
  | none =>
    have h0 : n = 0 := by
      rcases Nat.eq_zero_or_pos n with h | h
      · exact h
      · obtain ⟨_, e', _⟩ := hr.cells h
        cases e'
    subst h0
    have hb0 : zs = [] := List.eq_nil_of_length_eq_zero HL.out
    subst hb0
    clear hr
    have heq := Lib.run_eql_slice_nil (P := Try.prog) w 22 3 none 0 c 0 0 ty_ints
    go_enter Try.func32, Try.ntmps32
    go_wp2_with fail
    go_ret
    exact ⟨none, 0, 0, rfl, rfl, RdV.nil_ _ _, (fun a h => by cases h), Below.refl _ _⟩
  | some ad =>
    clear hr
    obtain ⟨i, hi, hz0, hz1, hz2⟩ := infos info_int
    have HI := Lib.hid hi
    have HZ0 := Lib.hid hz0
    have HZ1 := Lib.hid hz1
    have HZ2 := Lib.hid hz2
    clear hi hz0 hz1 hz2
    have heq := Lib.run_eql_slice_nil (P := Try.prog) w 22 3 (some ad) n c 0 0 ty_ints
    go_enter Try.func32, Try.ntmps32
    have HBa := Lib.hid ((Below.refl w.heap.size w).alloc (Nat.le_refl _) (.cells #[] 3))
    have HONE : Hid (∀ u ∈ iv zs, u.oneCell' = true) := fun u hu => by
      obtain ⟨q, _, rfl⟩ := List.mem_map.1 hu
      rfl
    obtain ⟨v', w3, hrun, hown3, hgr3⟩ := run_append_RdV (ty := 22) ty_ints HI.out HZ0.out HZ1.out HZ2.out rfl (own_lit1 w 3) (H.out.below HBa.out) HONE.out c (by unfold maxLen; omega) (by omega) (by simp)
    have HRUN := Lib.hid hrun
    have HO3 := Lib.hid hown3
    have HB3 := Lib.hid (HBa.out.grown hgr3 HBa.out.size (fun g hg => ((own_lit1 w 3).lt g hg).1))
    clear hown3 hgr3 hrun
    go_wp2_with (at_builtin; refine wpList_append_of rfl (.tmp 5) (.tmp 6) 22 rfl rfl rfl HRUN.out ?_)
    go_wp2_with fail
    go_ret
    obtain ⟨B, k, e1⟩ := own_slice HO3.out
    have ho := HO3.out
    rw [e1] at ho ⊢
    rw [Nat.zero_add, List.nil_append] at ho
    refine ⟨B, n, k, by simp, HL.out.symm, (RdV.of_own ho).1, fun a ha => (ho.lt a.block (by rw [ha]; rfl)).1, HB3.out⟩
end Go.Proofs.Ytephciglcikllaa.Net
