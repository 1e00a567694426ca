/- BallotApart: an epoch that a node gets from Next is above what was said, not more than the group's size above it, and its own; two nodes never get the same one; and it rises with what was said: for all numbers (groups of 1 to 40 nodes) the call returns true, and nothing that was there has turned. No conditions. -/
import Derived.Test.YtcnmfbbliaemhaaBalFrame
namespace Go.Proofs.Ytcnmfbbliaemhaa.ballotApart
open Go.ChangeShapes Go.WideShapes Go.ChangeAt Go.RowKit Bal

set_option maxRecDepth 100000 in
set_option maxHeartbeats 4000000 in
theorem walk (p q : Int) (x y z : Nat) (w : World) (p1 : 0 ≤ p) (p2 : p < 18446744073709551616) (q1 : 0 ≤ q) (q2 : q < 18446744073709551616) (x2 : x < 256) (y2 : y < 256) (z2 : z < 256) : Calls Try.prog 6 #[.int .u64 p, .int .u64 q, .int .u8 (x : Int), .int .u8 (y : Int), .int .u8 (z : Int)] w fun r w' => r = .returned (.bool true) ∧ Below w.heap.size w w' := by
  obtain ⟨s, hs⟩ : ∃ s : Nat, s = 1 + z % 40 := ⟨_, rfl⟩
  have hs1 : 1 ≤ s ∧ s ≤ 40 := by omega
  have hs2 : (1 : Int) + (z : Int) % 40 = (s : Int) := by omega
  obtain ⟨i, hi⟩ : ∃ i : Nat, i = x % s := ⟨_, rfl⟩
  obtain ⟨k, hk⟩ : ∃ k : Nat, k = y % s := ⟨_, rfl⟩
  have hi1 : i < s := by rw [hi]; exact Nat.mod_lt _ (by omega)
  have hk1 : k < s := by rw [hk]; exact Nat.mod_lt _ (by omega)
  have hi2 : (x : Int) % (s : Int) = (i : Int) := by rw [hi]; exact (Int.natCast_emod x s).symm
  have hk2 : (y : Int) % (s : Int) = (k : Int) := by rw [hk]; exact (Int.natCast_emod y s).symm
  have hi3 : Int.tmod (x : Int) (s : Int) = (i : Int) := by rw [Int.tmod_eq_emod_of_nonneg (by omega)]; exact hi2
  have hk3 : Int.tmod (y : Int) (s : Int) = (k : Int) := by rw [Int.tmod_eq_emod_of_nonneg (by omega)]; exact hk2
  have hx4 : IntKind.i64.wrap (x : Int) = (x : Int) := IntWalk.i64_in _ (by omega)
  have hy4 : IntKind.i64.wrap (y : Int) = (y : Int) := IntWalk.i64_in _ (by omega)
  have hi4 : IntKind.i64.wrap (i : Int) = (i : Int) := IntWalk.i64_in _ (by omega)
  have hk4 : IntKind.i64.wrap (k : Int) = (k : Int) := IntWalk.i64_in _ (by omega)
  obtain ⟨a, ha⟩ : ∃ a : Nat, p % 281474976710657 = (a : Int) := ⟨(p % 281474976710657).toNat, by omega⟩
  obtain ⟨b, hb⟩ : ∃ b : Nat, q % 281474976710657 = (b : Int) := ⟨(q % 281474976710657).toNat, by omega⟩
  have ha1 : a ≤ 281474976710656 := by omega
  have hb1 : b ≤ 281474976710656 := by omega
  have C1 := (next_yes a i s · hi1 (by omega) ha1)
  have C2 := (next_yes b k s · hk1 (by omega) hb1)
  have he := next_range (a := a) hi1
  have hf := next_range (a := b) hk1
  have hm : i = k → a ≤ b → next a i s ≤ next b k s := fun h1 h2 => by subst h1; exact next_mono hi1 h2
  have heo := next_own (a := a) hi1
  have hfo := next_own (a := b) hk1
  generalize next a i s = e at *
  generalize next b k s = f at *
  have C3 := (owner_yes e s · (by omega) (by omega))
  have C4 := (owner_yes f s · (by omega) (by omega))
  have hne : i ≠ k → e ≠ f := fun h1 h2 => h1 (by rw [← heo, ← hfo, h2])
  simp only [heo] at C3
  simp only [hfo] at C4
  have CA1 := Lib.hid C1
  have CA2 := Lib.hid C2
  have CA3 := Lib.hid C3
  have CA4 := Lib.hid C4
  clear C1 C2 C3 C4
  have hs0 : ((s : Int) == 0) = false := by simp; omega
  have he1 := he.1
  have he2 := he.2
  have j1 : ¬ (e : Int) ≤ (a : Int) := by omega
  have j2 : ¬ (a : Int) + (s : Int) < (e : Int) := by omega
  clear he hf hs hi hk heo hfo
  by_cases hik : i = k
  · by_cases h : b < a
    · subst hik
      have hab : (b : Int) < (a : Int) := by omega
      clear hne hm h
      go_enter Try.func6, Try.ntmps6
      go_wp2_with fail
      go_quiet (fail)
      clear hi3 hk3 hx4 hy4 hi4 hk4 hi2 hk2 hs2
      go_wp2_with fail
      ((with_reducible refine (CA1.out _).mono ?_); rintro r _ ⟨rfl, rfl⟩)
      go_wp2_with fail
      ((with_reducible refine (CA2.out _).mono ?_); rintro r _ ⟨rfl, rfl⟩)
      go_wp2_with fail
      ((with_reducible refine (CA3.out _).mono ?_); rintro r _ ⟨rfl, rfl⟩)
      go_wp2_with fail
      ((with_reducible refine (CA4.out _).mono ?_); rintro r _ ⟨rfl, rfl⟩)
      go_wp2_with fail
      refine (counts_any _).mono ?_
      rintro r w6 ⟨rfl, hb⟩
      have HB6 := Lib.hid ((below_drewN w.heap.size w _).trans (hb.mono (Nat.le_refl _)))
      clear hb
      go_wp2_with fail
      go_ret
      exact ⟨rfl, HB6.out⟩
    · subst hik
      have hab : ¬ (b : Int) < (a : Int) := by omega
      have hef : (e : Int) ≤ (f : Int) := by have := hm rfl (by omega); omega
      clear hne hm h
      go_enter Try.func6, Try.ntmps6
      go_wp2_with fail
      go_quiet (fail)
      clear hi3 hk3 hx4 hy4 hi4 hk4 hi2 hk2 hs2
      go_wp2_with fail
      ((with_reducible refine (CA1.out _).mono ?_); rintro r _ ⟨rfl, rfl⟩)
      go_wp2_with fail
      ((with_reducible refine (CA2.out _).mono ?_); rintro r _ ⟨rfl, rfl⟩)
      go_wp2_with fail
      ((with_reducible refine (CA3.out _).mono ?_); rintro r _ ⟨rfl, rfl⟩)
      go_wp2_with fail
      ((with_reducible refine (CA4.out _).mono ?_); rintro r _ ⟨rfl, rfl⟩)
      go_wp2_with fail
      refine (counts_any _).mono ?_
      rintro r w6 ⟨rfl, hb⟩
      have HB6 := Lib.hid ((below_drewN w.heap.size w _).trans (hb.mono (Nat.le_refl _)))
      clear hb
      go_wp2_with fail
      go_ret
      exact ⟨rfl, HB6.out⟩
  · have hq : ((i : Int) != (k : Int)) = true := by simp; omega
    have hef : ((e : Int) == (f : Int)) = false := by have := hne hik; simp; omega
    clear hne hm hik
    go_enter Try.func6, Try.ntmps6
    go_wp2_with fail
    go_quiet (fail)
    clear hi3 hk3 hx4 hy4 hi4 hk4 hi2 hk2 hs2
    go_wp2_with fail
    ((with_reducible refine (CA1.out _).mono ?_); rintro r _ ⟨rfl, rfl⟩)
    go_wp2_with fail
    ((with_reducible refine (CA2.out _).mono ?_); rintro r _ ⟨rfl, rfl⟩)
    go_wp2_with fail
    ((with_reducible refine (CA3.out _).mono ?_); rintro r _ ⟨rfl, rfl⟩)
    go_wp2_with fail
    ((with_reducible refine (CA4.out _).mono ?_); rintro r _ ⟨rfl, rfl⟩)
    go_wp2_with fail
    refine (counts_any _).mono ?_
    rintro r w6 ⟨rfl, hb⟩
    have HB6 := Lib.hid ((below_drewN w.heap.size w _).trans (hb.mono (Nat.le_refl _)))
    clear hb
    go_wp2_with fail
    go_ret
    exact ⟨rfl, HB6.out⟩

set_option maxRecDepth 100000 in
theorem lifted (os : Os) (started : os.Started) (H : Type) (enc : TypeId × Value → H) :
    ReturnsInHanded {} Try.checked os 6 .any (Rows.ballotApartSpec.pre6 enc Try.prog Try.f6 Rows.ballotApartRow.domain false) (Rows.ballotApartSpec.post enc Try.prog Try.f6 false true false false) := by
  refine returnsInHanded_of_change (C := Try.checked) own started (by kernel_rfl) Try.func6
    (ChangeSpec.witness6 (enc := enc) (C := Try.checked) false ⟨#[], #[.int .u64 0, .int .u64 0, .int .u8 0, .int .u8 0, .int .u8 0], []⟩ 8 (by kernel_rfl) (by kernel_rfl) (by kernel_rfl) (by kernel_rfl)) ?_
  intro W base args ds gs before hval0 hW hcnd _
  have hval : ∀ (j : Nat) t v, Try.f6.params[j]? = some t → args[j]? = some v → Value.okWide Try.prog W .any base t v := hval0
  have hW' := hW
  obtain ⟨p, q, hA0, hV, rfl, hfz, hnd⟩ := hW
  have hA : DataW.TrodAll enc Try.prog W 0 (fun _ => true) true Try.f6.params.toList args.toList ds p := hA0
  rw [Try.params6] at hA hval
  obtain ⟨v0, v1, v2, v3, v4, d0, d1, d2, d3, d4, p0, p1, p2, p3, p4, rfl, rfl, rfl, h0, h1, h2, h3, h4⟩ := trodAll_five hA
  obtain ⟨rfl, rfl⟩ := trodVars_none hV
  obtain ⟨p, rfl, p1, p2⟩ := open_u64 ty_u64 (hval 0 _ v0 rfl rfl) h0
  obtain ⟨q, rfl, q1, q2⟩ := open_u64 ty_u64 (hval 1 _ v1 rfl rfl) h1
  obtain ⟨x, rfl, x2⟩ := open_u8n ty_byte (hval 2 _ v2 rfl rfl) h2
  obtain ⟨y, rfl, y2⟩ := open_u8n ty_byte (hval 3 _ v3 rfl rfl) h3
  obtain ⟨z, rfl, z2⟩ := open_u8n ty_byte (hval 4 _ v4 rfl rfl) h4
  refine (walk p q x y z W p1 p2 q1 q2 x2 y2 z2).mono fun e W' ⟨he, hb⟩ => ?_
  subst he
  exact ⟨_, rfl, post_true laidOut (by kernel_rfl) ty_bool (by kernel_rfl) rfl hW' hb rfl⟩

theorem over : Rows.ballotApartRow.holds Try.pinned (OpenSpec.ofChange Rows.ballotApartSpec) :=
  OpenClaim.holds_of_wide 6 Try.f6 rfl rfl rfl rfl rfl rfl rfl ⟨rfl, rfl, rfl, rfl, rfl⟩ rfl rfl rfl rfl rfl (by kernel_rfl) Try.func6 (by kernel_rfl)
    (of_decide_eq_true (by kernel_rfl)) (by unfold Func.isWrapper; first | (rw [if_pos (by decide +kernel)]; kernel_rfl) | (rw [if_neg (by decide +kernel)]; exact ⟨rfl, rfl⟩))
    (fun os started H enc _ => lifted os started H enc)

theorem proved : Rows.BallotApartSaid :=
  over
end Go.Proofs.Ytcnmfbbliaemhaa.ballotApart
