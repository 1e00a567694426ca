/- BallotCommits: what Commit answers (of at most 200 numbers) is the document's, and what is handed in stays: for every row of numbers the call returns true, and nothing that was there has turned. No conditions. -/
import Derived.Test.YtcnmfbbliaemhaaBalRef
namespace Go.Proofs.Ytcnmfbbliaemhaa.ballotCommits
open Go.ChangeShapes Go.WideShapes Go.ChangeAt Go.RowKit Bal

def RelC (w : World) (n : Nat) (i : Value) (wr : World) : Prop := ∃ k : Nat, k ≤ n ∧ i = .int .i64 (k : Int) ∧ Below w.heap.size w wr
theorem info_int : (Try.prog.info? 3).map (fun i => (i.zero, i.size, i.bytes)) = some (some (.int .i64 0), 1, 8) := by kernel_rfl
theorem own_lit0 (w : World) (e : TypeId) : (w.alloc (.cells #[] e)).ownsRow w.heap.size e 1 (.slice (some ⟨w.heap.size, 0, none⟩) 0 0) 0 [] :=
  ⟨rfl, .inr ⟨w.heap.size, 0, #[], rfl, Nat.le_refl _, heap_alloc_new w _, Nat.le_refl _, Nat.zero_le _, rfl, rfl⟩⟩
set_option maxRecDepth 100000 in
set_option maxHeartbeats 4000000 in
theorem walk (A : Option Addr) (n c : Nat) (zs : List Int) (w : World) (hr : RdV w A n (vi zs)) : Calls Try.prog 4 #[.slice A n c] w fun r w' => r = .returned (.bool true) ∧ Below w.heap.size w w' := by
  have hl : zs.length = n := by rw [← hr.len, vi_length]
  have HL := Lib.hid hl
  have HR := Lib.hid hr
  clear hl hr
  by_cases hbig : 200 < n
  · have h1 : (200 : Int) < (n : Int) := by omega
    clear hbig
    go_enter Try.func4, Try.ntmps4
    go_wp2_with fail
    go_ret
    exact ⟨rfl, Below.refl _ _⟩
  · have h1 : ¬ (200 : Int) < (n : Int) := by omega
    obtain ⟨i0, hi, hz0, hz1, hz2⟩ := infos info_int
    have HI := Lib.hid hi
    have HZ0 := Lib.hid hz0
    have HZ1 := Lib.hid hz1
    have HZ2 := Lib.hid hz2
    clear hi hz0 hz1 hz2
    have B1 : Hid (Below w.heap.size w (w.alloc (.cells #[] 3))) := (Below.refl _ _).alloc (Nat.le_refl _) _
    have HR1 := Lib.hid (HR.out.below B1.out)
    go_enter Try.func4, Try.ntmps4
    go_wp2_with (at_builtin; refine wpList_append_RdV rfl (.tmp 9) (.tmp 10) _ rfl ty_ints HI.out HZ0.out HZ1.out HZ2.out rfl rfl (own_lit0 w 3) rfl HR1.out (vi_one _) (by unfold maxLen; omega) (by omega) (by simp) ?_)
    intro v' w1 hown hgr
    have HB1 : Hid (Below w.heap.size w w1) := B1.out.grown hgr (by simp) (fun k hk => by simp [Value.ownBlock] at hk; omega)
    obtain ⟨B, d, rfl⟩ := own_slice hown
    have HIN := Lib.hid (RdV.of_own hown).1
    clear hown hgr
    have CC := Lib.hid (commit_any (c := d) HIN.out (by omega))
    go_wp2_with fail
    refine CC.out.mono ?_
    rintro e w2 ⟨rfl, hb⟩
    have HB2 := Lib.hid (HB1.out.trans (hb.mono HB1.out.size))
    have HIN2 := Lib.hid (HIN.out.below hb)
    have HR2 := Lib.hid (HR.out.below HB2.out)
    clear hb CC
    go_wp2_with fail
    go_loopw [5] (fun i wr => RelC w2 n i wr) (fun i _ => n - (intOf i).toNat)
    case atStart => exact ⟨0, Nat.zero_le _, rfl, Below.refl _ _⟩
    case round =>
      obtain ⟨k, hk, rfl, hb⟩ := hrel
      have HB := Lib.hid hb
      clear hb
      by_cases hlt : k < n
      · have hkl : k < zs.length := by rw [HL.out]; exact hlt
        obtain ⟨ad, ea, hca⟩ := vi_at (HR2.out.below HB.out) hkl
        obtain ⟨bd, eb, hcb⟩ := vi_at (HIN2.out.below HB.out) hkl
        subst ea eb
        generalize zs[k] = x at hca hcb
        have vk : (k : Int) < (n : Int) := by omega
        clear hkl
        go_wp2_with fail
        go_quiet (fail)
        go_wp2_with fail
        exact ⟨⟨k + 1, by omega, by go_num, HB.out.trans (below_drewN _ _ _)⟩, by simp [intOf]; omega⟩
      · obtain rfl : k = n := by omega
        have vk : ¬ (k : Int) < (k : Int) := by omega
        have HB3 := Lib.hid (HB2.out.trans (HB.out.mono HB2.out.size))
        have CR := Lib.hid (refcommit_any (c := c) (HR2.out.below HB.out) (by omega))
        clear hlt
        go_wp2_with fail
        refine CR.out.mono ?_
        rintro e w3 ⟨rfl, hb⟩
        have HB4 := Lib.hid (HB3.out.trans (hb.mono HB3.out.size))
        clear hb CR
        go_wp2_with fail
        refine (counts_any w3).mono ?_
        rintro e w4 ⟨rfl, hb⟩
        have HB5 := Lib.hid (HB4.out.trans (hb.mono HB4.out.size))
        clear hb
        go_wp2_with fail
        go_ret
        exact ⟨rfl, HB5.out⟩

set_option maxRecDepth 100000 in
theorem lifted (os : Os) (started : os.Started) (H : Type) (enc : TypeId × Value → H) :
    ReturnsInHanded {} Try.checked os 4 .any (Rows.ballotCommitsSpec.pre6 enc Try.prog Try.f4 Rows.ballotCommitsRow.domain false) (Rows.ballotCommitsSpec.post enc Try.prog Try.f4 false true false false) := by
  refine returnsInHanded_of_change (C := Try.checked) own started (by kernel_rfl) Try.func4
    (ChangeSpec.witness6 (enc := enc) (C := Try.checked) false ⟨#[], #[.slice none 0 0], []⟩ 8 (by kernel_rfl) (by kernel_rfl) (by kernel_rfl) (by kernel_rfl)) ?_
  intro W base args ds gs before hval0 hW hcnd _
  have hval : ∀ (j : Nat) t v, Try.f4.params[j]? = some t → args[j]? = some v → Value.okWide Try.prog W .any base t v := hval0
  have hW' := hW
  obtain ⟨p, q, hA0, hV, rfl, hfz, hnd⟩ := hW
  have hA : DataW.TrodAll enc Try.prog W 0 (fun _ => true) true Try.f4.params.toList args.toList ds p := hA0
  rw [Try.params4] at hA hval
  obtain ⟨v0, d0, rfl, rfl, h0⟩ := trodAll_one hA
  obtain ⟨rfl, rfl⟩ := trodVars_none hV
  obtain ⟨A, n, c, zs, rfl, _, _, hr⟩ := arg_ints (hval 0 _ v0 rfl rfl) h0
  refine (walk A n c zs W hr).mono fun e W' ⟨he, hb⟩ => ?_
  subst he
  exact ⟨_, rfl, post_true laidOut (by kernel_rfl) ty_bool (by kernel_rfl) rfl hW' hb rfl⟩

theorem over : Rows.ballotCommitsRow.holds Try.pinned (OpenSpec.ofChange Rows.ballotCommitsSpec) :=
  OpenClaim.holds_of_wide 4 Try.f4 rfl rfl rfl rfl rfl rfl rfl ⟨rfl, rfl, rfl, rfl, rfl⟩ rfl rfl rfl rfl rfl (by kernel_rfl) Try.func4 (by kernel_rfl)
    (of_decide_eq_true (by kernel_rfl)) (by unfold Func.isWrapper; first | (rw [if_pos (by decide +kernel)]; kernel_rfl) | (rw [if_neg (by decide +kernel)]; exact ⟨rfl, rfl⟩))
    (fun os started H enc _ => lifted os started H enc)

theorem proved : Rows.BallotCommitsSaid :=
  over
end Go.Proofs.Ytcnmfbbliaemhaa.ballotCommits
