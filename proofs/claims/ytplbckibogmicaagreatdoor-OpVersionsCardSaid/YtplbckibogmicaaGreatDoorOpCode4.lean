/- The node of an operation's path, if it has the version that is asked for. -/
import Derived.Test.YtplbckibogmicaaGreatDoorOpCode3
import Derived.Deep.QuietTactic
import Derived.BigQuiet
import Derived.StillTailTactics
namespace Go.Proofs.YtplbckibogmicaaGreatDoor.Opn
open Go.RowKit Path Tree

theorem below_drewN {B : Nat} {w w' : World} (h : Below B w w') (n : Nat) : Below B w (w'.drewN n) := ⟨h.os, h.tape, h.output, h.size, h.block⟩
theorem throw_nq (e : Int) (w : World) : Calls Tryz.prog 77 #[.bool false, .int .i64 e] w fun r w' => r = .returned (.tuple #[]) ∧ w' = w := (throw_no e w).mono fun _ _ ⟨h, h2⟩ => ⟨h, h2.symm⟩
def VerPost (q bad : Bool) (n : ZN) (w : World) (e : Ending) (w' : World) : Prop :=
  (q = false ∧ e = thrown 31 ∧ Below w.heap.size w w') ∨ (q = true ∧ bad = true ∧ e = thrown 35 ∧ Below w.heap.size w w') ∨ (q = true ∧ bad = false ∧ ∃ d', e = .returned (znV n d') ∧ Below w.heap.size w w' ∧ Copied w.heap.size w' d' n.data)
set_option maxRecDepth 100000 in
set_option maxHeartbeats 1000000 in
theorem nodeOfVersion_any (i : Nat) (t : TR) (L : List (Addr × TR)) (X : Nat → Prop) (g : Nat) (tp : Addr) (at_ : Int) (o : O1) (od ops : Value) (who : Who) (fx : Value) (r : R1) (rd rk rp : Value) (w : World)
    (h : Bk w g 104 (wkC tp at_ o od ops who fx r rd rk rp).toArray) (hT : Trees w L X) (hi : L[i]? = some (tp, t)) (hp : o.path.length ≤ 1000000) (hv0 : 0 ≤ (nodeAt t o.path).ver) (hv1 : (nodeAt t o.path).ver < 4294967296) :
    Calls Tryz.prog 116 #[.pointer (some ⟨g, 0, none⟩)] w (VerPost (has t.row o.path) (badVer o (nodeAt t o.path)) (nodeAt t o.path) w) := by
  have hlt := h.lt
  have hbA : Below w.heap.size w (w.alloc (.cells (znC ZN.zero (.slice none 0 0)).toArray 39)) := (Below.refl _ _).alloc (Nat.le_refl _) _
  have K1 := h.below hbA
  have K2 : Bk (w.alloc (.cells (znC ZN.zero (.slice none 0 0)).toArray 39)) w.heap.size 39 (znC ZN.zero (.slice none 0 0)).toArray := Bk.new _ _ _
  have HBA := Lib.hid hbA
  have cn := node_any i t L X g tp at_ o od ops who fx r rd rk rp _ K1 (hT.below hbA) hi hp
  have HSZ : Hid ((w.alloc (.cells (znC ZN.zero (.slice none 0 0)).toArray 39)).heap.size = w.heap.size + 1) := by
    show _ = _
    simp
  have HV0 := Lib.hid hv0
  have HV1 := Lib.hid hv1
  have HBV : Hid (badVer o (nodeAt t o.path) = decide (0 ≤ o.ver ∧ o.ver ≠ (nodeAt t o.path).ver)) := rfl
  clear h hbA hT hi hp hv0 hv1
  obtain ⟨n, hn⟩ : ∃ n, n = nodeAt t o.path := ⟨_, rfl⟩
  rw [← hn] at cn HV0 HV1 HBV ⊢
  clear hn
  obtain ⟨q, hq⟩ : ∃ q, q = has t.row o.path := ⟨_, rfl⟩
  rw [← hq] at cn ⊢
  clear hq
  obtain ⟨bad, hbad⟩ : ∃ bad, bad = badVer o n := ⟨_, rfl⟩
  rw [← hbad] at HBV ⊢
  clear hbad
  have HK1 := Lib.hid K1
  have HK2 := Lib.hid K2
  clear K1 K2
  dsimp only [znC, ZN.zero] at HK1 HK2 HBA HSZ cn
  go_enter Tryz.func116, Tryz.ntmps116
  go_wp2_with fail
  refine cn.mono ?_
  rintro e w1 (⟨rfl, d1, rfl, hb1, hc1⟩ | ⟨rfl, he, hb1⟩)
  · obtain ⟨A, k, c, rfl, hcx⟩ := id hc1
    clear hcx cn
    have hb1' := HBA.out.trans (hb1.mono HBA.out.size)
    have hw1 : w.heap.size + 1 ≤ w1.heap.size := by have := hb1.size; have := HSZ.out; omega
    have hbA1 : Below w1.heap.size w1 (w1.alloc (.cells #[.slice A k c, .int .u32 n.ver, .int .u32 n.kin, .int .u32 n.next, .int .i64 n.site, .int .u32 n.own, .int .u64 n.made, .int .u64 n.chg, .int .u64 n.tch] 39)) := (Below.refl _ _).alloc (Nat.le_refl _) _
    have KG := (HK1.out.below hb1).below hbA1
    have KR := (HK2.out.below hb1).below hbA1
    have KN : Bk (w1.alloc (.cells #[.slice A k c, .int .u32 n.ver, .int .u32 n.kin, .int .u32 n.next, .int .i64 n.site, .int .u32 n.own, .int .u64 n.made, .int .u64 n.chg, .int .u64 n.tch] 39)) w1.heap.size 39 #[.slice A k c, .int .u32 n.ver, .int .u32 n.kin, .int .u32 n.next, .int .i64 n.site, .int .u32 n.own, .int .u64 n.made, .int .u64 n.chg, .int .u64 n.tch] := Bk.new _ _ _
    have HB2 := Lib.hid (hb1'.trans (hbA1.mono hb1'.size))
    have HBB := Lib.hid (hb1.trans (hbA1.mono hb1.size))
    have HC1 := Lib.hid (hc1.below hbA1)
    have HW1 := Lib.hid hw1
    clear hb1 hc1 hb1' hbA1 hw1
    dsimp only [znV, znC]
    go_wp2_with fail
    obtain ⟨V, hV⟩ : ∃ V, V = w1.alloc (.cells #[.slice A k c, .int .u32 n.ver, .int .u32 n.kin, .int .u32 n.next, .int .i64 n.site, .int .u32 n.own, .int .u64 n.made, .int .u64 n.chg, .int .u64 n.tch] 39) := ⟨_, rfl⟩
    rw [← hV] at KG KR KN HB2 HBB HC1 ⊢
    obtain ⟨z, hz⟩ : ∃ z, z = w1.heap.size := ⟨_, rfl⟩
    rw [← hz] at KN HW1 ⊢
    have g5 : V.cell? ⟨g, 5, none⟩ = some (.int .i64 o.ver) := KG.cell 5
    have z1 : V.cell? ⟨z, 1, none⟩ = some (.int .u32 n.ver) := KN.cell 1
    have hw : IntKind.i64.wrap n.ver = n.ver := by
      have h0 := HV0.out
      have h1 := HV1.out
      rw [IntKind.wrap_i64]
      omega
    have HKR := Lib.hid KR
    have HKN := Lib.hid KN
    have hbz : ¬ w.heap.size = z := by have := HW1.out; omega
    clear hV hz KG KR KN
    by_cases hg : 0 ≤ o.ver
    · have hg' : decide (0 ≤ o.ver) = true := decide_eq_true hg
      by_cases he : o.ver = n.ver
      · have e1 : (o.ver != n.ver) = false := by rw [he]; simp
        have hbad : bad = false := by rw [HBV.out]; simp [he]
        have HE := Lib.hid he
        have HBAD := Lib.hid hbad
        clear he hbad
        go_quiet ((go_at_call 77; exact Calls.quiet_of_same (throw_nq _ _)))
        have KN2 : Bk (V.drewN nq) z 39 #[.slice A k c, .int .u32 n.ver, .int .u32 n.kin, .int .u32 n.next, .int .i64 n.site, .int .u32 n.own, .int .u64 n.made, .int .u64 n.chg, .int .u64 n.tch] := HKN.out
        have KR2 : Bk (V.drewN nq) w.heap.size 39 #[.slice none 0 0, .int .u32 0, .int .u32 0, .int .u32 0, .int .i64 0, .int .u32 0, .int .u64 0, .int .u64 0, .int .u64 0] := HKR.out
        have hbV : Below (w.alloc (.cells #[.slice none 0 0, .int .u32 0, .int .u32 0, .int .u32 0, .int .i64 0, .int .u32 0, .int .u64 0, .int .u64 0, .int .u64 0] 39)).heap.size (w.alloc (.cells #[.slice none 0 0, .int .u32 0, .int .u32 0, .int .u32 0, .int .i64 0, .int .u32 0, .int .u64 0, .int .u64 0, .int .u64 0] 39)) (V.drewN nq) := below_drewN HBB.out nq
        have hC : Copied (w.alloc (.cells #[.slice none 0 0, .int .u32 0, .int .u32 0, .int .u32 0, .int .i64 0, .int .u32 0, .int .u64 0, .int .u64 0, .int .u64 0] 39)).heap.size (V.drewN nq) (.slice A k c) n.data := copied_keep HC1.out (fun _ _ _ => rfl)
        have HNT := Lib.hid (node_tail KN2 (by have := HW1.out; have := HSZ.out; omega) hbV hC HBA.out HK2.out HSZ.out)
        have zc := KN2.cell
        have bc := KR2.cell
        have bf := KR2.frozen
        have hzb : ¬ z = w.heap.size := fun e => hbz e.symm
        clear hbV hC KN2 KR2 g5 z1
        go_wp2_with fail
        refine bodyPost_ret (results_cell_row rfl _ _ w.heap.size 39 _ (0, 0) _ rfl HNT.out.1 Tryz.underlying39 rfl size_znode) rfl ?_
        exact .inr (.inr ⟨rfl, HBAD.out, _, rfl, HNT.out.2.1, HNT.out.2.2⟩)
      · have e1 : (o.ver != n.ver) = true := by simpa using he
        have hbad : bad = true := by rw [HBV.out]; exact decide_eq_true ⟨hg, he⟩
        have HBAD := Lib.hid hbad
        clear hbad
        go_still_tail 17, (by kernel_rfl)
        change wpList _ _ _ _ _ V.drew
        go_wp2_with (go_at_call 77; refine (throw_yes _ _).mono ?_; rintro e w1 ⟨rfl, rfl⟩)
        exact ⟨rfl, .inr (.inl ⟨rfl, HBAD.out, rfl, HB2.out.drew⟩)⟩
    · have hg' : decide (0 ≤ o.ver) = false := decide_eq_false hg
      have hbad : bad = false := by rw [HBV.out]; exact decide_eq_false (fun h => hg h.1)
      have HBAD := Lib.hid hbad
      clear hbad
      go_quiet ((go_at_call 77; exact Calls.quiet_of_same (throw_nq _ _)))
      have KN2 : Bk (V.drewN nq) z 39 #[.slice A k c, .int .u32 n.ver, .int .u32 n.kin, .int .u32 n.next, .int .i64 n.site, .int .u32 n.own, .int .u64 n.made, .int .u64 n.chg, .int .u64 n.tch] := HKN.out
      have KR2 : Bk (V.drewN nq) w.heap.size 39 #[.slice none 0 0, .int .u32 0, .int .u32 0, .int .u32 0, .int .i64 0, .int .u32 0, .int .u64 0, .int .u64 0, .int .u64 0] := HKR.out
      have hbV : Below (w.alloc (.cells #[.slice none 0 0, .int .u32 0, .int .u32 0, .int .u32 0, .int .i64 0, .int .u32 0, .int .u64 0, .int .u64 0, .int .u64 0] 39)).heap.size (w.alloc (.cells #[.slice none 0 0, .int .u32 0, .int .u32 0, .int .u32 0, .int .i64 0, .int .u32 0, .int .u64 0, .int .u64 0, .int .u64 0] 39)) (V.drewN nq) := below_drewN HBB.out nq
      have hC : Copied (w.alloc (.cells #[.slice none 0 0, .int .u32 0, .int .u32 0, .int .u32 0, .int .i64 0, .int .u32 0, .int .u64 0, .int .u64 0, .int .u64 0] 39)).heap.size (V.drewN nq) (.slice A k c) n.data := copied_keep HC1.out (fun _ _ _ => rfl)
      have HNT := Lib.hid (node_tail KN2 (by have := HW1.out; have := HSZ.out; omega) hbV hC HBA.out HK2.out HSZ.out)
      have zc := KN2.cell
      have bc := KR2.cell
      have bf := KR2.frozen
      have hzb : ¬ z = w.heap.size := fun e => hbz e.symm
      clear hbV hC KN2 KR2 g5 z1
      go_wp2_with fail
      refine bodyPost_ret (results_cell_row rfl _ _ w.heap.size 39 _ (0, 0) _ rfl HNT.out.1 Tryz.underlying39 rfl size_znode) rfl ?_
      exact .inr (.inr ⟨rfl, HBAD.out, _, rfl, HNT.out.2.1, HNT.out.2.2⟩)
  · obtain rfl : e = .panicked [{ v := .iface 25 (.int .i64 31), recovered := false }] := he
    go_wp2_with fail
    exact ⟨rfl, .inl ⟨rfl, rfl, HBA.out.trans (hb1.mono HBA.out.size)⟩⟩
end Go.Proofs.YtplbckibogmicaaGreatDoor.Opn
