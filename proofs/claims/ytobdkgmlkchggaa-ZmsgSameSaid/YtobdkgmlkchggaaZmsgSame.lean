/- ZmsgSame: bytes that are a message are those that it is put as, and the message does not hang on the bytes that it was got from; bytes that are none come back as no message. For every input the call returns true, and the argument reads afterwards as it read before. No conditions. -/
import Derived.Test.YtobdkgmlkchggaaZmAll
namespace Go.Proofs.Ytobdkgmlkchggaa.zmsgSame
open Go.ChangeShapes Go.WideShapes Go.ChangeAt Go.RowKit Disk Log Sto Zm
open PhaseG (own_slice)

theorem U_succ (b : UInt8) : Value.int .u8 (((b.toNat : Int) + 1) % 256) = U (b + 1) := by
  unfold U
  congr 1

theorem own_form {w : World} {base : Nat} {e : TypeId} {v : Value} {n : Nat} {xs : List Value} (h : w.ownsRow base e 1 v n xs) (hn : 0 < n) : ∃ g cap, v = .slice (some ⟨g, 0, none⟩) n cap ∧ base ≤ g ∧ g < w.heap.size := by
  rcases h.2 with ⟨_, h0⟩ | ⟨g, cap, cur, h0, hb, hg, _⟩
  · omega
  · exact ⟨g, cap, h0, hb, (Array.getElem?_eq_some_iff.1 hg).1⟩
/-- Where the writing over stands: the row is still a row of the call's own, and all that is newer stays. -/
def RelS (w w2 W3 : World) (A : Option Addr) (n c : Nat) (i : Value) (wr : World) : Prop :=
  ∃ (k : Nat) (bs : List UInt8), k ≤ n ∧ i = .int .i64 (k : Int) ∧ wr.ownsRow w.heap.size 5 1 (.slice A n c) n (bs.map U) ∧ bs.length = n ∧ Out (fun k => w.heap.size ≤ k ∧ k < w2.heap.size) W3 wr
set_option maxRecDepth 100000 in
set_option maxHeartbeats 4000000 in
theorem walk (A : Option Addr) (n c : Nat) (bs : List UInt8) (w : World) (h : Rd w A n bs) : Calls Try.prog 7 #[.slice A n c] w fun e w' => e = .returned (.bool true) ∧ Below w.heap.size w w' := by
  have H := Lib.hid h
  clear h
  obtain ⟨i0, hi, hz0, hz1, hz2⟩ := info_parts info_byte
  have HI := Lib.hid hi
  have HZ0 := Lib.hid hz0
  have HZ1 := Lib.hid hz1
  have HZ2 := Lib.hid hz2
  clear hi hz0 hz1 hz2
  by_cases hn : 6000 < n
  · go_enter Try.func7, Try.ntmps7
    go_wp2_with fail
    go_ret
    exact ⟨rfl, Below.refl _ _⟩
  have HBa := Lib.hid ((Below.refl w.heap.size w).alloc (Nat.le_refl _) (.cells #[] 5))
  have hown0 : (w.alloc (.cells #[] 5)).ownsRow w.heap.size 5 1 (.slice (some ⟨w.heap.size, 0, none⟩) 0 0) 0 ([].map U) := World.ownsRow_lit w #[] 0 (Nat.le_refl _) (Nat.zero_le _) rfl
  have HO0 := Lib.hid hown0
  clear hown0
  go_enter Try.func7, Try.ntmps7
  go_wp2_with (at_builtin; refine wpList_append_Rd rfl (.tmp 12) (.tmp 13) _ rfl ty_bytes HI.out HZ0.out HZ1.out HZ2.out rfl rfl HO0.out rfl (H.out.below HBa.out) (by omega) (by simp) ?_)
  intro v1 w2 hown1 hg1
  have hown2 : w2.ownsRow w.heap.size 5 1 v1 n (bs.map U) := by simpa using hown1
  have HB2 := Lib.hid (HBa.out.grown hg1 (by simp) (fun g hg => (HO0.out.lt g hg).1))
  obtain ⟨A1, c1, rfl, hnc1⟩ := own_slice hown2
  have HO2 := Lib.hid hown2
  clear hown1 hg1 hown2 HO0
  have K1 := get_any A1 n c1 bs w2 (Rd.of_own HO2.out).1 (by omega)
  unfold GetPost at K1
  by_cases hg : getOk bs
  · have e1 : getM bs = said bs := by unfold getM; rw [if_pos hg]
    have e2 : getE bs = 0 := by unfold getE; rw [if_pos hg]
    have HOK : Hid ((said bs).Ok) := said_good bs (by rw [H.out.len]; omega)
    obtain ⟨hmay, henc⟩ := enc_get hg
    rw [e1, e2] at K1
    obtain ⟨m, hm⟩ : ∃ m, m = said bs := ⟨_, rfl⟩
    rw [← hm] at K1 HOK hmay henc
    have HMAY := Lib.hid hmay
    have HENC := Lib.hid henc
    clear e1 e2 hg hm hmay henc
    go_wp2_with fail
    refine K1.mono ?_
    clear K1
    rintro e w3 ⟨A3, c3, rfl, hown3, hb3⟩
    have HB3 := Lib.hid (HB2.out.trans (hb3.mono HB2.out.size))
    have HO3 := Lib.hid (HO2.out.kept (row := none) ⟨hb3.os, hb3.tape, hb3.output, hb3.size, fun k hk _ => hb3.block k hk⟩ (by
      cases A1 with
      | none => exact Or.inl rfl
      | some a => exact Or.inr (by simp [Value.ownBlock])))
    have HL3 := Lib.hid hown3.lns
    have HS23 := Lib.hid hb3.size
    clear hown3 hb3 HBa
    unfold mgC
    have hb4 : Below w3.heap.size w3 (w3.alloc (.cells #[.int .u8 (m.kind : Int), .int .u64 (m.epoch : Int), .int .u64 (m.current : Int), .int .i64 m.at_, .int .i64 m.commit, .slice A3 m.lines.length c3] 25)) := (Below.refl _ _).alloc (Nat.le_refl _) _
    have hm4 : Bk (w3.alloc (.cells #[.int .u8 (m.kind : Int), .int .u64 (m.epoch : Int), .int .u64 (m.current : Int), .int .i64 m.at_, .int .i64 m.commit, .slice A3 m.lines.length c3] 25)) w3.heap.size 25 (mgC m A3 m.lines.length c3) := Bk.new _ _ _
    obtain ⟨W3, hW3⟩ : ∃ W3, W3 = w3.alloc (.cells #[.int .u8 (m.kind : Int), .int .u64 (m.epoch : Int), .int .u64 (m.current : Int), .int .i64 m.at_, .int .i64 m.commit, .slice A3 m.lines.length c3] 25) := ⟨_, rfl⟩
    rw [← hW3] at hb4 hm4
    have HB4 := Lib.hid (HB3.out.trans (hb4.mono HB3.out.size))
    have HL4 := Lib.hid (HL3.out.below hb4)
    have HO4 : Hid (W3.ownsRow w.heap.size 5 1 (.slice A1 n c1) n (bs.map U)) := by rw [hW3]; exact HO3.out.alloc _
    have HM4 := Lib.hid hm4
    clear hb4 hm4 HL3 HO3
    go_wp2_with fail
    rw [← hW3]
    clear hW3
    go_loopw [6] (fun i wr => RelS w w2 W3 A1 n c1 i wr) (fun i _ => n - (intOf i).toNat)
    case atStart => exact ⟨0, bs, by omega, rfl, HO4.out, H.out.len, Out.refl _ _⟩
    case round =>
      obtain ⟨k, bk, hk, rfl, hown, hbl, hout⟩ := hrel
      have HOk := Lib.hid hown
      have HLk := Lib.hid hbl
      have HU := Lib.hid hout
      clear hown hbl hout
      by_cases hlt : k < n
      · obtain ⟨g, cap, hv, hbg, hgl⟩ := own_form HOk.out (by omega)
        injection hv with hA1 _ hcap
        subst hA1
        subst hcap
        have hkl : k < bk.length := by rw [HLk.out]; exact hlt
        have hc1 : wr.cell? ⟨g, k, none⟩ = some (U bk[k]) := by
          have := HOk.out.cellAt k (by omega)
          rw [this, List.getElem?_map, List.getElem?_eq_getElem hkl]
          rfl
        have hf1 : wr.frozen? ⟨g, k, none⟩ = false := HOk.out.frozenAt k
        have hbv := (bk[k]).toNat_lt
        have hg2 : Hid (g < w2.heap.size) := by
          obtain ⟨g', cap', hv', _, hgl'⟩ := own_form HO2.out (by omega)
          injection hv' with hA1 _ _
          injection hA1 with hA1
          injection hA1 with hA1
          show g < w2.heap.size
          omega
        unfold U at hc1
        go_wp2_with fail
        have hst := HOk.out.stored k (U (bk[k] + 1))
        have hst2 : (wr.setCell ⟨g, k, none⟩ (.int .u8 (((bk[k].toNat : Int) + 1) % 256))).ownsRow w.heap.size 5 1 (.slice (some ⟨g, 0, none⟩) n c1) n ((bk.set k (bk[k] + 1)).map U) := by
          rw [U_succ, List.map_set]
          exact hst.1
        exact ⟨⟨k + 1, bk.set k (bk[k] + 1), by omega, rfl, hst2, by rw [List.length_set]; exact HLk.out, HU.out.trans (Out.setCell (X := fun k => w.heap.size ≤ k ∧ k < w2.heap.size) wr (p := ⟨g, k, none⟩) ⟨hbg, hg2.out⟩ _) fun _ h => .inl h⟩, by simp [intOf]; omega⟩
      · have hs := HS23.out
        have HM5 : Hid (Bk wr w3.heap.size 25 (mgC m A3 m.lines.length c3)) := HM4.out.kept (HU.out.block _ HM4.out.lt (fun q => by have := HS23.out; omega))
        have HL5 := Lib.hid (HL4.out.out HU.out (fun k hk q => by omega))
        have HB5 : Hid (Below w.heap.size w wr) := HU.out.below HB4.out (fun k hk => hk.1) HB4.out.size
        have CP := Lib.hid (put_yes A3 m.lines.length c3 m wr HOK.out HL5.out HMAY.out)
        clear hs
        have a0 := HM5.out.cell 0
        have a1 := HM5.out.cell 1
        have a2 := HM5.out.cell 2
        have a3 := HM5.out.cell 3
        have a4 := HM5.out.cell 4
        have a5 := HM5.out.cell 5
        unfold mgC at a0 a1 a2 a3 a4 a5
        simp at a0 a1 a2 a3 a4 a5
        unfold mgC at CP
        go_wp2_with fail
        refine CP.out.mono ?_
        rintro e w6 ⟨A6, n6, c6, rfl, hn6, hc6, hown6, hb6⟩
        have HB6 := Lib.hid (HB5.out.trans (hb6.mono HB5.out.size))
        rw [HENC.out] at hown6
        have CV1 := conv_string (Rd.of_own hown6).1 c6
        have CV2 := conv_string (H.out.below HB6.out) c
        clear hn6 hc6 hown6 hb6 CP a0 a1 a2 a3 a4 a5
        go_wp2_with fail
        refine (tells_any _).mono ?_
        rintro e w15 ⟨rfl, hb⟩
        have HB15 := Lib.hid (HB6.out.trans (hb.mono HB6.out.size))
        clear hb
        go_wp2_with fail
        go_ret
        exact ⟨rfl, HB15.out⟩
  · have e1 : getM bs = Mg.zero := by unfold getM; rw [if_neg hg]
    have e2 : getE bs = 2 := by unfold getE; rw [if_neg hg]
    rw [e1, e2] at K1
    clear e1 e2 hg
    go_wp2_with fail
    refine K1.mono ?_
    clear K1
    rintro e w3 ⟨A3, c3, rfl, hown3, hb3⟩
    have HB3 := Lib.hid (HB2.out.trans (hb3.mono HB2.out.size))
    clear hown3 hb3 HBa HO2
    unfold mgC Mg.zero
    obtain ⟨W3, hW3⟩ : ∃ W3, W3 = w3.alloc (.cells #[.int .u8 0, .int .u64 0, .int .u64 0, .int .i64 0, .int .i64 0, .slice A3 0 c3] 25) := ⟨_, rfl⟩
    have hb4 : Below w3.heap.size w3 W3 := by rw [hW3]; exact (Below.refl _ _).alloc (Nat.le_refl _) _
    have hm4 : Bk W3 w3.heap.size 25 #[.int .u8 0, .int .u64 0, .int .u64 0, .int .i64 0, .int .i64 0, .slice A3 0 c3] := by rw [hW3]; exact Bk.new _ _ _
    have HB4 := Lib.hid (HB3.out.trans (hb4.mono HB3.out.size))
    have HM4 := Lib.hid hm4
    have CS := Lib.hid (same_any A3 none 0 0 c3 0 Mg.zero Mg.zero W3 (LnS.nil_ (fun _ => True) W3 A3) (LnS.nil_ (fun _ => True) W3 none) (by omega) (by omega))
    clear hm4
    have a0 := HM4.out.cell 0
    have a1 := HM4.out.cell 1
    have a2 := HM4.out.cell 2
    have a3 := HM4.out.cell 3
    have a4 := HM4.out.cell 4
    have a5 := HM4.out.cell 5
    simp at a0 a1 a2 a3 a4 a5
    unfold mgC Mg.zero at CS
    rw [hW3] at a0 a1 a2 a3 a4 a5 CS
    go_wp2_with fail
    refine CS.out.mono ?_
    rw [← hW3]
    rintro e w6 ⟨rfl, hb7⟩
    simp only [decide_true]
    have HB7 := Lib.hid (HB4.out.trans (hb7.mono HB4.out.size))
    clear hb7 CS a0 a1 a2 a3 a4 a5 hW3 hb4 HM4
    go_wp2_with fail
    refine (tells_any _).mono ?_
    rintro e w15 ⟨rfl, hb⟩
    have HB15 := Lib.hid (HB7.out.trans (hb.mono HB7.out.size))
    clear hb
    go_wp2_with fail
    go_ret
    exact ⟨rfl, HB15.out⟩

set_option maxRecDepth 100000 in
theorem lifted (os : Os) (started : os.Started) (H : Type) (enc : TypeId × Value → H) :
    ReturnsInHanded {} Try.checked os 7 .any (Rows.zmsgSameSpec.pre6 enc Try.prog Try.f7 Rows.zmsgSameRow.domain false) (Rows.zmsgSameSpec.post enc Try.prog Try.f7 false true false false) := by
  refine returnsInHanded_of_change (C := Try.checked) own started (by kernel_rfl) Try.func7
    (ChangeSpec.witness6 (enc := enc) (C := Try.checked) false ⟨#[], #[.slice none 0 0], []⟩ 8 (by kernel_rfl) (by kernel_rfl) (by kernel_rfl) (by kernel_rfl)) ?_
  intro W base args ds gs before hval0 hW hcnd _
  have hval : ∀ (j : Nat) t v, Try.f7.params[j]? = some t → args[j]? = some v → Value.okWide Try.prog W .any base t v := hval0
  have hW' := hW
  obtain ⟨p, q, hA0, hV, rfl, hfz, hnd⟩ := hW
  have hA : DataW.TrodAll enc Try.prog W 0 (fun _ => true) true Try.f7.params.toList args.toList ds p := hA0
  rw [Try.params7] at hA hval
  obtain ⟨v0, d0, rfl, rfl, h0⟩ := trodAll_one hA
  obtain ⟨rfl, rfl⟩ := trodVars_none hV
  have hv0 := hval 0 _ v0 rfl rfl
  obtain ⟨A, n, c, bs, rfl, hnc, _, hr⟩ := open_bytes ty_bytes ty_byte cells_byte hv0 h0
  refine (walk A n c bs W hr).mono fun e W' ⟨he, hb⟩ => ?_
  subst he
  exact ⟨_, rfl, post_true laidOut (by kernel_rfl) ty_bool (by kernel_rfl) rfl hW' hb rfl⟩

theorem over : Rows.zmsgSameRow.holds Try.pinned (OpenSpec.ofChange Rows.zmsgSameSpec) :=
  OpenClaim.holds_of_wide 7 Try.f7 rfl rfl rfl rfl rfl rfl rfl ⟨rfl, rfl, rfl, rfl, rfl⟩ rfl rfl rfl rfl rfl (by kernel_rfl) Try.func7 (by kernel_rfl)
    (of_decide_eq_true (by kernel_rfl)) (by unfold Func.isWrapper; first | (rw [if_pos (by decide +kernel)]; kernel_rfl) | (rw [if_neg (by decide +kernel)]; exact ⟨rfl, rfl⟩))
    (fun os started H enc _ => lifted os started H enc)

theorem proved : Rows.ZmsgSameSaid :=
  over
end Go.Proofs.Ytobdkgmlkchggaa.zmsgSame
