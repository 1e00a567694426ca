/- ZmsgGets: what Get answers is what the document's own Get answers, for any bytes; what is handed in stays. For every input the call returns true, and the argument reads afterwards as it read before. No conditions. -/
import Derived.Test.YtobdkgmlkchggaaZmTells
import Derived.Test.YtobdkgmlkchggaaZmRefGet
namespace Go.Proofs.Ytobdkgmlkchggaa.zmsgGets
open Go.ChangeShapes Go.WideShapes Go.ChangeAt Go.RowKit Disk Log Sto Zm
open PhaseG (own_slice)

theorem getM_few (bs : List UInt8) : (getM bs).lines.length ≤ 256 := by
  unfold getM
  split
  · next h => exact h.2.2.2.2.2.2.2.2.2.2.2.1
  · exact Nat.zero_le _
/-- Where the slice of an argument lies. -/
theorem arg_lt {P : Program} {t e : TypeId} {w : World} {r : Reach} {b0 : Nat} {A : Option Addr} {n c : Nat} (ht : P.underlying t = some (.slice e)) (h : Value.okWide P w r b0 t (.slice A n c)) : ∀ a, A = some a → a.block < w.heap.size := by
  rintro a rfl
  simp only [Value.okWide, ht, Cell.okWide, Cell.ok] at h
  obtain ⟨-, -, -, -, row, cells, hs, -⟩ := h
  unfold World.shape? at hs
  split at hs
  · next hh => exact (Array.getElem?_eq_some_iff.1 hh).1
  · cases hs
set_option maxRecDepth 100000 in
set_option maxHeartbeats 4000000 in
theorem walk (A : Option Addr) (n c : Nat) (bs : List UInt8) (w : World) (h : Rd w A n bs) (hnc : n ≤ c) (hA : ∀ a, A = some a → a.block < w.heap.size) : Calls Try.prog 4 #[.slice A n c] w fun e w' => e = .returned (.bool true) ∧ Below w.heap.size w w' := by
  have H := Lib.hid h
  have HA := Lib.hid hA
  clear h hA
  obtain ⟨i0, hi, hz0, hz1, hz2⟩ := info_parts info_byte
  have HI := Lib.hid hi
  have HZ0 := Lib.hid hz0
  have HZ1 := Lib.hid hz1
  have HZ2 := Lib.hid hz2
  clear hi hz0 hz1 hz2
  by_cases hn : 6000 < n
  · go_enter Try.func4, Try.ntmps4
    go_wp2_with fail
    go_ret
    exact ⟨rfl, Below.refl _ _⟩
  have HBa := Lib.hid ((Below.refl w.heap.size w).alloc (Nat.le_refl _) (.cells #[] 5))
  have hown0 : (w.alloc (.cells #[] 5)).ownsRow w.heap.size 5 1 (.slice (some ⟨w.heap.size, 0, none⟩) 0 0) 0 ([].map U) := World.ownsRow_lit w #[] 0 (Nat.le_refl _) (Nat.zero_le _) rfl
  have HO0 := Lib.hid hown0
  clear hown0
  go_enter Try.func4, Try.ntmps4
  go_wp2_with (at_builtin; refine wpList_append_Rd rfl (.tmp 11) (.tmp 12) _ rfl ty_bytes HI.out HZ0.out HZ1.out HZ2.out rfl rfl HO0.out rfl (H.out.below HBa.out) (by omega) (by simp) ?_)
  intro v1 w2 hown1 hg1
  have hown2 : w2.ownsRow w.heap.size 5 1 v1 n (bs.map U) := by simpa using hown1
  have HB2 := Lib.hid (HBa.out.grown hg1 (by simp) (fun g hg => (HO0.out.lt g hg).1))
  obtain ⟨A1, c1, rfl, hnc1⟩ := own_slice hown2
  have HR2 := Lib.hid (Rd.of_own hown2).1
  clear hown1 hg1 hown2 HO0
  have K1 := get_any A1 n c1 bs w2 HR2.out (by omega)
  unfold GetPost at K1
  have HFW := Lib.hid (getM_few bs)
  obtain ⟨m, hm⟩ : ∃ m, m = getM bs := ⟨_, rfl⟩
  obtain ⟨er, her⟩ : ∃ er, er = getE bs := ⟨_, rfl⟩
  rw [← hm, ← her] at K1
  rw [← hm] at HFW
  have HM := Lib.hid hm
  have HER := Lib.hid her
  clear hm her
  go_wp2_with fail
  refine K1.mono ?_
  clear K1
  rintro e w3 ⟨A3, c3, rfl, hown3, hb3⟩
  have HB3 := Lib.hid (HB2.out.trans (hb3.mono HB2.out.size))
  have HL3 := Lib.hid hown3.lns
  have HR3 := Lib.hid (HR2.out.below hb3)
  clear hown3 hb3 HR2 HBa
  unfold mgC
  go_wp2_with fail
  have hb4 : Below w3.heap.size w3 (w3.alloc (.cells #[.int .u8 (m.kind : Int), .int .u64 (m.epoch : Int), .int .u64 (m.current : Int), .int .i64 m.at_, .int .i64 m.commit, .slice A3 m.lines.length c3] 25)) := (Below.refl _ _).alloc (Nat.le_refl _) _
  have hm4 : Bk (w3.alloc (.cells #[.int .u8 (m.kind : Int), .int .u64 (m.epoch : Int), .int .u64 (m.current : Int), .int .i64 m.at_, .int .i64 m.commit, .slice A3 m.lines.length c3] 25)) w3.heap.size 25 (mgC m A3 m.lines.length c3) := Bk.new _ _ _
  obtain ⟨W3, hW3⟩ : ∃ W3, W3 = w3.alloc (.cells #[.int .u8 (m.kind : Int), .int .u64 (m.epoch : Int), .int .u64 (m.current : Int), .int .i64 m.at_, .int .i64 m.commit, .slice A3 m.lines.length c3] 25) := ⟨_, rfl⟩
  rw [← hW3] at hb4 hm4
  have HB4 := Lib.hid (HB3.out.trans (hb4.mono HB3.out.size))
  have HL4 := Lib.hid (HL3.out.below hb4)
  have HR4 := Lib.hid (HR3.out.below hb4)
  have HM4 := Lib.hid hm4
  have HRA := Lib.hid (H.out.below HB4.out)
  have K1 := rget_any A n c bs W3 HRA.out (by omega) hnc (fun a ha => Nat.lt_of_lt_of_le (HA.out a ha) HB4.out.size)
  unfold GetPost at K1
  rw [← HM.out, ← HER.out] at K1
  have K2 := Lib.hid K1
  clear K1 hb4 hm4 HL3 HR3 HRA
  rw [hW3] at K2
  refine K2.out.mono ?_
  rw [← hW3]
  clear K2
  rintro e w5 ⟨A5, c5, rfl, hown5, hb5⟩
  have HB5 := Lib.hid (HB4.out.trans (hb5.mono HB4.out.size))
  have HL5 := Lib.hid hown5.lns
  have HL5a := Lib.hid (HL4.out.below hb5)
  have HR5 := Lib.hid (HR4.out.below hb5)
  have HM5 := Lib.hid (HM4.out.below hb5)
  clear hown5 hb5 HL4 HR4 HM4 hW3
  have hb6 : Below w5.heap.size w5 (w5.alloc (.cells #[.int .u8 (m.kind : Int), .int .u64 (m.epoch : Int), .int .u64 (m.current : Int), .int .i64 m.at_, .int .i64 m.commit, .slice A5 m.lines.length c5] 25)) := (Below.refl _ _).alloc (Nat.le_refl _) _
  have hm6 : Bk (w5.alloc (.cells #[.int .u8 (m.kind : Int), .int .u64 (m.epoch : Int), .int .u64 (m.current : Int), .int .i64 m.at_, .int .i64 m.commit, .slice A5 m.lines.length c5] 25)) w5.heap.size 25 (mgC m A5 m.lines.length c5) := Bk.new _ _ _
  obtain ⟨W5, hW5⟩ : ∃ W5, W5 = w5.alloc (.cells #[.int .u8 (m.kind : Int), .int .u64 (m.epoch : Int), .int .u64 (m.current : Int), .int .i64 m.at_, .int .i64 m.commit, .slice A5 m.lines.length c5] 25) := ⟨_, rfl⟩
  rw [← hW5] at hb6 hm6
  have HB6 := Lib.hid (HB5.out.trans (hb6.mono HB5.out.size))
  have HL6 := Lib.hid (HL5a.out.below hb6)
  have HL6b := Lib.hid (HL5.out.below hb6)
  have HR6 := Lib.hid (HR5.out.below hb6)
  have HM6 := Lib.hid (HM5.out.below hb6)
  have HM6b := Lib.hid hm6
  have CS := Lib.hid (same_any A3 A5 m.lines.length m.lines.length c3 c5 m m W5 HL6.out HL6b.out (by have := HFW.out; omega) (by have := HFW.out; omega))
  have a0 := HM6.out.cell 0
  have a1 := HM6.out.cell 1
  have a2 := HM6.out.cell 2
  have a3 := HM6.out.cell 3
  have a4 := HM6.out.cell 4
  have a5 := HM6.out.cell 5
  unfold mgC at a0 a1 a2 a3 a4 a5
  simp at a0 a1 a2 a3 a4 a5
  have b0 := HM6b.out.cell 0
  have b1 := HM6b.out.cell 1
  have b2 := HM6b.out.cell 2
  have b3 := HM6b.out.cell 3
  have b4 := HM6b.out.cell 4
  have b5 := HM6b.out.cell 5
  unfold mgC at b0 b1 b2 b3 b4 b5
  simp at b0 b1 b2 b3 b4 b5
  unfold mgC at CS
  clear hb6 hm6 HL5 HL5a HR5 HM5
  unfold mgC
  rw [hW5] at a0 a1 a2 a3 a4 a5 b0 b1 b2 b3 b4 b5 CS
  go_wp2_with fail
  refine CS.out.mono ?_
  rw [← hW5]
  rintro e w6 ⟨rfl, hb7⟩
  simp only [decide_true]
  have HB7 := Lib.hid (HB6.out.trans (hb7.mono HB6.out.size))
  have CV1 := conv_string (HR6.out.below hb7) c1
  have CV2 := conv_string (H.out.below HB7.out) c
  clear hb7 CS a0 a1 a2 a3 a4 a5 b0 b1 b2 b3 b4 b5 hW5
  go_wp2_with fail
  refine (tells_any w6).mono ?_
  rintro e w7 ⟨rfl, hb8⟩
  have HB8 := Lib.hid (HB7.out.trans (hb8.mono HB7.out.size))
  clear hb8 CV1 CV2
  go_wp2_with fail
  go_ret
  exact ⟨rfl, HB8.out⟩

set_option maxRecDepth 100000 in
theorem lifted (os : Os) (started : os.Started) (H : Type) (enc : TypeId × Value → H) :
    ReturnsInHanded {} Try.checked os 4 .any (Rows.zmsgGetsSpec.pre6 enc Try.prog Try.f4 Rows.zmsgGetsRow.domain false) (Rows.zmsgGetsSpec.post enc Try.prog Try.f4 false true false false) := by
  refine returnsInHanded_of_change (C := Try.checked) own started (by kernel_rfl) Try.func4
    (ChangeSpec.witness6 (enc := enc) (C := Try.checked) false ⟨#[], #[.slice none 0 0], []⟩ 8 (by kernel_rfl) (by kernel_rfl) (by kernel_rfl) (by kernel_rfl)) ?_
  intro W base args ds gs before hval0 hW hcnd _
  have hval : ∀ (j : Nat) t v, Try.f4.params[j]? = some t → args[j]? = some v → Value.okWide Try.prog W .any base t v := hval0
  have hW' := hW
  obtain ⟨p, q, hA0, hV, rfl, hfz, hnd⟩ := hW
  have hA : DataW.TrodAll enc Try.prog W 0 (fun _ => true) true Try.f4.params.toList args.toList ds p := hA0
  rw [Try.params4] at hA hval
  obtain ⟨v0, d0, rfl, rfl, h0⟩ := trodAll_one hA
  obtain ⟨rfl, rfl⟩ := trodVars_none hV
  have hv0 := hval 0 _ v0 rfl rfl
  obtain ⟨A, n, c, bs, rfl, hnc, _, hr⟩ := open_bytes ty_bytes ty_byte cells_byte hv0 h0
  refine (walk A n c bs W hr hnc (arg_lt ty_bytes hv0)).mono fun e W' ⟨he, hb⟩ => ?_
  subst he
  exact ⟨_, rfl, post_true laidOut (by kernel_rfl) ty_bool (by kernel_rfl) rfl hW' hb rfl⟩

theorem over : Rows.zmsgGetsRow.holds Try.pinned (OpenSpec.ofChange Rows.zmsgGetsSpec) :=
  OpenClaim.holds_of_wide 4 Try.f4 rfl rfl rfl rfl rfl rfl rfl ⟨rfl, rfl, rfl, rfl, rfl⟩ rfl rfl rfl rfl rfl (by kernel_rfl) Try.func4 (by kernel_rfl)
    (of_decide_eq_true (by kernel_rfl)) (by unfold Func.isWrapper; first | (rw [if_pos (by decide +kernel)]; kernel_rfl) | (rw [if_neg (by decide +kernel)]; exact ⟨rfl, rfl⟩))
    (fun os started H enc _ => lifted os started H enc)

theorem proved : Rows.ZmsgGetsSaid :=
  over
end Go.Proofs.Ytobdkgmlkchggaa.zmsgGets
