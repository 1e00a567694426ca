/- ZmsgPuts: what Put answers is what the document's own Put answers, for any message; what is handed in stays. For every input the call returns true, and the argument reads afterwards as it read before. No conditions. -/
import Derived.Test.YtobdkgmlkchggaaZmAll
import Derived.Test.YtobdkgmlkchggaaZmArgs
import Derived.Test.YtobdkgmlkchggaaLineVals
import Derived.Lib.AppendZeros
namespace Go.Proofs.Ytobdkgmlkchggaa.zmsgPuts
open Go.ChangeShapes Go.WideShapes Go.ChangeAt Go.RowKit Disk Log Sto Zm
open PhaseG (own_slice out_grownBy)

set_option maxRecDepth 100000 in
set_option maxHeartbeats 4000000 in
theorem walk (m : Mg) (A : Option Addr) (c : Nat) (w : World) (h : LnS (fun b => b < w.heap.size) w A m.lines.length m.lines) (hok : m.Ok) : Calls Try.prog 3 #[.agg (mgC m A m.lines.length c)] w fun e w' => e = .returned (.bool true) ∧ Below w.heap.size w w' := by
  have HL := Lib.hid h
  have HOK := Lib.hid hok
  have hb0 : Below w.heap.size w (w.alloc (.cells (mgC m A m.lines.length c) 25)) := (Below.refl _ _).alloc (Nat.le_refl _) _
  have hm0 : Bk (w.alloc (.cells (mgC m A m.lines.length c) 25)) w.heap.size 25 (mgC m A m.lines.length c) := Bk.new _ _ _
  obtain ⟨W0, hW0⟩ : ∃ W0, W0 = w.alloc (.cells (mgC m A m.lines.length c) 25) := ⟨_, rfl⟩
  rw [← hW0] at hb0 hm0
  have HB0 := Lib.hid hb0
  have HM0 := Lib.hid hm0
  have CH := Lib.hid (heavy_any A m.lines.length c m W0 hok (h.below hb0))
  clear h hok hb0 hm0
  have a0 := HM0.out.cell 0
  have a1 := HM0.out.cell 1
  have a2 := HM0.out.cell 2
  have a3 := HM0.out.cell 3
  have a4 := HM0.out.cell 4
  have a5 := HM0.out.cell 5
  unfold mgC at a0 a1 a2 a3 a4 a5
  simp at a0 a1 a2 a3 a4 a5
  rw [hW0] at a0 a1 a2 a3 a4 a5 CH
  unfold mgC at hW0 CH a0 a1 a2 a3 a4 a5 ⊢
  go_enter Try.func3, Try.ntmps3
  go_wp2_with fail
  refine CH.out.mono ?_
  rw [← hW0]
  rintro e w1 ⟨f, rfl, hb1, hf⟩
  have HB1 := Lib.hid (HB0.out.trans (hb1.mono HB0.out.size))
  have HM1 := Lib.hid (HM0.out.below hb1)
  have HG1 : Hid (w.heap.size < w1.heap.size) := HM1.out.lt
  clear hb1 CH a0 a1 a2 a3 a4 a5 HM0 HB0 hW0
  cases f with
  | true =>
    go_wp2_with fail
    go_ret
    exact ⟨rfl, HB1.out⟩
  | false =>
    have HFEW := Lib.hid (hf rfl)
    have hlen : m.lines.length ≤ 300 := HFEW.out.1
    clear hf
    obtain ⟨vs, hv, hc⟩ := HL.out.vals
    have hA0 : A = none → m.lines.length = 0 := fun e => by
      rcases Nat.eq_zero_or_pos m.lines.length with h | h
      · exact h
      · obtain ⟨_, _, _, _, _, q, _⟩ := HL.out.at_ 0 _ (List.getElem?_eq_getElem h)
        rw [e] at q; cases q
    obtain ⟨W1, hW1⟩ : ∃ W1, W1 = w1.alloc (.cells #[.int .u8 (m.kind : Int), .int .u64 (m.epoch : Int), .int .u64 (m.current : Int), .int .i64 m.at_, .int .i64 m.commit, .slice A m.lines.length c] 25) := ⟨_, rfl⟩
    have hb2 : Below w1.heap.size w1 W1 := by rw [hW1]; exact (Below.refl _ _).alloc (Nat.le_refl _) _
    have hn2 : Bk W1 w1.heap.size 25 (mgC m A m.lines.length c) := by rw [hW1]; exact Bk.new _ _ _
    have hs2 : W1.heap.size = w1.heap.size + 1 := by rw [hW1, World.size_alloc]
    obtain ⟨W2, hW2⟩ : ∃ W2, W2 = W1.alloc (.cells #[] 37) := ⟨_, rfl⟩
    have hb3 : Below w1.heap.size w1 W2 := by rw [hW2]; exact hb2.alloc (by omega) _
    have hn3 : Bk W2 w1.heap.size 25 (mgC m A m.lines.length c) := by rw [hW2]; exact hn2.alloc _
    have ho3 : W2.ownsRow W1.heap.size 37 2 (.slice (some ⟨W1.heap.size, 0, none⟩) 0 0) 0 [] := by rw [hW2]; exact World.ownsRow_lit W1 #[] 0 (Nat.le_refl _) (Nat.zero_le _) rfl
    have hB3 := HB1.out.trans (hb3.mono HB1.out.size)
    have hs3 : W2.heap.size = W1.heap.size + 1 := by rw [hW2, World.size_alloc]
    obtain ⟨g', cap, W3, hrun, hown, hgr, hgg, hgl⟩ := run_append_lines ho3 c (fun ad e j u hu => (hB3.cell (World.block_lt_of_cell? w _ (hc ad e j u hu))).trans (hc ad e j u hu)) hA0 rfl hv.len hv.one (by omega) (by omega)
    have hown : W3.ownsRow W1.heap.size 37 2 (.slice (some ⟨g', 0, none⟩) m.lines.length cap) m.lines.length (lnsC m.lines vs) := by simpa using hown
    have hlng : w1.heap.size + 1 ≤ g' := by rcases hgg with q | q <;> omega
    have hoo := out_grownBy hgr
    have hB4 : Below w1.heap.size w1 W3 := hb3.grown hgr (by omega) (fun g hg => by injection hg with hg; omega)
    have hn4 : Bk W3 w1.heap.size 25 (mgC m A m.lines.length c) := hn3.kept (hoo.block _ hn3.lt (fun q => by injection q with q; omega))
    have hB5 : Below w.heap.size w W3 := HB1.out.trans (hB4.mono HB1.out.size)
    have hln4 := lns_of_row hown (hv.below hB5)
    obtain ⟨W4, hW4⟩ : ∃ W4, W4 = W3.setCell ⟨w1.heap.size, 5, none⟩ (.slice (some ⟨g', 0, none⟩) m.lines.length cap) := ⟨_, rfl⟩
    have hn5 : Bk W4 w1.heap.size 25 (mgC m (some ⟨g', 0, none⟩) m.lines.length cap) := by
      have q := hn4.set 5 (.slice (some ⟨g', 0, none⟩) m.lines.length cap)
      rw [hW4]
      simpa [mgC] using q
    have hx4 : Out (fun b => b = w1.heap.size) W3 W4 := by rw [hW4]; exact Out.setCell (X := fun k => k = w1.heap.size) W3 (p := ⟨w1.heap.size, 5, none⟩) rfl _
    have hbig := HG1.out
    have hln5 : LnS (fun b => b < w.heap.size ∨ W1.heap.size ≤ b) W4 (some ⟨g', 0, none⟩) m.lines.length m.lines := hln4.out hx4 (fun k hk e => by rcases hk with hk | hk <;> omega)
    have hB6 : Below w1.heap.size w1 W4 := by rw [hW4]; exact hB4.setCell (p := ⟨w1.heap.size, 5, none⟩) (Nat.le_refl _) _
    have a0 := HM1.out.cell 0
    have a1 := HM1.out.cell 1
    have a2 := HM1.out.cell 2
    have a3 := HM1.out.cell 3
    have a4 := HM1.out.cell 4
    have a5 := HM1.out.cell 5
    unfold mgC at a0 a1 a2 a3 a4 a5
    simp at a0 a1 a2 a3 a4 a5
    have q3 : W2.cell? ⟨w.heap.size, 5, none⟩ = some (.slice A m.lines.length c) := (HM1.out.below hb3).cell 5
    rw [hs2] at hrun
    have HR := Lib.hid hrun
    have HB6 := Lib.hid (HB1.out.trans (hB6.mono HB1.out.size))
    have HN6 := Lib.hid hn5
    have HM6 := Lib.hid (HM1.out.below hB6)
    have HL6 := Lib.hid hln5
    have HF6 : Hid (W3.frozen? ⟨w1.heap.size, 5, none⟩ = false) := hn4.frozen 5
    have HC6 := hn4.cell 5
    unfold mgC at HC6
    simp at HC6
    clear hv hc hA0 hb2 hn2 hb3 hn3 ho3 hB3 hrun hown hgr hgg hgl hoo hB4 hn4 hB5 hln4 hn5 hx4 hln5 hB6 hbig HM1 HG1 hs2 hs3
    rw [hW2, hW1] at q3 HR
    have CP := Lib.hid (put_any (some ⟨g', 0, none⟩) m.lines.length cap m W4 HOK.out HL6.out)
    have d0 := HN6.out.cell 0
    have d1 := HN6.out.cell 1
    have d2 := HN6.out.cell 2
    have d3 := HN6.out.cell 3
    have d4 := HN6.out.cell 4
    have d5 := HN6.out.cell 5
    unfold mgC at d0 d1 d2 d3 d4 d5
    simp at d0 d1 d2 d3 d4 d5
    unfold mgC at CP
    rw [hW4] at d0 d1 d2 d3 d4 d5 CP
    have hf6 := HF6.out
    go_wp2_with (at_builtin; refine Lib.wpList_append_run _ rfl _ _ _ _ rfl _ _ rfl rfl _ _ HR.out ?_)
    clear a0 a1 a2 a3 a4 a5 q3 HR
    refine CP.out.mono ?_
    rw [← hW4]
    rintro e w7 ⟨A7, n7, c7, rfl, hn7, hc7, hown7, hb7⟩
    have HB7 := Lib.hid (HB6.out.trans (hb7.mono HB6.out.size))
    have HN7 := Lib.hid (HN6.out.below hb7)
    have HM7 := Lib.hid (HM6.out.below hb7)
    have HL7 := Lib.hid (HL6.out.below hb7)
    have HR7 := Lib.hid (Rd.of_own hown7).1
    have HN : Hid (n7 = (putB m).length) := hn7
    clear hn7 hb7 hown7 CP HN6 HM6 HL6 hf6 HC6 HF6 d0 d1 d2 d3 d4 d5 hW4 hW1 hW2
    have CP := Lib.hid (rput_any A m.lines.length c m w7 HOK.out (HL.out.below HB7.out))
    have a0 := HM7.out.cell 0
    have a1 := HM7.out.cell 1
    have a2 := HM7.out.cell 2
    have a3 := HM7.out.cell 3
    have a4 := HM7.out.cell 4
    have a5 := HM7.out.cell 5
    unfold mgC at a0 a1 a2 a3 a4 a5
    simp at a0 a1 a2 a3 a4 a5
    unfold mgC at CP
    go_wp2_with fail
    refine CP.out.mono ?_
    rintro e w8 ⟨A8, n8, c8, rfl, hn8, hc8, hown8, hb8⟩
    obtain rfl : n8 = n7 := by rw [hn8, HN.out]
    have HB8 := Lib.hid (HB7.out.trans (hb8.mono HB7.out.size))
    have HN8 := Lib.hid (HN7.out.below hb8)
    have HM8 := Lib.hid (HM7.out.below hb8)
    have HL8 := Lib.hid (HL7.out.below hb8)
    have CV1 := conv_string (HR7.out.below hb8) c7
    have CV2 := conv_string (Rd.of_own hown8).1 c8
    have CS := Lib.hid (same_any (some ⟨g', 0, none⟩) A m.lines.length m.lines.length cap c m m w8 HL8.out (HL.out.below HB8.out) (by omega) (by omega))
    clear hn8 hb8 hown8 CP HN7 HM7 HL7 HR7 a0 a1 a2 a3 a4 a5
    have a0 := HM8.out.cell 0
    have a1 := HM8.out.cell 1
    have a2 := HM8.out.cell 2
    have a3 := HM8.out.cell 3
    have a4 := HM8.out.cell 4
    have a5 := HM8.out.cell 5
    unfold mgC at a0 a1 a2 a3 a4 a5
    simp at a0 a1 a2 a3 a4 a5
    have b0 := HN8.out.cell 0
    have b1 := HN8.out.cell 1
    have b2 := HN8.out.cell 2
    have b3 := HN8.out.cell 3
    have b4 := HN8.out.cell 4
    have b5 := HN8.out.cell 5
    unfold mgC at b0 b1 b2 b3 b4 b5
    simp at b0 b1 b2 b3 b4 b5
    unfold mgC at CS
    go_wp2_with fail
    refine CS.out.mono ?_
    rintro e w9 ⟨rfl, hb9⟩
    simp only [decide_true]
    have HB9 := Lib.hid (HB8.out.trans (hb9.mono HB8.out.size))
    clear hb9 CS CV1 CV2 a0 a1 a2 a3 a4 a5 b0 b1 b2 b3 b4 b5
    go_wp2_with fail
    refine (tells_any w9).mono ?_
    rintro e w10 ⟨rfl, hb⟩
    have HB10 := Lib.hid (HB9.out.trans (hb.mono HB9.out.size))
    clear hb
    go_wp2_with fail
    go_ret
    exact ⟨rfl, HB10.out⟩

set_option maxRecDepth 100000 in
theorem lifted (os : Os) (started : os.Started) (H : Type) (enc : TypeId × Value → H) :
    ReturnsInHanded {} Try.checked os 3 .any (Rows.zmsgPutsSpec.pre6 enc Try.prog Try.f3 Rows.zmsgPutsRow.domain false) (Rows.zmsgPutsSpec.post enc Try.prog Try.f3 false true false false) := by
  refine returnsInHanded_of_change_sized (C := Try.checked) own started (by kernel_rfl) Try.func3
    (ChangeSpec.witness6 (enc := enc) (C := Try.checked) false ⟨#[], #[.agg #[.int .u8 0, .int .u64 0, .int .u64 0, .int .i64 0, .int .i64 0, .slice none 0 0]], []⟩ 8 (by kernel_rfl) (by kernel_rfl) (by kernel_rfl) (by kernel_rfl)) ?_
  intro W base args ds gs before hval0 hW hcnd hsz _
  have hval : ∀ (j : Nat) t v, Try.f3.params[j]? = some t → args[j]? = some v → Value.okWide Try.prog W .any base t v := hval0
  have hW' := hW
  obtain ⟨p, q, hA0, hV, rfl, hfz, hnd⟩ := hW
  have hA : DataW.TrodAll enc Try.prog W 0 (fun _ => true) true Try.f3.params.toList args.toList ds p := hA0
  rw [Try.params3] at hA hval
  obtain ⟨v0, d0, rfl, rfl, h0⟩ := trodAll_one hA
  obtain ⟨rfl, rfl⟩ := trodVars_none hV
  obtain ⟨m, A, c, rfl, _, hl, hok⟩ := arg_msg (hval 0 _ v0 rfl rfl) h0 (fun n hn => by have := List.all_eq_true.1 hsz _ (DataW.weights_mem_each (j := 0) (t := 25) rfl rfl n hn); simpa using this)
  refine (walk m A c W hl hok).mono fun e W' ⟨he, hb⟩ => ?_
  subst he
  exact ⟨_, rfl, post_true laidOut (by kernel_rfl) ty_bool (by kernel_rfl) rfl hW' hb rfl⟩

theorem over : Rows.zmsgPutsRow.holds Try.pinned (OpenSpec.ofChange Rows.zmsgPutsSpec) :=
  OpenClaim.holds_of_wide 3 Try.f3 rfl rfl rfl rfl rfl rfl rfl ⟨rfl, rfl, rfl, rfl, rfl⟩ rfl rfl rfl rfl rfl (by kernel_rfl) Try.func3 (by kernel_rfl)
    (of_decide_eq_true (by kernel_rfl)) (by unfold Func.isWrapper; first | (rw [if_pos (by decide +kernel)]; kernel_rfl) | (rw [if_neg (by decide +kernel)]; exact ⟨rfl, rfl⟩))
    (fun os started H enc _ => lifted os started H enc)

theorem proved : Rows.ZmsgPutsSaid :=
  over
end Go.Proofs.Ytobdkgmlkchggaa.zmsgPuts
