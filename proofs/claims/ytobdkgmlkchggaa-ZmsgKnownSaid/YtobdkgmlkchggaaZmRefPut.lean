/- The document's own Put. -/
import Derived.Test.YtobdkgmlkchggaaZmRef
import Derived.Test.YtobdkgmlkchggaaZmPut
import Derived.Test.YtobdkgmlkchggaaRefPut
namespace Go.Proofs.Ytobdkgmlkchggaa.Zm
open Go.RowKit Disk Log Sto
open PhaseG (own_slice)

set_option maxRecDepth 100000 in
set_option maxHeartbeats 4000000 in
theorem rput_no {P : Nat → Prop} (A : Option Addr) (n c : Nat) (m : Mg) (w : World) (hok : m.Ok) (h : LnS P w A n m.lines) (hm : ¬ m.may) :
    Calls Try.prog 11 #[.agg (mgC m A n c)] w (PutNo w) := by
  have hln := lns_in h
  have hb0 : Below w.heap.size w (w.alloc (.cells (mgC m A n c) 25)) := (Below.refl _ _).alloc (Nat.le_refl _) _
  have CM := Lib.hid (rmay_any A n c m (w.alloc (.cells (mgC m A n c) 25)) hok (hln.below hb0))
  have HB0 := Lib.hid hb0
  have HM : Hid (decide m.may = false) := by show _ = _; simp [hm]
  clear hln hb0 h hok hm
  unfold mgC at *
  go_enter Try.func11, Try.ntmps11
  go_wp2_with fail
  refine CM.out.mono ?_
  rw [HM.out]
  rintro e w1 ⟨rfl, hb1⟩
  have HB1 := Lib.hid (HB0.out.trans (hb1.mono HB0.out.size))
  clear hb1
  go_wp2_with fail
  go_ret2
  exact ⟨rfl, HB1.out⟩
set_option maxRecDepth 100000 in
set_option maxHeartbeats 8000000 in
theorem rput_yes {P : Nat → Prop} (A : Option Addr) (n c : Nat) (m : Mg) (w : World) (hok : m.Ok) (h : LnS P w A n m.lines) (hm : m.may) :
    Calls Try.prog 11 #[.agg (mgC m A n c)] w (PutYes w m.enc) := by
  obtain ⟨i0, hi, hz0, hz1, hz2⟩ := info_parts info_byte
  have HI := Lib.hid hi
  have HZ0 := Lib.hid hz0
  have HZ1 := Lib.hid hz1
  have HZ2 := Lib.hid hz2
  clear hi hz0 hz1 hz2
  have hln := lns_in h
  have hb0 : Below w.heap.size w (w.alloc (.cells (mgC m A n c) 25)) := (Below.refl _ _).alloc (Nat.le_refl _) _
  have hbk0 : Bk (w.alloc (.cells (mgC m A n c) 25)) w.heap.size 25 (mgC m A n c) := Bk.new _ _ _
  have CM := Lib.hid (rmay_any A n c m (w.alloc (.cells (mgC m A n c) 25)) hok (hln.below hb0))
  have HL0 := Lib.hid (hln.below hb0)
  have HB0 := Lib.hid hb0
  have HBK0 := Lib.hid hbk0
  have HM : Hid (decide m.may = true) := by show _ = _; simp [hm]
  have HMM := Lib.hid hm
  have HOK := Lib.hid hok
  have HN := Lib.hid h.len
  have hk := hok.kind
  have he := hok.epoch
  have hcu := hok.current
  have e1 : IntKind.u64.wrap m.at_ = (u64 m.at_ : Int) := wrap_u64_ m.at_
  have e2 : IntKind.u64.wrap m.commit = (u64 m.commit : Int) := wrap_u64_ m.commit
  have hnn : n ≤ 256 := by have := hm.2.2.2.2.2.2.2.2.2.1; have := h.len; omega
  have e3 : IntKind.u64.wrap (n : Int) = (n : Int) := by rw [IntKind.wrap_u64]; omega
  have HUA := Lib.hid (u64_lt m.at_)
  have HUC := Lib.hid (u64_lt m.commit)
  clear hln hb0 hbk0 h hok hm
  unfold mgC at CM HL0 HB0 HBK0 ⊢
  go_enter Try.func11, Try.ntmps11
  go_wp2_with fail
  refine CM.out.mono ?_
  rw [HM.out]
  rintro e w1 ⟨rfl, hb1⟩
  have HB1 := Lib.hid (HB0.out.trans (hb1.mono HB0.out.size))
  have HBK1 := Lib.hid (HBK0.out.below hb1)
  have HL1 := Lib.hid (HL0.out.below hb1)
  have HC : Hid (∀ V, Below w1.heap.size w1 V → ∀ i, V.cell? ⟨w.heap.size, i, none⟩ = (#[Value.int .u8 (m.kind : Int), .int .u64 (m.epoch : Int), .int .u64 (m.current : Int), .int .i64 m.at_, .int .i64 m.commit, .slice A n c] : Array Value)[i]?) := fun V hV i => (HBK1.out.below hV).cell i
  have k0 : w1.cell? ⟨w.heap.size, 0, none⟩ = some (.int .u8 (m.kind : Int)) := HBK1.out.cell 0
  obtain ⟨W1, hW1⟩ : ∃ W1, W1 = w1.alloc (.cells #[.int .u8 (m.kind : Int)] 5) := ⟨_, rfl⟩
  have hbW : Below w1.heap.size w1 W1 := by rw [hW1]; exact (Below.refl _ _).alloc (Nat.le_refl _) _
  have hoW : W1.ownsRow w1.heap.size 5 1 (.slice (some ⟨w1.heap.size, 0, none⟩) 1 1) 1 ((be 1 m.kind).map U) := by
    have q := own_of_row w1 5 (be 1 m.kind) 1 0 (be_length 1 _) (by unfold maxLen; omega)
    rw [hW1]
    have e4 : ((be 1 m.kind).map U ++ List.replicate 0 (U 0)).toArray = #[.int .u8 (m.kind : Int)] := by
      have e5 : U (UInt8.ofNat m.kind) = .int .u8 (m.kind : Int) := by unfold U; congr 1; simp; omega
      simp [be, e5]
    rw [e4] at q
    exact q
  have HBW := Lib.hid hbW
  have HOW := Lib.hid hoW
  have HW1 := Lib.hid hW1
  have k1 : W1.cell? ⟨w.heap.size, 1, none⟩ = some (.int .u64 (m.epoch : Int)) := HC.out W1 hbW 1
  clear hb1 hbW hoW hW1
  have k1' := k1
  rw [HW1.out] at k1'
  go_wp2_with fail
  rw [← HW1.out]
  clear k1 k1' k0
  refine (Number_any m.epoch 8 8 W1 he rfl (by omega)).mono ?_
  rintro e N1 ⟨A1, n1, c1, rfl, hl1, -, hown1, hbn1⟩
  obtain rfl : n1 = 8 := by rw [hl1, be_length]
  have HR1 := Lib.hid (Rd.of_own hown1).1
  have HV1 := Lib.hid ((HOW.out).kept (grown_of_below hbn1 none) (Classical.em _))
  have HX1 := Lib.hid (HBW.out.trans (hbn1.mono HBW.out.size))
  clear hl1 hown1 hbn1
  go_wp2_with (at_builtin; refine wpList_append_Rd rfl (.tmp 12) (.tmp 15) _ rfl ty_bytes HI.out HZ0.out HZ1.out HZ2.out rfl rfl HV1.out rfl HR1.out (by omega) HX1.out.size ?_)
  intro v1 X1 ho1 hg1
  have HP1 : Hid (X1.ownsRow w1.heap.size 5 1 v1 (1 + 8) (((be 1 m.kind) ++ be 8 m.epoch).map U)) := by
    rw [List.map_append]
    exact ho1
  have HY1 := Lib.hid (HX1.out.grown hg1 HX1.out.size (fun g hg => (HV1.out.lt g hg).1))
  clear ho1 hg1
  have k1z : X1.cell? ⟨w.heap.size, 2, none⟩ = some (.int .u64 (m.current : Int)) := HC.out X1 HY1.out 2
  go_wp2_with fail
  clear k1z
  refine (Number_any m.current 8 8 X1 hcu rfl (by omega)).mono ?_
  rintro e N2 ⟨A2, n2, c2, rfl, hl2, -, hown2, hbn2⟩
  obtain rfl : n2 = 8 := by rw [hl2, be_length]
  have HR2 := Lib.hid (Rd.of_own hown2).1
  have HV2 := Lib.hid ((HP1.out).kept (grown_of_below hbn2 none) (Classical.em _))
  have HX2 := Lib.hid (HY1.out.trans (hbn2.mono HY1.out.size))
  clear hl2 hown2 hbn2
  go_wp2_with (at_builtin; refine wpList_append_Rd rfl (.tmp 17) (.tmp 20) _ rfl ty_bytes HI.out HZ0.out HZ1.out HZ2.out rfl rfl HV2.out rfl HR2.out (by omega) HX2.out.size ?_)
  intro v2 X2 ho2 hg2
  have HP2 : Hid (X2.ownsRow w1.heap.size 5 1 v2 ((1 + 8) + 8) ((((be 1 m.kind) ++ be 8 m.epoch) ++ be 8 m.current).map U)) := by
    rw [List.map_append]
    exact ho2
  have HY2 := Lib.hid (HX2.out.grown hg2 HX2.out.size (fun g hg => (HV2.out.lt g hg).1))
  clear ho2 hg2
  have k2z : X2.cell? ⟨w.heap.size, 3, none⟩ = some (.int .i64 m.at_) := HC.out X2 HY2.out 3
  go_wp2_with fail
  clear k2z
  refine (Number_any (u64 m.at_) 8 8 X2 HUA.out rfl (by omega)).mono ?_
  rintro e N3 ⟨A3, n3, c3, rfl, hl3, -, hown3, hbn3⟩
  obtain rfl : n3 = 8 := by rw [hl3, be_length]
  have HR3 := Lib.hid (Rd.of_own hown3).1
  have HV3 := Lib.hid ((HP2.out).kept (grown_of_below hbn3 none) (Classical.em _))
  have HX3 := Lib.hid (HY2.out.trans (hbn3.mono HY2.out.size))
  clear hl3 hown3 hbn3
  go_wp2_with (at_builtin; refine wpList_append_Rd rfl (.tmp 22) (.tmp 26) _ rfl ty_bytes HI.out HZ0.out HZ1.out HZ2.out rfl rfl HV3.out rfl HR3.out (by omega) HX3.out.size ?_)
  intro v3 X3 ho3 hg3
  have HP3 : Hid (X3.ownsRow w1.heap.size 5 1 v3 (((1 + 8) + 8) + 8) (((((be 1 m.kind) ++ be 8 m.epoch) ++ be 8 m.current) ++ be 8 (u64 m.at_)).map U)) := by
    rw [List.map_append]
    exact ho3
  have HY3 := Lib.hid (HX3.out.grown hg3 HX3.out.size (fun g hg => (HV3.out.lt g hg).1))
  clear ho3 hg3
  have k3z : X3.cell? ⟨w.heap.size, 4, none⟩ = some (.int .i64 m.commit) := HC.out X3 HY3.out 4
  go_wp2_with fail
  clear k3z
  refine (Number_any (u64 m.commit) 8 8 X3 HUC.out rfl (by omega)).mono ?_
  rintro e N4 ⟨A4, n4, c4, rfl, hl4, -, hown4, hbn4⟩
  obtain rfl : n4 = 8 := by rw [hl4, be_length]
  have HR4 := Lib.hid (Rd.of_own hown4).1
  have HV4 := Lib.hid ((HP3.out).kept (grown_of_below hbn4 none) (Classical.em _))
  have HX4 := Lib.hid (HY3.out.trans (hbn4.mono HY3.out.size))
  clear hl4 hown4 hbn4
  go_wp2_with (at_builtin; refine wpList_append_Rd rfl (.tmp 28) (.tmp 32) _ rfl ty_bytes HI.out HZ0.out HZ1.out HZ2.out rfl rfl HV4.out rfl HR4.out (by omega) HX4.out.size ?_)
  intro v4 X4 ho4 hg4
  have HP4 : Hid (X4.ownsRow w1.heap.size 5 1 v4 ((((1 + 8) + 8) + 8) + 8) ((((((be 1 m.kind) ++ be 8 m.epoch) ++ be 8 m.current) ++ be 8 (u64 m.at_)) ++ be 8 (u64 m.commit)).map U)) := by
    rw [List.map_append]
    exact ho4
  have HY4 := Lib.hid (HX4.out.grown hg4 HX4.out.size (fun g hg => (HV4.out.lt g hg).1))
  clear ho4 hg4
  have k4z : X4.cell? ⟨w.heap.size, 5, none⟩ = some (.slice A n c) := HC.out X4 HY4.out 5
  go_wp2_with fail
  clear k4z
  refine (Number_any n 8 8 X4 (by omega) rfl (by omega)).mono ?_
  rintro e N5 ⟨A5, n5, c5, rfl, hl5, -, hown5, hbn5⟩
  obtain rfl : n5 = 8 := by rw [hl5, be_length]
  have HR5 := Lib.hid (Rd.of_own hown5).1
  have HV5 := Lib.hid ((HP4.out).kept (grown_of_below hbn5 none) (Classical.em _))
  have HX5 := Lib.hid (HY4.out.trans (hbn5.mono HY4.out.size))
  clear hl5 hown5 hbn5
  go_wp2_with (at_builtin; refine wpList_append_Rd rfl (.tmp 34) (.tmp 39) _ rfl ty_bytes HI.out HZ0.out HZ1.out HZ2.out rfl rfl HV5.out rfl HR5.out (by omega) HX5.out.size ?_)
  intro v5 X5 ho5 hg5
  have HP5 : Hid (X5.ownsRow w1.heap.size 5 1 v5 (((((1 + 8) + 8) + 8) + 8) + 8) (((((((be 1 m.kind) ++ be 8 m.epoch) ++ be 8 m.current) ++ be 8 (u64 m.at_)) ++ be 8 (u64 m.commit)) ++ be 8 n).map U)) := by
    rw [List.map_append]
    exact ho5
  have HY5 := Lib.hid (HX5.out.grown hg5 HX5.out.size (fun g hg => (HV5.out.lt g hg).1))
  clear ho5 hg5
  have HP0 : Hid (X5.ownsRow w1.heap.size 5 1 v5 41 ((pre m 0).map U)) := by
    have q := HP5.out
    have e4 : pre m 0 = (((((be 1 m.kind ++ be 8 m.epoch) ++ be 8 m.current) ++ be 8 (u64 m.at_)) ++ be 8 (u64 m.commit)) ++ be 8 n) := by
      unfold pre
      simp [encLs, nums, numsB, HN.out]
    rw [e4]
    exact q
  have HP41 : Hid (41 = (pre m 0).length) := by
    have q := HP0.out.1
    rw [List.length_map] at q
    show _ = _
    omega
  clear HP1 HP2 HP3 HP4 HP5 HV1 HV2 HV3 HV4 HV5 HX1 HX2 HX3 HX4 HX5 HR1 HR2 HR3 HR4 HR5 HY1 HY2 HY3 HY4 HOW HW1
  go_wp2_with fail
  go_loopw [4, 5] (fun b i wr => Rel2 w1 m n b i wr) (fun _ i _ => n - (intOf i).toNat)
  case atStart => exact ⟨0, 41, by omega, rfl, HP0.out, HP41.out, HY5.out⟩
  case round =>
    obtain ⟨k, N, hk6, rfl, hown, hNl, hbel⟩ := hrel
    have HO6 := Lib.hid hown
    have HB6 := Lib.hid hbel
    have HNL := Lib.hid hNl
    have hpl := pre_length HMM.out k
    rw [← hNl] at hpl
    have m5 : wr.cell? ⟨w.heap.size, 5, none⟩ = some (.slice A n c) := HC.out wr hbel 5
    clear hown hbel hNl HP0 HP41 HY5
    by_cases hlt : k < n
    · have hkl : k < m.lines.length := by have := HN.out; omega
      obtain ⟨x, hx⟩ : ∃ x, m.lines[k]? = some x := ⟨_, List.getElem?_eq_getElem hkl⟩
      obtain ⟨b, o, B, mm, c3, hA, -, he1, hc1, hmc, hr, hrb⟩ := (HL1.out.below HB6.out).at_ k x hx
      subst hA
      have HXX := Lib.hid hx
      have hxe := (HOK.out.each x (List.mem_of_getElem? hx)).1
      have hmm : mm ≤ 4096 := by
        have := (lineB_iff.1 (HMM.out.2.2.2.2.2.2.2.2.2.2.1 x (List.mem_of_getElem? hx))).2.2.2
        have := hr.len
        omega
      have HMX : Hid (x.bytes.length = mm) := hr.len
      clear hx hr hrb
      go_wp2_with fail
      refine (Number_any x.epoch 8 8 wr hxe rfl (by omega)).mono ?_
      rintro e N1 ⟨A1, n1, c1, rfl, hl1, -, hown1, hbn1⟩
      obtain rfl : n1 = 8 := by rw [hl1, be_length]
      have HR1 := Lib.hid (Rd.of_own hown1).1
      have HV1 := Lib.hid ((HO6.out).kept (grown_of_below hbn1 none) (Classical.em _))
      have HX1 := Lib.hid (HB6.out.trans (hbn1.mono HB6.out.size))
      clear hl1 hown1 hbn1 m5 he1 hc1
      go_wp2_with (at_builtin; refine wpList_append_Rd rfl (.tmp 48) (.tmp 55) _ rfl ty_bytes HI.out HZ0.out HZ1.out HZ2.out rfl rfl HV1.out rfl HR1.out (by omega) HX1.out.size ?_)
      intro v6 X6 ho6 hg6
      have HP6 : Hid (X6.ownsRow w1.heap.size 5 1 v6 (N + 8) ((pre m k ++ be 8 x.epoch).map U)) := by
        rw [List.map_append]
        exact ho6
      have HY6 := Lib.hid (HX1.out.grown hg6 HX1.out.size (fun g hg => (HV1.out.lt g hg).1))
      clear ho6 hg6
      obtain ⟨b', o', B', mm', c3', hA', -, he1, hc1, hmc', hr, hrb⟩ := (HL1.out.below HY6.out).at_ k x HXX.out
      injection hA' with hA'
      injection hA' with q1 q2
      subst q1 q2
      obtain rfl : mm' = mm := by have := hr.len; have := HMX.out; omega
      have HR := Lib.hid hr
      have m5 : X6.cell? ⟨w.heap.size, 5, none⟩ = some (.slice (some ⟨b, o, none⟩) n c) := HC.out X6 HY6.out 5
      clear hr hrb
      go_wp2_with fail
      refine (RText_any B' mm' c3' x.bytes X6 HR.out (by omega)).mono ?_
      rintro e N7 ⟨A7, n7, c7, rfl, hl7, -, hown7, hbn7⟩
      obtain rfl : n7 = 4 + mm' := by rw [hl7, List.length_append, be_length, HMX.out]
      have HR7 := Lib.hid (Rd.of_own hown7).1
      have HV7 := Lib.hid ((HP6.out).kept (grown_of_below hbn7 none) (Classical.em _))
      have HX7 := Lib.hid (HY6.out.trans (hbn7.mono HY6.out.size))
      clear hl7 hown7 hbn7 m5 he1 hc1
      go_wp2_with (at_builtin; refine wpList_append_Rd rfl (.tmp 57) (.tmp 64) _ rfl ty_bytes HI.out HZ0.out HZ1.out HZ2.out rfl rfl HV7.out rfl HR7.out (by omega) HX7.out.size ?_)
      intro v8 X8 ho8 hg8
      have HP8 : Hid (X8.ownsRow w1.heap.size 5 1 v8 (N + 8 + (4 + mm')) ((pre m (k + 1)).map U)) := by
        rw [pre_step HXX.out, HMX.out]
        have q := ho8
        simp only [List.map_append] at q ⊢
        exact q
      have HY8 := Lib.hid (HX7.out.grown hg8 HX7.out.size (fun g hg => (HV7.out.lt g hg).1))
      clear ho8 hg8
      go_wp2_with fail
      refine ⟨⟨k + 1, _, by omega, rfl, HP8.out, ?_, HY8.out⟩, by simp [intOf]; omega⟩
      have q := HP8.out.1
      rw [List.length_map] at q
      omega
    · obtain rfl : k = n := by omega
      obtain ⟨Af, cf, rfl, hncf⟩ := own_slice HO6.out
      have HE : Hid (pre m k = m.enc) := pre_end (by rw [HN.out]; exact Nat.le_refl _)
      go_wp2_with fail
      go_ret2
      have hBB := HB1.out.trans (HB6.out.mono HB1.out.size)
      refine ⟨Af, N, cf, rfl, by rw [← HE.out]; exact HNL.out, hncf, ?_, hBB⟩
      have q := own_base HO6.out HB1.out.size
      rw [HE.out] at q
      exact q
end Go.Proofs.Ytobdkgmlkchggaa.Zm
