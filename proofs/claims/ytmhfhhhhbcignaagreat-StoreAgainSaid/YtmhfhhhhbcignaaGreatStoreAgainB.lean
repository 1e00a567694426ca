/- StoreAgain: a store that is opened again, with power, or behind a loss of it with nothing under way, keeps the same; to open writes nothing: for every number of pages and all acts the call returns true, and nothing that was there has turned. No conditions. -/
import Derived.Test.YtmhfhhhhbcignaaGreatBase27
namespace Go.Proofs.YtmhfhhhhbcignaaGreat.storeAgain
open Go.ChangeShapes Go.WideShapes Go.ChangeAt Go.RowKit Disk Log Sto

def RelA (w0 : World) (gs gd n : Nat) (i : Value) (wr : World) : Prop := ∃ (m : Nat) (Z : Nat → Prop) (k : Kp), i = .int .i64 (m : Int) ∧ m ≤ 60 ∧ Ss w0 wr Z gs gd n k (4 * m)
set_option maxRecDepth 100000 in
set_option maxHeartbeats 4000000 in
theorem walk (z : Int) (A : Option Addr) (m c : Nat) (xs : List A1) (w : World) (h : ActS (fun b => b < w.heap.size) w A m xs) (hm : m ≤ 140737488355328) (hy : ∀ x ∈ xs, ∀ y ∈ x.l, y.bytes.length ≤ 140737488355328) : Calls Tryz.prog 8 #[.int .i64 z, .slice A m c] w fun r w' => r = .returned (.bool true) ∧ Below w.heap.size w w' := by
  by_cases h1 : z < 8
  · go_enter Tryz.func8, Tryz.ntmps8
    go_wp2_with fail
    go_ret
    exact ⟨rfl, Below.refl _ _⟩
  by_cases h2 : 200 < z
  · go_enter Tryz.func8, Tryz.ntmps8
    go_wp2_with fail
    go_ret
    exact ⟨rfl, Below.refl _ _⟩
  obtain ⟨n, rfl⟩ : ∃ n : Nat, z = (n : Int) := ⟨z.toNat, by omega⟩
  have CG0 := great_any c h hm hy
  by_cases hg : greatF xs = true
  · rw [hg] at CG0
    have CG := Lib.hid CG0
    clear CG0 h hy
    go_enter Tryz.func8, Tryz.ntmps8
    go_wp2_with fail
    refine CG.out.mono ?_
    rintro e w1 ⟨rfl, rfl⟩
    go_wp2_with fail
    go_ret
    exact ⟨rfl, Below.refl _ _⟩
  have hg : greatF xs = false := by simpa using hg
  rw [hg] at CG0
  have CG := Lib.hid CG0
  have HG := Lib.hid (great_no hg)
  have HA := Lib.hid h
  have HLN := Lib.hid h.len
  have hm60 : m ≤ 60 := by have := (great_no hg).1; rw [h.len] at this; exact this
  have CN := Lib.hid (ds_new (w0 := w) (n := n) (by omega) (by omega) (Below.refl w.heap.size w))
  clear CG0 hg h hy
  go_enter Tryz.func8, Tryz.ntmps8
  go_wp2_with fail
  refine CG.out.mono ?_
  rintro e w0 ⟨rfl, rfl⟩
  clear CG
  go_wp2_with fail
  refine CN.out.mono ?_
  rintro e w1 ⟨gd, X, rfl, hd, hx, hb⟩
  have CO := Lib.hid (hd.open_ (by decide))
  clear hd hx hb CN
  go_wp2_with fail
  refine CO.out.mono ?_
  rintro e w2 ⟨gs, Z2, rfl, hs, -, -, -⟩
  have HS := Lib.hid hs
  clear hs CO
  go_wp2_with fail
  go_loopw [9] (fun i wr => RelA w0 gs gd n i wr) (fun i _ => m - (intOf i).toNat)
  case atStart => exact ⟨0, Z2, Kp.zero, rfl, by omega, HS.out⟩
  case round =>
    clear HS
    obtain ⟨q, Z, k, rfl, hq, hs⟩ := hrel
    have HS := Lib.hid hs
    clear hs
    by_cases hlt : q < m
    · have hql : q < xs.length := by have := HLN.out; omega
      have hact := HA.out.below HS.out.below
      obtain ⟨b, o, B, c2, hA, c0, c1, c3, hls, hok⟩ := hact.at_ q _ (List.getElem?_eq_getElem hql)
      have hlaid := (HG.out.2 _ (List.getElem_mem hql) hok).2.2
      have CD := Lib.hid (does_ss HS.out (by omega) xs[q] hok hlaid B c2 hls (fun b hb => ⟨fun hz => by have := HS.out.own b hz; omega, Nat.lt_of_lt_of_le hb HS.out.below.size⟩))
      have hk0 : (0 : Int) ≤ (q : Int) := Int.natCast_nonneg _
      have hk1 : (q : Int) < (m : Int) := by omega
      generalize hxe : xs[q] = x at *
      clear hls hok hlaid hact hxe HA
      subst hA
      unfold actV at CD
      go_wp2_with fail
      refine CD.out.mono ?_
      rintro e w3 ⟨rfl, Z3, hs3, -⟩
      have HF : Hid (RelA w0 gs gd n (.int .i64 ((q + 1 : Nat) : Int)) w3) := ⟨q + 1, Z3, _, rfl, by omega, hs3.mono (by omega)⟩
      clear hs3 CD HS
      go_wp2_with fail
      exact ⟨HF.out, by simp [intOf]; omega⟩
    · have hk1 : ¬ (q : Int) < (m : Int) := by omega
      have HFI := Lib.hid HS.out.fine
      have CT := Lib.hid (text_any HS.out.kept HS.out.fine)
      clear HA HG HLN hlt
      go_wp2_with fail
      refine CT.out.mono ?_
      rintro e w3 ⟨rfl, hb⟩
      obtain ⟨X3, hd3, -⟩ := (HS.out.below_ hb).disk
      have HD3 := Lib.hid hd3
      have CW := Lib.hid hd3.waiting
      clear CT hb hd3 HS
      obtain ⟨sp, hsp⟩ : ∃ sp, sp = S (textK k) := ⟨_, rfl⟩
      rw [← hsp]
      have HSP := Lib.hid hsp
      clear hsp
      go_wp2_with fail
      refine CW.out.mono ?_
      rintro e w4 ⟨rfl, rfl⟩
      have CO := Lib.hid (HD3.out.open_ (by omega))
      clear CW
      go_wp2_with fail
      refine CO.out.mono ?_
      rintro e w4 ⟨gs4, Z4, rfl, hs4, -, -, -⟩
      have HS4 := Lib.hid hs4
      have CT := text_any hs4.kept hs4.fine
      rw [← HSP.out] at CT
      have CT := Lib.hid CT
      clear hs4 CO HD3
      go_wp2_with fail
      refine CT.out.mono ?_
      rintro e w5 ⟨rfl, hb⟩
      obtain ⟨X5, hd5, -⟩ := (HS4.out.below_ hb).disk
      have HD5 := Lib.hid hd5
      have CW := Lib.hid hd5.waiting
      clear CT hb hd5 HS4
      go_wp2_with fail
      refine CW.out.mono ?_
      rintro e w6 ⟨rfl, rfl⟩
      have CK := Lib.hid HD5.out.kill
      clear CW HD5
      go_wp2_with fail
      refine CK.out.mono ?_
      rintro e w6 ⟨rfl, X6, hk6, -⟩
      have CR := Lib.hid (hk6.restart none 0 0 [] (RdI.nil_ _ _) (fun h => absurd h (by omega)) (by omega))
      clear CK hk6
      go_wp2_with fail
      refine CR.out.mono ?_
      rintro e w7 ⟨rfl, X7, hd7, -⟩
      have CO := Lib.hid (hd7.open_ (by omega))
      clear CR hd7
      go_wp2_with fail
      refine CO.out.mono ?_
      rintro e w8 ⟨gs8, Z8, rfl, hs8, -, -, -⟩
      have HB8 := Lib.hid hs8.below
      have CT := text_any hs8.kept hs8.fine
      rw [← HSP.out] at CT
      have CT := Lib.hid CT
      clear hs8 CO
      go_wp2_with fail
      refine CT.out.mono ?_
      rintro e w9 ⟨rfl, hb⟩
      have HB9 := Lib.hid (HB8.out.trans (hb.mono HB8.out.size))
      clear CT hb
      go_wp2_with fail
      refine (keeps_any w9).mono ?_
      rintro e w10 ⟨rfl, hb⟩
      have HB10 := Lib.hid (HB9.out.trans (hb.mono HB9.out.size))
      clear hb
      go_wp2_with fail
      go_ret
      exact ⟨rfl, HB10.out⟩

set_option maxRecDepth 100000 in
theorem lifted (os : Os) (started : os.Started) (H : Type) (enc : TypeId × Value → H) :
    ReturnsInHanded {} Tryz.checked os 8 .any (Rows.storeAgainSpec.pre6 enc Tryz.prog Tryz.f8 Rows.storeAgainRow.domain false) (Rows.storeAgainSpec.post enc Tryz.prog Tryz.f8 false true false false) := by
  refine returnsInHanded_of_change_sized (C := Tryz.checked) own started (by kernel_rfl) Tryz.func8
    (ChangeSpec.witness6 (enc := enc) (C := Tryz.checked) false ⟨#[], #[.int .i64 0, .slice none 0 0], []⟩ 8 (by kernel_rfl) (by kernel_rfl) (by kernel_rfl) (by kernel_rfl)) ?_
  intro W base args ds gs before hval0 hW hcnd hsz _
  have hval : ∀ (j : Nat) t v, Tryz.f8.params[j]? = some t → args[j]? = some v → Value.okWide Tryz.prog W .any base t v := hval0
  have hW' := hW
  obtain ⟨p, q, hA0, hV, rfl, hfz, hnd⟩ := hW
  have hA : DataW.TrodAll enc Tryz.prog W 0 (fun _ => true) true Tryz.f8.params.toList args.toList ds p := hA0
  rw [Tryz.params8] at hA hval
  obtain ⟨v0, v1, d0, d1, p0, p1, rfl, rfl, rfl, h0, h1⟩ := trodAll_two hA
  obtain ⟨rfl, rfl⟩ := trodVars_none hV
  obtain ⟨z, rfl, _, _, _⟩ := open_int (show Tryz.prog.underlying 3 = some (.int .i64) by kernel_rfl) (hval 0 _ v0 rfl rfl) h0
  obtain ⟨A, m, c, xs, rfl, _, hm, hl, hy⟩ := arg_acts (hval 1 _ v1 rfl rfl) h1 (fun n hn => by have := List.all_eq_true.1 hsz _ (DataW.weights_mem_each (j := 1) (t := 22) rfl rfl n hn); simpa using this)
  refine (walk z A m c xs W hl (Nat.le_trans hm (by decide)) (fun x hx y hyy => Nat.le_trans (hy x hx y hyy) (by decide))).mono fun e W' ⟨he, hb⟩ => ?_
  subst he
  exact ⟨_, rfl, post_true laidOut (by kernel_rfl) ty_bool (by kernel_rfl) rfl hW' hb rfl⟩

theorem over : Rows.storeAgainRow.holds Tryz.pinned (OpenSpec.ofChange Rows.storeAgainSpec) :=
  OpenClaim.holds_of_wide 8 Tryz.f8 rfl rfl rfl rfl rfl rfl rfl ⟨rfl, rfl, rfl, rfl, rfl⟩ rfl rfl rfl rfl rfl (by kernel_rfl) Tryz.func8 (by kernel_rfl)
    (of_decide_eq_true (by kernel_rfl)) (by unfold Func.isWrapper; first | (rw [if_pos (by decide +kernel)]; kernel_rfl) | (rw [if_neg (by decide +kernel)]; exact ⟨rfl, rfl⟩))
    (fun os started H enc _ => lifted os started H enc)

theorem proved : Rows.StoreAgainSaid :=
  over
end Go.Proofs.YtmhfhhhhbcignaaGreat.storeAgain
