/- WireBack: what is put one behind the other is read one by one, and then it is done; without the last byte, or with one more, it is not. For every input the call returns true, and each argument reads afterwards as it read before. No conditions. -/
import Derived.Test.YtjpiaeidaoklaaaBackPure
namespace Go.Proofs.Ytjpiaeidaoklaaa.wireBack
open Go.ChangeShapes Go.WideShapes Go.ChangeAt Go.RowKit

/-- The first loop's relation. -/
def Rel1 (w : World) (n : Nat) (l : List Prt) (b i : Value) (wr : World) : Prop :=
  ∃ (k : Nat) (A : Option Addr) (m c : Nat), k ≤ n ∧ i = .int .i64 (k : Int) ∧ b = .slice A m c ∧ m ≤ c ∧ Rd wr A m (encAll (l.take k)) ∧ (∀ p ∈ l.take k, p.ok) ∧ Below w.heap.size w wr

theorem rel1_le {l : List Prt} {k : Nat} (h : ∀ p ∈ l.take k, p.ok) : (encAll (l.take k)).length ≤ k * 204 :=
  Nat.le_trans (encAll_le _ (fun p hp => (h p hp).2)) (Nat.mul_le_mul_right _ (List.length_take_le _ _))

theorem rel1_next {w w1 : World} {n k : Nat} {l : List Prt} {p : Prt} {A : Option Addr} {m c : Nat} (hlt : k < n) (hp : l[k]? = some p) (hok : ∀ q ∈ l.take k, q.ok) (hpo : p.ok) (hmc : m ≤ c) (hr : Rd w1 A m (encAll (l.take k) ++ p.enc)) (hb : Below w.heap.size w w1) :
    Rel1 w n l (.slice A m c) (.int .i64 ((k : Int) + 1)) w1 := by
  refine ⟨k + 1, A, m, c, by omega, rfl, rfl, hmc, ?_, ?_, hb⟩
  · rw [take_snoc l k p hp, encAll_snoc]; exact hr
  · rw [take_snoc l k p hp]
    intro q hq
    rcases List.mem_append.1 hq with hq | hq
    · exact hok q hq
    · simp at hq; subst hq; exact hpo

/-- The third loop's relation. -/
def Rel3 (w : World) (n : Nat) (l : List Prt) (rx ry : Nat) (i : Value) (wr : World) : Prop :=
  ∃ k : Nat, k ≤ n ∧ i = .int .i64 (k : Int) ∧ Rdr wr rx (after (l.take k) ((encAll l).dropLast, false)) ∧ Rdr wr ry (after (l.take k) (encAll l ++ [0], false)) ∧ Below w.heap.size w wr

theorem Rdr.other {w w' : World} {r r' : Nat} {s s' : List UInt8 × Bool} (h : Rdr w r s) (h' : Rdr w r' s') (hne : r ≠ r') (hg : w.grownBy w' (some r')) : Rdr w' r s := by
  obtain ⟨A, n, c, h1, h2, h3, h4⟩ := h
  exact ⟨A, n, c, h1.grown hg (fun e => hne (by injection e)), h2, h3, h'.rd h4 hg⟩

theorem own_lit0 (w : World) (e : TypeId) : (w.alloc (.cells #[] e)).ownsRow w.heap.size e 1 (.slice (some ⟨w.heap.size, 0, none⟩) 0 0) 0 ([].map U) := World.ownsRow_lit w #[] 0 (Nat.le_refl _) (Nat.zero_le _) rfl

set_option maxHeartbeats 4000000 in
theorem walk (A : Option Addr) (n c : Nat) (l : List Prt) (w : World) (h : PartRd w A n l) :
    Calls Try.prog 5 #[.slice A n c] w fun e w' => e = .returned (.bool true) ∧ Below w.heap.size w w' := by
  have H := Lib.hid h
  clear h
  obtain ⟨i0, hi, hz0, hz1, hz2⟩ := info_parts info_byte
  have HI := Lib.hid hi
  have HZ0 := Lib.hid hz0
  have HZ1 := Lib.hid hz1
  have HZ2 := Lib.hid hz2
  clear hi hz0 hz1 hz2
  by_cases hn : 60 < n
  · go_enter Try.func5, Try.ntmps5
    go_wp2_with fail
    go_ret
    exact ⟨rfl, Below.refl _ _⟩
  · go_enter Try.func5, Try.ntmps5
    go_wp2_with fail
    go_loopw [3, 4] (fun b i wr => Rel1 w n l b i wr) (fun _ i _ => n - (intOf i).toNat)
    case atStart => exact ⟨0, none, 0, 0, by omega, rfl, rfl, Nat.le_refl _, Rd.nil_ _ _, by simp, Below.refl _ _⟩
    case round =>
      obtain ⟨k, Ab, m, cb, hk, rfl, rfl, hmc, hrd, hok, hbel⟩ := hrel
      have HR := Lib.hid hrd
      have HK := Lib.hid hok
      have HB := Lib.hid hbel
      clear hrd hok hbel
      by_cases hlt : k < n
      · obtain ⟨p, hp⟩ : ∃ p, l[k]? = some p := ⟨_, List.getElem?_eq_getElem (by rw [H.out.len]; exact hlt)⟩
        have HP := Lib.hid hp
        obtain ⟨hd, hv, bb, off, Ap, np, cp, rfl, hcp, h1, h2, h3, h4⟩ := (H.out.below HB.out).cells k p hp
        have HS := Lib.hid h4
        clear hp h4
        by_cases h200 : 200 < np
        · go_wp2_with fail
          go_ret
          exact ⟨rfl, HB.out⟩
        · have hmb : m ≤ 12240 := by
            have h1 := HR.out.len
            have h2 := rel1_le HK.out
            omega
          go_wp2_with fail
          refine (put_any Ab Ap m cb np cp _ p wr HR.out HS.out hd hv (by omega) (by omega)).mono ?_
          rintro e w1 ⟨A1, n1, c1, rfl, hl1, hc1, hown1, hb1⟩
          have HR1 := Lib.hid (Rd.of_own hown1).1
          have HB1 := Lib.hid (HB.out.trans (hb1.mono HB.out.size))
          have HPO : Hid p.ok := ⟨hv, by rw [HS.out.len]; omega⟩
          clear hl1 hown1 hb1 h1 h2 h3
          go_wp2_with fail
          exact ⟨rel1_next hlt HP.out HK.out HPO.out hc1 HR1.out HB1.out, by simp [intOf]; omega⟩
      · obtain rfl : k = n := by omega
        have HLt : Hid (l.take k = l) := List.take_of_length_le (by rw [H.out.len]; omega)
        have HOK : Hid (∀ p ∈ l, p.ok) := by have := HK.out; rwa [HLt.out] at this
        have HR' : Hid (Rd wr Ab m (encAll l)) := by have := HR.out; rwa [HLt.out] at this
        have hmb : m ≤ 12240 := by
          have h1 := HR.out.len
          have h2 := rel1_le HK.out
          omega
        clear HR HK HLt
        go_wp2_with fail
        refine (rNew_any Ab m cb _ wr HR'.out (by omega)).mono ?_
        rintro e w1 ⟨r, rfl, hr, hR, hb⟩
        have hrw : w.heap.size ≤ r := Nat.le_trans HB.out.size hr
        have HR1 := Lib.hid hR
        have HD1 := Lib.hid (HR'.out.below hb)
        have HB1 := Lib.hid (HB.out.trans (hb.mono HB.out.size))
        clear hR hb hr
        go_wp2_with fail
        obtain ⟨wo, rfl⟩ : ∃ wo : World, wo = wr := ⟨_, rfl⟩
        go_loopw [6] (fun i wr => ∃ j : Nat, j ≤ k ∧ i = .int .i64 (j : Int) ∧ Rdr wr r (encAll (l.drop j), false) ∧ Rd wr Ab m (encAll l) ∧ Below w.heap.size w wr) (fun i _ => k - (intOf i).toNat)
        case atStart => exact ⟨0, by omega, rfl, HR1.out, HD1.out, HB1.out⟩
        case round =>
          obtain ⟨j, hj, rfl, hR, hD, hbel⟩ := hrel
          have HR2 := Lib.hid hR
          have HD2 := Lib.hid hD
          have HB2 := Lib.hid hbel
          clear hR hD hbel
          by_cases hlt : j < k
          · obtain ⟨p, hp⟩ : ∃ p, l[j]? = some p := ⟨_, List.getElem?_eq_getElem (by rw [H.out.len]; exact hlt)⟩
            have HP := Lib.hid hp
            have HPO := Lib.hid (HOK.out p (List.mem_of_getElem? hp))
            obtain ⟨hd, hv, bb, off, Ap, np, cp, rfl, hcp, h1, h2, h3, h4⟩ := (H.out.below HB2.out).cells j p hp
            have HS := Lib.hid h4
            clear hp h4
            go_wp2_with fail
            have K1 : Calls Try.prog 20 #[.pointer (some ⟨r, 0, none⟩), .agg #[.int .u8 p.d, .int .u64 p.v, .slice Ap np cp]] wr (Got wr r (true, (encAll (l.drop (j + 1)), false))) := by
              have := got_any r Ap np cp (encAll (l.drop j), false) p wr HR2.out HS.out hd hv
              obtain ⟨hjl, e⟩ := List.getElem?_eq_some_iff.1 HP.out
              rwa [List.drop_eq_getElem_cons hjl, e, encAll_cons, got_enc p _ HPO.out] at this
            refine K1.mono ?_
            clear K1 h1 h2 h3
            rintro e w3 ⟨rfl, hR, hg⟩
            have HR3 := Lib.hid hR
            have HD3 := Lib.hid (HR2.out.rd HD2.out hg)
            have HB3 := Lib.hid (HB2.out.grown hg HB2.out.size (fun g hg => by injection hg with hg; omega))
            clear hR hg
            go_wp2_with fail
            exact ⟨⟨j + 1, by omega, rfl, HR3.out, HD3.out, HB3.out⟩, by simp [intOf]; omega⟩
          · obtain rfl : j = k := by omega
            have HRn : Hid (Rdr wr r ([], false)) := by
              have := HR2.out
              rwa [List.drop_of_length_le (by rw [H.out.len]; omega)] at this
            go_wp2_with fail
            have K1 : Calls Try.prog 21 #[.pointer (some ⟨r, 0, none⟩)] wr (fun e w' => e = .returned (.int .i64 0) ∧ wr = w') := rDone_any r _ wr HRn.out
            refine K1.mono ?_
            clear K1
            rintro e wr ⟨rfl, rfl⟩
            by_cases hj0 : j = 0
            · have hm0 : m = 0 := by
                have h1 := HD2.out.len
                have h2 : l = [] := List.eq_nil_of_length_eq_zero (by rw [H.out.len]; exact hj0)
                rw [h2] at h1
                exact h1.symm
              subst hm0
              subst hj0
              go_wp2_with fail
              refine (puts_any wr).mono ?_
              rintro e w9 ⟨rfl, hb⟩
              have B9 := Lib.hid (HB2.out.trans (hb.mono HB2.out.size))
              clear hb
              go_wp2_with fail
              go_ret
              exact ⟨rfl, B9.out⟩
            · have hm0 : 0 < m := by
                have h1 := HD2.out.len
                have h2 := encAll_pos l (by rw [H.out.len]; omega)
                omega
              have tm : ((m : Int) == 0) = false := beq_eq_false_iff_ne.2 (by omega)
              go_wp2_with fail
              have hdl : Hid ((encAll l).take (m - 1) = (encAll l).dropLast) := by
                show _ = _
                rw [List.dropLast_eq_take, HD2.out.len]
              have HX : Hid (Rd wr Ab (m - 1) (encAll l).dropLast) := by
                have := HD2.out.take (k := m - 1) (by omega)
                rwa [hdl.out] at this
              refine (rNew_any Ab (m - 1) cb _ wr HX.out (by omega)).mono ?_
              rintro e w4 ⟨rx, rfl, hr, hR, hb⟩
              have hrx : w.heap.size ≤ rx := Nat.le_trans HB2.out.size hr
              have HR4 := Lib.hid hR
              have HD4 := Lib.hid (HD2.out.below hb)
              have HB4 := Lib.hid (HB2.out.trans (hb.mono HB2.out.size))
              clear hR hb hr HX hdl
              have HBa := Lib.hid ((Below.refl w4.heap.size w4).alloc (Nat.le_refl _) (.cells #[] 5))
              go_wp2_with (at_builtin; refine wpList_append_Rd rfl (.tmp 65) (.tmp 66) _ rfl ty_bytes HI.out HZ0.out HZ1.out HZ2.out rfl rfl (own_lit0 w4 5) rfl (HD4.out.below HBa.out) (by omega) (by simp) ?_)
              intro v5 w5 hown5 hg5
              have HO5 := Lib.hid hown5
              have HBb := Lib.hid (HBa.out.grown hg5 (by simp) (fun g hg => ((own_lit0 w4 5).lt g hg).1))
              clear hown5 hg5
              go_wp2_with (at_builtin; refine wpList_append_own _ rfl (.tmp 67) (.tmp 68) _ rfl w4.heap.size 5 i0 _ 1 1 ty_bytes HI.out HZ0.out HZ1.out HZ2.out rfl (by decide) _ m _ rfl (HO5.out.alloc _) ⟨w5.heap.size, 0, none⟩ 1 1 _ rfl rfl (one_new _ _ _) (by simp [Value.oneCell']) (by unfold maxLen; omega) (by omega) (by simp; have := HBb.out.size; omega) ?_)
              intro v6 w6 hown6 hg6 _
              have HBc := Lib.hid ((HBb.out.alloc HBb.out.size _).grown hg6 (by simp; have := HBb.out.size; omega) (fun g hg => (HO5.out.lt g hg).1))
              have hown7 : w6.ownsRow w4.heap.size 5 1 v6 (m + 1) ((encAll l ++ [0]).map U) := by
                have := hown6
                simpa [U] using this
              clear hown6 hg6
              obtain ⟨A6, c6, rfl⟩ : ∃ A6 c6, v6 = .slice A6 (m + 1) c6 := by
                rcases hown7.2 with ⟨_, h0⟩ | ⟨g, cap, cur, h0, _⟩
                · omega
                · exact ⟨_, _, h0⟩
              have HY := Lib.hid (Rd.of_own hown7).1
              have HR6 := Lib.hid (HR4.out.below HBc.out)
              have HB6 := Lib.hid (HB4.out.trans (HBc.out.mono HB4.out.size))
              clear hown7 HO5 HBa HBb HBc
              go_wp2_with fail
              refine (rNew_any A6 (m + 1) c6 _ w6 HY.out (by omega)).mono ?_
              rintro e w7 ⟨ry, rfl, hr, hR, hb⟩
              have hry : w.heap.size ≤ ry := Nat.le_trans HB6.out.size hr
              have hne : rx ≠ ry := by have := HR6.out.lt; omega
              have HR7x := Lib.hid (HR6.out.below hb)
              have HR7 := Lib.hid hR
              have HB7 := Lib.hid (HB6.out.trans (hb.mono HB6.out.size))
              clear hR hb hr
              go_wp2_with fail
              obtain ⟨wo2, rfl⟩ : ∃ wo : World, wo = wr := ⟨_, rfl⟩
              have tj : ((j : Int) == 0) = false := beq_eq_false_iff_ne.2 (by omega)
              go_loopw [9] (fun i wr => Rel3 w j l rx ry i wr) (fun i _ => j - (intOf i).toNat)
              case atStart => exact ⟨0, by omega, rfl, HR7x.out, HR7.out, HB7.out⟩
              case round =>
                obtain ⟨q, hq, rfl, hRx, hRy, hbel⟩ := hrel
                have HRx := Lib.hid hRx
                have HRy := Lib.hid hRy
                have HB8 := Lib.hid hbel
                clear hRx hRy hbel
                by_cases hlt : q < j
                · obtain ⟨p, hp⟩ : ∃ p, l[q]? = some p := ⟨_, List.getElem?_eq_getElem (by rw [H.out.len]; exact hlt)⟩
                  have HP := Lib.hid hp
                  obtain ⟨hd, hv, bb, off, Ap, np, cp, rfl, hcp, h1, h2, h3, h4⟩ := H.out.cells q p hp
                  have HS := Lib.hid h4
                  have HC1 := Lib.hid h1
                  have HC2 := Lib.hid h2
                  have HC3 := Lib.hid h3
                  have a1 := (HB8.out.cell (World.block_lt_of_cell? w _ h1)).trans h1
                  have a2 := (HB8.out.cell (World.block_lt_of_cell? w _ h2)).trans h2
                  have a3 := (HB8.out.cell (World.block_lt_of_cell? w _ h3)).trans h3
                  clear hp h1 h2 h3 h4
                  go_wp2_with fail
                  refine (got_any rx Ap np cp _ p wr HRx.out (HS.out.below HB8.out) hd hv).mono ?_
                  rintro e w8 ⟨rfl, hR, hg⟩
                  have HRx8 := Lib.hid hR
                  have HRy8 := Lib.hid (Rdr.other HRy.out HRx.out (Ne.symm hne) hg)
                  have HB9 := Lib.hid (HB8.out.grown hg HB8.out.size (fun g hg => by injection hg with hg; omega))
                  clear hR hg a1 a2 a3
                  have a1 := (HB9.out.cell (World.block_lt_of_cell? w _ HC1.out)).trans HC1.out
                  have a2 := (HB9.out.cell (World.block_lt_of_cell? w _ HC2.out)).trans HC2.out
                  have a3 := (HB9.out.cell (World.block_lt_of_cell? w _ HC3.out)).trans HC3.out
                  go_wp2_with fail
                  refine (got_any ry Ap np cp _ p w8 HRy8.out (HS.out.below HB9.out) hd hv).mono ?_
                  rintro e w9 ⟨rfl, hR, hg⟩
                  have HRy9 := Lib.hid hR
                  have HRx9 := Lib.hid (Rdr.other HRx8.out HRy8.out hne hg)
                  have HB10 := Lib.hid (HB9.out.grown hg HB9.out.size (fun g hg => by injection hg with hg; omega))
                  clear hR hg a1 a2 a3
                  go_wp2_with fail
                  refine ⟨⟨q + 1, by omega, rfl, ?_, ?_, HB10.out⟩, by simp [intOf]; omega⟩
                  · rw [take_snoc l q p HP.out, after_snoc]; exact HRx9.out
                  · rw [take_snoc l q p HP.out, after_snoc]; exact HRy9.out
                · obtain rfl : q = j := by omega
                  have HLt : Hid (l.take q = l) := List.take_of_length_le (by rw [H.out.len]; omega)
                  have hx1 := HRx.out
                  have hy1 := HRy.out
                  rw [HLt.out] at hx1 hy1
                  have hx2 : (after l ((encAll l).dropLast, false)).2 = true := after_cut l HOK.out (by rw [H.out.len]; omega)
                  rw [after_all l [0] HOK.out] at hy1
                  have HX := Lib.hid hx1
                  have HX2 := Lib.hid hx2
                  have HY1 := Lib.hid hy1
                  clear hx1 hy1 hx2
                  go_wp2_with fail
                  have K1 : Calls Try.prog 21 #[.pointer (some ⟨rx, 0, none⟩)] wr (fun e w' => e = .returned (.int .i64 2) ∧ wr = w') := by
                    have := rDone_any rx _ wr HX.out
                    rwa [if_pos (.inl HX2.out)] at this
                  refine K1.mono ?_
                  clear K1
                  rintro e wr ⟨rfl, rfl⟩
                  go_wp2_with fail
                  have K1 : Calls Try.prog 21 #[.pointer (some ⟨ry, 0, none⟩)] wr (fun e w' => e = .returned (.int .i64 2) ∧ wr = w') := rDone_any ry _ wr HY1.out
                  refine K1.mono ?_
                  clear K1
                  rintro e wr ⟨rfl, rfl⟩
                  go_wp2_with fail
                  refine (puts_any wr).mono ?_
                  rintro e w9 ⟨rfl, hb⟩
                  have B9 := Lib.hid (HB8.out.trans (hb.mono HB8.out.size))
                  clear hb
                  go_wp2_with fail
                  go_ret
                  exact ⟨rfl, B9.out⟩

set_option maxRecDepth 100000 in
theorem lifted (os : Os) (started : os.Started) (H : Type) (enc : TypeId × Value → H) :
    ReturnsInHanded {} Try.checked os 5 .any (Rows.wireBackSpec.pre6 enc Try.prog Try.f5 Rows.wireBackRow.domain false) (Rows.wireBackSpec.post enc Try.prog Try.f5 false true false false) := by
  refine returnsInHanded_of_change (C := Try.checked) own started (by kernel_rfl) Try.func5
    (ChangeSpec.witness6 (enc := enc) (C := Try.checked) false ⟨#[], #[.slice none 0 0], []⟩ 8 (by kernel_rfl) (by kernel_rfl) (by kernel_rfl) (by kernel_rfl)) ?_
  intro W base args ds gs before hval0 hW hcnd _
  have hval : ∀ (j : Nat) t v, Try.f5.params[j]? = some t → args[j]? = some v → Value.okWide Try.prog W .any base t v := hval0
  have hW' := hW
  obtain ⟨p, q, hA0, hV, rfl, hfz, hnd⟩ := hW
  have hA : DataW.TrodAll enc Try.prog W 0 (fun _ => true) true Try.f5.params.toList args.toList ds p := hA0
  rw [Try.params5] at hA hval
  obtain ⟨v0, d0, rfl, rfl, h0⟩ := trodAll_one hA
  obtain ⟨rfl, rfl⟩ := trodVars_none hV
  obtain ⟨A, n, c, l, rfl, _, _, hr⟩ := open_parts (hval 0 _ v0 rfl rfl) h0
  refine (walk A n c l W hr).mono fun e W' ⟨he, hb⟩ => ?_
  subst he
  exact ⟨_, rfl, post_true laidOut (by kernel_rfl) ty_bool (by kernel_rfl) rfl hW' hb rfl⟩

theorem over : Rows.wireBackRow.holds Try.pinned (OpenSpec.ofChange Rows.wireBackSpec) :=
  OpenClaim.holds_of_wide 5 Try.f5 rfl rfl rfl rfl rfl rfl rfl ⟨rfl, rfl, rfl, rfl, rfl⟩ rfl rfl rfl rfl rfl (by kernel_rfl) Try.func5 (by kernel_rfl)
    (of_decide_eq_true (by kernel_rfl)) (by unfold Func.isWrapper; first | (rw [if_pos (by decide +kernel)]; kernel_rfl) | (rw [if_neg (by decide +kernel)]; exact ⟨rfl, rfl⟩))
    (fun os started H enc _ => lifted os started H enc)

theorem proved : Rows.WireBackSaid :=
  over
end Go.Proofs.Ytjpiaeidaoklaaa.wireBack
