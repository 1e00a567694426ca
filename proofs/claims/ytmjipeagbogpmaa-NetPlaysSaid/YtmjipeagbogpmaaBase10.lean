/- Lemmas, part 10: NetRef6, NetRef7, NetPlays0 -/
import Derived.Test.YtmjipeagbogpmaaBase8
import Derived.Test.YtmjipeagbogpmaaBase9
import Derived.Test.YtmjipeagbogpmaaBase7
namespace Go.Proofs.Ytmjipeagbogpmaa.Net
open Go.RowKit Disk Zab Sto

def onL (a b : Ad) (p : Ad × Ad) : Bool := decide (linkOf p.1 p.2 = linkOf a b)
def leftP (a b : Ad) (prs : List (Ad × Ad)) (k : Nat) : List (Ad × Ad) := (prs.take k).filter fun p => !onL a b p
theorem leftP_next {a b : Ad} {prs : List (Ad × Ad)} {k : Nat} {p : Ad × Ad} (hp : prs[k]? = some p) : leftP a b prs (k + 1) = leftP a b prs k ++ if onL a b p then [] else [p] := by
  obtain ⟨h1, h2⟩ := List.getElem?_eq_some_iff.1 hp
  unfold leftP
  rw [List.take_succ_eq_append_getElem h1, h2, List.filter_append]
  cases h : onL a b p <;> simp [h]
theorem leftP_len (a b : Ad) (prs : List (Ad × Ad)) (k : Nat) : (leftP a b prs k).length ≤ k := by
  refine Nat.le_trans (List.length_filter_le _ _) ?_
  rw [List.length_take]
  omega
theorem prsC_snoc (l : List (Ad × Ad)) (x : Ad × Ad) : prsC (l ++ [x]) = prsC l ++ prC x := by
  unfold prsC
  rw [List.flatMap_append]
  simp
theorem cut_turn (prs : List (Ad × Ad)) (a b : Ad) (v : Bool) : (fun l => if l = linkOf a b then v else cutOf prs l) = cutOf (leftP a b prs prs.length ++ if v then [(a, b)] else []) := by
  funext l
  unfold cutOf leftP
  rw [List.take_length, List.any_append]
  by_cases h : l = linkOf a b
  · rw [if_pos h]
    have e1 : ((prs.filter fun p => !onL a b p).any fun p => decide (linkOf p.1 p.2 = l)) = false := by
      rw [List.any_eq_false]
      intro p hp hd
      have h2 := (List.mem_filter.1 hp).2
      unfold onL at h2
      rw [← h] at h2
      rw [hd] at h2
      cases h2
    rw [e1]
    cases v
    · rfl
    · simp [h]
  · rw [if_neg h]
    have e2 : (if v = true then [(a, b)] else []).any (fun p => decide (linkOf p.1 p.2 = l)) = false := by
      cases v
      · rfl
      · have : ¬ linkOf a b = l := fun e => h e.symm
        simp [this]
    rw [e2, Bool.or_false, Bool.eq_iff_iff, List.any_eq_true, List.any_eq_true]
    constructor
    · rintro ⟨p, hp, hd⟩
      refine ⟨p, List.mem_filter.2 ⟨hp, ?_⟩, hd⟩
      unfold onL
      rw [of_decide_eq_true hd]
      simp [h]
    · rintro ⟨p, hp, hd⟩
      exact ⟨p, (List.mem_filter.1 hp).1, hd⟩
theorem ty_pairs : Try.prog.underlying 48 = some (.slice 66) := by kernel_rfl
theorem info_pair : (Try.prog.info? 66).map (fun i => (i.zero, i.size, i.bytes)) = some (some (.agg #[.int .i64 0, .int .i64 0, .int .i64 0, .int .i64 0]), 4, 32) := by kernel_rfl
theorem app_pair {base : Nat} {w : World} {v : Value} {l : List (Ad × Ad)} (hown : w.ownsRow base 66 4 v l.length (prsC l)) (x : Ad × Ad) (hlen : l.length ≤ 100000) (hbase : base ≤ w.heap.size) {W : World} (hW : W = w.alloc (.cells #[.int .i64 x.1.g, .int .i64 x.1.n, .int .i64 x.2.g, .int .i64 x.2.n] 66)) :
    ∃ v' W', (Builtin.append_ #[48, 48] 48 #[v, .slice (some ⟨w.heap.size, 0, none⟩) 1 1]).run Try.prog W = .ok v' W' ∧ W'.ownsRow base 66 4 v' (l ++ [x]).length (prsC (l ++ [x])) ∧ Out (fun b => v.ownBlock = some b) w W' ∧ ∀ b, v'.ownBlock = some b → v.ownBlock = some b ∨ w.heap.size ≤ b := by
  have hb : Below w.heap.size w W := by rw [hW]; exact (Below.refl _ _).alloc (Nat.le_refl _) _
  have hbk : Bk W w.heap.size 66 #[.int .i64 x.1.g, .int .i64 x.1.n, .int .i64 x.2.g, .int .i64 x.2.n] := by rw [hW]; exact Bk.new _ _ _
  obtain ⟨i0, hi, hz0, hz1, hz2⟩ := info_parts info_pair
  have hown1 := (own_out (X := fun _ => False) hown (Out.of_below hb) fun _ _ q => q).1
  obtain ⟨v', W', q1, q2, q3, q4, q5⟩ := run_append_own_at (P := Try.prog) W base 48 48 66 i0 _ 4 32 ty_pairs hi hz0 hz1 hz2 rfl (by decide) v l.length (prsC l) hown1 ⟨w.heap.size, 0, none⟩ 1 1 (prC x) rfl (fun j u hj => by
    rw [plus_add, hbk.cell]
    have e : (#[.int .i64 x.1.g, .int .i64 x.1.n, .int .i64 x.2.g, .int .i64 x.2.n] : Array Value)[j]? = (prC x)[j]? := by unfold prC; simp
    rw [e, hj]) (fun u hu => by
      simp only [prC, List.mem_cons, List.not_mem_nil, or_false] at hu
      rcases hu with rfl | rfl | rfl | rfl <;> rfl) (by unfold maxLen; omega) (by omega) (Nat.le_trans hbase hb.size)
  have hgr := out_grown q3
  have q4' : v'.ownBlock = v.ownBlock ∨ v'.ownBlock = some W.heap.size := by first | exact q5 | exact q4
  have hsz : W.heap.size = w.heap.size + 1 := by rw [hW]; simp
  refine ⟨v', W', q1, ?_, (Out.of_below hb).trans hgr fun b hb => .inl hb, fun b hb2 => ?_⟩
  · rw [prsC_snoc, List.length_append]
    exact q2
  · rcases q4' with q4 | q4
    · rw [q4] at hb2; exact .inl hb2
    · rw [q4] at hb2; injection hb2 with hb2; exact .inr (by omega)
theorem RfM.setC {w : World} {base gf : Nat} {As : Option Addr} {cs : Nat} {vL vC : Value} {z : Nt} {prs : List (Ad × Ad)} {P : Nat → Prop} (h : RfM w base gf As cs vL vC z prs P) {W : World} (hb : Below w.heap.size w W) {v : Value} {qrs : List (Ad × Ad)} (hv : W.ownsRow base 66 4 v qrs.length (prsC qrs)) (hn : ∀ b, v.ownBlock = some b → w.heap.size ≤ b) : RfM (W.setCell ⟨gf, 2, none⟩ v) base gf As cs vL v { z with cut := cutOf qrs } qrs P := by
  have h0 := h.below hb
  have ho : Out (fun b => b = gf) W (W.setCell ⟨gf, 2, none⟩ v) := Out.setCell (X := fun b => b = gf) _ rfl _
  have hgf := h.bk.lt
  have hne : ∀ b, v.ownBlock = some b → b ≠ gf := fun b hb2 e => by have := hn b hb2; omega
  refine ⟨h0.bk.set 2 v, rdv_out h0.sz ho fun a ha h1 e => ?_, h0.sb, h0.row.out ho (fun b hb2 e => (h0.pl b hb2).2.2.1 e) (fun b hb2 e => h0.gl.2.1 (by rw [← e]; exact hb2)), (own_out hv ho hne).1, rfl, fun b hb2 => ?_, ⟨h0.gl.1, h0.gl.2.1, fun e => hne _ e rfl⟩, fun b hb2 e => ?_⟩
  · have := h0.sb a ha h1
    have := h0.gl.1
    omega
  · obtain ⟨r1, r2, r3, r4, r5⟩ := h0.pl b hb2
    exact ⟨r1, Nat.lt_of_lt_of_le r2 ho.size, r3, r4, fun e => by have := hn b e; have := (h.pl b hb2).2.1; omega⟩
  · have := hn b e
    have := (h.row.lt b hb2).2
    omega
theorem own_sl {w : World} {base n size : Nat} {e : TypeId} {v : Value} {xs : List Value} (h : w.ownsRow base e size v n xs) : ∃ A c, v = .slice A n c := by
  rcases h.2 with ⟨rfl, rfl⟩ | ⟨g, cap, cur, rfl, _⟩
  · exact ⟨_, _, rfl⟩
  · exact ⟨_, _, rfl⟩
def RelT (W : World) (a b : Ad) (prs : List (Ad × Ad)) (n : Nat) (vo ki : Value) (wr : World) : Prop := ∃ (k : Nat) (V : Option Addr) (d : Nat), k ≤ n ∧ ki = .int .i64 (k : Int) ∧ vo = .slice V (leftP a b prs k).length d ∧ wr.ownsRow W.heap.size 66 4 vo (leftP a b prs k).length (prsC (leftP a b prs k)) ∧ Below W.heap.size W wr
section
variable {w : World} {base gf : Nat} {As : Option Addr} {cs : Nat} {vL vC : Value} {z : Nt} {prs : List (Ad × Ad)} {P : Nat → Prop}
set_option maxRecDepth 100000 in
set_option maxHeartbeats 4000000 in
theorem rturn_any (h : RfM w base gf As cs vL vC z prs P) (hz : sizesOk z.sizes = true) (hn : prs.length ≤ 100000) (a b : Ad) (v : Bool) : Calls Try.prog 10 #[.pointer (some ⟨gf, 0, none⟩), adV a, adV b, .bool v] w fun e w' => e = .returned (.int .i64 (z.turn a b v).2) ∧ ∃ vC' prs', RfM w' base gf As cs vL vC' (z.turn a b v).1 prs' P ∧ prs'.length ≤ prs.length + 1 ∧ Out (fun b => b = gf) w w' ∧ ∀ b, vC'.ownBlock = some b → vC.ownBlock = some b ∨ w.heap.size ≤ b := by
  have hB : Below w.heap.size w ((w.alloc (.cells #[.int .i64 a.g, .int .i64 a.n] 34)).alloc (.cells #[.int .i64 b.g, .int .i64 b.n] 34)) := ((Below.refl _ _).alloc (Nat.le_refl _) _).alloc (by simp) _
  have B2 : Bk ((w.alloc (.cells #[.int .i64 a.g, .int .i64 a.n] 34)).alloc (.cells #[.int .i64 b.g, .int .i64 b.n] 34)) (w.heap.size + 1) 34 #[.int .i64 b.g, .int .i64 b.n] := by simpa using Bk.new (w.alloc (.cells #[.int .i64 a.g, .int .i64 a.n] 34)) 34 #[.int .i64 b.g, .int .i64 b.n]
  have B1 := (Bk.new w 34 #[.int .i64 a.g, .int .i64 a.n]).alloc (.cells #[.int .i64 b.g, .int .i64 b.n] 34)
  have HM := Lib.hid (h.below hB)
  have H0 := Lib.hid h
  obtain ⟨n, hnn⟩ : ∃ n, n = prs.length := ⟨_, rfl⟩
  obtain ⟨A, c, rfl, hnc, -⟩ := pairs_get h.pr rfl
  have C1 := rlink_any HM.out hz a b
  obtain ⟨r, hr⟩ : ∃ r, r = z.link a b := ⟨_, rfl⟩
  rw [← hr] at C1
  have HB := Lib.hid hB
  have HB1 := Lib.hid B1
  have HB2 := Lib.hid B2
  have HN := Lib.hid hnn
  have p0 := B1.cell 0
  have p1 := B1.cell 1
  have p2 := B2.cell 0
  have p3 := B2.cell 1
  have hn' : n ≤ 100000 := by omega
  have CL := Lib.hid C1
  unfold adV at CL ⊢
  clear hB B1 B2 h hn hnc hz C1
  generalize hw : (w.alloc (.cells #[.int .i64 a.g, .int .i64 a.n] 34)).alloc (.cells #[.int .i64 b.g, .int .i64 b.n] 34) = W at *
  cases r
  · have e : z.turn a b v = (z, 1) := by unfold Nt.turn; rw [if_pos hr.symm]
    rw [e]
    clear e hr
    go_enter Try.func10, Try.ntmps10
    go_wp2_with fail
    refine CL.out.mono ?_
    rintro e w3 ⟨rfl, hb3⟩
    have hb := HB.out.trans (hb3.mono HB.out.size)
    have HF := Lib.hid (And.intro (H0.out.below hb) (Out.of_below (X := fun b => b = gf) hb))
    clear hb3 CL hb
    go_wp2_with fail
    go_ret
    exact ⟨rfl, _, prs, HF.out.1, by omega, HF.out.2, fun b hb => .inl hb⟩
  · have e : z.turn a b v = ({ z with cut := cutOf (leftP a b prs prs.length ++ if v then [(a, b)] else []) }, 0) := by
      unfold Nt.turn
      rw [if_neg (by rw [← hr]; simp), H0.out.cut, cut_turn]
    rw [e]
    clear e hr
    go_enter Try.func10, Try.ntmps10
    go_wp2_with fail
    refine CL.out.mono ?_
    rintro e w3 ⟨rfl, hb3⟩
    have HB3 := Lib.hid hb3
    clear hb3 CL p0 p1 p2 p3 hw
    go_wp2_with fail
    go_loopw [9, 10] (fun vo ki wr => RelT W a b prs n vo ki wr) (fun _ ki _ => n - (intOf ki).toNat)
    case atStart => exact ⟨0, none, 0, Nat.zero_le _, rfl, rfl, ⟨rfl, .inl ⟨rfl, rfl⟩⟩, HB3.out⟩
    case round =>
      obtain ⟨k, V, d, hk, rfl, rfl, hown, hbw⟩ := hrel
      have HBW := Lib.hid hbw
      have HOWN := Lib.hid hown
      have HMR := Lib.hid (HM.out.below hbw)
      have c2 := HMR.out.bk.cell 2
      clear hbw hown
      by_cases hlt : k < n
      · have c2' : wr.cell? ⟨gf, 2, none⟩ = some (.slice A prs.length c) := c2
        obtain ⟨A', c', e0, -, hget⟩ := pairs_get HMR.out.pr rfl
        injection e0 with e0 _ e1
        subst e0 e1
        obtain ⟨p, hp⟩ : ∃ p, prs[k]? = some p := ⟨_, List.getElem?_eq_getElem (by rw [← HN.out]; exact hlt)⟩
        obtain ⟨g, rfl, -, -, x0, x1, x2, x3⟩ := hget k p hp
        have HP := Lib.hid hp
        have i0 : (0 : Int) ≤ (k : Int) := by omega
        have i1 : (k : Int) < (prs.length : Int) := by omega
        have hbn : Below wr.heap.size wr (wr.alloc (.cells #[.int .i64 p.1.g, .int .i64 p.1.n, .int .i64 p.2.g, .int .i64 p.2.n] 66)) := (Below.refl _ _).alloc (Nat.le_refl _) _
        have K1 := (HB1.out.below HBW.out).below hbn
        have K2 := (HB2.out.below HBW.out).below hbn
        have p0 := K1.cell 0
        have p1 := K1.cell 1
        have p2 := K2.cell 0
        have p3 := K2.cell 1
        have KB := Bk.new wr 66 #[.int .i64 p.1.g, .int .i64 p.1.n, .int .i64 p.2.g, .int .i64 p.2.n]
        have y0 := KB.cell 0
        have y1 := KB.cell 1
        have y2 := KB.cell 2
        have y3 := KB.cell 3
        have HBN := Lib.hid (HBW.out.trans (hbn.mono HBW.out.size))
        have HBN1 := Lib.hid hbn
        clear K1 K2 hp hget c2 KB hbn
        obtain ⟨W5, hW5⟩ : ∃ W5, W5 = (wr.alloc (.cells #[.int .i64 p.1.g, .int .i64 p.1.n, .int .i64 p.2.g, .int .i64 p.2.n] 66)).alloc (.cells #[.int .i64 p.1.g, .int .i64 p.1.n, .int .i64 p.2.g, .int .i64 p.2.n] 66) := ⟨_, rfl⟩
        obtain ⟨v', W', hrun, hown', ho', hv'⟩ := app_pair ((own_out (X := fun _ => False) HOWN.out (Out.of_below HBN1.out) fun _ _ q => q).1) p (by have := leftP_len a b prs k; omega) HBN.out.size hW5
        have HRUN := Lib.hid hrun
        have HOWN' := Lib.hid hown'
        have HO' := Lib.hid ho'
        have HW5 := Lib.hid hW5
        clear hrun hown' ho' hv' hW5
        have HPE : Hid (∀ q, onL a b p = q → q = decide (linkOf p.1 p.2 = linkOf a b)) := fun q h => h.symm
        generalize hw4 : wr.alloc (.cells #[.int .i64 p.1.g, .int .i64 p.1.n, .int .i64 p.2.g, .int .i64 p.2.n] 66) = W4 at *
        obtain ⟨⟨fg, fn⟩, ⟨tg, tn⟩⟩ := p
        dsimp only at *
        obtain ⟨e1, he1⟩ : ∃ e1, e1 = decide ((⟨fg, fn⟩ : Ad) = a) := ⟨_, rfl⟩
        obtain ⟨e2, he2⟩ : ∃ e2, e2 = decide ((⟨tg, tn⟩ : Ad) = b) := ⟨_, rfl⟩
        obtain ⟨e3, he3⟩ : ∃ e3, e3 = decide ((⟨fg, fn⟩ : Ad) = b) := ⟨_, rfl⟩
        obtain ⟨e4, he4⟩ : ∃ e4, e4 = decide ((⟨tg, tn⟩ : Ad) = a) := ⟨_, rfl⟩
        have q1 := eq_addr fg fn a
        have q2 := eq_addr tg tn b
        have q3 := eq_addr fg fn b
        have q4 := eq_addr tg tn a
        rw [← he1] at q1
        rw [← he2] at q2
        rw [← he3] at q3
        rw [← he4] at q4
        have HE := Lib.hid (And.intro he1 (And.intro he2 (And.intro he3 he4)))
        clear he1 he2 he3 he4
        have HON : Hid (onL a b (⟨fg, fn⟩, ⟨tg, tn⟩) = ((e1 && e2) || (e3 && e4))) := by
          rw [HE.out.1, HE.out.2.1, HE.out.2.2.1, HE.out.2.2.2]
          show _ = _
          unfold onL
          rw [Bool.eq_iff_iff]
          simp only [decide_eq_true_eq, Bool.or_eq_true, Bool.and_eq_true]
          exact linkOf_eq _ _ _ _
        clear HE HPE
        have HYES : Hid (onL a b (⟨fg, fn⟩, ⟨tg, tn⟩) = true → RelT W a b prs n (.slice V (leftP a b prs k).length d) (.int .i64 ((k + 1 : Nat) : Int)) W4) := fun ht => by
          have e := leftP_next (a := a) (b := b) HP.out
          rw [ht, if_pos rfl, List.append_nil] at e
          refine ⟨k + 1, V, d, by omega, rfl, by rw [e], ?_, HBN.out⟩
          rw [e]
          exact (own_out (X := fun _ => False) HOWN.out (Out.of_below HBN1.out) fun _ _ q => q).1
        obtain ⟨V', d', rfl⟩ := own_sl HOWN'.out
        have HNO : Hid (onL a b (⟨fg, fn⟩, ⟨tg, tn⟩) = false → RelT W a b prs n (.slice V' (leftP a b prs k ++ [((⟨fg, fn⟩ : Ad), (⟨tg, tn⟩ : Ad))]).length d') (.int .i64 ((k + 1 : Nat) : Int)) W') := fun ht => by
          have e := leftP_next (a := a) (b := b) HP.out
          rw [ht, if_neg (by simp)] at e
          exact ⟨k + 1, V', d', by omega, rfl, by rw [e], by rw [e]; exact HOWN'.out, HO'.out.below HBN.out (fun b hb => (HOWN.out.lt b hb).1) HBN.out.size⟩
        clear HOWN' HO' HOWN HMR HP
        have hrun' := HRUN.out
        generalize (leftP a b prs k ++ [((⟨fg, fn⟩ : Ad), (⟨tg, tn⟩ : Ad))]).length = qn at *
        generalize (leftP a b prs k).length = qk at *
        cases e1
        · skip
          cases e3
          · skip
            have HR := Lib.hid (HNO.out (by rw [HON.out]; first | rfl | simp))
            clear HYES HNO HON hrun'
            rw [HW5.out] at HRUN
            go_wp2_with (at_builtin; refine wpList_append_of rfl (.tmp 56) (.tmp 58) 48 rfl rfl rfl HRUN.out ?_)
            go_wp2_with fail
            exact ⟨HR.out, by simp [intOf]; omega⟩
          · cases e4
            · skip
              have HR := Lib.hid (HNO.out (by rw [HON.out]; first | rfl | simp))
              clear HYES HNO HON hrun'
              rw [HW5.out] at HRUN
              go_wp2_with (at_builtin; refine wpList_append_of rfl (.tmp 56) (.tmp 58) 48 rfl rfl rfl HRUN.out ?_)
              go_wp2_with fail
              exact ⟨HR.out, by simp [intOf]; omega⟩
            · skip
              have HR := Lib.hid (HYES.out (by rw [HON.out]; first | rfl | simp))
              clear HYES HNO HON HRUN hrun'
              go_wp2_with fail
              exact ⟨HR.out, by simp [intOf]; omega⟩
        · cases e2
          · skip
            cases e3
            · skip
              have HR := Lib.hid (HNO.out (by rw [HON.out]; first | rfl | simp))
              clear HYES HNO HON hrun'
              rw [HW5.out] at HRUN
              go_wp2_with (at_builtin; refine wpList_append_of rfl (.tmp 56) (.tmp 58) 48 rfl rfl rfl HRUN.out ?_)
              go_wp2_with fail
              exact ⟨HR.out, by simp [intOf]; omega⟩
            · cases e4
              · skip
                have HR := Lib.hid (HNO.out (by rw [HON.out]; first | rfl | simp))
                clear HYES HNO HON hrun'
                rw [HW5.out] at HRUN
                go_wp2_with (at_builtin; refine wpList_append_of rfl (.tmp 56) (.tmp 58) 48 rfl rfl rfl HRUN.out ?_)
                go_wp2_with fail
                exact ⟨HR.out, by simp [intOf]; omega⟩
              · skip
                have HR := Lib.hid (HYES.out (by rw [HON.out]; first | rfl | simp))
                clear HYES HNO HON HRUN hrun'
                go_wp2_with fail
                exact ⟨HR.out, by simp [intOf]; omega⟩
          · skip
            have HR := Lib.hid (HYES.out (by rw [HON.out]; first | rfl | simp))
            clear HYES HNO HON HRUN hrun'
            go_wp2_with fail
            exact ⟨HR.out, by simp [intOf]; omega⟩
      · have v1 : ¬ (k : Int) < (prs.length : Int) := by omega
        obtain rfl : k = prs.length := by omega
        have c2' : wr.cell? ⟨gf, 2, none⟩ = some (.slice A prs.length c) := c2
        have fz2 : wr.frozen? ⟨gf, 2, none⟩ = false := HMR.out.bk.frozen 2
        have HBW0 : Hid (Below w.heap.size w wr) := HB.out.trans (HBW.out.mono HB.out.size)
        have HBA : Hid (base ≤ W.heap.size) := Nat.le_trans H0.out.gl.1 (Nat.le_trans (Nat.le_of_lt H0.out.bk.lt) HB.out.size)
        clear c2 hlt
        cases v
        · have hfin := H0.out.setC HBW0.out (own_mono HOWN.out HBA.out) (fun b hb => by have := (HOWN.out.lt b hb).1; have := HB.out.size; omega)
          have hlen := leftP_len a b prs prs.length
          try simp only [Bool.false_eq_true, if_false, List.append_nil] at *
          have HF : Hid (∃ vC' prs', RfM (wr.setCell ⟨gf, 2, none⟩ (.slice V (leftP a b prs prs.length).length d)) base gf As cs vL vC' { z with cut := cutOf (leftP a b prs prs.length) } prs' P ∧ prs'.length ≤ prs.length + 1 ∧ Out (fun b => b = gf) w (wr.setCell ⟨gf, 2, none⟩ (.slice V (leftP a b prs prs.length).length d)) ∧ ∀ b, vC'.ownBlock = some b → (Value.slice A prs.length c).ownBlock = some b ∨ w.heap.size ≤ b) :=
            ⟨_, _, hfin, by omega, (Out.of_below HBW0.out).trans (Out.setCell (X := fun b => b = gf) _ rfl _) fun b hb => .inl hb, fun b hb => .inr (by have := (HOWN.out.lt b hb).1; have := HB.out.size; omega)⟩
          clear hfin HOWN HMR hlen
          generalize (leftP a b prs prs.length).length = q at *
          go_wp2_with fail
          go_ret
          exact ⟨rfl, HF.out⟩
        · have K1 := HB1.out.below HBW.out
          have K2 := HB2.out.below HBW.out
          have p0 := K1.cell 0
          have p1 := K1.cell 1
          have p2 := K2.cell 0
          have p3 := K2.cell 1
          have hlen := leftP_len a b prs prs.length
          obtain ⟨W5, hW5⟩ : ∃ W5, W5 = wr.alloc (.cells #[.int .i64 a.g, .int .i64 a.n, .int .i64 b.g, .int .i64 b.n] 66) := ⟨_, rfl⟩
          obtain ⟨v', W', hrun, hown', ho', hv'⟩ := app_pair HOWN.out (a, b) (by omega) HBW.out.size hW5
          have hbw' : Below W.heap.size W W' := ho'.below HBW.out (fun b hb => (HOWN.out.lt b hb).1) HBW.out.size
          have hbw0 : Below w.heap.size w W' := HB.out.trans (hbw'.mono HB.out.size)
          have hvn : ∀ b, v'.ownBlock = some b → w.heap.size ≤ b := fun x hx => by
            have h1 := HB.out.size
            have h2 := HBW.out.size
            rcases hv' x hx with q | q
            · have := (HOWN.out.lt x q).1; omega
            · omega
          have hfin := H0.out.setC hbw0 (own_mono hown' HBA.out) hvn
          have hm' := HM.out.below hbw'
          have c3 : W'.cell? ⟨gf, 2, none⟩ = some (.slice A prs.length c) := hm'.bk.cell 2
          have fz3 : W'.frozen? ⟨gf, 2, none⟩ = false := hm'.bk.frozen 2
          obtain ⟨V', d', rfl⟩ := own_sl hown'
          try simp only [if_true] at *
          have HF : Hid (∃ vC' prs', RfM (W'.setCell ⟨gf, 2, none⟩ (.slice V' (leftP a b prs prs.length ++ [(a, b)]).length d')) base gf As cs vL vC' { z with cut := cutOf (leftP a b prs prs.length ++ [(a, b)]) } prs' P ∧ prs'.length ≤ prs.length + 1 ∧ Out (fun b => b = gf) w (W'.setCell ⟨gf, 2, none⟩ (.slice V' (leftP a b prs prs.length ++ [(a, b)]).length d')) ∧ ∀ b, vC'.ownBlock = some b → (Value.slice A prs.length c).ownBlock = some b ∨ w.heap.size ≤ b) :=
            ⟨_, _, hfin, by rw [List.length_append, List.length_singleton]; omega, (Out.of_below hbw0).trans (Out.setCell (X := fun b => b = gf) _ rfl _) fun b hb => .inl hb, fun b hb => .inr (hvn b hb)⟩
          rw [hW5] at hrun
          have HRUN := Lib.hid hrun
          clear hfin HOWN HMR hlen hrun hown' ho' hv' hbw' hbw0 hvn hm' hW5 K1 K2
          generalize (leftP a b prs prs.length ++ [(a, b)]).length = q at *
          generalize (leftP a b prs prs.length).length = qk at *
          try dsimp only at HRUN
          go_wp2_with (at_builtin; refine wpList_append_of rfl (.tmp 61) (.tmp 65) 48 rfl rfl rfl HRUN.out ?_)
          go_wp2_with fail
          go_ret
          exact ⟨rfl, HF.out⟩
end
end Go.Proofs.Ytmjipeagbogpmaa.Net

namespace Go.Proofs.Ytmjipeagbogpmaa.Net
open Go.RowKit Disk Zab Sto
open Phase (wp_region_line step_stays stepsL_cons stepsL_nil reachB)

theorem rd_v {w : World} {A : Option Addr} {n : Nat} {bs : List UInt8} (h : Rd w A n bs) : RdV w A n (bs.map U) := ⟨by rw [List.length_map]; exact h.len, fun h0 => by
  obtain ⟨ad, e, hc⟩ := h.cells h0
  refine ⟨ad, e, fun j v hj => ?_⟩
  rw [List.getElem?_map] at hj
  cases hb : bs[j]? with
  | none => rw [hb] at hj; cases hj
  | some b => rw [hb] at hj; injection hj with hj; subst hj; exact hc j b hb⟩
def RSendP (w : World) (base gf : Nat) (As : Option Addr) (cs : Nat) (vL vC : Value) (prs : List (Ad × Ad)) (P : Nat → Prop) (r : Nt × Int) (e : Ending) (w' : World) : Prop := e = .returned (.int .i64 r.2) ∧ ∃ vL' P', RfM w' base gf As cs vL' vC r.1 prs P' ∧ (∀ b, P' b → P b ∨ w.heap.size ≤ b) ∧ Out (RfM.wr gf vL vC) w w' ∧ ∀ b, vL'.ownBlock = some b → vL.ownBlock = some b ∨ w.heap.size ≤ b
section
variable {w : World} {base gf : Nat} {As : Option Addr} {cs : Nat} {vL vC : Value} {z : Nt} {prs : List (Ad × Ad)} {P : Nat → Prop}
theorem RfM.more (h : RfM w base gf As cs vL vC z prs P) {Q : Nat → Prop} (hq : ∀ b, Q b → base ≤ b ∧ b < w.heap.size ∧ b ≠ gf ∧ vL.ownBlock ≠ some b ∧ vC.ownBlock ≠ some b) : RfM w base gf As cs vL vC z prs (fun b => P b ∨ Q b) := by
  obtain ⟨h1, h2, h3, ⟨vs, h4, h4'⟩, h5, h6, h7, h8, h9⟩ := h
  exact ⟨h1, h2, h3, ⟨vs, h4, h4'.mono fun b hb => .inl hb⟩, h5, h6, fun b hb => hb.elim (h7 b) (hq b), h8, h9⟩
theorem RSendP.no (h : RfM w base gf As cs vL vC z prs P) {V : World} (hb : Below w.heap.size w V) (f : Int) : RSendP w base gf As cs vL vC prs P (z, f) (.returned (.int .i64 f)) V :=
  ⟨rfl, vL, P, h.below hb, fun _ hb => .inl hb, Out.of_below hb, fun _ hb => .inl hb⟩
set_option maxRecDepth 100000 in
set_option maxHeartbeats 4000000 in
theorem rsend_any (h : RfM w base gf As cs vL vC z prs P) (hz : sizesOk z.sizes = true) (hfew : z.row.length ≤ 4096) {l : Lt} {B : Option Addr} {m c : Nat} (hr : Rd w B m l.bs) (hm : m ≤ 140737488355328) : Calls Try.prog 9 #[.pointer (some ⟨gf, 0, none⟩), ltV l (.slice B m c)] w (RSendP w base gf As cs vL vC prs P (z.send l)) := by
  have hlen : l.bs.length = m := hr.len
  have hB : Below w.heap.size w (w.alloc (.cells (ltA l (.slice B m c)) 37)) := (Below.refl _ _).alloc (Nat.le_refl _) _
  have hbk := Bk.new w 37 (ltA l (.slice B m c))
  obtain ⟨A, c0, rfl, -, -, -, -⟩ := h.row.form
  have HM := Lib.hid (h.below hB)
  have H0 := Lib.hid h
  have HRD := Lib.hid (hr.below hB)
  have HB := Lib.hid hB
  have HBK := Lib.hid hbk
  obtain ⟨l0, l1, l2, l3, l4⟩ := bk_cells5 hbk
  have CK0 := rlink_any HM.out hz l.fr l.to
  obtain ⟨r, hrr⟩ : ∃ r, r = z.link l.fr l.to := ⟨_, rfl⟩
  rw [← hrr] at CK0
  have CK := Lib.hid CK0
  unfold adV at CK
  have hz1 : (w.alloc (.cells (ltA l (.slice B m c)) 37)).heap.size = w.heap.size + 1 := by simp
  clear hB hbk h hr CK0
  unfold ltV
  generalize hw : w.alloc (.cells (ltA l (.slice B m c)) 37) = W at *
  have HZ1 := Lib.hid hz1
  clear hz1
  unfold ltA at hw ⊢
  have hnx : ∀ V, Below W.heap.size W V → Below w.heap.size w V := fun V hb => HB.out.trans (hb.mono HB.out.size)
  have HNX := Lib.hid hnx
  clear hnx
  cases r
  · have e : z.send l = (z, 1) := by unfold Nt.send; rw [if_pos hrr.symm]
    rw [e]
    clear e hrr
    go_enter Try.func9, Try.ntmps9
    go_wp2_with fail
    refine CK.out.mono ?_
    rintro e w3 ⟨rfl, hb3⟩
    have HF := Lib.hid (RSendP.no H0.out (HNX.out _ hb3) 1)
    clear hb3 CK
    go_wp2_with fail
    go_ret
    exact HF.out
  by_cases hbig : 2097152 < m
  · have e : z.send l = (z, 1) := by unfold Nt.send; rw [if_neg (by rw [← hrr]; simp), if_pos (by omega)]
    rw [e]
    have i1 : (2097152 : Int) < (m : Int) := by omega
    clear e hrr
    go_enter Try.func9, Try.ntmps9
    go_wp2_with fail
    refine CK.out.mono ?_
    rintro e w3 ⟨rfl, hb3⟩
    have HF := Lib.hid (RSendP.no H0.out (HNX.out _ hb3) 1)
    obtain ⟨k0, k1, k2, k3, k4⟩ := bk_cells5 (HBK.out.below hb3)
    clear hb3 CK l0 l1 l2 l3 l4 hw
    go_wp2_with fail
    go_ret
    exact HF.out
  have i1 : ¬ (2097152 : Int) < (m : Int) := by omega
  obtain ⟨R, hR⟩ : ∃ R, R = z.send l := ⟨_, rfl⟩
  rw [← hR]
  have HRR := Lib.hid hR
  clear hR
  go_enter Try.func9, Try.ntmps9
  go_wp2_with fail
  refine CK.out.mono ?_
  rintro e w3 ⟨rfl, hb3⟩
  have HM3 := Lib.hid (HM.out.below hb3)
  have HB3 := Lib.hid hb3
  have HBK3 := Lib.hid (HBK.out.below hb3)
  have HRD3 := Lib.hid (HRD.out.below hb3)
  obtain ⟨k0, k1, k2, k3, k4⟩ := bk_cells5 HBK3.out
  have g1 : w3.cell? ⟨gf, 1, none⟩ = some (.slice A z.row.length c0) := HM3.out.bk.cell 1
  clear hb3 CK l0 l1 l2 l3 l4 hw
  by_cases hfull : 4096 ≤ z.row.length
  · have e : z.send l = (z, 4) := by
      unfold Nt.send Nt.add
      rw [if_neg (by rw [← hrr]; simp), if_neg (by omega), if_pos hfull]
    have i4 : (4096 : Int) ≤ (z.row.length : Int) := by omega
    have HF0 := RSendP.no H0.out (HNX.out _ HB3.out) 4
    rw [← e, ← HRR.out] at HF0
    have HF := Lib.hid HF0
    clear HF0
    clear e hrr
    go_wp2_with fail
    go_ret
    exact HF.out
  have e : z.send l = ({ z with row := z.row ++ [l] }, 0) := by
    unfold Nt.send Nt.add
    rw [if_neg (by rw [← hrr]; simp), if_neg (by omega), if_neg hfull]
  have i4 : ¬ (4096 : Int) ≤ (z.row.length : Int) := by omega
  have HRE : Hid (R = ({ z with row := z.row ++ [l] }, 0)) := by rw [HRR.out]; exact e
  clear e hrr
  go_wp2_with fail
  have hbd : Below w3.heap.size w3 w3.drew := below_drewN (Below.refl _ w3) 1
  obtain ⟨N1, hN1⟩ : ∃ N1, N1 = w3.heap.size := ⟨_, rfl⟩
  obtain ⟨W1, hW1⟩ : ∃ W1, W1 = w3.drew.alloc (.cells #[] 5) := ⟨_, rfl⟩
  have hb1 : Below w3.heap.size w3 W1 := by rw [hW1]; exact hbd.trans (((Below.refl _ _).alloc (Nat.le_refl _) _).mono hbd.size)
  have hol := own_lit1 w3.drew 5
  rw [← hW1] at hol
  have hdr : w3.drew.heap.size = w3.heap.size := rfl
  rw [hdr, ← hN1] at hol
  have hs1 : N1 ≤ W1.heap.size := by rw [hN1]; exact hb1.size
  obtain ⟨i0, hi, hz0, hz1, hz2⟩ := infos info_byte
  obtain ⟨v', W2, hra, hownb, hgb⟩ := run_append_RdV (P := Try.prog) (ty := 35) (t := 35) (e := 5) ty_bytes hi hz0 hz1 hz2 rfl hol (rd_v (HRD3.out.below hb1)) (fun u hu => by
    obtain ⟨x, _, rfl⟩ := List.mem_map.1 hu
    rfl) c (by unfold maxLen; omega) (by omega) hs1
  rw [Nat.zero_add, List.nil_append] at hownb
  have hb2 : Below w3.heap.size w3 W2 := hb1.grown hgb hb1.size (fun g hg => by rw [← hN1]; exact (hol.lt g hg).1)
  obtain ⟨B', c', rfl⟩ := own_slice hownb
  have hmc' : m ≤ c' := own_slice_le hownb
  have hrd2 := (Rd.of_own hownb).1
  have hbl : ∀ b, B' = some b → N1 ≤ b.block ∧ b.block < W2.heap.size := fun b hb => hownb.lt b.block (by rw [hb]; rfl)
  have hm2 := (HM3.out.below hb2).more (Q := fun b => N1 ≤ b ∧ b < W2.heap.size) (fun b hb => by
    obtain ⟨f1, f2, f3⟩ := HM3.out.fresh (g := b) (by omega)
    exact ⟨f1, hb.2, fun e => f2 (.inl e), fun e => f2 (.inr (.inl e)), fun e => f2 (.inr (.inr e))⟩)
  obtain ⟨N3, hN3⟩ : ∃ N3, N3 = W2.heap.size := ⟨_, rfl⟩
  obtain ⟨W3, hW3⟩ : ∃ W3, W3 = W2.alloc (.cells (ltA l (.slice B' m c')) 37) := ⟨_, rfl⟩
  obtain ⟨v5, W4, hrb, hm5, ho5, hc5, hv5⟩ := hm2.push hmc' hrd2 (fun b hb _ => .inr (hbl b hb)) (by omega) hW3
  rw [← hN3] at hrb
  obtain ⟨V5, d5, hvf, -⟩ := hm5.row.form
  obtain ⟨q5, hq5⟩ : ∃ q, q = (z.row ++ [l]).length := ⟨_, rfl⟩
  dsimp only at hvf
  rw [← hq5] at hvf
  clear hq5
  subst hvf
  have hb3' : Below w3.heap.size w3 W3 := by rw [hW3]; exact hb2.trans (((Below.refl _ _).alloc (Nat.le_refl _) _).mono hb2.size)
  have HFIN : Hid (RSendP w base gf As cs (.slice A z.row.length c0) vC prs P R (.returned (.int .i64 0)) (W4.setCell ⟨gf, 1, none⟩ (.slice V5 q5 d5))) := by
    rw [HRE.out]
    have hsw := (HNX.out _ HB3.out).size
    refine ⟨rfl, _, _, hm5, fun b hb => hb.imp id fun q => by omega, (((Out.of_below (X := RfM.wr gf (.slice A z.row.length c0) vC) (HNX.out _ HB3.out)).trans (Out.of_below (X := fun _ => False) hb2) fun _ q => q.elim).trans (ho5.mono (Y := RfM.wr gf (.slice A z.row.length c0) vC) fun b hb => .inl (.inr (.inl hb))) fun b hb => .inl hb).trans (Out.setCell (X := RfM.wr gf (.slice A z.row.length c0) vC) W4 (p := ⟨gf, 1, none⟩) (.inl rfl) _) fun b hb => .inl hb, fun b hb => ?_⟩
    rcases hv5 b hb with q | q
    · exact .inl q
    · have := hb2.size; exact .inr (by omega)
  obtain ⟨Ws, E0, E1, E2, E3, E4, E5⟩ : ∃ Ws : Nat → World, Hid (Ws 0 = w3.drew) ∧ Hid (Ws 1 = W1) ∧ Hid (Ws 2 = W2) ∧ Hid (Ws 3 = W3) ∧ Hid (Ws 4 = W4) ∧ Hid (Ws 5 = W4.setCell ⟨gf, 1, none⟩ (.slice V5 q5 d5)) := ⟨fun k => match k with | 0 => w3.drew | 1 => W1 | 2 => W2 | 3 => W3 | 4 => W4 | _ => W4.setCell ⟨gf, 1, none⟩ (.slice V5 q5 d5), rfl, rfl, rfl, rfl, rfl, rfl⟩
  have HC : Hid (∀ s, s ≤ 3 → ((Ws s).cell? ⟨w.heap.size, 0, none⟩ = some (.int .i64 l.fr.g) ∧ (Ws s).cell? ⟨w.heap.size, 1, none⟩ = some (.int .i64 l.fr.n) ∧ (Ws s).cell? ⟨w.heap.size, 2, none⟩ = some (.int .i64 l.to.g) ∧ (Ws s).cell? ⟨w.heap.size, 3, none⟩ = some (.int .i64 l.to.n) ∧ (Ws s).cell? ⟨w.heap.size, 4, none⟩ = some (.slice B m c)) ∧ (Ws s).cell? ⟨gf, 1, none⟩ = some (.slice A z.row.length c0)) := fun s hs => by
    have hX : ∀ V, Below w3.heap.size w3 V → (V.cell? ⟨w.heap.size, 0, none⟩ = some (.int .i64 l.fr.g) ∧ V.cell? ⟨w.heap.size, 1, none⟩ = some (.int .i64 l.fr.n) ∧ V.cell? ⟨w.heap.size, 2, none⟩ = some (.int .i64 l.to.g) ∧ V.cell? ⟨w.heap.size, 3, none⟩ = some (.int .i64 l.to.n) ∧ V.cell? ⟨w.heap.size, 4, none⟩ = some (.slice B m c)) ∧ V.cell? ⟨gf, 1, none⟩ = some (.slice A z.row.length c0) := fun V hV => ⟨bk_cells5 (HBK3.out.below hV), (HM3.out.below hV).bk.cell 1⟩
    match s, hs with
    | 0, _ => rw [E0.out]; exact hX _ hbd
    | 1, _ => rw [E1.out]; exact hX _ hb1
    | 2, _ => rw [E2.out]; exact hX _ hb2
    | 3, _ => rw [E3.out]; exact hX _ hb3'
  have HRA := Lib.hid hra
  have HRB := Lib.hid hrb
  have HC2 := Lib.hid hc5
  have HN1 := Lib.hid hN1
  have HN3 := Lib.hid hN3
  have HW1 := Lib.hid hW1
  have HW3 := Lib.hid hW3
  unfold ltA at HW3
  clear hbd hN1 hW1 hb1 hol hdr hs1 hi hz0 hz1 hz2 hra hownb hgb hb2 hmc' hrd2 hbl hm2 hN3 hW3 hrb hm5 ho5 hc5 hv5 hb3' k0 k1 k2 k3 k4 g1
  refine wp_region_line (fun k => ([.pointer (some ⟨gf, 0, none⟩), .pointer (some ⟨gf, 0, none⟩), .pointer (some ⟨gf, 0, none⟩), .pointer (some ⟨gf, 1, none⟩), .slice A z.row.length c0, .pointer (some ⟨w.heap.size, 0, none⟩), .agg #[.int .i64 l.fr.g, .int .i64 l.fr.n], .pointer (some ⟨w.heap.size, 2, none⟩), .agg #[.int .i64 l.to.g, .int .i64 l.to.n], .slice (some ⟨N1, 0, none⟩) 0 0, .pointer (some ⟨w.heap.size, 4, none⟩), .slice B m c, (.slice B' m c'), (.agg #[.int .i64 l.fr.g, .int .i64 l.fr.n, .int .i64 l.to.g, .int .i64 l.to.n, .slice B' m c']), .slice (some ⟨N3, 0, none⟩) 1 1, (.slice V5 q5 d5), .pointer (some ⟨gf, 0, none⟩), .pointer (some ⟨gf, 1, none⟩), undef] : List Value).getD k undef) [9, 12, 14, 15, 18] Ws 20 (by kernel_rfl) (by kernel_rfl) E0.out ?hin ?hchain ?hsteps ?F ?hF ?hend
  case hF =>
    simp only [List.length_cons, List.length_nil, Nat.zero_add, Nat.reduceAdd, Phase.final, List.getElem?_toArray, List.getElem?_cons_zero, List.getElem?_cons_succ, Option.bind_some, Act.put, List.setIfInBounds_toArray, List.set_cons_zero, List.set_cons_succ]
    exact rfl
  case hin =>
    intro k x hk
    match k, hk with
    | 0, hk => injection hk with hk; subst hk; decide
    | 1, hk => injection hk with hk; subst hk; decide
    | 2, hk => injection hk with hk; subst hk; decide
    | 3, hk => injection hk with hk; subst hk; decide
    | 4, hk => injection hk with hk; subst hk; decide
    | _ + 5, hk => cases hk
  case hchain =>
    intro k x y hx hy
    match k, hx, hy with
    | 0, hx, hy => injection hx with hx; injection hy with hy; subst hx hy; show reachB _ _ _ _ = true; kernel_rfl
    | 1, hx, hy => injection hx with hx; injection hy with hy; subst hx hy; show reachB _ _ _ _ = true; kernel_rfl
    | 2, hx, hy => injection hx with hx; injection hy with hy; subst hx hy; show reachB _ _ _ _ = true; kernel_rfl
    | 3, hx, hy => injection hx with hx; injection hy with hy; subst hx hy; show reachB _ _ _ _ = true; kernel_rfl
    | 4, _, hy => cases hy
    | _ + 5, hx, _ => cases hx
  case hsteps =>
    refine stepsL_cons ?_ (stepsL_cons ?_ (stepsL_cons ?_ (stepsL_cons ?_ (stepsL_cons ?_ (stepsL_cons ?_ (stepsL_cons ?_ (stepsL_cons ?_ (stepsL_cons ?_ (stepsL_cons ?_ (stepsL_cons ?_ (stepsL_cons ?_ (stepsL_cons ?_ (stepsL_cons ?_ (stepsL_cons ?_ (stepsL_cons ?_ (stepsL_cons ?_ (stepsL_cons ?_ (stepsL_cons ?_ (stepsL_nil)))))))))))))))))))
    · refine step_stays (by decide) fun a s hs hd h2 h3 K hK => ?_
      have h0 : a.tmps.getD 0 undef = .pointer (some ⟨gf, 0, none⟩) := hd.kept 0 (by kernel_rfl)
      unfold Oper.wp
      go_simp
      exact hK
    · refine step_stays (by decide) fun a s hs hd h2 h3 K hK => ?_
      have h0 : a.tmps.getD 0 undef = .pointer (some ⟨gf, 0, none⟩) := hd.kept 0 (by kernel_rfl)
      unfold Oper.wp
      go_simp
      exact hK
    · refine step_stays (by decide) fun a s hs hd h2 h3 K hK => ?_
      have h25 : a.tmps.getD 25 undef = .pointer (some ⟨gf, 0, none⟩) := hd.done_ 1 _ 25 (by kernel_rfl) rfl rfl
      unfold Oper.wp
      go_simp
      exact hK
    · refine step_stays (by decide) fun a s hs hd h2 h3 K hK => ?_
      have h26 : a.tmps.getD 26 undef = .pointer (some ⟨gf, 0, none⟩) := hd.done_ 2 _ 26 (by kernel_rfl) rfl rfl
      unfold Oper.wp
      go_simp
      exact hK
    · refine step_stays (by decide) fun a s hs hd h2 h3 K hK => ?_
      have h27 : a.tmps.getD 27 undef = .pointer (some ⟨gf, 1, none⟩) := hd.done_ 3 _ 27 (by kernel_rfl) rfl rfl
      have e0 : s ≤ 3 := h2 3 15 rfl (by kernel_rfl)
      have kc := (HC.out s e0).2
      unfold Oper.wp
      go_simp
      exact hK
    · refine step_stays (by decide) fun a s hs hd h2 h3 K hK => ?_
      have h3 : a.tmps.getD 3 undef = .pointer (some ⟨w.heap.size, 0, none⟩) := hd.kept 3 (by kernel_rfl)
      unfold Oper.wp
      go_simp
      exact hK
    · refine step_stays (by decide) fun a s hs hd h2 h3 K hK => ?_
      have h29 : a.tmps.getD 29 undef = .pointer (some ⟨w.heap.size, 0, none⟩) := hd.done_ 5 _ 29 (by kernel_rfl) rfl rfl
      have e0 : s ≤ 2 := h2 2 14 rfl (by kernel_rfl)
      obtain ⟨l0, l1, l2, l3, l4⟩ := (HC.out s (by omega)).1
      unfold Oper.wp
      go_simp
      exact hK
    · refine step_stays (by decide) fun a s hs hd h2 h3 K hK => ?_
      have h3 : a.tmps.getD 3 undef = .pointer (some ⟨w.heap.size, 0, none⟩) := hd.kept 3 (by kernel_rfl)
      unfold Oper.wp
      go_simp
      exact hK
    · refine step_stays (by decide) fun a s hs hd h2 h3 K hK => ?_
      have h31 : a.tmps.getD 31 undef = .pointer (some ⟨w.heap.size, 2, none⟩) := hd.done_ 7 _ 31 (by kernel_rfl) rfl rfl
      have e0 : s ≤ 2 := h2 2 14 rfl (by kernel_rfl)
      obtain ⟨l0, l1, l2, l3, l4⟩ := (HC.out s (by omega)).1
      unfold Oper.wp
      go_simp
      exact hK
    · intro a s hs hd h1 h2 h3 K hK
      obtain rfl := h1 0 rfl
      have hk := hK 1 (fun h => absurd rfl (h 0)) (fun k hk => by have := h1 k hk; omega)
      rw [E1.out, HW1.out, HN1.out] at hk
      rw [E0.out]
      unfold Oper.wp
      go_simp
      exact hk
    · refine step_stays (by decide) fun a s hs hd h2 h3 K hK => ?_
      have h3 : a.tmps.getD 3 undef = .pointer (some ⟨w.heap.size, 0, none⟩) := hd.kept 3 (by kernel_rfl)
      unfold Oper.wp
      go_simp
      exact hK
    · refine step_stays (by decide) fun a s hs hd h2 h3 K hK => ?_
      have h34 : a.tmps.getD 34 undef = .pointer (some ⟨w.heap.size, 4, none⟩) := hd.done_ 10 _ 34 (by kernel_rfl) rfl rfl
      have e0 : s ≤ 1 := h2 1 12 rfl (by kernel_rfl)
      obtain ⟨l0, l1, l2, l3, l4⟩ := (HC.out s (by omega)).1
      unfold Oper.wp
      go_simp
      exact hK
    · intro a s hs hd h1 h2 h3 K hK
      obtain rfl := h1 1 rfl
      have h33 : a.tmps.getD 33 undef = .slice (some ⟨N1, 0, none⟩) 0 0 := hd.done_ 9 _ 33 (by kernel_rfl) rfl rfl
      have h35 : a.tmps.getD 35 undef = .slice B m c := hd.done_ 11 _ 35 (by kernel_rfl) rfl rfl
      have hk := hK 2 (fun h => absurd rfl (h 1)) (fun k hk => by have := h1 k hk; omega)
      have e1 : Act.eval a (.tmp 33) = .slice (some ⟨N1, 0, none⟩) 0 0 := h33
      have e2 : Act.eval a (.tmp 35) = .slice B m c := h35
      unfold Oper.wp execOp
      simp only [resolve, invoke, builtin, Sem.run_bind, Sem.run_pure, Result.andThen_ok, List.map_toArray, List.map_cons, List.map_nil, e1, e2]
      rw [E1.out]
      rw [E2.out] at hk
      have hru := HRA.out
      rw [hru]
      exact hk
    · refine step_stays (by decide) fun a s hs hd h2 h3 K hK => ?_
      have h30 : a.tmps.getD 30 undef = .agg #[.int .i64 l.fr.g, .int .i64 l.fr.n] := hd.done_ 6 _ 30 (by kernel_rfl) rfl rfl
      have h32 : a.tmps.getD 32 undef = .agg #[.int .i64 l.to.g, .int .i64 l.to.n] := hd.done_ 8 _ 32 (by kernel_rfl) rfl rfl
      have h36 : a.tmps.getD 36 undef = (.slice B' m c') := hd.done_ 12 _ 36 (by kernel_rfl) rfl rfl
      have g30 : a.tmps[30]?.getD undef = .agg #[.int .i64 l.fr.g, .int .i64 l.fr.n] := by rw [← Array.getD_eq_getD_getElem?]; exact h30
      have g32 : a.tmps[32]?.getD undef = .agg #[.int .i64 l.to.g, .int .i64 l.to.n] := by rw [← Array.getD_eq_getD_getElem?]; exact h32
      have g36 : a.tmps[36]?.getD undef = (.slice B' m c') := by rw [← Array.getD_eq_getD_getElem?]; exact h36
      unfold Oper.wp
      go_simp
      exact hK
    · intro a s hs hd h1 h2 h3 K hK
      obtain rfl := h1 2 rfl
      have h37 : a.tmps.getD 37 undef = (.agg #[.int .i64 l.fr.g, .int .i64 l.fr.n, .int .i64 l.to.g, .int .i64 l.to.n, .slice B' m c']) := hd.done_ 13 _ 37 (by kernel_rfl) rfl rfl
      have hk := hK 3 (fun h => absurd rfl (h 2)) (fun k hk => by have := h1 k hk; omega)
      rw [E3.out, HW3.out, HN3.out] at hk
      rw [E2.out]
      have g37 : a.tmps[37]?.getD undef = (.agg #[.int .i64 l.fr.g, .int .i64 l.fr.n, .int .i64 l.to.g, .int .i64 l.to.n, .slice B' m c']) := by rw [← Array.getD_eq_getD_getElem?]; exact h37
      unfold Oper.wp
      go_simp
      first
        | exact hk
        | (simp only [g37]; go_simp; exact hk)
    · intro a s hs hd h1 h2 h3 K hK
      obtain rfl := h1 3 rfl
      have h28 : a.tmps.getD 28 undef = .slice A z.row.length c0 := hd.done_ 4 _ 28 (by kernel_rfl) rfl rfl
      have h38 : a.tmps.getD 38 undef = .slice (some ⟨N3, 0, none⟩) 1 1 := hd.done_ 14 _ 38 (by kernel_rfl) rfl rfl
      have hk := hK 4 (fun h => absurd rfl (h 3)) (fun k hk => by have := h1 k hk; omega)
      have e1 : Act.eval a (.tmp 28) = .slice A z.row.length c0 := h28
      have e2 : Act.eval a (.tmp 38) = .slice (some ⟨N3, 0, none⟩) 1 1 := h38
      unfold Oper.wp execOp
      simp only [resolve, invoke, builtin, Sem.run_bind, Sem.run_pure, Result.andThen_ok, List.map_toArray, List.map_cons, List.map_nil, e1, e2]
      rw [E3.out]
      rw [E4.out] at hk
      have hru := HRB.out
      rw [hru]
      exact hk
    · refine step_stays (by decide) fun a s hs hd h2 h3 K hK => ?_
      have h24 : a.tmps.getD 24 undef = .pointer (some ⟨gf, 0, none⟩) := hd.done_ 0 _ 24 (by kernel_rfl) rfl rfl
      unfold Oper.wp
      go_simp
      exact hK
    · refine step_stays (by decide) fun a s hs hd h2 h3 K hK => ?_
      have h40 : a.tmps.getD 40 undef = .pointer (some ⟨gf, 0, none⟩) := hd.done_ 16 _ 40 (by kernel_rfl) rfl rfl
      unfold Oper.wp
      go_simp
      exact hK
    · intro a s hs hd h1 h2 h3 K hK
      obtain rfl := h1 4 rfl
      have h41 : a.tmps.getD 41 undef = .pointer (some ⟨gf, 1, none⟩) := hd.done_ 17 _ 41 (by kernel_rfl) rfl rfl
      have h39 : a.tmps.getD 39 undef = (.slice V5 q5 d5) := hd.done_ 15 _ 39 (by kernel_rfl) rfl rfl
      have hk := hK 5 (fun h => absurd rfl (h 4)) (fun k hk => by have := h1 k hk; omega)
      rw [E5.out] at hk
      rw [E4.out]
      have hc := HC2.out.1
      have hfz := HC2.out.2
      unfold Oper.wp
      go_simp
      exact hk
  case hend =>
    show Exit.then _ _ _ _ _
    have e2 : Ws ([9, 12, 14, 15, 18] : List Nat).length = W4.setCell ⟨gf, 1, none⟩ (.slice V5 q5 d5) := E5.out
    rw [e2]
    clear e2
    go_wp2_with fail
    go_ret
    exact HFIN.out
end
end Go.Proofs.Ytmjipeagbogpmaa.Net

namespace Go.Proofs.Ytmjipeagbogpmaa.Net
open Go.RowKit Disk Zab Sto

section
variable {w W : World} {base gf : Nat} {As : Option Addr} {cs : Nat} {vL vC : Value} {z : Nt} {prs : List (Ad × Ad)} {P : Nat → Prop}
theorem RfM.out2 {X : Nat → Prop} (h : RfM w base gf As cs vL vC z prs P) (ho : Out X w W) (hs : ∀ a, As = some a → ¬ X a.block) (hw : ∀ b, RfM.wr gf vL vC b → ¬ X b) (hp : ∀ b, P b → ¬ X b) : RfM W base gf As cs vL vC z prs P := by
  obtain ⟨h1, h2, h3, h4, h5, h6, h7, h8, h9⟩ := h
  exact ⟨h1.kept (ho.block _ h1.lt (hw _ (.inl rfl))), rdv_out h2 ho fun a ha _ hq => hs a ha hq, h3, h4.out ho hp fun b hb => hw b (.inr (.inl hb)), (own_out h5 ho fun b hb => hw b (.inr (.inr hb))).1, h6, fun b hb => ⟨(h7 b hb).1, Nat.lt_of_lt_of_le (h7 b hb).2.1 ho.size, (h7 b hb).2.2⟩, h8, h9⟩
theorem RfM.wr_in (h : RfM w base gf As cs vL vC z prs P) : ∀ b, RfM.wr gf vL vC b → base ≤ b ∧ b < w.heap.size := fun b hb => by
  rcases hb with rfl | hb | hb
  · exact ⟨h.gl.1, h.bk.lt⟩
  · exact h.row.lt b hb
  · exact h.pr.lt b hb
end
structure Both (w1 wr : World) (base gf gz : Nat) (As : Option Addr) (cs : Nat) (O : Nat → Prop) (y z : Nt) (vL vC : Value) (prs : List (Ad × Ad)) (P : Nat → Prop) (k m : Nat) : Prop where
  sn : Sn w1 wr O gz y k
  rf : RfM wr base gf As cs vL vC z prs P
  ne : ∀ b, O b → ¬ RfM.wr gf vL vC b ∧ ¬ P b
  sa : ∀ a, As = some a → a.block < w1.heap.size
  bs : w1.heap.size ≤ base
  few : prs.length ≤ m
section
variable {w1 w W : World} {base gf gz : Nat} {As : Option Addr} {cs : Nat} {O O' : Nat → Prop} {x y z : Nt} {vL vC vL' vC' : Value} {prs prs' : List (Ad × Ad)} {P P' X : Nat → Prop} {k j m : Nat}
theorem Both.later (h : Both w1 w base gf gz As cs O y z vL vC prs P k m) (hb : Below w.heap.size w W) : Both w1 W base gf gz As cs O y z vL vC prs P k m :=
  ⟨h.sn.later hb, h.rf.below hb, h.ne, h.sa, h.bs, h.few⟩
theorem Both.lt (h : Both w1 w base gf gz As cs O y z vL vC prs P k m) {b : Nat} (hb : O b) : w1.heap.size ≤ b ∧ b < w.heap.size := h.sn.nt.low b hb
theorem Both.fresh (h : Both w1 w base gf gz As cs O y z vL vC prs P k m) {g : Nat} (hg : w.heap.size ≤ g) : ¬ O g ∧ ¬ RfM.wr gf vL vC g ∧ ¬ P g ∧ w1.heap.size ≤ g :=
  ⟨fun hq => by have := (h.lt hq).2; omega, (h.rf.fresh hg).2.1, (h.rf.fresh hg).2.2, Nat.le_trans h.sn.bl.size hg⟩
theorem Both.does (h : Both w1 w base gf gz As cs O y z vL vC prs P k m) (hs : Sn w1 W O' gz x j) (hg : Go_ O O' w W) : Both w1 W base gf gz As cs O' x z vL vC prs P j m :=
  ⟨hs, h.rf.out2 hg.1 (fun a ha hq => by have := h.sa a ha; have := (h.lt hq).1; omega) (fun b hb hq => (h.ne b hq).1 hb) (fun b hb hq => (h.ne b hq).2 hb), fun b hb => (hg.2 b hb).elim (h.ne b) fun q => ⟨(h.rf.fresh q).2.1, (h.rf.fresh q).2.2⟩, h.sa, h.bs, h.few⟩
theorem Both.ref (h : Both w1 w base gf gz As cs O y z vL vC prs P k m) (hr : RfM W base gf As cs vL' vC' x prs' P') (ho : Out X w W) (hx : ∀ b, X b → RfM.wr gf vL vC b) (hl : ∀ b, vL'.ownBlock = some b → vL.ownBlock = some b ∨ w.heap.size ≤ b) (hc : ∀ b, vC'.ownBlock = some b → vC.ownBlock = some b ∨ w.heap.size ≤ b) (hp : ∀ b, P' b → P b ∨ w.heap.size ≤ b) (hm : prs'.length ≤ j) : Both w1 W base gf gz As cs O y x vL' vC' prs' P' k j :=
  ⟨⟨h.sn.nt.out ho fun b hb hq => (h.ne b hb).1 (hx b hq), ho.below h.sn.bl (fun b hb => Nat.le_trans h.bs (h.rf.wr_in b (hx b hb)).1) h.sn.bl.size⟩, hr, fun b hb => ⟨fun hq => by
    have hlt := (h.lt hb).2
    rcases hq with rfl | hq | hq
    · exact (h.ne _ hb).1 (.inl rfl)
    · rcases hl b hq with q | q
      · exact (h.ne _ hb).1 (.inr (.inl q))
      · omega
    · rcases hc b hq with q | q
      · exact (h.ne _ hb).1 (.inr (.inr q))
      · omega, fun hq => by
    have hlt := (h.lt hb).2
    rcases hp b hq with q | q
    · exact (h.ne _ hb).2 q
    · omega⟩, h.sa, h.bs, hm⟩
theorem Both.set5 (h : Both w1 w base gf gz As cs O y z vL vC prs P k m) {g : Nat} (h1 : ¬ O g) (h2 : ¬ RfM.wr gf vL vC g) (h3 : ¬ P g) (h4 : w1.heap.size ≤ g) (a b c d e : Value) : Both w1 (Net.set5 w g a b c d e) base gf gz As cs O y z vL vC prs P k m :=
  ⟨⟨h.sn.nt.out (out_set5 _ _ _ _ _ _ _) fun b hb q => h1 (q ▸ hb), below_set5 h.sn.bl h4 _ _ _ _ _⟩, h.rf.out2 (out_set5 _ _ _ _ _ _ _) (fun a ha q => by have := h.sa a ha; omega) (fun b hb q => h2 (q ▸ hb)) (fun b hb q => h3 (q ▸ hb)), h.ne, h.sa, h.bs, h.few⟩
end
end Go.Proofs.Ytmjipeagbogpmaa.Net
