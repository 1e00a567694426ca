/- Lemmas, part 28: StoAfter, StoAgain, StoTail -/
import Derived.Test.YtmhfhhhhbcignaaGreatBase27
import Derived.Test.YtmhfhhhhbcignaaGreatBase8
import Derived.Deep.AppendSrc
namespace Go.Proofs.YtmhfhhhhbcignaaGreat.Sto
open Go.RowKit Disk Log
open PhaseG (wp_region_own Took)
open Phase (stepsL_cons stepsL_nil)

theorem line_form : Tryz.prog.underlying 33 = some (.slice 63) := by kernel_rfl
theorem wp_append_of {P : Program} {w w' : World} {o : Oper} {a : Act} {K : Act → World → Prop} {Q : Exit → Act → World → Prop} (s x : Operand) (t : TypeId) (ho : o.op = .call { callee := .builtin .append, args := #[s, x], argTypes := #[t, t] }) {v u r : Value} (hs : a.eval s = v) (hx : a.eval x = u) (hr : (Builtin.append_ #[t, t] o.type #[v, u]).run P w = .ok r w') (h : K (a.put o.dst r) w') : o.wp P a w K Q := by
  unfold Oper.wp execOp
  simp only [ho, resolve, invoke, builtin, Sem.run_bind, Sem.run_pure, Result.andThen_ok, List.map_toArray, List.map_cons, List.map_nil, hs, hx, hr]
  exact h
set_option maxRecDepth 8000 in
theorem run_append_lines {base : Nat} {W : World} {g n cap : Nat} {xs : List Value} (hown : W.ownsRow base 63 2 (.slice (some ⟨g, 0, none⟩) n cap) n xs) {B : Option Addr} {m : Nat} (c : Nat) {ms : List Ln} {us : List Value} (hB : ∀ ad, B = some ad → ∀ j u, (lnsC ms us)[j]? = some u → W.cell? (ad.add j) = some u) (hBn : B = none → m = 0) (hms : ms.length = m) (hus : us.length = ms.length) (h1 : ∀ u ∈ lnsC ms us, u.oneCell' = true) (hm : n + m ≤ 1000000) (hbase : base ≤ W.heap.size) :
    ∃ g' cap' W', (Builtin.append_ #[33, 33] 33 #[.slice (some ⟨g, 0, none⟩) n cap, .slice B m c]).run Tryz.prog W = .ok (.slice (some ⟨g', 0, none⟩) (n + m) cap') W' ∧ W'.ownsRow base 63 2 (.slice (some ⟨g', 0, none⟩) (n + m) cap') (n + m) (xs ++ lnsC ms us) ∧ W.grownBy W' (some g) ∧ (g' = g ∨ W.heap.size ≤ g') ∧ g' < W'.heap.size := by
  obtain ⟨i0, hi, hz0, hz1, hz2⟩ := info_parts info_line
  have hlen := lnsC_length ms us hus.symm
  rcases Nat.eq_zero_or_pos m with h0 | h0
  · subst h0
    obtain rfl : ms = [] := List.eq_nil_of_length_eq_zero hms
    have hs : Src Tryz.prog i0.size 33 (.slice B 0 c) 0 [] W := by
      cases B with
      | none => exact Src.ofNil _ line_form c
      | some a => exact Src.ofSlice _ line_form a 0 c [] (by simp) (fun j u hu => by simp at hu) (fun u hu => by cases hu)
    have hx : lnsC [] us = [] := by cases us <;> rfl
    obtain ⟨hnc, hg⟩ : n ≤ cap ∧ g < W.heap.size := by
      rcases hown.2 with ⟨h', _⟩ | ⟨g', cap', cur, e, _, hh, hc, _⟩
      · simp at h'
      · injection e with e1 e2 e3
        injection e1 with e1
        injection e1 with e1
        subst e1 e3
        exact ⟨hc, (Array.getElem?_eq_some_iff.1 hh).1⟩
    exact ⟨g, cap, W, run_append_room_src W _ _ 33 _ i0 line_form hi g 0 n cap _ 0 [] hs (by omega) (fun j hj => by simp at hj) (fun j hj => by simp at hj), by rw [hx, List.append_nil]; exact hown, grown_refl _ _, .inl rfl, hg⟩
  · cases B with
    | none => exact absurd (hBn rfl) (by omega)
    | some ad =>
      obtain ⟨g', cap', W', hrun, h2, h3, h4, h5⟩ := run_append_lies (P := Tryz.prog) W 33 33 base 63 i0 _ 2 32 line_form hi hz0 hz1 hz2 rfl (by decide) _ n xs hown ad m c (lnsC ms us) (by rw [hlen, hms]; omega) (hB ad rfl) h1 h0 (by unfold maxLen; omega) (by omega) hbase _ rfl
      exact ⟨g', cap', W', hrun, h2, h3, h4.elim (fun q => .inl (by injection q with q; exact q.symm)) (fun q => .inr (by omega)), h5⟩
theorem own_outG {w w' : World} {base size : Nat} {e : TypeId} {g n cap m : Nat} {xs : List Value} {Z : Nat → Prop} (h : w.ownsRow base e size (.slice (some ⟨g, 0, none⟩) n cap) m xs) (ho : Out Z w w') (hg : ¬ Z g) : w'.ownsRow base e size (.slice (some ⟨g, 0, none⟩) n cap) m xs :=
  ⟨h.1, by
    rcases h.2 with h1 | ⟨g', cap', cur, e1, e2, hh, r⟩
    · exact .inl h1
    · injection e1 with e1 e3 e4
      injection e1 with e1
      injection e1 with e1
      subst e1 e3 e4
      exact .inr ⟨g, cap, cur, rfl, e2, (ho.block g (Array.getElem?_eq_some_iff.1 hh).1 hg).trans hh, r⟩⟩
def RowL (base n : Nat) (xs : List Value) (x : Value) (W : World) : Prop := ∃ g cap, x = .slice (some ⟨g, 0, none⟩) n cap ∧ W.ownsRow base 63 2 (.slice (some ⟨g, 0, none⟩) n cap) n xs ∧ g < W.heap.size
def conA (i : Nat) : Option Nat := if i = 7 then some 4 else if i = 10 then some 7 else none
def OA (k : Nat) (x : Value) (b : Nat) : Prop := (k = 4 ∨ k = 7 ∨ k = 10) ∧ x.ownBlock = some b
def RA (base h : Nat) (k : Kp) (A : Option Addr) (c : Nat) (l : List Ln) (B : Option Addr) (c2 : Nat) (vs us : List Value) : Nat → Value → World → Prop
  | 0, x, _ => x = .pointer (some ⟨h, 0, none⟩)
  | 1, x, _ => x = .int .u64 (k.promised : Int)
  | 2, x, _ => x = .pointer (some ⟨h, 1, none⟩)
  | 3, x, _ => x = .int .u64 (k.current : Int)
  | 4, x, W => RowL base 0 [] x W
  | 5, x, _ => x = .pointer (some ⟨h, 2, none⟩)
  | 6, x, _ => x = .slice A k.lines.length c
  | 7, x, W => RowL base k.lines.length (lnsC k.lines vs) x W
  | 8, x, _ => x = .pointer (some ⟨h + 1, 2, none⟩)
  | 9, x, _ => x = .slice B l.length c2
  | 10, x, W => RowL base (k.lines.length + l.length) (lnsC k.lines vs ++ lnsC l us) x W
  | _, x, _ => x = .string (S (textL k.promised k.current (k.lines ++ l)))
theorem RowL.out {base n : Nat} {xs : List Value} {x : Value} {W W' : World} {Z : Nat → Prop} (h : RowL base n xs x W) (ho : Out Z W W') (hn : ∀ b, x.ownBlock = some b → ¬ Z b) : RowL base n xs x W' := by
  obtain ⟨g, cap, rfl, h1, h2⟩ := h
  exact ⟨g, cap, rfl, own_outG h1 ho (hn g rfl), Nat.lt_of_lt_of_le h2 ho.size⟩
theorem RA.out {base h : Nat} {k : Kp} {A : Option Addr} {c : Nat} {l : List Ln} {B : Option Addr} {c2 : Nat} {vs us : List Value} (i : Nat) (x : Value) (Z : Nat → Prop) (W W' : World) (hr : RA base h k A c l B c2 vs us i x W) (ho : Out Z W W') (hn : ∀ b, OA i x b → ¬ Z b) : RA base h k A c l B c2 vs us i x W' := by
  match i, hr with
  | 0, q => exact q
  | 1, q => exact q
  | 2, q => exact q
  | 3, q => exact q
  | 4, q => exact RowL.out q ho fun b hb => hn b ⟨by omega, hb⟩
  | 5, q => exact q
  | 6, q => exact q
  | 7, q => exact RowL.out q ho fun b hb => hn b ⟨by omega, hb⟩
  | 8, q => exact q
  | 9, q => exact q
  | 10, q => exact RowL.out q ho fun b hb => hn b ⟨by omega, hb⟩
  | _ + 11, q => exact q
def afterK (s : List UInt8) (k : Kp) (x : A1) : List UInt8 := match deedA x with | none => s | some D => textK (D.run k)
theorem small_add {k : Kp} {l : List Ln} (hf : Fine k) (hs : Laid l) (hl : l.length ≤ 1000) : Small (k.lines ++ l) ∧ ∀ x ∈ k.lines ++ l, x.epoch < 18446744073709551616 := by
  obtain ⟨⟨h1, h2⟩, h3⟩ := fine_text hf
  refine ⟨⟨?_, fun x hx => ?_⟩, fun x hx => ?_⟩
  · rw [List.length_append]
    have := hf.many
    have := hs.1
    omega
  · rcases List.mem_append.1 hx with q | q
    · exact h2 x q
    · have := (hs.2 x q).1; omega
  · rcases List.mem_append.1 hx with q | q
    · exact h3 x q
    · exact (hs.2 x q).2
theorem small_of {l : List Ln} (hs : Laid l) : Small l ∧ ∀ x ∈ l, x.epoch < 18446744073709551616 := ⟨⟨by have := hs.1; omega, fun x hx => by have := (hs.2 x hx).1; omega⟩, fun x hx => (hs.2 x hx).2⟩
set_option maxRecDepth 8000 in
set_option maxHeartbeats 2000000 in
theorem after_any {P Q : Nat → Prop} {w : World} (s : List UInt8) (k : Kp) (A : Option Addr) (c : Nat) (x : A1) (B : Option Addr) (c2 : Nat) (hk : LnS P w A k.lines.length k.lines) (hl : LnS Q w B x.l.length x.l) (hf : Fine k) (hx : x.Ok) (hs : Laid x.l) (hl3 : x.l.length ≤ 1000) :
    Calls Tryz.prog 20 #[.string (S s), kpV k A c, actV x B c2] w fun e w' => e = .returned (.string (S (afterK s k x))) ∧ Below w.heap.size w w' := by
  obtain ⟨W, hW⟩ : ∃ W, W = (w.alloc (.cells #[.int .u64 (k.promised : Int), .int .u64 (k.current : Int), .slice A k.lines.length c] 51)).alloc (.cells #[.int .u8 (x.do_ : Int), .int .u64 (x.e : Int), .slice B x.l.length c2] 39) := ⟨_, rfl⟩
  have hb : Below w.heap.size w W := by rw [hW]; exact ((Below.refl _ _).alloc (Nat.le_refl _) _).alloc (by simp) _
  have hp := hf.prom
  have hc := hf.cur
  unfold top at hp hc
  have CP := Lib.hid (refText_any P x.e k.current k.lines A k.lines.length c W (hk.below hb) (fine_text hf).1 hx.e (by omega) (fine_text hf).2)
  have CA := Lib.hid (refText_any Q x.e x.e x.l B x.l.length c2 W (hl.below hb) (small_of hs).1 hx.e hx.e (small_of hs).2)
  have HB := Lib.hid hb
  have HW := Lib.hid hW
  have HDE : Hid (deedA x = if x.do_ % 5 = 0 then some (.prom x.e) else if x.do_ % 5 = 1 then some (.adopt x.e x.l) else if x.do_ % 5 = 4 then none else some (.add x.l)) := rfl
  have hd := hx.do_
  have hm : (x.do_ : Int) % 5 = ((x.do_ % 5 : Nat) : Int) := by omega
  obtain ⟨q, hq⟩ : ∃ q, q = x.do_ % 5 := ⟨_, rfl⟩
  have hq5 : q < 5 := by omega
  rw [← hq] at hm HDE
  have HK := Lib.hid hk
  have HL := Lib.hid hl
  have HF := Lib.hid hf
  have HS := Lib.hid hs
  unfold actV kpV
  clear hk hl hf hx hs hb hW hp hc
  rcases (show q = 0 ∨ q = 1 ∨ q = 4 ∨ (q = 2 ∨ q = 3) by omega) with rfl | rfl | rfl | hq23
  · have HE := HDE.out
    rw [if_pos rfl] at HE
    have HR : Hid (afterK s k x = textL x.e k.current k.lines) := by show _ = _; unfold afterK; rw [HE]; rfl
    clear HE hq HDE CA
    rw [HR.out]
    go_enter Tryz.func20, Tryz.ntmps20
    go_wp2_with fail
    rw [← HW.out]
    refine CP.out.mono ?_
    rintro e w2 ⟨rfl, hb⟩
    have HB2 := Lib.hid (HB.out.trans (hb.mono HB.out.size))
    clear hb CP
    go_wp2_with fail
    go_ret
    exact ⟨rfl, HB2.out⟩
  · have HE := HDE.out
    rw [if_neg (by decide), if_pos rfl] at HE
    have HR : Hid (afterK s k x = textL x.e x.e x.l) := by show _ = _; unfold afterK; rw [HE]; rfl
    clear HE hq HDE CP
    rw [HR.out]
    go_enter Tryz.func20, Tryz.ntmps20
    go_wp2_with fail
    rw [← HW.out]
    refine CA.out.mono ?_
    rintro e w2 ⟨rfl, hb⟩
    have HB2 := Lib.hid (HB.out.trans (hb.mono HB.out.size))
    clear hb CA
    go_wp2_with fail
    go_ret
    exact ⟨rfl, HB2.out⟩
  · have HE := HDE.out
    rw [if_neg (by decide), if_neg (by decide), if_pos rfl] at HE
    have HR : Hid (afterK s k x = s) := by show _ = _; unfold afterK; rw [HE]
    clear HE hq HDE CP CA
    rw [HR.out]
    go_enter Tryz.func20, Tryz.ntmps20
    go_wp2_with fail
    rw [← HW.out]
    go_ret
    exact ⟨rfl, HB.out⟩
  · have HE := HDE.out
    rw [if_neg (by omega), if_neg (by omega), if_neg (by omega)] at HE
    have HR : Hid (afterK s k x = textL k.promised k.current (k.lines ++ x.l)) := by show _ = _; unfold afterK; rw [HE]; rfl
    clear HE hq HDE CP CA
    rw [HR.out]
    rcases hq23 with rfl | rfl
    all_goals
      go_enter Tryz.func20, Tryz.ntmps20
      go_wp2_with fail
      rw [← HW.out]
      obtain ⟨vs, hv1, hc1⟩ := (HK.out.below HB.out).vals
      obtain ⟨us, hv2, hc2⟩ := (HL.out.below HB.out).vals
      have hbk : Bk W w.heap.size 51 #[.int .u64 (k.promised : Int), .int .u64 (k.current : Int), .slice A k.lines.length c] := by rw [HW.out]; exact (Bk.new w _ _).alloc _
      have hba : Bk W (w.heap.size + 1) 39 #[.int .u8 (x.do_ : Int), .int .u64 (x.e : Int), .slice B x.l.length c2] := by
        rw [HW.out]
        have := Bk.new (w.alloc (.cells #[.int .u64 (k.promised : Int), .int .u64 (k.current : Int), .slice A k.lines.length c] 51)) 39 #[.int .u8 (x.do_ : Int), .int .u64 (x.e : Int), .slice B x.l.length c2]
        rwa [World.size_alloc] at this
      have HBK : Hid (∀ V, Below W.heap.size W V → V.cell? ⟨w.heap.size, 0, none⟩ = some (.int .u64 (k.promised : Int)) ∧ V.cell? ⟨w.heap.size, 1, none⟩ = some (.int .u64 (k.current : Int)) ∧ V.cell? ⟨w.heap.size, 2, none⟩ = some (.slice A k.lines.length c)) := fun V hV => ⟨(hbk.below hV).cell 0, (hbk.below hV).cell 1, (hbk.below hV).cell 2⟩
      have HBA : Hid (∀ V, Below W.heap.size W V → V.cell? ⟨w.heap.size + 1, 2, none⟩ = some (.slice B x.l.length c2)) := fun V hV => (hba.below hV).cell 2
      have hA0 : A = none → k.lines.length = 0 := fun e => by
        rcases Nat.eq_zero_or_pos k.lines.length with h | h
        · exact h
        · obtain ⟨_, _, _, _, _, q, _⟩ := HK.out.at_ 0 _ (List.getElem?_eq_getElem h)
          rw [e] at q; cases q
      have hB0 : B = none → x.l.length = 0 := fun e => by
        rcases Nat.eq_zero_or_pos x.l.length with h | h
        · exact h
        · obtain ⟨_, _, _, _, _, q, _⟩ := HL.out.at_ 0 _ (List.getElem?_eq_getElem h)
          rw [e] at q; cases q
      have hmany := HF.out.many
      have HR1 : Hid (∀ V g cap, Below W.heap.size W V → V.ownsRow W.heap.size 63 2 (.slice (some ⟨g, 0, none⟩) 0 cap) 0 [] → ∃ g' cap' V', (Builtin.append_ #[33, 33] 33 #[.slice (some ⟨g, 0, none⟩) 0 cap, .slice A k.lines.length c]).run Tryz.prog V = .ok (.slice (some ⟨g', 0, none⟩) k.lines.length cap') V' ∧ V'.ownsRow W.heap.size 63 2 (.slice (some ⟨g', 0, none⟩) k.lines.length cap') k.lines.length (lnsC k.lines vs) ∧ V.grownBy V' (some g) ∧ (g' = g ∨ V.heap.size ≤ g') ∧ g' < V'.heap.size) := fun V g cap hV ho => by
        have := run_append_lines ho c (fun ad e j u hu => (hV.cell (World.block_lt_of_cell? W _ (hc1 ad e j u hu))).trans (hc1 ad e j u hu)) hA0 rfl hv1.len hv1.one (by omega) hV.size
        simpa using this
      have HR2 : Hid (∀ V g cap, Below W.heap.size W V → V.ownsRow W.heap.size 63 2 (.slice (some ⟨g, 0, none⟩) k.lines.length cap) k.lines.length (lnsC k.lines vs) → ∃ g' cap' V', (Builtin.append_ #[33, 33] 33 #[.slice (some ⟨g, 0, none⟩) k.lines.length cap, .slice B x.l.length c2]).run Tryz.prog V = .ok (.slice (some ⟨g', 0, none⟩) (k.lines.length + x.l.length) cap') V' ∧ V'.ownsRow W.heap.size 63 2 (.slice (some ⟨g', 0, none⟩) (k.lines.length + x.l.length) cap') (k.lines.length + x.l.length) (lnsC k.lines vs ++ lnsC x.l us) ∧ V.grownBy V' (some g) ∧ (g' = g ∨ V.heap.size ≤ g') ∧ g' < V'.heap.size) := fun V g cap hV ho =>
        run_append_lines ho c2 (fun ad e j u hu => (hV.cell (World.block_lt_of_cell? W _ (hc2 ad e j u hu))).trans (hc2 ad e j u hu)) hB0 rfl hv2.len hv2.one (by omega) hV.size
      have HT : Hid (∀ V g cap, Below W.heap.size W V → V.ownsRow W.heap.size 63 2 (.slice (some ⟨g, 0, none⟩) (k.lines.length + x.l.length) cap) (k.lines.length + x.l.length) (lnsC k.lines vs ++ lnsC x.l us) → Calls Tryz.prog 17 #[.int .u64 (k.promised : Int), .int .u64 (k.current : Int), .slice (some ⟨g, 0, none⟩) (k.lines.length + x.l.length) cap] V fun e V' => e = .returned (.string (S (textL k.promised k.current (k.lines ++ x.l)))) ∧ Below V.heap.size V V') := fun V g cap hV ho => by
        have hv := (hv1.below hV).append (hv2.below hV)
        have ho2 : V.ownsRow W.heap.size 63 2 (.slice (some ⟨g, 0, none⟩) (k.lines ++ x.l).length cap) (k.lines ++ x.l).length (lnsC (k.lines ++ x.l) (vs ++ us)) := by
          rw [lnsC_append _ _ _ _ hv1.len.symm, List.length_append]
          exact ho
        have hln := lns_of_row ho2 hv
        have hsm := small_add HF.out HS.out hl3
        have hp := HF.out.prom
        have hq := HF.out.cur
        unfold top at hp hq
        have := refText_any _ k.promised k.current (k.lines ++ x.l) _ _ cap V hln hsm.1 (by omega) (by omega) hsm.2
        rw [List.length_append] at this
        exact this
      clear hv1 hv2 hc1 hc2 hbk hba hA0 hB0
      refine wp_region_own conA (RA W.heap.size w.heap.size k A c x.l B c2 vs us) OA (by kernel_rfl) (by kernel_rfl) (by kernel_rfl) (by kernel_rfl) ?_ ?_ (fun v => { tmps := #[.string (S s), .agg #[.int .u64 (k.promised : Int), .int .u64 (k.current : Int), .slice A k.lines.length c], .agg #[.int .u8 (x.do_ : Int), .int .u64 (x.e : Int), .slice B x.l.length c2], undef, .pointer (some ⟨w.heap.size, 0, none⟩), .pointer (some ⟨w.heap.size + 1, 0, none⟩), v 12, .pointer (some ⟨w.heap.size + 1, 0, none⟩), .int .u8 (x.do_ : Int), .int .u8 ((x.do_ : Int) % 5), .bool false, .bool false, undef, undef, undef, undef, undef, undef, undef, .bool false, .bool false, undef, undef, undef, undef, undef, undef, undef, .bool false, .bool false, undef, v 0, v 1, v 2, v 3, v 4, v 5, v 6, v 7, v 8, v 9, v 10, v 11], defers := [] }) (fun v => by kernel_rfl) ?_
      · intro k x Z W W' hx hb ho hzw hz hn
        exact RA.out _ _ _ _ _ hx ho hn
      · refine stepsL_cons ?_ (stepsL_cons ?_ (stepsL_cons ?_ (stepsL_cons ?_ (stepsL_cons ?_ (stepsL_cons ?_ (stepsL_cons ?_ (stepsL_cons ?_ (stepsL_cons ?_ (stepsL_cons ?_ (stepsL_cons ?_ (stepsL_cons ?_ (stepsL_cons ?_ (stepsL_nil)))))))))))))
        · intro a v W hd hb K hK
          have k4 : a.tmps.getD 4 undef = .pointer (some ⟨w.heap.size, 0, none⟩) := hd.kept 4 (by kernel_rfl)
          have hk := hK (.pointer (some ⟨w.heap.size, 0, none⟩)) W (Out.refl _ _) rfl (fun b hob => absurd hob.1 (by omega))
          clear hK
          unfold Oper.wp
          go_simp
          exact hk
        · intro a v W hd hb K hK
          obtain ⟨h31, r31⟩ := hd.done_ 0 _ 31 (by kernel_rfl) rfl rfl (by kernel_rfl)
          have r31 : v 0 = .pointer (some ⟨w.heap.size, 0, none⟩) := r31
          rw [r31] at h31
          have kk := (HBK.out W hb).1
          have hk := hK (.int .u64 (k.promised : Int)) W (Out.refl _ _) rfl (fun b hob => absurd hob.1 (by omega))
          clear hK
          unfold Oper.wp
          go_simp
          exact hk
        · intro a v W hd hb K hK
          have k4 : a.tmps.getD 4 undef = .pointer (some ⟨w.heap.size, 0, none⟩) := hd.kept 4 (by kernel_rfl)
          have hk := hK (.pointer (some ⟨w.heap.size, 1, none⟩)) W (Out.refl _ _) rfl (fun b hob => absurd hob.1 (by omega))
          clear hK
          unfold Oper.wp
          go_simp
          exact hk
        · intro a v W hd hb K hK
          obtain ⟨h33, r33⟩ := hd.done_ 2 _ 33 (by kernel_rfl) rfl rfl (by kernel_rfl)
          have r33 : v 2 = .pointer (some ⟨w.heap.size, 1, none⟩) := r33
          rw [r33] at h33
          have kk := (HBK.out W hb).2.1
          have hk := hK (.int .u64 (k.current : Int)) W (Out.refl _ _) rfl (fun b hob => absurd hob.1 (by omega))
          clear hK
          unfold Oper.wp
          go_simp
          exact hk
        · intro a v W hd hb K hK
          have hk := hK (.slice (some ⟨W.heap.size, 0, none⟩) 0 0) (W.alloc (.cells #[] 63)) (Out.of_below ((Below.refl _ _).alloc (Nat.le_refl _) _)) ⟨W.heap.size, 0, rfl, ⟨rfl, .inr ⟨W.heap.size, 0, #[], rfl, hb.size, World.alloc_heap_new W _, Nat.le_refl _, Nat.zero_le _, rfl, rfl⟩⟩, by simp⟩ (fun b hob => by
            have hob : some W.heap.size = some b := hob.2
            injection hob with hob
            subst hob
            exact ⟨by simp, .inl (Nat.le_refl _)⟩)
          clear hK
          unfold Oper.wp
          go_simp
          exact hk
        · intro a v W hd hb K hK
          have k4 : a.tmps.getD 4 undef = .pointer (some ⟨w.heap.size, 0, none⟩) := hd.kept 4 (by kernel_rfl)
          have hk := hK (.pointer (some ⟨w.heap.size, 2, none⟩)) W (Out.refl _ _) rfl (fun b hob => absurd hob.1 (by omega))
          clear hK
          unfold Oper.wp
          go_simp
          exact hk
        · intro a v W hd hb K hK
          obtain ⟨h36, r36⟩ := hd.done_ 5 _ 36 (by kernel_rfl) rfl rfl (by kernel_rfl)
          have r36 : v 5 = .pointer (some ⟨w.heap.size, 2, none⟩) := r36
          rw [r36] at h36
          have kk := (HBK.out W hb).2.2
          have hk := hK (.slice A k.lines.length c) W (Out.refl _ _) rfl (fun b hob => absurd hob.1 (by omega))
          clear hK
          unfold Oper.wp
          go_simp
          exact hk
        · intro a v W hd hb K hK
          obtain ⟨h37, r37⟩ := hd.done_ 6 _ 37 (by kernel_rfl) rfl rfl (by kernel_rfl)
          have r37 : v 6 = .slice A k.lines.length c := r37
          rw [r37] at h37
          obtain ⟨h35, r35⟩ := hd.done_ 4 _ 35 (by kernel_rfl) rfl rfl (by kernel_rfl)
          skip
          obtain ⟨g, cap, e1, ho, hg⟩ := r35
          rw [e1] at h35
          obtain ⟨g', cap', V', hrun, h2, h3, h4, h5⟩ := HR1.out W g cap hb ho
          have hk := hK (.slice (some ⟨g', 0, none⟩) k.lines.length cap') V' (Out.mono (X := fun b => some g = some b) (out_grown h3) fun b hb => .inl ⟨4, rfl, by omega, by rw [e1]; exact hb⟩) ⟨g', cap', rfl, h2, h5⟩ (fun b hob => by
            have hob : some g' = some b := hob.2
            injection hob with hob
            subst hob
            exact ⟨h5, h4.elim (fun q => .inr ⟨4, rfl, by omega, by rw [e1, q]; rfl⟩) .inl⟩)
          exact wp_append_of (.tmp 35) (.tmp 37) _ rfl h35 h37 hrun hk
        · intro a v W hd hb K hK
          have k5 : a.tmps.getD 5 undef = .pointer (some ⟨w.heap.size + 1, 0, none⟩) := hd.kept 5 (by kernel_rfl)
          have hk := hK (.pointer (some ⟨w.heap.size + 1, 2, none⟩)) W (Out.refl _ _) rfl (fun b hob => absurd hob.1 (by omega))
          clear hK
          unfold Oper.wp
          go_simp
          exact hk
        · intro a v W hd hb K hK
          obtain ⟨h39, r39⟩ := hd.done_ 8 _ 39 (by kernel_rfl) rfl rfl (by kernel_rfl)
          have r39 : v 8 = .pointer (some ⟨w.heap.size + 1, 2, none⟩) := r39
          rw [r39] at h39
          have kk := HBA.out W hb
          have hk := hK (.slice B x.l.length c2) W (Out.refl _ _) rfl (fun b hob => absurd hob.1 (by omega))
          clear hK
          unfold Oper.wp
          go_simp
          exact hk
        · intro a v W hd hb K hK
          obtain ⟨h40, r40⟩ := hd.done_ 9 _ 40 (by kernel_rfl) rfl rfl (by kernel_rfl)
          have r40 : v 9 = .slice B x.l.length c2 := r40
          rw [r40] at h40
          obtain ⟨h38, r38⟩ := hd.done_ 7 _ 38 (by kernel_rfl) rfl rfl (by kernel_rfl)
          skip
          obtain ⟨g, cap, e1, ho, hg⟩ := r38
          rw [e1] at h38
          obtain ⟨g', cap', V', hrun, h2, h3, h4, h5⟩ := HR2.out W g cap hb ho
          have hk := hK (.slice (some ⟨g', 0, none⟩) (k.lines.length + x.l.length) cap') V' (Out.mono (X := fun b => some g = some b) (out_grown h3) fun b hb => .inl ⟨7, rfl, by omega, by rw [e1]; exact hb⟩) ⟨g', cap', rfl, h2, h5⟩ (fun b hob => by
            have hob : some g' = some b := hob.2
            injection hob with hob
            subst hob
            exact ⟨h5, h4.elim (fun q => .inr ⟨7, rfl, by omega, by rw [e1, q]; rfl⟩) .inl⟩)
          exact wp_append_of (.tmp 38) (.tmp 40) _ rfl h38 h40 hrun hk
        · intro a v W hd hb K hK
          obtain ⟨h32, r32⟩ := hd.done_ 1 _ 32 (by kernel_rfl) rfl rfl (by kernel_rfl)
          have r32 : v 1 = .int .u64 (k.promised : Int) := r32
          rw [r32] at h32
          obtain ⟨h34, r34⟩ := hd.done_ 3 _ 34 (by kernel_rfl) rfl rfl (by kernel_rfl)
          have r34 : v 3 = .int .u64 (k.current : Int) := r34
          rw [r34] at h34
          obtain ⟨h41, r41⟩ := hd.done_ 10 _ 41 (by kernel_rfl) rfl rfl (by kernel_rfl)
          obtain ⟨g, cap, e1, ho, hg⟩ := r41
          rw [e1] at h41
          have ct := HT.out W g cap hb ho
          have hk := hK
          clear hK
          unfold Oper.wp
          go_simp
          refine ct.mono ?_
          rintro e W' ⟨rfl, hbw⟩
          exact hk _ W' (Out.of_below hbw) rfl (fun b hob => absurd hob.1 (by omega))
        · intro a v W hd hb K hK
          obtain ⟨h42, r42⟩ := hd.done_ 11 _ 42 (by kernel_rfl) rfl rfl (by kernel_rfl)
          have r42 : v 11 = .string (S (textL k.promised k.current (k.lines ++ x.l))) := r42
          rw [r42] at h42
          have hk := hK (.string (S (textL k.promised k.current (k.lines ++ x.l)))) W (Out.refl _ _) rfl (fun b hob => absurd hob.1 (by omega))
          clear hK
          unfold Oper.wp
          go_simp
          exact hk
      · intro v w1 hb1 hv
        have v12 : v 12 = .string (S (textL k.promised k.current (k.lines ++ x.l))) := hv 12 (by decide) (fun j _ hc => by
          unfold conA at hc
          split at hc
          · cases hc
          · split at hc <;> cases hc)
        have HB1 := Lib.hid (HB.out.trans (hb1.mono HB.out.size))
        rw [v12]
        clear hv v12 hb1
        go_wp2_with fail
        go_ret
        exact ⟨rfl, HB1.out⟩

end Go.Proofs.YtmhfhhhhbcignaaGreat.Sto

namespace Go.Proofs.YtmhfhhhhbcignaaGreat.Sto
open Go.RowKit Disk Log

section
variable {w0 w w' : World} {Z P : Nat → Prop} {gs gd n : Nat} {k : Kp} {N : Nat}
def Kd (w0 w : World) (X : Nat → Prop) (gd n : Nat) (k : Kp) (N : Nat) : Prop := ∃ d, St w0 w X gd d.kill ∧ Rests d (n / 2) N (· = k) ∧ d.pages.length = n
theorem Ds.kill {X : Nat → Prop} (h : Ds w0 w X gd n k N) : Calls Tryz.prog 24 #[.pointer (some ⟨gd, 0, none⟩)] w fun e w' => e = .returned (.tuple #[]) ∧ ∃ X', Kd w0 w' X' gd n k N ∧ Grow X X' w w' := by
  obtain ⟨d, h1, h2, h3, h4⟩ := h
  exact (kill_st h1).mono fun e w' ⟨he, X', q1, q2, q3⟩ => ⟨he, X', ⟨d, q1, h2, h4⟩, q2, q3⟩
theorem Kd.restart {X : Nat → Prop} (h : Kd w0 w X gd n k N) (A : Option Addr) (m c : Nat) (zs : List Int) (hr : RdI w A m zs) (hx : 0 < m → ∀ a, A = some a → ¬ X a.block) (hm : m ≤ 1000000) :
    Calls Tryz.prog 25 #[.pointer (some ⟨gd, 0, none⟩), .slice A m c] w fun e w' => e = .returned (.tuple #[]) ∧ ∃ X', Ds w0 w' X' gd n k N ∧ Grow X X' w w' := by
  obtain ⟨d, h1, h2, h4⟩ := h
  refine (restart_st h1 A m c zs hr hx hm (by show d.row.length ≤ _; rw [h2.row]; exact Nat.zero_le _)).mono fun e w' ⟨he, X', q1, q2, q3⟩ => ⟨he, X', ⟨d.restart zs, q1, h2.again zs, by show (-1 : Int) < 0; decide, ?_⟩, q2, q3⟩
  show (lay (takes zs) 0 d.pages d.row).length = n
  rw [lay_length]
  exact h4
end
end Go.Proofs.YtmhfhhhhbcignaaGreat.Sto

namespace Go.Proofs.YtmhfhhhhbcignaaGreat.Sto
open Go.RowKit Disk Log

section
variable {w0 w w' : World} {Z P X : Nat → Prop} {gs gd n : Nat} {d : DK} {k k2 : Kp} {N : Nat}
def Td (w0 w : World) (X : Nat → Prop) (gd n : Nat) (k k2 : Kp) (N : Nat) : Prop := ∃ d : DK, St w0 w X gd d ∧ d.pages.length = n ∧ d.row.length ≤ 1000000 ∧ ∀ fates, Rests (d.restart fates) (n / 2) N fun q => q = k ∨ q = k2
def Tk (w0 w : World) (X : Nat → Prop) (gd n : Nat) (k k2 : Kp) (N : Nat) : Prop := ∃ d : DK, St w0 w X gd d.kill ∧ d.pages.length = n ∧ d.row.length ≤ 1000000 ∧ ∀ fates, Rests (d.restart fates) (n / 2) N fun q => q = k ∨ q = k2
theorem Sv.td (h : Sv w0 w Z gs gd d (n / 2) k N) (hn : d.pages.length = n) : ∃ X, Td w0 w X gd n k k N := by
  obtain ⟨X, h1, _⟩ := h.disk
  exact ⟨X, d, h1, hn, by rw [h.row]; exact Nat.zero_le _, fun fates => (h.rests.again fates).mono (Nat.le_refl _) fun _ q => .inl q⟩
theorem SvX.td (h : SvX w0 w Z gs gd d (n / 2) k) (hn : d.pages.length = n) (hr : d.row.length ≤ 1000000) (hf : ∀ fates, Rests (d.restart fates) (n / 2) N fun q => q = k ∨ q = k2) : ∃ X, Td w0 w X gd n k k2 N := by
  obtain ⟨X, h1, _⟩ := h.disk
  exact ⟨X, d, h1, hn, hr, hf⟩
theorem Td.below_ (h : Td w0 w X gd n k k2 N) (hb : Below w.heap.size w w') : Td w0 w' X gd n k k2 N := by
  obtain ⟨d, h1, h2⟩ := h
  exact ⟨d, h1.below_ hb, h2⟩
theorem Td.below (h : Td w0 w X gd n k k2 N) : Below w0.heap.size w0 w := by obtain ⟨d, h1, _⟩ := h; exact h1.below
theorem Tk.below (h : Tk w0 w X gd n k k2 N) : Below w0.heap.size w0 w := by obtain ⟨d, h1, _⟩ := h; exact h1.below
theorem Tk.own (h : Tk w0 w X gd n k k2 N) : ∀ b, X b → w0.heap.size ≤ b := by obtain ⟨d, h1, _⟩ := h; exact h1.own
theorem Td.kill (h : Td w0 w X gd n k k2 N) : Calls Tryz.prog 24 #[.pointer (some ⟨gd, 0, none⟩)] w fun e w' => e = .returned (.tuple #[]) ∧ ∃ X', Tk w0 w' X' gd n k k2 N := by
  obtain ⟨d, h1, h2⟩ := h
  exact (kill_st h1).mono fun e w' ⟨he, X', q1, q2, q3⟩ => ⟨he, X', d, q1, h2⟩
theorem Tk.restart (h : Tk w0 w X gd n k k2 N) (A : Option Addr) (m c : Nat) (zs : List Int) (hr : RdI w A m zs) (hx : 0 < m → ∀ a, A = some a → ¬ X a.block) (hm : m ≤ 1000000) :
    Calls Tryz.prog 25 #[.pointer (some ⟨gd, 0, none⟩), .slice A m c] w fun e w' => e = .returned (.tuple #[]) ∧ ∃ X' k', (k' = k ∨ k' = k2) ∧ Ds w0 w' X' gd n k' N := by
  obtain ⟨d, h1, h2, h3, h4⟩ := h
  refine (restart_st h1 A m c zs hr hx hm h3).mono fun e w' ⟨he, X', q1, q2, q3⟩ => ?_
  obtain ⟨k', hk, hR⟩ := (h4 zs).fix
  exact ⟨he, X', k', hk, d.restart zs, q1, hR, by show (-1 : Int) < 0; decide, by show (lay (takes zs) 0 d.pages d.row).length = n; rw [lay_length]; exact h2⟩
theorem SvX.disk_dead (h : SvX w0 w Z gs gd d (n / 2) k) : Calls Tryz.prog 22 #[.pointer (some ⟨gd, 0, none⟩)] w fun e w' => e = .returned (.bool true) ∧ w = w' := by
  obtain ⟨X, h1, _⟩ := h.disk
  obtain ⟨_, _, _, _, _, hd⟩ := h
  refine (Disk.dead_any h1.at_).mono fun e w' q => ?_
  obtain ⟨rfl, rfl⟩ := q
  rw [hd]
  exact ⟨rfl, rfl⟩
end
end Go.Proofs.YtmhfhhhhbcignaaGreat.Sto
