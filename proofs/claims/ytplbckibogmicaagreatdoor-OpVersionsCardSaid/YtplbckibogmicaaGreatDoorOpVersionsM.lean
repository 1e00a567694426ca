/- OpVersions: of a node that is set again and again each version is one more, and just the last one lets it be set, checked, deleted. For every input the call returns true, and each argument reads afterwards as it read before. No conditions. -/
import Derived.Test.YtplbckibogmicaaGreatDoorOpWorksAll
import Derived.Test.YtplbckibogmicaaGreatDoorPathFrame
import Derived.Lib.LaidTab
import Derived.LaidSub
namespace Go.Proofs.YtplbckibogmicaaGreatDoor.opVersions
open Go.ChangeShapes Go.WideShapes Go.ChangeAt Go.RowKit Path Tree Opn

def vc : O1 := ⟨1, [47, 114, 47, 97], [], 0, false, false, 0⟩
def vo (k : Nat) : O1 := ⟨3, [47, 114, 47, 97], [UInt8.ofNat k], (k : Int), false, false, 0⟩
def vt : Nat → TR
  | 0 => oneT (TR.new [47, 114]) .none_ vc []
  | k + 1 => oneT (vt k) .none_ (vo k) []
theorem vc_e : (oneF (TR.new [47, 114]) .none_ vc []).2.e = 0 := by decide +kernel
theorem vf : ∀ k, k < 40 → (oneF (vt k) .none_ (vo k) []).2.e = 0 ∧ (oneF (vt k) .none_ (vo k) []).2.node.ver = (k : Int) + 1 ∧ (oneF (vt k) .none_ (vo k) []).2.node.chg = (k : Int) + 2 ∧ (oneF (vt k) .none_ (vo k) []).2.node.made = 1 := by decide +kernel
theorem vq : ∀ k, k < 40 → (nodeAt (vt k) [47, 114, 47, 97]).ver = (k : Int) ∧ has (vt k).row [47, 114, 47, 97] = true ∧ kids (vt k).root (vt k).row [47, 114, 47, 97] = [] ∧ (vt k).root = [47, 114] := by decide +kernel
def oc (ask : Int) : O1 := ⟨4, [47, 114, 47, 97], [], ask, false, false, 0⟩
def os (ask : Int) : O1 := ⟨3, [47, 114, 47, 97], [], ask, false, false, 0⟩
def od (ask : Int) : O1 := ⟨2, [47, 114, 47, 97], [], ask, false, false, 0⟩
theorem under_pa : underF [47, 114, 47, 97] [47, 114] = true := by decide +kernel
theorem bad_no {k : Nat} (hk : k < 40) (o : O1) (ask : Int) (ho : o.ver = ask) (h : ask < 0 ∨ ask = (k : Int)) : badVer o (nodeAt (vt k) [47, 114, 47, 97]) = false := by
  unfold badVer
  rw [(vq k hk).1, ho]
  refine decide_eq_false ?_
  rintro ⟨h1, h2⟩
  rcases h with h | h
  · omega
  · exact h2 h
theorem bad_yes {k : Nat} (hk : k < 40) (o : O1) (ask : Int) (ho : o.ver = ask) (h : ¬ (ask < 0 ∨ ask = (k : Int))) : badVer o (nodeAt (vt k) [47, 114, 47, 97]) = true := by
  unfold badVer
  rw [(vq k hk).1, ho]
  exact decide_eq_true ⟨by omega, fun e => h (.inr e)⟩
theorem chk_c (ask : Int) : chk (oc ask) [] = 0 := by
  unfold chk isSingle isMulti isLong oc
  simp
theorem e_c {k : Nat} (hk : k < 40) (ask : Int) : (oneF (vt k) .none_ (oc ask) []).2.e = if ask < 0 ∨ ask = (k : Int) then 0 else 35 := by
  obtain ⟨h1, h2, h3, h4⟩ := vq k hk
  have hu : ¬ underF (oc ask).path (vt k).root = false := by
    rw [h4]
    show ¬ underF [47, 114, 47, 97] [47, 114] = false
    rw [under_pa]
    decide
  unfold oneF
  rw [chk_c, if_neg (by decide)]
  unfold single
  rw [if_neg hu]
  show (check (vt k) (oc ask)).2.e = _
  unfold check
  rw [if_neg (show ¬ has (vt k).row (oc ask).path = false by show ¬ has (vt k).row [47, 114, 47, 97] = false; rw [h2]; decide)]
  by_cases h : ask < 0 ∨ ask = (k : Int)
  · rw [if_pos h, if_neg (show ¬ badVer (oc ask) (nodeAt (vt k) (oc ask).path) = true by rw [show (oc ask).path = [47, 114, 47, 97] from rfl, bad_no hk (oc ask) ask rfl h]; decide)]
  · rw [if_neg h, if_pos (show badVer (oc ask) (nodeAt (vt k) (oc ask).path) = true from bad_yes hk (oc ask) ask rfl h)]
    rfl
theorem chk_s (ask : Int) : chk (os ask) [] = 0 := by
  unfold chk isSingle isMulti isLong os
  simp
theorem e_s {k : Nat} (hk : k < 40) (ask : Int) : (oneF (vt k) .none_ (os ask) []).2.e = if ask < 0 ∨ ask = (k : Int) then 0 else 35 := by
  obtain ⟨h1, h2, h3, h4⟩ := vq k hk
  have hu : ¬ underF (os ask).path (vt k).root = false := by
    rw [h4]
    show ¬ underF [47, 114, 47, 97] [47, 114] = false
    rw [under_pa]
    decide
  unfold oneF
  rw [chk_s, if_neg (by decide)]
  unfold single
  rw [if_neg hu]
  show (set_ (vt k) _ (os ask)).2.e = _
  unfold set_
  rw [if_neg (show ¬ has (vt k).row (os ask).path = false by show ¬ has (vt k).row [47, 114, 47, 97] = false; rw [h2]; decide)]
  by_cases h : ask < 0 ∨ ask = (k : Int)
  · rw [if_pos h, if_neg (show ¬ badVer (os ask) (nodeAt (vt k) (os ask).path) = true by rw [show (os ask).path = [47, 114, 47, 97] from rfl, bad_no hk (os ask) ask rfl h]; decide)]
  · rw [if_neg h, if_pos (show badVer (os ask) (nodeAt (vt k) (os ask).path) = true from bad_yes hk (os ask) ask rfl h)]
    rfl
theorem chk_d (ask : Int) : chk (od ask) [] = 0 := by
  unfold chk isSingle isMulti isLong od
  simp
theorem e_d {k : Nat} (hk : k < 40) (ask : Int) : (oneF (vt k) .none_ (od ask) []).2.e = if ask < 0 ∨ ask = (k : Int) then 0 else 35 := by
  obtain ⟨h1, h2, h3, h4⟩ := vq k hk
  have hu : ¬ underF (od ask).path (vt k).root = false := by
    rw [h4]
    show ¬ underF [47, 114, 47, 97] [47, 114] = false
    rw [under_pa]
    decide
  unfold oneF
  rw [chk_d, if_neg (by decide)]
  unfold single
  rw [if_neg hu]
  show (remove (vt k) _ (od ask)).2.e = _
  unfold remove
  rw [if_neg (show ¬ (od ask).path = (vt k).root by rw [h4]; show ¬ [47, 114, 47, 97] = [47, 114]; decide), if_neg (show ¬ has (vt k).row (od ask).path = false by show ¬ has (vt k).row [47, 114, 47, 97] = false; rw [h2]; decide)]
  by_cases h : ask < 0 ∨ ask = (k : Int)
  · rw [if_pos h, if_neg (show ¬ badVer (od ask) (nodeAt (vt k) (od ask).path) = true by rw [show (od ask).path = [47, 114, 47, 97] from rfl, bad_no hk (od ask) ask rfl h]; decide)]
    rw [if_neg (show ¬ kids (vt k).root (vt k).row (od ask).path ≠ [] from fun hn => hn h3)]
  · rw [if_neg h, if_pos (show badVer (od ask) (nodeAt (vt k) (od ask).path) = true from bad_yes hk (od ask) ask rfl h)]
    rfl
theorem field_e (y0 y1 y2 y3 y4 y5 y6 y7 y8 y9 y10 y11 y12 : Value) (w : World) : (Instr.field 51 (.agg #[y0, y1, y2, y3, y4, y5, y6, y7, y8, y9, y10, y11, y12]) 0).run Tryz.prog w = .ok y0 w := by kernel_rfl
def RelV (w : World) (a : Addr) (m : Nat) (i : Value) (wr : World) : Prop := ∃ k : Nat, k ≤ m ∧ i = .int .i64 (k : Int) ∧ ∃ X, TSt w a (vt k) X wr
set_option maxRecDepth 100000 in
set_option maxHeartbeats 2000000 in
theorem walk (n : Nat) (hn : n < 256) (ask : Int) (w : World) (ht : Tab w) : Calls Tryz.prog 8 #[.int .u8 (n : Int), .int .i64 ask] w fun e w' => e = .returned (.bool true) ∧ Below w.heap.size w w' := by
  have HTB := Lib.hid ht
  have H0 := Lib.hid (St.start w)
  obtain ⟨m, hm⟩ : ∃ m, m = n % 40 := ⟨_, rfl⟩
  have hm40 : m < 40 := by omega
  have HM40 := Lib.hid hm40
  have vr : (n : Int).tmod 40 = (m : Int) := by rw [hm]; exact (Int.ofNat_tmod n 40).symm
  have vw : wrap64 (m : Int) = (m : Int) := by unfold wrap64; omega
  have vw8 : IntKind.u8.wrap (m : Int) = (m : Int) := by
    have e : IntKind.u8.wrap (m : Int) = (m : Int) % 256 := rfl
    omega
  have hfe := field_e
  clear ht hm hn
  go_enter Tryz.func8, Tryz.ntmps8
  go_wp2_with fail
  refine (New_st [47, 114] w w [] _ (by decide) (by decide +kernel) H0.out).mono ?_
  rintro e V0 ⟨a, X0, rfl, _, hS⟩
  have T0 : Hid (TSt w a (TR.new [47, 114]) X0 V0) := ⟨hS, fine_new_tree _, by decide⟩
  clear hS H0
  have c := did_st a (TR.new [47, 114]) X0 vc none 0 0 .none_ w V0 T0.out HTB.out rfl rfl (DataS.nil_ _ _) (by decide) (by decide) (by decide)
  go_wp2_with fail
  refine c.mono ?_
  rintro e w1 ⟨A1, m1, c1, B1, n1, d1, X1, rfl, hT, _, _, _⟩
  have T1 : Hid (TSt w a (vt 0) X1 w1) := hT
  have he : (oneF (TR.new [47, 114]) .none_ vc []).2.e = 0 := vc_e
  generalize (oneF (TR.new [47, 114]) .none_ vc []).2 = r at *
  obtain ⟨re, rpp, rn, rk⟩ := r
  dsimp only at he
  subst he
  clear c hT T0
  dsimp only [rpV, rpC, znC, nilS, List.cons_append, List.nil_append]
  go_wp2_with fail
  go_loopw [8, 9] (fun i _ wr => RelV w a m i wr) (fun i _ _ => m - (intOf i).toNat)
  case atStart => exact ⟨0, Nat.zero_le _, rfl, X1, T1.out⟩
  case round =>
    obtain ⟨k, hk, rfl, X, hT⟩ := hrel
    have HT := Lib.hid hT
    clear hT
    by_cases hlt : k < m
    · have vk : (k : Int) < (m : Int) := by omega
      have hk40 : k < 40 := by omega
      have VF := Lib.hid (vf k hk40)
      have hx : ((UInt8.ofNat k).toNat : Int) = (k : Int) := by
        have : (UInt8.ofNat k).toNat = k := by simp; omega
        rw [this]
      have hb1 := data_one wr (UInt8.ofNat k) (0, 0)
      rw [hx] at hb1
      have hbu : Below wr.heap.size wr (wr.alloc (.cells #[.int .u8 (k : Int)] 5)) := (Below.refl _ _).alloc (Nat.le_refl _) _
      generalize hU : wr.alloc (.cells #[.int .u8 (k : Int)] 5) = U at *
      have c := did_st a (vt k) X (vo k) (some ⟨wr.heap.size, 0, none⟩) 1 1 .none_ w U (HT.out.below hbu) HTB.out rfl rfl hb1 (by show 4 ≤ 100000; decide) (by show 1 ≤ 1000000; decide) (by show 3 < 7; decide)
      have v8 : IntKind.u8.wrap (k : Int) = (k : Int) := by
        have e : IntKind.u8.wrap (k : Int) = (k : Int) % 256 := rfl
        omega
      have v64 : wrap64 ((k : Int) + 1) = (k : Int) + 1 := by unfold wrap64; omega
      have v64b : wrap64 ((k : Int) + 2) = (k : Int) + 2 := by unfold wrap64; omega
      have u64 : IntKind.u64.wrap ((k : Int) + 2) = (k : Int) + 2 := by
        have e : IntKind.u64.wrap ((k : Int) + 2) = ((k : Int) + 2) % 18446744073709551616 := rfl
        omega
      have z1 : ((k : Int) + 1 != (k : Int) + 1) = false := bne_self_eq_false _
      have z2 : ((k : Int) + 2 != (k : Int) + 2) = false := bne_self_eq_false _
      clear hb1 hbu hx
      go_wp2_with fail
      refine c.mono ?_
      rintro e w2 ⟨A9, m9, c9, B9, n9, d9, X9, rfl, hT, _, _, _⟩
      have T9 : Hid (TSt w a (vt (k + 1)) X9 w2) := hT
      obtain ⟨r9, hr9⟩ : ∃ r, r = (oneF (vt k) .none_ (vo k) []).2 := ⟨_, rfl⟩
      rw [← hr9] at VF ⊢
      obtain ⟨y1, y2, y3, y4⟩ := VF.out
      have Y1 := Lib.hid y1
      have Y2 := Lib.hid y2
      have Y3 := Lib.hid y3
      have Y4 := Lib.hid y4
      clear c hT hU hr9 y1 y2 y3 y4 VF
      have HTH := Lib.hid (box_there w2)
      dsimp only [rpV, rpC, znC, nilS, List.cons_append, List.nil_append]
      go_wp2_with ((with_reducible refine wpList_store_named ?_ 51 (.tmp 9) (.tmp 50) ?_ w2.heap.size 0 #[.int .i64 r9.e, .string (S r9.path), .slice A9 m9 c9, .int .u32 r9.node.ver, .int .u32 r9.node.kin, .int .u32 r9.node.next, .int .i64 r9.node.site, .int .u32 r9.node.own, .int .u64 r9.node.made, .int .u64 r9.node.chg, .int .u64 r9.node.tch, .slice B9 n9 d9, .slice none 0 0] ?_ ?_ ?_ ?_ ?_ ?_); (exact rfl); (exact rfl); (exact rfl); (exact rfl); (exact HTH.out); (exact size_reply); (simp [Value.oneCell']))
      refine Lib.hid ?_
      obtain ⟨V9, hV⟩ : ∃ V, V = (w2.alloc (.cells #[.int .i64 0, .string ⟨#[]⟩, .slice none 0 0, .int .u32 0, .int .u32 0, .int .u32 0, .int .i64 0, .int .u32 0, .int .u64 0, .int .u64 0, .int .u64 0, .slice none 0 0, .slice none 0 0] 51)).setCells w2.heap.size 0 [.int .i64 r9.e, .string (S r9.path), .slice A9 m9 c9, .int .u32 r9.node.ver, .int .u32 r9.node.kin, .int .u32 r9.node.next, .int .i64 r9.node.site, .int .u32 r9.node.own, .int .u64 r9.node.made, .int .u64 r9.node.chg, .int .u64 r9.node.tch, .slice B9 n9 d9, .slice none 0 0] := ⟨_, rfl⟩
      rw [← hV]
      have hs := box_reply w2 [.int .i64 r9.e, .string (S r9.path), .slice A9 m9 c9, .int .u32 r9.node.ver, .int .u32 r9.node.kin, .int .u32 r9.node.next, .int .i64 r9.node.site, .int .u32 r9.node.own, .int .u64 r9.node.made, .int .u64 r9.node.chg, .int .u64 r9.node.tch, .slice B9 n9 d9, .slice none 0 0] rfl
      rw [← hV] at hs
      obtain ⟨hk, hb⟩ := hs
      obtain ⟨q9, hq⟩ : ∃ q, q = w2.heap.size := ⟨_, rfl⟩
      rw [← hq] at hk ⊢
      have KB9 := Lib.hid hk
      clear hk hq hV HTH
      have T10 := Lib.hid (T9.out.below hb)
      have x0 : V9.cell? ⟨q9, 0, none⟩ = some (.int .i64 r9.e) := KB9.out.cell 0
      have x3 : V9.cell? ⟨q9, 3, none⟩ = some (.int .u32 r9.node.ver) := KB9.out.cell 3
      have x8 : V9.cell? ⟨q9, 8, none⟩ = some (.int .u64 r9.node.made) := KB9.out.cell 8
      have x9 : V9.cell? ⟨q9, 9, none⟩ = some (.int .u64 r9.node.chg) := KB9.out.cell 9
      rw [Y1.out] at x0
      rw [Y2.out] at x3
      rw [Y4.out] at x8
      rw [Y3.out] at x9
      clear hb
      go_wp2_with fail
      go_roundw
      case rel => exact ⟨k + 1, by omega, by go_num, X9, T10.out⟩
      case measure => simp [intOf]; omega
    · obtain rfl : k = m := by omega
      clear hlt
      have v1 : ¬ (k : Int) < (k : Int) := by omega
      have T1 := HT
      by_cases h1 : ask < 0
      · have HZ : Hid ((if ask < 0 ∨ ask = (k : Int) then (0 : Int) else 35) = 0) := if_pos (.inl h1)
        have cd := Do_one (P := fun _ => True) 0 (vt k) [(a, vt k)] X a (oc ask) none 0 0 none 0 [] .none_ wr T1.out.st.1 rfl (OpS.nil_ _ _ _) (show 0 ≤ 1000000 by decide) rfl (DataS.nil_ _ _) (show 4 ≤ 100000 by decide) T1.out.root (HTB.out.below T1.out.st.2.1) T1.out.fine (show 0 ≤ 1000000 by decide) (show 4 < 7 by decide)
        go_wp2_with fail
        refine cd.mono ?_
        rintro e w1 ⟨hb, E1, f1, g1, A1, m1, c1, B1, n1, d1, rfl, _, _, _⟩
        have U1 := Lib.hid (T1.out.below hb)
        obtain ⟨r1, hr1⟩ : ∃ r, r = (oneF (vt k) .none_ (oc ask) []).2 := ⟨_, rfl⟩
        have HE1 : Hid (r1.e = 0) := by show _ = _; rw [hr1, e_c HM40.out ask]; exact HZ.out
        have hr1' : (if chk (oc ask) [] ≠ 0 then (([] : List Ef), R1.no (chk (oc ask) [])) else single (vt k) (((vt k).cnt + 1 : Nat) % 18446744073709551616 : Nat) .none_ (oc ask)).2 = r1 := hr1.symm
        rw [hr1']
        clear hb cd hr1 hr1'
        have HTH := Lib.hid (box_there w1)
        dsimp only [rpV, rpC, znC, nilS, List.cons_append, List.nil_append]
        go_wp2_with ((with_reducible refine wpList_store_named ?_ 51 (.tmp 12) (.tmp 92) ?_ w1.heap.size 0 #[.int .i64 r1.e, .string (S r1.path), .slice A1 m1 c1, .int .u32 r1.node.ver, .int .u32 r1.node.kin, .int .u32 r1.node.next, .int .i64 r1.node.site, .int .u32 r1.node.own, .int .u64 r1.node.made, .int .u64 r1.node.chg, .int .u64 r1.node.tch, .slice B1 n1 d1, .slice none 0 0] ?_ ?_ ?_ ?_ ?_ ?_); (exact rfl); (exact rfl); (exact rfl); (exact rfl); (exact HTH.out); (exact size_reply); (simp [Value.oneCell']))
        refine Lib.hid ?_
        obtain ⟨V1, hV⟩ : ∃ V, V = (w1.alloc (.cells #[.int .i64 0, .string ⟨#[]⟩, .slice none 0 0, .int .u32 0, .int .u32 0, .int .u32 0, .int .i64 0, .int .u32 0, .int .u64 0, .int .u64 0, .int .u64 0, .slice none 0 0, .slice none 0 0] 51)).setCells w1.heap.size 0 [.int .i64 r1.e, .string (S r1.path), .slice A1 m1 c1, .int .u32 r1.node.ver, .int .u32 r1.node.kin, .int .u32 r1.node.next, .int .i64 r1.node.site, .int .u32 r1.node.own, .int .u64 r1.node.made, .int .u64 r1.node.chg, .int .u64 r1.node.tch, .slice B1 n1 d1, .slice none 0 0] := ⟨_, rfl⟩
        rw [← hV]
        have hs := box_reply w1 [.int .i64 r1.e, .string (S r1.path), .slice A1 m1 c1, .int .u32 r1.node.ver, .int .u32 r1.node.kin, .int .u32 r1.node.next, .int .i64 r1.node.site, .int .u32 r1.node.own, .int .u64 r1.node.made, .int .u64 r1.node.chg, .int .u64 r1.node.tch, .slice B1 n1 d1, .slice none 0 0] rfl
        rw [← hV] at hs
        obtain ⟨hk, hb⟩ := hs
        obtain ⟨q1, hq⟩ : ∃ q, q = w1.heap.size := ⟨_, rfl⟩
        rw [← hq] at hk ⊢
        have KB1 := Lib.hid hk
        clear hk hq hV HTH
        have T2 := Lib.hid (U1.out.below hb)
        clear hb U1
        have cd := Do_one (P := fun _ => True) 0 (vt k) [(a, vt k)] X a (os ask) none 0 0 none 0 [] .none_ V1 T2.out.st.1 rfl (OpS.nil_ _ _ _) (show 0 ≤ 1000000 by decide) rfl (DataS.nil_ _ _) (show 4 ≤ 100000 by decide) T2.out.root (HTB.out.below T2.out.st.2.1) T2.out.fine (show 0 ≤ 1000000 by decide) (show 3 < 7 by decide)
        go_wp2_with fail
        refine cd.mono ?_
        rintro e w2 ⟨hb, E2, f2, g2, A2, m2, c2, B2, n2, d2, rfl, _, _, _⟩
        have U2 := Lib.hid (T2.out.below hb)
        have KB1 := Lib.hid (KB1.out.below hb)
        obtain ⟨r2, hr2⟩ : ∃ r, r = (oneF (vt k) .none_ (os ask) []).2 := ⟨_, rfl⟩
        have HE2 : Hid (r2.e = 0) := by show _ = _; rw [hr2, e_s HM40.out ask]; exact HZ.out
        have hr2' : (if chk (os ask) [] ≠ 0 then (([] : List Ef), R1.no (chk (os ask) [])) else single (vt k) (((vt k).cnt + 1 : Nat) % 18446744073709551616 : Nat) .none_ (os ask)).2 = r2 := hr2.symm
        rw [hr2']
        clear hb cd hr2 hr2'
        have HTH := Lib.hid (box_there w2)
        dsimp only [rpV, rpC, znC, nilS, List.cons_append, List.nil_append]
        go_wp2_with ((with_reducible refine wpList_store_named ?_ 51 (.tmp 14) (.tmp 100) ?_ w2.heap.size 0 #[.int .i64 r2.e, .string (S r2.path), .slice A2 m2 c2, .int .u32 r2.node.ver, .int .u32 r2.node.kin, .int .u32 r2.node.next, .int .i64 r2.node.site, .int .u32 r2.node.own, .int .u64 r2.node.made, .int .u64 r2.node.chg, .int .u64 r2.node.tch, .slice B2 n2 d2, .slice none 0 0] ?_ ?_ ?_ ?_ ?_ ?_); (exact rfl); (exact rfl); (exact rfl); (exact rfl); (exact HTH.out); (exact size_reply); (simp [Value.oneCell']))
        refine Lib.hid ?_
        obtain ⟨V2, hV⟩ : ∃ V, V = (w2.alloc (.cells #[.int .i64 0, .string ⟨#[]⟩, .slice none 0 0, .int .u32 0, .int .u32 0, .int .u32 0, .int .i64 0, .int .u32 0, .int .u64 0, .int .u64 0, .int .u64 0, .slice none 0 0, .slice none 0 0] 51)).setCells w2.heap.size 0 [.int .i64 r2.e, .string (S r2.path), .slice A2 m2 c2, .int .u32 r2.node.ver, .int .u32 r2.node.kin, .int .u32 r2.node.next, .int .i64 r2.node.site, .int .u32 r2.node.own, .int .u64 r2.node.made, .int .u64 r2.node.chg, .int .u64 r2.node.tch, .slice B2 n2 d2, .slice none 0 0] := ⟨_, rfl⟩
        rw [← hV]
        have hs := box_reply w2 [.int .i64 r2.e, .string (S r2.path), .slice A2 m2 c2, .int .u32 r2.node.ver, .int .u32 r2.node.kin, .int .u32 r2.node.next, .int .i64 r2.node.site, .int .u32 r2.node.own, .int .u64 r2.node.made, .int .u64 r2.node.chg, .int .u64 r2.node.tch, .slice B2 n2 d2, .slice none 0 0] rfl
        rw [← hV] at hs
        obtain ⟨hk, hb⟩ := hs
        obtain ⟨q2, hq⟩ : ∃ q, q = w2.heap.size := ⟨_, rfl⟩
        rw [← hq] at hk ⊢
        have KB2 := Lib.hid hk
        clear hk hq hV HTH
        have T3 := Lib.hid (U2.out.below hb)
        have KB1 := Lib.hid (KB1.out.below hb)
        clear hb U2
        have cd := Do_one (P := fun _ => True) 0 (vt k) [(a, vt k)] X a (od ask) none 0 0 none 0 [] .none_ V2 T3.out.st.1 rfl (OpS.nil_ _ _ _) (show 0 ≤ 1000000 by decide) rfl (DataS.nil_ _ _) (show 4 ≤ 100000 by decide) T3.out.root (HTB.out.below T3.out.st.2.1) T3.out.fine (show 0 ≤ 1000000 by decide) (show 2 < 7 by decide)
        go_wp2_with fail
        refine cd.mono ?_
        rintro e w3 ⟨hb, E3, f3, g3, A3, m3, c3, B3, n3, d3, rfl, _, _, _⟩
        have U3 := Lib.hid (T3.out.below hb)
        have KB1 := Lib.hid (KB1.out.below hb)
        have KB2 := Lib.hid (KB2.out.below hb)
        obtain ⟨r3, hr3⟩ : ∃ r, r = (oneF (vt k) .none_ (od ask) []).2 := ⟨_, rfl⟩
        have HE3 : Hid (r3.e = 0) := by show _ = _; rw [hr3, e_d HM40.out ask]; exact HZ.out
        have hr3' : (if chk (od ask) [] ≠ 0 then (([] : List Ef), R1.no (chk (od ask) [])) else single (vt k) (((vt k).cnt + 1 : Nat) % 18446744073709551616 : Nat) .none_ (od ask)).2 = r3 := hr3.symm
        rw [hr3']
        clear hb cd hr3 hr3'
        have HTH := Lib.hid (box_there w3)
        dsimp only [rpV, rpC, znC, nilS, List.cons_append, List.nil_append]
        go_wp2_with ((with_reducible refine wpList_store_named ?_ 51 (.tmp 16) (.tmp 108) ?_ w3.heap.size 0 #[.int .i64 r3.e, .string (S r3.path), .slice A3 m3 c3, .int .u32 r3.node.ver, .int .u32 r3.node.kin, .int .u32 r3.node.next, .int .i64 r3.node.site, .int .u32 r3.node.own, .int .u64 r3.node.made, .int .u64 r3.node.chg, .int .u64 r3.node.tch, .slice B3 n3 d3, .slice none 0 0] ?_ ?_ ?_ ?_ ?_ ?_); (exact rfl); (exact rfl); (exact rfl); (exact rfl); (exact HTH.out); (exact size_reply); (simp [Value.oneCell']))
        refine Lib.hid ?_
        obtain ⟨V3, hV⟩ : ∃ V, V = (w3.alloc (.cells #[.int .i64 0, .string ⟨#[]⟩, .slice none 0 0, .int .u32 0, .int .u32 0, .int .u32 0, .int .i64 0, .int .u32 0, .int .u64 0, .int .u64 0, .int .u64 0, .slice none 0 0, .slice none 0 0] 51)).setCells w3.heap.size 0 [.int .i64 r3.e, .string (S r3.path), .slice A3 m3 c3, .int .u32 r3.node.ver, .int .u32 r3.node.kin, .int .u32 r3.node.next, .int .i64 r3.node.site, .int .u32 r3.node.own, .int .u64 r3.node.made, .int .u64 r3.node.chg, .int .u64 r3.node.tch, .slice B3 n3 d3, .slice none 0 0] := ⟨_, rfl⟩
        rw [← hV]
        have hs := box_reply w3 [.int .i64 r3.e, .string (S r3.path), .slice A3 m3 c3, .int .u32 r3.node.ver, .int .u32 r3.node.kin, .int .u32 r3.node.next, .int .i64 r3.node.site, .int .u32 r3.node.own, .int .u64 r3.node.made, .int .u64 r3.node.chg, .int .u64 r3.node.tch, .slice B3 n3 d3, .slice none 0 0] rfl
        rw [← hV] at hs
        obtain ⟨hk, hb⟩ := hs
        obtain ⟨q3, hq⟩ : ∃ q, q = w3.heap.size := ⟨_, rfl⟩
        rw [← hq] at hk ⊢
        have KB3 := Lib.hid hk
        clear hk hq hV HTH
        have T4 := Lib.hid (U3.out.below hb)
        have KB1 := Lib.hid (KB1.out.below hb)
        have KB2 := Lib.hid (KB2.out.below hb)
        clear hb U3
        have x1 : V3.cell? ⟨q1, 0, none⟩ = some (.int .i64 r1.e) := KB1.out.cell 0
        rw [HE1.out] at x1
        have x2 : V3.cell? ⟨q2, 0, none⟩ = some (.int .i64 r2.e) := KB2.out.cell 0
        rw [HE2.out] at x2
        have x3 : V3.cell? ⟨q3, 0, none⟩ = some (.int .i64 r3.e) := KB3.out.cell 0
        rw [HE3.out] at x3
        have cw := works_any V3 (HTB.out.below T4.out.st.2.1)
        go_wp2_with fail
        refine cw.mono ?_
        rintro e w9 ⟨rfl, hb⟩
        have H9 := Lib.hid (T4.out.below hb)
        clear hb cw
        go_wp2_with fail
        go_ret
        exact ⟨rfl, H9.out.st.2.1⟩
      · by_cases h2 : ask = (k : Int)
        · subst h2
          have HZ : Hid ((if (k : Int) < 0 ∨ (k : Int) = (k : Int) then (0 : Int) else 35) = 0) := if_pos (.inr rfl)
          have h3 : ((k : Int) == (k : Int)) = true := beq_self_eq_true _
          have cd := Do_one (P := fun _ => True) 0 (vt k) [(a, vt k)] X a (oc (k : Int)) none 0 0 none 0 [] .none_ wr T1.out.st.1 rfl (OpS.nil_ _ _ _) (show 0 ≤ 1000000 by decide) rfl (DataS.nil_ _ _) (show 4 ≤ 100000 by decide) T1.out.root (HTB.out.below T1.out.st.2.1) T1.out.fine (show 0 ≤ 1000000 by decide) (show 4 < 7 by decide)
          go_wp2_with fail
          refine cd.mono ?_
          rintro e w1 ⟨hb, E1, f1, g1, A1, m1, c1, B1, n1, d1, rfl, _, _, _⟩
          have U1 := Lib.hid (T1.out.below hb)
          obtain ⟨r1, hr1⟩ : ∃ r, r = (oneF (vt k) .none_ (oc (k : Int)) []).2 := ⟨_, rfl⟩
          have HE1 : Hid (r1.e = 0) := by show _ = _; rw [hr1, e_c HM40.out (k : Int)]; exact if_pos (.inr rfl)
          have hr1' : (if chk (oc (k : Int)) [] ≠ 0 then (([] : List Ef), R1.no (chk (oc (k : Int)) [])) else single (vt k) (((vt k).cnt + 1 : Nat) % 18446744073709551616 : Nat) .none_ (oc (k : Int))).2 = r1 := hr1.symm
          rw [hr1']
          clear hb cd hr1 hr1'
          have HTH := Lib.hid (box_there w1)
          dsimp only [rpV, rpC, znC, nilS, List.cons_append, List.nil_append]
          go_wp2_with ((with_reducible refine wpList_store_named ?_ 51 (.tmp 12) (.tmp 92) ?_ w1.heap.size 0 #[.int .i64 r1.e, .string (S r1.path), .slice A1 m1 c1, .int .u32 r1.node.ver, .int .u32 r1.node.kin, .int .u32 r1.node.next, .int .i64 r1.node.site, .int .u32 r1.node.own, .int .u64 r1.node.made, .int .u64 r1.node.chg, .int .u64 r1.node.tch, .slice B1 n1 d1, .slice none 0 0] ?_ ?_ ?_ ?_ ?_ ?_); (exact rfl); (exact rfl); (exact rfl); (exact rfl); (exact HTH.out); (exact size_reply); (simp [Value.oneCell']))
          refine Lib.hid ?_
          obtain ⟨V1, hV⟩ : ∃ V, V = (w1.alloc (.cells #[.int .i64 0, .string ⟨#[]⟩, .slice none 0 0, .int .u32 0, .int .u32 0, .int .u32 0, .int .i64 0, .int .u32 0, .int .u64 0, .int .u64 0, .int .u64 0, .slice none 0 0, .slice none 0 0] 51)).setCells w1.heap.size 0 [.int .i64 r1.e, .string (S r1.path), .slice A1 m1 c1, .int .u32 r1.node.ver, .int .u32 r1.node.kin, .int .u32 r1.node.next, .int .i64 r1.node.site, .int .u32 r1.node.own, .int .u64 r1.node.made, .int .u64 r1.node.chg, .int .u64 r1.node.tch, .slice B1 n1 d1, .slice none 0 0] := ⟨_, rfl⟩
          rw [← hV]
          have hs := box_reply w1 [.int .i64 r1.e, .string (S r1.path), .slice A1 m1 c1, .int .u32 r1.node.ver, .int .u32 r1.node.kin, .int .u32 r1.node.next, .int .i64 r1.node.site, .int .u32 r1.node.own, .int .u64 r1.node.made, .int .u64 r1.node.chg, .int .u64 r1.node.tch, .slice B1 n1 d1, .slice none 0 0] rfl
          rw [← hV] at hs
          obtain ⟨hk, hb⟩ := hs
          obtain ⟨q1, hq⟩ : ∃ q, q = w1.heap.size := ⟨_, rfl⟩
          rw [← hq] at hk ⊢
          have KB1 := Lib.hid hk
          clear hk hq hV HTH
          have T2 := Lib.hid (U1.out.below hb)
          clear hb U1
          have cd := Do_one (P := fun _ => True) 0 (vt k) [(a, vt k)] X a (os (k : Int)) none 0 0 none 0 [] .none_ V1 T2.out.st.1 rfl (OpS.nil_ _ _ _) (show 0 ≤ 1000000 by decide) rfl (DataS.nil_ _ _) (show 4 ≤ 100000 by decide) T2.out.root (HTB.out.below T2.out.st.2.1) T2.out.fine (show 0 ≤ 1000000 by decide) (show 3 < 7 by decide)
          go_wp2_with fail
          refine cd.mono ?_
          rintro e w2 ⟨hb, E2, f2, g2, A2, m2, c2, B2, n2, d2, rfl, _, _, _⟩
          have U2 := Lib.hid (T2.out.below hb)
          have KB1 := Lib.hid (KB1.out.below hb)
          obtain ⟨r2, hr2⟩ : ∃ r, r = (oneF (vt k) .none_ (os (k : Int)) []).2 := ⟨_, rfl⟩
          have HE2 : Hid (r2.e = 0) := by show _ = _; rw [hr2, e_s HM40.out (k : Int)]; exact if_pos (.inr rfl)
          have hr2' : (if chk (os (k : Int)) [] ≠ 0 then (([] : List Ef), R1.no (chk (os (k : Int)) [])) else single (vt k) (((vt k).cnt + 1 : Nat) % 18446744073709551616 : Nat) .none_ (os (k : Int))).2 = r2 := hr2.symm
          rw [hr2']
          clear hb cd hr2 hr2'
          have HTH := Lib.hid (box_there w2)
          dsimp only [rpV, rpC, znC, nilS, List.cons_append, List.nil_append]
          go_wp2_with ((with_reducible refine wpList_store_named ?_ 51 (.tmp 14) (.tmp 100) ?_ w2.heap.size 0 #[.int .i64 r2.e, .string (S r2.path), .slice A2 m2 c2, .int .u32 r2.node.ver, .int .u32 r2.node.kin, .int .u32 r2.node.next, .int .i64 r2.node.site, .int .u32 r2.node.own, .int .u64 r2.node.made, .int .u64 r2.node.chg, .int .u64 r2.node.tch, .slice B2 n2 d2, .slice none 0 0] ?_ ?_ ?_ ?_ ?_ ?_); (exact rfl); (exact rfl); (exact rfl); (exact rfl); (exact HTH.out); (exact size_reply); (simp [Value.oneCell']))
          refine Lib.hid ?_
          obtain ⟨V2, hV⟩ : ∃ V, V = (w2.alloc (.cells #[.int .i64 0, .string ⟨#[]⟩, .slice none 0 0, .int .u32 0, .int .u32 0, .int .u32 0, .int .i64 0, .int .u32 0, .int .u64 0, .int .u64 0, .int .u64 0, .slice none 0 0, .slice none 0 0] 51)).setCells w2.heap.size 0 [.int .i64 r2.e, .string (S r2.path), .slice A2 m2 c2, .int .u32 r2.node.ver, .int .u32 r2.node.kin, .int .u32 r2.node.next, .int .i64 r2.node.site, .int .u32 r2.node.own, .int .u64 r2.node.made, .int .u64 r2.node.chg, .int .u64 r2.node.tch, .slice B2 n2 d2, .slice none 0 0] := ⟨_, rfl⟩
          rw [← hV]
          have hs := box_reply w2 [.int .i64 r2.e, .string (S r2.path), .slice A2 m2 c2, .int .u32 r2.node.ver, .int .u32 r2.node.kin, .int .u32 r2.node.next, .int .i64 r2.node.site, .int .u32 r2.node.own, .int .u64 r2.node.made, .int .u64 r2.node.chg, .int .u64 r2.node.tch, .slice B2 n2 d2, .slice none 0 0] rfl
          rw [← hV] at hs
          obtain ⟨hk, hb⟩ := hs
          obtain ⟨q2, hq⟩ : ∃ q, q = w2.heap.size := ⟨_, rfl⟩
          rw [← hq] at hk ⊢
          have KB2 := Lib.hid hk
          clear hk hq hV HTH
          have T3 := Lib.hid (U2.out.below hb)
          have KB1 := Lib.hid (KB1.out.below hb)
          clear hb U2
          have cd := Do_one (P := fun _ => True) 0 (vt k) [(a, vt k)] X a (od (k : Int)) none 0 0 none 0 [] .none_ V2 T3.out.st.1 rfl (OpS.nil_ _ _ _) (show 0 ≤ 1000000 by decide) rfl (DataS.nil_ _ _) (show 4 ≤ 100000 by decide) T3.out.root (HTB.out.below T3.out.st.2.1) T3.out.fine (show 0 ≤ 1000000 by decide) (show 2 < 7 by decide)
          go_wp2_with fail
          refine cd.mono ?_
          rintro e w3 ⟨hb, E3, f3, g3, A3, m3, c3, B3, n3, d3, rfl, _, _, _⟩
          have U3 := Lib.hid (T3.out.below hb)
          have KB1 := Lib.hid (KB1.out.below hb)
          have KB2 := Lib.hid (KB2.out.below hb)
          obtain ⟨r3, hr3⟩ : ∃ r, r = (oneF (vt k) .none_ (od (k : Int)) []).2 := ⟨_, rfl⟩
          have HE3 : Hid (r3.e = 0) := by show _ = _; rw [hr3, e_d HM40.out (k : Int)]; exact if_pos (.inr rfl)
          have hr3' : (if chk (od (k : Int)) [] ≠ 0 then (([] : List Ef), R1.no (chk (od (k : Int)) [])) else single (vt k) (((vt k).cnt + 1 : Nat) % 18446744073709551616 : Nat) .none_ (od (k : Int))).2 = r3 := hr3.symm
          rw [hr3']
          clear hb cd hr3 hr3'
          have HTH := Lib.hid (box_there w3)
          dsimp only [rpV, rpC, znC, nilS, List.cons_append, List.nil_append]
          go_wp2_with ((with_reducible refine wpList_store_named ?_ 51 (.tmp 16) (.tmp 108) ?_ w3.heap.size 0 #[.int .i64 r3.e, .string (S r3.path), .slice A3 m3 c3, .int .u32 r3.node.ver, .int .u32 r3.node.kin, .int .u32 r3.node.next, .int .i64 r3.node.site, .int .u32 r3.node.own, .int .u64 r3.node.made, .int .u64 r3.node.chg, .int .u64 r3.node.tch, .slice B3 n3 d3, .slice none 0 0] ?_ ?_ ?_ ?_ ?_ ?_); (exact rfl); (exact rfl); (exact rfl); (exact rfl); (exact HTH.out); (exact size_reply); (simp [Value.oneCell']))
          refine Lib.hid ?_
          obtain ⟨V3, hV⟩ : ∃ V, V = (w3.alloc (.cells #[.int .i64 0, .string ⟨#[]⟩, .slice none 0 0, .int .u32 0, .int .u32 0, .int .u32 0, .int .i64 0, .int .u32 0, .int .u64 0, .int .u64 0, .int .u64 0, .slice none 0 0, .slice none 0 0] 51)).setCells w3.heap.size 0 [.int .i64 r3.e, .string (S r3.path), .slice A3 m3 c3, .int .u32 r3.node.ver, .int .u32 r3.node.kin, .int .u32 r3.node.next, .int .i64 r3.node.site, .int .u32 r3.node.own, .int .u64 r3.node.made, .int .u64 r3.node.chg, .int .u64 r3.node.tch, .slice B3 n3 d3, .slice none 0 0] := ⟨_, rfl⟩
          rw [← hV]
          have hs := box_reply w3 [.int .i64 r3.e, .string (S r3.path), .slice A3 m3 c3, .int .u32 r3.node.ver, .int .u32 r3.node.kin, .int .u32 r3.node.next, .int .i64 r3.node.site, .int .u32 r3.node.own, .int .u64 r3.node.made, .int .u64 r3.node.chg, .int .u64 r3.node.tch, .slice B3 n3 d3, .slice none 0 0] rfl
          rw [← hV] at hs
          obtain ⟨hk, hb⟩ := hs
          obtain ⟨q3, hq⟩ : ∃ q, q = w3.heap.size := ⟨_, rfl⟩
          rw [← hq] at hk ⊢
          have KB3 := Lib.hid hk
          clear hk hq hV HTH
          have T4 := Lib.hid (U3.out.below hb)
          have KB1 := Lib.hid (KB1.out.below hb)
          have KB2 := Lib.hid (KB2.out.below hb)
          clear hb U3
          have x1 : V3.cell? ⟨q1, 0, none⟩ = some (.int .i64 r1.e) := KB1.out.cell 0
          rw [HE1.out] at x1
          have x2 : V3.cell? ⟨q2, 0, none⟩ = some (.int .i64 r2.e) := KB2.out.cell 0
          rw [HE2.out] at x2
          have x3 : V3.cell? ⟨q3, 0, none⟩ = some (.int .i64 r3.e) := KB3.out.cell 0
          rw [HE3.out] at x3
          have cw := works_any V3 (HTB.out.below T4.out.st.2.1)
          go_wp2_with fail
          refine cw.mono ?_
          rintro e w9 ⟨rfl, hb⟩
          have H9 := Lib.hid (T4.out.below hb)
          clear hb cw
          go_wp2_with fail
          go_ret
          exact ⟨rfl, H9.out.st.2.1⟩
        · have HZ : Hid ((if ask < 0 ∨ ask = (k : Int) then (0 : Int) else 35) = 35) := if_neg (fun h => h.elim h1 h2)
          have h3 : (ask == (k : Int)) = false := beq_eq_false_iff_ne.2 h2
          have cd := Do_one (P := fun _ => True) 0 (vt k) [(a, vt k)] X a (oc ask) none 0 0 none 0 [] .none_ wr T1.out.st.1 rfl (OpS.nil_ _ _ _) (show 0 ≤ 1000000 by decide) rfl (DataS.nil_ _ _) (show 4 ≤ 100000 by decide) T1.out.root (HTB.out.below T1.out.st.2.1) T1.out.fine (show 0 ≤ 1000000 by decide) (show 4 < 7 by decide)
          go_wp2_with fail
          refine cd.mono ?_
          rintro e w1 ⟨hb, E1, f1, g1, A1, m1, c1, B1, n1, d1, rfl, _, _, _⟩
          have U1 := Lib.hid (T1.out.below hb)
          obtain ⟨r1, hr1⟩ : ∃ r, r = (oneF (vt k) .none_ (oc ask) []).2 := ⟨_, rfl⟩
          have HE1 : Hid (r1.e = 35) := by show _ = _; rw [hr1, e_c HM40.out ask]; exact HZ.out
          have hr1' : (if chk (oc ask) [] ≠ 0 then (([] : List Ef), R1.no (chk (oc ask) [])) else single (vt k) (((vt k).cnt + 1 : Nat) % 18446744073709551616 : Nat) .none_ (oc ask)).2 = r1 := hr1.symm
          rw [hr1']
          clear hb cd hr1 hr1'
          have HTH := Lib.hid (box_there w1)
          dsimp only [rpV, rpC, znC, nilS, List.cons_append, List.nil_append]
          go_wp2_with ((with_reducible refine wpList_store_named ?_ 51 (.tmp 12) (.tmp 92) ?_ w1.heap.size 0 #[.int .i64 r1.e, .string (S r1.path), .slice A1 m1 c1, .int .u32 r1.node.ver, .int .u32 r1.node.kin, .int .u32 r1.node.next, .int .i64 r1.node.site, .int .u32 r1.node.own, .int .u64 r1.node.made, .int .u64 r1.node.chg, .int .u64 r1.node.tch, .slice B1 n1 d1, .slice none 0 0] ?_ ?_ ?_ ?_ ?_ ?_); (exact rfl); (exact rfl); (exact rfl); (exact rfl); (exact HTH.out); (exact size_reply); (simp [Value.oneCell']))
          refine Lib.hid ?_
          obtain ⟨V1, hV⟩ : ∃ V, V = (w1.alloc (.cells #[.int .i64 0, .string ⟨#[]⟩, .slice none 0 0, .int .u32 0, .int .u32 0, .int .u32 0, .int .i64 0, .int .u32 0, .int .u64 0, .int .u64 0, .int .u64 0, .slice none 0 0, .slice none 0 0] 51)).setCells w1.heap.size 0 [.int .i64 r1.e, .string (S r1.path), .slice A1 m1 c1, .int .u32 r1.node.ver, .int .u32 r1.node.kin, .int .u32 r1.node.next, .int .i64 r1.node.site, .int .u32 r1.node.own, .int .u64 r1.node.made, .int .u64 r1.node.chg, .int .u64 r1.node.tch, .slice B1 n1 d1, .slice none 0 0] := ⟨_, rfl⟩
          rw [← hV]
          have hs := box_reply w1 [.int .i64 r1.e, .string (S r1.path), .slice A1 m1 c1, .int .u32 r1.node.ver, .int .u32 r1.node.kin, .int .u32 r1.node.next, .int .i64 r1.node.site, .int .u32 r1.node.own, .int .u64 r1.node.made, .int .u64 r1.node.chg, .int .u64 r1.node.tch, .slice B1 n1 d1, .slice none 0 0] rfl
          rw [← hV] at hs
          obtain ⟨hk, hb⟩ := hs
          obtain ⟨q1, hq⟩ : ∃ q, q = w1.heap.size := ⟨_, rfl⟩
          rw [← hq] at hk ⊢
          have KB1 := Lib.hid hk
          clear hk hq hV HTH
          have T2 := Lib.hid (U1.out.below hb)
          clear hb U1
          have cd := Do_one (P := fun _ => True) 0 (vt k) [(a, vt k)] X a (os ask) none 0 0 none 0 [] .none_ V1 T2.out.st.1 rfl (OpS.nil_ _ _ _) (show 0 ≤ 1000000 by decide) rfl (DataS.nil_ _ _) (show 4 ≤ 100000 by decide) T2.out.root (HTB.out.below T2.out.st.2.1) T2.out.fine (show 0 ≤ 1000000 by decide) (show 3 < 7 by decide)
          go_wp2_with fail
          refine cd.mono ?_
          rintro e w2 ⟨hb, E2, f2, g2, A2, m2, c2, B2, n2, d2, rfl, _, _, _⟩
          have U2 := Lib.hid (T2.out.below hb)
          have KB1 := Lib.hid (KB1.out.below hb)
          obtain ⟨r2, hr2⟩ : ∃ r, r = (oneF (vt k) .none_ (os ask) []).2 := ⟨_, rfl⟩
          have HE2 : Hid (r2.e = 35) := by show _ = _; rw [hr2, e_s HM40.out ask]; exact HZ.out
          have hr2' : (if chk (os ask) [] ≠ 0 then (([] : List Ef), R1.no (chk (os ask) [])) else single (vt k) (((vt k).cnt + 1 : Nat) % 18446744073709551616 : Nat) .none_ (os ask)).2 = r2 := hr2.symm
          rw [hr2']
          clear hb cd hr2 hr2'
          have HTH := Lib.hid (box_there w2)
          dsimp only [rpV, rpC, znC, nilS, List.cons_append, List.nil_append]
          go_wp2_with ((with_reducible refine wpList_store_named ?_ 51 (.tmp 14) (.tmp 100) ?_ w2.heap.size 0 #[.int .i64 r2.e, .string (S r2.path), .slice A2 m2 c2, .int .u32 r2.node.ver, .int .u32 r2.node.kin, .int .u32 r2.node.next, .int .i64 r2.node.site, .int .u32 r2.node.own, .int .u64 r2.node.made, .int .u64 r2.node.chg, .int .u64 r2.node.tch, .slice B2 n2 d2, .slice none 0 0] ?_ ?_ ?_ ?_ ?_ ?_); (exact rfl); (exact rfl); (exact rfl); (exact rfl); (exact HTH.out); (exact size_reply); (simp [Value.oneCell']))
          refine Lib.hid ?_
          obtain ⟨V2, hV⟩ : ∃ V, V = (w2.alloc (.cells #[.int .i64 0, .string ⟨#[]⟩, .slice none 0 0, .int .u32 0, .int .u32 0, .int .u32 0, .int .i64 0, .int .u32 0, .int .u64 0, .int .u64 0, .int .u64 0, .slice none 0 0, .slice none 0 0] 51)).setCells w2.heap.size 0 [.int .i64 r2.e, .string (S r2.path), .slice A2 m2 c2, .int .u32 r2.node.ver, .int .u32 r2.node.kin, .int .u32 r2.node.next, .int .i64 r2.node.site, .int .u32 r2.node.own, .int .u64 r2.node.made, .int .u64 r2.node.chg, .int .u64 r2.node.tch, .slice B2 n2 d2, .slice none 0 0] := ⟨_, rfl⟩
          rw [← hV]
          have hs := box_reply w2 [.int .i64 r2.e, .string (S r2.path), .slice A2 m2 c2, .int .u32 r2.node.ver, .int .u32 r2.node.kin, .int .u32 r2.node.next, .int .i64 r2.node.site, .int .u32 r2.node.own, .int .u64 r2.node.made, .int .u64 r2.node.chg, .int .u64 r2.node.tch, .slice B2 n2 d2, .slice none 0 0] rfl
          rw [← hV] at hs
          obtain ⟨hk, hb⟩ := hs
          obtain ⟨q2, hq⟩ : ∃ q, q = w2.heap.size := ⟨_, rfl⟩
          rw [← hq] at hk ⊢
          have KB2 := Lib.hid hk
          clear hk hq hV HTH
          have T3 := Lib.hid (U2.out.below hb)
          have KB1 := Lib.hid (KB1.out.below hb)
          clear hb U2
          have cd := Do_one (P := fun _ => True) 0 (vt k) [(a, vt k)] X a (od ask) none 0 0 none 0 [] .none_ V2 T3.out.st.1 rfl (OpS.nil_ _ _ _) (show 0 ≤ 1000000 by decide) rfl (DataS.nil_ _ _) (show 4 ≤ 100000 by decide) T3.out.root (HTB.out.below T3.out.st.2.1) T3.out.fine (show 0 ≤ 1000000 by decide) (show 2 < 7 by decide)
          go_wp2_with fail
          refine cd.mono ?_
          rintro e w3 ⟨hb, E3, f3, g3, A3, m3, c3, B3, n3, d3, rfl, _, _, _⟩
          have U3 := Lib.hid (T3.out.below hb)
          have KB1 := Lib.hid (KB1.out.below hb)
          have KB2 := Lib.hid (KB2.out.below hb)
          obtain ⟨r3, hr3⟩ : ∃ r, r = (oneF (vt k) .none_ (od ask) []).2 := ⟨_, rfl⟩
          have HE3 : Hid (r3.e = 35) := by show _ = _; rw [hr3, e_d HM40.out ask]; exact HZ.out
          have hr3' : (if chk (od ask) [] ≠ 0 then (([] : List Ef), R1.no (chk (od ask) [])) else single (vt k) (((vt k).cnt + 1 : Nat) % 18446744073709551616 : Nat) .none_ (od ask)).2 = r3 := hr3.symm
          rw [hr3']
          clear hb cd hr3 hr3'
          have HTH := Lib.hid (box_there w3)
          dsimp only [rpV, rpC, znC, nilS, List.cons_append, List.nil_append]
          go_wp2_with ((with_reducible refine wpList_store_named ?_ 51 (.tmp 16) (.tmp 108) ?_ w3.heap.size 0 #[.int .i64 r3.e, .string (S r3.path), .slice A3 m3 c3, .int .u32 r3.node.ver, .int .u32 r3.node.kin, .int .u32 r3.node.next, .int .i64 r3.node.site, .int .u32 r3.node.own, .int .u64 r3.node.made, .int .u64 r3.node.chg, .int .u64 r3.node.tch, .slice B3 n3 d3, .slice none 0 0] ?_ ?_ ?_ ?_ ?_ ?_); (exact rfl); (exact rfl); (exact rfl); (exact rfl); (exact HTH.out); (exact size_reply); (simp [Value.oneCell']))
          refine Lib.hid ?_
          obtain ⟨V3, hV⟩ : ∃ V, V = (w3.alloc (.cells #[.int .i64 0, .string ⟨#[]⟩, .slice none 0 0, .int .u32 0, .int .u32 0, .int .u32 0, .int .i64 0, .int .u32 0, .int .u64 0, .int .u64 0, .int .u64 0, .slice none 0 0, .slice none 0 0] 51)).setCells w3.heap.size 0 [.int .i64 r3.e, .string (S r3.path), .slice A3 m3 c3, .int .u32 r3.node.ver, .int .u32 r3.node.kin, .int .u32 r3.node.next, .int .i64 r3.node.site, .int .u32 r3.node.own, .int .u64 r3.node.made, .int .u64 r3.node.chg, .int .u64 r3.node.tch, .slice B3 n3 d3, .slice none 0 0] := ⟨_, rfl⟩
          rw [← hV]
          have hs := box_reply w3 [.int .i64 r3.e, .string (S r3.path), .slice A3 m3 c3, .int .u32 r3.node.ver, .int .u32 r3.node.kin, .int .u32 r3.node.next, .int .i64 r3.node.site, .int .u32 r3.node.own, .int .u64 r3.node.made, .int .u64 r3.node.chg, .int .u64 r3.node.tch, .slice B3 n3 d3, .slice none 0 0] rfl
          rw [← hV] at hs
          obtain ⟨hk, hb⟩ := hs
          obtain ⟨q3, hq⟩ : ∃ q, q = w3.heap.size := ⟨_, rfl⟩
          rw [← hq] at hk ⊢
          have KB3 := Lib.hid hk
          clear hk hq hV HTH
          have T4 := Lib.hid (U3.out.below hb)
          have KB1 := Lib.hid (KB1.out.below hb)
          have KB2 := Lib.hid (KB2.out.below hb)
          clear hb U3
          have x1 : V3.cell? ⟨q1, 0, none⟩ = some (.int .i64 r1.e) := KB1.out.cell 0
          rw [HE1.out] at x1
          have x2 : V3.cell? ⟨q2, 0, none⟩ = some (.int .i64 r2.e) := KB2.out.cell 0
          rw [HE2.out] at x2
          have x3 : V3.cell? ⟨q3, 0, none⟩ = some (.int .i64 r3.e) := KB3.out.cell 0
          rw [HE3.out] at x3
          have cw := works_any V3 (HTB.out.below T4.out.st.2.1)
          go_wp2_with fail
          refine cw.mono ?_
          rintro e w9 ⟨rfl, hb⟩
          have H9 := Lib.hid (T4.out.below hb)
          clear hb cw
          go_wp2_with fail
          go_ret
          exact ⟨rfl, H9.out.st.2.1⟩
theorem tab_of {W : World} (h : laidMetH Tryz.prog Rows.opVersionsRow.laid W) : Tab W := by
  rw [MakeChecks.laidMetH_plain _ _ _ (by kernel_rfl)] at h
  have h2 := laidMet.filter (fun x => x.1 == "internal/strconv.uint64pow10") h
  have e : Rows.opVersionsRow.laid.filter (fun x => x.1 == "internal/strconv.uint64pow10") = [("internal/strconv.uint64pow10", Lib.tabData .u64 Lib.pow10Tab)] := by kernel_rfl
  rw [e] at h2
  exact Lib.tabIs_of_head (g := 3) (t := 207) (e := 37) (n := 20) (by kernel_rfl) (by kernel_rfl) (by kernel_rfl) (by kernel_rfl) (by kernel_rfl) (by kernel_rfl) h2

set_option maxRecDepth 100000 in
theorem lifted (os : Os) (started : os.Started) (H : Type) (enc : TypeId × Value → H) :
    ReturnsInHanded {} Tryz.checked os 8 .any (fun w args => (Rows.opVersionsSpec.pre enc Tryz.prog Tryz.f8 Rows.opVersionsRow.domain false w args ∧ laidMetH Tryz.prog Rows.opVersionsRow.laid w) ∧ sizedMet enc Tryz.prog Tryz.f8 (OpenSpec.ofChange Rows.opVersionsSpec) false w args) (Rows.opVersionsSpec.post enc Tryz.prog Tryz.f8 false true false false) := by
  refine returnsInHanded_of_change_and (C := Tryz.checked) (X := fun w _ => laidMetH Tryz.prog Rows.opVersionsRow.laid w) (fun _ _ _ hh h => h.of_heap hh) own started (by kernel_rfl) Tryz.func8
    (ChangeSpec.witness_shaped (enc := enc) (C := Tryz.checked) (os := os) (X := fun w _ => laidMetH Tryz.prog Rows.opVersionsRow.laid w) false (World.laidAll Tryz.prog os Rows.opVersionsRow.laid) #[.int .u8 0, .int .i64 0] 8 (World.laidAll_os _ _ _)
      (World.shaped_of_ZipB (by kernel_rfl) (by kernel_rfl)) (by kernel_rfl) (by kernel_rfl) (by kernel_rfl)
      (by rw [MakeChecks.laidMetH_plain _ _ _ (by kernel_rfl)]; exact laidMet_laidAll _ (by kernel_rfl) (by kernel_rfl))) ?_
  intro W base args ds gs before hval0 hW _ _ _ _
  have hval : ∀ (j : Nat) t v, Tryz.f8.params[j]? = some t → args[j]? = some v → Value.okWide Tryz.prog W .any base t v := hval0
  have hW' := hW
  obtain ⟨p, q, hA0, hV, rfl, hfz, hnd⟩ := hW
  have hA : DataW.TrodAll enc Tryz.prog W 0 (fun _ => true) true Tryz.f8.params.toList args.toList ds p := hA0
  rw [Tryz.params8] at hA hval
  obtain ⟨v0, v1, d0, d1, p0, p1, rfl, rfl, rfl, h0, h1⟩ := trodAll_two hA
  obtain ⟨rfl, rfl⟩ := trodVars_none hV
  obtain ⟨n, rfl, hn⟩ := open_u8 ty_byte (hval 0 _ v0 rfl rfl) h0
  obtain ⟨z, rfl, _, _, _⟩ := open_int (show Tryz.prog.underlying 2 = some (.int .i64) by kernel_rfl) (hval 1 _ v1 rfl rfl) h1
  have htb : Tab W := tab_of (by assumption)
  refine (walk n hn z W htb).mono fun e W' ⟨he, hb⟩ => ?_
  subst he
  exact ⟨_, rfl, post_true laidOut (by kernel_rfl) ty_bool (by kernel_rfl) rfl hW' hb rfl⟩

theorem over : Rows.opVersionsRow.holds Tryz.pinned (OpenSpec.ofChange Rows.opVersionsSpec) :=
  OpenClaim.holds_of_wide 8 Tryz.f8 rfl rfl rfl rfl rfl rfl rfl ⟨rfl, rfl, rfl, rfl, rfl⟩ rfl rfl rfl rfl rfl (by kernel_rfl) Tryz.func8 (by kernel_rfl)
    (of_decide_eq_true (by kernel_rfl)) (by unfold Func.isWrapper; first | (rw [if_pos (by decide +kernel)]; kernel_rfl) | (rw [if_neg (by decide +kernel)]; exact ⟨rfl, rfl⟩))
    (fun os started H enc _ => lifted os started H enc)

theorem proved : Rows.OpVersionsCardSaid :=
  Claim7.holds_tied_plain_at .later [] Rows.opVersionsCard.laidKinds true Rows.opVersionsCard.stood.harness Rows.opVersionsCard.stood.looks over (fun _ h => by cases h) (by kernel_rfl) (fun _ h => by cases h) opVersions_row_tie rfl ⟨rfl, rfl⟩ (by kernel_rfl) rfl
    (fun f fn hf hfn => by
      obtain rfl : f = 8 := Option.some.inj ((show Tryz.pinned.checked.prog.funcNamed Rows.opVersionsRow.func = some 8 by kernel_rfl).symm.trans hf) |>.symm
      obtain rfl : fn = Tryz.f8 := (Option.some.inj (Tryz.func8.symm.trans hfn)).symm
      exact ⟨by kernel_rfl, fun j t ht => by
        have hall : (Tryz.f8.params.toList.all fun u => !Tryz.prog.wantsStandIn u) = true := by kernel_rfl
        exact (show Tryz.prog.wantsStandIn t = false by simpa using List.all_eq_true.1 hall t (by simpa using Array.mem_of_getElem? ht))⟩)
    (by kernel_rfl)
end Go.Proofs.YtplbckibogmicaaGreatDoor.opVersions
