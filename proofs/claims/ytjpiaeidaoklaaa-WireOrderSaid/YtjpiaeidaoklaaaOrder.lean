/- WireOrder: of two numbers the greater one's bytes come later; unlike texts have unlike bytes, neither the beginning of the other one's. For every input the call returns true, and each argument reads afterwards as it read before. No conditions. -/
import Derived.Test.YtjpiaeidaoklaaaFrame
import Derived.Deep.RegionWith
import Derived.Deep.Draws
import Derived.Deep.DeepCutAuto
import Derived.WalkLawsBesides
import Derived.Lib.Strings
namespace Go.Proofs.Ytjpiaeidaoklaaa.wireOrder
open Go.ChangeShapes Go.WideShapes Go.ChangeAt Go.RowKit

theorem Rd.drew'' {w : World} {A : Option Addr} {n : Nat} {bs : List UInt8} (h : Rd w A n bs) : Rd w.drew A n bs := h.keep fun _ _ hp => hp

theorem mod_succ (k a : Nat) : a % 256 ^ (k + 1) = a % 256 ^ k + 256 ^ k * (a / 256 ^ k % 256) := by
  rw [Nat.pow_succ]
  exact Nat.mod_mul

theorem less_be (k a b : Nat) : Op.bytesLess (be k a) (be k b) = decide (a % 256 ^ k < b % 256 ^ k) := by
  induction k with
  | zero => simp [be, Op.bytesLess, Nat.mod_one]
  | succ k ih =>
    have hp : 0 < 256 ^ k := Nat.pow_pos (by omega)
    have h1 := Nat.mod_lt a hp
    have h2 := Nat.mod_lt b hp
    rw [be, be, Op.bytesLess, ih, mod_succ, mod_succ]
    generalize a / 256 ^ k = x at *
    generalize b / 256 ^ k = y at *
    generalize a % 256 ^ k = u at *
    generalize b % 256 ^ k = v at *
    generalize 256 ^ k = M at *
    have e1 : (UInt8.ofNat x < UInt8.ofNat y) ↔ x % 256 < y % 256 := by rw [UInt8.lt_iff_toNat_lt]; simp
    have e2 : (UInt8.ofNat x = UInt8.ofNat y) ↔ x % 256 = y % 256 := by
      rw [← UInt8.toNat_inj]
      simp
    rw [Bool.eq_iff_iff, Bool.or_eq_true, Bool.and_eq_true, decide_eq_true_iff, decide_eq_true_iff, decide_eq_true_iff, beq_iff_eq, e1, e2]
    generalize x % 256 = p at *
    generalize y % 256 = q at *
    constructor
    · rintro (h | ⟨h, h3⟩)
      · have : M * (p + 1) ≤ M * q := Nat.mul_le_mul_left M h
        rw [Nat.mul_add, Nat.mul_one] at this
        omega
      · subst h; omega
    · intro h
      rcases Nat.lt_trichotomy p q with h3 | h3 | h3
      · exact Or.inl h3
      · subst h3; exact Or.inr ⟨rfl, by omega⟩
      · have : M * (q + 1) ≤ M * p := Nat.mul_le_mul_left M h3
        rw [Nat.mul_add, Nat.mul_one] at this
        omega

theorem be_inj8 (a b : Nat) (ha : a < 18446744073709551616) (hb : b < 18446744073709551616) : (be 8 a = be 8 b) ↔ a = b := by
  constructor
  · intro h
    have h1 := less_be 8 a b
    rw [h, Nat.mod_eq_of_lt (by omega), Nat.mod_eq_of_lt (by omega)] at h1
    rcases Nat.lt_trichotomy a b with h3 | h3 | h3
    · have h4 := less_be 8 b a
      rw [h, Nat.mod_eq_of_lt (by omega), Nat.mod_eq_of_lt (by omega)] at h4
      have : decide (a < b) = decide (b < a) := by rw [← h1, ← h4]
      simp [h3, Nat.not_lt.2 (Nat.le_of_lt h3)] at this
    · exact h3
    · have h4 := less_be 8 b a
      rw [h, Nat.mod_eq_of_lt (by omega), Nat.mod_eq_of_lt (by omega)] at h4
      have : decide (a < b) = decide (b < a) := by rw [← h1, ← h4]
      simp [h3, Nat.not_lt.2 (Nat.le_of_lt h3)] at this
  · rintro rfl; rfl

theorem text_take (s t : List UInt8) (hs : s.length ≤ 500) (ht : t.length ≤ 500) (hl : s.length < t.length) : (be 4 t.length ++ t).take (4 + s.length) ≠ be 4 s.length ++ s := by
  intro h
  have h4 : (be 4 t.length).take 4 = (be 4 s.length).take 4 := by
    have := congrArg (List.take 4) h
    rw [List.take_take, Nat.min_eq_left (by omega), List.take_append_of_le_length (by rw [be_length]; omega), List.take_append_of_le_length (by rw [be_length]; omega)] at this
    exact this
  rw [List.take_of_length_le (by rw [be_length]; omega), List.take_of_length_le (by rw [be_length]; omega)] at h4
  have h1 := less_be 4 s.length t.length
  have h2 := less_be 4 t.length s.length
  rw [h4] at h1 h2
  rw [Nat.mod_eq_of_lt (by omega), Nat.mod_eq_of_lt (by omega)] at h1 h2
  have h5 : decide (s.length < t.length) = decide (t.length < s.length) := by rw [← h1, ← h2]
  simp [hl, Nat.not_lt.2 (Nat.le_of_lt hl)] at h5

theorem text_inj (s t : List UInt8) : (be 4 s.length ++ s = be 4 t.length ++ t) ↔ s = t := by
  constructor
  · intro h
    have h1 : s.length = t.length := by
      have := congrArg List.length h
      simp [be_length] at this
      exact this
    rw [h1] at h
    exact List.append_cancel_left h
  · rintro rfl; rfl

theorem S_list (l : List UInt8) : (S l).toList = l := ByteArray.toList_mk l
theorem S_size (l : List UInt8) : (S l).size = l.length := by simp [S, ByteArray.size]
theorem S_extract (l : List UInt8) (k : Nat) : ((S l).extract 0 k).toList = l.take k := by
  rw [Lib.extract_toList]
  simp [S]

/-- What the law asks of the two texts' bytes. -/
structure Apart (P Q SS TT : ByteArray) : Prop where
  eq : (P.toList == Q.toList) = (SS.toList == TT.toList)
  lt : P.size < Q.size → ((Q.extract 0 P.size).toList == P.toList) = false
  gt : Q.size < P.size → ((P.extract 0 Q.size).toList == Q.toList) = false

theorem apart_of (ss ts : List UInt8) (hs : ss.length ≤ 500) (ht : ts.length ≤ 500) : Apart (S (be 4 ss.length ++ ss)) (S (be 4 ts.length ++ ts)) (S ss) (S ts) := by
  refine ⟨?_, fun h => ?_, fun h => ?_⟩
  · rw [S_list, S_list, S_list, S_list, Bool.eq_iff_iff, beq_iff_eq, beq_iff_eq]
    exact text_inj ss ts
  · rw [S_size, S_size, List.length_append, List.length_append, be_length, be_length] at h
    rw [S_extract, S_list, S_size, List.length_append, be_length]
    exact beq_eq_false_iff_ne.2 (text_take ss ts hs ht (by omega))
  · rw [S_size, S_size, List.length_append, List.length_append, be_length, be_length] at h
    rw [S_extract, S_list, S_size, List.length_append, be_length]
    exact beq_eq_false_iff_ne.2 (text_take ts ss ht hs (by omega))

theorem nums_of (a b : Nat) (ha : a < 18446744073709551616) (hb : b < 18446744073709551616) :
    Op.bytesLess (S (be 8 a)).toList (S (be 8 b)).toList = decide (a < b) ∧ ((S (be 8 a)).toList == (S (be 8 b)).toList) = ((a : Int) == (b : Int)) := by
  refine ⟨?_, ?_⟩
  · rw [S_list, S_list, less_be, Nat.mod_eq_of_lt (by omega), Nat.mod_eq_of_lt (by omega)]
  · rw [S_list, S_list, Bool.eq_iff_iff, beq_iff_eq, beq_iff_eq, be_inj8 a b ha hb]
    omega

set_option maxRecDepth 100000 in
set_option maxHeartbeats 4000000 in
theorem walk (A A2 : Option Addr) (n c n2 c2 : Nat) (ss ts : List UInt8) (a b : Nat) (w : World) (h : Rd w A n ss) (h2 : Rd w A2 n2 ts) (ha : a < 18446744073709551616) (hb : b < 18446744073709551616) :
    Calls Try.prog 6 #[.int .u64 (a : Int), .int .u64 (b : Int), .slice A n c, .slice A2 n2 c2] w fun e w' => e = .returned (.bool true) ∧ Below w.heap.size w w' := by
  have H := Lib.hid h
  have H2 := Lib.hid h2
  clear h h2
  by_cases hn : 500 < n
  · go_enter Try.func6, Try.ntmps6
    go_wp2_with fail
    go_ret
    exact ⟨rfl, Below.refl _ _⟩
  · by_cases hn2 : 500 < n2
    · go_enter Try.func6, Try.ntmps6
      go_wp2_with fail
      go_ret
      exact ⟨rfl, Below.refl _ _⟩
    · go_enter Try.func6, Try.ntmps6
      go_upto_region 3 with fail
      go_cut [9, 10] (fun x y wx => x = .string (S (be 8 a)) ∧ y = .string (S (be 8 b)) ∧ Below w.heap.size w wx)
      case first =>
        have tok1 : True := trivial
        go_region_with (first
          | (go_at_call 11; have _t := tok1; refine (Uint_any none 0 0 a (a : Int) [] _ (Rd.nil_ _ _) rfl ha (by omega)).mono ?_; rintro e w1 ⟨A1, n1, c1, rfl, hl, hc1, hown, hb1⟩; have HA1 := Lib.hid (Rd.of_own hown).1; have s1 : (convert 22 9 (.slice A1 n1 c1)).run Try.prog w1 = .ok (.string (S (be 8 a))) w1 := conv_string (Rd.of_own hown).1 c1; have HB1 := Lib.hid (((Below.refl w.heap.size w).drew).trans hb1); clear hl hown hb1 tok1)
          | (go_at_call 11; refine (Uint_any none 0 0 b (b : Int) [] _ (Rd.nil_ _ _) rfl hb (by omega)).mono ?_; rintro e w2 ⟨A2', n2', c2', rfl, hl, hc2, hown, hb1⟩; have s2 : (convert 22 9 (.slice A2' n2' c2')).run Try.prog w2 = .ok (.string (S (be 8 b))) w2 := conv_string (Rd.of_own hown).1 c2'; have s3 : (convert 22 9 (.slice A1 n1 c1)).run Try.prog w2 = .ok (.string (S (be 8 a))) w2 := conv_string (HA1.out.below hb1) c1; have HB2 := Lib.hid (HB1.out.trans (hb1.mono HB1.out.size)); clear hl hown hb1))
        all_goals
          go_wp2_with fail
          go_meet
          exact ⟨rfl, rfl, HB2.out⟩
      case rest =>
        obtain ⟨rfl, rfl, hbc⟩ := hcut
        have HB3 := Lib.hid hbc
        clear hbc
        go_upto_region 4 with fail
        go_cut [11, 12] (fun x y wx => x = .string (S (be 4 n ++ ss)) ∧ y = .string (S (be 4 n2 ++ ts)) ∧ Below w.heap.size w wx)
        case first =>
          have tok1 : True := trivial
          go_region_with (first
            | (go_at_call 13; have _t := tok1; refine (Text_any none A 0 0 n c [] ss _ (Rd.nil_ _ _) ?_ (by omega) (by omega)).mono ?_; exact Rd.drew'' (H.out.below HB3.out); rintro e w1 ⟨A1, n1, c1, rfl, hl, hc1, hown, hb1⟩; have HA1 := Lib.hid (Rd.of_own hown).1; have s1 : (convert 22 9 (.slice A1 n1 c1)).run Try.prog w1 = .ok (.string (S (be 4 n ++ ss))) w1 := conv_string (Rd.of_own hown).1 c1; have HB4 := Lib.hid (HB3.out.drew.trans (hb1.mono HB3.out.size)); clear hl hown hb1 tok1)
            | (go_at_call 13; refine (Text_any none A2 0 0 n2 c2 [] ts _ (Rd.nil_ _ _) (H2.out.below HB4.out) (by omega) (by omega)).mono ?_; rintro e w2 ⟨A2', n2', c2', rfl, hl, hc2, hown, hb1⟩; have s2 : (convert 22 9 (.slice A2' n2' c2')).run Try.prog w2 = .ok (.string (S (be 4 n2 ++ ts))) w2 := conv_string (Rd.of_own hown).1 c2'; have s3 : (convert 22 9 (.slice A1 n1 c1)).run Try.prog w2 = .ok (.string (S (be 4 n ++ ss))) w2 := conv_string (HA1.out.below hb1) c1; have HB5 := Lib.hid (HB4.out.trans (hb1.mono HB4.out.size)); clear hl hown hb1))
          all_goals
            go_wp2_with fail
            go_meet
            exact ⟨rfl, rfl, HB5.out⟩
        case rest =>
          obtain ⟨rfl, rfl, hbc⟩ := hcut
          obtain ⟨w5, hw5⟩ : ∃ w5 : World, w5 = wc := ⟨_, rfl⟩
          have HB6 := Lib.hid hbc
          clear hbc
          have s1 : (convert 22 9 (.slice A n c)).run Try.prog wc = .ok (.string (S ss)) wc := conv_string (H.out.below HB6.out) c
          have s2 : (convert 22 9 (.slice A2 n2 c2)).run Try.prog wc = .ok (.string (S ts)) wc := conv_string (H2.out.below HB6.out) c2
          clear hw5
          obtain ⟨g1, g2⟩ := nums_of a b ha hb
          have HAp : Hid (Apart (S (be 4 n ++ ss)) (S (be 4 n2 ++ ts)) (S ss) (S ts)) := by
            have := apart_of ss ts (by rw [H.out.len]; omega) (by rw [H2.out.len]; omega)
            rwa [H.out.len, H2.out.len] at this
          generalize S (be 8 a) = X at *
          generalize S (be 8 b) = Y at *
          generalize S (be 4 n ++ ss) = P at *
          generalize S (be 4 n2 ++ ts) = Q at *
          generalize S ss = SS at *
          generalize S ts = TT at *
          by_cases hPQ : P.toList = Q.toList
          · have e1 : (SS.toList == TT.toList) = true := by rw [← HAp.out.eq]; exact beq_iff_eq.2 hPQ
            have e2 : (P.toList == Q.toList) = true := beq_iff_eq.2 hPQ
            go_wp2_with fail
            refine (puts_any wc).mono ?_
            rintro e w9 ⟨rfl, hb9⟩
            have B9 := Lib.hid (HB6.out.trans (hb9.mono HB6.out.size))
            clear hb9
            go_wp2_with fail
            go_ret
            exact ⟨rfl, B9.out⟩
          · have e1 : (SS.toList == TT.toList) = false := by rw [← HAp.out.eq]; exact beq_eq_false_iff_ne.2 hPQ
            have e2 : (P.toList == Q.toList) = false := beq_eq_false_iff_ne.2 hPQ
            rcases Nat.lt_trichotomy P.size Q.size with hlt | heq | hgt
            · have e3 := HAp.out.lt hlt
              have e4 : ¬ (Q.extract 0 P.size).toList = P.toList := beq_eq_false_iff_ne.1 e3
              go_wp2_with fail
              refine (puts_any wc).mono ?_
              rintro e w9 ⟨rfl, hb9⟩
              have B9 := Lib.hid (HB6.out.trans (hb9.mono HB6.out.size))
              clear hb9
              go_wp2_with fail
              go_ret
              exact ⟨rfl, B9.out⟩
            · have hx1 : ¬ P.size < Q.size := by omega
              have hx2 : ¬ Q.size < P.size := by omega
              clear heq
              go_wp2_with fail
              refine (puts_any wc).mono ?_
              rintro e w9 ⟨rfl, hb9⟩
              have B9 := Lib.hid (HB6.out.trans (hb9.mono HB6.out.size))
              clear hb9
              go_wp2_with fail
              go_ret
              exact ⟨rfl, B9.out⟩
            · have e3 := HAp.out.gt hgt
              have hx1 : ¬ P.size < Q.size := by omega
              have e4 : ¬ (P.extract 0 Q.size).toList = Q.toList := beq_eq_false_iff_ne.1 e3
              go_wp2_with fail
              refine (puts_any wc).mono ?_
              rintro e w9 ⟨rfl, hb9⟩
              have B9 := Lib.hid (HB6.out.trans (hb9.mono HB6.out.size))
              clear hb9
              go_wp2_with fail
              go_ret
              exact ⟨rfl, B9.out⟩

set_option maxRecDepth 100000 in
theorem lifted (os : Os) (started : os.Started) (H : Type) (enc : TypeId × Value → H) :
    ReturnsInHanded {} Try.checked os 6 .any (Rows.wireOrderSpec.pre6 enc Try.prog Try.f6 Rows.wireOrderRow.domain false) (Rows.wireOrderSpec.post enc Try.prog Try.f6 false true false false) := by
  refine returnsInHanded_of_change (C := Try.checked) own started (by kernel_rfl) Try.func6
    (ChangeSpec.witness6 (enc := enc) (C := Try.checked) false ⟨#[], #[.int .u64 0, .int .u64 0, .slice none 0 0, .slice none 0 0], []⟩ 8 (by kernel_rfl) (by kernel_rfl) (by kernel_rfl) (by kernel_rfl)) ?_
  intro W base args ds gs before hval0 hW hcnd _
  have hval : ∀ (j : Nat) t v, Try.f6.params[j]? = some t → args[j]? = some v → Value.okWide Try.prog W .any base t v := hval0
  have hW' := hW
  obtain ⟨p, q, hA0, hV, rfl, hfz, hnd⟩ := hW
  have hA : DataW.TrodAll enc Try.prog W 0 (fun _ => true) true Try.f6.params.toList args.toList ds p := hA0
  rw [Try.params6] at hA hval
  obtain ⟨v0, v1, v2, v3, d0, d1, d2, d3, p0, p1, p2, p3, rfl, rfl, rfl, h0, h1, h2, h3⟩ := trodAll_four hA
  obtain ⟨rfl, rfl⟩ := trodVars_none hV
  obtain ⟨x, rfl, rfl, rfl, hx⟩ := open_int ty_u64 (hval 0 _ v0 rfl rfl) h0
  obtain ⟨y, rfl, rfl, rfl, hy⟩ := open_int ty_u64 (hval 1 _ v1 rfl rfl) h1
  obtain ⟨A, n, c, ss, rfl, _, _, hr⟩ := open_bytes ty_bytes ty_byte cells_byte (hval 2 _ v2 rfl rfl) h2
  obtain ⟨A2, n2, c2, ts, rfl, _, _, hr2⟩ := open_bytes ty_bytes ty_byte cells_byte (hval 3 _ v3 rfl rfl) h3
  simp [Lit.wf, IntKind.min, IntKind.max, IntKind.signed, IntKind.bits] at hx hy
  obtain ⟨x, rfl⟩ := Int.eq_ofNat_of_zero_le hx.1
  obtain ⟨y, rfl⟩ := Int.eq_ofNat_of_zero_le hy.1
  refine (walk A A2 n c n2 c2 ss ts x y W hr hr2 (by omega) (by omega)).mono fun e W' ⟨he, hb⟩ => ?_
  subst he
  exact ⟨_, rfl, post_true laidOut (by kernel_rfl) ty_bool (by kernel_rfl) rfl hW' hb rfl⟩

theorem over : Rows.wireOrderRow.holds Try.pinned (OpenSpec.ofChange Rows.wireOrderSpec) :=
  OpenClaim.holds_of_wide 6 Try.f6 rfl rfl rfl rfl rfl rfl rfl ⟨rfl, rfl, rfl, rfl, rfl⟩ rfl rfl rfl rfl rfl (by kernel_rfl) Try.func6 (by kernel_rfl)
    (of_decide_eq_true (by kernel_rfl)) (by unfold Func.isWrapper; first | (rw [if_pos (by decide +kernel)]; kernel_rfl) | (rw [if_neg (by decide +kernel)]; exact ⟨rfl, rfl⟩))
    (fun os started H enc _ => lifted os started H enc)

theorem proved : Rows.WireOrderSaid :=
  over
end Go.Proofs.Ytjpiaeidaoklaaa.wireOrder
