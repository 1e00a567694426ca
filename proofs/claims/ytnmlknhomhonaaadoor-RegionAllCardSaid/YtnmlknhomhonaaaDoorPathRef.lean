/- The document's own answers for paths: its rune, held against the mathematics. -/
import Derived.Test.YtnmlknhomhonaaaDoorChecked
import Derived.Test.YtnmlknhomhonaaaDoorWords
import Derived.Test.YtnmlknhomhonaaaDoorPathBase
import Derived.KernelRfl
import Derived.Laws.Tables
import Derived.Lib.Strings
import Derived.BigQuiet
namespace Go.Proofs.YtnmlknhomhonaaaDoor.Path
open Go.RowKit

theorem S_get (l : List UInt8) (j : Nat) (h : j < (S l).size) : ((S l)[j]'h).toNat = at0 l j := by
  have hj : j < l.length := by rwa [S_size] at h
  unfold at0
  rw [List.getD_eq_getElem?_getD, List.getElem?_eq_getElem hj]
  rfl
theorem at0_lt (l : List UInt8) (j : Nat) : at0 l j < 256 := (l.getD j 0).toNat_lt

theorem idx_any {P : Program} (t : TypeId) (ht : P.underlying t = some .string) (l : List UInt8) (i : Nat) (h : i < l.length) (W : World) : (Instr.index t (.string (S l)) (.int .i64 (i : Int))).run P W = .ok (.int .u8 (at0 l i : Int)) W := by
  rw [run_index_string W t (S l) .i64 (i : Int) ht, dif_pos ⟨by omega, by rw [S_size]; omega⟩]
  have := S_get l i (by rw [S_size]; exact h)
  simp only [Int.toNat_natCast]
  rw [this]

theorem idx_add {P : Program} (t : TypeId) (ht : P.underlying t = some .string) (l : List UInt8) (i k : Nat) (h : i + k < l.length) (W : World) : (Instr.index t (.string (S l)) (.int .i64 ((i : Int) + (k : Int)))).run P W = .ok (.int .u8 (at0 l (i + k) : Int)) W := by
  have := idx_any (P := P) t ht l (i + k) h W
  rwa [Int.natCast_add] at this

theorem and_192 (b : Nat) (h : b < 256) : bits .and .u8 (b : Int) 192 = ((b / 64 * 64 : Nat) : Int) := by
  have h3 := u8_and_nat b 192 h (by omega)
  rw [show ((192 : Nat) : Int) = 192 from rfl] at h3
  rw [h3]
  have key : ∀ x : Fin 256, x.val &&& 192 = x.val / 64 * 64 := by decide +kernel
  rw [key ⟨b, h⟩]
theorem and_63 (b : Nat) (h : b < 256) : bits .and .u8 (b : Int) 63 = ((b % 64 : Nat) : Int) := by
  have h3 := u8_and_nat b 63 h (by omega)
  rw [show ((63 : Nat) : Int) = 63 from rfl] at h3
  rw [h3]
  have key : ∀ x : Fin 256, x.val &&& 63 = x.val % 64 := by decide +kernel
  rw [key ⟨b, h⟩]

/-- What the document's rune answers at the head of a list. -/
def r1 (m : List UInt8) : Nat × Nat := if dec m = (0xFFFD, 1) then (0, 0) else ((dec m).2, (dec m).1)
def accF (m : List UInt8) (x : Nat) : Nat → Nat
  | 0 => x
  | k + 1 => accF m x k * 64 + at0 m (k + 1) % 64
def no (v least : Nat) : Bool := decide (v < least) || decide (1114111 < v) || (decide (55296 ≤ v) && decide (v < 57344))

theorem no_least {v least : Nat} (h : v < least) : no v least = true := by unfold no; simp [h]
theorem no_top {v least : Nat} (h : 1114111 < v) : no v least = true := by unfold no; simp [h]
theorem no_sur {v least : Nat} (h : 55296 ≤ v) (h2 : v < 57344) : no v least = true := by unfold no; simp [h, h2]
theorem no_not {v least : Nat} (h : ¬ v < least) (h2 : ¬ 1114111 < v) (h3 : ¬ (55296 ≤ v ∧ v < 57344)) : ¬ no v least = true := by
  unfold no
  simp
  omega

theorem r1_one {m : List UInt8} (h : at0 m 0 < 128) : r1 m = (1, at0 m 0) := by
  have e : dec m = (at0 m 0, 1) := by unfold dec; rw [if_pos h]
  unfold r1
  rw [e, if_neg (by intro h'; injection h'; omega)]
theorem r1_bad {m : List UInt8} (h : 128 ≤ at0 m 0) (h2 : at0 m 0 < 192 ∨ 248 ≤ at0 m 0) : r1 m = (0, 0) := by
  have hb := at0_lt m 0
  unfold r1
  rw [dec_stray h (by omega) (by omega) (by omega), if_pos rfl]
theorem r1_short {m : List UInt8} {n : Nat} (h : (n = 2 ∧ at0 m 0 / 32 = 6) ∨ (n = 3 ∧ at0 m 0 / 16 = 14) ∨ (n = 4 ∧ at0 m 0 / 8 = 30)) (k : Nat) (hk : 1 ≤ k) (hkn : k < n) (hc : cont m k = false) : r1 m = (0, 0) := by
  unfold r1
  rw [if_pos ?_]
  cases head m with
  | bad h => exact h
  | one _ h0 => omega
  | two _ h0 h1 =>
    obtain rfl : k = 1 := by omega
    rw [hc] at h1; cases h1
  | three _ h0 h1 h2 =>
    rcases (by omega : k = 1 ∨ k = 2) with rfl | rfl
    · rw [hc] at h1; cases h1
    · rw [hc] at h2; cases h2
  | four _ h0 h1 h2 h3 =>
    rcases (by omega : k = 1 ∨ k = 2 ∨ k = 3) with rfl | rfl | rfl
    · rw [hc] at h1; cases h1
    · rw [hc] at h2; cases h2
    · rw [hc] at h3; cases h3
theorem valid_no (v : Nat) : Utf8.valid (v : Int) = !(decide (1114111 < v) || (decide (55296 ≤ v) && decide (v < 57344))) := by
  unfold Utf8.valid
  rw [Bool.eq_iff_iff]
  simp
  omega
theorem r1_two {m : List UInt8} (h : at0 m 0 / 32 = 6) (c1 : cont m 1 = true) : r1 m = if no (accF m (at0 m 0 - 192) 1) 128 = true then (0, 0) else (2, accF m (at0 m 0 - 192) 1) := by
  have hv : accF m (at0 m 0 - 192) 1 = (at0 m 0 % 32) * 64 + at0 m 1 % 64 := by
    show (at0 m 0 - 192) * 64 + at0 m 1 % 64 = _
    omega
  rw [hv]
  have hb := at0_lt m 1
  have e : dec m = if (at0 m 0 % 32) * 64 + at0 m 1 % 64 ≥ 0x80 then ((at0 m 0 % 32) * 64 + at0 m 1 % 64, 2) else (0xFFFD, 1) := by
    unfold dec
    rw [if_neg (by omega), if_pos (by simp [h, c1])]
  generalize hv2 : (at0 m 0 % 32) * 64 + at0 m 1 % 64 = v at *
  have hv3 : v < 2048 := by omega
  unfold r1 no
  rw [e]
  by_cases hq : v ≥ 128
  · rw [if_pos hq, if_neg (by intro h'; injection h'; omega), if_neg (by simp; omega)]
  · rw [if_neg hq, if_pos rfl, if_pos (by simp; omega)]
theorem r1_three {m : List UInt8} (h : at0 m 0 / 16 = 14) (c1 : cont m 1 = true) (c2 : cont m 2 = true) : r1 m = if no (accF m (at0 m 0 - 224) 2) 2048 = true then (0, 0) else (3, accF m (at0 m 0 - 224) 2) := by
  have hv : accF m (at0 m 0 - 224) 2 = (at0 m 0 % 16) * 4096 + (at0 m 1 % 64) * 64 + at0 m 2 % 64 := by
    show ((at0 m 0 - 224) * 64 + at0 m 1 % 64) * 64 + at0 m 2 % 64 = _
    omega
  rw [hv]
  have e : dec m = if (at0 m 0 % 16) * 4096 + (at0 m 1 % 64) * 64 + at0 m 2 % 64 ≥ 0x800 && Utf8.valid ((at0 m 0 % 16) * 4096 + (at0 m 1 % 64) * 64 + at0 m 2 % 64 : Nat) then ((at0 m 0 % 16) * 4096 + (at0 m 1 % 64) * 64 + at0 m 2 % 64, 3) else (0xFFFD, 1) := by
    unfold dec
    rw [if_neg (by omega), if_neg (by simp; omega), if_pos (by simp [h, c1, c2])]
  rw [valid_no] at e
  generalize (at0 m 0 % 16) * 4096 + (at0 m 1 % 64) * 64 + at0 m 2 % 64 = v at *
  unfold r1 no
  rw [e]
  by_cases hq : (decide (v ≥ 2048) && !(decide (1114111 < v) || (decide (55296 ≤ v) && decide (v < 57344)))) = true
  · rw [if_pos hq, if_neg (by intro h'; injection h'; omega), if_neg (by simp at hq ⊢; omega)]
  · rw [if_neg hq, if_pos rfl, if_pos (by simp at hq ⊢; omega)]
theorem r1_four {m : List UInt8} (h : at0 m 0 / 8 = 30) (c1 : cont m 1 = true) (c2 : cont m 2 = true) (c3 : cont m 3 = true) : r1 m = if no (accF m (at0 m 0 - 240) 3) 65536 = true then (0, 0) else (4, accF m (at0 m 0 - 240) 3) := by
  have hv : accF m (at0 m 0 - 240) 3 = (at0 m 0 % 8) * 262144 + (at0 m 1 % 64) * 4096 + (at0 m 2 % 64) * 64 + at0 m 3 % 64 := by
    show (((at0 m 0 - 240) * 64 + at0 m 1 % 64) * 64 + at0 m 2 % 64) * 64 + at0 m 3 % 64 = _
    omega
  rw [hv]
  have e : dec m = if (at0 m 0 % 8) * 262144 + (at0 m 1 % 64) * 4096 + (at0 m 2 % 64) * 64 + at0 m 3 % 64 ≥ 0x10000 && Utf8.valid ((at0 m 0 % 8) * 262144 + (at0 m 1 % 64) * 4096 + (at0 m 2 % 64) * 64 + at0 m 3 % 64 : Nat) then ((at0 m 0 % 8) * 262144 + (at0 m 1 % 64) * 4096 + (at0 m 2 % 64) * 64 + at0 m 3 % 64, 4) else (0xFFFD, 1) := by
    unfold dec
    rw [if_neg (by omega), if_neg (by simp; omega), if_neg (by simp; omega), if_pos (by simp [h, c1, c2, c3])]
  rw [valid_no] at e
  generalize (at0 m 0 % 8) * 262144 + (at0 m 1 % 64) * 4096 + (at0 m 2 % 64) * 64 + at0 m 3 % 64 = v at *
  unfold r1 no
  rw [e]
  by_cases hq : (decide (v ≥ 65536) && !(decide (1114111 < v) || (decide (55296 ≤ v) && decide (v < 57344)))) = true
  · rw [if_pos hq, if_neg (by intro h'; injection h'; omega), if_neg (by simp at hq ⊢; omega)]
  · rw [if_neg hq, if_pos rfl, if_pos (by simp at hq ⊢; omega)]

theorem accF_lt (m : List UInt8) (x : Nat) (hx : x < 64) : ∀ k, accF m x k < 64 ^ (k + 1)
  | 0 => by simpa [accF] using hx
  | k + 1 => by
    have := accF_lt m x hx k
    rw [Nat.pow_succ]
    unfold accF
    omega

set_option maxRecDepth 8000 in
set_option maxHeartbeats 1000000 in
theorem rune1_one (l : List UInt8) (i : Nat) (w : World) (hi : i < l.length) (_hl : l.length ≤ 1000000) (hb : at0 l i < 128) :
    Calls Tryd.prog 47 #[.string (S l), .int .i64 (i : Int)] w fun e w' => e = .returned (.tuple #[.int .i64 ((r1 (l.drop i)).1 : Int), .int .i64 ((r1 (l.drop i)).2 : Int)]) ∧ w = w' := by
  have hz : ((S l).size : Int) = (l.length : Int) := by rw [S_size]
  have hget := fun W => idx_any (P := Tryd.prog) 9 ty_string l i hi W
  have h256 := at0_lt l i
  have HR : Hid (r1 (l.drop i) = (1, at0 l i)) := by
    have := r1_one (m := l.drop i) (by rw [at0_drop]; exact hb)
    rwa [at0_drop] at this
  generalize hb0e : at0 l i = b0 at *
  clear hb0e
  generalize hse : S l = s at *
  go_enter Tryd.func47, Tryd.ntmps47
  go_wp2_with fail
  go_ret2
  rw [HR.out]
  exact ⟨rfl, rfl⟩

set_option maxRecDepth 8000 in
set_option maxHeartbeats 1000000 in
theorem rune1_bad (l : List UInt8) (i : Nat) (w : World) (hi : i < l.length) (_hl : l.length ≤ 1000000) (hb : 128 ≤ at0 l i) (hb2 : at0 l i < 192) :
    Calls Tryd.prog 47 #[.string (S l), .int .i64 (i : Int)] w fun e w' => e = .returned (.tuple #[.int .i64 ((r1 (l.drop i)).1 : Int), .int .i64 ((r1 (l.drop i)).2 : Int)]) ∧ w = w' := by
  have hz : ((S l).size : Int) = (l.length : Int) := by rw [S_size]
  have hget := fun W => idx_any (P := Tryd.prog) 9 ty_string l i hi W
  have h256 := at0_lt l i
  have HR : Hid (r1 (l.drop i) = (0, 0)) := r1_bad (by rw [at0_drop]; show 128 ≤ at0 l i; omega) (Or.inl (by rw [at0_drop]; show _; first | exact hb2 | exact hb))
  generalize hb0e : at0 l i = b0 at *
  clear hb0e
  generalize hse : S l = s at *
  go_enter Tryd.func47, Tryd.ntmps47
  go_wp2_with fail
  go_ret2
  rw [HR.out]
  exact ⟨rfl, rfl⟩

set_option maxRecDepth 8000 in
set_option maxHeartbeats 1000000 in
theorem rune1_bad2 (l : List UInt8) (i : Nat) (w : World) (hi : i < l.length) (_hl : l.length ≤ 1000000) (hb : 248 ≤ at0 l i) :
    Calls Tryd.prog 47 #[.string (S l), .int .i64 (i : Int)] w fun e w' => e = .returned (.tuple #[.int .i64 ((r1 (l.drop i)).1 : Int), .int .i64 ((r1 (l.drop i)).2 : Int)]) ∧ w = w' := by
  have hz : ((S l).size : Int) = (l.length : Int) := by rw [S_size]
  have hget := fun W => idx_any (P := Tryd.prog) 9 ty_string l i hi W
  have h256 := at0_lt l i
  have HR : Hid (r1 (l.drop i) = (0, 0)) := r1_bad (by rw [at0_drop]; show 128 ≤ at0 l i; omega) (Or.inr (by rw [at0_drop]; show _; first | exact hb2 | exact hb))
  generalize hb0e : at0 l i = b0 at *
  clear hb0e
  generalize hse : S l = s at *
  go_enter Tryd.func47, Tryd.ntmps47
  go_wp2_with fail
  go_ret2
  rw [HR.out]
  exact ⟨rfl, rfl⟩

set_option maxRecDepth 8000 in
set_option maxHeartbeats 1000000 in
theorem rune1_two (l : List UInt8) (i : Nat) (w : World) (hi : i < l.length) (hl : l.length ≤ 1000000) (hb : 192 ≤ at0 l i) (hb2 : at0 l i < 224) :
    Calls Tryd.prog 47 #[.string (S l), .int .i64 (i : Int)] w fun e w' => e = .returned (.tuple #[.int .i64 ((r1 (l.drop i)).1 : Int), .int .i64 ((r1 (l.drop i)).2 : Int)]) ∧ w = w' := by
  have hz : ((S l).size : Int) = (l.length : Int) := by rw [S_size]
  have hget := fun W => idx_any (P := Tryd.prog) 9 ty_string l i hi W
  have h256 := at0_lt l i
  have e0 : at0 (l.drop i) 0 = at0 l i := by rw [at0_drop]; rfl
  have HSH : Hid (∀ k, 1 ≤ k → k < 2 → cont (l.drop i) k = false → r1 (l.drop i) = (0, 0)) := fun k h1 h2 hc => r1_short (n := 2) (Or.inl ⟨rfl, by omega⟩) k h1 h2 hc
  have HEND : Hid ((∀ k, 1 ≤ k → k < 2 → cont (l.drop i) k = true) → r1 (l.drop i) = if no (accF (l.drop i) (at0 l i - 192) 1) 128 = true then (0, 0) else (2, accF (l.drop i) (at0 l i - 192) 1)) := fun hcs => by
    have := r1_two (m := l.drop i) (by omega) (hcs 1 (by omega) (by omega))
    rwa [e0] at this
  have HAC : Hid (∀ k, accF (l.drop i) (at0 l i - 192) k < 64 ^ (k + 1)) := accF_lt _ _ (by omega)
  have HAT : Hid (∀ k, at0 (l.drop i) k = at0 l (i + k)) := fun k => at0_drop l i k
  have HLN : Hid ((l.drop i).length = l.length - i) := List.length_drop
  clear e0
  generalize hb0e : at0 l i = b0 at *
  clear hb0e
  generalize hse : S l = s at *
  go_enter Tryd.func47, Tryd.ntmps47
  go_wp2_with fail
  go_loop [4, 5, 8, 10] (fun _ _ v kk => ∃ k : Nat, 1 ≤ k ∧ k ≤ 2 ∧ kk = .int .i64 (k : Int) ∧ v = .int .i64 (accF (l.drop i) (b0 - 192) (k - 1) : Int) ∧ ∀ j, 1 ≤ j → j < k → cont (l.drop i) j = true) (fun _ _ _ kk => 2 - (intOf kk).toNat)
  case atStart => exact ⟨1, by omega, by omega, rfl, by show _ = Value.int .i64 ((b0 - 192 : Nat) : Int); congr 1; omega, by intro j h1 h2; omega⟩
  case round =>
    obtain ⟨k, hk1, hk2, rfl, rfl, hcs⟩ := hrel
    have HCS := Lib.hid hcs
    clear hcs
    have hac := HAC.out (k - 1)
    by_cases hkn : k < 2
    · have hak : accF (l.drop i) (b0 - 192) (k - 1) < 262144 * 64 := Nat.lt_of_lt_of_le hac (by
        rcases (by omega : k = 1 ∨ k = 2 ∨ k = 3) with rfl | rfl | rfl <;> decide)
      clear hac
      have HNX : Hid (accF (l.drop i) (b0 - 192) k = accF (l.drop i) (b0 - 192) (k - 1) * 64 + at0 l (i + k) % 64) := by
        show _ = _
        obtain ⟨q, rfl⟩ : ∃ q, k = q + 1 := ⟨k - 1, by omega⟩
        rw [accF, HAT.out]
        rfl
      generalize accF (l.drop i) (b0 - 192) (k - 1) = v at *
      have hk256 := at0_lt l (i + k)
      have ha1 := and_192 (at0 l (i + k)) hk256
      have ha2 := and_63 (at0 l (i + k)) hk256
      have HCO : Hid (cont (l.drop i) k = (decide (i + k < l.length) && at0 l (i + k) / 64 == 2)) := by
        show _ = _
        unfold cont
        rw [HAT.out, HLN.out]
        congr 2
        rw [eq_iff_iff]
        omega
      have hc6 : at0 l (i + k) % 64 < 64 := Nat.mod_lt _ (by omega)
      by_cases hin : i + k < l.length
      · have hgk := fun W => idx_add (P := Tryd.prog) 9 ty_string l i k hin W
        rw [hse] at hgk
        by_cases hq : at0 l (i + k) / 64 = 2
        · have HCT : Hid (cont (l.drop i) k = true) := by
            show _ = _
            rw [HCO.out]
            simp [hin, hq]
          rw [hq] at ha1
          generalize at0 l (i + k) % 64 = c6 at *
          clear hq HCO
          generalize at0 l (i + k) = bk at *
          go_wp2_with fail
          exact ⟨⟨_, _, _, _, ⟨k + 1, by omega, by omega, rfl, rfl, fun j h1 h2 => by
            by_cases hjk : j = k
            · rw [hjk]; exact HCT.out
            · exact HCS.out j h1 (by omega)⟩, rfl, rfl, by rw [Nat.add_sub_cancel, HNX.out]; rfl, rfl⟩, by simp [intOf]; omega⟩
        · have HCT : Hid (r1 (l.drop i) = (0, 0)) := HSH.out k hk1 hkn (by
            rw [HCO.out]
            simp [hq])
          have hne : (((at0 l (i + k) / 64 * 64 : Nat) : Int) != 128) = true := by
            rw [bne_iff_ne]; omega
          clear HCO hq HNX
          generalize at0 l (i + k) / 64 * 64 = q6 at *
          generalize at0 l (i + k) % 64 = c6 at *
          generalize at0 l (i + k) = bk at *
          go_wp2_with fail
          go_ret2
          rw [HCT.out]
          exact ⟨rfl, rfl⟩
      · have HCT : Hid (r1 (l.drop i) = (0, 0)) := HSH.out k hk1 hkn (by
          rw [HCO.out]
          simp [hin])
        clear HCO HNX
        go_wp2_with fail
        go_ret2
        rw [HCT.out]
        exact ⟨rfl, rfl⟩
    · obtain rfl : k = 2 := by omega
      have HE := Lib.hid (HEND.out HCS.out)
      have hak : accF (l.drop i) (b0 - 192) (2 - 1) < 64 ^ 2 := hac
      clear hac
      rw [show (2 : Nat) - 1 = 1 from rfl] at hak ⊢
      simp only [Nat.reducePow] at hak
      generalize accF (l.drop i) (b0 - 192) 1 = v at *
      by_cases h1 : v < 128
      · have HN : Hid (no v 128 = true) := no_least h1
        obtain ⟨z, hzv⟩ : ∃ z : Int, (v : Int) = z := ⟨_, rfl⟩
        have z0 : z < 128 := by omega
        rw [hzv]
        have HZV := Lib.hid hzv
        clear hzv h1 hak
        go_wp2_with fail
        go_ret2
        rw [HE.out, if_pos HN.out]
        exact ⟨rfl, rfl⟩
      · have HN : Hid (¬ no v 128 = true) := no_not (by omega) (by omega) (by omega)
        obtain ⟨z, hzv⟩ : ∃ z : Int, (v : Int) = z := ⟨_, rfl⟩
        have z0 : ¬ z < 128 := by omega
        have z1 : z < 4096 := by omega
        rw [hzv]
        have HZV := Lib.hid hzv
        clear hzv h1 hak
        go_wp2_with fail
        go_ret2
        rw [HE.out, if_neg HN.out, ← HZV.out]
        exact ⟨rfl, rfl⟩
set_option maxRecDepth 8000 in
set_option maxHeartbeats 1000000 in
theorem rune1_three (l : List UInt8) (i : Nat) (w : World) (hi : i < l.length) (hl : l.length ≤ 1000000) (hb : 224 ≤ at0 l i) (hb2 : at0 l i < 240) :
    Calls Tryd.prog 47 #[.string (S l), .int .i64 (i : Int)] w fun e w' => e = .returned (.tuple #[.int .i64 ((r1 (l.drop i)).1 : Int), .int .i64 ((r1 (l.drop i)).2 : Int)]) ∧ w = w' := by
  have hz : ((S l).size : Int) = (l.length : Int) := by rw [S_size]
  have hget := fun W => idx_any (P := Tryd.prog) 9 ty_string l i hi W
  have h256 := at0_lt l i
  have e0 : at0 (l.drop i) 0 = at0 l i := by rw [at0_drop]; rfl
  have HSH : Hid (∀ k, 1 ≤ k → k < 3 → cont (l.drop i) k = false → r1 (l.drop i) = (0, 0)) := fun k h1 h2 hc => r1_short (n := 3) (Or.inr (Or.inl ⟨rfl, by omega⟩)) k h1 h2 hc
  have HEND : Hid ((∀ k, 1 ≤ k → k < 3 → cont (l.drop i) k = true) → r1 (l.drop i) = if no (accF (l.drop i) (at0 l i - 224) 2) 2048 = true then (0, 0) else (3, accF (l.drop i) (at0 l i - 224) 2)) := fun hcs => by
    have := r1_three (m := l.drop i) (by omega) (hcs 1 (by omega) (by omega)) (hcs 2 (by omega) (by omega))
    rwa [e0] at this
  have HAC : Hid (∀ k, accF (l.drop i) (at0 l i - 224) k < 64 ^ (k + 1)) := accF_lt _ _ (by omega)
  have HAT : Hid (∀ k, at0 (l.drop i) k = at0 l (i + k)) := fun k => at0_drop l i k
  have HLN : Hid ((l.drop i).length = l.length - i) := List.length_drop
  clear e0
  generalize hb0e : at0 l i = b0 at *
  clear hb0e
  generalize hse : S l = s at *
  go_enter Tryd.func47, Tryd.ntmps47
  go_wp2_with fail
  go_loop [4, 5, 8, 10] (fun _ _ v kk => ∃ k : Nat, 1 ≤ k ∧ k ≤ 3 ∧ kk = .int .i64 (k : Int) ∧ v = .int .i64 (accF (l.drop i) (b0 - 224) (k - 1) : Int) ∧ ∀ j, 1 ≤ j → j < k → cont (l.drop i) j = true) (fun _ _ _ kk => 3 - (intOf kk).toNat)
  case atStart => exact ⟨1, by omega, by omega, rfl, by show _ = Value.int .i64 ((b0 - 224 : Nat) : Int); congr 1; omega, by intro j h1 h2; omega⟩
  case round =>
    obtain ⟨k, hk1, hk2, rfl, rfl, hcs⟩ := hrel
    have HCS := Lib.hid hcs
    clear hcs
    have hac := HAC.out (k - 1)
    by_cases hkn : k < 3
    · have hak : accF (l.drop i) (b0 - 224) (k - 1) < 262144 * 64 := Nat.lt_of_lt_of_le hac (by
        rcases (by omega : k = 1 ∨ k = 2 ∨ k = 3) with rfl | rfl | rfl <;> decide)
      clear hac
      have HNX : Hid (accF (l.drop i) (b0 - 224) k = accF (l.drop i) (b0 - 224) (k - 1) * 64 + at0 l (i + k) % 64) := by
        show _ = _
        obtain ⟨q, rfl⟩ : ∃ q, k = q + 1 := ⟨k - 1, by omega⟩
        rw [accF, HAT.out]
        rfl
      generalize accF (l.drop i) (b0 - 224) (k - 1) = v at *
      have hk256 := at0_lt l (i + k)
      have ha1 := and_192 (at0 l (i + k)) hk256
      have ha2 := and_63 (at0 l (i + k)) hk256
      have HCO : Hid (cont (l.drop i) k = (decide (i + k < l.length) && at0 l (i + k) / 64 == 2)) := by
        show _ = _
        unfold cont
        rw [HAT.out, HLN.out]
        congr 2
        rw [eq_iff_iff]
        omega
      have hc6 : at0 l (i + k) % 64 < 64 := Nat.mod_lt _ (by omega)
      by_cases hin : i + k < l.length
      · have hgk := fun W => idx_add (P := Tryd.prog) 9 ty_string l i k hin W
        rw [hse] at hgk
        by_cases hq : at0 l (i + k) / 64 = 2
        · have HCT : Hid (cont (l.drop i) k = true) := by
            show _ = _
            rw [HCO.out]
            simp [hin, hq]
          rw [hq] at ha1
          generalize at0 l (i + k) % 64 = c6 at *
          clear hq HCO
          generalize at0 l (i + k) = bk at *
          go_wp2_with fail
          exact ⟨⟨_, _, _, _, ⟨k + 1, by omega, by omega, rfl, rfl, fun j h1 h2 => by
            by_cases hjk : j = k
            · rw [hjk]; exact HCT.out
            · exact HCS.out j h1 (by omega)⟩, rfl, rfl, by rw [Nat.add_sub_cancel, HNX.out]; rfl, rfl⟩, by simp [intOf]; omega⟩
        · have HCT : Hid (r1 (l.drop i) = (0, 0)) := HSH.out k hk1 hkn (by
            rw [HCO.out]
            simp [hq])
          have hne : (((at0 l (i + k) / 64 * 64 : Nat) : Int) != 128) = true := by
            rw [bne_iff_ne]; omega
          clear HCO hq HNX
          generalize at0 l (i + k) / 64 * 64 = q6 at *
          generalize at0 l (i + k) % 64 = c6 at *
          generalize at0 l (i + k) = bk at *
          go_wp2_with fail
          go_ret2
          rw [HCT.out]
          exact ⟨rfl, rfl⟩
      · have HCT : Hid (r1 (l.drop i) = (0, 0)) := HSH.out k hk1 hkn (by
          rw [HCO.out]
          simp [hin])
        clear HCO HNX
        go_wp2_with fail
        go_ret2
        rw [HCT.out]
        exact ⟨rfl, rfl⟩
    · obtain rfl : k = 3 := by omega
      have HE := Lib.hid (HEND.out HCS.out)
      have hak : accF (l.drop i) (b0 - 224) (3 - 1) < 64 ^ 3 := hac
      clear hac
      rw [show (3 : Nat) - 1 = 2 from rfl] at hak ⊢
      simp only [Nat.reducePow] at hak
      generalize accF (l.drop i) (b0 - 224) 2 = v at *
      by_cases h1 : v < 2048
      · have HN : Hid (no v 2048 = true) := no_least h1
        obtain ⟨z, hzv⟩ : ∃ z : Int, (v : Int) = z := ⟨_, rfl⟩
        have z0 : z < 2048 := by omega
        rw [hzv]
        have HZV := Lib.hid hzv
        clear hzv h1 hak
        go_wp2_with fail
        go_ret2
        rw [HE.out, if_pos HN.out]
        exact ⟨rfl, rfl⟩
      · by_cases h3 : 55296 ≤ v
        · by_cases h4 : v < 57344
          · have HN : Hid (no v 2048 = true) := no_sur h3 h4
            obtain ⟨z, hzv⟩ : ∃ z : Int, (v : Int) = z := ⟨_, rfl⟩
            have z0 : ¬ z < 2048 := by omega
            have z1 : z < 262144 := by omega
            have z2 : 55296 ≤ z := by omega
            have z3 : z < 57344 := by omega
            rw [hzv]
            have HZV := Lib.hid hzv
            clear hzv h1 h3 h4 hak
            go_wp2_with fail
            go_ret2
            rw [HE.out, if_pos HN.out]
            exact ⟨rfl, rfl⟩
          · have HN : Hid (¬ no v 2048 = true) := no_not (by omega) (by omega) (by omega)
            obtain ⟨z, hzv⟩ : ∃ z : Int, (v : Int) = z := ⟨_, rfl⟩
            have z0 : ¬ z < 2048 := by omega
            have z1 : z < 262144 := by omega
            have z2 : 55296 ≤ z := by omega
            have z3 : ¬ z < 57344 := by omega
            rw [hzv]
            have HZV := Lib.hid hzv
            clear hzv h1 h3 h4 hak
            go_wp2_with fail
            go_ret2
            rw [HE.out, if_neg HN.out, ← HZV.out]
            exact ⟨rfl, rfl⟩
        · have HN : Hid (¬ no v 2048 = true) := no_not (by omega) (by omega) (by omega)
          obtain ⟨z, hzv⟩ : ∃ z : Int, (v : Int) = z := ⟨_, rfl⟩
          have z0 : ¬ z < 2048 := by omega
          have z1 : z < 262144 := by omega
          have z2 : ¬ 55296 ≤ z := by omega
          rw [hzv]
          have HZV := Lib.hid hzv
          clear hzv h1 h3 hak
          go_wp2_with fail
          go_ret2
          rw [HE.out, if_neg HN.out, ← HZV.out]
          exact ⟨rfl, rfl⟩
set_option maxRecDepth 8000 in
set_option maxHeartbeats 1000000 in
theorem rune1_four (l : List UInt8) (i : Nat) (w : World) (hi : i < l.length) (hl : l.length ≤ 1000000) (hb : 240 ≤ at0 l i) (hb2 : at0 l i < 248) :
    Calls Tryd.prog 47 #[.string (S l), .int .i64 (i : Int)] w fun e w' => e = .returned (.tuple #[.int .i64 ((r1 (l.drop i)).1 : Int), .int .i64 ((r1 (l.drop i)).2 : Int)]) ∧ w = w' := by
  have hz : ((S l).size : Int) = (l.length : Int) := by rw [S_size]
  have hget := fun W => idx_any (P := Tryd.prog) 9 ty_string l i hi W
  have h256 := at0_lt l i
  have e0 : at0 (l.drop i) 0 = at0 l i := by rw [at0_drop]; rfl
  have HSH : Hid (∀ k, 1 ≤ k → k < 4 → cont (l.drop i) k = false → r1 (l.drop i) = (0, 0)) := fun k h1 h2 hc => r1_short (n := 4) (Or.inr (Or.inr ⟨rfl, by omega⟩)) k h1 h2 hc
  have HEND : Hid ((∀ k, 1 ≤ k → k < 4 → cont (l.drop i) k = true) → r1 (l.drop i) = if no (accF (l.drop i) (at0 l i - 240) 3) 65536 = true then (0, 0) else (4, accF (l.drop i) (at0 l i - 240) 3)) := fun hcs => by
    have := r1_four (m := l.drop i) (by omega) (hcs 1 (by omega) (by omega)) (hcs 2 (by omega) (by omega)) (hcs 3 (by omega) (by omega))
    rwa [e0] at this
  have HAC : Hid (∀ k, accF (l.drop i) (at0 l i - 240) k < 64 ^ (k + 1)) := accF_lt _ _ (by omega)
  have HAT : Hid (∀ k, at0 (l.drop i) k = at0 l (i + k)) := fun k => at0_drop l i k
  have HLN : Hid ((l.drop i).length = l.length - i) := List.length_drop
  clear e0
  generalize hb0e : at0 l i = b0 at *
  clear hb0e
  generalize hse : S l = s at *
  go_enter Tryd.func47, Tryd.ntmps47
  go_wp2_with fail
  go_loop [4, 5, 8, 10] (fun _ _ v kk => ∃ k : Nat, 1 ≤ k ∧ k ≤ 4 ∧ kk = .int .i64 (k : Int) ∧ v = .int .i64 (accF (l.drop i) (b0 - 240) (k - 1) : Int) ∧ ∀ j, 1 ≤ j → j < k → cont (l.drop i) j = true) (fun _ _ _ kk => 4 - (intOf kk).toNat)
  case atStart => exact ⟨1, by omega, by omega, rfl, by show _ = Value.int .i64 ((b0 - 240 : Nat) : Int); congr 1; omega, by intro j h1 h2; omega⟩
  case round =>
    obtain ⟨k, hk1, hk2, rfl, rfl, hcs⟩ := hrel
    have HCS := Lib.hid hcs
    clear hcs
    have hac := HAC.out (k - 1)
    by_cases hkn : k < 4
    · have hak : accF (l.drop i) (b0 - 240) (k - 1) < 262144 * 64 := Nat.lt_of_lt_of_le hac (by
        rcases (by omega : k = 1 ∨ k = 2 ∨ k = 3) with rfl | rfl | rfl <;> decide)
      clear hac
      have HNX : Hid (accF (l.drop i) (b0 - 240) k = accF (l.drop i) (b0 - 240) (k - 1) * 64 + at0 l (i + k) % 64) := by
        show _ = _
        obtain ⟨q, rfl⟩ : ∃ q, k = q + 1 := ⟨k - 1, by omega⟩
        rw [accF, HAT.out]
        rfl
      generalize accF (l.drop i) (b0 - 240) (k - 1) = v at *
      have hk256 := at0_lt l (i + k)
      have ha1 := and_192 (at0 l (i + k)) hk256
      have ha2 := and_63 (at0 l (i + k)) hk256
      have HCO : Hid (cont (l.drop i) k = (decide (i + k < l.length) && at0 l (i + k) / 64 == 2)) := by
        show _ = _
        unfold cont
        rw [HAT.out, HLN.out]
        congr 2
        rw [eq_iff_iff]
        omega
      have hc6 : at0 l (i + k) % 64 < 64 := Nat.mod_lt _ (by omega)
      by_cases hin : i + k < l.length
      · have hgk := fun W => idx_add (P := Tryd.prog) 9 ty_string l i k hin W
        rw [hse] at hgk
        by_cases hq : at0 l (i + k) / 64 = 2
        · have HCT : Hid (cont (l.drop i) k = true) := by
            show _ = _
            rw [HCO.out]
            simp [hin, hq]
          rw [hq] at ha1
          generalize at0 l (i + k) % 64 = c6 at *
          clear hq HCO
          generalize at0 l (i + k) = bk at *
          go_wp2_with fail
          exact ⟨⟨_, _, _, _, ⟨k + 1, by omega, by omega, rfl, rfl, fun j h1 h2 => by
            by_cases hjk : j = k
            · rw [hjk]; exact HCT.out
            · exact HCS.out j h1 (by omega)⟩, rfl, rfl, by rw [Nat.add_sub_cancel, HNX.out]; rfl, rfl⟩, by simp [intOf]; omega⟩
        · have HCT : Hid (r1 (l.drop i) = (0, 0)) := HSH.out k hk1 hkn (by
            rw [HCO.out]
            simp [hq])
          have hne : (((at0 l (i + k) / 64 * 64 : Nat) : Int) != 128) = true := by
            rw [bne_iff_ne]; omega
          clear HCO hq HNX
          generalize at0 l (i + k) / 64 * 64 = q6 at *
          generalize at0 l (i + k) % 64 = c6 at *
          generalize at0 l (i + k) = bk at *
          go_wp2_with fail
          go_ret2
          rw [HCT.out]
          exact ⟨rfl, rfl⟩
      · have HCT : Hid (r1 (l.drop i) = (0, 0)) := HSH.out k hk1 hkn (by
          rw [HCO.out]
          simp [hin])
        clear HCO HNX
        go_wp2_with fail
        go_ret2
        rw [HCT.out]
        exact ⟨rfl, rfl⟩
    · obtain rfl : k = 4 := by omega
      have HE := Lib.hid (HEND.out HCS.out)
      have hak : accF (l.drop i) (b0 - 240) (4 - 1) < 64 ^ 4 := hac
      clear hac
      rw [show (4 : Nat) - 1 = 3 from rfl] at hak ⊢
      simp only [Nat.reducePow] at hak
      generalize accF (l.drop i) (b0 - 240) 3 = v at *
      clear hak
      by_cases h1 : v < 65536
      · have HN : Hid (no v 65536 = true) := no_least h1
        obtain ⟨z, hzv⟩ : ∃ z : Int, (v : Int) = z := ⟨_, rfl⟩
        have z0 : z < 65536 := by omega
        rw [hzv]
        have HZV := Lib.hid hzv
        clear hzv h1
        go_wp2_with fail
        go_ret2
        rw [HE.out, if_pos HN.out]
        exact ⟨rfl, rfl⟩
      · by_cases h2 : 1114111 < v
        · have HN : Hid (no v 65536 = true) := no_top h2
          obtain ⟨z, hzv⟩ : ∃ z : Int, (v : Int) = z := ⟨_, rfl⟩
          have z0 : ¬ z < 65536 := by omega
          have z1 : 1114111 < z := by omega
          rw [hzv]
          have HZV := Lib.hid hzv
          clear hzv h1 h2
          go_wp2_with fail
          go_ret2
          rw [HE.out, if_pos HN.out]
          exact ⟨rfl, rfl⟩
        · have HN : Hid (¬ no v 65536 = true) := no_not (by omega) (by omega) (by omega)
          obtain ⟨z, hzv⟩ : ∃ z : Int, (v : Int) = z := ⟨_, rfl⟩
          have z0 : ¬ z < 65536 := by omega
          have z1 : ¬ 1114111 < z := by omega
          have z2 : ¬ z < 57344 := by omega
          rw [hzv]
          have HZV := Lib.hid hzv
          clear hzv h1 h2
          go_wp2_with fail
          go_ret2
          rw [HE.out, if_neg HN.out, ← HZV.out]
          exact ⟨rfl, rfl⟩
theorem rune1_any (l : List UInt8) (i : Nat) (w : World) (hi : i < l.length) (hl : l.length ≤ 1000000) :
    Calls Tryd.prog 47 #[.string (S l), .int .i64 (i : Int)] w fun e w' => e = .returned (.tuple #[.int .i64 ((r1 (l.drop i)).1 : Int), .int .i64 ((r1 (l.drop i)).2 : Int)]) ∧ w = w' := by
  by_cases h1 : at0 l i < 128
  · exact rune1_one l i w hi hl h1
  · by_cases h2 : at0 l i < 192
    · exact rune1_bad l i w hi hl (by omega) h2
    · by_cases h3 : at0 l i < 224
      · exact rune1_two l i w hi hl (by omega) h3
      · by_cases h4 : at0 l i < 240
        · exact rune1_three l i w hi hl (by omega) h4
        · by_cases h5 : at0 l i < 248
          · exact rune1_four l i w hi hl (by omega) h5
          · exact rune1_bad2 l i w hi hl (by omega)
end Go.Proofs.YtnmlknhomhonaaaDoor.Path
