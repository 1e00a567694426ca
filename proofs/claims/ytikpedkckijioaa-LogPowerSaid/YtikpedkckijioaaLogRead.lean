/- What a page says, as the code reads it. (Written by gen/logread.py.) -/
import Derived.Test.YtikpedkckijioaaLogLeaf
import Derived.Test.YtikpedkckijioaaPhaseOwn
import Derived.Lib.SliceRun
namespace Go.Proofs.Ytikpedkckijioaa.Log
open Go.RowKit Disk
open PhaseG (wp_region_own Took)
open Phase (stepsL_cons stepsL_nil)

theorem val_num (bs : List UInt8) : val bs = num bs := rfl
theorem S_list' (l : List UInt8) : (S l).toList = l := ByteArray.toList_mk l
set_option maxRecDepth 100000 in
theorem equal_bytes (A B : Option Addr) (n m c c' : Nat) (a b : List UInt8) (w : World) (ha : Rd w A n a) (hb : Rd w B m b) :
    Calls Try.prog 53 #[.slice A n c, .slice B m c'] w (Ans (.bool (decide (a = b))) w) := by
  have h1 := run_string_Rd (P := Try.prog) 32 9 5 ty_bytes ty_byte ty_string ha c
  have h2 := run_string_Rd (P := Try.prog) 32 9 5 ty_bytes ty_byte ty_string hb c'
  have s1 := S_list' a
  have s2 := S_list' b
  clear ha hb
  by_cases h : a = b
  · subst h
    rw [decide_eq_true rfl]
    go_enter Try.func53, Try.ntmps53
    go_wp2_with fail
    go_ret
    exact ⟨rfl, rfl⟩
  · have hne : (a == b) = false := by simpa using h
    rw [decide_eq_false h]
    clear h
    go_enter Try.func53, Try.ntmps53
    go_wp2_with fail
    go_ret
    exact ⟨rfl, rfl⟩
theorem own_none (w : World) (e : TypeId) : (w.alloc (.cells #[] e)).ownsRow w.heap.size e 1 (.slice (some ⟨w.heap.size, 0, none⟩) 0 0) 0 [] := by
  have := World.ownsRow_lit (base := w.heap.size) (e := e) (size := 1) w #[] 0 (Nat.le_refl _) (by unfold maxLen; omega) (by simp)
  simpa using this
set_option maxRecDepth 100000 in
theorem clone_any (A : Option Addr) (n c : Nat) (bs : List UInt8) (w : World) (hr : Rd w A n bs) (hle : n ≤ 100000000) :
    Calls Try.prog 47 #[.slice A n c] w (Put w bs) := by
  have H := Lib.hid hr
  cases A with
  | none =>
    have h0 : n = 0 := by
      rcases Nat.eq_zero_or_pos n with h | h
      · exact h
      · obtain ⟨_, e', _⟩ := hr.cells h
        cases e'
    subst h0
    have hb0 : bs = [] := List.eq_nil_of_length_eq_zero hr.len
    subst hb0
    clear hr
    have heq := Lib.run_eql_slice_nil (P := Try.prog) w 32 5 none 0 c 0 0 ty_bytes
    go_enter Try.func47, Try.ntmps47
    go_wp2_with fail
    go_ret
    exact ⟨none, 0, 0, rfl, rfl, Nat.le_refl _, own_nil _ _ _, Below.refl _ _⟩
  | some ad =>
    clear hr
    obtain ⟨i, hi, hz0, hz1, hz2⟩ := infos info_byte
    have HI := Lib.hid hi
    have HZ0 := Lib.hid hz0
    have HZ1 := Lib.hid hz1
    have HZ2 := Lib.hid hz2
    have HN := Lib.hid H.out.len
    clear hi hz0 hz1 hz2
    have heq := Lib.run_eql_slice_nil (P := Try.prog) w 32 5 (some ad) n c 0 0 ty_bytes
    go_enter Try.func47, Try.ntmps47
    have HBa := Lib.hid ((Below.refl w.heap.size w).alloc (Nat.le_refl _) (.cells #[] 5))
    go_wp2_with (at_builtin; refine wpList_append_Rd rfl (.tmp 5) (.tmp 6) _ rfl ty_bytes HI.out HZ0.out HZ1.out HZ2.out rfl rfl (own_none w 5) rfl (H.out.below HBa.out) (by omega) (by simp) ?_)
    intro v' w3 hown3 hgr3
    have HO3 := Lib.hid hown3
    have HB3 := Lib.hid (HBa.out.grown hgr3 HBa.out.size (fun g hg => ((own_none w 5).lt g hg).1))
    clear hown3 hgr3
    go_wp2_with fail
    go_ret
    refine Put.of ?_ HB3.out
    rw [HN.out]
    simpa using HO3.out
theorem takeS_yes {k : Nat} {bs : List UInt8} (h : k ≤ bs.length) : takeS k (bs, false) = (bs.take k, (bs.drop k, false)) := by
  unfold takeS
  rw [if_neg (by simp; omega)]
theorem two_num (bs : List UInt8) (h : 2 ≤ bs.length) : num (bs.take 2) = num (bs.take 1) * 256 + num ((bs.drop 1).take 1) ∧ num (bs.take 1) < 256 ∧ num ((bs.drop 1).take 1) < 256 := by
  have e : bs.take 2 = bs.take 1 ++ (bs.drop 1).take 1 := by
    rw [← List.take_append_drop 1 (bs.take 2), List.take_take, List.drop_take]
    rfl
  have l1 := num_lt (bs.take 1)
  have l2 := num_lt ((bs.drop 1).take 1)
  have p1 : (bs.take 1).length = 1 := by rw [List.length_take]; omega
  have p2 : ((bs.drop 1).take 1).length = 1 := by rw [List.length_take, List.length_drop]; omega
  rw [p1] at l1
  rw [p2] at l2
  rw [e, num_append, p2]
  exact ⟨rfl, l1, l2⟩
theorem or_two (a b : Nat) (ha : a < 256) (hb : b < 256) : bits .or .u16 ((a : Int) * 256) (b : Int) = ((a * 256 + b : Nat) : Int) := by
  have h := u16_or_nat (a * 256) b (by omega) (by omega)
  have := Nat.two_pow_add_eq_or_of_lt (i := 8) (show b < 2 ^ 8 from hb) a
  rw [Nat.mul_comm a 256] at *
  rw [← this] at h
  rw [← h]
  congr 1
  omega
set_option maxRecDepth 100000 in
theorem readTwo_any (r : Nat) (bs : List UInt8) (w : World) (h : Rdr w r (bs, false)) (hl : 2 ≤ bs.length) :
    Calls Try.prog 51 #[.pointer (some ⟨r, 0, none⟩)] w (Red w r (.int .u16 (num (bs.take 2) : Nat)) (bs.drop 2, false)) := by
  have c1 := rByte_any r (bs, false) w h
  rw [takeS_yes (by omega), val_num] at c1
  obtain ⟨e1, e2, e3⟩ := two_num bs hl
  have HL := Lib.hid hl
  have HV := Lib.hid e1
  have HD : Hid ((bs.drop 1).drop 1 = bs.drop 2) := List.drop_drop ..
  have HA := Lib.hid e2
  have HB := Lib.hid e3
  have ho := or_two _ _ e2 e3
  have hw1 : IntKind.u16.wrap ((num (bs.take 1) : Int) * 256) = (num (bs.take 1) : Int) * 256 := by rw [show IntKind.u16.wrap ((num (bs.take 1) : Int) * 256) = ((num (bs.take 1) : Int) * 256) % 65536 from by simp [IntKind.wrap, IntKind.bits, IntKind.signed]]; omega
  clear h hl e1
  have HC : Hid (∀ W, Rdr W r (bs.drop 1, false) → Calls Try.prog 74 #[.pointer (some ⟨r, 0, none⟩)] W (Red W r (.int .u8 (num ((bs.drop 1).take 1) : Int)) ((bs.drop 1).drop 1, false))) := fun W hW => by
    have := rByte_any r (bs.drop 1, false) W hW
    rwa [takeS_yes (by rw [List.length_drop]; have := HL.out; omega), val_num] at this
  dsimp only at c1
  generalize num (bs.take 1) = x at *
  generalize num ((bs.drop 1).take 1) = y at *
  go_enter Try.func51, Try.ntmps51
  go_wp2_with fail
  refine c1.mono ?_
  clear c1
  rintro e w1 ⟨rfl, h1, g1⟩
  have G1 := Lib.hid g1
  have H1 := Lib.hid h1
  clear g1 h1
  go_wp2_with fail
  refine (HC.out w1 H1.out).mono ?_
  rintro e w2 ⟨rfl, h2, g2⟩
  rw [HD.out] at h2
  have G2 := Lib.hid (grown_trans G1.out g2)
  have H2 := Lib.hid h2
  clear g2 h2
  go_wp2_with fail
  go_ret
  rw [HV.out]
  exact ⟨rfl, H2.out, G2.out⟩
end Go.Proofs.Ytikpedkckijioaa.Log
