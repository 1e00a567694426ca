/- The document's own Number and Text. -/
import Derived.Test.YtobdkgmlkchggaaRead3
namespace Go.Proofs.Ytobdkgmlkchggaa
open Go.RowKit

theorem be_drop (k x r : Nat) (h : r < k) : (be k x).drop r = UInt8.ofNat (x / 256 ^ (k - 1 - r)) :: (be k x).drop (r + 1) := by
  induction k generalizing r with
  | zero => omega
  | succ k ih =>
    cases r with
    | zero => simp [be]
    | succ r =>
      rw [be, List.drop_succ_cons, List.drop_succ_cons, ih r (by omega)]
      congr 4
      omega

/-- The row after some rounds: zeros, then the number's last bytes. -/
def part (k x r : Nat) : List UInt8 := List.replicate r 0 ++ (be k x).drop r
theorem part_length (k x r : Nat) (h : r ≤ k) : (part k x r).length = k := by simp [part, be_length]; omega
theorem part_start (k x : Nat) : part k x k = List.replicate k 0 := by
  unfold part
  rw [List.drop_of_length_le (by rw [be_length]; omega), List.append_nil]
theorem part_end (k x : Nat) : part k x 0 = be k x := by simp [part]
theorem part_step (k x r : Nat) (h : r < k) : (part k x (r + 1)).set r (UInt8.ofNat (x / 256 ^ (k - 1 - r))) = part k x r := by
  unfold part
  rw [be_drop k x r h, List.replicate_succ', List.append_assoc]
  rw [List.set_append_right _ _ (by simp)]
  simp

theorem div_step (x j : Nat) : x / 256 ^ j / 256 = x / 256 ^ (j + 1) := by rw [Nat.div_div_eq_div_mul, Nat.pow_succ]
theorem byte_mod (y : Nat) : Value.int .u8 ((y : Int) % 256) = U (UInt8.ofNat y) := by
  unfold U
  congr 1

theorem own_zero (w : World) (e : TypeId) (n : Nat) (hn : n ≤ maxLen) : (w.alloc (.cells (List.replicate n (U 0)).toArray e)).ownsRow w.heap.size e 1 (.slice (some ⟨w.heap.size, 0, none⟩) n n) n ((List.replicate n (0 : UInt8)).map U) := by
  rw [List.map_replicate]
  exact World.ownsRow_lit w (List.replicate n (U 0)).toArray n (Nat.le_refl _) hn (by simp)

set_option maxHeartbeats 1000000 in
theorem Number_any (x k : Nat) (kk : Int) (w : World) (hx : x < 18446744073709551616) (hkk : kk = k) (hk : k ≤ 8) :
    Calls Try.prog 21 #[.int .u64 (x : Int), .int .i64 kk] w (Put w (be k x)) := by
  subst hkk
  obtain ⟨i0, hi, hz0, hz1, hz2⟩ := info_parts info_byte
  have hmk := fun W => run_make_bytes (P := Try.prog) ty_bytes hi hz0 hz1 hz2 .i64 .i64 k (k : Int) (by omega) (by omega) W
  rw [Int.toNat_natCast] at hmk
  have HO := Lib.hid (own_zero w 5 k (by unfold maxLen; omega))
  clear hi hz0 hz1 hz2
  generalize List.replicate k (U 0) = Z at *
  have HBz := Lib.hid ((Below.refl w.heap.size w).alloc (Nat.le_refl _) (.cells Z.toArray 5))
  go_enter Try.func21, Try.ntmps21
  go_wp2_with fail
  go_loopw [0, 6] (fun v i wr => ∃ r : Nat, r ≤ k ∧ i = .int .i64 ((r : Int) - 1) ∧ v = .int .u64 ((x / 256 ^ (k - r) : Nat) : Int) ∧ wr.ownsRow w.heap.size 5 1 (.slice (some ⟨w.heap.size, 0, none⟩) k k) k ((part k x r).map U) ∧ Below w.heap.size w wr) (fun _ i _ => (intOf i + 1).toNat)
  case atStart => exact ⟨k, Nat.le_refl _, rfl, by simp, by rw [part_start]; exact HO.out, HBz.out⟩
  case round =>
    obtain ⟨r, hr, rfl, rfl, hown, hbel⟩ := hrel
    have HOk := Lib.hid hown
    have HBk := Lib.hid hbel
    clear hown hbel
    by_cases h0 : 0 < r
    · obtain ⟨r, rfl⟩ : ∃ r', r = r' + 1 := ⟨r - 1, by omega⟩
      have hc1 : ∃ u, wr.cell? ⟨w.heap.size, r, none⟩ = some u := by
        have := HOk.out.cellAt r (by omega)
        rw [this, List.getElem?_map, List.getElem?_eq_getElem (by rw [part_length _ _ _ hr]; omega)]
        exact ⟨_, rfl⟩
      obtain ⟨u, hc1⟩ := hc1
      have hf1 : wr.frozen? ⟨w.heap.size, r, none⟩ = false := HOk.out.frozenAt r
      have hy : x / 256 ^ (k - (r + 1)) < 18446744073709551616 := Nat.lt_of_le_of_lt (Nat.div_le_self _ _) hx
      have HD := Lib.hid (div_step x (k - (r + 1)))
      have HST : Hid (∀ q, x / 256 ^ (k - (r + 1)) = q → (wr.setCell ⟨w.heap.size, r, none⟩ (.int .u8 ((q : Int) % 256))).ownsRow w.heap.size 5 1 (.slice (some ⟨w.heap.size, 0, none⟩) k k) k ((part k x r).map U)) := by
        rintro q rfl
        have := (HOk.out.stored r (U (UInt8.ofNat (x / 256 ^ (k - 1 - r))))).1
        rw [← List.map_set, part_step k x r (by omega)] at this
        rw [byte_mod, show k - (r + 1) = k - 1 - r from by omega]
        exact this
      generalize hq : x / 256 ^ (k - (r + 1)) = q at *
      have HQ := Lib.hid hq
      clear hq
      go_wp2_with fail
      refine ⟨⟨r, by omega, rfl, ?_, HST.out q rfl, HBk.out.setCell (Nat.le_refl _) _⟩, by simp [intOf]⟩
      rw [show k - r = k - (r + 1) + 1 from by omega, ← HD.out]
      rfl
    · obtain rfl : r = 0 := by omega
      go_wp2_with fail
      go_ret
      have := HOk.out
      rw [part_end] at this
      exact Put.of (by rw [be_length]; exact this) HBk.out

set_option maxHeartbeats 1000000 in
theorem RText_any (A2 : Option Addr) (n2 c2 : Nat) (ss : List UInt8) (w : World) (h2 : Rd w A2 n2 ss) (hn2 : n2 ≤ 100000000) :
    Calls Try.prog 22 #[.slice A2 n2 c2] w (Put w (be 4 n2 ++ ss)) := by
  obtain ⟨i0, hi, hz0, hz1, hz2⟩ := info_parts info_byte
  have HI := Lib.hid hi
  have HZ0 := Lib.hid hz0
  have HZ1 := Lib.hid hz1
  have HZ2 := Lib.hid hz2
  clear hi hz0 hz1 hz2
  have H2 := Lib.hid h2
  clear h2
  go_enter Try.func22, Try.ntmps22
  go_wp2_with fail
  refine (Number_any n2 4 4 w (by omega) rfl (by omega)).mono ?_
  rintro e w1 ⟨A1, n1, c1, rfl, hl1, hc1, hown1, hb1⟩
  have HL1 : Hid (n1 = 4) := by rw [hl1, be_length]; rfl
  have HO1 := Lib.hid hown1
  have HB1 := Lib.hid hb1
  clear hl1 hown1 hb1
  go_wp2_with (at_builtin; refine wpList_append_Rd rfl (.tmp 6) (.tmp 7) _ rfl ty_bytes HI.out HZ0.out HZ1.out HZ2.out rfl rfl HO1.out rfl (H2.out.below HB1.out) (by have := HL1.out; omega) HB1.out.size ?_)
  intro v' w3 hown3 hgr3
  have HO3 := Lib.hid hown3
  have HB3 := Lib.hid (HB1.out.grown hgr3 HB1.out.size (fun g hg => (HO1.out.lt g hg).1))
  clear hown3 hgr3
  go_wp2_with fail
  go_ret
  refine Put.of ?_ HB3.out
  have h3 := HO3.out
  have e1 : (be 4 n2 ++ ss).length = n1 + n2 := by rw [List.length_append, be_length, H2.out.len, HL1.out]
  rw [e1, List.map_append]
  exact h3
end Go.Proofs.Ytobdkgmlkchggaa
