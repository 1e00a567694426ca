/- The log's small calls: eight bytes turned round, two bytes, pieces. -/
import Derived.Test.YtikpedkckijioaaLogMem
import Derived.Test.YtikpedkckijioaaLogRev
namespace Go.Proofs.Ytikpedkckijioaa.Log
open Go.RowKit Disk

theorem rev_steps (x : Nat) (hx : x < 18446744073709551616) : ∃ a b c y a2 b2 c2 y2 c3 z : Nat,
    bits .and .u64 ((x : Int) / 256) 71777214294589695 = (a : Int) ∧ bits .and .u64 (x : Int) 71777214294589695 = (b : Int) ∧ IntKind.u64.wrap ((b : Int) * 256) = (c : Int) ∧ bits .or .u64 (a : Int) (c : Int) = (y : Int) ∧
    bits .and .u64 ((y : Int) / 65536) 281470681808895 = (a2 : Int) ∧ bits .and .u64 (y : Int) 281470681808895 = (b2 : Int) ∧ IntKind.u64.wrap ((b2 : Int) * 65536) = (c2 : Int) ∧ bits .or .u64 (a2 : Int) (c2 : Int) = (y2 : Int) ∧
    IntKind.u64.wrap ((y2 : Int) * 4294967296) = (c3 : Int) ∧ bits .or .u64 ((y2 : Int) / 4294967296) (c3 : Int) = (z : Int) ∧ z = rev x := by
  have h1 := rev1_lt hx
  have h2 := rev2_lt h1
  have l1 : x &&& m3 ≤ 71777214294589695 := Nat.and_le_right
  have l2 : rev1 x &&& m4 ≤ 281470681808895 := Nat.and_le_right
  have d1 : ((x / 256 : Nat) : Int) = (x : Int) / 256 := by omega
  have d2 : ((rev1 x / 65536 : Nat) : Int) = (rev1 x : Int) / 65536 := by omega
  have d3 : ((rev2 (rev1 x) / 4294967296 : Nat) : Int) = (rev2 (rev1 x) : Int) / 4294967296 := by omega
  refine ⟨x / 256 &&& m3, x &&& m3, (x &&& m3) * 256, rev1 x, rev1 x / 65536 &&& m4, rev1 x &&& m4, (rev1 x &&& m4) * 65536, rev2 (rev1 x), rev2 (rev1 x) * 4294967296 % 18446744073709551616, rev x, ?_, ?_, ?_, ?_, ?_, ?_, ?_, ?_, ?_, ?_, rfl⟩
  · rw [← d1]; exact u64_and_nat _ m3 (by omega) (by decide)
  · exact u64_and_nat _ m3 (by omega) (by decide)
  · rw [IntKind.wrap_u64]; omega
  · exact u64_or_nat _ _ (by have : x / 256 &&& m3 ≤ x / 256 := Nat.and_le_left; omega) (by omega)
  · rw [← d2]; exact u64_and_nat _ m4 (by omega) (by decide)
  · exact u64_and_nat _ m4 (by omega) (by decide)
  · rw [IntKind.wrap_u64]; omega
  · exact u64_or_nat _ _ (by have : rev1 x / 65536 &&& m4 ≤ rev1 x / 65536 := Nat.and_le_left; omega) (by omega)
  · rw [IntKind.wrap_u64]; omega
  · rw [← d3]; exact u64_or_nat _ _ (by omega) (by omega)
theorem rev_any (x : Nat) (hx : x < 18446744073709551616) (w : World) : Calls Try.prog 81 #[.int .u64 (x : Int)] w (Ans (.int .u64 (rev x : Nat)) w) := by
  obtain ⟨a, b, c, y, a2, b2, c2, y2, c3, z, e1, e2, e3, e4, e5, e6, e7, e8, e9, e10, hz⟩ := rev_steps x hx
  have HZ := Lib.hid hz
  clear hz
  go_enter Try.func81, Try.ntmps81
  go_wp2_with fail
  go_ret
  rw [← HZ.out]
  exact ⟨rfl, rfl⟩
theorem two_bytes (x : Nat) : be 2 x = [UInt8.ofNat (x / 256), UInt8.ofNat x] := by
  simp [be]
set_option maxRecDepth 100000 in
theorem putTwo_any (x : Nat) (hx : x < 65536) (w : World) : Calls Try.prog 79 #[.int .u16 (x : Int)] w (Put w (be 2 x)) := by
  have HP : Hid (Put w (be 2 x) (.returned (.slice (some ⟨w.heap.size, 0, none⟩) 2 2)) (w.alloc (.cells #[.int .u8 ((x : Int) / 256), .int .u8 ((x : Int) % 256)] 5))) := by
    have e1 : Value.int .u8 ((x : Int) / 256) = U (UInt8.ofNat (x / 256)) := by
      unfold U
      rw [UInt8.toNat_ofNat', Nat.mod_eq_of_lt (by omega)]
      congr 1
    have e2 : Value.int .u8 ((x : Int) % 256) = U (UInt8.ofNat x) := by
      unfold U
      rw [UInt8.toNat_ofNat']
      congr 1
    rw [e1, e2]
    refine ⟨_, 2, 2, rfl, rfl, Nat.le_refl _, ?_, (Below.refl _ _).alloc (Nat.le_refl _) _⟩
    have := World.ownsRow_lit (base := w.heap.size) (e := 5) (size := 1) w #[U (UInt8.ofNat (x / 256)), U (UInt8.ofNat x)] 2 (Nat.le_refl _) (by unfold maxLen; omega) (by simp)
    simpa [be] using this
  go_enter Try.func79, Try.ntmps79
  go_wp2_with fail
  go_ret
  exact HP.out
set_option maxRecDepth 100000 in
theorem pieces_any (x : Nat) (hx : x < 100000000) (w : World) : Calls Try.prog 64 #[.int .i64 (x : Int)] w (Ans (.int .i64 (manyOf x : Nat)) w) := by
  have HP : Hid (Ans (.int .i64 (manyOf x : Nat)) w (.returned (.int .i64 (max 1 (((x : Int) + 480 - 1) / 480)))) w) := by
    refine ⟨?_, rfl⟩
    unfold manyOf
    congr 2
    omega
  go_enter Try.func64, Try.ntmps64
  go_wp2_with fail
  go_ret
  exact HP.out
end Go.Proofs.Ytikpedkckijioaa.Log
