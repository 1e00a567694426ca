/- The example that every law of layer 1 tries besides. -/
import Derived.Test.YtjpiaeidaoklaaaRead3
import Derived.Lib.SlBytesConst
namespace Go.Proofs.Ytjpiaeidaoklaaa
open Go.RowKit

/-- A new literal row of bytes, marked or not. -/
theorem rd_lit (w : World) (e : TypeId) (fr : Nat × Nat) (bs : List UInt8) : Rd (w.alloc (.cells (bs.map U).toArray e fr)) (some ⟨w.heap.size, 0, none⟩) bs.length bs :=
  ⟨rfl, fun _ => ⟨_, rfl, fun j b hb => by
    have hh : (w.alloc (.cells (bs.map U).toArray e fr)).heap[w.heap.size]? = some (.cells (bs.map U).toArray e fr) := heap_alloc_new w _
    have : ((⟨w.heap.size, 0, none⟩ : Addr).add j) = ⟨w.heap.size, j, none⟩ := by
      unfold Addr.add
      split
      · next h => rw [h]
      · simp
    rw [this]
    unfold World.cell?
    rw [hh]
    simp [hb]⟩⟩

theorem conv_const (w : World) (C : Array Value) (n c : Nat) : (convert 22 22 (.slice (some ⟨w.heap.size, 0, none⟩) n c)).run Try.prog (w.alloc (.cells C 5)) = .ok (.slice (some ⟨w.heap.size, 0, none⟩) n c) (w.alloc (.cells C 5 (C.size, C.size + 1))) := Lib.run_convert_bytes_const (P := Try.prog) w 22 5 C n c ty_bytes ty_byte
theorem conv_string {w : World} {A : Option Addr} {n : Nat} {bs : List UInt8} (h : Rd w A n bs) (c : Nat) : (convert 22 9 (.slice A n c)).run Try.prog w = .ok (.string (S bs)) w := run_string_Rd (P := Try.prog) 22 9 5 ty_bytes ty_byte ty_string h c

theorem Rdr.below {w w' : World} {r : Nat} {s : List UInt8 × Bool} (h : Rdr w r s) (hb : Below w.heap.size w w') : Rdr w' r s := by
  obtain ⟨A, n, c, h1, h2, h3, h4⟩ := h
  exact ⟨A, n, c, h1.below hb, h2, h3, h4.below hb⟩
theorem Rdr.rd {w w' : World} {r : Nat} {s : List UInt8 × Bool} (h : Rdr w r s) {A : Option Addr} {n : Nat} {bs : List UInt8} (hr : Rd w A n bs) (hg : w.grownBy w' (some r)) : Rd w' A n bs := by
  obtain ⟨A', n', c', h1, _⟩ := h
  exact Rd.grown h1 (rdr_nobyte _ _ _ _) hr hg

set_option maxHeartbeats 1000000 in
theorem puts_any (w : World) : Calls Try.prog 16 #[] w fun e w' => e = .returned (.bool true) ∧ Below w.heap.size w w' := by
  have hcv := conv_const
  go_enter Try.func16, Try.ntmps16
  go_wp2_with fail
  refine (Byte_any none 0 0 7 7 [] w (Rd.nil_ _ _) rfl (by omega) (by omega)).mono ?_
  rintro e w1 ⟨A1, n1, c1, rfl, hl1, _, hown1, hb1⟩
  have HR1 := Lib.hid (Rd.of_own hown1).1
  have HL1 := Lib.hid hl1
  have HB1 := Lib.hid hb1
  clear hown1 hb1 hl1
  go_wp2_with fail
  have HB2 := Lib.hid (HB1.out.alloc HB1.out.size (.cells #[.int .u8 97, .int .u8 98] 5 (2, 3)))
  refine (Text_any A1 (some ⟨w1.heap.size, 0, none⟩) n1 c1 2 2 ([] ++ be 1 7) [97, 98] _ (HR1.out.below ((Below.refl _ _).alloc (Nat.le_refl _) _)) (rd_lit w1 5 (2, 3) [97, 98]) (by rw [HL1.out]; decide) (by omega)).mono ?_
  rintro e w2 ⟨A2, n2, c2, rfl, hl2, _, hown2, hb2⟩
  have HR2 : Hid (Rd w2 A2 n2 [7, 0, 0, 0, 2, 97, 98]) := (Rd.of_own hown2).1
  have HL2 := Lib.hid hl2
  have HB3 := Lib.hid (HB2.out.trans (hb2.mono HB2.out.size))
  clear hown2 hb2 hl2
  go_wp2_with fail
  refine (rNew_any A2 n2 c2 _ w2 HR2.out (by rw [HL2.out]; decide)).mono ?_
  rintro e w3 ⟨r, rfl, hr, hR3, hb3⟩
  have hrw : w.heap.size ≤ r := Nat.le_trans HB3.out.size hr
  have HR3 := Lib.hid hR3
  have HB4 := Lib.hid (HB3.out.trans (hb3.mono HB3.out.size))
  have HD3 := Lib.hid (HR2.out.below hb3)
  clear hR3 hb3
  go_wp2_with fail
  have K1 : Calls Try.prog 23 #[.pointer (some ⟨r, 0, none⟩)] w3 (Red w3 r (.int .u8 7) ([0, 0, 0, 2, 97, 98], false)) := rByte_any r _ w3 HR3.out
  refine K1.mono ?_
  clear K1
  rintro e w4 ⟨rfl, hR4, hg4⟩
  have HR4 := Lib.hid hR4
  have HG4 := Lib.hid hg4
  have HB5 := Lib.hid (HB4.out.grown hg4 HB4.out.size (fun g hg => by injection hg with hg; omega))
  have HD4 := Lib.hid (HR3.out.rd HD3.out hg4)
  clear hR4 hg4
  go_wp2_with fail
  have K1 : Calls Try.prog 26 #[.pointer (some ⟨r, 0, none⟩)] w4 (RedB w4 r [97, 98] ([], false)) := rText_any r _ w4 HR4.out
  refine K1.mono ?_
  clear K1
  rintro e w5 ⟨A5, n5, c5, rfl, hown5, hR5, hg5⟩
  have HR5 := Lib.hid hR5
  have HB6 := Lib.hid (HB5.out.grown hg5 HB5.out.size (fun g hg => by injection hg with hg; omega))
  have s1 : (convert 22 9 (.slice A2 n2 c2)).run Try.prog w5 = .ok (.string ⟨#[7, 0, 0, 0, 2, 97, 98]⟩) w5 := conv_string (HR4.out.rd HD4.out hg5) c2
  have s2 : (convert 22 9 (.slice A5 n5 c5)).run Try.prog w5 = .ok (.string ⟨#[97, 98]⟩) w5 := conv_string (Rd.of_own hown5).1 c5
  clear hR5 hg5 hown5
  go_wp2_with fail
  have K1 : Calls Try.prog 21 #[.pointer (some ⟨r, 0, none⟩)] w5 (fun e w' => e = .returned (.int .i64 0) ∧ w5 = w') := rDone_any r _ w5 HR5.out
  refine K1.mono ?_
  clear K1
  rintro e w5 ⟨rfl, rfl⟩
  go_wp2_with fail
  refine (Uint_any none 0 0 258 258 [] w5 (Rd.nil_ _ _) rfl (by omega) (by omega)).mono ?_
  rintro e w6 ⟨A6, n6, c6, rfl, hl6, _, hown6, hb6⟩
  have s3 : (convert 22 9 (.slice A6 n6 c6)).run Try.prog w6 = .ok (.string ⟨#[0, 0, 0, 0, 0, 0, 1, 2]⟩) w6 := conv_string (Rd.of_own hown6).1 c6
  have HB7 := Lib.hid (HB6.out.trans (hb6.mono HB6.out.size))
  clear hown6 hl6 hb6 s1 s2
  go_wp2_with fail
  go_ret
  exact ⟨rfl, HB7.out⟩
end Go.Proofs.Ytjpiaeidaoklaaa
