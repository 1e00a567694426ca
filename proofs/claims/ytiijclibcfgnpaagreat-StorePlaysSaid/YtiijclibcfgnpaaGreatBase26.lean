/- Lemmas, part 26: StoText -/
import Derived.Test.YtiijclibcfgnpaaGreatBase25
import Derived.RegionTactic
namespace Go.Proofs.YtiijclibcfgnpaaGreat.Sto
open Go.RowKit Disk Log
open PhaseG (wp_region_freec)
open Phase (stepsL_cons stepsL_nil)

def bz (x : Nat) : UInt8 := UInt8.ofNat x
theorem U_bz (x : Nat) : U (bz x) = .int .u8 ((x : Int) % 256) := by
  unfold U bz
  congr 1
def hT (a b : Nat) : Nat → List UInt8
  | 0 => []
  | m + 1 => hT a b m ++ [bz (a / 256 ^ m), bz (b / 256 ^ m)]
theorem hT_len (a b : Nat) : ∀ m, (hT a b m).length = 2 * m
  | 0 => rfl
  | m + 1 => by rw [hT, List.length_append, hT_len a b m]; rfl
def lnH (x : Ln) : List UInt8 := [bz x.epoch, bz (x.epoch / 256), bz (x.epoch / 65536), bz (x.epoch / 16777216), bz (x.epoch / 4294967296), bz (x.epoch / 1099511627776), bz (x.epoch / 281474976710656), bz x.bytes.length, bz (x.bytes.length / 256)]
def lnT (x : Ln) : List UInt8 := lnH x ++ x.bytes
def textL (a b : Nat) (ls : List Ln) : List UInt8 := ([bz ls.length, bz (ls.length / 256)] ++ hT a b 7) ++ ls.flatMap lnT
theorem conv_row (W : World) (vs : List Value) (bs : List UInt8) (h : vs = bs.map U) (c : Nat) : (convert 54 9 (.slice (some ⟨W.heap.size, 0, none⟩) bs.length c)).run Tryz.prog (W.alloc (.cells vs.toArray 5)) = .ok (.string (S bs)) (W.alloc (.cells vs.toArray 5)) := by
  subst h
  exact conv_string (rd_lit W 5 (0, 0) bs) c
theorem conv_rowd (W : World) (vs : List Value) (bs : List UInt8) (h : vs = bs.map U) (c : Nat) : (convert 54 9 (.slice (some ⟨W.heap.size, 0, none⟩) bs.length c)).run Tryz.prog (W.alloc (.cells vs.toArray 5)).drew = .ok (.string (S bs)) (W.alloc (.cells vs.toArray 5)).drew := by
  subst h
  exact conv_string ((rd_lit W 5 (0, 0) bs).below (Below.refl _ _).drew) c
theorem S_len (bs : List UInt8) : (S bs).size = bs.length := by simp [S, ByteArray.size]
def RelT1 (w : World) (h0 : List UInt8) (a b : Nat) (s i : Value) (wr : World) : Prop := ∃ m : Nat, m ≤ 7 ∧ i = .int .i64 ((8 * m : Nat) : Int) ∧ s = .string (S (h0 ++ hT a b m)) ∧ Below w.heap.size w wr
def RelT2 (w : World) (h1 : List UInt8) (ls : List Ln) (n : Nat) (s i : Value) (wr : World) : Prop := ∃ m : Nat, m ≤ n ∧ i = .int .i64 (m : Int) ∧ s = .string (S (h1 ++ (ls.take m).flatMap lnT)) ∧ Below w.heap.size w wr
theorem flat_le {ls : List Ln} (h : ∀ x ∈ ls, x.bytes.length ≤ 100000000) : ∀ m, m ≤ ls.length → ((ls.take m).flatMap lnT).length ≤ m * 100000009
  | 0, _ => by simp
  | m + 1, hm => by
    have := flat_le h m (by omega)
    rw [← List.take_append_getElem (by omega : m < ls.length), List.flatMap_append, List.length_append, List.flatMap_cons, List.flatMap_nil, List.append_nil]
    have h2 := h ls[m] (List.getElem_mem (by omega))
    have h3 : (lnT ls[m]).length = 9 + ls[m].bytes.length := by unfold lnT; rw [List.length_append]; rfl
    omega
def RT9 (b0 o m n c k cc e : Nat) (B : Option Addr) (s0 s1 s2 s3 s4 : ByteArray) (bs : List UInt8) : Nat → Value → World → Prop
  | 0, x, _ => x = .string s0
  | 1, x, _ => x = .slice (some ⟨b0, o, none⟩) n c
  | 2, x, _ => x = .int .i64 (m : Int)
  | 3, x, _ => x = .pointer (some ⟨b0, o + m * 2, none⟩)
  | 4, x, _ => x = .pointer (some ⟨b0, o + m * 2, none⟩)
  | 5, x, _ => x = .int .u64 (e : Int)
  | 6, x, _ => x = .int .u8 ((e : Int) % 256)
  | 7, x, _ => x = .slice (some ⟨b0, o, none⟩) n c
  | 8, x, _ => x = .int .i64 (m : Int)
  | 9, x, _ => x = .pointer (some ⟨b0, o + m * 2, none⟩)
  | 10, x, _ => x = .pointer (some ⟨b0, o + m * 2, none⟩)
  | 11, x, _ => x = .int .u64 (e : Int)
  | 12, x, _ => x = .int .u64 ((e : Int) / 256)
  | 13, x, _ => x = .int .u8 ((e : Int) / 256 % 256)
  | 14, x, _ => x = .slice (some ⟨b0, o, none⟩) n c
  | 15, x, _ => x = .int .i64 (m : Int)
  | 16, x, _ => x = .pointer (some ⟨b0, o + m * 2, none⟩)
  | 17, x, _ => x = .pointer (some ⟨b0, o + m * 2, none⟩)
  | 18, x, _ => x = .int .u64 (e : Int)
  | 19, x, _ => x = .int .u64 ((e : Int) / 65536)
  | 20, x, _ => x = .int .u8 ((e : Int) / 65536 % 256)
  | 21, x, _ => x = .slice (some ⟨b0, o, none⟩) n c
  | 22, x, _ => x = .int .i64 (m : Int)
  | 23, x, _ => x = .pointer (some ⟨b0, o + m * 2, none⟩)
  | 24, x, _ => x = .pointer (some ⟨b0, o + m * 2, none⟩)
  | 25, x, _ => x = .int .u64 (e : Int)
  | 26, x, _ => x = .int .u64 ((e : Int) / 16777216)
  | 27, x, _ => x = .int .u8 ((e : Int) / 16777216 % 256)
  | 28, x, _ => x = .slice (some ⟨b0, o, none⟩) n c
  | 29, x, _ => x = .int .i64 (m : Int)
  | 30, x, _ => x = .pointer (some ⟨b0, o + m * 2, none⟩)
  | 31, x, _ => x = .pointer (some ⟨b0, o + m * 2, none⟩)
  | 32, x, _ => x = .int .u64 (e : Int)
  | 33, x, _ => x = .int .u64 ((e : Int) / 4294967296)
  | 34, x, _ => x = .int .u8 ((e : Int) / 4294967296 % 256)
  | 35, x, _ => x = .slice (some ⟨b0, o, none⟩) n c
  | 36, x, _ => x = .int .i64 (m : Int)
  | 37, x, _ => x = .pointer (some ⟨b0, o + m * 2, none⟩)
  | 38, x, _ => x = .pointer (some ⟨b0, o + m * 2, none⟩)
  | 39, x, _ => x = .int .u64 (e : Int)
  | 40, x, _ => x = .int .u64 ((e : Int) / 1099511627776)
  | 41, x, _ => x = .int .u8 ((e : Int) / 1099511627776 % 256)
  | 42, x, _ => x = .slice (some ⟨b0, o, none⟩) n c
  | 43, x, _ => x = .int .i64 (m : Int)
  | 44, x, _ => x = .pointer (some ⟨b0, o + m * 2, none⟩)
  | 45, x, _ => x = .pointer (some ⟨b0, o + m * 2, none⟩)
  | 46, x, _ => x = .int .u64 (e : Int)
  | 47, x, _ => x = .int .u64 ((e : Int) / 281474976710656)
  | 48, x, _ => x = .int .u8 ((e : Int) / 281474976710656 % 256)
  | 49, x, _ => x = .slice (some ⟨b0, o, none⟩) n c
  | 50, x, _ => x = .int .i64 (m : Int)
  | 51, x, _ => x = .pointer (some ⟨b0, o + m * 2, none⟩)
  | 52, x, _ => x = .pointer (some ⟨b0, o + m * 2 + 1, none⟩)
  | 53, x, _ => x = .slice B k cc
  | 54, x, _ => x = .int .i64 (k : Int)
  | 55, x, _ => x = .int .u8 ((k : Int) % 256)
  | 56, x, _ => x = .slice (some ⟨b0, o, none⟩) n c
  | 57, x, _ => x = .int .i64 (m : Int)
  | 58, x, _ => x = .pointer (some ⟨b0, o + m * 2, none⟩)
  | 59, x, _ => x = .pointer (some ⟨b0, o + m * 2 + 1, none⟩)
  | 60, x, _ => x = .slice B k cc
  | 61, x, _ => x = .int .i64 (k : Int)
  | 62, x, _ => x = .int .i64 ((k : Int) / 256)
  | 63, x, _ => x = .int .u8 ((k : Int) / 256 % 256)
  | 64, x, W => ∃ g, x = .slice (some ⟨g, 0, none⟩) 9 9 ∧ Rd W (some ⟨g, 0, none⟩) 9 bs
  | 65, x, _ => x = .string s1
  | 66, x, _ => x = .string s3
  | 67, x, _ => x = .slice (some ⟨b0, o, none⟩) n c
  | 68, x, _ => x = .int .i64 (m : Int)
  | 69, x, _ => x = .pointer (some ⟨b0, o + m * 2, none⟩)
  | 70, x, _ => x = .pointer (some ⟨b0, o + m * 2 + 1, none⟩)
  | 71, x, _ => x = .slice B k cc
  | 72, x, _ => x = .string s2
  | 73, x, _ => x = .string s4
  | 74, x, _ => x = .string s4
  | _, _, _ => True
theorem RT9.keep {b0 o m n c k cc e : Nat} {B : Option Addr} {s0 s1 s2 s3 s4 : ByteArray} {bs : List UInt8} : ∀ {i : Nat} {x : Value} {W W' : World}, RT9 b0 o m n c k cc e B s0 s1 s2 s3 s4 bs i x W → Below W.heap.size W W' → RT9 b0 o m n c k cc e B s0 s1 s2 s3 s4 bs i x W'
  | 0, _, _, _, h, _ => h
  | 1, _, _, _, h, _ => h
  | 2, _, _, _, h, _ => h
  | 3, _, _, _, h, _ => h
  | 4, _, _, _, h, _ => h
  | 5, _, _, _, h, _ => h
  | 6, _, _, _, h, _ => h
  | 7, _, _, _, h, _ => h
  | 8, _, _, _, h, _ => h
  | 9, _, _, _, h, _ => h
  | 10, _, _, _, h, _ => h
  | 11, _, _, _, h, _ => h
  | 12, _, _, _, h, _ => h
  | 13, _, _, _, h, _ => h
  | 14, _, _, _, h, _ => h
  | 15, _, _, _, h, _ => h
  | 16, _, _, _, h, _ => h
  | 17, _, _, _, h, _ => h
  | 18, _, _, _, h, _ => h
  | 19, _, _, _, h, _ => h
  | 20, _, _, _, h, _ => h
  | 21, _, _, _, h, _ => h
  | 22, _, _, _, h, _ => h
  | 23, _, _, _, h, _ => h
  | 24, _, _, _, h, _ => h
  | 25, _, _, _, h, _ => h
  | 26, _, _, _, h, _ => h
  | 27, _, _, _, h, _ => h
  | 28, _, _, _, h, _ => h
  | 29, _, _, _, h, _ => h
  | 30, _, _, _, h, _ => h
  | 31, _, _, _, h, _ => h
  | 32, _, _, _, h, _ => h
  | 33, _, _, _, h, _ => h
  | 34, _, _, _, h, _ => h
  | 35, _, _, _, h, _ => h
  | 36, _, _, _, h, _ => h
  | 37, _, _, _, h, _ => h
  | 38, _, _, _, h, _ => h
  | 39, _, _, _, h, _ => h
  | 40, _, _, _, h, _ => h
  | 41, _, _, _, h, _ => h
  | 42, _, _, _, h, _ => h
  | 43, _, _, _, h, _ => h
  | 44, _, _, _, h, _ => h
  | 45, _, _, _, h, _ => h
  | 46, _, _, _, h, _ => h
  | 47, _, _, _, h, _ => h
  | 48, _, _, _, h, _ => h
  | 49, _, _, _, h, _ => h
  | 50, _, _, _, h, _ => h
  | 51, _, _, _, h, _ => h
  | 52, _, _, _, h, _ => h
  | 53, _, _, _, h, _ => h
  | 54, _, _, _, h, _ => h
  | 55, _, _, _, h, _ => h
  | 56, _, _, _, h, _ => h
  | 57, _, _, _, h, _ => h
  | 58, _, _, _, h, _ => h
  | 59, _, _, _, h, _ => h
  | 60, _, _, _, h, _ => h
  | 61, _, _, _, h, _ => h
  | 62, _, _, _, h, _ => h
  | 63, _, _, _, h, _ => h
  | 64, _, _, _, ⟨g, h1, h2⟩, hb => ⟨g, h1, h2.below hb⟩
  | 65, _, _, _, h, _ => h
  | 66, _, _, _, h, _ => h
  | 67, _, _, _, h, _ => h
  | 68, _, _, _, h, _ => h
  | 69, _, _, _, h, _ => h
  | 70, _, _, _, h, _ => h
  | 71, _, _, _, h, _ => h
  | 72, _, _, _, h, _ => h
  | 73, _, _, _, h, _ => h
  | 74, _, _, _, h, _ => h
  | _ + 75, _, _, _, _, _ => trivial
set_option maxRecDepth 100000 in
set_option maxHeartbeats 4000000 in
theorem refText_any (P : Nat → Prop) (a b : Nat) (ls : List Ln) (A : Option Addr) (n c : Nat) (w : World) (hl : LnS P w A n ls) (hs : Small ls) (_ha : a < 18446744073709551616) (_hb : b < 18446744073709551616) (he : ∀ x ∈ ls, x.epoch < 18446744073709551616) :
    Calls Tryz.prog 19 #[.int .u64 (a : Int), .int .u64 (b : Int), .slice A n c] w fun e w' => e = .returned (.string (S (textL a b ls))) ∧ Below w.heap.size w w' := by
  have hn : ls.length = n := hl.len
  have hn3 : n ≤ 300000 := by rw [← hn]; exact hs.1
  have HL := Lib.hid hl
  have HN := Lib.hid hn
  have HSM := Lib.hid hs.2
  have HEP := Lib.hid he
  have hcv : (convert 54 9 (.slice (some ⟨w.heap.size, 0, none⟩) 2 2)).run Tryz.prog (w.alloc (.cells #[.int .u8 ((n : Int) % 256), .int .u8 ((n : Int) / 256 % 256)] 5)) = .ok (.string (S [bz n, bz (n / 256)])) (w.alloc (.cells #[.int .u8 ((n : Int) % 256), .int .u8 ((n : Int) / 256 % 256)] 5)) :=
    conv_row w _ [bz n, bz (n / 256)] (by simp [U_bz]) 2
  have HTX : Hid (textL a b ls = ([bz n, bz (n / 256)] ++ hT a b 7) ++ ls.flatMap lnT) := by show _ = _; unfold textL; rw [HN.out]
  obtain ⟨h0, hh0⟩ : ∃ h0, h0 = [bz n, bz (n / 256)] := ⟨_, rfl⟩
  have hl0 : h0.length = 2 := by rw [hh0]; rfl
  rw [← hh0] at hcv HTX
  clear hl hs he hn hh0
  go_enter Tryz.func19, Tryz.ntmps19
  go_wp2_with fail
  have HB1 : Hid (Below w.heap.size w (w.alloc (.cells #[.int .u8 ((n : Int) % 256), .int .u8 ((n : Int) / 256 % 256)] 5))) := (Below.refl _ _).alloc (Nat.le_refl _) _
  clear hcv
  go_loopw [7, 8] (fun s i wr => RelT1 w h0 a b s i wr) (fun _ i _ => 56 - (intOf i).toNat)
  case atStart => exact ⟨0, by omega, rfl, by show _ = Value.string (S (h0 ++ [])); rw [List.append_nil], HB1.out⟩
  case round =>
    obtain ⟨m, hm, rfl, rfl, hb⟩ := hrel
    have HB := Lib.hid hb
    have HLT := Lib.hid (hT_len a b m)
    clear hb
    by_cases hlt : m < 7
    · have HNX : Hid (h0 ++ hT a b (m + 1) = (h0 ++ hT a b m) ++ [bz (a / 256 ^ m), bz (b / 256 ^ m)]) := by show _ = _; rw [hT, List.append_assoc]
      have hsz : (S (h0 ++ hT a b m)).size ≤ 20 := by rw [S_len, List.length_append, HLT.out]; omega
      have HSA : Hid (∀ q, S (h0 ++ hT a b m) ++ S q = S ((h0 ++ hT a b m) ++ q)) := fun q => Path.S_append _ q
      generalize h0 ++ hT a b m = cur at *
      obtain ⟨sc, hsc⟩ : ∃ sc, sc = S cur := ⟨_, rfl⟩
      rw [← hsc] at hsz HSA ⊢
      clear hsc
      rcases (show m = 0 ∨ m = 1 ∨ m = 2 ∨ m = 3 ∨ m = 4 ∨ m = 5 ∨ m = 6 by omega) with rfl | rfl | rfl | rfl | rfl | rfl | rfl
      · have hcv : (convert 54 9 (.slice (some ⟨wr.heap.size, 0, none⟩) 2 2)).run Tryz.prog (wr.alloc (.cells #[.int .u8 ((a : Int) % 256), .int .u8 ((b : Int) % 256)] 5)).drew = .ok (.string (S [bz (a / 256 ^ 0), bz (b / 256 ^ 0)])) (wr.alloc (.cells #[.int .u8 ((a : Int) % 256), .int .u8 ((b : Int) % 256)] 5)).drew :=
          conv_rowd wr _ [bz (a / 256 ^ 0), bz (b / 256 ^ 0)] (by simp [U_bz]) 2
        have hadd := HSA.out [bz (a / 256 ^ 0), bz (b / 256 ^ 0)]
        have hnx := HNX.out
        rw [← hnx] at hadd
        obtain ⟨sp, hsp⟩ : ∃ sp, sp = S [bz (a / 256 ^ 0), bz (b / 256 ^ 0)] := ⟨_, rfl⟩
        have hsps : sp.size = 2 := by rw [hsp, S_len]; rfl
        rw [← hsp] at hcv hadd
        clear hnx hsp
        have hov : ¬ 9223372036854775807 < sc.size + sp.size := by rw [hsps]; omega
        obtain ⟨sn, hsn⟩ : ∃ sn, sn = S (h0 ++ hT a b (0 + 1)) := ⟨_, rfl⟩
        rw [← hsn] at hadd
        have HSN := Lib.hid hsn
        clear hsn hsps
        go_wp2_with fail
        go_region
        all_goals (go_wp2_with fail)
        all_goals exact ⟨⟨0 + 1, by omega, rfl, by rw [HSN.out], HB.out.trans ((((Below.refl _ _).alloc (Nat.le_refl _) _).mono HB.out.size).drew)⟩, by simp [intOf]⟩
      · have hcv : (convert 54 9 (.slice (some ⟨wr.heap.size, 0, none⟩) 2 2)).run Tryz.prog (wr.alloc (.cells #[.int .u8 ((a : Int) / 256 % 256), .int .u8 ((b : Int) / 256 % 256)] 5)).drew = .ok (.string (S [bz (a / 256 ^ 1), bz (b / 256 ^ 1)])) (wr.alloc (.cells #[.int .u8 ((a : Int) / 256 % 256), .int .u8 ((b : Int) / 256 % 256)] 5)).drew :=
          conv_rowd wr _ [bz (a / 256 ^ 1), bz (b / 256 ^ 1)] (by simp [U_bz]) 2
        have hadd := HSA.out [bz (a / 256 ^ 1), bz (b / 256 ^ 1)]
        have hnx := HNX.out
        rw [← hnx] at hadd
        obtain ⟨sp, hsp⟩ : ∃ sp, sp = S [bz (a / 256 ^ 1), bz (b / 256 ^ 1)] := ⟨_, rfl⟩
        have hsps : sp.size = 2 := by rw [hsp, S_len]; rfl
        rw [← hsp] at hcv hadd
        clear hnx hsp
        have hov : ¬ 9223372036854775807 < sc.size + sp.size := by rw [hsps]; omega
        obtain ⟨sn, hsn⟩ : ∃ sn, sn = S (h0 ++ hT a b (1 + 1)) := ⟨_, rfl⟩
        rw [← hsn] at hadd
        have HSN := Lib.hid hsn
        clear hsn hsps
        go_wp2_with fail
        go_region
        all_goals (go_wp2_with fail)
        all_goals exact ⟨⟨1 + 1, by omega, rfl, by rw [HSN.out], HB.out.trans ((((Below.refl _ _).alloc (Nat.le_refl _) _).mono HB.out.size).drew)⟩, by simp [intOf]⟩
      · have hcv : (convert 54 9 (.slice (some ⟨wr.heap.size, 0, none⟩) 2 2)).run Tryz.prog (wr.alloc (.cells #[.int .u8 ((a : Int) / 65536 % 256), .int .u8 ((b : Int) / 65536 % 256)] 5)).drew = .ok (.string (S [bz (a / 256 ^ 2), bz (b / 256 ^ 2)])) (wr.alloc (.cells #[.int .u8 ((a : Int) / 65536 % 256), .int .u8 ((b : Int) / 65536 % 256)] 5)).drew :=
          conv_rowd wr _ [bz (a / 256 ^ 2), bz (b / 256 ^ 2)] (by simp [U_bz]) 2
        have hadd := HSA.out [bz (a / 256 ^ 2), bz (b / 256 ^ 2)]
        have hnx := HNX.out
        rw [← hnx] at hadd
        obtain ⟨sp, hsp⟩ : ∃ sp, sp = S [bz (a / 256 ^ 2), bz (b / 256 ^ 2)] := ⟨_, rfl⟩
        have hsps : sp.size = 2 := by rw [hsp, S_len]; rfl
        rw [← hsp] at hcv hadd
        clear hnx hsp
        have hov : ¬ 9223372036854775807 < sc.size + sp.size := by rw [hsps]; omega
        obtain ⟨sn, hsn⟩ : ∃ sn, sn = S (h0 ++ hT a b (2 + 1)) := ⟨_, rfl⟩
        rw [← hsn] at hadd
        have HSN := Lib.hid hsn
        clear hsn hsps
        go_wp2_with fail
        go_region
        all_goals (go_wp2_with fail)
        all_goals exact ⟨⟨2 + 1, by omega, rfl, by rw [HSN.out], HB.out.trans ((((Below.refl _ _).alloc (Nat.le_refl _) _).mono HB.out.size).drew)⟩, by simp [intOf]⟩
      · have hcv : (convert 54 9 (.slice (some ⟨wr.heap.size, 0, none⟩) 2 2)).run Tryz.prog (wr.alloc (.cells #[.int .u8 ((a : Int) / 16777216 % 256), .int .u8 ((b : Int) / 16777216 % 256)] 5)).drew = .ok (.string (S [bz (a / 256 ^ 3), bz (b / 256 ^ 3)])) (wr.alloc (.cells #[.int .u8 ((a : Int) / 16777216 % 256), .int .u8 ((b : Int) / 16777216 % 256)] 5)).drew :=
          conv_rowd wr _ [bz (a / 256 ^ 3), bz (b / 256 ^ 3)] (by simp [U_bz]) 2
        have hadd := HSA.out [bz (a / 256 ^ 3), bz (b / 256 ^ 3)]
        have hnx := HNX.out
        rw [← hnx] at hadd
        obtain ⟨sp, hsp⟩ : ∃ sp, sp = S [bz (a / 256 ^ 3), bz (b / 256 ^ 3)] := ⟨_, rfl⟩
        have hsps : sp.size = 2 := by rw [hsp, S_len]; rfl
        rw [← hsp] at hcv hadd
        clear hnx hsp
        have hov : ¬ 9223372036854775807 < sc.size + sp.size := by rw [hsps]; omega
        obtain ⟨sn, hsn⟩ : ∃ sn, sn = S (h0 ++ hT a b (3 + 1)) := ⟨_, rfl⟩
        rw [← hsn] at hadd
        have HSN := Lib.hid hsn
        clear hsn hsps
        go_wp2_with fail
        go_region
        all_goals (go_wp2_with fail)
        all_goals exact ⟨⟨3 + 1, by omega, rfl, by rw [HSN.out], HB.out.trans ((((Below.refl _ _).alloc (Nat.le_refl _) _).mono HB.out.size).drew)⟩, by simp [intOf]⟩
      · have hcv : (convert 54 9 (.slice (some ⟨wr.heap.size, 0, none⟩) 2 2)).run Tryz.prog (wr.alloc (.cells #[.int .u8 ((a : Int) / 4294967296 % 256), .int .u8 ((b : Int) / 4294967296 % 256)] 5)).drew = .ok (.string (S [bz (a / 256 ^ 4), bz (b / 256 ^ 4)])) (wr.alloc (.cells #[.int .u8 ((a : Int) / 4294967296 % 256), .int .u8 ((b : Int) / 4294967296 % 256)] 5)).drew :=
          conv_rowd wr _ [bz (a / 256 ^ 4), bz (b / 256 ^ 4)] (by simp [U_bz]) 2
        have hadd := HSA.out [bz (a / 256 ^ 4), bz (b / 256 ^ 4)]
        have hnx := HNX.out
        rw [← hnx] at hadd
        obtain ⟨sp, hsp⟩ : ∃ sp, sp = S [bz (a / 256 ^ 4), bz (b / 256 ^ 4)] := ⟨_, rfl⟩
        have hsps : sp.size = 2 := by rw [hsp, S_len]; rfl
        rw [← hsp] at hcv hadd
        clear hnx hsp
        have hov : ¬ 9223372036854775807 < sc.size + sp.size := by rw [hsps]; omega
        obtain ⟨sn, hsn⟩ : ∃ sn, sn = S (h0 ++ hT a b (4 + 1)) := ⟨_, rfl⟩
        rw [← hsn] at hadd
        have HSN := Lib.hid hsn
        clear hsn hsps
        go_wp2_with fail
        go_region
        all_goals (go_wp2_with fail)
        all_goals exact ⟨⟨4 + 1, by omega, rfl, by rw [HSN.out], HB.out.trans ((((Below.refl _ _).alloc (Nat.le_refl _) _).mono HB.out.size).drew)⟩, by simp [intOf]⟩
      · have hcv : (convert 54 9 (.slice (some ⟨wr.heap.size, 0, none⟩) 2 2)).run Tryz.prog (wr.alloc (.cells #[.int .u8 ((a : Int) / 1099511627776 % 256), .int .u8 ((b : Int) / 1099511627776 % 256)] 5)).drew = .ok (.string (S [bz (a / 256 ^ 5), bz (b / 256 ^ 5)])) (wr.alloc (.cells #[.int .u8 ((a : Int) / 1099511627776 % 256), .int .u8 ((b : Int) / 1099511627776 % 256)] 5)).drew :=
          conv_rowd wr _ [bz (a / 256 ^ 5), bz (b / 256 ^ 5)] (by simp [U_bz]) 2
        have hadd := HSA.out [bz (a / 256 ^ 5), bz (b / 256 ^ 5)]
        have hnx := HNX.out
        rw [← hnx] at hadd
        obtain ⟨sp, hsp⟩ : ∃ sp, sp = S [bz (a / 256 ^ 5), bz (b / 256 ^ 5)] := ⟨_, rfl⟩
        have hsps : sp.size = 2 := by rw [hsp, S_len]; rfl
        rw [← hsp] at hcv hadd
        clear hnx hsp
        have hov : ¬ 9223372036854775807 < sc.size + sp.size := by rw [hsps]; omega
        obtain ⟨sn, hsn⟩ : ∃ sn, sn = S (h0 ++ hT a b (5 + 1)) := ⟨_, rfl⟩
        rw [← hsn] at hadd
        have HSN := Lib.hid hsn
        clear hsn hsps
        go_wp2_with fail
        go_region
        all_goals (go_wp2_with fail)
        all_goals exact ⟨⟨5 + 1, by omega, rfl, by rw [HSN.out], HB.out.trans ((((Below.refl _ _).alloc (Nat.le_refl _) _).mono HB.out.size).drew)⟩, by simp [intOf]⟩
      · have hcv : (convert 54 9 (.slice (some ⟨wr.heap.size, 0, none⟩) 2 2)).run Tryz.prog (wr.alloc (.cells #[.int .u8 ((a : Int) / 281474976710656 % 256), .int .u8 ((b : Int) / 281474976710656 % 256)] 5)).drew = .ok (.string (S [bz (a / 256 ^ 6), bz (b / 256 ^ 6)])) (wr.alloc (.cells #[.int .u8 ((a : Int) / 281474976710656 % 256), .int .u8 ((b : Int) / 281474976710656 % 256)] 5)).drew :=
          conv_rowd wr _ [bz (a / 256 ^ 6), bz (b / 256 ^ 6)] (by simp [U_bz]) 2
        have hadd := HSA.out [bz (a / 256 ^ 6), bz (b / 256 ^ 6)]
        have hnx := HNX.out
        rw [← hnx] at hadd
        obtain ⟨sp, hsp⟩ : ∃ sp, sp = S [bz (a / 256 ^ 6), bz (b / 256 ^ 6)] := ⟨_, rfl⟩
        have hsps : sp.size = 2 := by rw [hsp, S_len]; rfl
        rw [← hsp] at hcv hadd
        clear hnx hsp
        have hov : ¬ 9223372036854775807 < sc.size + sp.size := by rw [hsps]; omega
        obtain ⟨sn, hsn⟩ : ∃ sn, sn = S (h0 ++ hT a b (6 + 1)) := ⟨_, rfl⟩
        rw [← hsn] at hadd
        have HSN := Lib.hid hsn
        clear hsn hsps
        go_wp2_with fail
        go_region
        all_goals (go_wp2_with fail)
        all_goals exact ⟨⟨6 + 1, by omega, rfl, by rw [HSN.out], HB.out.trans ((((Below.refl _ _).alloc (Nat.le_refl _) _).mono HB.out.size).drew)⟩, by simp [intOf]⟩
    · obtain rfl : m = 7 := by omega
      have HLE : Hid (∀ k, k ≤ n → ((ls.take k).flatMap lnT).length ≤ k * 100000009) := fun k hk => flat_le HSM.out k (by rw [HN.out]; exact hk)
      have HH : Hid ((h0 ++ hT a b 7).length = 16) := by show _ = _; rw [List.length_append, hl0, HLT.out]
      clear HLT hlt hl0
      generalize h0 ++ hT a b 7 = h1 at *
      obtain ⟨wo, hwo⟩ : ∃ x : World, x = wr := ⟨_, rfl⟩
      rw [← hwo] at HB ⊢
      clear hwo
      go_wp2_with fail
      rw [show ((8 * 7 : Nat) : Int) = 56 from rfl]
      go_loopw [7, 9] (fun s i wq => RelT2 wo h1 ls n s i wq) (fun _ i _ => n - (intOf i).toNat)
      case atStart => exact ⟨0, Nat.zero_le _, rfl, by rw [List.take_zero, List.flatMap_nil, List.append_nil], Below.refl _ _⟩
      case round =>
        obtain ⟨m, hm, rfl, rfl, hb⟩ := hrel
        have HBQ := Lib.hid hb
        clear hb
        by_cases hlt : m < n
        · have hml : m < ls.length := by rw [HN.out]; exact hlt
          have HNX : Hid (h1 ++ (ls.take (m + 1)).flatMap lnT = ((h1 ++ (ls.take m).flatMap lnT) ++ lnH ls[m]) ++ ls[m].bytes) := by
            show _ = _
            rw [← List.take_append_getElem hml, List.flatMap_append, List.flatMap_cons, List.flatMap_nil, List.append_nil]
            show _ ++ (_ ++ (lnH ls[m] ++ ls[m].bytes)) = _
            simp only [List.append_assoc]
          have hsz : (S (h1 ++ (ls.take m).flatMap lnT)).size ≤ 50000000000000 := by
            rw [S_len, List.length_append, HH.out]
            have := HLE.out m hm
            omega
          have hbl := HSM.out ls[m] (List.getElem_mem hml)
          have heb := HEP.out ls[m] (List.getElem_mem hml)
          obtain ⟨b0, o, B, k, cc, rfl, l0, l1, l2, l3⟩ := line_at ((HL.out.below HB.out).below HBQ.out) (j := m) (x := ls[m]) (List.getElem?_eq_getElem hml)
          have hkb : ls[m].bytes.length = k := l3.len
          have hblt := World.block_lt_of_cell? wr _ l0
          generalize h1 ++ (ls.take m).flatMap lnT = cur at *
          generalize hx : ls[m] = x at *
          have hvk : (m : Int) < (n : Int) := by omega
          obtain ⟨e, he⟩ : ∃ e, e = x.epoch := ⟨_, rfl⟩
          rw [← he] at l0 heb
          rw [hkb] at hbl
          have hrow : lnH x = [bz e, bz (e / 256), bz (e / 65536), bz (e / 16777216), bz (e / 4294967296), bz (e / 1099511627776), bz (e / 281474976710656), bz k, bz (k / 256)] := by unfold lnH; rw [he, hkb]
          have HRW : Hid (∀ W : World, Rd (W.alloc (.cells #[.int .u8 ((e : Int) % 256), .int .u8 ((e : Int) / 256 % 256), .int .u8 ((e : Int) / 65536 % 256), .int .u8 ((e : Int) / 16777216 % 256), .int .u8 ((e : Int) / 4294967296 % 256), .int .u8 ((e : Int) / 1099511627776 % 256), .int .u8 ((e : Int) / 281474976710656 % 256), .int .u8 ((k : Int) % 256), .int .u8 ((k : Int) / 256 % 256)] 5)) (some ⟨W.heap.size, 0, none⟩) 9 (lnH x)) := fun W => by
            rw [hrow]
            have := rd_lit W 5 (0, 0) [bz e, bz (e / 256), bz (e / 65536), bz (e / 16777216), bz (e / 4294967296), bz (e / 1099511627776), bz (e / 281474976710656), bz k, bz (k / 256)]
            simpa [U_bz] using this
          have hcc : ∀ W, Below wr.heap.size wr W → W.cell? ⟨b0, o + m * 2, none⟩ = some (.int .u64 (e : Int)) ∧ W.cell? ⟨b0, o + m * 2 + 1, none⟩ = some (.slice B k cc) ∧ (convert 54 9 (.slice B k cc)).run Tryz.prog W = .ok (.string (S x.bytes)) W := fun W hW =>
            ⟨(hW.cell (World.block_lt_of_cell? wr _ l0)).trans l0, (hW.cell (World.block_lt_of_cell? wr _ l1)).trans l1, conv_string (l3.below hW) cc⟩
          have hcv : ∀ (W : World) (g : Nat), Rd W (some ⟨g, 0, none⟩) 9 (lnH x) → (convert 54 9 (.slice (some ⟨g, 0, none⟩) 9 9)).run Tryz.prog W = .ok (.string (S (lnH x))) W := fun W g h => conv_string h 9
          have hadd1 : S cur ++ S (lnH x) = S (cur ++ lnH x) := Path.S_append _ _
          have hadd2 : S (cur ++ lnH x) ++ S x.bytes = S ((cur ++ lnH x) ++ x.bytes) := Path.S_append _ _
          rw [← HNX.out] at hadd2
          have hz1 : (S (lnH x)).size = 9 := S_len _
          have hz2 : (S (cur ++ lnH x)).size = (S cur).size + 9 := by rw [S_len, S_len, List.length_append]; rfl
          have hz3 : (S x.bytes).size = k := by rw [S_len]; exact hkb
          generalize S cur = s0 at *
          generalize S (lnH x) = s1 at *
          generalize S x.bytes = s2 at *
          generalize S (cur ++ lnH x) = s3 at *
          obtain ⟨s4, hs4⟩ : ∃ s4, s4 = S (h1 ++ (ls.take (m + 1)).flatMap lnT) := ⟨_, rfl⟩
          rw [← hs4] at hadd2
          have HS4 := Lib.hid hs4
          have hov1 : ¬ 9223372036854775807 < s0.size + s1.size := by omega
          have hov2 : ¬ 9223372036854775807 < s3.size + s2.size := by omega
          have HCC := Lib.hid hcc
          have HCV := Lib.hid hcv
          have HAD := Lib.hid hadd1
          have HAD2 := Lib.hid hadd2
          have HFIN : Hid (∀ W', Below wr.heap.size wr W' → RelT2 wo h1 ls n (.string s4) (.int .i64 ((m + 1 : Nat) : Int)) W') := fun W' hW => ⟨m + 1, by omega, rfl, by rw [HS4.out], HBQ.out.trans (hW.mono HBQ.out.size)⟩
          clear hz1 hz2 hz3 hrow hs4 HNX hx hkb he hcc hcv hadd1 hadd2 l0 l1 l3
          go_wp2_with fail
          refine wp_region_freec (RT9 b0 o m n c k cc e B s0 s1 s2 s3 s4 (lnH x)) (by kernel_rfl) (by kernel_rfl) (by kernel_rfl) (fun _ _ _ _ h _ hb => h.keep hb) ?_ (fun v => { tmps := #[Value.int IntKind.u64 (a : Int), Value.int IntKind.u64 (b : Int), Value.slice (some ⟨b0, o, none⟩) n c, undef, undef, undef, Value.string { data := #[] }, v 74, Value.int IntKind.i64 56, Value.int IntKind.i64 (m : Int), Value.slice (some ⟨b0, o, none⟩) n c, Value.int IntKind.i64 (n : Int), Value.int IntKind.u8 ((n : Int) % 256), Value.slice (some ⟨b0, o, none⟩) n c, Value.int IntKind.i64 (n : Int), Value.int IntKind.i64 ((n : Int) / 256), Value.int IntKind.u8 ((n : Int) / 256 % 256), Value.slice (some ⟨w.heap.size, 0, none⟩) 2 2, Value.string (S h0), Value.int IntKind.i64 56, Value.bool false, u21, u22, u23, u24, u25, u26, u27, u28, u29, u30, u31, u32, u33, u34, Value.int IntKind.i64 (m : Int), Value.slice (some ⟨b0, o, none⟩) n c, Value.int IntKind.i64 (n : Int), Value.bool true, u39, u40, v 0, v 1, v 2, v 3, v 4, v 5, v 6, v 7, v 8, v 9, v 10, v 11, v 12, v 13, v 14, v 15, v 16, v 17, v 18, v 19, v 20, v 21, v 22, v 23, v 24, v 25, v 26, v 27, v 28, v 29, v 30, v 31, v 32, v 33, v 34, v 35, v 36, v 37, v 38, v 39, v 40, v 41, v 42, v 43, v 44, v 45, v 46, v 47, v 48, v 49, v 50, v 51, v 52, v 53, v 54, v 55, v 56, v 57, v 58, v 59, v 60, v 61, v 62, v 63, v 64, v 65, v 66, v 67, v 68, v 69, v 70, v 71, v 72, v 73, undef], defers := [] }) (fun v => by kernel_rfl) ?_
          · refine stepsL_cons ?_ (stepsL_cons ?_ (stepsL_cons ?_ (stepsL_cons ?_ (stepsL_cons ?_ (stepsL_cons ?_ (stepsL_cons ?_ (stepsL_cons ?_ (stepsL_cons ?_ (stepsL_cons ?_ (stepsL_cons ?_ (stepsL_cons ?_ (stepsL_cons ?_ (stepsL_cons ?_ (stepsL_cons ?_ (stepsL_cons ?_ (stepsL_cons ?_ (stepsL_cons ?_ (stepsL_cons ?_ (stepsL_cons ?_ (stepsL_cons ?_ (stepsL_cons ?_ (stepsL_cons ?_ (stepsL_cons ?_ (stepsL_cons ?_ (stepsL_cons ?_ (stepsL_cons ?_ (stepsL_cons ?_ (stepsL_cons ?_ (stepsL_cons ?_ (stepsL_cons ?_ (stepsL_cons ?_ (stepsL_cons ?_ (stepsL_cons ?_ (stepsL_cons ?_ (stepsL_cons ?_ (stepsL_cons ?_ (stepsL_cons ?_ (stepsL_cons ?_ (stepsL_cons ?_ (stepsL_cons ?_ (stepsL_cons ?_ (stepsL_cons ?_ (stepsL_cons ?_ (stepsL_cons ?_ (stepsL_cons ?_ (stepsL_cons ?_ (stepsL_cons ?_ (stepsL_cons ?_ (stepsL_cons ?_ (stepsL_cons ?_ (stepsL_cons ?_ (stepsL_cons ?_ (stepsL_cons ?_ (stepsL_cons ?_ (stepsL_cons ?_ (stepsL_cons ?_ (stepsL_cons ?_ (stepsL_cons ?_ (stepsL_cons ?_ (stepsL_cons ?_ (stepsL_cons ?_ (stepsL_cons ?_ (stepsL_cons ?_ (stepsL_cons ?_ (stepsL_cons ?_ (stepsL_cons ?_ (stepsL_cons ?_ (stepsL_cons ?_ (stepsL_cons ?_ (stepsL_cons ?_ (stepsL_cons ?_ (stepsL_cons ?_ (stepsL_cons ?_ (stepsL_cons ?_ (stepsL_nil)))))))))))))))))))))))))))))))))))))))))))))))))))))))))))))))))))))))))))
            · intro a v W hd hb K hK
              have k0 : a.tmps.getD 7 undef = .string s0 := hd.fresh 100 7 (by kernel_rfl)
              have hk := hK (.string s0) W (Below.refl _ _) rfl
              clear hK
              unfold Oper.wp
              go_simp
              exact hk
            · intro a v W hd hb K hK
              have k0 : a.tmps.getD 2 undef = .slice (some ⟨b0, o, none⟩) n c := hd.dep.kept 2 (by kernel_rfl)
              have hk := hK (.slice (some ⟨b0, o, none⟩) n c) W (Below.refl _ _) rfl
              clear hK
              unfold Oper.wp
              go_simp
              exact hk
            · intro a v W hd hb K hK
              have k0 : a.tmps.getD 9 undef = .int .i64 (m : Int) := hd.dep.kept 9 (by kernel_rfl)
              have hk := hK (.int .i64 (m : Int)) W (Below.refl _ _) rfl
              clear hK
              unfold Oper.wp
              go_simp
              exact hk
            · intro a v W hd hb K hK
              obtain ⟨h42, r42⟩ := hd.dep.done_ 1 _ 42 (by kernel_rfl) rfl rfl
              have r42 : v 1 = .slice (some ⟨b0, o, none⟩) n c := r42
              rw [r42] at h42
              obtain ⟨h43, r43⟩ := hd.dep.done_ 2 _ 43 (by kernel_rfl) rfl rfl
              have r43 : v 2 = .int .i64 (m : Int) := r43
              rw [r43] at h43
              have hk := hK (.pointer (some ⟨b0, o + m * 2, none⟩)) W (Below.refl _ _) rfl
              clear hK
              unfold Oper.wp
              go_simp
              exact hk
            · intro a v W hd hb K hK
              obtain ⟨h44, r44⟩ := hd.dep.done_ 3 _ 44 (by kernel_rfl) rfl rfl
              have r44 : v 3 = .pointer (some ⟨b0, o + m * 2, none⟩) := r44
              rw [r44] at h44
              have hk := hK (.pointer (some ⟨b0, o + m * 2, none⟩)) W (Below.refl _ _) rfl
              clear hK
              unfold Oper.wp
              go_simp
              exact hk
            · intro a v W hd hb K hK
              obtain ⟨h45, r45⟩ := hd.dep.done_ 4 _ 45 (by kernel_rfl) rfl rfl
              have r45 : v 4 = .pointer (some ⟨b0, o + m * 2, none⟩) := r45
              rw [r45] at h45
              have c0 := (HCC.out W hb).1
              have hk := hK (.int .u64 (e : Int)) W (Below.refl _ _) rfl
              clear hK
              unfold Oper.wp
              go_simp
              exact hk
            · intro a v W hd hb K hK
              obtain ⟨h46, r46⟩ := hd.dep.done_ 5 _ 46 (by kernel_rfl) rfl rfl
              have r46 : v 5 = .int .u64 (e : Int) := r46
              rw [r46] at h46
              have hw : IntKind.u8.wrap ((e : Int)) = (e : Int) % 256 := by simp [IntKind.wrap, IntKind.bits, IntKind.signed]
              have hk := hK (.int .u8 ((e : Int) % 256)) W (Below.refl _ _) rfl
              clear hK
              unfold Oper.wp
              go_simp
              exact hk
            · intro a v W hd hb K hK
              have k0 : a.tmps.getD 2 undef = .slice (some ⟨b0, o, none⟩) n c := hd.dep.kept 2 (by kernel_rfl)
              have hk := hK (.slice (some ⟨b0, o, none⟩) n c) W (Below.refl _ _) rfl
              clear hK
              unfold Oper.wp
              go_simp
              exact hk
            · intro a v W hd hb K hK
              have k0 : a.tmps.getD 9 undef = .int .i64 (m : Int) := hd.dep.kept 9 (by kernel_rfl)
              have hk := hK (.int .i64 (m : Int)) W (Below.refl _ _) rfl
              clear hK
              unfold Oper.wp
              go_simp
              exact hk
            · intro a v W hd hb K hK
              obtain ⟨h48, r48⟩ := hd.dep.done_ 7 _ 48 (by kernel_rfl) rfl rfl
              have r48 : v 7 = .slice (some ⟨b0, o, none⟩) n c := r48
              rw [r48] at h48
              obtain ⟨h49, r49⟩ := hd.dep.done_ 8 _ 49 (by kernel_rfl) rfl rfl
              have r49 : v 8 = .int .i64 (m : Int) := r49
              rw [r49] at h49
              have hk := hK (.pointer (some ⟨b0, o + m * 2, none⟩)) W (Below.refl _ _) rfl
              clear hK
              unfold Oper.wp
              go_simp
              exact hk
            · intro a v W hd hb K hK
              obtain ⟨h50, r50⟩ := hd.dep.done_ 9 _ 50 (by kernel_rfl) rfl rfl
              have r50 : v 9 = .pointer (some ⟨b0, o + m * 2, none⟩) := r50
              rw [r50] at h50
              have hk := hK (.pointer (some ⟨b0, o + m * 2, none⟩)) W (Below.refl _ _) rfl
              clear hK
              unfold Oper.wp
              go_simp
              exact hk
            · intro a v W hd hb K hK
              obtain ⟨h51, r51⟩ := hd.dep.done_ 10 _ 51 (by kernel_rfl) rfl rfl
              have r51 : v 10 = .pointer (some ⟨b0, o + m * 2, none⟩) := r51
              rw [r51] at h51
              have c0 := (HCC.out W hb).1
              have hk := hK (.int .u64 (e : Int)) W (Below.refl _ _) rfl
              clear hK
              unfold Oper.wp
              go_simp
              exact hk
            · intro a v W hd hb K hK
              obtain ⟨h52, r52⟩ := hd.dep.done_ 11 _ 52 (by kernel_rfl) rfl rfl
              have r52 : v 11 = .int .u64 (e : Int) := r52
              rw [r52] at h52
              have hk := hK (.int .u64 ((e : Int) / 256)) W (Below.refl _ _) rfl
              clear hK
              unfold Oper.wp
              go_simp
              exact hk
            · intro a v W hd hb K hK
              obtain ⟨h53, r53⟩ := hd.dep.done_ 12 _ 53 (by kernel_rfl) rfl rfl
              have r53 : v 12 = .int .u64 ((e : Int) / 256) := r53
              rw [r53] at h53
              have hw : IntKind.u8.wrap ((e : Int) / 256) = (e : Int) / 256 % 256 := by simp [IntKind.wrap, IntKind.bits, IntKind.signed]
              have hk := hK (.int .u8 ((e : Int) / 256 % 256)) W (Below.refl _ _) rfl
              clear hK
              unfold Oper.wp
              go_simp
              exact hk
            · intro a v W hd hb K hK
              have k0 : a.tmps.getD 2 undef = .slice (some ⟨b0, o, none⟩) n c := hd.dep.kept 2 (by kernel_rfl)
              have hk := hK (.slice (some ⟨b0, o, none⟩) n c) W (Below.refl _ _) rfl
              clear hK
              unfold Oper.wp
              go_simp
              exact hk
            · intro a v W hd hb K hK
              have k0 : a.tmps.getD 9 undef = .int .i64 (m : Int) := hd.dep.kept 9 (by kernel_rfl)
              have hk := hK (.int .i64 (m : Int)) W (Below.refl _ _) rfl
              clear hK
              unfold Oper.wp
              go_simp
              exact hk
            · intro a v W hd hb K hK
              obtain ⟨h55, r55⟩ := hd.dep.done_ 14 _ 55 (by kernel_rfl) rfl rfl
              have r55 : v 14 = .slice (some ⟨b0, o, none⟩) n c := r55
              rw [r55] at h55
              obtain ⟨h56, r56⟩ := hd.dep.done_ 15 _ 56 (by kernel_rfl) rfl rfl
              have r56 : v 15 = .int .i64 (m : Int) := r56
              rw [r56] at h56
              have hk := hK (.pointer (some ⟨b0, o + m * 2, none⟩)) W (Below.refl _ _) rfl
              clear hK
              unfold Oper.wp
              go_simp
              exact hk
            · intro a v W hd hb K hK
              obtain ⟨h57, r57⟩ := hd.dep.done_ 16 _ 57 (by kernel_rfl) rfl rfl
              have r57 : v 16 = .pointer (some ⟨b0, o + m * 2, none⟩) := r57
              rw [r57] at h57
              have hk := hK (.pointer (some ⟨b0, o + m * 2, none⟩)) W (Below.refl _ _) rfl
              clear hK
              unfold Oper.wp
              go_simp
              exact hk
            · intro a v W hd hb K hK
              obtain ⟨h58, r58⟩ := hd.dep.done_ 17 _ 58 (by kernel_rfl) rfl rfl
              have r58 : v 17 = .pointer (some ⟨b0, o + m * 2, none⟩) := r58
              rw [r58] at h58
              have c0 := (HCC.out W hb).1
              have hk := hK (.int .u64 (e : Int)) W (Below.refl _ _) rfl
              clear hK
              unfold Oper.wp
              go_simp
              exact hk
            · intro a v W hd hb K hK
              obtain ⟨h59, r59⟩ := hd.dep.done_ 18 _ 59 (by kernel_rfl) rfl rfl
              have r59 : v 18 = .int .u64 (e : Int) := r59
              rw [r59] at h59
              have hk := hK (.int .u64 ((e : Int) / 65536)) W (Below.refl _ _) rfl
              clear hK
              unfold Oper.wp
              go_simp
              exact hk
            · intro a v W hd hb K hK
              obtain ⟨h60, r60⟩ := hd.dep.done_ 19 _ 60 (by kernel_rfl) rfl rfl
              have r60 : v 19 = .int .u64 ((e : Int) / 65536) := r60
              rw [r60] at h60
              have hw : IntKind.u8.wrap ((e : Int) / 65536) = (e : Int) / 65536 % 256 := by simp [IntKind.wrap, IntKind.bits, IntKind.signed]
              have hk := hK (.int .u8 ((e : Int) / 65536 % 256)) W (Below.refl _ _) rfl
              clear hK
              unfold Oper.wp
              go_simp
              exact hk
            · intro a v W hd hb K hK
              have k0 : a.tmps.getD 2 undef = .slice (some ⟨b0, o, none⟩) n c := hd.dep.kept 2 (by kernel_rfl)
              have hk := hK (.slice (some ⟨b0, o, none⟩) n c) W (Below.refl _ _) rfl
              clear hK
              unfold Oper.wp
              go_simp
              exact hk
            · intro a v W hd hb K hK
              have k0 : a.tmps.getD 9 undef = .int .i64 (m : Int) := hd.dep.kept 9 (by kernel_rfl)
              have hk := hK (.int .i64 (m : Int)) W (Below.refl _ _) rfl
              clear hK
              unfold Oper.wp
              go_simp
              exact hk
            · intro a v W hd hb K hK
              obtain ⟨h62, r62⟩ := hd.dep.done_ 21 _ 62 (by kernel_rfl) rfl rfl
              have r62 : v 21 = .slice (some ⟨b0, o, none⟩) n c := r62
              rw [r62] at h62
              obtain ⟨h63, r63⟩ := hd.dep.done_ 22 _ 63 (by kernel_rfl) rfl rfl
              have r63 : v 22 = .int .i64 (m : Int) := r63
              rw [r63] at h63
              have hk := hK (.pointer (some ⟨b0, o + m * 2, none⟩)) W (Below.refl _ _) rfl
              clear hK
              unfold Oper.wp
              go_simp
              exact hk
            · intro a v W hd hb K hK
              obtain ⟨h64, r64⟩ := hd.dep.done_ 23 _ 64 (by kernel_rfl) rfl rfl
              have r64 : v 23 = .pointer (some ⟨b0, o + m * 2, none⟩) := r64
              rw [r64] at h64
              have hk := hK (.pointer (some ⟨b0, o + m * 2, none⟩)) W (Below.refl _ _) rfl
              clear hK
              unfold Oper.wp
              go_simp
              exact hk
            · intro a v W hd hb K hK
              obtain ⟨h65, r65⟩ := hd.dep.done_ 24 _ 65 (by kernel_rfl) rfl rfl
              have r65 : v 24 = .pointer (some ⟨b0, o + m * 2, none⟩) := r65
              rw [r65] at h65
              have c0 := (HCC.out W hb).1
              have hk := hK (.int .u64 (e : Int)) W (Below.refl _ _) rfl
              clear hK
              unfold Oper.wp
              go_simp
              exact hk
            · intro a v W hd hb K hK
              obtain ⟨h66, r66⟩ := hd.dep.done_ 25 _ 66 (by kernel_rfl) rfl rfl
              have r66 : v 25 = .int .u64 (e : Int) := r66
              rw [r66] at h66
              have hk := hK (.int .u64 ((e : Int) / 16777216)) W (Below.refl _ _) rfl
              clear hK
              unfold Oper.wp
              go_simp
              exact hk
            · intro a v W hd hb K hK
              obtain ⟨h67, r67⟩ := hd.dep.done_ 26 _ 67 (by kernel_rfl) rfl rfl
              have r67 : v 26 = .int .u64 ((e : Int) / 16777216) := r67
              rw [r67] at h67
              have hw : IntKind.u8.wrap ((e : Int) / 16777216) = (e : Int) / 16777216 % 256 := by simp [IntKind.wrap, IntKind.bits, IntKind.signed]
              have hk := hK (.int .u8 ((e : Int) / 16777216 % 256)) W (Below.refl _ _) rfl
              clear hK
              unfold Oper.wp
              go_simp
              exact hk
            · intro a v W hd hb K hK
              have k0 : a.tmps.getD 2 undef = .slice (some ⟨b0, o, none⟩) n c := hd.dep.kept 2 (by kernel_rfl)
              have hk := hK (.slice (some ⟨b0, o, none⟩) n c) W (Below.refl _ _) rfl
              clear hK
              unfold Oper.wp
              go_simp
              exact hk
            · intro a v W hd hb K hK
              have k0 : a.tmps.getD 9 undef = .int .i64 (m : Int) := hd.dep.kept 9 (by kernel_rfl)
              have hk := hK (.int .i64 (m : Int)) W (Below.refl _ _) rfl
              clear hK
              unfold Oper.wp
              go_simp
              exact hk
            · intro a v W hd hb K hK
              obtain ⟨h69, r69⟩ := hd.dep.done_ 28 _ 69 (by kernel_rfl) rfl rfl
              have r69 : v 28 = .slice (some ⟨b0, o, none⟩) n c := r69
              rw [r69] at h69
              obtain ⟨h70, r70⟩ := hd.dep.done_ 29 _ 70 (by kernel_rfl) rfl rfl
              have r70 : v 29 = .int .i64 (m : Int) := r70
              rw [r70] at h70
              have hk := hK (.pointer (some ⟨b0, o + m * 2, none⟩)) W (Below.refl _ _) rfl
              clear hK
              unfold Oper.wp
              go_simp
              exact hk
            · intro a v W hd hb K hK
              obtain ⟨h71, r71⟩ := hd.dep.done_ 30 _ 71 (by kernel_rfl) rfl rfl
              have r71 : v 30 = .pointer (some ⟨b0, o + m * 2, none⟩) := r71
              rw [r71] at h71
              have hk := hK (.pointer (some ⟨b0, o + m * 2, none⟩)) W (Below.refl _ _) rfl
              clear hK
              unfold Oper.wp
              go_simp
              exact hk
            · intro a v W hd hb K hK
              obtain ⟨h72, r72⟩ := hd.dep.done_ 31 _ 72 (by kernel_rfl) rfl rfl
              have r72 : v 31 = .pointer (some ⟨b0, o + m * 2, none⟩) := r72
              rw [r72] at h72
              have c0 := (HCC.out W hb).1
              have hk := hK (.int .u64 (e : Int)) W (Below.refl _ _) rfl
              clear hK
              unfold Oper.wp
              go_simp
              exact hk
            · intro a v W hd hb K hK
              obtain ⟨h73, r73⟩ := hd.dep.done_ 32 _ 73 (by kernel_rfl) rfl rfl
              have r73 : v 32 = .int .u64 (e : Int) := r73
              rw [r73] at h73
              have hk := hK (.int .u64 ((e : Int) / 4294967296)) W (Below.refl _ _) rfl
              clear hK
              unfold Oper.wp
              go_simp
              exact hk
            · intro a v W hd hb K hK
              obtain ⟨h74, r74⟩ := hd.dep.done_ 33 _ 74 (by kernel_rfl) rfl rfl
              have r74 : v 33 = .int .u64 ((e : Int) / 4294967296) := r74
              rw [r74] at h74
              have hw : IntKind.u8.wrap ((e : Int) / 4294967296) = (e : Int) / 4294967296 % 256 := by simp [IntKind.wrap, IntKind.bits, IntKind.signed]
              have hk := hK (.int .u8 ((e : Int) / 4294967296 % 256)) W (Below.refl _ _) rfl
              clear hK
              unfold Oper.wp
              go_simp
              exact hk
            · intro a v W hd hb K hK
              have k0 : a.tmps.getD 2 undef = .slice (some ⟨b0, o, none⟩) n c := hd.dep.kept 2 (by kernel_rfl)
              have hk := hK (.slice (some ⟨b0, o, none⟩) n c) W (Below.refl _ _) rfl
              clear hK
              unfold Oper.wp
              go_simp
              exact hk
            · intro a v W hd hb K hK
              have k0 : a.tmps.getD 9 undef = .int .i64 (m : Int) := hd.dep.kept 9 (by kernel_rfl)
              have hk := hK (.int .i64 (m : Int)) W (Below.refl _ _) rfl
              clear hK
              unfold Oper.wp
              go_simp
              exact hk
            · intro a v W hd hb K hK
              obtain ⟨h76, r76⟩ := hd.dep.done_ 35 _ 76 (by kernel_rfl) rfl rfl
              have r76 : v 35 = .slice (some ⟨b0, o, none⟩) n c := r76
              rw [r76] at h76
              obtain ⟨h77, r77⟩ := hd.dep.done_ 36 _ 77 (by kernel_rfl) rfl rfl
              have r77 : v 36 = .int .i64 (m : Int) := r77
              rw [r77] at h77
              have hk := hK (.pointer (some ⟨b0, o + m * 2, none⟩)) W (Below.refl _ _) rfl
              clear hK
              unfold Oper.wp
              go_simp
              exact hk
            · intro a v W hd hb K hK
              obtain ⟨h78, r78⟩ := hd.dep.done_ 37 _ 78 (by kernel_rfl) rfl rfl
              have r78 : v 37 = .pointer (some ⟨b0, o + m * 2, none⟩) := r78
              rw [r78] at h78
              have hk := hK (.pointer (some ⟨b0, o + m * 2, none⟩)) W (Below.refl _ _) rfl
              clear hK
              unfold Oper.wp
              go_simp
              exact hk
            · intro a v W hd hb K hK
              obtain ⟨h79, r79⟩ := hd.dep.done_ 38 _ 79 (by kernel_rfl) rfl rfl
              have r79 : v 38 = .pointer (some ⟨b0, o + m * 2, none⟩) := r79
              rw [r79] at h79
              have c0 := (HCC.out W hb).1
              have hk := hK (.int .u64 (e : Int)) W (Below.refl _ _) rfl
              clear hK
              unfold Oper.wp
              go_simp
              exact hk
            · intro a v W hd hb K hK
              obtain ⟨h80, r80⟩ := hd.dep.done_ 39 _ 80 (by kernel_rfl) rfl rfl
              have r80 : v 39 = .int .u64 (e : Int) := r80
              rw [r80] at h80
              have hk := hK (.int .u64 ((e : Int) / 1099511627776)) W (Below.refl _ _) rfl
              clear hK
              unfold Oper.wp
              go_simp
              exact hk
            · intro a v W hd hb K hK
              obtain ⟨h81, r81⟩ := hd.dep.done_ 40 _ 81 (by kernel_rfl) rfl rfl
              have r81 : v 40 = .int .u64 ((e : Int) / 1099511627776) := r81
              rw [r81] at h81
              have hw : IntKind.u8.wrap ((e : Int) / 1099511627776) = (e : Int) / 1099511627776 % 256 := by simp [IntKind.wrap, IntKind.bits, IntKind.signed]
              have hk := hK (.int .u8 ((e : Int) / 1099511627776 % 256)) W (Below.refl _ _) rfl
              clear hK
              unfold Oper.wp
              go_simp
              exact hk
            · intro a v W hd hb K hK
              have k0 : a.tmps.getD 2 undef = .slice (some ⟨b0, o, none⟩) n c := hd.dep.kept 2 (by kernel_rfl)
              have hk := hK (.slice (some ⟨b0, o, none⟩) n c) W (Below.refl _ _) rfl
              clear hK
              unfold Oper.wp
              go_simp
              exact hk
            · intro a v W hd hb K hK
              have k0 : a.tmps.getD 9 undef = .int .i64 (m : Int) := hd.dep.kept 9 (by kernel_rfl)
              have hk := hK (.int .i64 (m : Int)) W (Below.refl _ _) rfl
              clear hK
              unfold Oper.wp
              go_simp
              exact hk
            · intro a v W hd hb K hK
              obtain ⟨h83, r83⟩ := hd.dep.done_ 42 _ 83 (by kernel_rfl) rfl rfl
              have r83 : v 42 = .slice (some ⟨b0, o, none⟩) n c := r83
              rw [r83] at h83
              obtain ⟨h84, r84⟩ := hd.dep.done_ 43 _ 84 (by kernel_rfl) rfl rfl
              have r84 : v 43 = .int .i64 (m : Int) := r84
              rw [r84] at h84
              have hk := hK (.pointer (some ⟨b0, o + m * 2, none⟩)) W (Below.refl _ _) rfl
              clear hK
              unfold Oper.wp
              go_simp
              exact hk
            · intro a v W hd hb K hK
              obtain ⟨h85, r85⟩ := hd.dep.done_ 44 _ 85 (by kernel_rfl) rfl rfl
              have r85 : v 44 = .pointer (some ⟨b0, o + m * 2, none⟩) := r85
              rw [r85] at h85
              have hk := hK (.pointer (some ⟨b0, o + m * 2, none⟩)) W (Below.refl _ _) rfl
              clear hK
              unfold Oper.wp
              go_simp
              exact hk
            · intro a v W hd hb K hK
              obtain ⟨h86, r86⟩ := hd.dep.done_ 45 _ 86 (by kernel_rfl) rfl rfl
              have r86 : v 45 = .pointer (some ⟨b0, o + m * 2, none⟩) := r86
              rw [r86] at h86
              have c0 := (HCC.out W hb).1
              have hk := hK (.int .u64 (e : Int)) W (Below.refl _ _) rfl
              clear hK
              unfold Oper.wp
              go_simp
              exact hk
            · intro a v W hd hb K hK
              obtain ⟨h87, r87⟩ := hd.dep.done_ 46 _ 87 (by kernel_rfl) rfl rfl
              have r87 : v 46 = .int .u64 (e : Int) := r87
              rw [r87] at h87
              have hk := hK (.int .u64 ((e : Int) / 281474976710656)) W (Below.refl _ _) rfl
              clear hK
              unfold Oper.wp
              go_simp
              exact hk
            · intro a v W hd hb K hK
              obtain ⟨h88, r88⟩ := hd.dep.done_ 47 _ 88 (by kernel_rfl) rfl rfl
              have r88 : v 47 = .int .u64 ((e : Int) / 281474976710656) := r88
              rw [r88] at h88
              have hw : IntKind.u8.wrap ((e : Int) / 281474976710656) = (e : Int) / 281474976710656 % 256 := by simp [IntKind.wrap, IntKind.bits, IntKind.signed]
              have hk := hK (.int .u8 ((e : Int) / 281474976710656 % 256)) W (Below.refl _ _) rfl
              clear hK
              unfold Oper.wp
              go_simp
              exact hk
            · intro a v W hd hb K hK
              have k0 : a.tmps.getD 2 undef = .slice (some ⟨b0, o, none⟩) n c := hd.dep.kept 2 (by kernel_rfl)
              have hk := hK (.slice (some ⟨b0, o, none⟩) n c) W (Below.refl _ _) rfl
              clear hK
              unfold Oper.wp
              go_simp
              exact hk
            · intro a v W hd hb K hK
              have k0 : a.tmps.getD 9 undef = .int .i64 (m : Int) := hd.dep.kept 9 (by kernel_rfl)
              have hk := hK (.int .i64 (m : Int)) W (Below.refl _ _) rfl
              clear hK
              unfold Oper.wp
              go_simp
              exact hk
            · intro a v W hd hb K hK
              obtain ⟨h90, r90⟩ := hd.dep.done_ 49 _ 90 (by kernel_rfl) rfl rfl
              have r90 : v 49 = .slice (some ⟨b0, o, none⟩) n c := r90
              rw [r90] at h90
              obtain ⟨h91, r91⟩ := hd.dep.done_ 50 _ 91 (by kernel_rfl) rfl rfl
              have r91 : v 50 = .int .i64 (m : Int) := r91
              rw [r91] at h91
              have hk := hK (.pointer (some ⟨b0, o + m * 2, none⟩)) W (Below.refl _ _) rfl
              clear hK
              unfold Oper.wp
              go_simp
              exact hk
            · intro a v W hd hb K hK
              obtain ⟨h92, r92⟩ := hd.dep.done_ 51 _ 92 (by kernel_rfl) rfl rfl
              have r92 : v 51 = .pointer (some ⟨b0, o + m * 2, none⟩) := r92
              rw [r92] at h92
              have hk := hK (.pointer (some ⟨b0, o + m * 2 + 1, none⟩)) W (Below.refl _ _) rfl
              clear hK
              unfold Oper.wp
              go_simp
              exact hk
            · intro a v W hd hb K hK
              obtain ⟨h93, r93⟩ := hd.dep.done_ 52 _ 93 (by kernel_rfl) rfl rfl
              have r93 : v 52 = .pointer (some ⟨b0, o + m * 2 + 1, none⟩) := r93
              rw [r93] at h93
              have c0 := (HCC.out W hb).2.1
              have hk := hK (.slice B k cc) W (Below.refl _ _) rfl
              clear hK
              unfold Oper.wp
              go_simp
              exact hk
            · intro a v W hd hb K hK
              obtain ⟨h94, r94⟩ := hd.dep.done_ 53 _ 94 (by kernel_rfl) rfl rfl
              have r94 : v 53 = .slice B k cc := r94
              rw [r94] at h94
              have hk := hK (.int .i64 (k : Int)) W (Below.refl _ _) rfl
              clear hK
              unfold Oper.wp
              go_simp
              exact hk
            · intro a v W hd hb K hK
              obtain ⟨h95, r95⟩ := hd.dep.done_ 54 _ 95 (by kernel_rfl) rfl rfl
              have r95 : v 54 = .int .i64 (k : Int) := r95
              rw [r95] at h95
              have hw : IntKind.u8.wrap ((k : Int)) = (k : Int) % 256 := by simp [IntKind.wrap, IntKind.bits, IntKind.signed]
              have hk := hK (.int .u8 ((k : Int) % 256)) W (Below.refl _ _) rfl
              clear hK
              unfold Oper.wp
              go_simp
              exact hk
            · intro a v W hd hb K hK
              have k0 : a.tmps.getD 2 undef = .slice (some ⟨b0, o, none⟩) n c := hd.dep.kept 2 (by kernel_rfl)
              have hk := hK (.slice (some ⟨b0, o, none⟩) n c) W (Below.refl _ _) rfl
              clear hK
              unfold Oper.wp
              go_simp
              exact hk
            · intro a v W hd hb K hK
              have k0 : a.tmps.getD 9 undef = .int .i64 (m : Int) := hd.dep.kept 9 (by kernel_rfl)
              have hk := hK (.int .i64 (m : Int)) W (Below.refl _ _) rfl
              clear hK
              unfold Oper.wp
              go_simp
              exact hk
            · intro a v W hd hb K hK
              obtain ⟨h97, r97⟩ := hd.dep.done_ 56 _ 97 (by kernel_rfl) rfl rfl
              have r97 : v 56 = .slice (some ⟨b0, o, none⟩) n c := r97
              rw [r97] at h97
              obtain ⟨h98, r98⟩ := hd.dep.done_ 57 _ 98 (by kernel_rfl) rfl rfl
              have r98 : v 57 = .int .i64 (m : Int) := r98
              rw [r98] at h98
              have hk := hK (.pointer (some ⟨b0, o + m * 2, none⟩)) W (Below.refl _ _) rfl
              clear hK
              unfold Oper.wp
              go_simp
              exact hk
            · intro a v W hd hb K hK
              obtain ⟨h99, r99⟩ := hd.dep.done_ 58 _ 99 (by kernel_rfl) rfl rfl
              have r99 : v 58 = .pointer (some ⟨b0, o + m * 2, none⟩) := r99
              rw [r99] at h99
              have hk := hK (.pointer (some ⟨b0, o + m * 2 + 1, none⟩)) W (Below.refl _ _) rfl
              clear hK
              unfold Oper.wp
              go_simp
              exact hk
            · intro a v W hd hb K hK
              obtain ⟨h100, r100⟩ := hd.dep.done_ 59 _ 100 (by kernel_rfl) rfl rfl
              have r100 : v 59 = .pointer (some ⟨b0, o + m * 2 + 1, none⟩) := r100
              rw [r100] at h100
              have c0 := (HCC.out W hb).2.1
              have hk := hK (.slice B k cc) W (Below.refl _ _) rfl
              clear hK
              unfold Oper.wp
              go_simp
              exact hk
            · intro a v W hd hb K hK
              obtain ⟨h101, r101⟩ := hd.dep.done_ 60 _ 101 (by kernel_rfl) rfl rfl
              have r101 : v 60 = .slice B k cc := r101
              rw [r101] at h101
              have hk := hK (.int .i64 (k : Int)) W (Below.refl _ _) rfl
              clear hK
              unfold Oper.wp
              go_simp
              exact hk
            · intro a v W hd hb K hK
              obtain ⟨h102, r102⟩ := hd.dep.done_ 61 _ 102 (by kernel_rfl) rfl rfl
              have r102 : v 61 = .int .i64 (k : Int) := r102
              rw [r102] at h102
              have hk := hK (.int .i64 ((k : Int) / 256)) W (Below.refl _ _) rfl
              clear hK
              unfold Oper.wp
              go_simp
              exact hk
            · intro a v W hd hb K hK
              obtain ⟨h103, r103⟩ := hd.dep.done_ 62 _ 103 (by kernel_rfl) rfl rfl
              have r103 : v 62 = .int .i64 ((k : Int) / 256) := r103
              rw [r103] at h103
              have hw : IntKind.u8.wrap ((k : Int) / 256) = (k : Int) / 256 % 256 := by simp [IntKind.wrap, IntKind.bits, IntKind.signed]
              have hk := hK (.int .u8 ((k : Int) / 256 % 256)) W (Below.refl _ _) rfl
              clear hK
              unfold Oper.wp
              go_simp
              exact hk
            · intro a v W hd hb K hK
              obtain ⟨h47, r47⟩ := hd.dep.done_ 6 _ 47 (by kernel_rfl) rfl rfl
              have r47 : v 6 = .int .u8 ((e : Int) % 256) := r47
              rw [r47] at h47
              obtain ⟨h54, r54⟩ := hd.dep.done_ 13 _ 54 (by kernel_rfl) rfl rfl
              have r54 : v 13 = .int .u8 ((e : Int) / 256 % 256) := r54
              rw [r54] at h54
              obtain ⟨h61, r61⟩ := hd.dep.done_ 20 _ 61 (by kernel_rfl) rfl rfl
              have r61 : v 20 = .int .u8 ((e : Int) / 65536 % 256) := r61
              rw [r61] at h61
              obtain ⟨h68, r68⟩ := hd.dep.done_ 27 _ 68 (by kernel_rfl) rfl rfl
              have r68 : v 27 = .int .u8 ((e : Int) / 16777216 % 256) := r68
              rw [r68] at h68
              obtain ⟨h75, r75⟩ := hd.dep.done_ 34 _ 75 (by kernel_rfl) rfl rfl
              have r75 : v 34 = .int .u8 ((e : Int) / 4294967296 % 256) := r75
              rw [r75] at h75
              obtain ⟨h82, r82⟩ := hd.dep.done_ 41 _ 82 (by kernel_rfl) rfl rfl
              have r82 : v 41 = .int .u8 ((e : Int) / 1099511627776 % 256) := r82
              rw [r82] at h82
              obtain ⟨h89, r89⟩ := hd.dep.done_ 48 _ 89 (by kernel_rfl) rfl rfl
              have r89 : v 48 = .int .u8 ((e : Int) / 281474976710656 % 256) := r89
              rw [r89] at h89
              obtain ⟨h96, r96⟩ := hd.dep.done_ 55 _ 96 (by kernel_rfl) rfl rfl
              have r96 : v 55 = .int .u8 ((k : Int) % 256) := r96
              rw [r96] at h96
              obtain ⟨h104, r104⟩ := hd.dep.done_ 63 _ 104 (by kernel_rfl) rfl rfl
              have r104 : v 63 = .int .u8 ((k : Int) / 256 % 256) := r104
              rw [r104] at h104
              rw [Array.getD_eq_getD_getElem?] at h47
              rw [Array.getD_eq_getD_getElem?] at h54
              rw [Array.getD_eq_getD_getElem?] at h61
              rw [Array.getD_eq_getD_getElem?] at h68
              rw [Array.getD_eq_getD_getElem?] at h75
              rw [Array.getD_eq_getD_getElem?] at h82
              rw [Array.getD_eq_getD_getElem?] at h89
              rw [Array.getD_eq_getD_getElem?] at h96
              rw [Array.getD_eq_getD_getElem?] at h104
              have hk := hK (.slice (some ⟨W.heap.size, 0, none⟩) 9 9) (W.alloc (.cells #[.int .u8 ((e : Int) % 256), .int .u8 ((e : Int) / 256 % 256), .int .u8 ((e : Int) / 65536 % 256), .int .u8 ((e : Int) / 16777216 % 256), .int .u8 ((e : Int) / 4294967296 % 256), .int .u8 ((e : Int) / 1099511627776 % 256), .int .u8 ((e : Int) / 281474976710656 % 256), .int .u8 ((k : Int) % 256), .int .u8 ((k : Int) / 256 % 256)] 5)) ((Below.refl _ _).alloc (Nat.le_refl _) _) ⟨W.heap.size, rfl, HRW.out W⟩
              clear hK
              unfold Oper.wp
              go_simp
              exact hk
            · intro a v W hd hb K hK
              obtain ⟨h105, g9, e9, r9⟩ := hd.dep.done_ 64 _ 105 (by kernel_rfl) rfl rfl
              rw [e9] at h105
              have c9 := HCV.out W g9 r9
              have hk := hK (.string s1) W (Below.refl _ _) rfl
              clear hK
              unfold Oper.wp
              go_simp
              exact hk
            · intro a v W hd hb K hK
              obtain ⟨h41, r41⟩ := hd.dep.done_ 0 _ 41 (by kernel_rfl) rfl rfl
              have r41 : v 0 = .string s0 := r41
              rw [r41] at h41
              obtain ⟨h106, r106⟩ := hd.dep.done_ 65 _ 106 (by kernel_rfl) rfl rfl
              have r106 : v 65 = .string s1 := r106
              rw [r106] at h106
              have h0 := HAD.out
              have hk := hK (.string s3) W (Below.refl _ _) rfl
              clear hK
              unfold Oper.wp
              go_simp
              exact hk
            · intro a v W hd hb K hK
              have k0 : a.tmps.getD 2 undef = .slice (some ⟨b0, o, none⟩) n c := hd.dep.kept 2 (by kernel_rfl)
              have hk := hK (.slice (some ⟨b0, o, none⟩) n c) W (Below.refl _ _) rfl
              clear hK
              unfold Oper.wp
              go_simp
              exact hk
            · intro a v W hd hb K hK
              have k0 : a.tmps.getD 9 undef = .int .i64 (m : Int) := hd.dep.kept 9 (by kernel_rfl)
              have hk := hK (.int .i64 (m : Int)) W (Below.refl _ _) rfl
              clear hK
              unfold Oper.wp
              go_simp
              exact hk
            · intro a v W hd hb K hK
              obtain ⟨h108, r108⟩ := hd.dep.done_ 67 _ 108 (by kernel_rfl) rfl rfl
              have r108 : v 67 = .slice (some ⟨b0, o, none⟩) n c := r108
              rw [r108] at h108
              obtain ⟨h109, r109⟩ := hd.dep.done_ 68 _ 109 (by kernel_rfl) rfl rfl
              have r109 : v 68 = .int .i64 (m : Int) := r109
              rw [r109] at h109
              have hk := hK (.pointer (some ⟨b0, o + m * 2, none⟩)) W (Below.refl _ _) rfl
              clear hK
              unfold Oper.wp
              go_simp
              exact hk
            · intro a v W hd hb K hK
              obtain ⟨h110, r110⟩ := hd.dep.done_ 69 _ 110 (by kernel_rfl) rfl rfl
              have r110 : v 69 = .pointer (some ⟨b0, o + m * 2, none⟩) := r110
              rw [r110] at h110
              have hk := hK (.pointer (some ⟨b0, o + m * 2 + 1, none⟩)) W (Below.refl _ _) rfl
              clear hK
              unfold Oper.wp
              go_simp
              exact hk
            · intro a v W hd hb K hK
              obtain ⟨h111, r111⟩ := hd.dep.done_ 70 _ 111 (by kernel_rfl) rfl rfl
              have r111 : v 70 = .pointer (some ⟨b0, o + m * 2 + 1, none⟩) := r111
              rw [r111] at h111
              have c0 := (HCC.out W hb).2.1
              have hk := hK (.slice B k cc) W (Below.refl _ _) rfl
              clear hK
              unfold Oper.wp
              go_simp
              exact hk
            · intro a v W hd hb K hK
              obtain ⟨h112, r112⟩ := hd.dep.done_ 71 _ 112 (by kernel_rfl) rfl rfl
              have r112 : v 71 = .slice B k cc := r112
              rw [r112] at h112
              have c0 := (HCC.out W hb).2.2
              have hk := hK (.string s2) W (Below.refl _ _) rfl
              clear hK
              unfold Oper.wp
              go_simp
              exact hk
            · intro a v W hd hb K hK
              obtain ⟨h107, r107⟩ := hd.dep.done_ 66 _ 107 (by kernel_rfl) rfl rfl
              have r107 : v 66 = .string s3 := r107
              rw [r107] at h107
              obtain ⟨h113, r113⟩ := hd.dep.done_ 72 _ 113 (by kernel_rfl) rfl rfl
              have r113 : v 72 = .string s2 := r113
              rw [r113] at h113
              have h0 := HAD2.out
              have hk := hK (.string s4) W (Below.refl _ _) rfl
              clear hK
              unfold Oper.wp
              go_simp
              exact hk
            · intro a v W hd hb K hK
              obtain ⟨h114, r114⟩ := hd.dep.done_ 73 _ 114 (by kernel_rfl) rfl rfl
              have r114 : v 73 = .string s4 := r114
              rw [r114] at h114
              have hk := hK (.string s4) W (Below.refl _ _) rfl
              clear hK
              unfold Oper.wp
              go_simp
              exact hk
          · intro v W hW hR
            have hv74 : v 74 = .string s4 := hR 74 (by decide)
            have HF := Lib.hid (HFIN.out W hW)
            rw [hv74]
            clear hR HFIN hv74
            generalize v 0 = v0
            go_wp2_with fail
            exact ⟨HF.out, by simp [intOf]; omega⟩
        · obtain rfl : m = n := by omega
          have HEND : Hid (h1 ++ (ls.take m).flatMap lnT = textL a b ls) := by show _ = _; rw [HTX.out, List.take_of_length_le (by rw [HN.out]; exact Nat.le_refl _)]
          rw [HEND.out]
          have hvk : ¬ (m : Int) < (m : Int) := by omega
          clear hlt
          go_wp2_with fail
          go_ret
          exact ⟨rfl, HB.out.trans (HBQ.out.mono HB.out.size)⟩
end Go.Proofs.YtiijclibcfgnpaaGreat.Sto
