/- The known tree of the law on examples. -/
import Derived.Test.YtaokjkhailpemaaDoorTreeGrows
namespace Go.Proofs.YtaokjkhailpemaaDoor.Tree
open Path

def pX : List UInt8 := [47, 120]
def pRx : List UInt8 := [47, 114, 47, 120]
def pRa1 : List UInt8 := [47, 114, 47, 97, 49]
def pNone : List UInt8 := [47, 110, 111, 110, 101]
def n3 : ZN := { ZN.zero with ver := 3 }
def tK2 : TR := ⟨pR, 2, [(pR, ZN.zero)]⟩
def tK3 : TR := ⟨pR, 3, [(pR, ZN.zero)]⟩
def tK4 : TR := ⟨pR, 4, [(pR, n3)]⟩
theorem kn0 : partsF [114] = none := by kernel_rfl
theorem kn1 : (TR.new pR).apply [efPut pX] = (30, TR.new pR) := by kernel_rfl
theorem kn2 : tR1.apply [efGone pR] = (30, tR1) := by kernel_rfl
theorem kn3 : tR1.apply [efGone pRx] = (31, tR1) := by kernel_rfl
theorem kn4 : tR1.apply [efGone pRa, efGone pRa] = (31, tR1) := by kernel_rfl
theorem kn5 : tR1.apply [efGone pRa] = (0, tK2) := by kernel_rfl
theorem kn6 : tK2.apply [] = (0, tK3) := by kernel_rfl
theorem kn7 : tK3.apply [⟨pR, false, n3⟩] = (0, tK4) := by kernel_rfl
theorem kn8 : get tK4.row pR = some n3 := by kernel_rfl
/-- The k-th path of the loop, and the tree behind it. -/
def pk (k : Nat) : List UInt8 := [47, 114, 47, UInt8.ofNat (97 + k / 10), UInt8.ofNat (48 + k % 10)]
def tL : Nat → TR
  | 0 => tK4
  | k + 1 => ((tL k).apply [efPut (pk (k + 1))]).2
theorem kn9 : (List.range 47).all (fun k => decide (((tL k).apply [efPut (pk (k + 1))]).1 = 0)) = true := by kernel_rfl
def tL48 : TR := ((tL 47).apply [efPut pRa1]).2
def tL49 : TR := (tL48.apply [efGone pRa1, efPut pRx]).2
theorem kn10 : (tL 47).apply [efPut pRx] = (36, tL 47) := by kernel_rfl
theorem kn11 : (tL 47).apply [efPut pRa1] = (0, tL48) := by kernel_rfl
theorem kn12 : tL48.apply [efGone pRa1, efPut pRx] = (0, tL49) := by kernel_rfl
theorem kn13 : tL49.row.length = 48 := by kernel_rfl
theorem kn14 : kids tL49.root tL49.row pRx = [] := by kernel_rfl
theorem kn15 : kids tL49.root tL49.row pNone = [] := by kernel_rfl
theorem kn9' {k : Nat} (h : k < 47) : (tL k).apply [efPut (pk (k + 1))] = (0, tL (k + 1)) := by
  have h1 := List.all_eq_true.1 kn9 k (List.mem_range.2 h)
  exact Prod.ext (of_decide_eq_true h1) rfl
theorem pk_len (k : Nat) : (pk k).length ≤ 1000000 := by simp [pk]
/-- The two bytes at a path's end. -/
def px (j : Nat) : List UInt8 := [UInt8.ofNat (97 + (j + 1) / 10), UInt8.ofNat (48 + (j + 1) % 10)]
theorem px_pk (j : Nat) : (⟨#[47, 114, 47]⟩ : ByteArray) ++ S (px j) = S (pk (j + 1)) := by
  apply ByteArray.ext
  simp [S, px, pk]
theorem px_rd (w : World) (j : Nat) (h : j + 1 < 48) : Rd (w.alloc (.cells #[.int .u8 (97 + ((j : Int) + 1) / 10), .int .u8 (48 + ((j : Int) + 1) % 10)] 5)) (some ⟨w.heap.size, 0, none⟩) 2 (px j) := by
  refine Rd.of_block (heap_alloc_new _ _) (p := px j) fun i b hb => ?_
  match i, hb with
  | 0, hb =>
    have e : b = UInt8.ofNat (97 + (j + 1) / 10) := by simpa [px] using hb.symm
    subst e
    have e2 : (UInt8.ofNat (97 + (j + 1) / 10)).toNat = 97 + (j + 1) / 10 := UInt8.toNat_ofNat_of_lt' (show _ < 256 by omega)
    show some (Value.int .u8 _) = some (Value.int .u8 ((UInt8.ofNat (97 + (j + 1) / 10)).toNat : Int))
    rw [e2]
    simp
  | 1, hb =>
    have e : b = UInt8.ofNat (48 + (j + 1) % 10) := by simpa [px] using hb.symm
    subst e
    have e2 : (UInt8.ofNat (48 + (j + 1) % 10)).toNat = 48 + (j + 1) % 10 := UInt8.toNat_ofNat_of_lt' (show _ < 256 by omega)
    show some (Value.int .u8 _) = some (Value.int .u8 ((UInt8.ofNat (48 + (j + 1) % 10)).toNat : Int))
    rw [e2]
    simp
  | i + 2, hb => simp [px] at hb
end Go.Proofs.YtaokjkhailpemaaDoor.Tree
