/- The law's own: bytes that rise. -/
import Derived.Test.YtjfoihbcieffdaaRDiskMore
namespace Go.Proofs.YtjfoihbcieffdaaR.Disk
open Go.RowKit

def sheetN (b s : UInt8) : Nat → List UInt8
  | 0 => []
  | n + 1 => b :: sheetN (b + s) s n
def stepN (b s : UInt8) : Nat → UInt8
  | 0 => b
  | n + 1 => stepN (b + s) s n
def sheet (b s : UInt8) : List UInt8 := sheetN b s 512
theorem sheetN_length (s : UInt8) : ∀ (n : Nat) (b : UInt8), (sheetN b s n).length = n
  | 0, _ => rfl
  | n + 1, b => by rw [sheetN, List.length_cons, sheetN_length s n]
theorem sheet_length (b s : UInt8) : (sheet b s).length = 512 := sheetN_length s 512 b
theorem sheetN_snoc (s : UInt8) : ∀ (n : Nat) (b : UInt8), sheetN b s (n + 1) = sheetN b s n ++ [stepN b s n]
  | 0, _ => rfl
  | n + 1, b => by
    rw [sheetN, sheetN_snoc s n (b + s)]
    rfl
theorem stepN_succ (s : UInt8) : ∀ (n : Nat) (b : UInt8), stepN b s (n + 1) = stepN b s n + s
  | 0, _ => rfl
  | n + 1, b => by
    rw [stepN, stepN_succ s n (b + s)]
    rfl
def SheetPost (b s : UInt8) (w : World) (e : Ending) (w' : World) : Prop :=
  ∃ g c, e = .returned (.slice (some ⟨g, 0, none⟩) 512 c) ∧ w'.ownsRow w.heap.size 5 1 (.slice (some ⟨g, 0, none⟩) 512 c) 512 ((sheet b s).map U) ∧ Below w.heap.size w w' ∧ w.heap.size ≤ g ∧ g < w'.heap.size
def RelSh (b s : UInt8) (w : World) (x v i : Value) (wr : World) : Prop :=
  ∃ (m : Nat) (A : Option Addr) (c : Nat), m ≤ 512 ∧ i = .int .i64 (m : Int) ∧ x = U (stepN b s m) ∧ v = .slice A m c ∧ wr.ownsRow w.heap.size 5 1 (.slice A m c) m ((sheetN b s m).map U) ∧ Below w.heap.size w wr
theorem own_slice {w : World} {base n size : Nat} {e : TypeId} {v : Value} {xs : List Value} (h : w.ownsRow base e size v n xs) : ∃ A c, v = .slice A n c := by
  rcases h.2 with ⟨rfl, rfl⟩ | ⟨g, cap, cur, rfl, _⟩
  · exact ⟨_, _, rfl⟩
  · exact ⟨_, _, rfl⟩
theorem u8_add (x y : UInt8) : ((x.toNat : Int) + (y.toNat : Int)) % 256 = ((x + y).toNat : Int) := by
  rw [UInt8.toNat_add]
  omega
set_option maxRecDepth 100000 in
theorem sheet_any (b s : UInt8) (w : World) : Calls Try.prog 19 #[U b, U s] w (SheetPost b s w) := by
  obtain ⟨i0, hi, hz0, hz1, hz2⟩ := info_three info_byte
  have HI := Lib.hid hi
  have HZ0 := Lib.hid hz0
  have HZ1 := Lib.hid hz1
  have HZ2 := Lib.hid hz2
  clear hi hz0 hz1 hz2
  have hS : ∀ m : Nat, (stepN b s (m + 1)) = stepN b s m + s := fun m => stepN_succ s m b
  unfold U
  go_enter Try.func19, Try.ntmps19
  go_wp2_with fail
  go_loopw [0, 5, 6] (fun x v i wr => RelSh b s w x v i wr) (fun _ _ i _ => 512 - (intOf i).toNat)
  case atStart => exact ⟨0, none, 0, by omega, rfl, rfl, rfl, World.ownsRow_nil _ _ _ _, Below.refl _ _⟩
  case round =>
    obtain ⟨m, A, c, hm, rfl, rfl, rfl, hown, hb⟩ := hrel
    by_cases hlt : m < 512
    · have HO := Lib.hid hown
      have HB := Lib.hid hb
      have HS := Lib.hid (hS m)
      have HN := Lib.hid (sheetN_snoc s m b)
      have hadd := u8_add (stepN b s m) s
      clear hown hb hS
      unfold U
      generalize hst : stepN b s m = t at *
      have HR : Hid (Rd (wr.alloc (.cells #[.int .u8 (t.toNat : Int)] 5)) (some ⟨wr.heap.size, 0, none⟩) 1 [t]) := rd_lit wr 5 (0, 0) [t]
      have HOW : Hid ((wr.alloc (.cells #[.int .u8 (t.toNat : Int)] 5)).ownsRow w.heap.size 5 1 (.slice A m c) m ((sheetN b s m).map U)) := HO.out.alloc _
      have HBA : Hid (Below w.heap.size w (wr.alloc (.cells #[.int .u8 (t.toNat : Int)] 5))) := HB.out.alloc HB.out.size _
      go_wp2_with (at_builtin; refine wpList_append_Rd rfl (.tmp 11) (.tmp 13) _ rfl ty_bytes HI.out HZ0.out HZ1.out HZ2.out rfl rfl HOW.out rfl HR.out (by omega) HBA.out.size ?_)
      intro v' w' hown' hgr'
      have HB2 : Hid (Below w.heap.size w w') := HBA.out.grown hgr' HBA.out.size (fun k hk => (HOW.out.lt k hk).1)
      obtain ⟨A', c', rfl⟩ := own_slice hown'
      have HO2 := Lib.hid hown'
      clear hown' hgr'
      go_wp2_with fail
      exact ⟨⟨m + 1, A', c', by omega, rfl, by rw [HS.out]; rfl, rfl, by rw [HN.out, List.map_append]; exact HO2.out, HB2.out⟩, by simp [intOf]; omega⟩
    · obtain rfl : m = 512 := by omega
      obtain ⟨g, cap, hv, hg1, hg2⟩ := hown.form (by omega)
      injection hv with hv1 hv2 hv3
      subst hv1 hv3
      have HO := Lib.hid hown
      have HB := Lib.hid hb
      clear hown hb hS
      go_wp2_with fail
      go_ret
      exact ⟨g, c, rfl, HO.out, HB.out, hg1, hg2⟩
end Go.Proofs.YtjfoihbcieffdaaR.Disk
