/- The contracts of the reader's own calls: New, Byte, Uint, Int, Text, Count, Bad, Done. -/
import Derived.Test.YtephciglcikllaaRead
namespace Go.Proofs.Ytephciglcikllaa
open Go.RowKit

theorem val_nil : val [] = 0 := rfl
theorem takeS_len (k : Nat) (s : List UInt8 × Bool) : (takeS k s).1.length ≤ k := by
  unfold takeS
  split
  · simp
  · exact List.length_take_le _ _
theorem takeS_val8 (k : Nat) (s : List UInt8 × Bool) (hk : k ≤ 8) : val (takeS k s).1 < 18446744073709551616 := val_lt8 _ (Nat.le_trans (takeS_len k s) hk)

/-- Bytes were told, then the reader's slice was set. -/
def ToldB (w : World) (r k : Nat) (bs : List UInt8) (u : Value) (e : Ending) (w' : World) : Prop :=
  ∃ w1, e = .returned (.slice (some ⟨w.heap.size, 0, none⟩) k k) ∧ w1.ownsRow w.heap.size 5 1 (.slice (some ⟨w.heap.size, 0, none⟩) k k) k (bs.map U) ∧ Below w.heap.size w w1 ∧ w' = w1.setCell ⟨r, 0, none⟩ u

theorem own_base {w : World} {base base' : Nat} {e : TypeId} {size : Nat} {v : Value} {n : Nat} {xs : List Value} (h : w.ownsRow base e size v n xs) (hb : base' ≤ base) : w.ownsRow base' e size v n xs := by
  refine ⟨h.1, ?_⟩
  rcases h.2 with h2 | ⟨g, cap, cur, e, hg, hr⟩
  · exact Or.inl h2
  · exact Or.inr ⟨g, cap, cur, e, Nat.le_trans hb hg, hr⟩

theorem grown_of_below {w w1 : World} (h : Below w.heap.size w w1) (row : Option Nat) : w.grownBy w1 row := ⟨h.os, h.tape, h.output, h.size, fun k hk _ => h.block k hk⟩
theorem grown_trans {w w1 w2 : World} {row : Option Nat} (h : w.grownBy w1 row) (k : w1.grownBy w2 row) : w.grownBy w2 row :=
  ⟨k.os.trans h.os, k.tape.trans h.tape, k.output.trans h.output, Nat.le_trans h.size k.size, fun i hi hn => (k.block i (Nat.lt_of_lt_of_le hi h.size) hn).trans (h.block i hi hn)⟩

/-- What Text reads. -/
def textS (s : List UInt8 × Bool) : List UInt8 × (List UInt8 × Bool) := takeS (val (takeS 4 s).1) (takeS 4 s).2

end Go.Proofs.Ytephciglcikllaa
