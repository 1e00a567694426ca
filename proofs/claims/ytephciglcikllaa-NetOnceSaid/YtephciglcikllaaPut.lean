/- The contracts of wire's putting calls: what is handed back is a new row that holds the old bytes and the new ones behind them; nothing that was there has turned. -/
import Derived.Test.YtephciglcikllaaChecked
import Derived.Test.YtephciglcikllaaWords
import Derived.Test.YtephciglcikllaaCrcBase
import Derived.KernelRfl
namespace Go.Proofs.Ytephciglcikllaa
open Go.RowKit


/-- What a putting call hands back: a new row that reads as bs; nothing that was there has turned. -/
def Put (w : World) (bs : List UInt8) (e : Ending) (w' : World) : Prop :=
  ∃ A n c, e = .returned (.slice A n c) ∧ n = bs.length ∧ n ≤ c ∧ w'.ownsRow w.heap.size 5 1 (.slice A n c) n (bs.map U) ∧ Below w.heap.size w w'

theorem Put.of {w w' : World} {bs : List UInt8} {v : Value} (h : w'.ownsRow w.heap.size 5 1 v bs.length (bs.map U)) (hb : Below w.heap.size w w') : Put w bs (.returned v) w' := by
  have h0 := h
  rcases h.2 with ⟨rfl, hn⟩ | ⟨g, cap, cur, rfl, _, _, hnc, _⟩
  · exact ⟨none, 0, 0, rfl, hn.symm, Nat.le_refl _, hn ▸ h0, hb⟩
  · exact ⟨_, _, _, rfl, rfl, hnc, h0, hb⟩

end Go.Proofs.Ytephciglcikllaa
