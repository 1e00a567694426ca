/- A wall around the walk of operations that only read, ahead of others that stand in line: so nothing lays the region open. -/
import Derived.StillTailTactics
import Derived.KernelRfl
namespace Go.Proofs.Ytephciglcikllaa.Sto

def StillAt (P : Program) (o : Oper) (a : Act) (w : World) (v : Value) : Prop := (execOp a.eval o).run P w = .ok (.value v) w
structure WS (P : Program) (ops : Array Oper) (w : World) (Q : Act → Prop) (l : List Oper) (a : Act) : Prop where
  out : wpStill P ops w Q l a
section
variable {P : Program} {ops : Array Oper} {w : World} {Q : Act → Prop} {a : Act} {o : Oper} {rest : List Oper}
theorem ws_nil (h : Q a) : WS P ops w Q [] a := ⟨wpStill_nil h⟩
theorem ws_skip (h : Region.wanted o (yielded ops a.tmps) = false) (hb : WS P ops w Q rest (a.put o.dst undef)) : WS P ops w Q (o :: rest) a :=
  ⟨wpStill_step fun _ hK => by rw [if_neg (by rw [h]; exact Bool.false_ne_true)]; exact hK _ hb.out⟩
theorem ws_want (h : Region.wanted o (yielded ops a.tmps) = true) (hx : ∃ v, StillAt P o a w v ∧ WS P ops w Q rest (a.put o.dst v)) : WS P ops w Q (o :: rest) a :=
  ⟨wpStill_step fun _ hK => by
    obtain ⟨v, h1, h2⟩ := hx
    rw [if_pos h]
    unfold Oper.still
    rw [h1]
    exact ⟨rfl, hK _ h2.out⟩⟩
end
theorem ws_tail {P : Program} {id : Nat} {Q : Exit → Act → World → Prop} {a : Act} {w : World} {l : List Oper} (n : Nat) (hm : P.follows .mixedOrders = true) (hB : Region.lexTailB .any l.toArray n = true)
    (h : WS P l.toArray { w with drawn := w.drawn + 1 } (fun a' => wpList P l.toArray Q (l.drop n) a' { w with drawn := w.drawn + 1 }) (l.take n) a) : (Code.region id l.toArray true).wp P Q a w := wp_region_still_tail n hm hB h.out
end Go.Proofs.Ytephciglcikllaa.Sto
