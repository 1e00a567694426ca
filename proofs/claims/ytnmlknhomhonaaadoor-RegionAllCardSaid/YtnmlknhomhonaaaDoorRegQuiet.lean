/- One walk of the lexical order over a class of worlds, for regions whose guards are decided: the goal behind a wall, so that nothing lays it open. -/
import Derived.Test.YtnmlknhomhonaaaDoorRegFinds
namespace Go.Proofs.YtnmlknhomhonaaaDoor.Reg

structure WQ (P : Program) (ops : Array Oper) (C : World → Prop) (Q : Act → Prop) (l : List Oper) (a : Act) : Prop where
  out : wpQuiet P ops C Q l a
section
variable {P : Program} {ops : Array Oper} {C : World → Prop} {Q : Act → Prop} {a : Act} {o : Oper} {rest : List Oper}
theorem wq_nil (h : Q a) : WQ P ops C Q [] a := ⟨wpQuiet_nil h⟩
theorem wq_skip (h : Region.wanted o (yielded ops a.tmps) = false) (hb : WQ P ops C Q rest (a.put o.dst undef)) : WQ P ops C Q (o :: rest) a :=
  ⟨wpQuiet_step fun _ hK => quiet_skip h (hK _ hb.out)⟩
theorem wq_want (h : Region.wanted o (yielded ops a.tmps) = true) (hx : ∃ v, (∀ W, C W → o.quietAt P a C W v) ∧ WQ P ops C Q rest (a.put o.dst v)) : WQ P ops C Q (o :: rest) a :=
  ⟨wpQuiet_step fun _ hK => quiet_want h (hx.elim fun v hv => ⟨v, hv.1, hK _ hv.2.out⟩)⟩
end
theorem wq_lit {P : Program} {C : World → Prop} {id : Nat} {Q : Exit → Act → World → Prop} {a : Act} {w : World} {l : List Oper} (hm : P.follows .mixedOrders = true) (hB : Region.lexB .any l.toArray = true) (hC : C { w with drawn := w.drawn + 1 })
    (h : WQ P l.toArray C (fun a' => ∀ w', C w' → Q .normal a' w') l a) : (Code.region id l.toArray true).wp P Q a w := quiet_lit hm hB hC h.out
end Go.Proofs.YtnmlknhomhonaaaDoor.Reg
