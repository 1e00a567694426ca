/- An operation of a line that does not write. -/
import Derived.Test.YtephciglcikllaaPhaseLine
namespace Go.Proofs.Ytephciglcikllaa.Phase

theorem step_stays {P : Program} {Q : Exit → Act → World → Prop} {l : List Oper} {v : Nat → Value} {a0 : Act} {wr : List Nat} {Ws : Nat → World} {f i : Nat} {o : Oper} (hw : wr.contains i = false)
    (h : ∀ (a : Act) (s : Nat), s ≤ wr.length → DepL l v a0 o a → (∀ k x : Nat, wr[k]? = some x → reachB l f x i = true → s ≤ k) → (∀ k x : Nat, wr[k]? = some x → reachB l f i x = true → k < s) → ∀ K : Act → World → Prop, K (a.put o.dst (v i)) (Ws s) → o.wp P a (Ws s) K Q) : StepAt P Q l v a0 wr Ws f i o := by
  intro a s hs hd _ h2 h3 K hK
  have hno : ∀ k : Nat, wr[k]? ≠ some i := fun k hk => by
    have := List.mem_of_getElem? hk
    rw [List.contains_iff_mem.2 this] at hw
    cases hw
  exact h a s hs hd h2 h3 K (hK s (fun _ => rfl) (fun k hk => absurd hk (hno k)))
end Go.Proofs.Ytephciglcikllaa.Phase
