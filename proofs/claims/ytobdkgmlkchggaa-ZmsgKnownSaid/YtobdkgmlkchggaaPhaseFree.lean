/- A drawn region without guards whose operations allot memory at most: what each yields is told by a property that no later operation can take back, so each order serves. -/
import Derived.Test.YtobdkgmlkchggaaPhaseLine
import Derived.Test.YtobdkgmlkchggaaPhaseG
import Derived.Below
import Derived.WalkKit
namespace Go.Proofs.Ytobdkgmlkchggaa.PhaseG
open Phase (any_in StepsL)
open Go.RowKit

/-- What the frame holds when operation o may come up, and what is known of it. -/
structure DepF (l : List Oper) (v : Nat → Value) (a0 : Act) (R : Nat → Value → World → Prop) (o : Oper) (a : Act) (W : World) : Prop where
  done_ : ∀ (k : Nat) (p : Oper) (d : Nat), (o.after.any fun e => e.on == k && Region.binds .any e) = true → l[k]? = some p → p.dst = some d → a.tmps.getD d undef = v k ∧ R k (v k) W
  kept : ∀ d, (l.all fun p => p.dst != some d) = true → a.tmps.getD d undef = a0.tmps.getD d undef
def StepF (P : Program) (Q : Exit → Act → World → Prop) (l : List Oper) (a0 : Act) (w : World) (R : Nat → Value → World → Prop) (i : Nat) (o : Oper) : Prop :=
  ∀ (a : Act) (v : Nat → Value) (W : World), DepF l v a0 R o a W → Below w.heap.size w W → ∀ K : Act → World → Prop, (∀ x W', Below W.heap.size W W' → R i x W' → K (a.put o.dst x) W') → o.wp P a W K Q
section
variable {P : Program} {Q : Exit → Act → World → Prop}
theorem guardsB_none {ops : Array Oper} (h : (ops.toList.all fun o => o.guard.isNone) = true) (v : Nat → Value) : guardsB ops v = true := by
  unfold guardsB
  refine List.all_eq_true.2 fun i hi => ?_
  have hlt := List.mem_range.1 hi
  have ho : ops[i]? = some ops[i] := Array.getElem?_eq_getElem hlt
  have hg := List.all_eq_true.1 h ops[i] (by simp)
  rw [ho]
  have : ops[i].guard = none := by simpa using hg
  simp [this]
theorem wp_region_free {l : List Oper} {a0 : Act} {id : Nat} {w : World} (R : Nat → Value → World → Prop) (hm : P.follows .mixedOrders = true) (hok : okB l.toArray a0.tmps.size = true) (hng : (l.all fun o => o.guard.isNone) = true)
    (hR : ∀ k x W W', R k x W → Below w.heap.size w W → Below W.heap.size W W' → R k x W') (hsteps : StepsL (StepF P Q l a0 w R) 0 l) (F : (Nat → Value) → Act) (hF : ∀ v, final l.toArray v l.length a0 = F v)
    (hend : ∀ v W, Below w.heap.size w W → (∀ k, k < l.length → R k (v k) W) → Q .normal (F v) W) :
    (Code.region id l.toArray true).wp P Q a0 w := by
  refine wp_region_phased (v0 := fun _ => undef) (C := fun v listed W => Below w.heap.size w W ∧ listed.size = l.length ∧ ∀ k, k < l.length → listed.getD k false = true → R k (v k) W) hm hok (fun v _ _ _ => guardsB_none (by simpa using hng) v) ⟨(Below.refl _ _).drew, by simp, fun k _ h => by rw [getD_rep] at h; cases h⟩ ?_ ?_
  · intro i o hi v listed a W hun hdeps hf hC K hK
    obtain ⟨hb, hsz, hr⟩ := hC
    have hil : l[i]? = some o := by simpa using hi
    have hlt : i < l.length := (List.getElem?_eq_some_iff.1 hil).1
    have hltl : i < listed.size := by omega
    have hD : DepF l v a0 R o a W := ⟨fun k p d hk hp hd => by
        obtain ⟨e, he, hek⟩ := any_in hk
        simp only [Bool.and_eq_true, beq_iff_eq] at hek
        have := hdeps e he hek.2
        rw [hek.1] at this
        exact ⟨hf.yes k p d (by simpa using hp) hd this, hr k (List.getElem?_eq_some_iff.1 hp).1 this⟩,
      fun d hd => hf.no d fun k p hk hp => by
        have hk' : l[k]? = some p := by simpa using hk
        have := List.all_eq_true.1 hd p (List.mem_of_getElem? hk')
        rw [hp] at this
        simp at this⟩
    have hS := StepsL.get hsteps hil
    rw [Nat.zero_add] at hS
    refine hS a v W hD hb K fun x W' hb' hx => ?_
    have hg : ∀ k, (listed.setIfInBounds i true).getD k false = if k = i then true else listed.getD k false := fun k => set_getD _ _ _ hltl
    have hunf : listed.getD i false = false := by
      have : listed[i] = false := by simpa [hltl] using hun
      simp [hltl, this]
    have := hK (fun k => if k = i then x else v k) W' (fun k hk => by
      by_cases e : k = i
      · rw [e, hunf] at hk; cases hk
      · rw [if_neg e]) ⟨hb.trans (hb'.mono hb.size), by simpa using hsz, fun k hk hl => by
        rw [hg] at hl
        by_cases e : k = i
        · rw [if_pos e, e]
          exact hx
        · rw [if_neg e] at hl ⊢
          exact hR k _ W W' (hr k hk hl) hb hb'⟩
    rwa [if_pos rfl] at this
  · intro v listed W hall hC
    obtain ⟨hb, _, hr⟩ := hC
    have := hend v W hb fun k hk => hr k hk (hall k (by simpa using hk))
    rw [← hF v] at this
    simpa using this
end
end Go.Proofs.Ytobdkgmlkchggaa.PhaseG
