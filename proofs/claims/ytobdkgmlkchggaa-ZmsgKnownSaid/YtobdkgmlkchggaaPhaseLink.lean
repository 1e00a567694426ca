/- As PhaseOwn, and what an operation yields may hang on what it took up. -/
import Derived.Test.YtobdkgmlkchggaaPhaseOwn
namespace Go.Proofs.Ytobdkgmlkchggaa.PhaseG
open Phase (any_in StepsL)
open Go.RowKit
open Disk (Out)

def StepK (P : Program) (Q : Exit → Act → World → Prop) (l : List Oper) (a0 : Act) (w : World) (con : Nat → Option Nat) (R : Nat → Value → World → Prop) (O : Nat → Value → Nat → Prop) (L : Nat → Value → Value → Prop) (i : Nat) (o : Oper) : Prop :=
  ∀ (a : Act) (v : Nat → Value) (W : World), DepO l v a0 con R i o a W → Below w.heap.size w W → ∀ K : Act → World → Prop, (∀ x W', Out (Took con O v i) W W' → R i x W' → (∀ k, con i = some k → L i (v k) x) → (∀ b, O i x b → b < W'.heap.size ∧ (W.heap.size ≤ b ∨ Took con O v i b)) → K (a.put o.dst x) W') → o.wp P a W K Q
section
variable {P : Program} {Q : Exit → Act → World → Prop}
theorem wp_region_link {l : List Oper} {a0 : Act} {id : Nat} {w : World} (con : Nat → Option Nat) (R : Nat → Value → World → Prop) (O : Nat → Value → Nat → Prop) (L : Nat → Value → Value → Prop) (hm : P.follows .mixedOrders = true) (hok : okB l.toArray a0.tmps.size = true) (hng : (l.all fun o => o.guard.isNone) = true) (hcon : conB l con = true)
    (hR : ∀ k x (Z : Nat → Prop) W W', R k x W → Below w.heap.size w W → Out Z W W' → (∀ b, Z b → w.heap.size ≤ b) → (∀ b, Z b → ∃ k' x', R k' x' W ∧ O k' x' b) → (∀ b, O k x b → ¬ Z b) → R k x W') (hsteps : StepsL (StepK P Q l a0 w con R O L) 0 l) (F : (Nat → Value) → Act) (hF : ∀ v, final l.toArray v l.length a0 = F v)
    (hend : ∀ v W, Below w.heap.size w W → (∀ k, k < l.length → (∀ j, j < l.length → con j ≠ some k) → R k (v k) W) → (∀ i k, i < l.length → con i = some k → L i (v k) (v i)) → Q .normal (F v) W) :
    (Code.region id l.toArray true).wp P Q a0 w := by
  refine wp_region_phased (v0 := fun _ => undef) (C := fun v listed W => Below w.heap.size w W ∧ listed.size = l.length ∧ (∀ k, Lies l con listed k → R k (v k) W ∧ ∀ b, O k (v k) b → w.heap.size ≤ b ∧ b < W.heap.size) ∧ (∀ j k b, Lies l con listed j → Lies l con listed k → j ≠ k → O j (v j) b → ¬ O k (v k) b) ∧ (∀ i k, listed.getD i false = true → con i = some k → i < l.length → L i (v k) (v i)) ∧ Phase.Closed l listed) hm hok (fun v _ _ _ => guardsB_none (by simpa using hng) v) ⟨(Below.refl _ _).drew, by simp, (fun k h => by have := h.2.1; rw [getD_rep] at this; cases this), (fun j k b h => by have := h.2.1; rw [getD_rep] at this; cases this), (fun i k h => by rw [getD_rep] at h; cases h), (fun x o _ h => by rw [getD_rep] at h; cases h)⟩ ?_ ?_
  · intro i o hi v listed a W hun hdeps hf hC K hK
    obtain ⟨hb, hsz, hr, hdis, hlk, hcl⟩ := hC
    have hil : l[i]? = some o := by simpa using hi
    have hlt : i < l.length := (List.getElem?_eq_some_iff.1 hil).1
    have hltl : i < listed.size := by omega
    have hunf : listed.getD i false = false := by
      have : listed[i] = false := by simpa [hltl] using hun
      simp [hltl, this]
    have hlies : ∀ k, k < l.length → (o.after.any fun e => e.on == k && Region.binds .any e) = true → ((List.range l.length).all fun j => con j != some k || j == i) = true → Lies l con listed k := fun k hkl hk hone => by
      obtain ⟨e, he, hek⟩ := any_in hk
      simp only [Bool.and_eq_true, beq_iff_eq] at hek
      have := hdeps e he hek.2
      rw [hek.1] at this
      refine ⟨hkl, this, fun j hj hc => ?_⟩
      rw [one_spec hone hj hc]
      exact hunf
    have hD : DepO l v a0 con R i o a W := ⟨fun k p d hk hp hd hone => by
        have hL := hlies k (List.getElem?_eq_some_iff.1 hp).1 hk hone
        exact ⟨hf.yes k p d (by simpa using hp) hd hL.2.1, (hr k hL).1⟩,
      fun d hd => hf.no d fun k p hk hp => by
        have hk' : l[k]? = some p := by simpa using hk
        have := List.all_eq_true.1 hd p (List.mem_of_getElem? hk')
        rw [hp] at this
        simp at this⟩
    have hS := StepsL.get hsteps hil
    rw [Nat.zero_add] at hS
    refine hS a v W hD hb K fun x W' hb' hx hlx hox => ?_
    have htook : ∀ b, Took con O v i b → w.heap.size ≤ b ∧ b < W.heap.size := fun b ⟨k, hc, hob⟩ => by
      have hdep := conB_dep hcon hil hc
      obtain ⟨e, he, hek⟩ := any_in hdep
      simp only [Bool.and_eq_true, beq_iff_eq] at hek
      have hon := (okB_spec hok hi).2.1 e he hek.2
      exact (hr k (hlies k (by omega) hdep (conB_one hcon hlt hc))).2 b hob
    have htook2 : ∀ b, Took con O v i b → ∃ k' x', R k' x' W ∧ O k' x' b := fun b ⟨k, hc, hob⟩ => by
      have hdep := conB_dep hcon hil hc
      obtain ⟨e, he, hek⟩ := any_in hdep
      simp only [Bool.and_eq_true, beq_iff_eq] at hek
      have hon := (okB_spec hok hi).2.1 e he hek.2
      exact ⟨k, v k, (hr k (hlies k (by omega) hdep (conB_one hcon hlt hc))).1, hob⟩
    have hg : ∀ k, (listed.setIfInBounds i true).getD k false = if k = i then true else listed.getD k false := fun k => set_getD _ _ _ hltl
    have hold : ∀ k, Lies l con (listed.setIfInBounds i true) k → k ≠ i → Lies l con listed k ∧ con i ≠ some k := fun k hL e => by
      have h2 := hL.2.1
      rw [hg, if_neg e] at h2
      refine ⟨⟨hL.1, h2, fun j hj hc => ?_⟩, fun hc => ?_⟩
      · have h3 := hL.2.2 j hj hc
        rw [hg] at h3
        split at h3
        · cases h3
        · exact h3
      · have h3 := hL.2.2 i hlt hc
        rw [hg, if_pos rfl] at h3
        cases h3
    have hnt : ∀ k, Lies l con listed k → con i ≠ some k → ∀ b, O k (v k) b → ¬ Took con O v i b := fun k hL hne b hob ⟨k', hc, hob'⟩ => by
      have hdep := conB_dep hcon hil hc
      obtain ⟨e, he, hek⟩ := any_in hdep
      simp only [Bool.and_eq_true, beq_iff_eq] at hek
      have hon := (okB_spec hok hi).2.1 e he hek.2
      exact hdis k k' b hL (hlies k' (by omega) hdep (conB_one hcon hlt hc)) (fun e => hne (e ▸ hc)) hob hob'
    have := hK (fun k => if k = i then x else v k) W' (fun k hk => by
      by_cases e : k = i
      · rw [e, hunf] at hk; cases hk
      · rw [if_neg e]) ⟨hb'.below hb (fun b h => (htook b h).1) hb.size, by simpa using hsz, fun k hL => by
        by_cases e : k = i
        · rw [if_pos e, e]
          refine ⟨hx, fun b hob => ⟨?_, (hox b hob).1⟩⟩
          rcases (hox b hob).2 with h | h
          · exact Nat.le_trans hb.size h
          · exact (htook b h).1
        · rw [if_neg e]
          obtain ⟨hL', hne⟩ := hold k hL e
          obtain ⟨r1, r2⟩ := hr k hL'
          exact ⟨hR k _ _ W W' r1 hb hb' (fun b h => (htook b h).1) htook2 (hnt k hL' hne), fun b hob => ⟨(r2 b hob).1, Nat.lt_of_lt_of_le (r2 b hob).2 hb'.size⟩⟩, fun j k b hj hk hjk h1 h2 => by
        by_cases ej : j = i
        · by_cases ek : k = i
          · exact hjk (ej.trans ek.symm)
          · rw [if_pos ej] at h1
            rw [if_neg ek] at h2
            rw [ej] at h1
            obtain ⟨hL', hne⟩ := hold k hk ek
            rcases (hox b h1).2 with h | h
            · have := ((hr k hL').2 b h2).2
              omega
            · exact hnt k hL' hne b h2 h
        · rw [if_neg ej] at h1
          obtain ⟨hL', hne⟩ := hold j hj ej
          by_cases ek : k = i
          · rw [if_pos ek, ek] at h2
            rcases (hox b h2).2 with h | h
            · have := ((hr j hL').2 b h1).2
              omega
            · exact hnt j hL' hne b h1 h
          · rw [if_neg ek] at h2
            exact hdis j k b hL' (hold k hk ek).1 hjk h1 h2, fun j k hj hc hjl => by
        have hki : k ≠ i := fun e => by
          have hdep := conB_dep hcon (List.getElem?_eq_getElem hjl) hc
          obtain ⟨e1, he, hek⟩ := any_in hdep
          simp only [Bool.and_eq_true, beq_iff_eq] at hek
          by_cases ej : j = i
          · subst ej
            have hjo : l[j]? = some l[j] := List.getElem?_eq_getElem hjl
            rw [hil] at hjo
            injection hjo with hjo
            have := hdeps e1 (hjo ▸ he) hek.2
            rw [hek.1, e, hunf] at this
            cases this
          · rw [hg, if_neg ej] at hj
            have := hcl j _ (List.getElem?_eq_getElem hjl) hj e1 he hek.2
            rw [hek.1, e, hunf] at this
            cases this
        by_cases ej : j = i
        · subst ej
          rw [if_pos rfl, if_neg hki]
          exact hlx k hc
        · rw [hg, if_neg ej] at hj
          rw [if_neg ej, if_neg hki]
          exact hlk j k hj hc hjl, fun j o' hj' hj e1 he hbd => by
        rw [hg]
        by_cases eon : e1.on = i
        · rw [if_pos eon]
        · rw [if_neg eon]
          by_cases ej : j = i
          · subst ej
            rw [hil] at hj'
            injection hj' with hj'
            subst hj'
            exact hdeps e1 he hbd
          · rw [hg, if_neg ej] at hj
            exact hcl j o' hj' hj e1 he hbd⟩
    rwa [if_pos rfl] at this
  · intro v listed W hall hC
    obtain ⟨hb, _, hr, _, hlk, _⟩ := hC
    have := hend v W hb (fun k hk hc => (hr k ⟨hk, hall k (by simpa using hk), fun j hj h => absurd h (hc j hj)⟩).1) fun i k hi hc => hlk i k (hall i (by simpa using hi)) hc hi
    rw [← hF v] at this
    simpa using this
/-- A whole struct is stored into its block. -/
theorem wp_store_blk {w : World} {o : Oper} {a : Act} {K : Act → World → Prop} (ty : TypeId) (x y : Operand) (ho : o.op = .store ty x y) {g : Nat} {t : TypeId} {old cells : Array Value} (hx : a.eval x = .pointer (some ⟨g, 0, none⟩)) (hy : a.eval y = .agg cells) (hb : Bk w g t old)
    (hi : (P.info? ty).map (·.size) = some cells.size) (hold : old.size = cells.size) (h1 : cells.all (·.oneCell') = true) (h : ∀ W', Bk W' g t cells → Out (fun k => k = g) w W' → K (a.put o.dst undef) W') : o.wp P a w K Q := by
  have hk := h (w.setRow g cells) (setRow_heap w g old cells t (0, 0) hb) ⟨rfl, rfl, rfl, by simp [World.setRow], fun k _ hk => setRow_other w g k cells hk⟩
  exact wp_store_row ty x y ho g cells hx hy t old hb hi hold h1 hk
end
end Go.Proofs.Ytobdkgmlkchggaa.PhaseG
