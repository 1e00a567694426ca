/- A drawn region without guards in which one operation, that hangs on all ahead of it, may write, and all ahead of it allot memory at most; what stands behind it reads what it yields alone. Each order serves. -/
import Derived.Test.YtikpedkckijioaaPhaseFree
namespace Go.Proofs.Ytikpedkckijioaa.PhaseG
open Phase (any_in StepsL reachB Closed reach_listed)
open Go.RowKit

def StepZ (P : Program) (Q : Exit → Act → World → Prop) (l : List Oper) (a0 : Act) (w : World) (R : Nat → Value → World → Prop) (E : Value → World → Prop) (o : Oper) : Prop :=
  ∀ (a : Act) (v : Nat → Value) (W : World), DepF l v a0 R o a W → Below w.heap.size w W → ∀ K : Act → World → Prop, (∀ x W', E x W' → K (a.put o.dst x) W') → o.wp P a W K Q
def StepT (P : Program) (Q : Exit → Act → World → Prop) (l : List Oper) (z : Nat) (E : Value → World → Prop) (T : Nat → Value → Value → Prop) (i : Nat) (o : Oper) : Prop :=
  ∀ (a : Act) (vz : Value) (W : World), (∀ p d, l[z]? = some p → p.dst = some d → a.tmps.getD d undef = vz) → E vz W → ∀ K : Act → World → Prop, (∀ x, T i vz x → K (a.put o.dst x) W) → o.wp P a W K Q
section
variable {P : Program} {Q : Exit → Act → World → Prop}
theorem wp_region_last {l : List Oper} {a0 : Act} {id : Nat} {w : World} (z f : Nat) (R : Nat → Value → World → Prop) (E : Value → World → Prop) (T : Nat → Value → Value → Prop) (hm : P.follows .mixedOrders = true) (hok : okB l.toArray a0.tmps.size = true) (hng : (l.all fun o => o.guard.isNone) = true)
    (hr : ((List.range z).all fun k => reachB l f z k) = true) (hra : ((List.range l.length).all fun k => !decide (z < k) || reachB l f k z) = true) (hzl : z < l.length)
    (hR : ∀ k x W W', R k x W → Below w.heap.size w W → Below W.heap.size W W' → R k x W') (hs1 : StepsL (StepF P Q l a0 w R) 0 (l.take z)) (hs2 : ∀ o, l[z]? = some o → StepZ P Q l a0 w R E o) (hs3 : StepsL (StepT P Q l z E T) (z + 1) (l.drop (z + 1))) (F : (Nat → Value) → Act) (hF : ∀ v, final l.toArray v l.length a0 = F v)
    (hend : ∀ v W, E (v z) W → (∀ k, z < k → k < l.length → T k (v z) (v k)) → Q .normal (F v) W) :
    (Code.region id l.toArray true).wp P Q a0 w := by
  have hr' : ∀ k, k < z → reachB l f z k = true := fun k hk => List.all_eq_true.1 hr k (List.mem_range.2 hk)
  have hra' : ∀ k, z < k → k < l.length → reachB l f k z = true := fun k hk hl => by
    have := List.all_eq_true.1 hra k (List.mem_range.2 hl)
    simpa [hk] using this
  refine wp_region_phased (v0 := fun _ => undef) (C := fun v listed W => listed.size = l.length ∧ Closed l listed ∧ (listed.getD z false = false → Below w.heap.size w W ∧ ∀ k, k < z → listed.getD k false = true → R k (v k) W) ∧ (listed.getD z false = true → E (v z) W ∧ ∀ k, z < k → k < l.length → listed.getD k false = true → T k (v z) (v k))) hm hok (fun v _ _ _ => guardsB_none (by simpa using hng) v) ⟨by simp, fun x o _ h => (by rw [getD_rep] at h; cases h), fun _ => ⟨(Below.refl _ _).drew, fun k _ h => (by rw [getD_rep] at h; cases h)⟩, fun h => (by rw [getD_rep] at h; cases h)⟩ ?_ ?_
  · intro i o hi v listed a W hun hdeps hf hC K hK
    obtain ⟨hsz, hcl, hc1, hc2⟩ := hC
    have hil : l[i]? = some o := by simpa using hi
    have hlt : i < l.length := (List.getElem?_eq_some_iff.1 hil).1
    have hltl : i < listed.size := by omega
    have hunf : listed.getD i false = false := by
      have : listed[i] = false := by simpa [hltl] using hun
      simp [hltl, this]
    have hg : ∀ k, (listed.setIfInBounds i true).getD k false = if k = i then true else listed.getD k false := fun k => set_getD _ _ _ hltl
    have hdo : ∀ o', l[i]? = some o' → ∀ e ∈ o'.after, Region.binds .any e = true → listed.getD e.on false = true := fun o' ho' => by
      rw [hil] at ho'
      injection ho' with ho'
      subst ho'
      exact hdeps
    have hcl' : Closed l (listed.setIfInBounds i true) := fun x o' ho' hx e he hb => by
      rw [hg] at hx ⊢
      by_cases hxi : x = i
      · subst hxi
        have := hdo o' ho' e he hb
        split
        · rfl
        · exact this
      · rw [if_neg hxi] at hx
        have := hcl x o' ho' hx e he hb
        split
        · rfl
        · exact this
    have hvk : ∀ (x : Value) (k : Nat), listed.getD k false = true → (fun k => if k = i then x else v k) k = v k := fun x k hk => by
      by_cases e : k = i
      · rw [e, hunf] at hk; cases hk
      · exact if_neg e
    cases hzl' : listed.getD z false with
    | false =>
      obtain ⟨hb, hRk⟩ := hc1 hzl'
      have hle : i ≤ z := Nat.le_of_not_lt fun h => by
        have := reach_listed hcl f i z (hra' i h hlt) hdo
        rw [hzl'] at this
        cases this
      have hkz : ∀ k p, l[k]? = some p → listed.getD k false = true → k < z := fun k p hk hl => by
        rcases Nat.lt_trichotomy k z with h | h | h
        · exact h
        · rw [h, hzl'] at hl; cases hl
        · have := reach_listed hcl f k z (hra' k h (List.getElem?_eq_some_iff.1 hk).1) (fun o' ho' e he hb' => hcl k o' ho' hl e he hb')
          rw [hzl'] at this
          cases this
      have hD : DepF l v a0 R o a W := ⟨fun k p d hk hp hd => by
          obtain ⟨e, he, hek⟩ := any_in hk
          simp only [Bool.and_eq_true, beq_iff_eq] at hek
          have := hdeps e he hek.2
          rw [hek.1] at this
          exact ⟨hf.yes k p d (by simpa using hp) hd this, hRk k (hkz k p hp this) this⟩,
        fun d hd => hf.no d fun k p hk hp => by
          have hk' : l[k]? = some p := by simpa using hk
          have := List.all_eq_true.1 hd p (List.mem_of_getElem? hk')
          rw [hp] at this
          simp at this⟩
      rcases Nat.lt_or_eq_of_le hle with hi2 | rfl
      · have hS := StepsL.get hs1 (show (l.take z)[i]? = some o by rw [List.getElem?_take_of_lt hi2]; exact hil)
        rw [Nat.zero_add] at hS
        refine hS a v W hD hb K fun x W' hb' hx => ?_
        have hzi : (listed.setIfInBounds i true).getD z false = false := by rw [hg, if_neg (by omega)]; exact hzl'
        have := hK (fun k => if k = i then x else v k) W' (fun k hk => hvk x k hk) ⟨by simpa using hsz, hcl', fun _ => ⟨hb.trans (hb'.mono hb.size), fun k hk hl => by
          rw [hg] at hl
          by_cases e : k = i
          · rw [if_pos e, e]
            exact hx
          · rw [if_neg e] at hl ⊢
            exact hR k _ W W' (hRk k hk hl) hb hb'⟩, fun h => (by rw [hzi] at h; cases h)⟩
        rwa [if_pos rfl] at this
      · refine hs2 o hil a v W hD hb K fun x W' hx => ?_
        have hzi : (listed.setIfInBounds i true).getD i false = true := by rw [hg, if_pos rfl]
        have := hK (fun k => if k = i then x else v k) W' (fun k hk => hvk x k hk) ⟨by simpa using hsz, hcl', fun h => (by rw [hzi] at h; cases h), fun _ => ⟨by rw [if_pos rfl]; exact hx, fun k hk hkl hl => by
          rw [hg, if_neg (by omega)] at hl
          have hp := List.getElem?_eq_getElem hkl
          have := hkz k _ hp hl
          omega⟩⟩
        rwa [if_pos rfl] at this
    | true =>
      obtain ⟨hE, hTk⟩ := hc2 hzl'
      have hgt : z < i := by
        rcases Nat.lt_trichotomy i z with h | h | h
        · have := reach_listed hcl f z i (hr' i h) (fun o' ho' e he hb' => hcl z o' ho' hzl' e he hb')
          rw [hunf] at this
          cases this
        · rw [h, hzl'] at hunf; cases hunf
        · exact h
      have hS := StepsL.get hs3 (show (l.drop (z + 1))[i - (z + 1)]? = some o by rw [List.getElem?_drop, show z + 1 + (i - (z + 1)) = i by omega]; exact hil)
      rw [show z + 1 + (i - (z + 1)) = i by omega] at hS
      refine hS a (v z) W (fun p d hp hd => hf.yes z p d (by simpa using hp) hd hzl') hE K fun x hx => ?_
      have hzi : (listed.setIfInBounds i true).getD z false = true := by rw [hg, if_neg (by omega)]; exact hzl'
      have := hK (fun k => if k = i then x else v k) W (fun k hk => hvk x k hk) ⟨by simpa using hsz, hcl', fun h => (by rw [hzi] at h; cases h), fun _ => ⟨by rw [if_neg (by omega)]; exact hE, fun k hk hkl hl => by
        rw [hg] at hl
        rw [if_neg (show ¬ z = i by omega)]
        by_cases e : k = i
        · rw [if_pos e, e]
          exact hx
        · rw [if_neg e] at hl ⊢
          exact hTk k hk hkl hl⟩⟩
      rwa [if_pos rfl] at this
  · intro v listed W hall hC
    obtain ⟨hsz, hcl, hc1, hc2⟩ := hC
    obtain ⟨hE, hT⟩ := hc2 (hall z (by simpa using hzl))
    have := hend v W hE fun k hk hkl => hT k hk hkl (hall k (by simpa using hkl))
    rw [← hF v] at this
    simpa using this
end
end Go.Proofs.Ytikpedkckijioaa.PhaseG
