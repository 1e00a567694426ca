/- A drawn region whose writing operations stand in a line: each waits, over others maybe, for the one before. So the world is known at whatever moment by how many of them are done. -/
import Derived.Test.YtephciglcikllaaPhase
namespace Go.Proofs.Ytephciglcikllaa.Phase

/-- Does operation x wait for operation i, over others maybe? -/
def reachB (l : List Oper) : Nat → Nat → Nat → Bool
  | 0, _, _ => false
  | f + 1, x, i => match l[x]? with
    | some o => o.after.any fun e => Region.binds .any e && (e.on == i || reachB l f e.on i)
    | none => false
def Closed (l : List Oper) (listed : Array Bool) : Prop := ∀ x o, l[x]? = some o → listed.getD x false = true → ∀ e ∈ o.after, Region.binds .any e = true → listed.getD e.on false = true
theorem any_in {α : Type} {p : α → Bool} {xs : Array α} (h : xs.any p = true) : ∃ a, a ∈ xs ∧ p a = true := by
  obtain ⟨i, hi, h⟩ := Array.any_eq_true.1 h
  exact ⟨xs[i], Array.getElem_mem hi, h⟩
theorem reach_listed {l : List Oper} {listed : Array Bool} (hc : Closed l listed) : ∀ (f x i : Nat), reachB l f x i = true → (∀ o, l[x]? = some o → ∀ e ∈ o.after, Region.binds .any e = true → listed.getD e.on false = true) → listed.getD i false = true
  | 0, _, _, h, _ => by cases h
  | f + 1, x, i, h, hx => by
    unfold reachB at h
    cases ho : l[x]? with
    | none => rw [ho] at h; cases h
    | some o =>
      rw [ho] at h
      obtain ⟨e, he, hh⟩ := any_in h
      rw [Bool.and_eq_true, Bool.or_eq_true] at hh
      have h1 := hx o ho e he hh.1
      rcases hh.2 with h2 | h2
      · rw [beq_iff_eq] at h2
        rw [← h2]
        exact h1
      · exact reach_listed hc f e.on i h2 (fun o' ho' e' he' hb' => hc e.on o' ho' h1 e' he' hb')
def StepsL (R : Nat → Oper → Prop) : Nat → List Oper → Prop
  | _, [] => True
  | i, o :: l => R i o ∧ StepsL R (i + 1) l
theorem StepsL.get {R : Nat → Oper → Prop} : ∀ {l : List Oper} {i k : Nat} {o : Oper}, StepsL R i l → l[k]? = some o → R (i + k) o
  | [], _, _, _, _, h => by simp at h
  | p :: l, i, 0, o, hs, h => by
    simp at h
    subst h
    exact hs.1
  | p :: l, i, k + 1, o, hs, h => by
    have := StepsL.get hs.2 (by simpa using h)
    rwa [show i + 1 + k = i + (k + 1) by omega] at this
theorem stepsL_cons {R : Nat → Oper → Prop} {i : Nat} {o : Oper} {l : List Oper} (h : R i o) (hs : StepsL R (i + 1) l) : StepsL R i (o :: l) := ⟨h, hs⟩
theorem stepsL_nil {R : Nat → Oper → Prop} {i : Nat} : StepsL R i [] := trivial
/-- What the frame holds when operation o may come up. -/
structure DepL (l : List Oper) (v : Nat → Value) (a0 : Act) (o : Oper) (a : Act) : Prop where
  done_ : ∀ (k : Nat) (p : Oper) (d : Nat), (o.after.any fun e => e.on == k && Region.binds .any e) = true → l[k]? = some p → p.dst = some d → a.tmps.getD d undef = v k
  kept : ∀ d, (l.all fun p => p.dst != some d) = true → a.tmps.getD d undef = a0.tmps.getD d undef
/-- What one operation must do, with s writing operations done. -/
def StepAt (P : Program) (Q : Exit → Act → World → Prop) (l : List Oper) (v : Nat → Value) (a0 : Act) (wr : List Nat) (Ws : Nat → World) (f : Nat) (i : Nat) (o : Oper) : Prop :=
  ∀ (a : Act) (s : Nat), s ≤ wr.length → DepL l v a0 o a → (∀ k : Nat, wr[k]? = some i → s = k) → (∀ k x : Nat, wr[k]? = some x → reachB l f x i = true → s ≤ k) → (∀ k x : Nat, wr[k]? = some x → reachB l f i x = true → k < s) →
    ∀ K : Act → World → Prop, (∀ s', ((∀ k : Nat, wr[k]? ≠ some i) → s' = s) → (∀ k : Nat, wr[k]? = some i → s' = s + 1) → K (a.put o.dst (v i)) (Ws s')) → o.wp P a (Ws s) K Q
section
variable {P : Program} {Q : Exit → Act → World → Prop}
theorem wp_region_line {l : List Oper} (v : Nat → Value) {a0 : Act} {id : Nat} {w : World} (wr : List Nat) (Ws : Nat → World) (f : Nat) (hm : P.follows .mixedOrders = true) (hok : okB l.toArray a0.tmps.size = true)
    (h0 : Ws 0 = { w with drawn := w.drawn + 1 }) (hin : ∀ k x : Nat, wr[k]? = some x → x < l.length) (hchain : ∀ k x y : Nat, wr[k]? = some x → wr[k + 1]? = some y → reachB l f y x = true)
    (hsteps : StepsL (StepAt P Q l v a0 wr Ws f) 0 l) (F : Act) (hF : final l.toArray v l.length a0 = F) (hend : Q .normal F (Ws wr.length)) :
    (Code.region id l.toArray true).wp P Q a0 w := by
  refine wp_region_phased (v := v) (C := fun listed W => ∃ s, s ≤ wr.length ∧ W = Ws s ∧ (∀ k x : Nat, wr[k]? = some x → (listed.getD x false = true ↔ k < s)) ∧ Closed l listed ∧ listed.size = l.length) hm hok ⟨0, Nat.zero_le _, h0.symm, fun k x _ => ?_, fun x o _ h => ?_, by simp⟩ ?_ ?_
  · rw [getD_rep]
    exact ⟨fun h => (nomatch h), fun h => absurd h (Nat.not_lt_zero _)⟩
  · rw [getD_rep] at h; cases h
  · intro i o hi listed a W hun hdeps hf hC K hK
    obtain ⟨s, hs, rfl, hfl, hcl, hsz⟩ := hC
    have hil : l[i]? = some o := by simpa using hi
    have hlt : i < l.length := (List.getElem?_eq_some_iff.1 hil).1
    have hltl : i < listed.size := by omega
    have hunf : listed.getD i false = false := by
      have : listed[i] = false := by simpa [hltl] using hun
      simp [hltl, this]
    have hD : DepL l v a0 o a := ⟨fun k p d hk hp hd => by
        obtain ⟨e, he, hek⟩ := any_in hk
        simp only [Bool.and_eq_true, beq_iff_eq] at hek
        have := hdeps e he hek.2
        rw [hek.1] at this
        exact hf.yes k p d (by simpa using hp) hd this,
      fun d hd => hf.no d fun k p hk hp => by
        have hk' : l[k]? = some p := by simpa using hk
        have := List.all_eq_true.1 hd p (List.mem_of_getElem? hk')
        rw [hp] at this
        simp at this⟩
    have hdo : ∀ o', l[i]? = some o' → ∀ e ∈ o'.after, Region.binds .any e = true → listed.getD e.on false = true := fun o' ho' => by
      rw [hil] at ho'
      injection ho' with ho'
      subst ho'
      exact hdeps
    have hat : ∀ k : Nat, wr[k]? = some i → s = k := fun k hk => by
      have h1 : ¬ k < s := fun h => by rw [(hfl k i hk).2 h] at hunf; cases hunf
      cases k with
      | zero => omega
      | succ k =>
        have hk' : k < wr.length := by have := (List.getElem?_eq_some_iff.1 hk).1; omega
        have hx := List.getElem?_eq_getElem hk'
        have h2 := reach_listed hcl f i _ (hchain k _ i hx hk) hdo
        have h3 := (hfl k _ hx).1 h2
        omega
    have hS := StepsL.get hsteps hil
    rw [Nat.zero_add] at hS
    refine hS a s hs hD hat (fun k x hk hr => ?_) (fun k x hk hr => (hfl k x hk).1 (reach_listed hcl f i x hr hdo)) K fun s' hs1 hs2 => hK _ ?_
    · refine Nat.le_of_not_lt fun h => ?_
      have hx := (hfl k x hk).2 h
      have := reach_listed hcl f x i hr (fun o' ho' e he hb => hcl x o' ho' hx e he hb)
      rw [this] at hunf
      cases hunf
    · have hg : ∀ k, (listed.setIfInBounds i true).getD k false = if k = i then true else listed.getD k false := fun k => set_getD _ _ _ hltl
      have hcl' : Closed l (listed.setIfInBounds i true) := by
        intro x o' ho' hx e he hb
        rw [hg]
        split
        · rfl
        · rw [hg] at hx
          split at hx
          · next hxi => subst hxi; exact hdo o' ho' e he hb
          · exact hcl x o' ho' hx e he hb
      by_cases hw : ∃ k : Nat, wr[k]? = some i
      · obtain ⟨k, hk⟩ := hw
        have hsk := hat k hk
        have hs' := hs2 k hk
        have hkl := (List.getElem?_eq_some_iff.1 hk).1
        refine ⟨s', by omega, rfl, fun j x hj => ?_, hcl', by simpa using hsz⟩
        rw [hg]
        split
        · next hxi =>
          subst hxi
          have := hat j hj
          exact ⟨fun _ => (by omega), fun _ => rfl⟩
        · next hxi =>
          rw [hfl j x hj]
          have : j ≠ s := fun e => by
            rw [e, hsk, hk] at hj
            injection hj with hj
            exact hxi hj.symm
          constructor <;> intro h <;> omega
      · have hs' := hs1 fun k hk => hw ⟨k, hk⟩
        subst hs'
        refine ⟨s', hs, rfl, fun j x hj => ?_, hcl', by simpa using hsz⟩
        rw [hg]
        split
        · next hxi => exact absurd ⟨j, hxi ▸ hj⟩ hw
        · exact hfl j x hj
  · intro listed W hall hC
    obtain ⟨s, hs, rfl, hfl, _, hsz⟩ := hC
    have : s = wr.length := by
      refine Nat.le_antisymm hs (Nat.le_of_not_lt fun h => ?_)
      have hx := List.getElem?_eq_getElem h
      have h1 := (hfl s _ hx).1 (hall _ (by simpa using hin s _ hx))
      omega
    subst this
    rw [← hF] at hend
    simpa using hend
end
end Go.Proofs.Ytephciglcikllaa.Phase
