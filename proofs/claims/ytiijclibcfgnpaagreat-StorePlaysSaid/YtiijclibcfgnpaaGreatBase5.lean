/- Lemmas, part 5: Phase, PhaseLine, DiskWrite -/
import Derived.Orders
import Derived.RegionTactic
import Derived.KernelRfl
import Derived.Test.YtiijclibcfgnpaaGreatBase4
import Derived.Great.BuildSlice
import Derived.Deep.AppendLies
namespace Go.Proofs.YtiijclibcfgnpaaGreat.Phase

section
variable {P : Program} {ops : Array Oper} {md : Region.Mode} {Q : Exit → Act → World → Prop}

def okB (ops : Array Oper) (n : Nat) : Bool :=
  (List.range ops.size).all fun i => match ops[i]? with
    | none => false
    | some o => o.guard.isNone && ((o.after.all fun e => decide (e.on < i)) && (match o.dst with
      | none => true
      | some d => decide (d < n) && (List.range ops.size).all fun k => k == i || match ops[k]? with
        | none => true
        | some p => p.dst != some d))

theorem okB_spec {n : Nat} (h : okB ops n = true) {i : Nat} {o : Oper} (hi : ops[i]? = some o) :
    o.guard = none ∧ (∀ e ∈ o.after, e.on < i) ∧ ∀ d, o.dst = some d → d < n ∧ ∀ k p, ops[k]? = some p → p.dst = some d → k = i := by
  have hlt : i < ops.size := (Array.getElem?_eq_some_iff.1 hi).1
  have h1 := List.all_eq_true.1 h i (List.mem_range.2 hlt)
  simp only [hi, Bool.and_eq_true] at h1
  obtain ⟨h2, h3, h4⟩ := h1
  refine ⟨by simpa using h2, fun e he => of_decide_eq_true (Array.all_eq_true_iff_forall_mem.1 h3 e he), fun d hd => ?_⟩
  rw [hd] at h4
  simp only [Bool.and_eq_true] at h4
  refine ⟨of_decide_eq_true h4.1, fun k p hk hp => ?_⟩
  have hkl : k < ops.size := (Array.getElem?_eq_some_iff.1 hk).1
  have h5 := List.all_eq_true.1 h4.2 k (List.mem_range.2 hkl)
  simp only [hk, hp, Bool.or_eq_true, beq_iff_eq] at h5
  rcases h5 with h5 | h5
  · exact h5
  · simp at h5

structure Fits (ops : Array Oper) (v : Nat → Value) (a0 : Act) (listed : Array Bool) (a : Act) : Prop where
  defers : a.defers = a0.defers
  size : a.tmps.size = a0.tmps.size
  yes : ∀ k o d, ops[k]? = some o → o.dst = some d → listed.getD k false = true → a.tmps.getD d undef = v k
  no : ∀ d, (∀ k o, ops[k]? = some o → o.dst = some d → listed.getD k false = false) → a.tmps.getD d undef = a0.tmps.getD d undef

theorem getD_rep (n k : Nat) : (Array.replicate n false).getD k false = false := by
  by_cases h : k < n <;> simp [h]
theorem Fits.start (v : Nat → Value) (a0 : Act) : Fits ops v a0 (Array.replicate ops.size false) a0 :=
  ⟨rfl, rfl, (fun k o d _ _ h => by rw [getD_rep] at h; cases h), fun _ _ => rfl⟩
theorem put_getD (a : Act) (d : Nat) (v : Value) (e : Nat) (h : d < a.tmps.size) : (a.put (some d) v).tmps.getD e undef = if e = d then v else a.tmps.getD e undef := by
  unfold Act.put
  by_cases he : e = d
  · subst he; simp [h]
  · rw [if_neg he]
    simp only [Array.getD_eq_getD_getElem?]
    rw [Array.getElem?_setIfInBounds_ne (fun h => he h.symm)]
theorem set_getD (l : Array Bool) (i k : Nat) (h : i < l.size) : (l.setIfInBounds i true).getD k false = if k = i then true else l.getD k false := by
  by_cases he : k = i
  · subst he; simp [h]
  · rw [if_neg he]
    simp only [Array.getD_eq_getD_getElem?]
    rw [Array.getElem?_setIfInBounds_ne (fun h => he h.symm)]
theorem Fits.put {v : Nat → Value} {a0 a : Act} {listed : Array Bool} {i : Nat} {o : Oper} (hok : okB ops a0.tmps.size = true) (hi : ops[i]? = some o) (hl : listed.size = ops.size) (h : Fits ops v a0 listed a) :
    Fits ops v a0 (listed.setIfInBounds i true) (a.put o.dst (v i)) := by
  have hlt : i < listed.size := by rw [hl]; exact (Array.getElem?_eq_some_iff.1 hi).1
  obtain ⟨_, _, hd⟩ := okB_spec hok hi
  cases hdst : o.dst with
  | none =>
    refine ⟨h.defers, h.size, fun k p d hk hp hlk => ?_, fun d hn => ?_⟩
    · rw [set_getD _ _ _ hlt] at hlk
      by_cases hki : k = i
      · subst hki; rw [hi] at hk; injection hk with hk; subst hk; rw [hdst] at hp; cases hp
      · rw [if_neg hki] at hlk; exact h.yes k p d hk hp hlk
    · refine h.no d fun k p hk hp => ?_
      have := hn k p hk hp
      rw [set_getD _ _ _ hlt] at this
      by_cases hki : k = i
      · subst hki; rw [if_pos rfl] at this; cases this
      · rwa [if_neg hki] at this
  | some d0 =>
    obtain ⟨hd1, hd2⟩ := hd d0 hdst
    have hd1' : d0 < a.tmps.size := by rw [h.size]; exact hd1
    refine ⟨h.defers, by unfold Act.put; simp [h.size], fun k p d hk hp hlk => ?_, fun d hn => ?_⟩
    · rw [put_getD _ _ _ _ hd1']
      rw [set_getD _ _ _ hlt] at hlk
      by_cases hdd : d = d0
      · subst hdd
        rw [if_pos rfl, hd2 k p hk hp]
      · rw [if_neg hdd]
        by_cases hki : k = i
        · subst hki; rw [hi] at hk; injection hk with hk; subst hk; rw [hdst] at hp; injection hp with hp; exact absurd hp.symm hdd
        · rw [if_neg hki] at hlk; exact h.yes k p d hk hp hlk
    · rw [put_getD _ _ _ _ hd1']
      by_cases hdd : d = d0
      · subst hdd
        have := hn i o hi hdst
        rw [set_getD _ _ _ hlt, if_pos rfl] at this
        cases this
      · rw [if_neg hdd]
        refine h.no d fun k p hk hp => ?_
        have := hn k p hk hp
        rw [set_getD _ _ _ hlt] at this
        by_cases hki : k = i
        · subst hki; rw [if_pos rfl] at this; cases this
        · rwa [if_neg hki] at this
theorem Fits.same {v : Nat → Value} {a0 a b : Act} {la lb : Array Bool} (ha : Fits ops v a0 la a) (hb : Fits ops v a0 lb b) (h1 : ∀ k, k < ops.size → la.getD k false = true) (h2 : ∀ k, k < ops.size → lb.getD k false = true) : a = b := by
  have hs : a.tmps.size = b.tmps.size := by rw [ha.size, hb.size]
  have ht : a.tmps = b.tmps := by
    refine Array.ext hs fun d hd1 hd2 => ?_
    have key : a.tmps.getD d undef = b.tmps.getD d undef := by
      by_cases hex : ∃ (k : Nat) (o : Oper), ops[k]? = some o ∧ o.dst = some d
      · obtain ⟨k, o, hk, ho⟩ := hex
        have hkl := (Array.getElem?_eq_some_iff.1 hk).1
        rw [ha.yes k o d hk ho (h1 k hkl), hb.yes k o d hk ho (h2 k hkl)]
      · rw [ha.no d fun k o hk ho => absurd ⟨k, o, hk, ho⟩ hex, hb.no d fun k o hk ho => absurd ⟨k, o, hk, ho⟩ hex]
    simpa [hd1, hd2] using key
  have hdf : a.defers = b.defers := ha.defers.trans hb.defers.symm
  cases a
  cases b
  simp at ht hdf
  rw [ht, hdf]

def final (ops : Array Oper) (v : Nat → Value) : Nat → Act → Act
  | 0, a => a
  | n + 1, a => (final ops v n a).put ((ops[n]?).bind fun o : Oper => o.dst) (v n)
theorem final_fits (v : Nat → Value) (a0 : Act) (hok : okB ops a0.tmps.size = true) : ∀ n, n ≤ ops.size → ∃ l : Array Bool, l.size = ops.size ∧ (∀ k, k < n → l.getD k false = true) ∧ Fits ops v a0 l (final ops v n a0)
  | 0, _ => ⟨_, by simp, fun k hk => by omega, Fits.start v a0⟩
  | n + 1, hn => by
    obtain ⟨l, h1, h2, h3⟩ := final_fits v a0 hok n (by omega)
    have hi : ops[n]? = some ops[n] := Array.getElem?_eq_getElem (by omega)
    have h4 := Fits.put hok hi h1 h3
    refine ⟨l.setIfInBounds n true, by simp [h1], fun k hk => ?_, ?_⟩
    · rw [set_getD _ _ _ (by omega)]
      by_cases hkn : k = n
      · rw [if_pos hkn]
      · rw [if_neg hkn]; exact h2 k (by omega)
    · show Fits ops v a0 _ ((final ops v n a0).put ((ops[n]?).bind fun o : Oper => o.dst) (v n))
      rw [hi]
      exact h4

def left (l : Array Bool) : Nat := l.toList.countP (· == false)
theorem left_set {l : Array Bool} {i : Nat} (hi : i < l.size) (h : l.getD i true = false) : left (l.setIfInBounds i true) + 1 = left l := by
  unfold left
  have h0 : l[i] = false := by simpa [hi] using h
  have h1 : i < l.toList.length := by simpa using hi
  have h2 : l.toList[i] = false := by simpa using h0
  have h3 : 0 < l.toList.countP (· == false) := List.countP_pos_iff.2 ⟨false, by rw [← h2]; exact List.getElem_mem h1, rfl⟩
  rw [Array.toList_setIfInBounds, List.countP_set h1, h2, if_pos (show (false == false) = true from rfl), if_neg (show ¬ (true == false) = true by decide)]
  omega
theorem left_zero {l : Array Bool} (h : left l = 0) {k : Nat} (hk : k < l.size) : l.getD k false = true := by
  unfold left at h
  have h1 := List.countP_eq_zero.1 h
  have h2 := h1 l[k] (by simp)
  simpa [hk] using h2

theorem left_new (n : Nat) : left (Array.replicate n false) = n := by
  unfold left
  rw [Array.toList_replicate, List.countP_replicate]
  rfl

theorem wpAny_phased {v : Nat → Value} {a0 : Act} {C : Array Bool → World → Prop} (hok : okB ops a0.tmps.size = true)
    (hstep : ∀ (i : Nat) (o : Oper), ops[i]? = some o → ∀ (listed : Array Bool) (a : Act) (W : World), listed.getD i true = false → (∀ e ∈ o.after, Region.binds md e = true → listed.getD e.on false = true) → Fits ops v a0 listed a → C listed W →
      ∀ K : Act → World → Prop, (∀ W', C (listed.setIfInBounds i true) W' → K (a.put o.dst (v i)) W') → o.wp P a W K Q)
    (hend : ∀ (listed : Array Bool) (W : World), (∀ k, k < ops.size → listed.getD k false = true) → C listed W → Q .normal (final ops v ops.size a0) W) :
    ∀ (fuel : Nat) (listed : Array Bool) (a : Act) (W : World), listed.size = ops.size → left listed = fuel → Fits ops v a0 listed a → C listed W → wpAny P md ops Q fuel listed a W := by
  have hall : ∀ (listed : Array Bool) (a : Act) (W : World), listed.size = ops.size → Fits ops v a0 listed a → C listed W → (∀ k, k < ops.size → listed.getD k false = true) → Q .normal a W := by
    intro listed a W hl hf hc hy
    obtain ⟨l, h1, h2, h3⟩ := final_fits v a0 hok ops.size (Nat.le_refl _)
    rw [Fits.same hf h3 hy h2]
    exact hend listed W hy hc
  have hready : ∀ (listed : Array Bool), listed.size = ops.size → Region.ready md ops listed = [] → ∀ k, k < ops.size → listed.getD k false = true := by
    intro listed hl hr k
    induction k using Nat.strongRecOn with
    | _ k ih =>
      intro hk
      have hi : ops[k]? = some ops[k] := Array.getElem?_eq_getElem hk
      obtain ⟨_, ha, _⟩ := okB_spec hok hi
      cases hb : listed.getD k false with
      | true => rfl
      | false =>
        have : k ∈ Region.ready md ops listed := by
          unfold Region.ready
          refine List.mem_filter.2 ⟨List.mem_range.2 hk, ?_⟩
          have hkl : k < listed.size := by omega
          have h0 : listed.getD k true = false := by
            have : listed[k] = false := by simpa [hkl] using hb
            simp [hkl, this]
          rw [h0, hi]
          simp only [Bool.not_false, Bool.true_and, Option.map_some, Option.getD_some]
          refine Array.all_eq_true_iff_forall_mem.2 fun e he => ?_
          rw [ih e.on (ha e he) (Nat.lt_trans (ha e he) hk), Bool.or_true]
        rw [hr] at this
        cases this
  intro fuel
  induction fuel with
  | zero =>
    intro listed a W hl hz hf hc
    have hy : ∀ k, k < ops.size → listed.getD k false = true := fun k hk => left_zero hz (by omega)
    refine ⟨?_, hall listed a W hl hf hc hy⟩
    unfold Region.ready
    refine List.filter_eq_nil_iff.2 fun i hi => ?_
    have hil := List.mem_range.1 hi
    have hil' : i < listed.size := by omega
    have h1 : listed[i] = true := by simpa [hil'] using hy i hil
    simp [hil', h1]
  | succ fuel ih =>
    intro listed a W hl hz hf hc
    refine ⟨fun hr => hall listed a W hl hf hc (hready listed hl hr), fun i hi => ?_⟩
    unfold Region.ready at hi
    obtain ⟨hi1, hi2⟩ := List.mem_filter.1 hi
    have hil := List.mem_range.1 hi1
    have ho : ops[i]? = some ops[i] := Array.getElem?_eq_getElem hil
    rw [ho] at hi2
    simp only [Bool.and_eq_true, Option.map_some, Option.getD_some, Bool.not_eq_true'] at hi2
    obtain ⟨hun, haf⟩ := hi2
    have hdeps : ∀ e ∈ ops[i].after, Region.binds md e = true → listed.getD e.on false = true := fun e he hb => by
      have := Array.all_eq_true_iff_forall_mem.1 haf e he
      rwa [hb, Bool.not_true, Bool.false_or] at this
    have hg := (okB_spec hok ho).1
    refine wpOp_step ho fun K hK => ?_
    have hw : Region.wanted ops[i] (yielded ops a.tmps) = true := by simp [Region.wanted, hg]
    rw [if_pos hw]
    refine hstep i ops[i] ho listed a W hun hdeps hf hc K fun W' hc' => hK _ _ ?_
    exact ih (listed.setIfInBounds i true) (a.put ops[i].dst (v i)) W' (by simp [hl]) (by have := left_set (l := listed) (i := i) (by omega) hun; omega) (Fits.put hok ho hl hf) hc'
theorem wp_region_phased {v : Nat → Value} {a0 : Act} {C : Array Bool → World → Prop} {id : Nat} {w : World} (hm : P.follows .mixedOrders = true) (hok : okB ops a0.tmps.size = true)
    (hC : C (Array.replicate ops.size false) { w with drawn := w.drawn + 1 })
    (hstep : ∀ (i : Nat) (o : Oper), ops[i]? = some o → ∀ (listed : Array Bool) (a : Act) (W : World), listed.getD i true = false → (∀ e ∈ o.after, Region.binds .any e = true → listed.getD e.on false = true) → Fits ops v a0 listed a → C listed W →
      ∀ K : Act → World → Prop, (∀ W', C (listed.setIfInBounds i true) W' → K (a.put o.dst (v i)) W') → o.wp P a W K Q)
    (hend : ∀ (listed : Array Bool) (W : World), (∀ k, k < ops.size → listed.getD k false = true) → C listed W → Q .normal (final ops v ops.size a0) W) :
    (Code.region id ops true).wp P Q a0 w :=
  wp_region_any hm (wpAny_phased hok hstep hend ops.size _ a0 _ (by simp) (left_new ops.size) (Fits.start v a0) hC)
end
end Go.Proofs.YtiijclibcfgnpaaGreat.Phase

namespace Go.Proofs.YtiijclibcfgnpaaGreat.Phase

def reachB (l : List Oper) : Nat → Nat → Nat → Bool
  | 0, _, _ => false
  | f + 1, x, i => match l[x]? with
    | some o => o.after.any fun e => Region.binds .any e && (e.on == i || reachB l f e.on i)
    | none => false
def Closed (l : List Oper) (listed : Array Bool) : Prop := ∀ x o, l[x]? = some o → listed.getD x false = true → ∀ e ∈ o.after, Region.binds .any e = true → listed.getD e.on false = true
theorem any_in {α : Type} {p : α → Bool} {xs : Array α} (h : xs.any p = true) : ∃ a, a ∈ xs ∧ p a = true := by
  obtain ⟨i, hi, h⟩ := Array.any_eq_true.1 h
  exact ⟨xs[i], Array.getElem_mem hi, h⟩
theorem reach_listed {l : List Oper} {listed : Array Bool} (hc : Closed l listed) : ∀ (f x i : Nat), reachB l f x i = true → (∀ o, l[x]? = some o → ∀ e ∈ o.after, Region.binds .any e = true → listed.getD e.on false = true) → listed.getD i false = true
  | 0, _, _, h, _ => by cases h
  | f + 1, x, i, h, hx => by
    unfold reachB at h
    cases ho : l[x]? with
    | none => rw [ho] at h; cases h
    | some o =>
      rw [ho] at h
      obtain ⟨e, he, hh⟩ := any_in h
      rw [Bool.and_eq_true, Bool.or_eq_true] at hh
      have h1 := hx o ho e he hh.1
      rcases hh.2 with h2 | h2
      · rw [beq_iff_eq] at h2
        rw [← h2]
        exact h1
      · exact reach_listed hc f e.on i h2 (fun o' ho' e' he' hb' => hc e.on o' ho' h1 e' he' hb')
def StepsL (R : Nat → Oper → Prop) : Nat → List Oper → Prop
  | _, [] => True
  | i, o :: l => R i o ∧ StepsL R (i + 1) l
theorem StepsL.get {R : Nat → Oper → Prop} : ∀ {l : List Oper} {i k : Nat} {o : Oper}, StepsL R i l → l[k]? = some o → R (i + k) o
  | [], _, _, _, _, h => by simp at h
  | p :: l, i, 0, o, hs, h => by
    simp at h
    subst h
    exact hs.1
  | p :: l, i, k + 1, o, hs, h => by
    have := StepsL.get hs.2 (by simpa using h)
    rwa [show i + 1 + k = i + (k + 1) by omega] at this
theorem stepsL_cons {R : Nat → Oper → Prop} {i : Nat} {o : Oper} {l : List Oper} (h : R i o) (hs : StepsL R (i + 1) l) : StepsL R i (o :: l) := ⟨h, hs⟩
theorem stepsL_nil {R : Nat → Oper → Prop} {i : Nat} : StepsL R i [] := trivial
structure DepL (l : List Oper) (v : Nat → Value) (a0 : Act) (o : Oper) (a : Act) : Prop where
  done_ : ∀ (k : Nat) (p : Oper) (d : Nat), (o.after.any fun e => e.on == k && Region.binds .any e) = true → l[k]? = some p → p.dst = some d → a.tmps.getD d undef = v k
  kept : ∀ d, (l.all fun p => p.dst != some d) = true → a.tmps.getD d undef = a0.tmps.getD d undef
def StepAt (P : Program) (Q : Exit → Act → World → Prop) (l : List Oper) (v : Nat → Value) (a0 : Act) (wr : List Nat) (Ws : Nat → World) (f : Nat) (i : Nat) (o : Oper) : Prop :=
  ∀ (a : Act) (s : Nat), s ≤ wr.length → DepL l v a0 o a → (∀ k : Nat, wr[k]? = some i → s = k) → (∀ k x : Nat, wr[k]? = some x → reachB l f x i = true → s ≤ k) → (∀ k x : Nat, wr[k]? = some x → reachB l f i x = true → k < s) →
    ∀ K : Act → World → Prop, (∀ s', ((∀ k : Nat, wr[k]? ≠ some i) → s' = s) → (∀ k : Nat, wr[k]? = some i → s' = s + 1) → K (a.put o.dst (v i)) (Ws s')) → o.wp P a (Ws s) K Q
section
variable {P : Program} {Q : Exit → Act → World → Prop}
theorem wp_region_line {l : List Oper} (v : Nat → Value) {a0 : Act} {id : Nat} {w : World} (wr : List Nat) (Ws : Nat → World) (f : Nat) (hm : P.follows .mixedOrders = true) (hok : okB l.toArray a0.tmps.size = true)
    (h0 : Ws 0 = { w with drawn := w.drawn + 1 }) (hin : ∀ k x : Nat, wr[k]? = some x → x < l.length) (hchain : ∀ k x y : Nat, wr[k]? = some x → wr[k + 1]? = some y → reachB l f y x = true)
    (hsteps : StepsL (StepAt P Q l v a0 wr Ws f) 0 l) (F : Act) (hF : final l.toArray v l.length a0 = F) (hend : Q .normal F (Ws wr.length)) :
    (Code.region id l.toArray true).wp P Q a0 w := by
  refine wp_region_phased (v := v) (C := fun listed W => ∃ s, s ≤ wr.length ∧ W = Ws s ∧ (∀ k x : Nat, wr[k]? = some x → (listed.getD x false = true ↔ k < s)) ∧ Closed l listed ∧ listed.size = l.length) hm hok ⟨0, Nat.zero_le _, h0.symm, fun k x _ => ?_, fun x o _ h => ?_, by simp⟩ ?_ ?_
  · rw [getD_rep]
    exact ⟨fun h => (nomatch h), fun h => absurd h (Nat.not_lt_zero _)⟩
  · rw [getD_rep] at h; cases h
  · intro i o hi listed a W hun hdeps hf hC K hK
    obtain ⟨s, hs, rfl, hfl, hcl, hsz⟩ := hC
    have hil : l[i]? = some o := by simpa using hi
    have hlt : i < l.length := (List.getElem?_eq_some_iff.1 hil).1
    have hltl : i < listed.size := by omega
    have hunf : listed.getD i false = false := by
      have : listed[i] = false := by simpa [hltl] using hun
      simp [hltl, this]
    have hD : DepL l v a0 o a := ⟨fun k p d hk hp hd => by
        obtain ⟨e, he, hek⟩ := any_in hk
        simp only [Bool.and_eq_true, beq_iff_eq] at hek
        have := hdeps e he hek.2
        rw [hek.1] at this
        exact hf.yes k p d (by simpa using hp) hd this,
      fun d hd => hf.no d fun k p hk hp => by
        have hk' : l[k]? = some p := by simpa using hk
        have := List.all_eq_true.1 hd p (List.mem_of_getElem? hk')
        rw [hp] at this
        simp at this⟩
    have hdo : ∀ o', l[i]? = some o' → ∀ e ∈ o'.after, Region.binds .any e = true → listed.getD e.on false = true := fun o' ho' => by
      rw [hil] at ho'
      injection ho' with ho'
      subst ho'
      exact hdeps
    have hat : ∀ k : Nat, wr[k]? = some i → s = k := fun k hk => by
      have h1 : ¬ k < s := fun h => by rw [(hfl k i hk).2 h] at hunf; cases hunf
      cases k with
      | zero => omega
      | succ k =>
        have hk' : k < wr.length := by have := (List.getElem?_eq_some_iff.1 hk).1; omega
        have hx := List.getElem?_eq_getElem hk'
        have h2 := reach_listed hcl f i _ (hchain k _ i hx hk) hdo
        have h3 := (hfl k _ hx).1 h2
        omega
    have hS := StepsL.get hsteps hil
    rw [Nat.zero_add] at hS
    refine hS a s hs hD hat (fun k x hk hr => ?_) (fun k x hk hr => (hfl k x hk).1 (reach_listed hcl f i x hr hdo)) K fun s' hs1 hs2 => hK _ ?_
    · refine Nat.le_of_not_lt fun h => ?_
      have hx := (hfl k x hk).2 h
      have := reach_listed hcl f x i hr (fun o' ho' e he hb => hcl x o' ho' hx e he hb)
      rw [this] at hunf
      cases hunf
    · have hg : ∀ k, (listed.setIfInBounds i true).getD k false = if k = i then true else listed.getD k false := fun k => set_getD _ _ _ hltl
      have hcl' : Closed l (listed.setIfInBounds i true) := by
        intro x o' ho' hx e he hb
        rw [hg]
        split
        · rfl
        · rw [hg] at hx
          split at hx
          · next hxi => subst hxi; exact hdo o' ho' e he hb
          · exact hcl x o' ho' hx e he hb
      by_cases hw : ∃ k : Nat, wr[k]? = some i
      · obtain ⟨k, hk⟩ := hw
        have hsk := hat k hk
        have hs' := hs2 k hk
        have hkl := (List.getElem?_eq_some_iff.1 hk).1
        refine ⟨s', by omega, rfl, fun j x hj => ?_, hcl', by simpa using hsz⟩
        rw [hg]
        split
        · next hxi =>
          subst hxi
          have := hat j hj
          exact ⟨fun _ => (by omega), fun _ => rfl⟩
        · next hxi =>
          rw [hfl j x hj]
          have : j ≠ s := fun e => by
            rw [e, hsk, hk] at hj
            injection hj with hj
            exact hxi hj.symm
          constructor <;> intro h <;> omega
      · have hs' := hs1 fun k hk => hw ⟨k, hk⟩
        subst hs'
        refine ⟨s', hs, rfl, fun j x hj => ?_, hcl', by simpa using hsz⟩
        rw [hg]
        split
        · next hxi => exact absurd ⟨j, hxi ▸ hj⟩ hw
        · exact hfl j x hj
  · intro listed W hall hC
    obtain ⟨s, hs, rfl, hfl, _, hsz⟩ := hC
    have : s = wr.length := by
      refine Nat.le_antisymm hs (Nat.le_of_not_lt fun h => ?_)
      have hx := List.getElem?_eq_getElem h
      have h1 := (hfl s _ hx).1 (hall _ (by simpa using hin s _ hx))
      omega
    subst this
    rw [← hF] at hend
    simpa using hend
end
end Go.Proofs.YtiijclibcfgnpaaGreat.Phase

namespace Go.Proofs.YtiijclibcfgnpaaGreat.Disk
open Go.RowKit Phase Great

theorem zero_write_run (w : World) : (zeroValue 189).run Tryz.prog w = .ok (.agg (wrC (0, zeros)).toArray) w := by
  have h := zero_write
  cases hq : Tryz.prog.info? 189 with
  | none => rw [hq] at h; cases h
  | some i =>
    have hzz : i.zero = some (.agg (wrC (0, zeros)).toArray) := by simpa [hq] using h
    simp [zeroValue, typeInfo, hq, hzz]
theorem zero_write_some : ¬ (wrC (0, zeros)).toArray = #[] := by simp [wrC]
theorem zero_write_set (k : Int) : (wrC (0, zeros)).toArray.setIfInBounds 0 (.int .i64 k) = (.int .i64 k :: zeros.map U).toArray := by simp [wrC]
theorem setCells_new (w : World) (t : TypeId) : ∀ (vs pre zs : List Value), zs.length = vs.length → (w.alloc (.cells (pre ++ zs).toArray t)).setCells w.heap.size pre.length vs = w.alloc (.cells (pre ++ vs).toArray t)
  | [], pre, zs, h => by
    have : zs = [] := List.eq_nil_of_length_eq_zero h
    subst this
    rfl
  | v :: vs, pre, [], h => by simp at h
  | v :: vs, pre, z :: zs, h => by
    rw [World.setCells, World.setCell_alloc_at _ _ _ _ _ rfl]
    have e1 : ((pre ++ z :: zs).toArray.setIfInBounds pre.length v) = ((pre ++ [v]) ++ zs).toArray := by simp
    rw [e1]
    have h2 := setCells_new w t vs (pre ++ [v]) zs (by simpa using h)
    rw [List.length_append, List.length_cons, List.length_nil] at h2
    rw [h2]
    simp
theorem copy_write {w : World} {A : Option Addr} {c : Nat} {b : List UInt8} (h : Rd w A 512 b) (k : Int) (ty : TypeId) :
    (Builtin.copy_ #[54, 54] ty #[.slice (some ⟨w.heap.size, 1, none⟩) 512 512, .slice A 512 c]).run Tryz.prog (w.alloc (.cells (.int .i64 k :: zeros.map U).toArray 189)) = .ok (.int .i64 512) (w.alloc (.cells (.int .i64 k :: b.map U).toArray 189)) := by
  obtain ⟨ad, rfl, hc⟩ := h.cells (by omega)
  have hl := h.len
  have hbk := Bk.new w 189 (.int .i64 k :: zeros.map U).toArray
  have hz := zeros_length
  have := run_copy_cells (P := Tryz.prog) (w.alloc (.cells (.int .i64 k :: zeros.map U).toArray 189)) 54 54 ty 5 w.heap.size 1 512 512 ad 512 c (b.map U) ty_bytes (by kernel_rfl) (by rw [List.length_map, hl]; rfl)
    (fun j v hj => by
      rw [List.getElem?_map] at hj
      cases hb : b[j]? with
      | none => rw [hb] at hj; cases hj
      | some x =>
        rw [hb] at hj
        injection hj with hj
        subst hj
        have hx := hc j x hb
        rw [World.cell?_alloc_lt _ _ _ (World.block_lt_of_cell? w _ hx)]
        exact hx)
    (fun j hj => by
      rw [List.length_map, hl] at hj
      rw [hbk.cell, List.getElem?_toArray, List.getElem?_eq_getElem (by rw [List.length_cons, List.length_map, hz]; omega)]
      rfl)
    (fun j _ => hbk.frozen _) (U_all b)
  rw [this, List.length_map, hl]
  have e := setCells_new w 189 (b.map U) [.int .i64 k] (zeros.map U) (by rw [List.length_map, List.length_map, hl, hz])
  rw [List.length_cons, List.length_nil] at e
  have e2 : [Value.int .i64 k] ++ zeros.map U = .int .i64 k :: zeros.map U := rfl
  have e3 : [Value.int .i64 k] ++ b.map U = .int .i64 k :: b.map U := rfl
  rw [e2, e3] at e
  rw [e]
  rfl
theorem Rd.out {X : Nat → Prop} {w w' : World} {A : Option Addr} {n : Nat} {b : List UInt8} (h : Rd w A n b) (ho : Out X w w') (hx : ∀ a, A = some a → ¬ X a.block) : Rd w' A n b :=
  ⟨h.len, fun hn => by
    obtain ⟨ad, e, hc⟩ := h.cells hn
    refine ⟨ad, e, fun j u hu => ?_⟩
    have h1 := hc j u hu
    rw [World.cell?_of_block (w := w) (by exact ho.block _ (World.block_lt_of_cell? w _ h1) (by rw [addr_add_block]; exact hx ad e))]
    exact h1⟩
theorem info_write : (Tryz.prog.info? 189).map (fun i => (i.zero, i.size, i.bytes)) = some (some (.agg (wrC (0, zeros)).toArray), 513, 520) := by unfold wrC; dsimp only; rw [zeros_U]; kernel_rfl
theorem info_three {P : Program} {t : TypeId} {z : Value} {a b : Nat} (h : (P.info? t).map (fun i => (i.zero, i.size, i.bytes)) = some (some z, a, b)) : ∃ i, P.info? t = some i ∧ i.zero = some z ∧ i.size = a ∧ i.bytes = b := by
  cases hi : P.info? t with
  | none => rw [hi] at h; cases h
  | some i =>
    rw [hi] at h
    simp at h
    exact ⟨i, rfl, h⟩
theorem ty_writes : Tryz.prog.underlying 94 = some (.slice 189) := by kernel_rfl
theorem size_new (w : World) (o : Obj) : (w.alloc o).heap.size = w.heap.size + 1 := by simp
open Phase in
theorem step_stay {P : Program} {Q : Exit → Act → World → Prop} {l : List Oper} {v : Nat → Value} {a0 : Act} {wr : List Nat} {Ws : Nat → World} {f i : Nat} {o : Oper} (hw : wr.contains i = false)
    (h : ∀ (a : Act) (s : Nat), s ≤ wr.length → DepL l v a0 o a → (∀ k x : Nat, wr[k]? = some x → reachB l f x i = true → s ≤ k) → (∀ k x : Nat, wr[k]? = some x → reachB l f i x = true → k < s) → ∀ K : Act → World → Prop, K (a.put o.dst (v i)) (Ws s) → o.wp P a (Ws s) K Q) : StepAt P Q l v a0 wr Ws f i o := by
  intro a s hs hd _ h2 h3 K hK
  have hno : ∀ k : Nat, wr[k]? ≠ some i := fun k hk => by
    have := List.mem_of_getElem? hk
    rw [List.contains_iff_mem.2 this] at hw
    cases hw
  exact h a s hs hd h2 h3 K (hK s (fun _ => rfl) (fun k hk => absurd hk (hno k)))
theorem out_grown {w w' : World} {row : Option Nat} (h : w.grownBy w' row) : Out (fun k => row = some k) w w' := ⟨h.os, h.tape, h.output, h.size, fun k hk hne => h.block k hk (fun e => hne e.symm)⟩
theorem At.append {w w' w4 : World} {X : Nat → Prop} {g p : Nat} {A : Option Addr} {c : Nat} {d : DK} (h : At w X g p A c d) (hb : Below w.heap.size w w') (k : Nat) (b : List UInt8) (hk : k < d.pages.length) (hbl : b.length = 512) {G cap n : Nat} (hn : n = d.row.length)
    (h4 : w4.ownsRow 0 189 513 (.slice (some ⟨G, 0, none⟩) (n + 1) cap) (n + 1) (rowV d.row ++ wrC (k, b))) (hg : w'.grownBy w4 (Value.slice A n c).ownBlock) (hl : (Value.slice A n c).ownBlock = some G ∨ G = w'.heap.size) (hlt : G < w4.heap.size) :
    ∃ X', At (w4.setCell ⟨g, 1, none⟩ (.slice (some ⟨G, 0, none⟩) (n + 1) cap)) X' g p (some ⟨G, 0, none⟩) cap { d with row := d.row ++ [(k, b)] } ∧ Out X w (w4.setCell ⟨g, 1, none⟩ (.slice (some ⟨G, 0, none⟩) (n + 1) cap)) ∧ ∀ j, X' j → X j ∨ w.heap.size ≤ j := by
  subst hn
  have hob : ∀ j, (Value.slice A d.row.length c).ownBlock = some j → X j ∧ j ≠ g ∧ j ≠ p := fun j hj => by
    cases A with
    | none => cases hj
    | some a =>
      have e : a.block = j := by simpa [Value.ownBlock] using hj
      subst e
      exact h.xr a rfl
  have hG : (X G ∨ w.heap.size ≤ G) ∧ G ≠ g ∧ G ≠ p := by
    rcases hl with hl | hl
    · exact ⟨.inl (hob G hl).1, (hob G hl).2⟩
    · have := hb.size
      have h1 := h.lt g h.xg
      have h2 := h.lt p h.xp
      exact ⟨.inr (by omega), by omega, by omega⟩
  have o1 : Out X w w' := Out.of_below hb
  have o2 : Out X w w4 := o1.trans (out_grown hg) (fun j hj => .inl (hob j hj).1)
  have o3 := Out.setCell (X := (· = g)) w4 (p := ⟨g, 1, none⟩) rfl (.slice (some ⟨G, 0, none⟩) (d.row.length + 1) cap)
  have hgw := h.lt g h.xg
  have hpw := h.lt p h.xp
  have hg4 : w4.heap[g]? = w.heap[g]? := ((out_grown hg).block g (Nat.lt_of_lt_of_le hgw hb.size) (fun e => (hob g e).2.1 rfl)).trans (hb.block g hgw)
  have hp4 : w4.heap[p]? = w.heap[p]? := ((out_grown hg).block p (Nat.lt_of_lt_of_le hpw hb.size) (fun e => (hob p e).2.2 rfl)).trans (hb.block p hpw)
  refine ⟨fun j => (X j ∨ j = G) ∧ j < w4.heap.size, ⟨?_, (h.pg.kept hp4).kept (o3.block p (Nat.lt_of_lt_of_le hpw o2.size) (fun e => h.ne e.symm)), ?_, ⟨.inl h.xg, Nat.lt_of_lt_of_le hgw o2.size⟩, ⟨.inl h.xp, Nat.lt_of_lt_of_le hpw o2.size⟩, ?_, h.ne, ?_, fun j hj => Nat.lt_of_lt_of_le hj.2 o3.size⟩, o2.trans o3 (fun j hj => .inl (hj ▸ h.xg)), ?_⟩
  · have := (h.bk.kept hg4).set 1 (.slice (some ⟨G, 0, none⟩) (d.row.length + 1) cap)
    have e : (d.row ++ [(k, b)]).length = d.row.length + 1 := by simp
    rw [e]
    exact this
  · have e : (d.row ++ [(k, b)]).length = d.row.length + 1 := by simp
    rw [e]
    dsimp only
    rw [rowV_snoc]
    refine ⟨h4.1, ?_⟩
    rcases h4.2 with ⟨h5, _⟩ | ⟨r, cp, cur, h5, h6, h7, h8⟩
    · cases h5
    · refine .inr ⟨r, cp, cur, h5, h6, ?_, h8⟩
      injection h5 with e1
      injection e1 with e1
      injection e1 with e1
      subst e1
      rw [o3.block G hlt hG.2.1]
      exact h7
  · intro a ha
    injection ha with ha
    subst ha
    exact ⟨⟨.inr rfl, hlt⟩, hG.2⟩
  · refine h.ok.set rfl h.ok.pages ?_ h.ok.low h.ok.high
    intro x hx
    rcases List.mem_append.1 hx with hx | hx
    · exact h.ok.row x hx
    · obtain rfl := List.mem_singleton.1 hx
      exact ⟨hk, hbl⟩
  · intro j hj
    rcases hj.1 with hj | rfl
    · exact .inl hj
    · exact hG.1
set_option maxRecDepth 100000 in
set_option maxHeartbeats 1000000 in
theorem write_any {w : World} {X : Nat → Prop} {g : Nat} {d : DK} (h : DkAt w X g d) (k : Int) (A : Option Addr) (n c : Nat) (b : List UInt8) (hr : Rd w A n b) (hx : ∀ a, A = some a → ¬ X a.block) (hnn : n ≤ 1000000) (hn : d.row.length ≤ 1000000) :
    Calls Tryz.prog 249 #[.pointer (some ⟨g, 0, none⟩), .int .i64 k, .slice A n c] w (Turns (.int .i64 (d.write k b).1) X g (d.write k b).2 w) := by
  have cf := faultAt_any h k
  have hl := hr.len
  obtain ⟨RES, hres⟩ : ∃ RES, RES = d.write k b := ⟨_, rfl⟩
  rw [← hres]
  unfold DK.write at hres
  by_cases h1 : d.faultAt k ≠ 0
  · rw [if_pos h1] at hres
    subst hres
    generalize d.faultAt k = z at *
    have H := Lib.hid h
    clear h hr
    go_enter Tryz.func249, Tryz.ntmps249
    go_wp2_with fail
    refine cf.mono ?_
    rintro e w1 ⟨rfl, rfl⟩
    go_wp2_with fail
    go_ret
    exact ⟨rfl, X, H.out, Out.refl X w, fun k hk => .inl hk⟩
  · rw [if_neg h1] at hres
    have h1 : d.faultAt k = 0 := by simpa using h1
    rw [h1] at cf
    by_cases h2 : b.length ≠ 512
    · rw [if_pos h2] at hres
      subst hres
      have H := Lib.hid h
      have h2n : ¬ ((n : Int) = 512) := by omega
      clear h hr
      go_enter Tryz.func249, Tryz.ntmps249
      go_wp2_with fail
      refine cf.mono ?_
      rintro e w1 ⟨rfl, rfl⟩
      go_wp2_with fail
      go_ret
      exact ⟨rfl, X, H.out, Out.refl X w, fun k hk => .inl hk⟩
    · rw [if_neg h2] at hres
      have h2 : b.length = 512 := by simpa using h2
      have hn2 : n = 512 := by omega
      subst hn2
      have cb := burn_any h
      by_cases h3 : d.burn.1 ≠ 0
      · rw [if_pos h3] at hres
        subst hres
        generalize d.burn = z at *
        obtain ⟨z1, z2⟩ := z
        have h3 : z1 ≠ 0 := h3
        dsimp only at cb ⊢
        clear h hr
        go_enter Tryz.func249, Tryz.ntmps249
        go_wp2_with fail
        refine cf.mono ?_
        rintro e w1 ⟨rfl, rfl⟩
        go_wp2_with fail
        refine cb.mono ?_
        rintro e w1 ⟨rfl, X1, hd1, ho1, hx1⟩
        have HD := Lib.hid hd1
        have HO := Lib.hid ho1
        have HX := Lib.hid hx1
        clear hd1 ho1 hx1 cb cf
        go_wp2_with fail
        go_ret
        exact ⟨rfl, X1, HD.out, HO.out, HX.out⟩
      · rw [if_neg h3] at hres
        have h3 : d.burn.1 = 0 := by simpa using h3
        rw [h3] at cb
        have hrow := burn_row d
        have hpgs := burn_pages d
        generalize d.burn.2 = d2 at *
        have HR := Lib.hid hr
        have HX0 := Lib.hid hx
        have HPG : Hid (d2.pages.length = d.pages.length) := by show _ = _; rw [hpgs]
        have HN : Hid (d2.row.length ≤ 1000000) := by show _ ≤ _; rw [hrow]; exact hn
        have HRES := Lib.hid hres
        have HB := Lib.hid h2
        have hf := faultAt_zero h1
        have HK : Hid (0 ≤ k ∧ k < d.pages.length) := hf.2
        clear h hr hx hres hl hpgs hrow hn hf h1 h3 h2 hnn
        go_enter Tryz.func249, Tryz.ntmps249
        go_wp2_with fail
        refine cf.mono ?_
        rintro e w1 ⟨rfl, rfl⟩
        go_wp2_with fail
        refine cb.mono ?_
        rintro e w1 ⟨rfl, X1, ⟨p, A1, c1, hd1⟩, ho1, hx1⟩
        have HD := Lib.hid hd1
        have HO := Lib.hid ho1
        have HX := Lib.hid hx1
        have HR1 := Lib.hid (Rd.out HR.out HO.out HX0.out)
        clear hd1 ho1 hx1 cb cf
        have hz0 := zero_write_run
        have hz1 := zero_write_some
        have hz2 := zero_write_set k
        have HCP := Lib.hid (copy_write (w := w1) (c := c) HR1.out k)
        have HZ0 : Hid ((Tryz.prog.info? 189).map (·.size) = some (Value.int .i64 k :: zeros.map U).toArray.size) := by show _ = _; rw [size_write]; simp [zeros_length]
        have HZ1 : Hid ((wrC (0, zeros)).toArray.size = (Value.int .i64 k :: zeros.map U).toArray.size) := by show _ = _; simp [wrC]
        have HZ2 : Hid ((Value.int .i64 k :: zeros.map U).toArray.all (·.oneCell') = true) := all_oneCell_toArray fun v hv => by
          rcases List.mem_cons.1 hv with rfl | hv
          · rfl
          · exact U_all _ v hv
        have HNB := Lib.hid (Bk.new w1 189 (Value.int .i64 k :: b.map U).toArray)
        have HNBB : Hid (Below w1.heap.size w1 (w1.alloc (.cells (Value.int .i64 k :: b.map U).toArray 189))) := (Below.refl _ _).alloc (Nat.le_refl _) _
        generalize hZ : (wrC (0, zeros)).toArray = Z at *
        generalize hZ2 : (Value.int .i64 k :: zeros.map U).toArray = Z2 at *
        generalize hZ3 : (Value.int .i64 k :: b.map U).toArray = Z3 at *
        have HE3 := Lib.hid hZ3
        clear hZ hZ2 hZ3
        go_wp2_with ((with_reducible refine wpList_store_new ?_ 189 (.tmp 9) (.tmp 25) ?_ w1 Z Z2 189 ?_ ?_ ?_ HZ0.out HZ1.out HZ2.out ?_); (exact rfl); (exact rfl); (exact rfl); (exact rfl); (exact rfl))
        refine Lib.hid ?_
        clear hz0 hz1 hz2
        have hcp := HCP.out
        go_wp2_with fail
        clear hcp HCP HZ0 HZ1 HZ2 HR1 HR
        have HAR := Lib.hid (HD.out.below HNBB.out)
        obtain ⟨kn, hkn⟩ : ∃ kn : Nat, k = (kn : Int) := ⟨k.toNat, by have := HK.out.1; omega⟩
        have hZ3 : Z3 = (wrC (kn, b)).toArray := by rw [← HE3.out, hkn]; rfl
        have HL3 : Hid (Z3.size = 513) := by show _ = _; rw [hZ3]; simp [wrC, HB.out]
        have hZl : Z3.toList = wrC (kn, b) := by rw [hZ3]
        have hoz : ∀ u ∈ Z3.toList, u.oneCell' = true := by rw [hZl]; exact wrC_one (kn, b)
        obtain ⟨i0, hi0, hi1, hi2, hi3⟩ := info_three info_write
        have HWB : Hid (Below w1.heap.size w1 (w1.alloc (.cells Z3 189))) := HNBB.out
        generalize hWr : w1.alloc (.cells Z3 189) = Wr at *
        have hszr : Wr.heap.size = w1.heap.size + 1 := by rw [← hWr]; exact size_new _ _
        generalize hN : w1.heap.size = N at *
        obtain ⟨V0, hV0⟩ : ∃ V0 : World, V0 = { Wr with drawn := Wr.drawn + 1 } := ⟨_, rfl⟩
        obtain ⟨V1, hV1⟩ : ∃ V1 : World, V1 = V0.alloc (.cells Z3 189) := ⟨_, rfl⟩
        have hb0 : Below w1.heap.size w1 V0 := by rw [hV0, hN]; exact HWB.out.drew
        have hb1 : Below w1.heap.size w1 V1 := by rw [hV1]; exact hb0.alloc hb0.size _
        have hs0 : V0.heap.size = N + 1 := by rw [hV0]; exact hszr
        have hs1 : V1.heap.size = N + 1 + 1 := by rw [hV1, size_new, hs0]
        have hnew : V1.heap[N + 1]? = some (.cells Z3 189 (0, 0)) := by rw [hV1, ← hs0]; exact heap_alloc_last _ _
        have hbN0 : V0.heap[N]? = some (.cells Z3 189 (0, 0)) := by rw [hV0]; exact HNB.out
        have hA1 := HD.out.below hb1
        obtain ⟨G, cap, V2, hrun, hown2, hgr2, hloc2, hlt2⟩ := run_append_lies (P := Tryz.prog) V1 94 94 0 189 i0 (.agg (wrC (0, zeros)).toArray) 513 520 ty_writes hi0 hi1 hi2 hi3 (by simp [Value.cells, wrC, zeros_length]) (by decide)
          (.slice A1 d2.row.length c1) d2.row.length (rowV d2.row) hA1.own ⟨N + 1, 0, none⟩ 1 1 Z3.toList (by rw [Array.length_toList, HL3.out]) (World.news_of_block hnew) hoz (by decide) (by have := HN.out; unfold maxLen; omega) (by have := HN.out; omega) (Nat.zero_le _) (N + 1 + 1) hs1
        have hpk : kn < d2.pages.length := by
          have h1 := HK.out.2
          have h2 := HPG.out
          rw [h2]
          omega
        obtain ⟨X4, hA4, hO4, hX4⟩ := HD.out.append hb1 kn b hpk HB.out rfl (by rw [hZl] at hown2; exact hown2) hgr2 (by rw [hs1]; exact hloc2) hlt2
        have hg1 : V2.heap[g]? = w1.heap[g]? := by
          have hgn : (Value.slice A1 d2.row.length c1).ownBlock ≠ some g := fun e => by
            cases A1 with
            | none => cases e
            | some a =>
              have e : a.block = g := by simpa [Value.ownBlock] using e
              exact (HD.out.xr a rfl).2.1 e
          rw [hgr2.block g (Nat.lt_of_lt_of_le HD.out.bk.lt hb1.size) (fun e => hgn e.symm)]
          exact hb1.block g HD.out.bk.lt
        have hN2 : V2.heap[N]? = V1.heap[N]? := by
          refine hgr2.block N (by omega) fun e => ?_
          cases A1 with
          | none => cases e
          | some a =>
            have e : a.block = N := by simpa [Value.ownBlock] using e.symm
            have := HD.out.lt _ (HD.out.xr a rfl).1
            omega
        have hN1 : V1.heap[N]? = V0.heap[N]? := by rw [hV1]; exact Below.heap_alloc _ _ _ (by omega)
        obtain ⟨V3, hV3⟩ : ∃ V3 : World, V3 = V2.setCell ⟨g, 1, none⟩ (.slice (some ⟨G, 0, none⟩) (d2.row.length + 1) cap) := ⟨_, rfl⟩
        rw [← hV3] at hA4 hO4
        have hbk2 := HD.out.bk.kept hg1
        have HFZ : Hid (V2.frozen? ⟨g, 1, none⟩ = false) := hbk2.frozen 1
        obtain ⟨Ws, hWs⟩ : ∃ Ws : Nat → World, Ws = fun s => match s with | 0 => V0 | 1 => V1 | 2 => V2 | _ => V3 := ⟨_, rfl⟩
        have E0 : Hid (Ws 0 = V0) := congrFun hWs 0
        have E1 : Hid (Ws 1 = V0.alloc (.cells Z3 189)) := (congrFun hWs 1).trans hV1
        have E2 : Hid (Ws 2 = V2) := congrFun hWs 2
        have E11 : Ws 1 = V1 := congrFun hWs 1
        have E3 : Hid (Ws 3 = V2.setCell ⟨g, 1, none⟩ (.slice (some ⟨G, 0, none⟩) (d2.row.length + 1) cap)) := (congrFun hWs 3).trans hV3
        have HV0 := Lib.hid hV0
        have HV3 := Lib.hid hV3
        have HRUN : Hid ((Builtin.append_ #[94, 94] 94 #[.slice A1 d2.row.length c1, .slice (some ⟨N + 1, 0, none⟩) 1 1]).run Tryz.prog (Ws 1) = .ok (.slice (some ⟨G, 0, none⟩) (d2.row.length + 1) cap) (Ws 2)) := by show _ = _; rw [E11, E2.out]; exact hrun
        have HC1 : Hid (∀ s, s ≤ 2 → (Ws s).cell? ⟨g, 1, none⟩ = some (.slice A1 d2.row.length c1)) := by
          intro s hs
          match s, hs with
          | 0, _ => rw [E0.out]; exact (HD.out.bk.below hb0).cell 1
          | 1, _ => rw [E11]; exact (HD.out.bk.below hb1).cell 1
          | 2, _ => rw [E2.out]; exact hbk2.cell 1
        have HC2 : Hid (∀ s, s ≤ 2 → (Ws s).rangeAt N 0 Z3.toList) := by
          have hh : ∀ W : World, W.heap[N]? = some (.cells Z3 189 (0, 0)) → W.rangeAt N 0 Z3.toList := fun W hW j v hv => by
            rw [cell_of_row W N _ _ _ _ hW, Nat.zero_add]
            simpa using hv
          intro s hs
          match s, hs with
          | 0, _ => rw [E0.out]; exact hh V0 hbN0
          | 1, _ => rw [E11]; exact hh V1 (hN1.trans hbN0)
          | 2, _ => rw [E2.out]; exact hh V2 (hN2.trans (hN1.trans hbN0))
        have HS0 := Lib.hid hs0
        have HI0 := Lib.hid hi0
        have HI1 := Lib.hid hi1
        have HI2 := Lib.hid hi2
        have HFZ2 : Hid ((Ws 2).frozen? ⟨g, 1, none⟩ = false) := by show _ = _; rw [E2.out]; exact HFZ.out
        have H4 := Lib.hid hA4
        have H5 := Lib.hid hO4
        have H6 := Lib.hid hX4
        clear hA4 hO4 hX4 hgr2 hown2 hloc2 hlt2 hA1 hg1 hN2 hN1 hbk2 hnew hbN0 hWr hszr hb0 hb1 hs1 hoz hWs hV0 hV1 hV3 hrun E11 hi0 hi1 hi2 hi3 hs0 hZ3 hZl HFZ
        refine wp_region_line (fun k => ([.pointer (some ⟨g, 0, none⟩), .pointer (some ⟨g, 0, none⟩), .pointer (some ⟨g, 0, none⟩), .pointer (some ⟨g, 1, none⟩), .slice A1 d2.row.length c1, .agg Z3, .slice (some ⟨N + 1, 0, none⟩) 1 1, .slice (some ⟨G, 0, none⟩) (d2.row.length + 1) cap, .pointer (some ⟨g, 0, none⟩), .pointer (some ⟨g, 1, none⟩), undef] : List Value).getD k undef) [6, 7, 10] Ws 12 (by kernel_rfl) (by kernel_rfl) (E0.out.trans HV0.out) (fun k x hk => ?_) (fun k x y hx hy => ?_) ?_ { tmps := #[.pointer (some ⟨g, 0, none⟩), .int .i64 k, .slice A 512 c, undef, undef, undef, .int .i64 0, .int .i64 0, .int .i64 0, .pointer (some ⟨N, 0, none⟩), .pointer (some ⟨g, 0, none⟩), .int .i64 k, .int .i64 0, .int .i64 0, .bool false, undef, .slice A 512 c, .int .i64 512, .bool false, .pointer (some ⟨g, 0, none⟩), .int .i64 0, .int .i64 0, .bool false, undef, .int .i64 k, .agg Z2, .pointer (some ⟨N, 1, none⟩), .slice (some ⟨N, 1, none⟩) 512 512, .slice A 512 c, .int .i64 512, .pointer (some ⟨g, 0, none⟩), .pointer (some ⟨g, 0, none⟩), .pointer (some ⟨g, 0, none⟩), .pointer (some ⟨g, 1, none⟩), .slice A1 d2.row.length c1, .agg Z3, .slice (some ⟨N + 1, 0, none⟩) 1 1, .slice (some ⟨G, 0, none⟩) (d2.row.length + 1) cap, .pointer (some ⟨g, 0, none⟩), .pointer (some ⟨g, 1, none⟩)], defers := [] } (by kernel_rfl) ?_
        · match k, hk with
          | 0, hk => injection hk with hk; subst hk; decide
          | 1, hk => injection hk with hk; subst hk; decide
          | 2, hk => injection hk with hk; subst hk; decide
          | _ + 3, hk => cases hk
        · match k, hx, hy with
          | 0, hx, hy => injection hx with hx; injection hy with hy; subst hx hy; show reachB _ _ _ _ = true; kernel_rfl
          | 1, hx, hy => injection hx with hx; injection hy with hy; subst hx hy; show reachB _ _ _ _ = true; kernel_rfl
          | 2, _, hy => cases hy
          | _ + 3, hx, _ => cases hx
        · refine stepsL_cons ?_ (stepsL_cons ?_ (stepsL_cons ?_ (stepsL_cons ?_ (stepsL_cons ?_ (stepsL_cons ?_ (stepsL_cons ?_ (stepsL_cons ?_ (stepsL_cons ?_ (stepsL_cons ?_ (stepsL_cons ?_ (stepsL_nil)))))))))))
          · refine step_stay (by decide) fun a s hs hd h2 h3 K hK => ?_
            have h0 : a.tmps.getD 0 undef = .pointer (some ⟨g, 0, none⟩) := hd.kept 0 (by kernel_rfl)
            unfold Oper.wp
            go_simp
            exact hK
          · refine step_stay (by decide) fun a s hs hd h2 h3 K hK => ?_
            have h0 : a.tmps.getD 0 undef = .pointer (some ⟨g, 0, none⟩) := hd.kept 0 (by kernel_rfl)
            unfold Oper.wp
            go_simp
            exact hK
          · refine step_stay (by decide) fun a s hs hd h2 h3 K hK => ?_
            have h31 : a.tmps.getD 31 undef = .pointer (some ⟨g, 0, none⟩) := hd.done_ 1 _ 31 (by kernel_rfl) rfl rfl
            unfold Oper.wp
            go_simp
            exact hK
          · refine step_stay (by decide) fun a s hs hd h2 h3 K hK => ?_
            have h32 : a.tmps.getD 32 undef = .pointer (some ⟨g, 0, none⟩) := hd.done_ 2 _ 32 (by kernel_rfl) rfl rfl
            unfold Oper.wp
            go_simp
            exact hK
          · refine step_stay (by decide) fun a s hs hd h2 h3 K hK => ?_
            have h33 : a.tmps.getD 33 undef = .pointer (some ⟨g, 1, none⟩) := hd.done_ 3 _ 33 (by kernel_rfl) rfl rfl
            have hc := HC1.out s (h2 2 10 rfl (by kernel_rfl))
            unfold Oper.wp
            go_simp
            exact hK
          · refine step_stay (by decide) fun a s hs hd h2 h3 K hK => ?_
            have h9 : a.tmps.getD 9 undef = .pointer (some ⟨N, 0, none⟩) := hd.kept 9 (by kernel_rfl)
            exact wp_load_mid 189 (.tmp 9) rfl N 0 h9 Z3.toList _ (HC2.out s (h2 2 10 rfl (by kernel_rfl))) Tryz.underlying189 rfl (by rw [size_write, Array.length_toList, HL3.out]) (by rw [Array.toArray_toList]; exact hK)
          · intro a s hs hd h1 h2 h3 K hK
            obtain rfl := h1 0 rfl
            have h35 : a.tmps.getD 35 undef = .agg Z3 := hd.done_ 5 _ 35 (by kernel_rfl) rfl rfl
            refine wp_buildSlice 94 189 1 #[(0, .tmp 35)] rfl Z3 i0 (.agg (wrC (0, zeros)).toArray) ty_writes HI0.out HI1.out (by rw [HI2.out]; decide) (by rw [HI2.out]; decide) ?_ ?_
            · have := fill_whole (s := 513) (by decide) [.agg Z3] ((Array.range 513).map ((Value.agg (wrC (0, zeros)).toArray).cells[· % (Value.agg (wrC (0, zeros)).toArray).cells.size]!)) (fun v hv => by obtain rfl := List.mem_singleton.1 hv; exact HL3.out) (by simp)
              rw [HI2.out]
              have e : Act.eval a (.tmp 35) = .agg Z3 := h35
              simp only [List.map_toArray, List.map_cons, List.map_nil, e]
              rw [show 1 * 513 = 513 from rfl]
              refine this.trans ?_
              simp [Value.cells]
            · have hk := hK 1 (fun h => absurd rfl (h 0)) (fun k hk => by rfl)
              rw [E1.out] at hk
              rw [E0.out, HS0.out]
              exact hk
          · intro a s hs hd h1 h2 h3 K hK
            obtain rfl := h1 1 rfl
            have h34 : a.tmps.getD 34 undef = .slice A1 d2.row.length c1 := hd.done_ 4 _ 34 (by kernel_rfl) rfl rfl
            have h36 : a.tmps.getD 36 undef = .slice (some ⟨N + 1, 0, none⟩) 1 1 := hd.done_ 6 _ 36 (by kernel_rfl) rfl rfl
            have hk := hK 2 (fun h => absurd rfl (h 1)) (fun k hk => by have := h1 k hk; omega)
            have e1 : Act.eval a (.tmp 34) = .slice A1 d2.row.length c1 := h34
            have e2 : Act.eval a (.tmp 36) = .slice (some ⟨N + 1, 0, none⟩) 1 1 := h36
            unfold Oper.wp execOp
            simp only [resolve, invoke, builtin, Sem.run_bind, Sem.run_pure, Result.andThen_ok, List.map_toArray, List.map_cons, List.map_nil, e1, e2]
            have hru := HRUN.out
            rw [hru]
            exact hk
          · refine step_stay (by decide) fun a s hs hd h2 h3 K hK => ?_
            have h30 : a.tmps.getD 30 undef = .pointer (some ⟨g, 0, none⟩) := hd.done_ 0 _ 30 (by kernel_rfl) rfl rfl
            unfold Oper.wp
            go_simp
            exact hK
          · refine step_stay (by decide) fun a s hs hd h2 h3 K hK => ?_
            have h38 : a.tmps.getD 38 undef = .pointer (some ⟨g, 0, none⟩) := hd.done_ 8 _ 38 (by kernel_rfl) rfl rfl
            unfold Oper.wp
            go_simp
            exact hK
          · intro a s hs hd h1 h2 h3 K hK
            obtain rfl := h1 2 rfl
            have h37 : a.tmps.getD 37 undef = .slice (some ⟨G, 0, none⟩) (d2.row.length + 1) cap := hd.done_ 7 _ 37 (by kernel_rfl) rfl rfl
            have h39 : a.tmps.getD 39 undef = .pointer (some ⟨g, 1, none⟩) := hd.done_ 9 _ 39 (by kernel_rfl) rfl rfl
            have hk := hK 3 (fun h => absurd rfl (h 2)) (fun k hk => by have := h1 k hk; omega)
            have hc := HC1.out 2 (Nat.le_refl _)
            have hfz := HFZ2.out
            rw [E3.out] at hk
            rw [E2.out] at hc hfz ⊢
            unfold Oper.wp
            go_simp
            exact hk
        · have hkt : k.toNat = kn := by omega
          have hend : Ws [6, 7, 10].length = V3 := E3.out.trans HV3.out.symm
          rw [hend]
          dsimp only
          go_wp2_with fail
          go_ret
          exact ⟨by rw [HRES.out]; rfl, X4, ⟨p, _, _, by rw [HRES.out, hkt]; exact H4.out⟩, HO.out.trans H5.out HX.out, fun j hj => (H6.out j hj).elim (fun h => HX.out j h) (fun h => .inr (Nat.le_trans HO.out.size (by omega)))⟩
end Go.Proofs.YtiijclibcfgnpaaGreat.Disk
