/- A region that draws its order and whose operations' values do not hang on the order, though some of them write: what is asked is one step of each operation, at whatever moment it may come up, and what is given is the lexical frame. -/
import Derived.Orders
import Derived.RegionTactic
import Derived.KernelRfl
namespace Go.Proofs.Ytephciglcikllaa.Phase

section
variable {P : Program} {ops : Array Oper} {md : Region.Mode} {Q : Exit → Act → World → Prop}

/-- Each operation has no guard, waits for earlier ones only, and writes a slot of its own that is there. -/
def okB (ops : Array Oper) (n : Nat) : Bool :=
  (List.range ops.size).all fun i => match ops[i]? with
    | none => false
    | some o => o.guard.isNone && ((o.after.all fun e => decide (e.on < i)) && (match o.dst with
      | none => true
      | some d => decide (d < n) && (List.range ops.size).all fun k => k == i || match ops[k]? with
        | none => true
        | some p => p.dst != some d))

theorem okB_spec {n : Nat} (h : okB ops n = true) {i : Nat} {o : Oper} (hi : ops[i]? = some o) :
    o.guard = none ∧ (∀ e ∈ o.after, e.on < i) ∧ ∀ d, o.dst = some d → d < n ∧ ∀ k p, ops[k]? = some p → p.dst = some d → k = i := by
  have hlt : i < ops.size := (Array.getElem?_eq_some_iff.1 hi).1
  have h1 := List.all_eq_true.1 h i (List.mem_range.2 hlt)
  simp only [hi, Bool.and_eq_true] at h1
  obtain ⟨h2, h3, h4⟩ := h1
  refine ⟨by simpa using h2, fun e he => of_decide_eq_true (Array.all_eq_true_iff_forall_mem.1 h3 e he), fun d hd => ?_⟩
  rw [hd] at h4
  simp only [Bool.and_eq_true] at h4
  refine ⟨of_decide_eq_true h4.1, fun k p hk hp => ?_⟩
  have hkl : k < ops.size := (Array.getElem?_eq_some_iff.1 hk).1
  have h5 := List.all_eq_true.1 h4.2 k (List.mem_range.2 hkl)
  simp only [hk, hp, Bool.or_eq_true, beq_iff_eq] at h5
  rcases h5 with h5 | h5
  · exact h5
  · simp at h5

/-- The frame is what these operations made of a0. -/
structure Fits (ops : Array Oper) (v : Nat → Value) (a0 : Act) (listed : Array Bool) (a : Act) : Prop where
  defers : a.defers = a0.defers
  size : a.tmps.size = a0.tmps.size
  yes : ∀ k o d, ops[k]? = some o → o.dst = some d → listed.getD k false = true → a.tmps.getD d undef = v k
  no : ∀ d, (∀ k o, ops[k]? = some o → o.dst = some d → listed.getD k false = false) → a.tmps.getD d undef = a0.tmps.getD d undef

theorem getD_rep (n k : Nat) : (Array.replicate n false).getD k false = false := by
  by_cases h : k < n <;> simp [h]
theorem Fits.start (v : Nat → Value) (a0 : Act) : Fits ops v a0 (Array.replicate ops.size false) a0 :=
  ⟨rfl, rfl, (fun k o d _ _ h => by rw [getD_rep] at h; cases h), fun _ _ => rfl⟩
theorem put_getD (a : Act) (d : Nat) (v : Value) (e : Nat) (h : d < a.tmps.size) : (a.put (some d) v).tmps.getD e undef = if e = d then v else a.tmps.getD e undef := by
  unfold Act.put
  by_cases he : e = d
  · subst he; simp [h]
  · rw [if_neg he]
    simp only [Array.getD_eq_getD_getElem?]
    rw [Array.getElem?_setIfInBounds_ne (fun h => he h.symm)]
theorem set_getD (l : Array Bool) (i k : Nat) (h : i < l.size) : (l.setIfInBounds i true).getD k false = if k = i then true else l.getD k false := by
  by_cases he : k = i
  · subst he; simp [h]
  · rw [if_neg he]
    simp only [Array.getD_eq_getD_getElem?]
    rw [Array.getElem?_setIfInBounds_ne (fun h => he h.symm)]
theorem Fits.put {v : Nat → Value} {a0 a : Act} {listed : Array Bool} {i : Nat} {o : Oper} (hok : okB ops a0.tmps.size = true) (hi : ops[i]? = some o) (hl : listed.size = ops.size) (h : Fits ops v a0 listed a) :
    Fits ops v a0 (listed.setIfInBounds i true) (a.put o.dst (v i)) := by
  have hlt : i < listed.size := by rw [hl]; exact (Array.getElem?_eq_some_iff.1 hi).1
  obtain ⟨_, _, hd⟩ := okB_spec hok hi
  cases hdst : o.dst with
  | none =>
    refine ⟨h.defers, h.size, fun k p d hk hp hlk => ?_, fun d hn => ?_⟩
    · rw [set_getD _ _ _ hlt] at hlk
      by_cases hki : k = i
      · subst hki; rw [hi] at hk; injection hk with hk; subst hk; rw [hdst] at hp; cases hp
      · rw [if_neg hki] at hlk; exact h.yes k p d hk hp hlk
    · refine h.no d fun k p hk hp => ?_
      have := hn k p hk hp
      rw [set_getD _ _ _ hlt] at this
      by_cases hki : k = i
      · subst hki; rw [if_pos rfl] at this; cases this
      · rwa [if_neg hki] at this
  | some d0 =>
    obtain ⟨hd1, hd2⟩ := hd d0 hdst
    have hd1' : d0 < a.tmps.size := by rw [h.size]; exact hd1
    refine ⟨h.defers, by unfold Act.put; simp [h.size], fun k p d hk hp hlk => ?_, fun d hn => ?_⟩
    · rw [put_getD _ _ _ _ hd1']
      rw [set_getD _ _ _ hlt] at hlk
      by_cases hdd : d = d0
      · subst hdd
        rw [if_pos rfl, hd2 k p hk hp]
      · rw [if_neg hdd]
        by_cases hki : k = i
        · subst hki; rw [hi] at hk; injection hk with hk; subst hk; rw [hdst] at hp; injection hp with hp; exact absurd hp.symm hdd
        · rw [if_neg hki] at hlk; exact h.yes k p d hk hp hlk
    · rw [put_getD _ _ _ _ hd1']
      by_cases hdd : d = d0
      · subst hdd
        have := hn i o hi hdst
        rw [set_getD _ _ _ hlt, if_pos rfl] at this
        cases this
      · rw [if_neg hdd]
        refine h.no d fun k p hk hp => ?_
        have := hn k p hk hp
        rw [set_getD _ _ _ hlt] at this
        by_cases hki : k = i
        · subst hki; rw [if_pos rfl] at this; cases this
        · rwa [if_neg hki] at this
theorem Fits.same {v : Nat → Value} {a0 a b : Act} {la lb : Array Bool} (ha : Fits ops v a0 la a) (hb : Fits ops v a0 lb b) (h1 : ∀ k, k < ops.size → la.getD k false = true) (h2 : ∀ k, k < ops.size → lb.getD k false = true) : a = b := by
  have hs : a.tmps.size = b.tmps.size := by rw [ha.size, hb.size]
  have ht : a.tmps = b.tmps := by
    refine Array.ext hs fun d hd1 hd2 => ?_
    have key : a.tmps.getD d undef = b.tmps.getD d undef := by
      by_cases hex : ∃ (k : Nat) (o : Oper), ops[k]? = some o ∧ o.dst = some d
      · obtain ⟨k, o, hk, ho⟩ := hex
        have hkl := (Array.getElem?_eq_some_iff.1 hk).1
        rw [ha.yes k o d hk ho (h1 k hkl), hb.yes k o d hk ho (h2 k hkl)]
      · rw [ha.no d fun k o hk ho => absurd ⟨k, o, hk, ho⟩ hex, hb.no d fun k o hk ho => absurd ⟨k, o, hk, ho⟩ hex]
    simpa [hd1, hd2] using key
  have hdf : a.defers = b.defers := ha.defers.trans hb.defers.symm
  cases a
  cases b
  simp at ht hdf
  rw [ht, hdf]

/-- The lexical frame. -/
def final (ops : Array Oper) (v : Nat → Value) : Nat → Act → Act
  | 0, a => a
  | n + 1, a => (final ops v n a).put ((ops[n]?).bind fun o : Oper => o.dst) (v n)
theorem final_fits (v : Nat → Value) (a0 : Act) (hok : okB ops a0.tmps.size = true) : ∀ n, n ≤ ops.size → ∃ l : Array Bool, l.size = ops.size ∧ (∀ k, k < n → l.getD k false = true) ∧ Fits ops v a0 l (final ops v n a0)
  | 0, _ => ⟨_, by simp, fun k hk => by omega, Fits.start v a0⟩
  | n + 1, hn => by
    obtain ⟨l, h1, h2, h3⟩ := final_fits v a0 hok n (by omega)
    have hi : ops[n]? = some ops[n] := Array.getElem?_eq_getElem (by omega)
    have h4 := Fits.put hok hi h1 h3
    refine ⟨l.setIfInBounds n true, by simp [h1], fun k hk => ?_, ?_⟩
    · rw [set_getD _ _ _ (by omega)]
      by_cases hkn : k = n
      · rw [if_pos hkn]
      · rw [if_neg hkn]; exact h2 k (by omega)
    · show Fits ops v a0 _ ((final ops v n a0).put ((ops[n]?).bind fun o : Oper => o.dst) (v n))
      rw [hi]
      exact h4

def left (l : Array Bool) : Nat := l.toList.countP (· == false)
theorem left_set {l : Array Bool} {i : Nat} (hi : i < l.size) (h : l.getD i true = false) : left (l.setIfInBounds i true) + 1 = left l := by
  unfold left
  have h0 : l[i] = false := by simpa [hi] using h
  have h1 : i < l.toList.length := by simpa using hi
  have h2 : l.toList[i] = false := by simpa using h0
  have h3 : 0 < l.toList.countP (· == false) := List.countP_pos_iff.2 ⟨false, by rw [← h2]; exact List.getElem_mem h1, rfl⟩
  rw [Array.toList_setIfInBounds, List.countP_set h1, h2, if_pos (show (false == false) = true from rfl), if_neg (show ¬ (true == false) = true by decide)]
  omega
theorem left_zero {l : Array Bool} (h : left l = 0) {k : Nat} (hk : k < l.size) : l.getD k false = true := by
  unfold left at h
  have h1 := List.countP_eq_zero.1 h
  have h2 := h1 l[k] (by simp)
  simpa [hk] using h2

theorem left_new (n : Nat) : left (Array.replicate n false) = n := by
  unfold left
  rw [Array.toList_replicate, List.countP_replicate]
  rfl

/-- **One step of each operation, whenever it may come up, serves every order.** -/
theorem wpAny_phased {v : Nat → Value} {a0 : Act} {C : Array Bool → World → Prop} (hok : okB ops a0.tmps.size = true)
    (hstep : ∀ (i : Nat) (o : Oper), ops[i]? = some o → ∀ (listed : Array Bool) (a : Act) (W : World), listed.getD i true = false → (∀ e ∈ o.after, Region.binds md e = true → listed.getD e.on false = true) → Fits ops v a0 listed a → C listed W →
      ∀ K : Act → World → Prop, (∀ W', C (listed.setIfInBounds i true) W' → K (a.put o.dst (v i)) W') → o.wp P a W K Q)
    (hend : ∀ (listed : Array Bool) (W : World), (∀ k, k < ops.size → listed.getD k false = true) → C listed W → Q .normal (final ops v ops.size a0) W) :
    ∀ (fuel : Nat) (listed : Array Bool) (a : Act) (W : World), listed.size = ops.size → left listed = fuel → Fits ops v a0 listed a → C listed W → wpAny P md ops Q fuel listed a W := by
  have hall : ∀ (listed : Array Bool) (a : Act) (W : World), listed.size = ops.size → Fits ops v a0 listed a → C listed W → (∀ k, k < ops.size → listed.getD k false = true) → Q .normal a W := by
    intro listed a W hl hf hc hy
    obtain ⟨l, h1, h2, h3⟩ := final_fits v a0 hok ops.size (Nat.le_refl _)
    rw [Fits.same hf h3 hy h2]
    exact hend listed W hy hc
  have hready : ∀ (listed : Array Bool), listed.size = ops.size → Region.ready md ops listed = [] → ∀ k, k < ops.size → listed.getD k false = true := by
    intro listed hl hr k
    induction k using Nat.strongRecOn with
    | _ k ih =>
      intro hk
      have hi : ops[k]? = some ops[k] := Array.getElem?_eq_getElem hk
      obtain ⟨_, ha, _⟩ := okB_spec hok hi
      cases hb : listed.getD k false with
      | true => rfl
      | false =>
        have : k ∈ Region.ready md ops listed := by
          unfold Region.ready
          refine List.mem_filter.2 ⟨List.mem_range.2 hk, ?_⟩
          have hkl : k < listed.size := by omega
          have h0 : listed.getD k true = false := by
            have : listed[k] = false := by simpa [hkl] using hb
            simp [hkl, this]
          rw [h0, hi]
          simp only [Bool.not_false, Bool.true_and, Option.map_some, Option.getD_some]
          refine Array.all_eq_true_iff_forall_mem.2 fun e he => ?_
          rw [ih e.on (ha e he) (Nat.lt_trans (ha e he) hk), Bool.or_true]
        rw [hr] at this
        cases this
  intro fuel
  induction fuel with
  | zero =>
    intro listed a W hl hz hf hc
    have hy : ∀ k, k < ops.size → listed.getD k false = true := fun k hk => left_zero hz (by omega)
    refine ⟨?_, hall listed a W hl hf hc hy⟩
    unfold Region.ready
    refine List.filter_eq_nil_iff.2 fun i hi => ?_
    have hil := List.mem_range.1 hi
    have hil' : i < listed.size := by omega
    have h1 : listed[i] = true := by simpa [hil'] using hy i hil
    simp [hil', h1]
  | succ fuel ih =>
    intro listed a W hl hz hf hc
    refine ⟨fun hr => hall listed a W hl hf hc (hready listed hl hr), fun i hi => ?_⟩
    unfold Region.ready at hi
    obtain ⟨hi1, hi2⟩ := List.mem_filter.1 hi
    have hil := List.mem_range.1 hi1
    have ho : ops[i]? = some ops[i] := Array.getElem?_eq_getElem hil
    rw [ho] at hi2
    simp only [Bool.and_eq_true, Option.map_some, Option.getD_some, Bool.not_eq_true'] at hi2
    obtain ⟨hun, haf⟩ := hi2
    have hdeps : ∀ e ∈ ops[i].after, Region.binds md e = true → listed.getD e.on false = true := fun e he hb => by
      have := Array.all_eq_true_iff_forall_mem.1 haf e he
      rwa [hb, Bool.not_true, Bool.false_or] at this
    have hg := (okB_spec hok ho).1
    refine wpOp_step ho fun K hK => ?_
    have hw : Region.wanted ops[i] (yielded ops a.tmps) = true := by simp [Region.wanted, hg]
    rw [if_pos hw]
    refine hstep i ops[i] ho listed a W hun hdeps hf hc K fun W' hc' => hK _ _ ?_
    exact ih (listed.setIfInBounds i true) (a.put ops[i].dst (v i)) W' (by simp [hl]) (by have := left_set (l := listed) (i := i) (by omega) hun; omega) (Fits.put hok ho hl hf) hc'
theorem wp_region_phased {v : Nat → Value} {a0 : Act} {C : Array Bool → World → Prop} {id : Nat} {w : World} (hm : P.follows .mixedOrders = true) (hok : okB ops a0.tmps.size = true)
    (hC : C (Array.replicate ops.size false) { w with drawn := w.drawn + 1 })
    (hstep : ∀ (i : Nat) (o : Oper), ops[i]? = some o → ∀ (listed : Array Bool) (a : Act) (W : World), listed.getD i true = false → (∀ e ∈ o.after, Region.binds .any e = true → listed.getD e.on false = true) → Fits ops v a0 listed a → C listed W →
      ∀ K : Act → World → Prop, (∀ W', C (listed.setIfInBounds i true) W' → K (a.put o.dst (v i)) W') → o.wp P a W K Q)
    (hend : ∀ (listed : Array Bool) (W : World), (∀ k, k < ops.size → listed.getD k false = true) → C listed W → Q .normal (final ops v ops.size a0) W) :
    (Code.region id ops true).wp P Q a0 w :=
  wp_region_any hm (wpAny_phased hok hstep hend ops.size _ a0 _ (by simp) (left_new ops.size) (Fits.start v a0) hC)
end
end Go.Proofs.Ytephciglcikllaa.Phase
