/- A region that draws its order and whose operations' values do not hang on the order, though some of them write: what is asked is one step of each operation, at whatever moment it may come up, and what is given is the lexical frame. -/
import Derived.Orders
import Derived.RegionTactic
import Derived.KernelRfl
import Derived.Test.YtplbckibogmicaaGreatDoorOpKeepAll
import Derived.Deep.MidRow
import Derived.Test.YtplbckibogmicaaGreatDoorTreeGrows
import Derived.Lib.SlBytesConst
namespace Go.Proofs.YtplbckibogmicaaGreatDoor.Phase

section
variable {P : Program} {ops : Array Oper} {md : Region.Mode} {Q : Exit → Act → World → Prop}

/-- Each operation has no guard, waits for earlier ones only, and writes a slot of its own that is there. -/
def okB (ops : Array Oper) (n : Nat) : Bool :=
  (List.range ops.size).all fun i => match ops[i]? with
    | none => false
    | some o => o.guard.isNone && ((o.after.all fun e => decide (e.on < i)) && (match o.dst with
      | none => true
      | some d => decide (d < n) && (List.range ops.size).all fun k => k == i || match ops[k]? with
        | none => true
        | some p => p.dst != some d))

theorem okB_spec {n : Nat} (h : okB ops n = true) {i : Nat} {o : Oper} (hi : ops[i]? = some o) :
    o.guard = none ∧ (∀ e ∈ o.after, e.on < i) ∧ ∀ d, o.dst = some d → d < n ∧ ∀ k p, ops[k]? = some p → p.dst = some d → k = i := by
  have hlt : i < ops.size := (Array.getElem?_eq_some_iff.1 hi).1
  have h1 := List.all_eq_true.1 h i (List.mem_range.2 hlt)
  simp only [hi, Bool.and_eq_true] at h1
  obtain ⟨h2, h3, h4⟩ := h1
  refine ⟨by simpa using h2, fun e he => of_decide_eq_true (Array.all_eq_true_iff_forall_mem.1 h3 e he), fun d hd => ?_⟩
  rw [hd] at h4
  simp only [Bool.and_eq_true] at h4
  refine ⟨of_decide_eq_true h4.1, fun k p hk hp => ?_⟩
  have hkl : k < ops.size := (Array.getElem?_eq_some_iff.1 hk).1
  have h5 := List.all_eq_true.1 h4.2 k (List.mem_range.2 hkl)
  simp only [hk, hp, Bool.or_eq_true, beq_iff_eq] at h5
  rcases h5 with h5 | h5
  · exact h5
  · simp at h5

/-- The frame is what these operations made of a0. -/
structure Fits (ops : Array Oper) (v : Nat → Value) (a0 : Act) (listed : Array Bool) (a : Act) : Prop where
  defers : a.defers = a0.defers
  size : a.tmps.size = a0.tmps.size
  yes : ∀ k o d, ops[k]? = some o → o.dst = some d → listed.getD k false = true → a.tmps.getD d undef = v k
  no : ∀ d, (∀ k o, ops[k]? = some o → o.dst = some d → listed.getD k false = false) → a.tmps.getD d undef = a0.tmps.getD d undef

theorem getD_rep (n k : Nat) : (Array.replicate n false).getD k false = false := by
  by_cases h : k < n <;> simp [h]
theorem Fits.start (v : Nat → Value) (a0 : Act) : Fits ops v a0 (Array.replicate ops.size false) a0 :=
  ⟨rfl, rfl, (fun k o d _ _ h => by rw [getD_rep] at h; cases h), fun _ _ => rfl⟩
theorem put_getD (a : Act) (d : Nat) (v : Value) (e : Nat) (h : d < a.tmps.size) : (a.put (some d) v).tmps.getD e undef = if e = d then v else a.tmps.getD e undef := by
  unfold Act.put
  by_cases he : e = d
  · subst he; simp [h]
  · rw [if_neg he]
    simp only [Array.getD_eq_getD_getElem?]
    rw [Array.getElem?_setIfInBounds_ne (fun h => he h.symm)]
theorem set_getD (l : Array Bool) (i k : Nat) (h : i < l.size) : (l.setIfInBounds i true).getD k false = if k = i then true else l.getD k false := by
  by_cases he : k = i
  · subst he; simp [h]
  · rw [if_neg he]
    simp only [Array.getD_eq_getD_getElem?]
    rw [Array.getElem?_setIfInBounds_ne (fun h => he h.symm)]
theorem Fits.put {v : Nat → Value} {a0 a : Act} {listed : Array Bool} {i : Nat} {o : Oper} (hok : okB ops a0.tmps.size = true) (hi : ops[i]? = some o) (hl : listed.size = ops.size) (h : Fits ops v a0 listed a) :
    Fits ops v a0 (listed.setIfInBounds i true) (a.put o.dst (v i)) := by
  have hlt : i < listed.size := by rw [hl]; exact (Array.getElem?_eq_some_iff.1 hi).1
  obtain ⟨_, _, hd⟩ := okB_spec hok hi
  cases hdst : o.dst with
  | none =>
    refine ⟨h.defers, h.size, fun k p d hk hp hlk => ?_, fun d hn => ?_⟩
    · rw [set_getD _ _ _ hlt] at hlk
      by_cases hki : k = i
      · subst hki; rw [hi] at hk; injection hk with hk; subst hk; rw [hdst] at hp; cases hp
      · rw [if_neg hki] at hlk; exact h.yes k p d hk hp hlk
    · refine h.no d fun k p hk hp => ?_
      have := hn k p hk hp
      rw [set_getD _ _ _ hlt] at this
      by_cases hki : k = i
      · subst hki; rw [if_pos rfl] at this; cases this
      · rwa [if_neg hki] at this
  | some d0 =>
    obtain ⟨hd1, hd2⟩ := hd d0 hdst
    have hd1' : d0 < a.tmps.size := by rw [h.size]; exact hd1
    refine ⟨h.defers, by unfold Act.put; simp [h.size], fun k p d hk hp hlk => ?_, fun d hn => ?_⟩
    · rw [put_getD _ _ _ _ hd1']
      rw [set_getD _ _ _ hlt] at hlk
      by_cases hdd : d = d0
      · subst hdd
        rw [if_pos rfl, hd2 k p hk hp]
      · rw [if_neg hdd]
        by_cases hki : k = i
        · subst hki; rw [hi] at hk; injection hk with hk; subst hk; rw [hdst] at hp; injection hp with hp; exact absurd hp.symm hdd
        · rw [if_neg hki] at hlk; exact h.yes k p d hk hp hlk
    · rw [put_getD _ _ _ _ hd1']
      by_cases hdd : d = d0
      · subst hdd
        have := hn i o hi hdst
        rw [set_getD _ _ _ hlt, if_pos rfl] at this
        cases this
      · rw [if_neg hdd]
        refine h.no d fun k p hk hp => ?_
        have := hn k p hk hp
        rw [set_getD _ _ _ hlt] at this
        by_cases hki : k = i
        · subst hki; rw [if_pos rfl] at this; cases this
        · rwa [if_neg hki] at this
theorem Fits.same {v : Nat → Value} {a0 a b : Act} {la lb : Array Bool} (ha : Fits ops v a0 la a) (hb : Fits ops v a0 lb b) (h1 : ∀ k, k < ops.size → la.getD k false = true) (h2 : ∀ k, k < ops.size → lb.getD k false = true) : a = b := by
  have hs : a.tmps.size = b.tmps.size := by rw [ha.size, hb.size]
  have ht : a.tmps = b.tmps := by
    refine Array.ext hs fun d hd1 hd2 => ?_
    have key : a.tmps.getD d undef = b.tmps.getD d undef := by
      by_cases hex : ∃ (k : Nat) (o : Oper), ops[k]? = some o ∧ o.dst = some d
      · obtain ⟨k, o, hk, ho⟩ := hex
        have hkl := (Array.getElem?_eq_some_iff.1 hk).1
        rw [ha.yes k o d hk ho (h1 k hkl), hb.yes k o d hk ho (h2 k hkl)]
      · rw [ha.no d fun k o hk ho => absurd ⟨k, o, hk, ho⟩ hex, hb.no d fun k o hk ho => absurd ⟨k, o, hk, ho⟩ hex]
    simpa [hd1, hd2] using key
  have hdf : a.defers = b.defers := ha.defers.trans hb.defers.symm
  cases a
  cases b
  simp at ht hdf
  rw [ht, hdf]

/-- The lexical frame. -/
def final (ops : Array Oper) (v : Nat → Value) : Nat → Act → Act
  | 0, a => a
  | n + 1, a => (final ops v n a).put ((ops[n]?).bind fun o : Oper => o.dst) (v n)
theorem final_fits (v : Nat → Value) (a0 : Act) (hok : okB ops a0.tmps.size = true) : ∀ n, n ≤ ops.size → ∃ l : Array Bool, l.size = ops.size ∧ (∀ k, k < n → l.getD k false = true) ∧ Fits ops v a0 l (final ops v n a0)
  | 0, _ => ⟨_, by simp, fun k hk => by omega, Fits.start v a0⟩
  | n + 1, hn => by
    obtain ⟨l, h1, h2, h3⟩ := final_fits v a0 hok n (by omega)
    have hi : ops[n]? = some ops[n] := Array.getElem?_eq_getElem (by omega)
    have h4 := Fits.put hok hi h1 h3
    refine ⟨l.setIfInBounds n true, by simp [h1], fun k hk => ?_, ?_⟩
    · rw [set_getD _ _ _ (by omega)]
      by_cases hkn : k = n
      · rw [if_pos hkn]
      · rw [if_neg hkn]; exact h2 k (by omega)
    · show Fits ops v a0 _ ((final ops v n a0).put ((ops[n]?).bind fun o : Oper => o.dst) (v n))
      rw [hi]
      exact h4

def left (l : Array Bool) : Nat := l.toList.countP (· == false)
theorem left_set {l : Array Bool} {i : Nat} (hi : i < l.size) (h : l.getD i true = false) : left (l.setIfInBounds i true) + 1 = left l := by
  unfold left
  have h0 : l[i] = false := by simpa [hi] using h
  have h1 : i < l.toList.length := by simpa using hi
  have h2 : l.toList[i] = false := by simpa using h0
  have h3 : 0 < l.toList.countP (· == false) := List.countP_pos_iff.2 ⟨false, by rw [← h2]; exact List.getElem_mem h1, rfl⟩
  rw [Array.toList_setIfInBounds, List.countP_set h1, h2, if_pos (show (false == false) = true from rfl), if_neg (show ¬ (true == false) = true by decide)]
  omega
theorem left_zero {l : Array Bool} (h : left l = 0) {k : Nat} (hk : k < l.size) : l.getD k false = true := by
  unfold left at h
  have h1 := List.countP_eq_zero.1 h
  have h2 := h1 l[k] (by simp)
  simpa [hk] using h2

theorem left_new (n : Nat) : left (Array.replicate n false) = n := by
  unfold left
  rw [Array.toList_replicate, List.countP_replicate]
  rfl

/-- **One step of each operation, whenever it may come up, serves every order.** -/
theorem wpAny_phased {v : Nat → Value} {a0 : Act} {C : Array Bool → World → Prop} (hok : okB ops a0.tmps.size = true)
    (hstep : ∀ (i : Nat) (o : Oper), ops[i]? = some o → ∀ (listed : Array Bool) (a : Act) (W : World), listed.getD i true = false → (∀ e ∈ o.after, Region.binds md e = true → listed.getD e.on false = true) → Fits ops v a0 listed a → C listed W →
      ∀ K : Act → World → Prop, (∀ W', C (listed.setIfInBounds i true) W' → K (a.put o.dst (v i)) W') → o.wp P a W K Q)
    (hend : ∀ (listed : Array Bool) (W : World), (∀ k, k < ops.size → listed.getD k false = true) → C listed W → Q .normal (final ops v ops.size a0) W) :
    ∀ (fuel : Nat) (listed : Array Bool) (a : Act) (W : World), listed.size = ops.size → left listed = fuel → Fits ops v a0 listed a → C listed W → wpAny P md ops Q fuel listed a W := by
  have hall : ∀ (listed : Array Bool) (a : Act) (W : World), listed.size = ops.size → Fits ops v a0 listed a → C listed W → (∀ k, k < ops.size → listed.getD k false = true) → Q .normal a W := by
    intro listed a W hl hf hc hy
    obtain ⟨l, h1, h2, h3⟩ := final_fits v a0 hok ops.size (Nat.le_refl _)
    rw [Fits.same hf h3 hy h2]
    exact hend listed W hy hc
  have hready : ∀ (listed : Array Bool), listed.size = ops.size → Region.ready md ops listed = [] → ∀ k, k < ops.size → listed.getD k false = true := by
    intro listed hl hr k
    induction k using Nat.strongRecOn with
    | _ k ih =>
      intro hk
      have hi : ops[k]? = some ops[k] := Array.getElem?_eq_getElem hk
      obtain ⟨_, ha, _⟩ := okB_spec hok hi
      cases hb : listed.getD k false with
      | true => rfl
      | false =>
        have : k ∈ Region.ready md ops listed := by
          unfold Region.ready
          refine List.mem_filter.2 ⟨List.mem_range.2 hk, ?_⟩
          have hkl : k < listed.size := by omega
          have h0 : listed.getD k true = false := by
            have : listed[k] = false := by simpa [hkl] using hb
            simp [hkl, this]
          rw [h0, hi]
          simp only [Bool.not_false, Bool.true_and, Option.map_some, Option.getD_some]
          refine Array.all_eq_true_iff_forall_mem.2 fun e he => ?_
          rw [ih e.on (ha e he) (Nat.lt_trans (ha e he) hk), Bool.or_true]
        rw [hr] at this
        cases this
  intro fuel
  induction fuel with
  | zero =>
    intro listed a W hl hz hf hc
    have hy : ∀ k, k < ops.size → listed.getD k false = true := fun k hk => left_zero hz (by omega)
    refine ⟨?_, hall listed a W hl hf hc hy⟩
    unfold Region.ready
    refine List.filter_eq_nil_iff.2 fun i hi => ?_
    have hil := List.mem_range.1 hi
    have hil' : i < listed.size := by omega
    have h1 : listed[i] = true := by simpa [hil'] using hy i hil
    simp [hil', h1]
  | succ fuel ih =>
    intro listed a W hl hz hf hc
    refine ⟨fun hr => hall listed a W hl hf hc (hready listed hl hr), fun i hi => ?_⟩
    unfold Region.ready at hi
    obtain ⟨hi1, hi2⟩ := List.mem_filter.1 hi
    have hil := List.mem_range.1 hi1
    have ho : ops[i]? = some ops[i] := Array.getElem?_eq_getElem hil
    rw [ho] at hi2
    simp only [Bool.and_eq_true, Option.map_some, Option.getD_some, Bool.not_eq_true'] at hi2
    obtain ⟨hun, haf⟩ := hi2
    have hdeps : ∀ e ∈ ops[i].after, Region.binds md e = true → listed.getD e.on false = true := fun e he hb => by
      have := Array.all_eq_true_iff_forall_mem.1 haf e he
      rwa [hb, Bool.not_true, Bool.false_or] at this
    have hg := (okB_spec hok ho).1
    refine wpOp_step ho fun K hK => ?_
    have hw : Region.wanted ops[i] (yielded ops a.tmps) = true := by simp [Region.wanted, hg]
    rw [if_pos hw]
    refine hstep i ops[i] ho listed a W hun hdeps hf hc K fun W' hc' => hK _ _ ?_
    exact ih (listed.setIfInBounds i true) (a.put ops[i].dst (v i)) W' (by simp [hl]) (by have := left_set (l := listed) (i := i) (by omega) hun; omega) (Fits.put hok ho hl hf) hc'
theorem wp_region_phased {v : Nat → Value} {a0 : Act} {C : Array Bool → World → Prop} {id : Nat} {w : World} (hm : P.follows .mixedOrders = true) (hok : okB ops a0.tmps.size = true)
    (hC : C (Array.replicate ops.size false) { w with drawn := w.drawn + 1 })
    (hstep : ∀ (i : Nat) (o : Oper), ops[i]? = some o → ∀ (listed : Array Bool) (a : Act) (W : World), listed.getD i true = false → (∀ e ∈ o.after, Region.binds .any e = true → listed.getD e.on false = true) → Fits ops v a0 listed a → C listed W →
      ∀ K : Act → World → Prop, (∀ W', C (listed.setIfInBounds i true) W' → K (a.put o.dst (v i)) W') → o.wp P a W K Q)
    (hend : ∀ (listed : Array Bool) (W : World), (∀ k, k < ops.size → listed.getD k false = true) → C listed W → Q .normal (final ops v ops.size a0) W) :
    (Code.region id ops true).wp P Q a0 w :=
  wp_region_any hm (wpAny_phased hok hstep hend ops.size _ a0 _ (by simp) (left_new ops.size) (Fits.start v a0) hC)
end
end Go.Proofs.YtplbckibogmicaaGreatDoor.Phase

namespace Go.Proofs.YtplbckibogmicaaGreatDoor.Phase
open Go.RowKit Path Opn

theorem any_mem {α : Type} {p : α → Bool} {xs : Array α} (h : xs.any p = true) : ∃ a, a ∈ xs ∧ p a = true := by
  obtain ⟨i, hi, h⟩ := Array.any_eq_true.1 h
  exact ⟨xs[i], Array.getElem_mem hi, h⟩
def Steps (R : Nat → Oper → Prop) : Nat → List Oper → Prop
  | _, [] => True
  | i, o :: l => R i o ∧ Steps R (i + 1) l
theorem Steps.get {R : Nat → Oper → Prop} : ∀ {l : List Oper} {i k : Nat} {o : Oper}, Steps R i l → l[k]? = some o → R (i + k) o
  | [], _, _, _, _, h => by simp at h
  | p :: l, i, 0, o, hs, h => by
    simp at h
    subst h
    exact hs.1
  | p :: l, i, k + 1, o, hs, h => by
    have := Steps.get hs.2 (by simpa using h)
    rwa [show i + 1 + k = i + (k + 1) by omega] at this

theorem steps_cons {R : Nat → Oper → Prop} {i : Nat} {o : Oper} {l : List Oper} (h : R i o) (hs : Steps R (i + 1) l) : Steps R i (o :: l) := ⟨h, hs⟩
theorem steps_nil {R : Nat → Oper → Prop} {i : Nat} : Steps R i [] := trivial
theorem there_of {w : World} {g : Nat} {t : TypeId} {cs : List Value} (h : Bk w g t cs.toArray) (n : Nat) (hn : n = cs.length) : w.there g 0 n := fun j hj => by
  rw [Nat.zero_add]
  exact ⟨by rw [h.cell, List.getElem?_toArray, List.getElem?_eq_getElem (by omega)]; rfl, h.frozen _⟩

/-- What the frame holds when operation o may come up: what it waits for is done, and what no operation writes is as it was. -/
structure Dep (l : List Oper) (v : Nat → Value) (a0 : Act) (o : Oper) (a : Act) : Prop where
  done_ : ∀ (k : Nat) (p : Oper) (d : Nat), (o.after.any fun e => e.on == k && Region.binds .any e) = true → l[k]? = some p → p.dst = some d → a.tmps.getD d undef = v k
  kept : ∀ d, (l.all fun p => p.dst != some d) = true → a.tmps.getD d undef = a0.tmps.getD d undef

section
variable {P : Program} {Q : Exit → Act → World → Prop}
/-- The law. al: the operation that makes the block; st: the one that stores; all others leave the world as it is. -/
theorem wp_region_box {l : List Oper} (v : Nat → Value) {a0 : Act} {id : Nat} {w : World} (al st : Nat) (T : TypeId) (zeros cells : List Value) (hm : P.follows .mixedOrders = true) (hok : okB l.toArray a0.tmps.size = true) (hne : al ≠ st) (hst : st < l.length)
    (hlen : zeros.length = cells.length)
    (hsteps : Steps (fun i o => ∀ (a : Act) (W : World), Dep l v a0 o a → Below w.heap.size w W → (i = al → W.heap.size = w.heap.size) → (i = st → Bk W w.heap.size T zeros.toArray) →
      ∀ K : Act → World → Prop, (∀ W', (i ≠ al → i ≠ st → W' = W) → (i = al → W' = W.alloc (.cells zeros.toArray T)) → (i = st → W' = W.setCells w.heap.size 0 cells) → K (a.put o.dst (v i)) W') → o.wp P a W K Q) 0 l)
    (hdep : ∀ o, l[st]? = some o → (o.after.any fun e => e.on == al && Region.binds .any e) = true)
    (F : Act) (hF : final l.toArray v l.length a0 = F)
    (hend : ∀ W, Below w.heap.size w W → w.heap.size < W.heap.size → Bk W w.heap.size T cells.toArray → Q .normal F W) :
    (Code.region id l.toArray true).wp P Q a0 w := by
  refine wp_region_phased (v := v) (C := fun listed W => Below w.heap.size w W ∧ (listed.getD al false = false → W.heap.size = w.heap.size) ∧ (listed.getD al false = true → Bk W w.heap.size T (if listed.getD st false = true then cells else zeros).toArray) ∧ (listed.getD st false = true → listed.getD al false = true) ∧ listed.size = l.length)
    hm hok ⟨(Below.refl w.heap.size w).drew, fun _ => rfl, fun h => ?_, fun h => ?_, by simp⟩ ?_ ?_
  · rw [getD_rep] at h; cases h
  · rw [getD_rep] at h; cases h
  · intro i o hi listed a W hun hdeps hf hC K hK
    obtain ⟨hb, hC1, hC2, hC3, hC4⟩ := hC
    have hil : l[i]? = some o := by simpa using hi
    have hlt : i < l.length := (List.getElem?_eq_some_iff.1 hil).1
    have hltl : i < listed.size := by omega
    have hunf : listed.getD i false = false := by
      have : listed[i] = false := by simpa [hltl] using hun
      simp [hltl, this]
    have hD : Dep l v a0 o a := ⟨fun k p d hk hp hd => by
        obtain ⟨e, he, hek⟩ := any_mem hk
        simp only [Bool.and_eq_true, beq_iff_eq] at hek
        have := hdeps e he hek.2
        rw [hek.1] at this
        exact hf.yes k p d (by simpa using hp) hd this,
      fun d hd => hf.no d fun k p hk hp => by
        have hk' : l[k]? = some p := by simpa using hk
        have := List.all_eq_true.1 hd p (List.mem_of_getElem? hk')
        rw [hp] at this
        simp at this⟩
    have hS := Steps.get hsteps hil
    rw [Nat.zero_add] at hS
    refine hS a W hD hb (fun h => hC1 (by rw [← h]; exact hunf)) (fun h => ?_) K fun W' h1 h2 h3 => hK W' ?_
    · -- the store
      subst h
      have h4 := hdep o hil
      obtain ⟨e, he, hek⟩ := any_mem h4
      simp only [Bool.and_eq_true, beq_iff_eq] at hek
      have h5 := hdeps e he hek.2
      rw [hek.1] at h5
      have h6 := hC2 h5
      rw [hunf] at h6
      exact h6
    · have hg : ∀ k, (listed.setIfInBounds i true).getD k false = if k = i then true else listed.getD k false := fun k => set_getD _ _ _ hltl
      by_cases ha : i = al
      · subst ha
        have hW := h2 rfl
        subst hW
        have hz := hC1 hunf
        have hstf : listed.getD st false = false := by
          cases h : listed.getD st false with
          | false => rfl
          | true => rw [hC3 h] at hunf; cases hunf
        refine ⟨hb.alloc hb.size _, fun h => ?_, fun _ => ?_, fun _ => ?_, by simpa using hC4⟩
        · rw [hg, if_pos rfl] at h; cases h
        · rw [hg, if_neg (Ne.symm hne), hstf, ← hz]
          exact Bk.new _ _ _
        · rw [hg, if_pos rfl]
      · by_cases hs : i = st
        · subst hs
          have hW := h3 rfl
          subst hW
          have h4 := hdep o hil
          obtain ⟨e, he, hek⟩ := any_mem h4
          simp only [Bool.and_eq_true, beq_iff_eq] at hek
          have h5 := hdeps e he hek.2
          rw [hek.1] at h5
          have h6 := hC2 h5
          rw [hunf] at h6
          have h7 : Bk W w.heap.size T zeros.toArray := h6
          have h8 := bk_setCells cells 0 W zeros h7 (by omega)
          rw [Nat.zero_add, List.take_zero, List.nil_append, ← hlen, List.drop_length, List.append_nil] at h8
          refine ⟨?_, fun h => ?_, fun _ => ?_, fun _ => ?_, by simpa using hC4⟩
          · have ho := out_setCells 0 cells h7.lt
            exact ⟨ho.os.trans hb.os, ho.tape.trans hb.tape, ho.output.trans hb.output, Nat.le_trans hb.size ho.size, fun k hk => (ho.block k (Nat.lt_of_lt_of_le hk hb.size) (by omega)).trans (hb.block k hk)⟩
          · rw [hg, if_neg (Ne.symm ha), h5] at h; cases h
          · rw [hg, if_pos rfl, if_pos rfl]
            exact h8
          · rw [hg, if_neg (Ne.symm ha)]
            exact h5
        · have hW := h1 ha hs
          subst hW
          refine ⟨hb, fun h => ?_, fun h => ?_, fun h => ?_, by simpa using hC4⟩
          · rw [hg, if_neg (Ne.symm ha)] at h; exact hC1 h
          · rw [hg, if_neg (Ne.symm ha)] at h
            rw [hg, if_neg (Ne.symm hs)]
            exact hC2 h
          · rw [hg, if_neg (Ne.symm hs)] at h
            rw [hg, if_neg (Ne.symm ha)]
            exact hC3 h
  · intro listed W hall hC
    obtain ⟨hb, hC1, hC2, hC3, hC4⟩ := hC
    have h1 := hall st (by simpa using hst)
    have h2 := hC3 h1
    have h3 := hC2 h2
    rw [if_pos h1] at h3
    have h4 := hend W hb h3.lt h3
    rw [← hF] at h4
    simpa using h4
end
end Go.Proofs.YtplbckibogmicaaGreatDoor.Phase

namespace Go.Proofs.YtplbckibogmicaaGreatDoor.Opn
open Go.RowKit Path Tree Phase

def zeroW : List Value := [.pointer none, .int .u64 0, .int .u8 0, .string ByteArray.empty, nilS, .int .i64 0, .bool false, .bool false, nilS, .int .i64 0, .int .u32 0, nilS, .int .i64 0, .string ByteArray.empty, nilS, .int .u32 0, .int .u32 0, .int .u32 0, .int .i64 0, .int .u32 0, .int .u64 0, .int .u64 0, .int .u64 0, nilS, nilS]
/-- What Do leaves, when no part is asked. -/
def DoPost (x : List Ef × R1) (w : World) (e : Ending) (w' : World) : Prop :=
  Below w.heap.size w w' ∧ ∃ A k c A2 k2 c2 A3 k3 c3, e = .returned (.tuple #[.slice A k c, rpV x.2 (.slice A2 k2 c2) (.slice A3 k3 c3) nilS]) ∧ OwnE (fun j => w.heap.size ≤ j) w' (.slice A k c) x.1 ∧ DataS (fun j => w.heap.size ≤ j) w' (.slice A2 k2 c2) x.2.node.data ∧ TextS (fun j => w.heap.size ≤ j) w' (.slice A3 k3 c3) x.2.kids
theorem chk_one {o : O1} {os : List O1} (h : chk o os = 0) (hk : o.kind < 7) : 1 ≤ o.kind := by
  unfold chk at h
  by_cases h1 : isSingle o = false ∧ isMulti o os = false
  · rw [if_pos h1] at h; cases h
  · by_cases h2 : isSingle o = true
    · unfold isSingle at h2
      exact (of_decide_eq_true h2).1
    · have h3 : isMulti o os = true := by
        cases h4 : isMulti o os with
        | true => rfl
        | false => exact absurd ⟨by simpa using h2, h4⟩ h1
      unfold isMulti at h3
      simp only [Bool.and_eq_true, decide_eq_true_eq] at h3
      omega
theorem results_tmp_row {P : Program} {fn : Func} {p u : Tmp} {ty : TypeId} (h : fn.results = #[.tmp u, .cell p ty]) (tmps : Array Value) (w : World) (g : Nat) (t : TypeId) (cs : Array Value) (fr : Nat × Nat) (d : TypeDesc)
    (hp : tmps.getD p undef = .pointer (some ⟨g, 0, none⟩)) (hg : w.heap[g]? = some (.cells cs t fr))
    (hu : P.underlying ty = some d) (hd : (match d with | .struct _ | .array _ _ => true | _ => false) = true) (hi : (P.info? ty).map (·.size) = some cs.size) :
    (results fn tmps).run P w = .ok (.tuple #[tmps.getD u undef, .agg cs]) w := by
  have hp' : tmps[p]?.getD undef = .pointer (some ⟨g, 0, none⟩) := by simpa using hp
  simp [results, h, hp', asAddr, run_loadVar_row w g t ty cs fr d hg hu hd hi, Result.andThen]
theorem size_reply : (Tryz.prog.info? 51).map (·.size) = some 13 := by kernel_rfl
theorem size_work : (Tryz.prog.info? 104).map (·.size) = some 25 := by kernel_rfl
theorem At_same (i : Nat) (a : Addr) (t : TR) (w : World) (L : List (Addr × TR)) (X : Nat → Prop) (hT : Trees w L X) (hi : L[i]? = some (a, t)) :
    Calls Tryz.prog 31 #[.pointer (some a)] w fun e w' => e = .returned (.int .u64 (t.cnt : Int)) ∧ w' = w := by
  obtain ⟨D, g, b, rfl, ht⟩ := hT.at_ hi
  exact At_at w ht
theorem store_reply2 {w1 : World} {M : Nat} {cur : Array Value} (hk : Bk w1 M 51 cur) (hc : cur.size = 13) (cells : List Value) (hl : cells.length = 13) :
    Bk (w1.setCells M 0 cells) M 51 cells.toArray ∧ Out (· = M) w1 (w1.setCells M 0 cells) := by
  refine ⟨?_, out_setCells 0 cells hk.lt⟩
  have h8 := bk_setCells cells 0 w1 cur.toList (by simpa using hk) (by simp; omega)
  rw [Nat.zero_add, List.take_zero, List.nil_append, List.drop_of_length_le (by simp; omega), List.append_nil] at h8
  exact h8
theorem store_reply {w W0 w1 : World} {N : Nat} {cur : Array Value} (h1 : Below W0.heap.size W0 w1) (h0 : Below w.heap.size w W0) (hN : N = w.heap.size) (hk : Bk w1 (N + 1 + 1) 51 cur) (hc : cur.size = 13) (cells : List Value) (hl : cells.length = 13) :
    Bk (w1.setCells (N + 1 + 1) 0 cells) (N + 1 + 1) 51 cells.toArray ∧ Below w.heap.size w (w1.setCells (N + 1 + 1) 0 cells) := by
  have hb := h0.trans (h1.mono h0.size)
  have ho := out_setCells 0 cells hk.lt
  refine ⟨?_, ⟨ho.os.trans hb.os, ho.tape.trans hb.tape, ho.output.trans hb.output, Nat.le_trans hb.size ho.size, fun k hk' => (ho.block k (Nat.lt_of_lt_of_le hk' hb.size) (by omega)).trans (hb.block k hk')⟩⟩
  have h8 := bk_setCells cells 0 w1 cur.toList (by simpa using hk) (by simp; omega)
  rw [Nat.zero_add, List.take_zero, List.nil_append, List.drop_of_length_le (by simp; omega), List.append_nil] at h8
  exact h8
set_option maxRecDepth 100000 in
set_option maxHeartbeats 1000000 in
theorem Do_one {P : Nat → Prop} (i : Nat) (t : TR) (L : List (Addr × TR)) (X : Nat → Prop) (tp : Addr) (o : O1) (D : Option Addr) (m cD : Nat) (A : Option Addr) (c : Nat) (os : List O1) (who : Who) (w : World) (hT : Trees w L X) (hi : L[i]? = some (tp, t)) (hS : OpS P w A o.np os) (hn : o.np ≤ 1000000) (hm : o.data.length = m) (hd : DataS P w (.slice D m cD) o.data)
    (hp : o.path.length ≤ 100000) (hr : t.root.length ≤ 1000000) (ht : Tab w) (hf : FineT t) (hlen : o.data.length ≤ 1000000) (hk : o.kind < 7) :
    Calls Tryz.prog 23 #[.pointer (some tp), opV o (.slice D m cD) (.slice A o.np c), whoV who] w (DoPost (if chk o os ≠ 0 then ([], .no (chk o os)) else single t ((t.cnt + 1 : Nat) % 18446744073709551616 : Nat) who o) w) := by
  obtain ⟨RES, hres⟩ : ∃ RES : Ending → World → Prop, RES = DoPost (if chk o os ≠ 0 then ([], .no (chk o os)) else single t ((t.cnt + 1 : Nat) % 18446744073709551616 : Nat) who o) w := ⟨_, rfl⟩
  rw [← hres]
  have HRES := Lib.hid hres
  obtain ⟨W0, hW0⟩ : ∃ W0, W0 = ((w.alloc (.cells (opC o (.slice D m cD) (.slice A o.np c)).toArray 56)).alloc (.cells (whoC who).toArray 36)).alloc (.cells (rpC (.no 0) nilS nilS nilS).toArray 51) := ⟨_, rfl⟩
  have hb1 : Below w.heap.size w (w.alloc (.cells (opC o (.slice D m cD) (.slice A o.np c)).toArray 56)) := (Below.refl w.heap.size w).alloc (Nat.le_refl _) _
  have hb2 : Below w.heap.size w ((w.alloc (.cells (opC o (.slice D m cD) (.slice A o.np c)).toArray 56)).alloc (.cells (whoC who).toArray 36)) := hb1.alloc hb1.size _
  have HB0 : Hid (Below w.heap.size w W0) := by show Below _ _ _; rw [hW0]; exact hb2.alloc hb2.size _
  have HK0 : Hid (Bk W0 w.heap.size 56 (opC o (.slice D m cD) (.slice A o.np c)).toArray) := by show Bk _ _ _ _; rw [hW0]; exact ((Bk.new w _ _).alloc _).alloc _
  have HK1 : Hid (Bk W0 (w.heap.size + 1) 36 (whoC who).toArray) := by
    show Bk _ _ _ _
    rw [hW0]
    have := (Bk.new (w.alloc (.cells (opC o (.slice D m cD) (.slice A o.np c)).toArray 56)) 36 (whoC who).toArray).alloc (.cells (rpC (.no 0) nilS nilS nilS).toArray 51)
    simpa using this
  have HK2 : Hid (Bk W0 (w.heap.size + 2) 51 (rpC (.no 0) nilS nilS nilS).toArray) := by
    show Bk _ _ _ _
    rw [hW0]
    have := Bk.new ((w.alloc (.cells (opC o (.slice D m cD) (.slice A o.np c)).toArray 56)).alloc (.cells (whoC who).toArray 36)) 51 (rpC (.no 0) nilS nilS nilS).toArray
    simpa using this
  have HSZ : Hid (W0.heap.size = w.heap.size + 3) := by show _ = _; rw [hW0]; simp
  have cc := check_any o os D m cD A c W0 hm (hS.below HB0.out) hn
  obtain ⟨z, hz⟩ : ∃ z, z = chk o os := ⟨_, rfl⟩
  rw [← hz] at cc HRES
  have HZ := Lib.hid hz
  have HT := Lib.hid hT
  have HI := Lib.hid hi
  have HD := Lib.hid hd
  have HRT := Lib.hid hr
  have HTB := Lib.hid ht
  have HF := Lib.hid hf
  have HLEN := Lib.hid hlen
  have HKD := Lib.hid hk
  have HP := Lib.hid hp
  have k0 := HK0.out.cell
  have r0 := HK2.out.cell
  unfold opV whoV
  unfold opV at cc
  have hs0 : S [] = (⟨#[]⟩ : ByteArray) := rfl
  dsimp only [opC, whoC, rpC, znC, R1.no, ZN.zero, nilS] at hW0 cc k0 r0 HK0 HK1 HK2 ⊢
  simp only [hs0, List.cons_append, List.nil_append] at hW0
  have HK2 : Hid (Bk W0 (w.heap.size + 1 + 1) 51 #[.int .i64 0, .string ⟨#[]⟩, .slice none 0 0, .int .u32 0, .int .u32 0, .int .u32 0, .int .i64 0, .int .u32 0, .int .u64 0, .int .u64 0, .int .u64 0, .slice none 0 0, .slice none 0 0]) := HK2.out
  clear hres hb1 hb2 hz hT hi hS hn hm hd hp hr ht hf hlen hk hs0 k0 r0
  obtain ⟨sp, hsp⟩ : ∃ sp, sp = S o.path := ⟨_, rfl⟩
  have HSP := Lib.hid hsp
  rw [← hsp] at hW0 cc HK0 ⊢
  clear hsp
  obtain ⟨N, hN⟩ : ∃ N, N = w.heap.size := ⟨_, rfl⟩
  have HN := Lib.hid hN
  go_enter Tryz.func23, Tryz.ntmps23
  go_wp2_with fail
  rw [← hW0, ← hN]
  rw [← hN] at HK0 HK1 HK2
  refine cc.mono ?_
  rintro e w1 ⟨rfl, hb⟩
  have B1 := Lib.hid hb
  have HJ0 := Lib.hid (HK0.out.below hb)
  have HJ1 := Lib.hid (HK1.out.below hb)
  have HJ2 := Lib.hid (HK2.out.below hb)
  clear hb cc hW0 hN HK0 HK1 HK2
  by_cases h0 : z = 0
  · subst h0
    have kc := HJ0.out.cell
    have kd := HJ1.out.cell
    go_wp2_with fail
    obtain ⟨at_, hat⟩ : ∃ at_ : Int, at_ = ((t.cnt + 1 : Nat) % 18446744073709551616 : Nat) := ⟨_, rfl⟩
    have HAT := Lib.hid hat
    have HCELL : Hid (wk0 tp at_ o (.slice D m cD) (.slice A o.np c) who = [.pointer (some tp), .int .u64 at_, .int .u8 o.kind, .string sp, .slice D m cD, .int .i64 o.ver, .bool o.seq, .bool o.eph, .slice A o.np c, .int .i64 who.site, .int .u32 who.n, .slice none 0 0, .int .i64 0, .string ⟨#[]⟩, .slice none 0 0, .int .u32 0, .int .u32 0, .int .u32 0, .int .i64 0, .int .u32 0, .int .u64 0, .int .u64 0, .int .u64 0, .slice none 0 0, .slice none 0 0]) := by
      show _ = _
      rw [HSP.out]
      rfl
    have hwr : IntKind.u64.wrap ((t.cnt : Int) + 1) = at_ := by
      have e : IntKind.u64.wrap ((t.cnt : Int) + 1) = ((t.cnt : Int) + 1) % 18446744073709551616 := rfl
      rw [e, hat]
      omega
    have B1W : Hid (Below w.heap.size w w1) := HB0.out.trans (B1.out.mono HB0.out.size)
    clear hat kc kd
    refine wp_region_box (fun k => ([.pointer (some tp), .pointer (some tp), .int .u64 (t.cnt : Int), .int .u64 at_, .agg #[.int .u8 o.kind, .string sp, .slice D m cD, .int .i64 o.ver, .bool o.seq, .bool o.eph, .slice A o.np c], .agg #[.int .i64 who.site, .int .u32 who.n], .agg #[.pointer (some tp), .int .u64 at_, .int .u8 o.kind, .string sp, .slice D m cD, .int .i64 o.ver, .bool o.seq, .bool o.eph, .slice A o.np c, .int .i64 who.site, .int .u32 who.n, .slice none 0 0, .int .i64 0, .string ⟨#[]⟩, .slice none 0 0, .int .u32 0, .int .u32 0, .int .u32 0, .int .i64 0, .int .u32 0, .int .u64 0, .int .u64 0, .int .u64 0, .slice none 0 0, .slice none 0 0], .pointer (some ⟨w1.heap.size, 0, none⟩), undef] : List Value).getD k undef) 7 8 104 zeroW [.pointer (some tp), .int .u64 at_, .int .u8 o.kind, .string sp, .slice D m cD, .int .i64 o.ver, .bool o.seq, .bool o.eph, .slice A o.np c, .int .i64 who.site, .int .u32 who.n, .slice none 0 0, .int .i64 0, .string ⟨#[]⟩, .slice none 0 0, .int .u32 0, .int .u32 0, .int .u32 0, .int .i64 0, .int .u32 0, .int .u64 0, .int .u64 0, .int .u64 0, .slice none 0 0, .slice none 0 0] (by kernel_rfl) (by kernel_rfl) (by decide) (by simp) rfl ?_ ?_ { tmps := #[.pointer (some tp), .agg #[.int .u8 o.kind, .string sp, .slice D m cD, .int .i64 o.ver, .bool o.seq, .bool o.eph, .slice A o.np c], .agg #[.int .i64 who.site, .int .u32 who.n], undef, .pointer (some ⟨N, 0, none⟩), .pointer (some ⟨N + 1, 0, none⟩), .slice none 0 0, .pointer (some ⟨N + 1 + 1, 0, none⟩), .int .i64 0, .pointer (some ⟨w1.heap.size, 0, none⟩), .pointer (some tp), .bool false, undef, .agg #[.int .u8 o.kind, .string sp, .slice D m cD, .int .i64 o.ver, .bool o.seq, .bool o.eph, .slice A o.np c], .int .i64 0, .int .i64 0, .bool false, undef, undef, .pointer (some tp), .pointer (some tp), .int .u64 (t.cnt : Int), .int .u64 at_, .agg #[.int .u8 o.kind, .string sp, .slice D m cD, .int .i64 o.ver, .bool o.seq, .bool o.eph, .slice A o.np c], .agg #[.int .i64 who.site, .int .u32 who.n], .agg #[.pointer (some tp), .int .u64 at_, .int .u8 o.kind, .string sp, .slice D m cD, .int .i64 o.ver, .bool o.seq, .bool o.eph, .slice A o.np c, .int .i64 who.site, .int .u32 who.n, .slice none 0 0, .int .i64 0, .string ⟨#[]⟩, .slice none 0 0, .int .u32 0, .int .u32 0, .int .u32 0, .int .i64 0, .int .u32 0, .int .u64 0, .int .u64 0, .int .u64 0, .slice none 0 0, .slice none 0 0], undef, undef, undef], defers := [] } (by kernel_rfl) ?_
    · refine steps_cons ?_ (steps_cons ?_ (steps_cons ?_ (steps_cons ?_ (steps_cons ?_ (steps_cons ?_ (steps_cons ?_ (steps_cons ?_ (steps_cons ?_ steps_nil))))))))
      · intro a W hd hb hal hst K hK
        have h0 : a.tmps.getD 0 undef = .pointer (some tp) := hd.kept 0 (by kernel_rfl)
        unfold Oper.wp
        go_simp
        exact hK W (fun _ _ => rfl) (fun h => absurd h (by decide)) (fun h => absurd h (by decide))
      · intro a W hd hb hal hst K hK
        have h0 : a.tmps.getD 0 undef = .pointer (some tp) := hd.kept 0 (by kernel_rfl)
        unfold Oper.wp
        go_simp
        exact hK W (fun _ _ => rfl) (fun h => absurd h (by decide)) (fun h => absurd h (by decide))
      · intro a W hd hb hal hst K hK
        have h20 : a.tmps.getD 20 undef = .pointer (some tp) := hd.done_ 1 _ 20 (by kernel_rfl) rfl rfl
        unfold Oper.wp
        go_simp
        refine (At_same i tp t W L X (HT.out.below (B1W.out.trans (hb.mono B1W.out.size))) HI.out).mono ?_
        rintro e w' ⟨rfl, rfl⟩
        exact hK _ (fun _ _ => rfl) (fun h => absurd h (by decide)) (fun h => absurd h (by decide))
      · intro a W hd hb hal hst K hK
        have h21 : a.tmps.getD 21 undef = .int .u64 (t.cnt : Int) := hd.done_ 2 _ 21 (by kernel_rfl) rfl rfl
        unfold Oper.wp
        go_simp
        exact hK W (fun _ _ => rfl) (fun h => absurd h (by decide)) (fun h => absurd h (by decide))
      · intro a W hd hb hal hst K hK
        have h4 : a.tmps.getD 4 undef = .pointer (some ⟨N, 0, none⟩) := hd.kept 4 (by kernel_rfl)
        have kc := (HJ0.out.below hb).cell
        unfold Oper.wp
        go_simp
        exact hK W (fun _ _ => rfl) (fun h => absurd h (by decide)) (fun h => absurd h (by decide))
      · intro a W hd hb hal hst K hK
        have h5 : a.tmps.getD 5 undef = .pointer (some ⟨N + 1, 0, none⟩) := hd.kept 5 (by kernel_rfl)
        have kd := (HJ1.out.below hb).cell
        unfold Oper.wp
        go_simp
        exact hK W (fun _ _ => rfl) (fun h => absurd h (by decide)) (fun h => absurd h (by decide))
      · intro a W hd hb hal hst K hK
        have h19 : a.tmps.getD 19 undef = .pointer (some tp) := hd.done_ 0 _ 19 (by kernel_rfl) rfl rfl
        have h22 : a.tmps.getD 22 undef = .int .u64 at_ := hd.done_ 3 _ 22 (by kernel_rfl) rfl rfl
        have h23 : a.tmps.getD 23 undef = .agg #[.int .u8 o.kind, .string sp, .slice D m cD, .int .i64 o.ver, .bool o.seq, .bool o.eph, .slice A o.np c] := hd.done_ 4 _ 23 (by kernel_rfl) rfl rfl
        have h24 : a.tmps.getD 24 undef = .agg #[.int .i64 who.site, .int .u32 who.n] := hd.done_ 5 _ 24 (by kernel_rfl) rfl rfl
        have g19 : a.tmps[19]?.getD undef = .pointer (some tp) := by simpa using h19
        have g22 : a.tmps[22]?.getD undef = .int .u64 at_ := by simpa using h22
        have g23 : a.tmps[23]?.getD undef = .agg #[.int .u8 o.kind, .string sp, .slice D m cD, .int .i64 o.ver, .bool o.seq, .bool o.eph, .slice A o.np c] := by simpa using h23
        have g24 : a.tmps[24]?.getD undef = .agg #[.int .i64 who.site, .int .u32 who.n] := by simpa using h24
        unfold Oper.wp
        go_simp
        exact hK W (fun _ _ => rfl) (fun h => absurd h (by decide)) (fun h => absurd h (by decide))
      · intro a W hd hb hal hst K hK
        have hsz := hal rfl
        unfold Oper.wp
        go_simp
        exact hK _ (fun h => absurd rfl h) (fun _ => rfl) (fun h => absurd h (by decide))
      · intro a W hd hb hal hst K hK
        have h9 : a.tmps.getD 9 undef = .pointer (some ⟨w1.heap.size, 0, none⟩) := hd.done_ 7 _ 9 (by kernel_rfl) rfl rfl
        have h25 : a.tmps.getD 25 undef = .agg #[.pointer (some tp), .int .u64 at_, .int .u8 o.kind, .string sp, .slice D m cD, .int .i64 o.ver, .bool o.seq, .bool o.eph, .slice A o.np c, .int .i64 who.site, .int .u32 who.n, .slice none 0 0, .int .i64 0, .string ⟨#[]⟩, .slice none 0 0, .int .u32 0, .int .u32 0, .int .u32 0, .int .i64 0, .int .u32 0, .int .u64 0, .int .u64 0, .int .u64 0, .slice none 0 0, .slice none 0 0] := hd.done_ 6 _ 25 (by kernel_rfl) rfl rfl
        have hz := hst rfl
        refine wp_store_mid 104 (.tmp 9) (.tmp 25) rfl w1.heap.size 0 _ h9 h25 (there_of hz 25 rfl) size_work (by simp [Value.oneCell']) ?_
        exact hK _ (fun _ h => absurd rfl h) (fun h => absurd h (by decide)) (fun _ => rfl)
    · intro oo ho
      injection (show some _ = some oo from ho) with ho
      rw [← ho]
      kernel_rfl
    · intro W hb hlt hB
      have hwk : Bk W w1.heap.size 104 (wk0 tp at_ o (.slice D m cD) (.slice A o.np c) who).toArray := by rw [HCELL.out]; exact hB
      have BW : Hid (Below w.heap.size w W) := B1W.out.trans (hb.mono B1W.out.size)
      have HGE : Hid (w.heap.size + 3 ≤ w1.heap.size) := by show _ ≤ _; have := B1.out.size; have := HSZ.out; omega
      have hk1 := chk_one HZ.out.symm HKD.out
      have cr := run_single (P := fun j => P j ∧ j < w.heap.size) i t L X w1.heap.size tp at_ o D m cD (.slice A o.np c) who W hwk (HT.out.below BW.out) HI.out (fun h => by have := HT.out.lt _ h; have := HGE.out; omega) HP.out HRT.out (HTB.out.below BW.out) HF.out (HD.out.lt.below BW.out) (fun j hj => by have := HGE.out; omega) HLEN.out ⟨hk1, HKD.out⟩
      rw [← HAT.out] at HRES
      obtain ⟨x, hx⟩ : ∃ x, x = single t at_ who o := ⟨_, rfl⟩
      rw [← hx] at cr HRES
      have HJ3 := Lib.hid (HJ2.out.below hb)
      have HLT := Lib.hid hlt
      have hB1 := Lib.hid hb
      clear hx hwk hB hb hk1 HCELL hwr
      generalize w1.heap.size = g at *
      go_wp2_with fail
      refine cr.mono ?_
      rintro e w3 ⟨ho, A1, k1, c1, A2, k2, c2, A3, k3, c3, rfl, h1, h2, h3⟩
      obtain ⟨xs, rr⟩ := x
      have HX1 := Lib.hid h1
      have HX2 := Lib.hid h2
      have HX3 := Lib.hid h3
      have HO := Lib.hid ho
      have hne : ¬ N + 1 + 1 = g := by have := HGE.out; have := HN.out; omega
      have hks := HJ3.out.kept (ho.block (N + 1 + 1) HJ3.out.lt hne)
      have HKS := Lib.hid hks
      have bc := hks.cell
      have bf := hks.frozen
      clear h1 h2 h3 ho hks hne cr
      dsimp only [rpV, rpC, znC, nilS, List.cons_append, List.nil_append]
      go_wp2_with fail
      have HV := Lib.hid (fun cells h => store_reply2 HKS.out rfl cells h)
      have hv := HV.out [.int .i64 rr.e, .string (S rr.path), .slice A2 k2 c2, .int .u32 rr.node.ver, .int .u32 rr.node.kin, .int .u32 rr.node.next, .int .i64 rr.node.site, .int .u32 rr.node.own, .int .u64 rr.node.made, .int .u64 rr.node.chg, .int .u64 rr.node.tch, .slice A3 k3 c3, .slice none 0 0] rfl
      dsimp only [World.setCells] at hv
      generalize World.setCell _ _ _ = V at *
      have hvk := hv.1
      have HVO := Lib.hid hv.2
      clear bc bf hv HV
      refine bodyPost_ret (results_tmp_row rfl _ _ (N + 1 + 1) 51 _ (0, 0) _ rfl hvk Tryz.underlying51 rfl size_reply) rfl ?_
      rw [HRES.out, if_neg (by decide)]
      have hWg : w.heap.size ≤ W.heap.size := BW.out.size
      have hM : N + 1 + 1 < W.heap.size := HJ3.out.lt
      refine ⟨?_, A1, k1, c1, A2, k2, c2, A3, k3, c3, rfl, ?_, ?_, ?_⟩
      · exact ⟨HVO.out.os.trans (HO.out.os.trans BW.out.os), HVO.out.tape.trans (HO.out.tape.trans BW.out.tape), HVO.out.output.trans (HO.out.output.trans BW.out.output), Nat.le_trans hWg (Nat.le_trans HO.out.size HVO.out.size), fun k hk => by
          have h3 := HGE.out
          have h4 := HN.out
          have h5 := HO.out.size
          rw [HVO.out.block k (by omega) (by omega), HO.out.block k (by omega) (by omega)]
          exact BW.out.block k hk⟩
      · exact (HX1.out.out HVO.out (fun j hj => by omega)).mono fun j hj => by omega
      · exact (HX2.out.out HVO.out (fun j hj => by omega)).mono fun j hj => by omega
      · exact (HX3.out.out HVO.out (fun j hj => by omega)).mono fun j hj => by omega
  · have z1 : (z == 0) = false := beq_eq_false_iff_ne.2 h0
    have z2 : (z != 0) = true := by rw [bne, z1]; rfl
    have bc := HJ2.out.cell
    have bf := HJ2.out.frozen
    go_wp2_with fail
    have HV : Hid (∀ cells : List Value, cells.length = 13 → Bk (w1.setCells (N + 1 + 1) 0 cells) (N + 1 + 1) 51 cells.toArray ∧ Below w.heap.size w (w1.setCells (N + 1 + 1) 0 cells)) := store_reply B1.out HB0.out HN.out HJ2.out rfl
    have hv := HV.out [.int .i64 z, .string ⟨#[]⟩, .slice none 0 0, .int .u32 0, .int .u32 0, .int .u32 0, .int .i64 0, .int .u32 0, .int .u64 0, .int .u64 0, .int .u64 0, .slice none 0 0, .slice none 0 0] rfl
    dsimp only [World.setCells] at hv
    generalize World.setCell _ _ _ = V at *
    have hvk := hv.1
    have HVB := Lib.hid hv.2
    clear bc bf hv HV
    refine bodyPost_ret (results_tmp_row rfl _ _ (N + 1 + 1) 51 _ (0, 0) _ rfl hvk Tryz.underlying51 rfl size_reply) rfl ?_
    rw [HRES.out, if_pos h0]
    exact ⟨HVB.out, none, 0, 0, none, 0, 0, none, 0, 0, rfl, OwnE.nil_ _ _, DataS.nil_ _ _, TextS.nil_ _ _⟩
end Go.Proofs.YtplbckibogmicaaGreatDoor.Opn

namespace Go.Proofs.YtplbckibogmicaaGreatDoor.Opn
open Go.RowKit Path Tree Phase

theorem wpList_store_named {P : Program} {ops : Array Oper} {rest : List Oper} {op : Oper} {a : Act} {w : World} {Q : Exit → Act → World → Prop} (hgd : op.guard = none) (ty : TypeId) (x y : Operand) (ho : op.op = .store ty x y)
    (b o : Nat) (cells : Array Value) (hx : a.eval x = .pointer (some ⟨b, o, none⟩)) (hy : a.eval y = .agg cells)
    (ht : w.there b o cells.size) (hi : (P.info? ty).map (·.size) = some cells.size) (h1 : cells.all (·.oneCell') = true)
    (h : Hid (∀ V, V = w.setCells b o cells.toList → wpList P ops Q rest (a.put op.dst undef) V)) : wpList P ops Q (op :: rest) a w :=
  wpList_store_mid hgd ty x y ho b o cells hx hy ht hi h1 (h.out _ rfl)
def oneF (t : TR) (who : Who) (o : O1) (os : List O1) : List Ef × R1 := if chk o os ≠ 0 then ([], .no (chk o os)) else single t ((t.cnt + 1 : Nat) % 18446744073709551616 : Nat) who o
def oneT (t : TR) (who : Who) (o : O1) (os : List O1) : TR := if (oneF t who o os).1 = [] then t else (t.apply (oneF t who o os).1).2
/-- What did leaves. -/
def DidPost (w0 : World) (i : Nat) (tp : Addr) (t : TR) (who : Who) (o : O1) (os : List O1) (L : List (Addr × TR)) (X : Nat → Prop) (w : World) (e : Ending) (w' : World) : Prop :=
  ∃ A2 k2 c2 A3 k3 c3 X', e = .returned (rpV (oneF t who o os).2 (.slice A2 k2 c2) (.slice A3 k3 c3) nilS) ∧ St w0 w' (L.set i (tp, oneT t who o os)) X' ∧ Out X w w' ∧ (∀ k, X' k → X k ∨ w.heap.size ≤ k) ∧
    DataS (fun j => w.heap.size ≤ j ∧ ¬ X' j) w' (.slice A2 k2 c2) (oneF t who o os).2.node.data ∧ TextS (fun j => w.heap.size ≤ j ∧ ¬ X' j) w' (.slice A3 k3 c3) (oneF t who o os).2.kids
theorem set_same {α : Type} {l : List α} {i : Nat} {a : α} (h : l[i]? = some a) : l.set i a = l := by
  obtain ⟨hlt, e⟩ := List.getElem?_eq_some_iff.1 h
  rw [← e]
  exact List.set_getElem_self hlt
theorem st_out {w0 w V : World} {L : List (Addr × TR)} {X : Nat → Prop} {M : Nat} (h : St w0 w L X) (ho : Out (· = M) w V) (hM : ¬ X M) (h0 : w0.heap.size ≤ M) : St w0 V L X :=
  ⟨h.1.keep (fun k hk => ho.block k (h.1.lt k hk) (fun e => hM (e ▸ hk))) ho.size, ⟨ho.os.trans h.2.1.os, ho.tape.trans h.2.1.tape, ho.output.trans h.2.1.output, Nat.le_trans h.2.1.size ho.size, fun k hk => (ho.block k (Nat.lt_of_lt_of_le hk h.2.1.size) (by omega)).trans (h.2.1.block k hk)⟩, h.2.2⟩
theorem one_fine {t : TR} {who : Who} {o : O1} {os : List O1} (hf : FineT t) (hs : ∀ p, (nodeAt t p).data.length ≤ 1000000) (hp : o.path.length ≤ 100000) (hd : o.data.length ≤ 1000000) : FineX (oneF t who o os).1 := by
  unfold oneF
  split
  · exact FineX.nil_
  · exact single_fine hf hs hp hd
set_option maxRecDepth 100000 in
set_option maxHeartbeats 1000000 in
theorem did_one {P : Nat → Prop} (i : Nat) (t : TR) (L : List (Addr × TR)) (X : Nat → Prop) (tp : Addr) (o : O1) (D : Option Addr) (m cD : Nat) (A : Option Addr) (c : Nat) (os : List O1) (who : Who) (w0 w : World) (hS0 : St w0 w L X) (hi : L[i]? = some (tp, t)) (hS : OpS P w A o.np os) (hn : o.np ≤ 1000000) (hm : o.data.length = m) (hd : DataS P w (.slice D m cD) o.data)
    (hp : o.path.length ≤ 100000) (hr : t.root.length ≤ 1000000) (ht : Tab w) (hf : FineT t) (hlen : o.data.length ≤ 1000000) (hk : o.kind < 7) :
    Calls Tryz.prog 36 #[.pointer (some tp), opV o (.slice D m cD) (.slice A o.np c), whoV who] w (DidPost w0 i tp t who o os L X w) := by
  obtain ⟨RES, hres⟩ : ∃ RES : Ending → World → Prop, RES = DidPost w0 i tp t who o os L X w := ⟨_, rfl⟩
  rw [← hres]
  have HRES := Lib.hid hres
  obtain ⟨W0, hW0⟩ : ∃ W0, W0 = ((w.alloc (.cells (opC o (.slice D m cD) (.slice A o.np c)).toArray 56)).alloc (.cells (whoC who).toArray 36)).alloc (.cells (rpC (.no 0) nilS nilS nilS).toArray 51) := ⟨_, rfl⟩
  have hb1 : Below w.heap.size w (w.alloc (.cells (opC o (.slice D m cD) (.slice A o.np c)).toArray 56)) := (Below.refl w.heap.size w).alloc (Nat.le_refl _) _
  have hb2 : Below w.heap.size w ((w.alloc (.cells (opC o (.slice D m cD) (.slice A o.np c)).toArray 56)).alloc (.cells (whoC who).toArray 36)) := hb1.alloc hb1.size _
  have HB0 : Hid (Below w.heap.size w W0) := by show Below _ _ _; rw [hW0]; exact hb2.alloc hb2.size _
  have HK0 : Hid (Bk W0 w.heap.size 56 (opC o (.slice D m cD) (.slice A o.np c)).toArray) := by show Bk _ _ _ _; rw [hW0]; exact ((Bk.new w _ _).alloc _).alloc _
  have HK1 : Hid (Bk W0 (w.heap.size + 1) 36 (whoC who).toArray) := by
    show Bk _ _ _ _
    rw [hW0]
    have := (Bk.new (w.alloc (.cells (opC o (.slice D m cD) (.slice A o.np c)).toArray 56)) 36 (whoC who).toArray).alloc (.cells (rpC (.no 0) nilS nilS nilS).toArray 51)
    simpa using this
  have HK2 : Hid (Bk W0 (w.heap.size + 2) 51 (rpC (.no 0) nilS nilS nilS).toArray) := by
    show Bk _ _ _ _
    rw [hW0]
    have := Bk.new ((w.alloc (.cells (opC o (.slice D m cD) (.slice A o.np c)).toArray 56)).alloc (.cells (whoC who).toArray 36)) 51 (rpC (.no 0) nilS nilS nilS).toArray
    simpa using this
  have HSZ : Hid (W0.heap.size = w.heap.size + 3) := by show _ = _; rw [hW0]; simp
  have cd := Do_one (P := P) i t L X tp o D m cD A c os who W0 (hS0.below HB0.out).1 hi (hS.below HB0.out) hn hm (hd.below HB0.out) hp hr (ht.below HB0.out) hf hlen hk
  have HFX := Lib.hid (one_fine (who := who) (o := o) (os := os) hf (small_nodeAt hS0.1 hi) hp hlen)
  have HST := Lib.hid hS0
  have HI := Lib.hid hi
  unfold opV whoV
  unfold opV whoV at cd
  have hs0 : S [] = (⟨#[]⟩ : ByteArray) := rfl
  dsimp only [opC, whoC, rpC, znC, R1.no, ZN.zero, nilS] at hW0 cd HK0 HK1 HK2 ⊢
  simp only [hs0, List.cons_append, List.nil_append] at hW0
  have HK2 : Hid (Bk W0 (w.heap.size + 1 + 1) 51 #[.int .i64 0, .string ⟨#[]⟩, .slice none 0 0, .int .u32 0, .int .u32 0, .int .u32 0, .int .i64 0, .int .u32 0, .int .u64 0, .int .u64 0, .int .u64 0, .slice none 0 0, .slice none 0 0]) := HK2.out
  have hx : oneF t who o os = (oneF t who o os) := rfl
  obtain ⟨x, hx⟩ : ∃ x, x = oneF t who o os := ⟨_, rfl⟩
  have hcd : (if chk o os ≠ 0 then ([], R1.no (chk o os)) else single t ((t.cnt + 1 : Nat) % 18446744073709551616 : Nat) who o) = x := by rw [hx]; rfl
  dsimp only [R1.no, ZN.zero] at hcd
  rw [hcd] at cd
  have HX := Lib.hid hx
  rw [← hx] at HFX
  have HTT : Hid (oneT t who o os = if x.1 = [] then t else (t.apply x.1).2) := by show _ = _; unfold oneT; rw [← hx]
  clear hres hb1 hb2 hi hS hn hm hd hp hr ht hf hlen hk hs0 hx hcd hS0
  generalize S o.path = sp at *
  have kc := HK0.out.cell
  have kd := HK1.out.cell
  go_enter Tryz.func36, Tryz.ntmps36
  go_wp2_with fail
  rw [← hW0]
  refine cd.mono ?_
  rintro e w1 ⟨hb, A1, k1, c1, A2, k2, c2, A3, k3, c3, rfl, h1, h2, h3⟩
  obtain ⟨A1', c1', he1, _, _, hE⟩ := h1.efS
  injection he1 with e1 e2 e3
  subst e1 e2 e3
  have HE := Lib.hid hE
  have H2 := Lib.hid h2.lt
  have H3 := Lib.hid h3.lt
  have B1 := Lib.hid hb
  have BW1 := Lib.hid (HB0.out.trans (hb.mono HB0.out.size))
  have HJ := HK2.out.below hb
  have HM0 := Bk.new w1 51 #[.int .i64 0, .string ⟨#[]⟩, .slice none 0 0, .int .u32 0, .int .u32 0, .int .u32 0, .int .i64 0, .int .u32 0, .int .u64 0, .int .u64 0, .int .u64 0, .slice none 0 0, .slice none 0 0]
  have HJ0 := HJ.alloc (.cells #[.int .i64 0, .string ⟨#[]⟩, .slice none 0 0, .int .u32 0, .int .u32 0, .int .u32 0, .int .i64 0, .int .u32 0, .int .u64 0, .int .u64 0, .int .u64 0, .slice none 0 0, .slice none 0 0] 51)
  have BA : Hid (Below w1.heap.size w1 (w1.alloc (.cells #[.int .i64 0, .string ⟨#[]⟩, .slice none 0 0, .int .u32 0, .int .u32 0, .int .u32 0, .int .i64 0, .int .u32 0, .int .u64 0, .int .u64 0, .int .u64 0, .slice none 0 0, .slice none 0 0] 51))) := (Below.refl _ _).alloc (Nat.le_refl _) _
  have hlt1 := HJ.lt
  obtain ⟨xs, rr⟩ := x
  clear cd hW0 hb h1 h2 h3 hE kc kd HK0 HK1 HK2 HJ
  generalize hA : w1.alloc (.cells #[.int .i64 0, .string ⟨#[]⟩, .slice none 0 0, .int .u32 0, .int .u32 0, .int .u32 0, .int .i64 0, .int .u32 0, .int .u64 0, .int .u64 0, .int .u64 0, .slice none 0 0, .slice none 0 0] 51) = Wa at *
  have HTH : Hid (Wa.there w1.heap.size 0 13) := there_of (cs := [.int .i64 0, .string ⟨#[]⟩, .slice none 0 0, .int .u32 0, .int .u32 0, .int .u32 0, .int .i64 0, .int .u32 0, .int .u64 0, .int .u64 0, .int .u64 0, .slice none 0 0, .slice none 0 0]) HM0 13 rfl
  have HMA := Lib.hid HM0
  have HNA := Lib.hid HJ0
  have HLM := Lib.hid hlt1
  clear HM0 HJ0 hx
  dsimp only [rpV, rpC, znC, nilS, List.cons_append, List.nil_append]
  go_wp2_with ((with_reducible refine wpList_store_named ?_ 51 (.tmp 8) (.tmp 15) ?_ w1.heap.size 0 #[.int .i64 rr.e, .string (S rr.path), .slice A2 k2 c2, .int .u32 rr.node.ver, .int .u32 rr.node.kin, .int .u32 rr.node.next, .int .i64 rr.node.site, .int .u32 rr.node.own, .int .u64 rr.node.made, .int .u64 rr.node.chg, .int .u64 rr.node.tch, .slice A3 k3 c3, .slice none 0 0] ?_ ?_ ?_ ?_ ?_ ?_); (exact rfl); (exact rfl); (exact rfl); (exact rfl); (exact HTH.out); (exact size_reply); (simp [Value.oneCell']))
  refine Lib.hid ?_
  obtain ⟨W2, hW2⟩ : ∃ W2, W2 = Wa.setCells w1.heap.size 0 [.int .i64 rr.e, .string (S rr.path), .slice A2 k2 c2, .int .u32 rr.node.ver, .int .u32 rr.node.kin, .int .u32 rr.node.next, .int .i64 rr.node.site, .int .u32 rr.node.own, .int .u64 rr.node.made, .int .u64 rr.node.chg, .int .u64 rr.node.tch, .slice A3 k3 c3, .slice none 0 0] := ⟨_, rfl⟩
  rw [← hW2]
  have hs := store_reply2 HMA.out rfl [.int .i64 rr.e, .string (S rr.path), .slice A2 k2 c2, .int .u32 rr.node.ver, .int .u32 rr.node.kin, .int .u32 rr.node.next, .int .i64 rr.node.site, .int .u32 rr.node.own, .int .u64 rr.node.made, .int .u64 rr.node.chg, .int .u64 rr.node.tch, .slice A3 k3 c3, .slice none 0 0] rfl
  have hW2' : W2 = Wa.setCells w1.heap.size 0 [.int .i64 rr.e, .string (S rr.path), .slice A2 k2 c2, .int .u32 rr.node.ver, .int .u32 rr.node.kin, .int .u32 rr.node.next, .int .i64 rr.node.site, .int .u32 rr.node.own, .int .u64 rr.node.made, .int .u64 rr.node.chg, .int .u64 rr.node.tch, .slice A3 k3 c3, .slice none 0 0] := hW2
  rw [← hW2'] at hs
  have HM2 := Lib.hid hs.1
  have HO2 := Lib.hid hs.2
  have BA2 : Hid (Below w1.heap.size w1 W2) := by
    have h := BA.out
    exact ⟨HO2.out.os.trans h.os, HO2.out.tape.trans h.tape, HO2.out.output.trans h.output, Nat.le_trans h.size HO2.out.size, fun k hk => (HO2.out.block k (Nat.lt_of_lt_of_le hk h.size) (by omega)).trans (h.block k hk)⟩
  have HN2 := Lib.hid (HNA.out.kept (HO2.out.block _ HNA.out.lt (by have := HLM.out; omega)))
  clear hs hW2 hW2' hA HTH HMA HNA hlt1
  have BW2 : Hid (Below w.heap.size w W2) := BW1.out.trans (BA2.out.mono BW1.out.size)
  have HXL : Hid (∀ k, X k → k < w.heap.size) := HST.out.1.lt
  by_cases h0 : xs = []
  · subst h0
    have v0 : ¬ (0 : Int) < ((([] : List Ef).length : Nat) : Int) := by simp
    have mc := HM2.out.cell
    have HTN : Hid (W2.there (w.heap.size + 1 + 1) 0 13) := there_of (cs := [.int .i64 0, .string ⟨#[]⟩, .slice none 0 0, .int .u32 0, .int .u32 0, .int .u32 0, .int .i64 0, .int .u32 0, .int .u64 0, .int .u64 0, .int .u64 0, .slice none 0 0, .slice none 0 0]) HN2.out 13 rfl
    go_wp2_with ((with_reducible refine wpList_store_named ?_ 51 (.tmp 6) (.tmp 22) ?_ (w.heap.size + 1 + 1) 0 #[.int .i64 rr.e, .string (S rr.path), .slice A2 k2 c2, .int .u32 rr.node.ver, .int .u32 rr.node.kin, .int .u32 rr.node.next, .int .i64 rr.node.site, .int .u32 rr.node.own, .int .u64 rr.node.made, .int .u64 rr.node.chg, .int .u64 rr.node.tch, .slice A3 k3 c3, .slice none 0 0] ?_ ?_ ?_ ?_ ?_ ?_); (exact rfl); (exact rfl); (exact rfl); (exact rfl); (exact HTN.out); (exact size_reply); (simp [Value.oneCell']))
    refine Lib.hid ?_
    obtain ⟨V, hV⟩ : ∃ V, V = W2.setCells (w.heap.size + 1 + 1) 0 [.int .i64 rr.e, .string (S rr.path), .slice A2 k2 c2, .int .u32 rr.node.ver, .int .u32 rr.node.kin, .int .u32 rr.node.next, .int .i64 rr.node.site, .int .u32 rr.node.own, .int .u64 rr.node.made, .int .u64 rr.node.chg, .int .u64 rr.node.tch, .slice A3 k3 c3, .slice none 0 0] := ⟨_, rfl⟩
    rw [← hV]
    have hs := store_reply2 HN2.out rfl [.int .i64 rr.e, .string (S rr.path), .slice A2 k2 c2, .int .u32 rr.node.ver, .int .u32 rr.node.kin, .int .u32 rr.node.next, .int .i64 rr.node.site, .int .u32 rr.node.own, .int .u64 rr.node.made, .int .u64 rr.node.chg, .int .u64 rr.node.tch, .slice A3 k3 c3, .slice none 0 0] rfl
    rw [← hV] at hs
    obtain ⟨hvk, hvo⟩ := hs
    have HVO := Lib.hid hvo
    clear mc HTN hV hvo
    go_wp2_with fail
    refine bodyPost_ret (results_cell_row rfl _ _ (w.heap.size + 1 + 1) 51 _ (0, 0) _ rfl hvk Tryz.underlying51 rfl size_reply) rfl ?_
    rw [HRES.out]
    unfold DidPost
    rw [← HX.out, HTT.out]
    have BV : Hid (Below w.heap.size w V) := by
      have h := BW2.out
      exact ⟨HVO.out.os.trans h.os, HVO.out.tape.trans h.tape, HVO.out.output.trans h.output, Nat.le_trans h.size HVO.out.size, fun k hk => (HVO.out.block k (Nat.lt_of_lt_of_le hk h.size) (by omega)).trans (h.block k hk)⟩
    have hsz := HSZ.out
    refine ⟨A2, k2, c2, A3, k3, c3, X, rfl, ?_, Out.of_below BV.out, fun k hk => .inl hk, ?_, ?_⟩
    · rw [if_pos trivial, set_same HI.out]
      exact HST.out.below BV.out
    · exact ((H2.out.below BA2.out).out HVO.out (fun j hj => by omega)).mono fun j hj => ⟨by omega, fun hx => by have := HXL.out j hx; omega⟩
    · exact ((H3.out.below BA2.out).out HVO.out (fun j hj => by omega)).mono fun j hj => ⟨by omega, fun hx => by have := HXL.out j hx; omega⟩
  · have hpos : 0 < xs.length := List.length_pos_iff.2 h0
    have v0 : (0 : Int) < ((xs.length : Nat) : Int) := by omega
    have H0 := Lib.hid h0
    have hsz := HSZ.out
    have ca := Apply_any (fun k => W0.heap.size ≤ k ∧ k < w1.heap.size) A1 xs.length c1 xs i tp t W2 L X (HST.out.below BW2.out).1 HI.out (HE.out.below BA2.out) (fun k hk hx => by have := HXL.out k hx; omega) (fun x hx => ⟨(HFX.out.all x hx).path, (HFX.out.all x hx).data⟩) (by have := HFX.out.len; omega)
    have HSZ2 := Lib.hid hsz
    clear hsz h0 hpos
    go_wp2_with fail
    refine ca.mono ?_
    rintro e w3 ⟨rfl, hm⟩
    obtain ⟨X', hS', ho, hX'⟩ := (HST.out.below BW2.out).made hm
    have HS3 := Lib.hid hS'
    have HO3 := Lib.hid ho
    have HX3 := Lib.hid hX'
    have HM3 := Lib.hid (HM2.out.kept (ho.block _ HM2.out.lt (fun h => by have := HXL.out _ h; have := HLM.out; omega)))
    have HN3 := Lib.hid (HN2.out.kept (ho.block _ HN2.out.lt (fun h => by have := HXL.out _ h; omega)))
    clear ca hm hS' ho hX' v0
    have mc := HM3.out.cell
    have HTN : Hid (w3.there (w.heap.size + 1 + 1) 0 13) := there_of (cs := [.int .i64 0, .string ⟨#[]⟩, .slice none 0 0, .int .u32 0, .int .u32 0, .int .u32 0, .int .i64 0, .int .u32 0, .int .u64 0, .int .u64 0, .int .u64 0, .slice none 0 0, .slice none 0 0]) HN3.out 13 rfl
    go_wp2_with ((with_reducible refine wpList_store_named ?_ 51 (.tmp 6) (.tmp 22) ?_ (w.heap.size + 1 + 1) 0 #[.int .i64 rr.e, .string (S rr.path), .slice A2 k2 c2, .int .u32 rr.node.ver, .int .u32 rr.node.kin, .int .u32 rr.node.next, .int .i64 rr.node.site, .int .u32 rr.node.own, .int .u64 rr.node.made, .int .u64 rr.node.chg, .int .u64 rr.node.tch, .slice A3 k3 c3, .slice none 0 0] ?_ ?_ ?_ ?_ ?_ ?_); (exact rfl); (exact rfl); (exact rfl); (exact rfl); (exact HTN.out); (exact size_reply); (simp [Value.oneCell']))
    refine Lib.hid ?_
    obtain ⟨V, hV⟩ : ∃ V, V = w3.setCells (w.heap.size + 1 + 1) 0 [.int .i64 rr.e, .string (S rr.path), .slice A2 k2 c2, .int .u32 rr.node.ver, .int .u32 rr.node.kin, .int .u32 rr.node.next, .int .i64 rr.node.site, .int .u32 rr.node.own, .int .u64 rr.node.made, .int .u64 rr.node.chg, .int .u64 rr.node.tch, .slice A3 k3 c3, .slice none 0 0] := ⟨_, rfl⟩
    rw [← hV]
    have hs := store_reply2 HN3.out rfl [.int .i64 rr.e, .string (S rr.path), .slice A2 k2 c2, .int .u32 rr.node.ver, .int .u32 rr.node.kin, .int .u32 rr.node.next, .int .i64 rr.node.site, .int .u32 rr.node.own, .int .u64 rr.node.made, .int .u64 rr.node.chg, .int .u64 rr.node.tch, .slice A3 k3 c3, .slice none 0 0] rfl
    rw [← hV] at hs
    obtain ⟨hvk, hvo⟩ := hs
    have HVO := Lib.hid hvo
    clear mc HTN hV hvo
    go_wp2_with fail
    refine bodyPost_ret (results_cell_row rfl _ _ (w.heap.size + 1 + 1) 51 _ (0, 0) _ rfl hvk Tryz.underlying51 rfl size_reply) rfl ?_
    rw [HRES.out]
    unfold DidPost
    rw [← HX.out, HTT.out]
    have hsz := HSZ.out
    have hlm := HLM.out
    have hw1 := BA2.out.size
    have hw0 := HST.out.2.1.size
    have hN2 : ¬ X' (w.heap.size + 1 + 1) := fun h => by
      rcases HX3.out _ h with h | h
      · have := HXL.out _ h; omega
      · omega
    refine ⟨A2, k2, c2, A3, k3, c3, X', rfl, ?_, ?_, ?_, ?_, ?_⟩
    · rw [if_neg H0.out]
      exact st_out HS3.out HVO.out hN2 (by omega)
    · refine ((Out.of_below BW2.out).trans HO3.out (fun k hk => .inl hk)).trans HVO.out ?_
      intro k hk
      exact .inr (by omega)
    · intro k hk
      rcases HX3.out k hk with h | h
      · exact .inl h
      · right; omega
    · refine ((((H2.out.below BA2.out).out HO3.out (fun j hj hx => by have := HXL.out j hx; omega))).out HVO.out (fun j hj => by omega)).mono fun j hj => ⟨by omega, fun hx => ?_⟩
      rcases HX3.out j hx with h | h
      · have := HXL.out j h; omega
      · omega
    · refine ((((H3.out.below BA2.out).out HO3.out (fun j hj hx => by have := HXL.out j hx; omega))).out HVO.out (fun j hj => by omega)).mono fun j hj => ⟨by omega, fun hx => ?_⟩
      rcases HX3.out j hx with h | h
      · have := HXL.out j h; omega
      · omega
end Go.Proofs.YtplbckibogmicaaGreatDoor.Opn

namespace Go.Proofs.YtplbckibogmicaaGreatDoor.Opn
open Go.RowKit Path Tree Phase

theorem one_tree {t : TR} {who : Who} {o : O1} {os : List O1} (hG : Tree.Good t.root t.row) (hf : FineT t) (hs : ∀ p, (nodeAt t p).data.length ≤ 1000000) (hp : o.path.length ≤ 100000) (hd : o.data.length ≤ 1000000) : FineT (oneT t who o os) ∧ (oneT t who o os).root = t.root := by
  unfold oneT
  split
  · exact ⟨hf, rfl⟩
  · exact ⟨fine_apply hG.sorted hf (fun x hx => ((one_fine hf hs hp hd).all x hx).node), apply_root _ _⟩
/-- A tree of one's own: its address, what it is, its blocks. -/
structure TSt (w0 : World) (a : Addr) (t : TR) (X : Nat → Prop) (w : World) : Prop where
  st : St w0 w [(a, t)] X
  fine : FineT t
  root : t.root.length ≤ 1000000
theorem TSt.below {w0 w w' : World} {a : Addr} {t : TR} {X : Nat → Prop} (h : TSt w0 a t X w) (hb : Below w.heap.size w w') : TSt w0 a t X w' := ⟨h.st.below hb, h.fine, h.root⟩
def DidSt (w0 : World) (a : Addr) (t : TR) (who : Who) (o : O1) (X : Nat → Prop) (w : World) (e : Ending) (w' : World) : Prop :=
  ∃ A k c B n d X', e = .returned (rpV (oneF t who o []).2 (.slice A k c) (.slice B n d) nilS) ∧ TSt w0 a (oneT t who o []) X' w' ∧ Out X w w' ∧ (∀ k, X' k → X k ∨ w.heap.size ≤ k) ∧
    DataS (fun j => w.heap.size ≤ j ∧ ¬ X' j) w' (.slice A k c) (oneF t who o []).2.node.data
theorem did_st (a : Addr) (t : TR) (X : Nat → Prop) (o : O1) (D : Option Addr) (m cD : Nat) (who : Who) (w0 w : World) (h : TSt w0 a t X w) (ht : Tab w0) (hnp : o.np = 0) (hm : o.data.length = m) (hd : DataS (fun _ => True) w (.slice D m cD) o.data) (hp : o.path.length ≤ 100000) (hlen : o.data.length ≤ 1000000) (hk : o.kind < 7) :
    Calls Tryz.prog 36 #[.pointer (some a), opV o (.slice D m cD) (.slice none 0 0), whoV who] w (DidSt w0 a t who o X w) := by
  have hO : OpS (fun _ => True) w none o.np [] := by rw [hnp]; exact OpS.nil_ _ _ _
  have c := did_one (P := fun _ => True) 0 t [(a, t)] X a o D m cD none 0 [] who w0 w h.st rfl hO (by omega) hm hd hp h.root (ht.below h.st.2.1) h.fine hlen hk
  rw [hnp] at c
  refine c.mono ?_
  rintro e w' ⟨A2, k2, c2, A3, k3, c3, X', rfl, hS, ho, hX, hD, _⟩
  have hG := (h.st.1.good 0 a t rfl).1
  obtain ⟨h1, h2⟩ := one_tree (who := who) (o := o) (os := []) hG h.fine (small_nodeAt h.st.1 (i := 0) rfl) hp hlen
  exact ⟨A2, k2, c2, A3, k3, c3, X', rfl, ⟨hS, h1, by rw [h2]; exact h.root⟩, ho, hX, hD⟩
/-- A reply in a box of its own. -/
theorem box_reply (w : World) (cells : List Value) (hl : cells.length = 13) : Bk ((w.alloc (.cells #[.int .i64 0, .string ⟨#[]⟩, .slice none 0 0, .int .u32 0, .int .u32 0, .int .u32 0, .int .i64 0, .int .u32 0, .int .u64 0, .int .u64 0, .int .u64 0, .slice none 0 0, .slice none 0 0] 51)).setCells w.heap.size 0 cells) w.heap.size 51 cells.toArray ∧ Below w.heap.size w ((w.alloc (.cells #[.int .i64 0, .string ⟨#[]⟩, .slice none 0 0, .int .u32 0, .int .u32 0, .int .u32 0, .int .i64 0, .int .u32 0, .int .u64 0, .int .u64 0, .int .u64 0, .slice none 0 0, .slice none 0 0] 51)).setCells w.heap.size 0 cells) := by
  have hb : Below w.heap.size w (w.alloc (.cells #[.int .i64 0, .string ⟨#[]⟩, .slice none 0 0, .int .u32 0, .int .u32 0, .int .u32 0, .int .i64 0, .int .u32 0, .int .u64 0, .int .u64 0, .int .u64 0, .slice none 0 0, .slice none 0 0] 51)) := (Below.refl _ _).alloc (Nat.le_refl _) _
  obtain ⟨h1, h2⟩ := store_reply2 (Bk.new w 51 #[.int .i64 0, .string ⟨#[]⟩, .slice none 0 0, .int .u32 0, .int .u32 0, .int .u32 0, .int .i64 0, .int .u32 0, .int .u64 0, .int .u64 0, .int .u64 0, .slice none 0 0, .slice none 0 0]) rfl cells hl
  exact ⟨h1, ⟨h2.os.trans hb.os, h2.tape.trans hb.tape, h2.output.trans hb.output, Nat.le_trans hb.size h2.size, fun k hk => (h2.block k (Nat.lt_of_lt_of_le hk hb.size) (by omega)).trans (hb.block k hk)⟩⟩
theorem box_there (w : World) : (w.alloc (.cells #[.int .i64 0, .string ⟨#[]⟩, .slice none 0 0, .int .u32 0, .int .u32 0, .int .u32 0, .int .i64 0, .int .u32 0, .int .u64 0, .int .u64 0, .int .u64 0, .slice none 0 0, .slice none 0 0] 51)).there w.heap.size 0 13 := there_of (cs := [.int .i64 0, .string ⟨#[]⟩, .slice none 0 0, .int .u32 0, .int .u32 0, .int .u32 0, .int .i64 0, .int .u32 0, .int .u64 0, .int .u64 0, .int .u64 0, .slice none 0 0, .slice none 0 0]) (Bk.new w 51 _) 13 rfl
theorem data_one (w : World) (x : UInt8) (fr : Nat × Nat) : DataS (fun _ => True) (w.alloc (.cells #[.int .u8 (x.toNat : Int)] 5 fr)) (.slice (some ⟨w.heap.size, 0, none⟩) 1 1) [x] :=
  ⟨_, _, _, rfl, Nat.le_refl _, fun _ _ _ => trivial, ⟨rfl, fun _ => ⟨_, rfl, fun j b hb => by
    have hj : j = 0 := by
      have := (List.getElem?_eq_some_iff.1 hb).1
      simp at this
      omega
    subst hj
    simp at hb
    subst hb
    have hh : (w.alloc (.cells #[.int .u8 (x.toNat : Int)] 5 fr)).heap[w.heap.size]? = some (.cells #[.int .u8 (x.toNat : Int)] 5 fr) := heap_alloc_new w _
    show World.cell? _ ⟨w.heap.size, 0, none⟩ = _
    unfold World.cell?
    rw [hh]
    rfl⟩⟩⟩
theorem conv_const (w : World) (C : Array Value) (n c : Nat) : (convert 33 33 (.slice (some ⟨w.heap.size, 0, none⟩) n c)).run Tryz.prog (w.alloc (.cells C 5)) = .ok (.slice (some ⟨w.heap.size, 0, none⟩) n c) (w.alloc (.cells C 5 (C.size, C.size + 1))) := Lib.run_convert_bytes_const (P := Tryz.prog) w 33 5 C n c Tree.ty_bytes Tree.ty_byte
def wo1 : O1 := ⟨1, [47, 114, 47, 97], [120], 0, false, false, 0⟩
def wo2 : O1 := ⟨1, [47, 114, 47, 110], [], 0, true, false, 0⟩
def wo3 : O1 := ⟨1, [47, 114, 47, 110], [], 0, true, false, 0⟩
def wo4 : O1 := ⟨3, [47, 114, 47, 97], [121], 0, false, false, 0⟩
def wo5 : O1 := ⟨3, [47, 114, 47, 97], [], 0, false, false, 0⟩
def wt0 : TR := TR.new [47, 114]
def wt1 : TR := oneT wt0 .none_ wo1 []
def wr1 : R1 := (oneF wt0 .none_ wo1 []).2
def wt2 : TR := oneT wt1 .none_ wo2 []
def wr2 : R1 := (oneF wt1 .none_ wo2 []).2
def wt3 : TR := oneT wt2 .none_ wo3 []
def wr3 : R1 := (oneF wt2 .none_ wo3 []).2
def wt4 : TR := oneT wt3 .none_ wo4 []
def wr4 : R1 := (oneF wt3 .none_ wo4 []).2
def wt5 : TR := oneT wt4 .none_ wo5 []
def wr5 : R1 := (oneF wt4 .none_ wo5 []).2
theorem wr1e : wr1.e = 0 := by decide +kernel
theorem wr1p : wr1.path = [47, 114, 47, 97] := by decide +kernel
theorem wr2p : wr2.path = [47, 114, 47, 110, 48, 48, 48, 48, 48, 48, 48, 48, 48, 48] := by decide +kernel
theorem wr3p : wr3.path = [47, 114, 47, 110, 48, 48, 48, 48, 48, 48, 48, 48, 48, 49] := by decide +kernel
theorem wr4e : wr4.e = 0 := by decide +kernel
theorem wr4d : wr4.node.data = [121] := by decide +kernel
theorem wr4v : wr4.node.ver = 1 := by decide +kernel
theorem wr5e : wr5.e = 35 := by decide +kernel
theorem wt5c : wt5.cnt = 4 := by decide +kernel
theorem fine_new_tree (l : List UInt8) : FineT (TR.new l) := fine_of_row fun x hx => by
  have : x = (l, ZN.zero) := by simpa [TR.new] using hx
  rw [this]
  exact fine_zero
set_option maxRecDepth 100000 in
set_option maxHeartbeats 2000000 in
theorem works_any (w : World) (ht : Tab w) : Calls Tryz.prog 21 #[] w fun e w' => e = .returned (.bool true) ∧ Below w.heap.size w w' := by
  have HTB := Lib.hid ht
  have H0 := Lib.hid (St.start w)
  clear ht
  go_enter Tryz.func21, Tryz.ntmps21
  go_wp2_with fail
  refine (New_st [47, 114] w w [] _ (by decide) (by decide +kernel) H0.out).mono ?_
  rintro e V0 ⟨a, X0, rfl, _, hS⟩
  have T0 : Hid (TSt w a wt0 X0 V0) := ⟨hS, fine_new_tree _, by decide⟩
  clear hS H0
  obtain ⟨U1, hU1⟩ : ∃ U, U = V0.alloc (.cells #[.int .u8 120] 5 (1, 2)) := ⟨_, rfl⟩
  have HU1 : Hid (Below V0.heap.size V0 U1) := by show Below _ _ _; rw [hU1]; exact (Below.refl _ _).alloc (Nat.le_refl _) _
  have HD1 : Hid (DataS (fun _ => True) U1 (.slice (some ⟨V0.heap.size, 0, none⟩) 1 1) [120]) := by show DataS _ _ _ _; rw [hU1]; exact data_one V0 120 (1, 2)
  have hcs : (convert 33 33 (.slice (some ⟨V0.heap.size, 0, none⟩) 1 1)).run Tryz.prog (V0.alloc (.cells #[.int .u8 120] 5)) = .ok (.slice (some ⟨V0.heap.size, 0, none⟩) 1 1) U1 := by rw [hU1]; exact conv_const V0 #[.int .u8 120] 1 1
  clear hU1
  have c := did_st a wt0 X0 wo1 (some ⟨V0.heap.size, 0, none⟩) 1 1 .none_ w U1 (T0.out.below HU1.out) HTB.out rfl rfl HD1.out (by decide) (by decide) (by decide)
  go_wp2_with fail
  refine c.mono ?_
  rintro e w1 ⟨A1, m1, c1, B1, n1, d1, X1, rfl, hT, ho, hX, hD⟩
  have HX1 := Lib.hid hX
  have HO1 := Lib.hid ho
  have HT1 : Hid (TSt w a wt1 X1 w1) := hT
  clear c hT ho hX hD hcs HU1 HD1
  obtain ⟨r1, hr1⟩ : ∃ r, r = (oneF wt0 .none_ wo1 []).2 := ⟨_, rfl⟩
  have HR1 : Hid (r1 = wr1) := hr1
  rw [← hr1]
  clear hr1
  have HTH := Lib.hid (box_there w1)
  dsimp only [rpV, rpC, znC, nilS, List.cons_append, List.nil_append]
  go_wp2_with ((with_reducible refine wpList_store_named ?_ 51 (.tmp 3) (.tmp 23) ?_ w1.heap.size 0 #[.int .i64 r1.e, .string (S r1.path), .slice A1 m1 c1, .int .u32 r1.node.ver, .int .u32 r1.node.kin, .int .u32 r1.node.next, .int .i64 r1.node.site, .int .u32 r1.node.own, .int .u64 r1.node.made, .int .u64 r1.node.chg, .int .u64 r1.node.tch, .slice B1 n1 d1, .slice none 0 0] ?_ ?_ ?_ ?_ ?_ ?_); (exact rfl); (exact rfl); (exact rfl); (exact rfl); (exact HTH.out); (exact size_reply); (simp [Value.oneCell']))
  refine Lib.hid ?_
  obtain ⟨V1, hV⟩ : ∃ V, V = (w1.alloc (.cells #[.int .i64 0, .string ⟨#[]⟩, .slice none 0 0, .int .u32 0, .int .u32 0, .int .u32 0, .int .i64 0, .int .u32 0, .int .u64 0, .int .u64 0, .int .u64 0, .slice none 0 0, .slice none 0 0] 51)).setCells w1.heap.size 0 [.int .i64 r1.e, .string (S r1.path), .slice A1 m1 c1, .int .u32 r1.node.ver, .int .u32 r1.node.kin, .int .u32 r1.node.next, .int .i64 r1.node.site, .int .u32 r1.node.own, .int .u64 r1.node.made, .int .u64 r1.node.chg, .int .u64 r1.node.tch, .slice B1 n1 d1, .slice none 0 0] := ⟨_, rfl⟩
  rw [← hV]
  have hs := box_reply w1 [.int .i64 r1.e, .string (S r1.path), .slice A1 m1 c1, .int .u32 r1.node.ver, .int .u32 r1.node.kin, .int .u32 r1.node.next, .int .i64 r1.node.site, .int .u32 r1.node.own, .int .u64 r1.node.made, .int .u64 r1.node.chg, .int .u64 r1.node.tch, .slice B1 n1 d1, .slice none 0 0] rfl
  rw [← hV] at hs
  obtain ⟨hk, hb⟩ := hs
  obtain ⟨q1, hq⟩ : ∃ q, q = w1.heap.size := ⟨_, rfl⟩
  have NB1 : Hid (¬ X1 q1) := fun h => by have := HT1.out.st.lt _ h; omega
  have NP1 := NB1
  rw [← hq] at hk ⊢
  have KB1 := Lib.hid hk
  have T1 := Lib.hid (HT1.out.below hb)
  clear hk hb hq hV HTH HT1 HO1 HX1 T0
  have c := did_st a wt1 X1 wo2 none 0 0 .none_ w V1 T1.out HTB.out rfl rfl (DataS.nil_ _ _) (by decide) (by decide) (by decide)
  go_wp2_with fail
  refine c.mono ?_
  rintro e w2 ⟨A2, m2, c2, B2, n2, d2, X2, rfl, hT, ho, hX, hD⟩
  have HX2 := Lib.hid hX
  have HO2 := Lib.hid ho
  have HT2 : Hid (TSt w a wt2 X2 w2) := hT
  have NB1 : Hid (¬ X2 q1) := fun h => (HX2.out _ h).elim NB1.out (fun h => by have := KB1.out.lt; omega)
  have KB1 := Lib.hid (KB1.out.kept (HO2.out.block q1 (KB1.out).lt NP1.out))
  have NP1 := NB1
  clear c hT ho hX hD
  obtain ⟨r2, hr2⟩ : ∃ r, r = (oneF wt1 .none_ wo2 []).2 := ⟨_, rfl⟩
  have HR2 : Hid (r2 = wr2) := hr2
  rw [← hr2]
  clear hr2
  have HTH := Lib.hid (box_there w2)
  dsimp only [rpV, rpC, znC, nilS, List.cons_append, List.nil_append]
  go_wp2_with ((with_reducible refine wpList_store_named ?_ 51 (.tmp 4) (.tmp 27) ?_ w2.heap.size 0 #[.int .i64 r2.e, .string (S r2.path), .slice A2 m2 c2, .int .u32 r2.node.ver, .int .u32 r2.node.kin, .int .u32 r2.node.next, .int .i64 r2.node.site, .int .u32 r2.node.own, .int .u64 r2.node.made, .int .u64 r2.node.chg, .int .u64 r2.node.tch, .slice B2 n2 d2, .slice none 0 0] ?_ ?_ ?_ ?_ ?_ ?_); (exact rfl); (exact rfl); (exact rfl); (exact rfl); (exact HTH.out); (exact size_reply); (simp [Value.oneCell']))
  refine Lib.hid ?_
  obtain ⟨V2, hV⟩ : ∃ V, V = (w2.alloc (.cells #[.int .i64 0, .string ⟨#[]⟩, .slice none 0 0, .int .u32 0, .int .u32 0, .int .u32 0, .int .i64 0, .int .u32 0, .int .u64 0, .int .u64 0, .int .u64 0, .slice none 0 0, .slice none 0 0] 51)).setCells w2.heap.size 0 [.int .i64 r2.e, .string (S r2.path), .slice A2 m2 c2, .int .u32 r2.node.ver, .int .u32 r2.node.kin, .int .u32 r2.node.next, .int .i64 r2.node.site, .int .u32 r2.node.own, .int .u64 r2.node.made, .int .u64 r2.node.chg, .int .u64 r2.node.tch, .slice B2 n2 d2, .slice none 0 0] := ⟨_, rfl⟩
  rw [← hV]
  have hs := box_reply w2 [.int .i64 r2.e, .string (S r2.path), .slice A2 m2 c2, .int .u32 r2.node.ver, .int .u32 r2.node.kin, .int .u32 r2.node.next, .int .i64 r2.node.site, .int .u32 r2.node.own, .int .u64 r2.node.made, .int .u64 r2.node.chg, .int .u64 r2.node.tch, .slice B2 n2 d2, .slice none 0 0] rfl
  rw [← hV] at hs
  obtain ⟨hk, hb⟩ := hs
  obtain ⟨q2, hq⟩ : ∃ q, q = w2.heap.size := ⟨_, rfl⟩
  have NB2 : Hid (¬ X2 q2) := fun h => by have := HT2.out.st.lt _ h; omega
  have NP2 := NB2
  rw [← hq] at hk ⊢
  have KB2 := Lib.hid hk
  have T2 := Lib.hid (HT2.out.below hb)
  have KB1 := Lib.hid (KB1.out.below hb)
  clear hk hb hq hV HTH HT2 HO2 HX2 T1
  have c := did_st a wt2 X2 wo3 none 0 0 .none_ w V2 T2.out HTB.out rfl rfl (DataS.nil_ _ _) (by decide) (by decide) (by decide)
  go_wp2_with fail
  refine c.mono ?_
  rintro e w3 ⟨A3, m3, c3, B3, n3, d3, X3, rfl, hT, ho, hX, hD⟩
  have HX3 := Lib.hid hX
  have HO3 := Lib.hid ho
  have HT3 : Hid (TSt w a wt3 X3 w3) := hT
  have NB1 : Hid (¬ X3 q1) := fun h => (HX3.out _ h).elim NB1.out (fun h => by have := KB1.out.lt; omega)
  have KB1 := Lib.hid (KB1.out.kept (HO3.out.block q1 (KB1.out).lt NP1.out))
  have NP1 := NB1
  have NB2 : Hid (¬ X3 q2) := fun h => (HX3.out _ h).elim NB2.out (fun h => by have := KB2.out.lt; omega)
  have KB2 := Lib.hid (KB2.out.kept (HO3.out.block q2 (KB2.out).lt NP2.out))
  have NP2 := NB2
  clear c hT ho hX hD
  obtain ⟨r3, hr3⟩ : ∃ r, r = (oneF wt2 .none_ wo3 []).2 := ⟨_, rfl⟩
  have HR3 : Hid (r3 = wr3) := hr3
  rw [← hr3]
  clear hr3
  have HTH := Lib.hid (box_there w3)
  dsimp only [rpV, rpC, znC, nilS, List.cons_append, List.nil_append]
  go_wp2_with ((with_reducible refine wpList_store_named ?_ 51 (.tmp 5) (.tmp 31) ?_ w3.heap.size 0 #[.int .i64 r3.e, .string (S r3.path), .slice A3 m3 c3, .int .u32 r3.node.ver, .int .u32 r3.node.kin, .int .u32 r3.node.next, .int .i64 r3.node.site, .int .u32 r3.node.own, .int .u64 r3.node.made, .int .u64 r3.node.chg, .int .u64 r3.node.tch, .slice B3 n3 d3, .slice none 0 0] ?_ ?_ ?_ ?_ ?_ ?_); (exact rfl); (exact rfl); (exact rfl); (exact rfl); (exact HTH.out); (exact size_reply); (simp [Value.oneCell']))
  refine Lib.hid ?_
  obtain ⟨V3, hV⟩ : ∃ V, V = (w3.alloc (.cells #[.int .i64 0, .string ⟨#[]⟩, .slice none 0 0, .int .u32 0, .int .u32 0, .int .u32 0, .int .i64 0, .int .u32 0, .int .u64 0, .int .u64 0, .int .u64 0, .slice none 0 0, .slice none 0 0] 51)).setCells w3.heap.size 0 [.int .i64 r3.e, .string (S r3.path), .slice A3 m3 c3, .int .u32 r3.node.ver, .int .u32 r3.node.kin, .int .u32 r3.node.next, .int .i64 r3.node.site, .int .u32 r3.node.own, .int .u64 r3.node.made, .int .u64 r3.node.chg, .int .u64 r3.node.tch, .slice B3 n3 d3, .slice none 0 0] := ⟨_, rfl⟩
  rw [← hV]
  have hs := box_reply w3 [.int .i64 r3.e, .string (S r3.path), .slice A3 m3 c3, .int .u32 r3.node.ver, .int .u32 r3.node.kin, .int .u32 r3.node.next, .int .i64 r3.node.site, .int .u32 r3.node.own, .int .u64 r3.node.made, .int .u64 r3.node.chg, .int .u64 r3.node.tch, .slice B3 n3 d3, .slice none 0 0] rfl
  rw [← hV] at hs
  obtain ⟨hk, hb⟩ := hs
  obtain ⟨q3, hq⟩ : ∃ q, q = w3.heap.size := ⟨_, rfl⟩
  have NB3 : Hid (¬ X3 q3) := fun h => by have := HT3.out.st.lt _ h; omega
  have NP3 := NB3
  rw [← hq] at hk ⊢
  have KB3 := Lib.hid hk
  have T3 := Lib.hid (HT3.out.below hb)
  have KB1 := Lib.hid (KB1.out.below hb)
  have KB2 := Lib.hid (KB2.out.below hb)
  clear hk hb hq hV HTH HT3 HO3 HX3 T2
  obtain ⟨U4, hU4⟩ : ∃ U, U = V3.alloc (.cells #[.int .u8 121] 5 (1, 2)) := ⟨_, rfl⟩
  have HU4 : Hid (Below V3.heap.size V3 U4) := by show Below _ _ _; rw [hU4]; exact (Below.refl _ _).alloc (Nat.le_refl _) _
  have HD4 : Hid (DataS (fun _ => True) U4 (.slice (some ⟨V3.heap.size, 0, none⟩) 1 1) [121]) := by show DataS _ _ _ _; rw [hU4]; exact data_one V3 121 (1, 2)
  have hcs : (convert 33 33 (.slice (some ⟨V3.heap.size, 0, none⟩) 1 1)).run Tryz.prog (V3.alloc (.cells #[.int .u8 121] 5)) = .ok (.slice (some ⟨V3.heap.size, 0, none⟩) 1 1) U4 := by rw [hU4]; exact conv_const V3 #[.int .u8 121] 1 1
  clear hU4
  have c := did_st a wt3 X3 wo4 (some ⟨V3.heap.size, 0, none⟩) 1 1 .none_ w U4 (T3.out.below HU4.out) HTB.out rfl rfl HD4.out (by decide) (by decide) (by decide)
  go_wp2_with fail
  refine c.mono ?_
  rintro e w4 ⟨A4, m4, c4, B4, n4, d4, X4, rfl, hT, ho, hX, hD⟩
  have HX4 := Lib.hid hX
  have HO4 := Lib.hid ho
  have HT4 : Hid (TSt w a wt4 X4 w4) := hT
  have HDD : Hid (DataS (fun j => U4.heap.size ≤ j ∧ ¬ X4 j) w4 (.slice A4 m4 c4) wr4.node.data) := hD
  have NB1 : Hid (¬ X4 q1) := fun h => (HX4.out _ h).elim NB1.out (fun h => by have := KB1.out.lt; have := HU4.out.size; omega)
  have KB1 := Lib.hid ((KB1.out.below HU4.out).kept (HO4.out.block q1 ((KB1.out.below HU4.out)).lt NP1.out))
  have NP1 := NB1
  have NB2 : Hid (¬ X4 q2) := fun h => (HX4.out _ h).elim NB2.out (fun h => by have := KB2.out.lt; have := HU4.out.size; omega)
  have KB2 := Lib.hid ((KB2.out.below HU4.out).kept (HO4.out.block q2 ((KB2.out.below HU4.out)).lt NP2.out))
  have NP2 := NB2
  have NB3 : Hid (¬ X4 q3) := fun h => (HX4.out _ h).elim NB3.out (fun h => by have := KB3.out.lt; have := HU4.out.size; omega)
  have KB3 := Lib.hid ((KB3.out.below HU4.out).kept (HO4.out.block q3 ((KB3.out.below HU4.out)).lt NP3.out))
  have NP3 := NB3
  clear c hT ho hX hD hcs HU4 HD4
  obtain ⟨r4, hr4⟩ : ∃ r, r = (oneF wt3 .none_ wo4 []).2 := ⟨_, rfl⟩
  have HR4 : Hid (r4 = wr4) := hr4
  rw [← hr4]
  clear hr4
  have HTH := Lib.hid (box_there w4)
  dsimp only [rpV, rpC, znC, nilS, List.cons_append, List.nil_append]
  go_wp2_with ((with_reducible refine wpList_store_named ?_ 51 (.tmp 6) (.tmp 37) ?_ w4.heap.size 0 #[.int .i64 r4.e, .string (S r4.path), .slice A4 m4 c4, .int .u32 r4.node.ver, .int .u32 r4.node.kin, .int .u32 r4.node.next, .int .i64 r4.node.site, .int .u32 r4.node.own, .int .u64 r4.node.made, .int .u64 r4.node.chg, .int .u64 r4.node.tch, .slice B4 n4 d4, .slice none 0 0] ?_ ?_ ?_ ?_ ?_ ?_); (exact rfl); (exact rfl); (exact rfl); (exact rfl); (exact HTH.out); (exact size_reply); (simp [Value.oneCell']))
  refine Lib.hid ?_
  obtain ⟨V4, hV⟩ : ∃ V, V = (w4.alloc (.cells #[.int .i64 0, .string ⟨#[]⟩, .slice none 0 0, .int .u32 0, .int .u32 0, .int .u32 0, .int .i64 0, .int .u32 0, .int .u64 0, .int .u64 0, .int .u64 0, .slice none 0 0, .slice none 0 0] 51)).setCells w4.heap.size 0 [.int .i64 r4.e, .string (S r4.path), .slice A4 m4 c4, .int .u32 r4.node.ver, .int .u32 r4.node.kin, .int .u32 r4.node.next, .int .i64 r4.node.site, .int .u32 r4.node.own, .int .u64 r4.node.made, .int .u64 r4.node.chg, .int .u64 r4.node.tch, .slice B4 n4 d4, .slice none 0 0] := ⟨_, rfl⟩
  rw [← hV]
  have hs := box_reply w4 [.int .i64 r4.e, .string (S r4.path), .slice A4 m4 c4, .int .u32 r4.node.ver, .int .u32 r4.node.kin, .int .u32 r4.node.next, .int .i64 r4.node.site, .int .u32 r4.node.own, .int .u64 r4.node.made, .int .u64 r4.node.chg, .int .u64 r4.node.tch, .slice B4 n4 d4, .slice none 0 0] rfl
  rw [← hV] at hs
  obtain ⟨hk, hb⟩ := hs
  obtain ⟨q4, hq⟩ : ∃ q, q = w4.heap.size := ⟨_, rfl⟩
  have NB4 : Hid (¬ X4 q4) := fun h => by have := HT4.out.st.lt _ h; omega
  have NP4 := NB4
  rw [← hq] at hk ⊢
  have KB4 := Lib.hid hk
  have T4 := Lib.hid (HT4.out.below hb)
  have KB1 := Lib.hid (KB1.out.below hb)
  have KB2 := Lib.hid (KB2.out.below hb)
  have KB3 := Lib.hid (KB3.out.below hb)
  have HDD := Lib.hid (HDD.out.below hb)
  clear hk hb hq hV HTH HT4 HO4 HX4 T3
  have c := did_st a wt4 X4 wo5 none 0 0 .none_ w V4 T4.out HTB.out rfl rfl (DataS.nil_ _ _) (by decide) (by decide) (by decide)
  go_wp2_with fail
  refine c.mono ?_
  rintro e w5 ⟨A5, m5, c5, B5, n5, d5, X5, rfl, hT, ho, hX, hD⟩
  have HX5 := Lib.hid hX
  have HO5 := Lib.hid ho
  have HT5 : Hid (TSt w a wt5 X5 w5) := hT
  have NB1 : Hid (¬ X5 q1) := fun h => (HX5.out _ h).elim NB1.out (fun h => by have := KB1.out.lt; omega)
  have KB1 := Lib.hid (KB1.out.kept (HO5.out.block q1 (KB1.out).lt NP1.out))
  have NP1 := NB1
  have NB2 : Hid (¬ X5 q2) := fun h => (HX5.out _ h).elim NB2.out (fun h => by have := KB2.out.lt; omega)
  have KB2 := Lib.hid (KB2.out.kept (HO5.out.block q2 (KB2.out).lt NP2.out))
  have NP2 := NB2
  have NB3 : Hid (¬ X5 q3) := fun h => (HX5.out _ h).elim NB3.out (fun h => by have := KB3.out.lt; omega)
  have KB3 := Lib.hid (KB3.out.kept (HO5.out.block q3 (KB3.out).lt NP3.out))
  have NP3 := NB3
  have NB4 : Hid (¬ X5 q4) := fun h => (HX5.out _ h).elim NB4.out (fun h => by have := KB4.out.lt; omega)
  have KB4 := Lib.hid (KB4.out.kept (HO5.out.block q4 (KB4.out).lt NP4.out))
  have NP4 := NB4
  have HDD := Lib.hid (HDD.out.out HO5.out (fun j hj => hj.2))
  clear c hT ho hX hD
  obtain ⟨r5, hr5⟩ : ∃ r, r = (oneF wt4 .none_ wo5 []).2 := ⟨_, rfl⟩
  have HR5 : Hid (r5 = wr5) := hr5
  rw [← hr5]
  clear hr5
  have HTH := Lib.hid (box_there w5)
  dsimp only [rpV, rpC, znC, nilS, List.cons_append, List.nil_append]
  go_wp2_with ((with_reducible refine wpList_store_named ?_ 51 (.tmp 7) (.tmp 41) ?_ w5.heap.size 0 #[.int .i64 r5.e, .string (S r5.path), .slice A5 m5 c5, .int .u32 r5.node.ver, .int .u32 r5.node.kin, .int .u32 r5.node.next, .int .i64 r5.node.site, .int .u32 r5.node.own, .int .u64 r5.node.made, .int .u64 r5.node.chg, .int .u64 r5.node.tch, .slice B5 n5 d5, .slice none 0 0] ?_ ?_ ?_ ?_ ?_ ?_); (exact rfl); (exact rfl); (exact rfl); (exact rfl); (exact HTH.out); (exact size_reply); (simp [Value.oneCell']))
  refine Lib.hid ?_
  obtain ⟨V5, hV⟩ : ∃ V, V = (w5.alloc (.cells #[.int .i64 0, .string ⟨#[]⟩, .slice none 0 0, .int .u32 0, .int .u32 0, .int .u32 0, .int .i64 0, .int .u32 0, .int .u64 0, .int .u64 0, .int .u64 0, .slice none 0 0, .slice none 0 0] 51)).setCells w5.heap.size 0 [.int .i64 r5.e, .string (S r5.path), .slice A5 m5 c5, .int .u32 r5.node.ver, .int .u32 r5.node.kin, .int .u32 r5.node.next, .int .i64 r5.node.site, .int .u32 r5.node.own, .int .u64 r5.node.made, .int .u64 r5.node.chg, .int .u64 r5.node.tch, .slice B5 n5 d5, .slice none 0 0] := ⟨_, rfl⟩
  rw [← hV]
  have hs := box_reply w5 [.int .i64 r5.e, .string (S r5.path), .slice A5 m5 c5, .int .u32 r5.node.ver, .int .u32 r5.node.kin, .int .u32 r5.node.next, .int .i64 r5.node.site, .int .u32 r5.node.own, .int .u64 r5.node.made, .int .u64 r5.node.chg, .int .u64 r5.node.tch, .slice B5 n5 d5, .slice none 0 0] rfl
  rw [← hV] at hs
  obtain ⟨hk, hb⟩ := hs
  obtain ⟨q5, hq⟩ : ∃ q, q = w5.heap.size := ⟨_, rfl⟩
  have NB5 : Hid (¬ X5 q5) := fun h => by have := HT5.out.st.lt _ h; omega
  have NP5 := NB5
  rw [← hq] at hk ⊢
  have KB5 := Lib.hid hk
  have T5 := Lib.hid (HT5.out.below hb)
  have KB1 := Lib.hid (KB1.out.below hb)
  have KB2 := Lib.hid (KB2.out.below hb)
  have KB3 := Lib.hid (KB3.out.below hb)
  have KB4 := Lib.hid (KB4.out.below hb)
  have HDD := Lib.hid (HDD.out.below hb)
  clear hk hb hq hV HTH HT5 HO5 HX5 T4
  have e1 : V5.cell? ⟨q1, 0, none⟩ = some (.int .i64 r1.e) := KB1.out.cell 0
  rw [HR1.out, wr1e] at e1
  have p1 : V5.cell? ⟨q1, 1, none⟩ = some (.string (S r1.path)) := KB1.out.cell 1
  rw [HR1.out, wr1p] at p1
  have p2 : V5.cell? ⟨q2, 1, none⟩ = some (.string (S r2.path)) := KB2.out.cell 1
  rw [HR2.out, wr2p] at p2
  have p3 : V5.cell? ⟨q3, 1, none⟩ = some (.string (S r3.path)) := KB3.out.cell 1
  rw [HR3.out, wr3p] at p3
  have e4 : V5.cell? ⟨q4, 0, none⟩ = some (.int .i64 r4.e) := KB4.out.cell 0
  rw [HR4.out, wr4e] at e4
  have d4' : V5.cell? ⟨q4, 2, none⟩ = some (.slice A4 m4 c4) := KB4.out.cell 2
  have v4 : V5.cell? ⟨q4, 3, none⟩ = some (.int .u32 r4.node.ver) := KB4.out.cell 3
  rw [HR4.out, wr4v] at v4
  have e5 : V5.cell? ⟨q5, 0, none⟩ = some (.int .i64 r5.e) := KB5.out.cell 0
  rw [HR5.out, wr5e] at e5
  have hcv : (convert 33 9 (.slice A4 m4 c4)).run Tryz.prog V5 = .ok (.string (S [121])) V5 := by
    obtain ⟨A', n', c', he, _, _, hrd⟩ := HDD.out
    injection he with h1 h2 h3
    subst h1 h2 h3
    rw [wr4d] at hrd
    exact run_string_Rd (P := Tryz.prog) 33 9 5 Tree.ty_bytes Tree.ty_byte ty_string hrd c4
  have hq1 : (S [47, 114, 47, 97]).toList = [47, 114, 47, 97] := S_list _
  have hq2 : (S [47, 114, 47, 110, 48, 48, 48, 48, 48, 48, 48, 48, 48, 48]).toList = [47, 114, 47, 110, 48, 48, 48, 48, 48, 48, 48, 48, 48, 48] := S_list _
  have hq3 : (S [47, 114, 47, 110, 48, 48, 48, 48, 48, 48, 48, 48, 48, 49]).toList = [47, 114, 47, 110, 48, 48, 48, 48, 48, 48, 48, 48, 48, 49] := S_list _
  have hq4 : (S [121]).toList = [121] := S_list _
  have ca := At_same 0 a wt5 V5 [(a, wt5)] X5 T5.out.st.1 rfl
  rw [wt5c] at ca
  generalize S [47, 114, 47, 97] = s1 at *
  generalize S [47, 114, 47, 110, 48, 48, 48, 48, 48, 48, 48, 48, 48, 48] = s2 at *
  generalize S [47, 114, 47, 110, 48, 48, 48, 48, 48, 48, 48, 48, 48, 49] = s3 at *
  generalize S [121] = s4 at *
  go_wp2_with fail
  refine ca.mono ?_
  rintro e w' ⟨rfl, rfl⟩
  go_wp2_with fail
  go_ret
  exact ⟨rfl, T5.out.st.2.1⟩
end Go.Proofs.YtplbckibogmicaaGreatDoor.Opn
