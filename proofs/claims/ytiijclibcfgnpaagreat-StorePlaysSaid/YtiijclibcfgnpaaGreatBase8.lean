/- Lemmas, part 8: PhaseG, PhaseFree, LogLeaf, PhaseOwn -/
import Derived.Orders
import Derived.RegionTactic
import Derived.KernelRfl
import Derived.Test.YtiijclibcfgnpaaGreatBase5
import Derived.Below
import Derived.WalkKit
import Derived.Test.YtiijclibcfgnpaaGreatBase7
import Derived.Test.YtiijclibcfgnpaaGreatBase1
namespace Go.Proofs.YtiijclibcfgnpaaGreat.PhaseG

section
variable {P : Program} {ops : Array Oper} {md : Region.Mode} {Q : Exit → Act → World → Prop}

def okB (ops : Array Oper) (n : Nat) : Bool :=
  (List.range ops.size).all fun i => match ops[i]? with
    | none => false
    | some o => (match o.guard with
      | none => true
      | some (j, _) => (o.after.any fun e => e.on == j && Region.binds .any e) && ((ops[j]?).bind (·.dst)).isSome) && ((o.after.all fun e => decide (e.on < i) || !Region.binds .any e) && (match o.dst with
      | none => true
      | some d => decide (d < n) && (List.range ops.size).all fun k => k == i || match ops[k]? with
        | none => true
        | some p => p.dst != some d))

theorem okB_spec {n : Nat} (h : okB ops n = true) {i : Nat} {o : Oper} (hi : ops[i]? = some o) :
    (∀ j b, o.guard = some (j, b) → (∃ e ∈ o.after, e.on = j ∧ Region.binds .any e = true) ∧ ∃ p d, ops[j]? = some p ∧ p.dst = some d) ∧ (∀ e ∈ o.after, Region.binds .any e = true → e.on < i) ∧ ∀ d, o.dst = some d → d < n ∧ ∀ k p, ops[k]? = some p → p.dst = some d → k = i := by
  have hlt : i < ops.size := (Array.getElem?_eq_some_iff.1 hi).1
  have h1 := List.all_eq_true.1 h i (List.mem_range.2 hlt)
  simp only [hi, Bool.and_eq_true] at h1
  obtain ⟨h2, h3, h4⟩ := h1
  refine ⟨fun j b hg => ?_, fun e he hbd => (by have := Array.all_eq_true_iff_forall_mem.1 h3 e he; rw [hbd, Bool.not_true, Bool.or_false] at this; exact of_decide_eq_true this), fun d hd => ?_⟩
  · rw [hg] at h2
    simp only [Bool.and_eq_true] at h2
    obtain ⟨k, hk, hkk⟩ := Array.any_eq_true.1 h2.1
    simp only [Bool.and_eq_true, beq_iff_eq] at hkk
    refine ⟨⟨_, Array.getElem_mem hk, hkk.1, hkk.2⟩, ?_⟩
    cases hp : ops[j]? with
    | none => rw [hp] at h2; simp at h2
    | some p =>
      cases hd : p.dst with
      | none => rw [hp] at h2; simp [hd] at h2
      | some d => exact ⟨p, d, rfl, hd⟩
  rw [hd] at h4
  simp only [Bool.and_eq_true] at h4
  refine ⟨of_decide_eq_true h4.1, fun k p hk hp => ?_⟩
  have hkl : k < ops.size := (Array.getElem?_eq_some_iff.1 hk).1
  have h5 := List.all_eq_true.1 h4.2 k (List.mem_range.2 hkl)
  simp only [hk, hp, Bool.or_eq_true, beq_iff_eq] at h5
  rcases h5 with h5 | h5
  · exact h5
  · simp at h5

structure Fits (ops : Array Oper) (v : Nat → Value) (a0 : Act) (listed : Array Bool) (a : Act) : Prop where
  defers : a.defers = a0.defers
  size : a.tmps.size = a0.tmps.size
  yes : ∀ k o d, ops[k]? = some o → o.dst = some d → listed.getD k false = true → a.tmps.getD d undef = v k
  no : ∀ d, (∀ k o, ops[k]? = some o → o.dst = some d → listed.getD k false = false) → a.tmps.getD d undef = a0.tmps.getD d undef

theorem getD_rep (n k : Nat) : (Array.replicate n false).getD k false = false := by
  by_cases h : k < n <;> simp [h]
theorem Fits.start (v : Nat → Value) (a0 : Act) : Fits ops v a0 (Array.replicate ops.size false) a0 :=
  ⟨rfl, rfl, (fun k o d _ _ h => by rw [getD_rep] at h; cases h), fun _ _ => rfl⟩
theorem put_getD (a : Act) (d : Nat) (v : Value) (e : Nat) (h : d < a.tmps.size) : (a.put (some d) v).tmps.getD e undef = if e = d then v else a.tmps.getD e undef := by
  unfold Act.put
  by_cases he : e = d
  · subst he; simp [h]
  · rw [if_neg he]
    simp only [Array.getD_eq_getD_getElem?]
    rw [Array.getElem?_setIfInBounds_ne (fun h => he h.symm)]
theorem set_getD (l : Array Bool) (i k : Nat) (h : i < l.size) : (l.setIfInBounds i true).getD k false = if k = i then true else l.getD k false := by
  by_cases he : k = i
  · subst he; simp [h]
  · rw [if_neg he]
    simp only [Array.getD_eq_getD_getElem?]
    rw [Array.getElem?_setIfInBounds_ne (fun h => he h.symm)]
theorem Fits.put {v : Nat → Value} {a0 a : Act} {listed : Array Bool} {i : Nat} {o : Oper} (hok : okB ops a0.tmps.size = true) (hi : ops[i]? = some o) (hl : listed.size = ops.size) (h : Fits ops v a0 listed a) :
    Fits ops v a0 (listed.setIfInBounds i true) (a.put o.dst (v i)) := by
  have hlt : i < listed.size := by rw [hl]; exact (Array.getElem?_eq_some_iff.1 hi).1
  obtain ⟨_, _, hd⟩ := okB_spec hok hi
  cases hdst : o.dst with
  | none =>
    refine ⟨h.defers, h.size, fun k p d hk hp hlk => ?_, fun d hn => ?_⟩
    · rw [set_getD _ _ _ hlt] at hlk
      by_cases hki : k = i
      · subst hki; rw [hi] at hk; injection hk with hk; subst hk; rw [hdst] at hp; cases hp
      · rw [if_neg hki] at hlk; exact h.yes k p d hk hp hlk
    · refine h.no d fun k p hk hp => ?_
      have := hn k p hk hp
      rw [set_getD _ _ _ hlt] at this
      by_cases hki : k = i
      · subst hki; rw [if_pos rfl] at this; cases this
      · rwa [if_neg hki] at this
  | some d0 =>
    obtain ⟨hd1, hd2⟩ := hd d0 hdst
    have hd1' : d0 < a.tmps.size := by rw [h.size]; exact hd1
    refine ⟨h.defers, by unfold Act.put; simp [h.size], fun k p d hk hp hlk => ?_, fun d hn => ?_⟩
    · rw [put_getD _ _ _ _ hd1']
      rw [set_getD _ _ _ hlt] at hlk
      by_cases hdd : d = d0
      · subst hdd
        rw [if_pos rfl, hd2 k p hk hp]
      · rw [if_neg hdd]
        by_cases hki : k = i
        · subst hki; rw [hi] at hk; injection hk with hk; subst hk; rw [hdst] at hp; injection hp with hp; exact absurd hp.symm hdd
        · rw [if_neg hki] at hlk; exact h.yes k p d hk hp hlk
    · rw [put_getD _ _ _ _ hd1']
      by_cases hdd : d = d0
      · subst hdd
        have := hn i o hi hdst
        rw [set_getD _ _ _ hlt, if_pos rfl] at this
        cases this
      · rw [if_neg hdd]
        refine h.no d fun k p hk hp => ?_
        have := hn k p hk hp
        rw [set_getD _ _ _ hlt] at this
        by_cases hki : k = i
        · subst hki; rw [if_pos rfl] at this; cases this
        · rwa [if_neg hki] at this
theorem Fits.same {v : Nat → Value} {a0 a b : Act} {la lb : Array Bool} (ha : Fits ops v a0 la a) (hb : Fits ops v a0 lb b) (h1 : ∀ k, k < ops.size → la.getD k false = true) (h2 : ∀ k, k < ops.size → lb.getD k false = true) : a = b := by
  have hs : a.tmps.size = b.tmps.size := by rw [ha.size, hb.size]
  have ht : a.tmps = b.tmps := by
    refine Array.ext hs fun d hd1 hd2 => ?_
    have key : a.tmps.getD d undef = b.tmps.getD d undef := by
      by_cases hex : ∃ (k : Nat) (o : Oper), ops[k]? = some o ∧ o.dst = some d
      · obtain ⟨k, o, hk, ho⟩ := hex
        have hkl := (Array.getElem?_eq_some_iff.1 hk).1
        rw [ha.yes k o d hk ho (h1 k hkl), hb.yes k o d hk ho (h2 k hkl)]
      · rw [ha.no d fun k o hk ho => absurd ⟨k, o, hk, ho⟩ hex, hb.no d fun k o hk ho => absurd ⟨k, o, hk, ho⟩ hex]
    simpa [hd1, hd2] using key
  have hdf : a.defers = b.defers := ha.defers.trans hb.defers.symm
  cases a
  cases b
  simp at ht hdf
  rw [ht, hdf]

def final (ops : Array Oper) (v : Nat → Value) : Nat → Act → Act
  | 0, a => a
  | n + 1, a => (final ops v n a).put ((ops[n]?).bind fun o : Oper => o.dst) (v n)
theorem final_fits (v : Nat → Value) (a0 : Act) (hok : okB ops a0.tmps.size = true) : ∀ n, n ≤ ops.size → ∃ l : Array Bool, l.size = ops.size ∧ (∀ k, k < n → l.getD k false = true) ∧ Fits ops v a0 l (final ops v n a0)
  | 0, _ => ⟨_, by simp, fun k hk => by omega, Fits.start v a0⟩
  | n + 1, hn => by
    obtain ⟨l, h1, h2, h3⟩ := final_fits v a0 hok n (by omega)
    have hi : ops[n]? = some ops[n] := Array.getElem?_eq_getElem (by omega)
    have h4 := Fits.put hok hi h1 h3
    refine ⟨l.setIfInBounds n true, by simp [h1], fun k hk => ?_, ?_⟩
    · rw [set_getD _ _ _ (by omega)]
      by_cases hkn : k = n
      · rw [if_pos hkn]
      · rw [if_neg hkn]; exact h2 k (by omega)
    · show Fits ops v a0 _ ((final ops v n a0).put ((ops[n]?).bind fun o : Oper => o.dst) (v n))
      rw [hi]
      exact h4

def left (l : Array Bool) : Nat := l.toList.countP (· == false)
theorem left_set {l : Array Bool} {i : Nat} (hi : i < l.size) (h : l.getD i true = false) : left (l.setIfInBounds i true) + 1 = left l := by
  unfold left
  have h0 : l[i] = false := by simpa [hi] using h
  have h1 : i < l.toList.length := by simpa using hi
  have h2 : l.toList[i] = false := by simpa using h0
  have h3 : 0 < l.toList.countP (· == false) := List.countP_pos_iff.2 ⟨false, by rw [← h2]; exact List.getElem_mem h1, rfl⟩
  rw [Array.toList_setIfInBounds, List.countP_set h1, h2, if_pos (show (false == false) = true from rfl), if_neg (show ¬ (true == false) = true by decide)]
  omega
theorem left_zero {l : Array Bool} (h : left l = 0) {k : Nat} (hk : k < l.size) : l.getD k false = true := by
  unfold left at h
  have h1 := List.countP_eq_zero.1 h
  have h2 := h1 l[k] (by simp)
  simpa [hk] using h2

theorem left_new (n : Nat) : left (Array.replicate n false) = n := by
  unfold left
  rw [Array.toList_replicate, List.countP_replicate]
  rfl

def guardsB (ops : Array Oper) (v : Nat → Value) : Bool := (List.range ops.size).all fun i => match (ops[i]?).bind (·.guard) with
  | none => true
  | some (j, b) => match v j with
    | .bool c => c == b
    | _ => false
theorem guardsB_spec {v : Nat → Value} (h : guardsB ops v = true) {i : Nat} {o : Oper} (hi : ops[i]? = some o) {j : Nat} {b : Bool} (hg : o.guard = some (j, b)) : v j = .bool b := by
  have hlt : i < ops.size := (Array.getElem?_eq_some_iff.1 hi).1
  have h1 := List.all_eq_true.1 h i (List.mem_range.2 hlt)
  simp only [hi, Option.bind_some, hg] at h1
  split at h1
  · next c hc =>
    rw [hc]
    have : c = b := by simpa using h1
    rw [this]
  · cases h1
theorem Fits.turn {v v' : Nat → Value} {a0 a : Act} {listed : Array Bool} (h : Fits ops v a0 listed a) (hv : ∀ k, listed.getD k false = true → v' k = v k) : Fits ops v' a0 listed a :=
  ⟨h.defers, h.size, fun k o d h1 h2 h3 => by rw [hv k h3]; exact h.yes k o d h1 h2 h3, h.no⟩
theorem wpAny_phased {a0 : Act} {C : (Nat → Value) → Array Bool → World → Prop} (hok : okB ops a0.tmps.size = true) (hgv : ∀ v listed W, C v listed W → guardsB ops v = true)
    (hstep : ∀ (i : Nat) (o : Oper), ops[i]? = some o → ∀ (v : Nat → Value) (listed : Array Bool) (a : Act) (W : World), listed.getD i true = false → (∀ e ∈ o.after, Region.binds .any e = true → listed.getD e.on false = true) → Fits ops v a0 listed a → C v listed W →
      ∀ K : Act → World → Prop, (∀ v' W', (∀ k, listed.getD k false = true → v' k = v k) → C v' (listed.setIfInBounds i true) W' → K (a.put o.dst (v' i)) W') → o.wp P a W K Q)
    (hend : ∀ (v : Nat → Value) (listed : Array Bool) (W : World), (∀ k, k < ops.size → listed.getD k false = true) → C v listed W → Q .normal (final ops v ops.size a0) W) :
    ∀ (fuel : Nat) (v : Nat → Value) (listed : Array Bool) (a : Act) (W : World), listed.size = ops.size → left listed = fuel → Fits ops v a0 listed a → C v listed W → wpAny P .any ops Q fuel listed a W := by
  have hall : ∀ (v : Nat → Value) (listed : Array Bool) (a : Act) (W : World), listed.size = ops.size → Fits ops v a0 listed a → C v listed W → (∀ k, k < ops.size → listed.getD k false = true) → Q .normal a W := by
    intro v listed a W hl hf hc hy
    obtain ⟨l, h1, h2, h3⟩ := final_fits v a0 hok ops.size (Nat.le_refl _)
    rw [Fits.same hf h3 hy h2]
    exact hend v listed W hy hc
  have hready : ∀ (listed : Array Bool), listed.size = ops.size → Region.ready .any ops listed = [] → ∀ k, k < ops.size → listed.getD k false = true := by
    intro listed hl hr k
    induction k using Nat.strongRecOn with
    | _ k ih =>
      intro hk
      have hi : ops[k]? = some ops[k] := Array.getElem?_eq_getElem hk
      obtain ⟨_, ha, _⟩ := okB_spec hok hi
      cases hb : listed.getD k false with
      | true => rfl
      | false =>
        have : k ∈ Region.ready .any ops listed := by
          unfold Region.ready
          refine List.mem_filter.2 ⟨List.mem_range.2 hk, ?_⟩
          have hkl : k < listed.size := by omega
          have h0 : listed.getD k true = false := by
            have : listed[k] = false := by simpa [hkl] using hb
            simp [hkl, this]
          rw [h0, hi]
          simp only [Bool.not_false, Bool.true_and, Option.map_some, Option.getD_some]
          refine Array.all_eq_true_iff_forall_mem.2 fun e he => ?_
          cases hbd : Region.binds .any e with
          | false => rfl
          | true => rw [ih e.on (ha e he hbd) (Nat.lt_trans (ha e he hbd) hk), Bool.or_true]
        rw [hr] at this
        cases this
  intro fuel
  induction fuel with
  | zero =>
    intro v listed a W hl hz hf hc
    have hy : ∀ k, k < ops.size → listed.getD k false = true := fun k hk => left_zero hz (by omega)
    refine ⟨?_, hall v listed a W hl hf hc hy⟩
    unfold Region.ready
    refine List.filter_eq_nil_iff.2 fun i hi => ?_
    have hil := List.mem_range.1 hi
    have hil' : i < listed.size := by omega
    have h1 : listed[i] = true := by simpa [hil'] using hy i hil
    simp [hil', h1]
  | succ fuel ih =>
    intro v listed a W hl hz hf hc
    refine ⟨fun hr => hall v listed a W hl hf hc (hready listed hl hr), fun i hi => ?_⟩
    unfold Region.ready at hi
    obtain ⟨hi1, hi2⟩ := List.mem_filter.1 hi
    have hil := List.mem_range.1 hi1
    have ho : ops[i]? = some ops[i] := Array.getElem?_eq_getElem hil
    rw [ho] at hi2
    simp only [Bool.and_eq_true, Option.map_some, Option.getD_some, Bool.not_eq_true'] at hi2
    obtain ⟨hun, haf⟩ := hi2
    have hdeps : ∀ e ∈ ops[i].after, Region.binds .any e = true → listed.getD e.on false = true := fun e he hb => by
      have := Array.all_eq_true_iff_forall_mem.1 haf e he
      rwa [hb, Bool.not_true, Bool.false_or] at this
    have hg := (okB_spec hok ho).1
    refine wpOp_step ho fun K hK => ?_
    have hw : Region.wanted ops[i] (yielded ops a.tmps) = true := by
      cases hgd : ops[i].guard with
      | none => simp [Region.wanted, hgd]
      | some jb =>
        obtain ⟨j, b⟩ := jb
        obtain ⟨⟨e, he, hej, heb⟩, p, d, hp, hd⟩ := hg j b hgd
        have h1 := hdeps e he heb
        rw [hej] at h1
        have h2 := hf.yes j p d hp hd h1
        rw [guardsB_spec (hgv v listed W hc) ho hgd] at h2
        have hdl := ((okB_spec hok hp).2.2 d hd).1
        have hdl' : d < a.tmps.size := by rw [hf.size]; exact hdl
        have h3 : a.tmps[d]? = some (.bool b) := by
          rw [Array.getElem?_eq_getElem hdl']
          simpa [hdl'] using h2
        simp [Region.wanted, hgd, yielded, hp, hd, h3]
    rw [if_pos hw]
    refine hstep i ops[i] ho v listed a W hun hdeps hf hc K fun v' W' hvv hc' => hK _ _ ?_
    exact ih v' (listed.setIfInBounds i true) (a.put ops[i].dst (v' i)) W' (by simp [hl]) (by have := left_set (l := listed) (i := i) (by omega) hun; omega) (Fits.put hok ho hl (hf.turn hvv)) hc'
theorem wp_region_phased {v0 : Nat → Value} {a0 : Act} {C : (Nat → Value) → Array Bool → World → Prop} {id : Nat} {w : World} (hm : P.follows .mixedOrders = true) (hok : okB ops a0.tmps.size = true) (hgv : ∀ v listed W, C v listed W → guardsB ops v = true)
    (hC : C v0 (Array.replicate ops.size false) { w with drawn := w.drawn + 1 })
    (hstep : ∀ (i : Nat) (o : Oper), ops[i]? = some o → ∀ (v : Nat → Value) (listed : Array Bool) (a : Act) (W : World), listed.getD i true = false → (∀ e ∈ o.after, Region.binds .any e = true → listed.getD e.on false = true) → Fits ops v a0 listed a → C v listed W →
      ∀ K : Act → World → Prop, (∀ v' W', (∀ k, listed.getD k false = true → v' k = v k) → C v' (listed.setIfInBounds i true) W' → K (a.put o.dst (v' i)) W') → o.wp P a W K Q)
    (hend : ∀ (v : Nat → Value) (listed : Array Bool) (W : World), (∀ k, k < ops.size → listed.getD k false = true) → C v listed W → Q .normal (final ops v ops.size a0) W) :
    (Code.region id ops true).wp P Q a0 w :=
  wp_region_any hm (wpAny_phased hok hgv hstep hend ops.size v0 _ a0 _ (by simp) (left_new ops.size) (Fits.start v0 a0) hC)
end
end Go.Proofs.YtiijclibcfgnpaaGreat.PhaseG

namespace Go.Proofs.YtiijclibcfgnpaaGreat.PhaseG
open Phase (any_in StepsL)
open Go.RowKit

structure DepF (l : List Oper) (v : Nat → Value) (a0 : Act) (R : Nat → Value → World → Prop) (o : Oper) (a : Act) (W : World) : Prop where
  done_ : ∀ (k : Nat) (p : Oper) (d : Nat), (o.after.any fun e => e.on == k && Region.binds .any e) = true → l[k]? = some p → p.dst = some d → a.tmps.getD d undef = v k ∧ R k (v k) W
  kept : ∀ d, (l.all fun p => p.dst != some d) = true → a.tmps.getD d undef = a0.tmps.getD d undef
def StepF (P : Program) (Q : Exit → Act → World → Prop) (l : List Oper) (a0 : Act) (w : World) (R : Nat → Value → World → Prop) (i : Nat) (o : Oper) : Prop :=
  ∀ (a : Act) (v : Nat → Value) (W : World), DepF l v a0 R o a W → Below w.heap.size w W → ∀ K : Act → World → Prop, (∀ x W', Below W.heap.size W W' → R i x W' → K (a.put o.dst x) W') → o.wp P a W K Q
section
variable {P : Program} {Q : Exit → Act → World → Prop}
theorem guardsB_none {ops : Array Oper} (h : (ops.toList.all fun o => o.guard.isNone) = true) (v : Nat → Value) : guardsB ops v = true := by
  unfold guardsB
  refine List.all_eq_true.2 fun i hi => ?_
  have hlt := List.mem_range.1 hi
  have ho : ops[i]? = some ops[i] := Array.getElem?_eq_getElem hlt
  have hg := List.all_eq_true.1 h ops[i] (by simp)
  rw [ho]
  have : ops[i].guard = none := by simpa using hg
  simp [this]
theorem wp_region_free {l : List Oper} {a0 : Act} {id : Nat} {w : World} (R : Nat → Value → World → Prop) (hm : P.follows .mixedOrders = true) (hok : okB l.toArray a0.tmps.size = true) (hng : (l.all fun o => o.guard.isNone) = true)
    (hR : ∀ k x W W', R k x W → Below w.heap.size w W → Below W.heap.size W W' → R k x W') (hsteps : StepsL (StepF P Q l a0 w R) 0 l) (F : (Nat → Value) → Act) (hF : ∀ v, final l.toArray v l.length a0 = F v)
    (hend : ∀ v W, Below w.heap.size w W → (∀ k, k < l.length → R k (v k) W) → Q .normal (F v) W) :
    (Code.region id l.toArray true).wp P Q a0 w := by
  refine wp_region_phased (v0 := fun _ => undef) (C := fun v listed W => Below w.heap.size w W ∧ listed.size = l.length ∧ ∀ k, k < l.length → listed.getD k false = true → R k (v k) W) hm hok (fun v _ _ _ => guardsB_none (by simpa using hng) v) ⟨(Below.refl _ _).drew, by simp, fun k _ h => by rw [getD_rep] at h; cases h⟩ ?_ ?_
  · intro i o hi v listed a W hun hdeps hf hC K hK
    obtain ⟨hb, hsz, hr⟩ := hC
    have hil : l[i]? = some o := by simpa using hi
    have hlt : i < l.length := (List.getElem?_eq_some_iff.1 hil).1
    have hltl : i < listed.size := by omega
    have hD : DepF l v a0 R o a W := ⟨fun k p d hk hp hd => by
        obtain ⟨e, he, hek⟩ := any_in hk
        simp only [Bool.and_eq_true, beq_iff_eq] at hek
        have := hdeps e he hek.2
        rw [hek.1] at this
        exact ⟨hf.yes k p d (by simpa using hp) hd this, hr k (List.getElem?_eq_some_iff.1 hp).1 this⟩,
      fun d hd => hf.no d fun k p hk hp => by
        have hk' : l[k]? = some p := by simpa using hk
        have := List.all_eq_true.1 hd p (List.mem_of_getElem? hk')
        rw [hp] at this
        simp at this⟩
    have hS := StepsL.get hsteps hil
    rw [Nat.zero_add] at hS
    refine hS a v W hD hb K fun x W' hb' hx => ?_
    have hg : ∀ k, (listed.setIfInBounds i true).getD k false = if k = i then true else listed.getD k false := fun k => set_getD _ _ _ hltl
    have hunf : listed.getD i false = false := by
      have : listed[i] = false := by simpa [hltl] using hun
      simp [hltl, this]
    have := hK (fun k => if k = i then x else v k) W' (fun k hk => by
      by_cases e : k = i
      · rw [e, hunf] at hk; cases hk
      · rw [if_neg e]) ⟨hb.trans (hb'.mono hb.size), by simpa using hsz, fun k hk hl => by
        rw [hg] at hl
        by_cases e : k = i
        · rw [if_pos e, e]
          exact hx
        · rw [if_neg e] at hl ⊢
          exact hR k _ W W' (hr k hk hl) hb hb'⟩
    rwa [if_pos rfl] at this
  · intro v listed W hall hC
    obtain ⟨hb, _, hr⟩ := hC
    have := hend v W hb fun k hk => hr k hk (hall k (by simpa using hk))
    rw [← hF v] at this
    simpa using this
end
end Go.Proofs.YtiijclibcfgnpaaGreat.PhaseG

namespace Go.Proofs.YtiijclibcfgnpaaGreat.Log
open Go.RowKit Disk
open PhaseG (wp_region_free)
open Phase (stepsL_cons stepsL_nil)

def SlAt (b : List UInt8) (x : Value) (W : World) : Prop := ∃ A n c, x = .slice A n c ∧ n = b.length ∧ n ≤ c ∧ Rd W A n b
theorem SlAt.below {b : List UInt8} {x : Value} {W W' : World} (h : SlAt b x W) (hb : Below W.heap.size W W') : SlAt b x W' := by
  obtain ⟨A, n, c, h1, h2, h3, h4⟩ := h
  exact ⟨A, n, c, h1, h2, h3, h4.below hb⟩
theorem _root_.Go.Proofs.YtiijclibcfgnpaaGreat.Put.sl {w w' : World} {b : List UInt8} {x : Value} (h : Put w b (.returned x) w') : SlAt b x w' ∧ Below w.heap.size w w' := by
  obtain ⟨A, n, c, h1, h2, h3, h4, h5⟩ := h
  injection h1 with h1
  exact ⟨⟨A, n, c, h1, h2, h3, (Rd.of_own h4).1⟩, h5⟩
theorem _root_.Go.Proofs.YtiijclibcfgnpaaGreat.Put.from {w w1 w' : World} {b : List UInt8} {e : Ending} (h : Put w1 b e w') (hb : Below w.heap.size w w1) : Put w b e w' := by
  obtain ⟨A, n, c, h1, h2, h3, h4, h5⟩ := h
  exact ⟨A, n, c, h1, h2, h3, own_base h4 hb.size, hb.trans (h5.mono hb.size)⟩
theorem _root_.Go.Proofs.YtiijclibcfgnpaaGreat.Put.val {w w' : World} {b : List UInt8} {e : Ending} (h : Put w b e w') : ∃ x, e = .returned x ∧ Put w b (.returned x) w' := by
  obtain ⟨A, n, c, rfl, h⟩ := h
  exact ⟨_, rfl, A, n, c, rfl, h⟩
theorem rows_lit (w : World) (t : TypeId) (vs : List Value) : RdV (w.alloc (.cells vs.toArray t)) (some ⟨w.heap.size, 0, none⟩) vs.length vs :=
  ⟨rfl, fun _ => ⟨_, rfl, fun j u hu => by
    have hadd : ((⟨w.heap.size, 0, none⟩ : Addr).add j) = ⟨w.heap.size, j, none⟩ := by unfold Addr.add; split <;> simp_all
    rw [hadd, (Bk.new w t vs.toArray).cell j]
    simpa using hu⟩⟩
theorem Many.sl {W : World} {b : List UInt8} {x : Value} {vs : List Value} {bs : List (List UInt8)} (h1 : SlAt b x W) (h : Many W vs bs) : Many W (x :: vs) (b :: bs) := by
  obtain ⟨A, n, c, rfl, _, h3, h4⟩ := h1
  exact Many.cons_ h4 h3 h
structure LfAt (W : World) (g : Nat) (s a o : Nat) (A : Option Addr) (n c : Nat) : Prop where
  c0 : W.cell? ⟨g, 0, none⟩ = some (.int .u64 (s : Int))
  c1 : W.cell? ⟨g, 1, none⟩ = some (.int .u16 (a : Int))
  c2 : W.cell? ⟨g, 2, none⟩ = some (.int .u16 (o : Int))
  c3 : W.cell? ⟨g, 3, none⟩ = some (.slice A n c)
theorem LfAt.keep {W W' : World} {g s a o : Nat} {A : Option Addr} {n c : Nat} (h : LfAt W g s a o A n c) (hk : W'.heap[g]? = W.heap[g]?) : LfAt W' g s a o A n c :=
  have e : ∀ i, W'.cell? ⟨g, i, none⟩ = W.cell? ⟨g, i, none⟩ := fun i => World.cell?_of_block (w := W) (by exact hk)
  ⟨(e 0).trans h.c0, (e 1).trans h.c1, (e 2).trans h.c2, (e 3).trans h.c3⟩
theorem LfAt.new (w : World) (t : TypeId) (s a o : Nat) (A : Option Addr) (n c : Nat) : LfAt (w.alloc (.cells #[.int .u64 (s : Int), .int .u16 (a : Int), .int .u16 (o : Int), .slice A n c] t)) w.heap.size s a o A n c :=
  have h := Bk.new w t #[.int .u64 (s : Int), .int .u16 (a : Int), .int .u16 (o : Int), .slice A n c]
  ⟨h.cell 0, h.cell 1, h.cell 2, h.cell 3⟩
def RL1 (w : World) (s _p _o n c : Nat) (A : Option Addr) (_b : List UInt8) : Nat → Value → World → Prop
  | 0, x, _ => x = .pointer (some ⟨w.heap.size, 0, none⟩)
  | 1, x, _ => x = .int .u64 (s : Int)
  | 2, x, W => SlAt (be 8 s) x W
  | 3, x, _ => x = .pointer (some ⟨w.heap.size, 3, none⟩)
  | 4, x, _ => x = .slice A n c
  | 5, x, _ => x = .int .i64 (n : Int)
  | 6, x, _ => x = .int .i64 ((480 - n : Nat) : Int)
  | 7, x, W => SlAt (List.replicate (480 - n) 0) x W
  | 8, x, W => SlAt (be 8 s) x W
  | 9, x, W => SlAt (List.replicate (480 - n) 0) x W
  | _, _, _ => True
theorem RL1.below (w : World) (s p o n c : Nat) (A : Option Addr) (b : List UInt8) {k : Nat} {x : Value} {W W' : World} (h : RL1 w s p o n c A b k x W) (hb : Below W.heap.size W W') : RL1 w s p o n c A b k x W' := by
  match k, h with
  | 0, h => exact h
  | 1, h => exact h
  | 2, h => exact SlAt.below h hb
  | 3, h => exact h
  | 4, h => exact h
  | 5, h => exact h
  | 6, h => exact h
  | 7, h => exact SlAt.below h hb
  | 8, h => exact SlAt.below h hb
  | 9, h => exact SlAt.below h hb
  | _ + 10, _ => trivial
def RL2 (w : World) (s p o n c : Nat) (A : Option Addr) (b : List UInt8) : Nat → Value → World → Prop
  | 0, x, W => SlAt (be 8 s) x W
  | 1, x, _ => x = .pointer (some ⟨w.heap.size, 1, none⟩)
  | 2, x, _ => x = .int .u16 (p : Int)
  | 3, x, W => SlAt (be 2 p) x W
  | 4, x, _ => x = .pointer (some ⟨w.heap.size, 2, none⟩)
  | 5, x, _ => x = .int .u16 (o : Int)
  | 6, x, W => SlAt (be 2 o) x W
  | 7, x, _ => x = .pointer (some ⟨w.heap.size, 3, none⟩)
  | 8, x, _ => x = .slice A n c
  | 9, x, W => SlAt (be 4 n ++ b) x W
  | 10, x, W => SlAt (List.replicate (480 - n) 0) x W
  | 11, x, W => ∃ g vs, x = .slice (some ⟨g, 0, none⟩) 5 5 ∧ RdV W (some ⟨g, 0, none⟩) 5 vs ∧ Many W vs [be 8 s, be 2 p, be 2 o, be 4 n ++ b, List.replicate (480 - n) 0]
  | 12, x, W => SlAt (bodyP s p o b) x W
  | 13, x, W => SlAt (bodyP s p o b) x W
  | _, _, _ => True
theorem RL2.below (w : World) (s p o n c : Nat) (A : Option Addr) (b : List UInt8) {k : Nat} {x : Value} {W W' : World} (h : RL2 w s p o n c A b k x W) (hb : Below W.heap.size W W') : RL2 w s p o n c A b k x W' := by
  match k, h with
  | 0, h => exact SlAt.below h hb
  | 1, h => exact h
  | 2, h => exact h
  | 3, h => exact SlAt.below h hb
  | 4, h => exact h
  | 5, h => exact h
  | 6, h => exact SlAt.below h hb
  | 7, h => exact h
  | 8, h => exact h
  | 9, h => exact SlAt.below h hb
  | 10, h => exact SlAt.below h hb
  | 11, h => obtain ⟨g, vs, h1, h2, h3⟩ := h; exact ⟨g, vs, h1, h2.below hb, h3.below hb⟩
  | 12, h => exact SlAt.below h hb
  | 13, h => exact SlAt.below h hb
  | _ + 14, _ => trivial
theorem zeros_new (w : World) (z : Nat) : Rd (w.alloc (.cells (List.replicate z (U 0)).toArray 5)) (some ⟨w.heap.size, 0, none⟩) z (List.replicate z 0) := by
  have := rd_lit w 5 (0, 0) (List.replicate z 0)
  simpa using this
set_option maxRecDepth 100000 in
set_option maxHeartbeats 2000000 in
theorem leaf_lay (s p o n c : Nat) (A : Option Addr) (b : List UInt8) (w : World) (hs : s < 18446744073709551616) (hp : p < 65536) (ho : o < 65536) (h : Rd w A n b) (hn : n ≤ 480) :
    Calls Tryz.prog 202 #[.agg #[.int .u64 (s : Int), .int .u16 (p : Int), .int .u16 (o : Int), .slice A n c]] w (Put w (leafP s p o b)) := by
  obtain ⟨i0, hi, hz0, hz1, hz2⟩ := info_parts info_byte
  have HI := Lib.hid hi
  have HZ0 := Lib.hid hz0
  have HZ1 := Lib.hid hz1
  have HZ2 := Lib.hid hz2
  clear hi hz0 hz1 hz2
  have HS := Lib.hid hs
  have HP16 := Lib.hid hp
  have HO16 := Lib.hid ho
  have HN4 := Lib.hid hn
  have HBL : Hid (b.length = n) := h.len
  have HB0 : Hid (Below w.heap.size w (w.alloc (.cells #[.int .u64 (s : Int), .int .u16 (p : Int), .int .u16 (o : Int), .slice A n c] 246))) := (Below.refl _ _).alloc (Nat.le_refl _) _
  have HBODY : Hid ([be 8 s, be 2 p, be 2 o, be 4 n ++ b, List.replicate (480 - n) 0].flatten = bodyP s p o b) := by
    show _ = _
    unfold bodyP
    rw [h.len]
    simp
  have hlf : LfAt (w.alloc (.cells #[.int .u64 (s : Int), .int .u16 (p : Int), .int .u16 (o : Int), .slice A n c] 246)) w.heap.size s p o A n c := LfAt.new w _ s p o A n c
  obtain ⟨w0, hw0⟩ : ∃ w0, w0 = w.alloc (.cells #[.int .u64 (s : Int), .int .u16 (p : Int), .int .u16 (o : Int), .slice A n c] 246) := ⟨_, rfl⟩
  have hsz : w.heap.size < w0.heap.size := by rw [hw0, size_new]; omega
  rw [← hw0] at HB0 hlf
  have HL1 : Hid (∀ W, Below w0.heap.size w0 W → LfAt W w.heap.size s p o A n c) := fun W hW => hlf.keep (hW.block _ hsz)
  have HRB0 : Hid (∀ W, Below w0.heap.size w0 W → Rd W A n b) := fun W hW => (h.below HB0.out).below hW
  have HW0 := Lib.hid hw0
  have HSZ := Lib.hid hsz
  have HSUM : Hid (Crc.sum (bodyP s p o b) < 18446744073709551616) := Crc.sum_lt _
  clear hs hp ho hn h hlf hw0 hsz
  go_enter Tryz.func202, Tryz.ntmps202
  go_wp2_with fail
  rw [← HW0.out]
  refine wp_region_free (RL1 w s p o n c A b) (by kernel_rfl) (by kernel_rfl) (by kernel_rfl) ?_ ?_ (fun v => { tmps := #[.agg #[.int .u64 (s : Int), .int .u16 (p : Int), .int .u16 (o : Int), .slice A n c], .pointer (some ⟨w.heap.size, 0, none⟩), .slice none 0 0, v 8, v 9, undef, undef, v 0, v 1, v 2, v 3, v 4, v 5, v 6, v 7, undef, undef, undef, undef, undef, undef, undef, undef, undef, undef, undef, undef, undef, undef, undef, undef, undef, undef, undef, undef, undef, undef], defers := [] }) (fun v => by kernel_rfl) ?_
  · intro k x W W' hx h1 h2
    exact RL1.below _ _ _ _ _ _ _ _ hx h2
  · refine stepsL_cons ?_ (stepsL_cons ?_ (stepsL_cons ?_ (stepsL_cons ?_ (stepsL_cons ?_ (stepsL_cons ?_ (stepsL_cons ?_ (stepsL_cons ?_ (stepsL_cons ?_ (stepsL_cons ?_ (stepsL_nil))))))))))
    · intro a v W hd hb K hK
      have k1 : a.tmps.getD 1 undef = .pointer (some ⟨w.heap.size, 0, none⟩) := hd.kept 1 (by kernel_rfl)
      have hk := hK (.pointer (some ⟨w.heap.size, 0, none⟩)) W (Below.refl _ _) rfl
      clear hK
      unfold Oper.wp
      go_simp
      exact hk
    · intro a v W hd hb K hK
      obtain ⟨h7, r7⟩ := hd.done_ 0 _ 7 (by kernel_rfl) rfl rfl
      have r7 : v 0 = .pointer (some ⟨w.heap.size, 0, none⟩) := r7
      rw [r7] at h7
      have c0 := (HL1.out W hb).c0
      have hk := hK (.int .u64 (s : Int)) W (Below.refl _ _) rfl
      clear hK
      unfold Oper.wp
      go_simp
      exact hk
    · intro a v W hd hb K hK
      obtain ⟨h8, r8⟩ := hd.done_ 1 _ 8 (by kernel_rfl) rfl rfl
      have r8 : v 1 = .int .u64 (s : Int) := r8
      rw [r8] at h8
      have cw := Uint_any none 0 0 s (s : Int) [] W (Rd.nil_ _ _) rfl HS.out (by omega)
      unfold Oper.wp
      go_simp
      refine cw.mono ?_
      intro e W' hp
      obtain ⟨x, rfl, hp⟩ := hp.val
      obtain ⟨h1, h2⟩ := hp.sl
      exact hK x W' h2 h1
    · intro a v W hd hb K hK
      have k1 : a.tmps.getD 1 undef = .pointer (some ⟨w.heap.size, 0, none⟩) := hd.kept 1 (by kernel_rfl)
      have hk := hK (.pointer (some ⟨w.heap.size, 3, none⟩)) W (Below.refl _ _) rfl
      clear hK
      unfold Oper.wp
      go_simp
      exact hk
    · intro a v W hd hb K hK
      obtain ⟨h10, r10⟩ := hd.done_ 3 _ 10 (by kernel_rfl) rfl rfl
      have r10 : v 3 = .pointer (some ⟨w.heap.size, 3, none⟩) := r10
      rw [r10] at h10
      have c3 := (HL1.out W hb).c3
      have hk := hK (.slice A n c) W (Below.refl _ _) rfl
      clear hK
      unfold Oper.wp
      go_simp
      exact hk
    · intro a v W hd hb K hK
      obtain ⟨h11, r11⟩ := hd.done_ 4 _ 11 (by kernel_rfl) rfl rfl
      have r11 : v 4 = .slice A n c := r11
      rw [r11] at h11
      have hk := hK (.int .i64 (n : Int)) W (Below.refl _ _) rfl
      clear hK
      unfold Oper.wp
      go_simp
      exact hk
    · intro a v W hd hb K hK
      obtain ⟨h12, r12⟩ := hd.done_ 5 _ 12 (by kernel_rfl) rfl rfl
      have r12 : v 5 = .int .i64 (n : Int) := r12
      rw [r12] at h12
      have w1 : IntKind.i64.wrap (480 - (n : Int)) = ((480 - n : Nat) : Int) := by rw [IntKind.wrap_i64]; have := HN4.out; omega
      have hk := hK (.int .i64 ((480 - n : Nat) : Int)) W (Below.refl _ _) rfl
      clear hK
      unfold Oper.wp
      go_simp
      exact hk
    · intro a v W hd hb K hK
      obtain ⟨h13, r13⟩ := hd.done_ 6 _ 13 (by kernel_rfl) rfl rfl
      have r13 : v 6 = .int .i64 ((480 - n : Nat) : Int) := r13
      rw [r13] at h13
      have hmk := run_make_bytes (P := Tryz.prog) ty_bytes HI.out HZ0.out HZ1.out HZ2.out .i64 .i64 (480 - n) ((480 - n : Nat) : Int) (Int.le_refl _) (by omega) W
      rw [Int.toNat_natCast] at hmk
      have hk := hK (.slice (some ⟨W.heap.size, 0, none⟩) (480 - n) (480 - n)) _ ((Below.refl _ _).alloc (Nat.le_refl _) _) ⟨_, _, _, rfl, by rw [List.length_replicate], Nat.le_refl _, zeros_new W (480 - n)⟩
      generalize 480 - n = z at *
      unfold Oper.wp
      go_simp
      exact hk
    · intro a v W hd hb K hK
      obtain ⟨h9, r9⟩ := hd.done_ 2 _ 9 (by kernel_rfl) rfl rfl
      have q9 := r9
      obtain ⟨A9, n9, c9, e9, -⟩ := r9
      rw [e9] at h9 q9
      have hk := hK (.slice A9 n9 c9) W (Below.refl _ _) q9
      clear hK
      unfold Oper.wp
      go_simp
      exact hk
    · intro a v W hd hb K hK
      obtain ⟨h14, r14⟩ := hd.done_ 7 _ 14 (by kernel_rfl) rfl rfl
      have q14 := r14
      obtain ⟨A9, n9, c9, e9, -⟩ := r14
      rw [e9] at h14 q14
      have hk := hK (.slice A9 n9 c9) W (Below.refl _ _) q14
      clear hK
      unfold Oper.wp
      go_simp
      exact hk
  · intro v w1 hb1 hv
    have v0 : v 0 = .pointer (some ⟨w.heap.size, 0, none⟩) := hv 0 (by decide)
    have v1 : v 1 = .int .u64 (s : Int) := hv 1 (by decide)
    have v3 : v 3 = .pointer (some ⟨w.heap.size, 3, none⟩) := hv 3 (by decide)
    have v4 : v 4 = .slice A n c := hv 4 (by decide)
    have v5 : v 5 = .int .i64 (n : Int) := hv 5 (by decide)
    have v6 : v 6 = .int .i64 ((480 - n : Nat) : Int) := hv 6 (by decide)
    have v8 : SlAt (be 8 s) (v 8) w1 := hv 8 (by decide)
    have v9 : SlAt (List.replicate (480 - n) 0) (v 9) w1 := hv 9 (by decide)
    clear hv
    rw [v0, v1, v3, v4, v5, v6]
    generalize v 2 = x9
    generalize v 7 = x14
    obtain ⟨A9, n9, c9, e9, hl9, hc9, hr9⟩ := v8
    obtain ⟨A14, n14, c14, e14, hl14, hc14, hr14⟩ := v9
    rw [e9, e14]
    have HB1 := Lib.hid hb1
    have HQ9 : Hid (∀ W, Below w1.heap.size w1 W → SlAt (be 8 s) (.slice A9 n9 c9) W) := fun W hW => ⟨_, _, _, rfl, hl9, hc9, hr9.below hW⟩
    have HQ14 : Hid (∀ W, Below w1.heap.size w1 W → SlAt (List.replicate (480 - n) 0) (.slice A14 n14 c14) W) := fun W hW => ⟨_, _, _, rfl, hl14, hc14, hr14.below hW⟩
    have HL2 : Hid (∀ W, Below w1.heap.size w1 W → LfAt W w.heap.size s p o A n c) := fun W hW => HL1.out W (hb1.trans (hW.mono hb1.size))
    have HRB : Hid (∀ W, Below w1.heap.size w1 W → Rd W A n b) := fun W hW => HRB0.out W (hb1.trans (hW.mono hb1.size))
    clear v0 v1 v3 v4 v5 v6 e9 e14 hl9 hc9 hr9 hl14 hc14 hr14 hb1 HRB0 HL1
    clear v
    go_wp2_with fail
    refine wp_region_free (RL2 w s p o n c A b) (by kernel_rfl) (by kernel_rfl) (by kernel_rfl) ?_ ?_ (fun v => { tmps := #[.agg #[.int .u64 (s : Int), .int .u16 (p : Int), .int .u16 (o : Int), .slice A n c], .pointer (some ⟨w.heap.size, 0, none⟩), .slice none 0 0, .slice A9 n9 c9, .slice A14 n14 c14, v 13, undef, .pointer (some ⟨w.heap.size, 0, none⟩), .int .u64 (s : Int), x9, .pointer (some ⟨w.heap.size, 3, none⟩), .slice A n c, .int .i64 (n : Int), .int .i64 ((480 - n : Nat) : Int), x14, v 0, v 1, v 2, v 3, v 4, v 5, v 6, v 7, v 8, v 9, v 10, v 11, v 12, undef, undef, undef, undef, undef, undef, undef, undef, undef], defers := [] }) (fun v => by kernel_rfl) ?_
    · intro k x W W' hx h1 h2
      exact RL2.below _ _ _ _ _ _ _ _ hx h2
    · refine stepsL_cons ?_ (stepsL_cons ?_ (stepsL_cons ?_ (stepsL_cons ?_ (stepsL_cons ?_ (stepsL_cons ?_ (stepsL_cons ?_ (stepsL_cons ?_ (stepsL_cons ?_ (stepsL_cons ?_ (stepsL_cons ?_ (stepsL_cons ?_ (stepsL_cons ?_ (stepsL_cons ?_ (stepsL_nil))))))))))))))
      · intro a v W hd hb K hK
        have k3 : a.tmps.getD 3 undef = .slice A9 n9 c9 := hd.kept 3 (by kernel_rfl)
        have hk := hK (.slice A9 n9 c9) W (Below.refl _ _) (HQ9.out W hb)
        clear hK
        unfold Oper.wp
        go_simp
        exact hk
      · intro a v W hd hb K hK
        have k1 : a.tmps.getD 1 undef = .pointer (some ⟨w.heap.size, 0, none⟩) := hd.kept 1 (by kernel_rfl)
        have hk := hK (.pointer (some ⟨w.heap.size, 1, none⟩)) W (Below.refl _ _) rfl
        clear hK
        unfold Oper.wp
        go_simp
        exact hk
      · intro a v W hd hb K hK
        obtain ⟨h16, r16⟩ := hd.done_ 1 _ 16 (by kernel_rfl) rfl rfl
        have r16 : v 1 = .pointer (some ⟨w.heap.size, 1, none⟩) := r16
        rw [r16] at h16
        have c1 := (HL2.out W hb).c1
        have hk := hK (.int .u16 (p : Int)) W (Below.refl _ _) rfl
        clear hK
        unfold Oper.wp
        go_simp
        exact hk
      · intro a v W hd hb K hK
        obtain ⟨h17, r17⟩ := hd.done_ 2 _ 17 (by kernel_rfl) rfl rfl
        have r17 : v 2 = .int .u16 (p : Int) := r17
        rw [r17] at h17
        have cw := putTwo_any p HP16.out W
        unfold Oper.wp
        go_simp
        refine cw.mono ?_
        intro e W' hp
        obtain ⟨x, rfl, hp⟩ := hp.val
        obtain ⟨h1, h2⟩ := hp.sl
        exact hK x W' h2 h1
      · intro a v W hd hb K hK
        have k1 : a.tmps.getD 1 undef = .pointer (some ⟨w.heap.size, 0, none⟩) := hd.kept 1 (by kernel_rfl)
        have hk := hK (.pointer (some ⟨w.heap.size, 2, none⟩)) W (Below.refl _ _) rfl
        clear hK
        unfold Oper.wp
        go_simp
        exact hk
      · intro a v W hd hb K hK
        obtain ⟨h19, r19⟩ := hd.done_ 4 _ 19 (by kernel_rfl) rfl rfl
        have r19 : v 4 = .pointer (some ⟨w.heap.size, 2, none⟩) := r19
        rw [r19] at h19
        have c2 := (HL2.out W hb).c2
        have hk := hK (.int .u16 (o : Int)) W (Below.refl _ _) rfl
        clear hK
        unfold Oper.wp
        go_simp
        exact hk
      · intro a v W hd hb K hK
        obtain ⟨h20, r20⟩ := hd.done_ 5 _ 20 (by kernel_rfl) rfl rfl
        have r20 : v 5 = .int .u16 (o : Int) := r20
        rw [r20] at h20
        have cw := putTwo_any o HO16.out W
        unfold Oper.wp
        go_simp
        refine cw.mono ?_
        intro e W' hp
        obtain ⟨x, rfl, hp⟩ := hp.val
        obtain ⟨h1, h2⟩ := hp.sl
        exact hK x W' h2 h1
      · intro a v W hd hb K hK
        have k1 : a.tmps.getD 1 undef = .pointer (some ⟨w.heap.size, 0, none⟩) := hd.kept 1 (by kernel_rfl)
        have hk := hK (.pointer (some ⟨w.heap.size, 3, none⟩)) W (Below.refl _ _) rfl
        clear hK
        unfold Oper.wp
        go_simp
        exact hk
      · intro a v W hd hb K hK
        obtain ⟨h22, r22⟩ := hd.done_ 7 _ 22 (by kernel_rfl) rfl rfl
        have r22 : v 7 = .pointer (some ⟨w.heap.size, 3, none⟩) := r22
        rw [r22] at h22
        have c3 := (HL2.out W hb).c3
        have hk := hK (.slice A n c) W (Below.refl _ _) rfl
        clear hK
        unfold Oper.wp
        go_simp
        exact hk
      · intro a v W hd hb K hK
        obtain ⟨h23, r23⟩ := hd.done_ 8 _ 23 (by kernel_rfl) rfl rfl
        have r23 : v 8 = .slice A n c := r23
        rw [r23] at h23
        have cw := Text_any none A 0 0 n c [] b W (Rd.nil_ _ _) (HRB.out W hb) (by omega) (by have := HN4.out; omega)
        unfold Oper.wp
        go_simp
        refine cw.mono ?_
        intro e W' hp
        obtain ⟨x, rfl, hp⟩ := hp.val
        obtain ⟨h1, h2⟩ := hp.sl
        exact hK x W' h2 h1
      · intro a v W hd hb K hK
        have k4 : a.tmps.getD 4 undef = .slice A14 n14 c14 := hd.kept 4 (by kernel_rfl)
        have hk := hK (.slice A14 n14 c14) W (Below.refl _ _) (HQ14.out W hb)
        clear hK
        unfold Oper.wp
        go_simp
        exact hk
      · intro a v W hd hb K hK
        obtain ⟨h15, r15⟩ := hd.done_ 0 _ 15 (by kernel_rfl) rfl rfl
        obtain ⟨Ap0, np0, cp0, ep0, lp0, bp0, qp0⟩ := r15
        rw [ep0] at h15
        obtain ⟨h18, r18⟩ := hd.done_ 3 _ 18 (by kernel_rfl) rfl rfl
        obtain ⟨Ap3, np3, cp3, ep3, lp3, bp3, qp3⟩ := r18
        rw [ep3] at h18
        obtain ⟨h21, r21⟩ := hd.done_ 6 _ 21 (by kernel_rfl) rfl rfl
        obtain ⟨Ap6, np6, cp6, ep6, lp6, bp6, qp6⟩ := r21
        rw [ep6] at h21
        obtain ⟨h24, r24⟩ := hd.done_ 9 _ 24 (by kernel_rfl) rfl rfl
        obtain ⟨Ap9, np9, cp9, ep9, lp9, bp9, qp9⟩ := r24
        rw [ep9] at h24
        obtain ⟨h25, r25⟩ := hd.done_ 10 _ 25 (by kernel_rfl) rfl rfl
        obtain ⟨Ap10, np10, cp10, ep10, lp10, bp10, qp10⟩ := r25
        rw [ep10] at h25
        have hb1 : Below W.heap.size W (W.alloc (.cells #[.slice Ap0 np0 cp0, .slice Ap3 np3 cp3, .slice Ap6 np6 cp6, .slice Ap9 np9 cp9, .slice Ap10 np10 cp10] 54)) := (Below.refl _ _).alloc (Nat.le_refl _) _
        have hm : Many W [.slice Ap0 np0 cp0, .slice Ap3 np3 cp3, .slice Ap6 np6 cp6, .slice Ap9 np9 cp9, .slice Ap10 np10 cp10] [be 8 s, be 2 p, be 2 o, be 4 n ++ b, List.replicate (480 - n) 0] := .cons_ qp0 bp0 (.cons_ qp3 bp3 (.cons_ qp6 bp6 (.cons_ qp9 bp9 (.cons_ qp10 bp10 (.nil_ W)))))
        have hk := hK (.slice (some ⟨W.heap.size, 0, none⟩) 5 5) _ hb1 ⟨W.heap.size, _, rfl, rows_lit W 54 [.slice Ap0 np0 cp0, .slice Ap3 np3 cp3, .slice Ap6 np6 cp6, .slice Ap9 np9 cp9, .slice Ap10 np10 cp10], hm.below hb1⟩
        clear hK hm hb1 lp0 lp3 lp6 lp9 lp10 bp0 bp3 bp6 bp9 bp10
        rw [Array.getD_eq_getD_getElem?] at h15 h18 h21 h24 h25
        unfold Oper.wp
        go_simp
        exact hk
      · intro a v W hd hb K hK
        obtain ⟨h26, r26⟩ := hd.done_ 11 _ 26 (by kernel_rfl) rfl rfl
        obtain ⟨g5, vs5, e5, hr5, hm5⟩ := r26
        rw [e5] at h26
        have cw := together_any _ 5 5 vs5 _ W hr5 hm5 (by have := HN4.out; simp [be_length, HBL.out]; omega) (by omega)
        rw [HBODY.out] at cw
        unfold Oper.wp
        go_simp
        refine cw.mono ?_
        intro e W' hp
        obtain ⟨x, rfl, hp⟩ := hp.val
        obtain ⟨h1, h2⟩ := hp.sl
        exact hK x W' h2 h1
      · intro a v W hd hb K hK
        obtain ⟨h27, r27⟩ := hd.done_ 12 _ 27 (by kernel_rfl) rfl rfl
        have q27 := r27
        obtain ⟨A27, n27, c27, e27, -⟩ := r27
        rw [e27] at h27 q27
        have hk := hK (.slice A27 n27 c27) W (Below.refl _ _) q27
        clear hK
        unfold Oper.wp
        go_simp
        exact hk
    · intro v w2 hb2 hv
      have v13 : SlAt (bodyP s p o b) (v 13) w2 := hv 13 (by decide)
      have v12 : SlAt (bodyP s p o b) (v 12) w2 := hv 12 (by decide)
      clear hv
      obtain ⟨A27, n27, c27, e27, hl27, hc27, hr27⟩ := v13
      obtain ⟨A28, n28, c28, e28, -⟩ := v12
      rw [e27, e28]
      generalize v 0 = y0
      generalize v 1 = y1
      generalize v 2 = y2
      generalize v 3 = y3
      generalize v 4 = y4
      generalize v 5 = y5
      generalize v 6 = y6
      generalize v 7 = y7
      generalize v 8 = y8
      generalize v 9 = y9
      generalize v 10 = y10
      generalize v 11 = y11
      have HB2 := Lib.hid (HB1.out.trans (hb2.mono HB1.out.size))
      have HR2 := Lib.hid hr27
      have HR9 := Lib.hid (HQ9.out w2 hb2)
      have HL27 : Hid (n27 = 496) := by show _ = _; rw [hl27, bodyP_length (by rw [HBL.out]; exact HN4.out)]
      have HC27 := Lib.hid hc27
      clear e27 e28 hl27 hc27 hr27 hb2 HL2 HRB HQ9 HQ14 HI HZ0 HZ1 HZ2
      clear v
      go_wp2_with fail
      have cs := Crc.Sum_any A27 n27 c27 _ w2 HR2.out (by rw [HL27.out]; omega)
      refine cs.mono ?_
      clear cs
      rintro e w3 ⟨rfl, hb3⟩
      have HB3 := Lib.hid (HB2.out.trans (hb3.mono HB2.out.size))
      have HR3 := Lib.hid (HR2.out.below hb3)
      have HR93 := Lib.hid (HR9.out.below hb3)
      clear hb3
      go_wp2_with fail
      have cr := rev_any (Crc.sum (bodyP s p o b)) HSUM.out w3
      refine cr.mono ?_
      clear cr
      rintro e w4 ⟨rfl, rfl⟩
      go_wp2_with fail
      have cu := Uint_any none 0 0 (rev (Crc.sum (bodyP s p o b))) _ [] w3 (Rd.nil_ _ _) rfl (rev_lt HSUM.out) (by omega)
      refine cu.mono ?_
      clear cu
      intro e w4 hp
      obtain ⟨x, rfl, hp⟩ := hp.val
      obtain ⟨h1, h2⟩ := hp.sl
      have HB4 := Lib.hid (HB3.out.trans (h2.mono HB3.out.size))
      have HM : Hid (Many w4 [.slice A27 n27 c27, x, .slice A9 n9 c9] [bodyP s p o b, be 8 (rev (Crc.sum (bodyP s p o b))), be 8 s]) :=
        .sl ⟨_, _, _, rfl, by rw [HR3.out.len], HC27.out, HR3.out.below h2⟩ (.sl h1 (.sl (HR93.out.below h2) (.nil_ w4)))
      obtain ⟨A4, n4, c4, rfl, -⟩ := h1
      clear h2 hp
      go_wp2_with fail
      have hb5 : Below w4.heap.size w4 (w4.alloc (.cells #[.slice A27 n27 c27, .slice A4 n4 c4, .slice A9 n9 c9] 54)) := (Below.refl _ _).alloc (Nat.le_refl _) _
      have ct := together_any _ 3 3 _ _ _ (rows_lit w4 54 [.slice A27 n27 c27, .slice A4 n4 c4, .slice A9 n9 c9]) (HM.out.below hb5) (by simp [be_length, bodyP_length (s := s) (a := p) (o := o) (b := b) (by rw [HBL.out]; exact HN4.out)]) (by omega)
      refine ct.mono ?_
      clear ct
      intro e w5 hp
      have hf := (hp.from (HB4.out.trans (hb5.mono HB4.out.size))).from HB0.out
      have hl : [bodyP s p o b, be 8 (rev (Crc.sum (bodyP s p o b))), be 8 s].flatten = leafP s p o b := by
        unfold leafP
        rw [be_rev HSUM.out]
        simp
      rw [hl] at hf
      obtain ⟨x, rfl, hf⟩ := hf.val
      have HF := Lib.hid hf
      obtain ⟨A5, n5, c5, e5, -⟩ := hf
      injection e5 with e5
      subst e5
      clear hp hl hb5
      go_wp2_with fail
      go_ret
      exact HF.out
end Go.Proofs.YtiijclibcfgnpaaGreat.Log

namespace Go.Proofs.YtiijclibcfgnpaaGreat.PhaseG
open Phase (any_in StepsL)
open Go.RowKit
open Disk (Out)

def Took (con : Nat → Option Nat) (O : Nat → Value → Nat → Prop) (v : Nat → Value) (i : Nat) (b : Nat) : Prop := ∃ k, con i = some k ∧ O k (v k) b
structure DepO (l : List Oper) (v : Nat → Value) (a0 : Act) (con : Nat → Option Nat) (R : Nat → Value → World → Prop) (i : Nat) (o : Oper) (a : Act) (W : World) : Prop where
  done_ : ∀ (k : Nat) (p : Oper) (d : Nat), (o.after.any fun e => e.on == k && Region.binds .any e) = true → l[k]? = some p → p.dst = some d → ((List.range l.length).all fun j => con j != some k || j == i) = true → a.tmps.getD d undef = v k ∧ R k (v k) W
  kept : ∀ d, (l.all fun p => p.dst != some d) = true → a.tmps.getD d undef = a0.tmps.getD d undef
def StepO (P : Program) (Q : Exit → Act → World → Prop) (l : List Oper) (a0 : Act) (w : World) (con : Nat → Option Nat) (R : Nat → Value → World → Prop) (O : Nat → Value → Nat → Prop) (i : Nat) (o : Oper) : Prop :=
  ∀ (a : Act) (v : Nat → Value) (W : World), DepO l v a0 con R i o a W → Below w.heap.size w W → ∀ K : Act → World → Prop, (∀ x W', Out (Took con O v i) W W' → R i x W' → (∀ b, O i x b → b < W'.heap.size ∧ (W.heap.size ≤ b ∨ Took con O v i b)) → K (a.put o.dst x) W') → o.wp P a W K Q
section
variable {P : Program} {Q : Exit → Act → World → Prop}
def conB (l : List Oper) (con : Nat → Option Nat) : Bool := (List.range l.length).all fun j => match con j with
  | none => true
  | some k => ((List.range l.length).all fun i => con i != some k || i == j) && (match l[j]? with
    | none => true
    | some o => o.after.any fun e => e.on == k && Region.binds .any e)
theorem conB_one {l : List Oper} {con : Nat → Option Nat} (h : conB l con = true) {j k : Nat} (hj : j < l.length) (hc : con j = some k) : ((List.range l.length).all fun i => con i != some k || i == j) = true := by
  have h1 := List.all_eq_true.1 h j (List.mem_range.2 hj)
  rw [hc] at h1
  simp only [Bool.and_eq_true] at h1
  exact h1.1
theorem one_spec {n : Nat} {con : Nat → Option Nat} {j k : Nat} (h : ((List.range n).all fun i => con i != some k || i == j) = true) {i : Nat} (hi : i < n) (hc : con i = some k) : i = j := by
  have h1 := List.all_eq_true.1 h i (List.mem_range.2 hi)
  rw [hc] at h1
  simpa using h1
theorem conB_dep {l : List Oper} {con : Nat → Option Nat} (h : conB l con = true) {j k : Nat} {o : Oper} (hj : l[j]? = some o) (hc : con j = some k) : (o.after.any fun e => e.on == k && Region.binds .any e) = true := by
  have hlt := (List.getElem?_eq_some_iff.1 hj).1
  have h1 := List.all_eq_true.1 h j (List.mem_range.2 hlt)
  rw [hc] at h1
  simp only [hj, Bool.and_eq_true] at h1
  exact h1.2
def Lies (l : List Oper) (con : Nat → Option Nat) (listed : Array Bool) (k : Nat) : Prop := k < l.length ∧ listed.getD k false = true ∧ ∀ j, j < l.length → con j = some k → listed.getD j false = false
theorem wp_region_own {l : List Oper} {a0 : Act} {id : Nat} {w : World} (con : Nat → Option Nat) (R : Nat → Value → World → Prop) (O : Nat → Value → Nat → Prop) (hm : P.follows .mixedOrders = true) (hok : okB l.toArray a0.tmps.size = true) (hng : (l.all fun o => o.guard.isNone) = true) (hcon : conB l con = true)
    (hR : ∀ k x (Z : Nat → Prop) W W', R k x W → Below w.heap.size w W → Out Z W W' → (∀ b, Z b → w.heap.size ≤ b) → (∀ b, Z b → ∃ k' x', R k' x' W ∧ O k' x' b) → (∀ b, O k x b → ¬ Z b) → R k x W') (hsteps : StepsL (StepO P Q l a0 w con R O) 0 l) (F : (Nat → Value) → Act) (hF : ∀ v, final l.toArray v l.length a0 = F v)
    (hend : ∀ v W, Below w.heap.size w W → (∀ k, k < l.length → (∀ j, j < l.length → con j ≠ some k) → R k (v k) W) → Q .normal (F v) W) :
    (Code.region id l.toArray true).wp P Q a0 w := by
  refine wp_region_phased (v0 := fun _ => undef) (C := fun v listed W => Below w.heap.size w W ∧ listed.size = l.length ∧ (∀ k, Lies l con listed k → R k (v k) W ∧ ∀ b, O k (v k) b → w.heap.size ≤ b ∧ b < W.heap.size) ∧ ∀ j k b, Lies l con listed j → Lies l con listed k → j ≠ k → O j (v j) b → ¬ O k (v k) b) hm hok (fun v _ _ _ => guardsB_none (by simpa using hng) v) ⟨(Below.refl _ _).drew, by simp, (fun k h => by have := h.2.1; rw [getD_rep] at this; cases this), (fun j k b h => by have := h.2.1; rw [getD_rep] at this; cases this)⟩ ?_ ?_
  · intro i o hi v listed a W hun hdeps hf hC K hK
    obtain ⟨hb, hsz, hr, hdis⟩ := hC
    have hil : l[i]? = some o := by simpa using hi
    have hlt : i < l.length := (List.getElem?_eq_some_iff.1 hil).1
    have hltl : i < listed.size := by omega
    have hunf : listed.getD i false = false := by
      have : listed[i] = false := by simpa [hltl] using hun
      simp [hltl, this]
    have hlies : ∀ k, k < l.length → (o.after.any fun e => e.on == k && Region.binds .any e) = true → ((List.range l.length).all fun j => con j != some k || j == i) = true → Lies l con listed k := fun k hkl hk hone => by
      obtain ⟨e, he, hek⟩ := any_in hk
      simp only [Bool.and_eq_true, beq_iff_eq] at hek
      have := hdeps e he hek.2
      rw [hek.1] at this
      refine ⟨hkl, this, fun j hj hc => ?_⟩
      rw [one_spec hone hj hc]
      exact hunf
    have hD : DepO l v a0 con R i o a W := ⟨fun k p d hk hp hd hone => by
        have hL := hlies k (List.getElem?_eq_some_iff.1 hp).1 hk hone
        exact ⟨hf.yes k p d (by simpa using hp) hd hL.2.1, (hr k hL).1⟩,
      fun d hd => hf.no d fun k p hk hp => by
        have hk' : l[k]? = some p := by simpa using hk
        have := List.all_eq_true.1 hd p (List.mem_of_getElem? hk')
        rw [hp] at this
        simp at this⟩
    have hS := StepsL.get hsteps hil
    rw [Nat.zero_add] at hS
    refine hS a v W hD hb K fun x W' hb' hx hox => ?_
    have htook : ∀ b, Took con O v i b → w.heap.size ≤ b ∧ b < W.heap.size := fun b ⟨k, hc, hob⟩ => by
      have hdep := conB_dep hcon hil hc
      obtain ⟨e, he, hek⟩ := any_in hdep
      simp only [Bool.and_eq_true, beq_iff_eq] at hek
      have hon := (okB_spec hok hi).2.1 e he hek.2
      exact (hr k (hlies k (by omega) hdep (conB_one hcon hlt hc))).2 b hob
    have htook2 : ∀ b, Took con O v i b → ∃ k' x', R k' x' W ∧ O k' x' b := fun b ⟨k, hc, hob⟩ => by
      have hdep := conB_dep hcon hil hc
      obtain ⟨e, he, hek⟩ := any_in hdep
      simp only [Bool.and_eq_true, beq_iff_eq] at hek
      have hon := (okB_spec hok hi).2.1 e he hek.2
      exact ⟨k, v k, (hr k (hlies k (by omega) hdep (conB_one hcon hlt hc))).1, hob⟩
    have hg : ∀ k, (listed.setIfInBounds i true).getD k false = if k = i then true else listed.getD k false := fun k => set_getD _ _ _ hltl
    have hold : ∀ k, Lies l con (listed.setIfInBounds i true) k → k ≠ i → Lies l con listed k ∧ con i ≠ some k := fun k hL e => by
      have h2 := hL.2.1
      rw [hg, if_neg e] at h2
      refine ⟨⟨hL.1, h2, fun j hj hc => ?_⟩, fun hc => ?_⟩
      · have h3 := hL.2.2 j hj hc
        rw [hg] at h3
        split at h3
        · cases h3
        · exact h3
      · have h3 := hL.2.2 i hlt hc
        rw [hg, if_pos rfl] at h3
        cases h3
    have hnt : ∀ k, Lies l con listed k → con i ≠ some k → ∀ b, O k (v k) b → ¬ Took con O v i b := fun k hL hne b hob ⟨k', hc, hob'⟩ => by
      have hdep := conB_dep hcon hil hc
      obtain ⟨e, he, hek⟩ := any_in hdep
      simp only [Bool.and_eq_true, beq_iff_eq] at hek
      have hon := (okB_spec hok hi).2.1 e he hek.2
      exact hdis k k' b hL (hlies k' (by omega) hdep (conB_one hcon hlt hc)) (fun e => hne (e ▸ hc)) hob hob'
    have := hK (fun k => if k = i then x else v k) W' (fun k hk => by
      by_cases e : k = i
      · rw [e, hunf] at hk; cases hk
      · rw [if_neg e]) ⟨hb'.below hb (fun b h => (htook b h).1) hb.size, by simpa using hsz, fun k hL => by
        by_cases e : k = i
        · rw [if_pos e, e]
          refine ⟨hx, fun b hob => ⟨?_, (hox b hob).1⟩⟩
          rcases (hox b hob).2 with h | h
          · exact Nat.le_trans hb.size h
          · exact (htook b h).1
        · rw [if_neg e]
          obtain ⟨hL', hne⟩ := hold k hL e
          obtain ⟨r1, r2⟩ := hr k hL'
          exact ⟨hR k _ _ W W' r1 hb hb' (fun b h => (htook b h).1) htook2 (hnt k hL' hne), fun b hob => ⟨(r2 b hob).1, Nat.lt_of_lt_of_le (r2 b hob).2 hb'.size⟩⟩, fun j k b hj hk hjk h1 h2 => by
        by_cases ej : j = i
        · by_cases ek : k = i
          · exact hjk (ej.trans ek.symm)
          · rw [if_pos ej] at h1
            rw [if_neg ek] at h2
            rw [ej] at h1
            obtain ⟨hL', hne⟩ := hold k hk ek
            rcases (hox b h1).2 with h | h
            · have := ((hr k hL').2 b h2).2
              omega
            · exact hnt k hL' hne b h2 h
        · rw [if_neg ej] at h1
          obtain ⟨hL', hne⟩ := hold j hj ej
          by_cases ek : k = i
          · rw [if_pos ek, ek] at h2
            rcases (hox b h2).2 with h | h
            · have := ((hr j hL').2 b h1).2
              omega
            · exact hnt j hL' hne b h1 h
          · rw [if_neg ek] at h2
            exact hdis j k b hL' (hold k hk ek).1 hjk h1 h2⟩
    rwa [if_pos rfl] at this
  · intro v listed W hall hC
    obtain ⟨hb, _, hr, _⟩ := hC
    have := hend v W hb fun k hk hc => (hr k ⟨hk, hall k (by simpa using hk), fun j hj h => absurd h (hc j hj)⟩).1
    rw [← hF v] at this
    simpa using this
end
end Go.Proofs.YtiijclibcfgnpaaGreat.PhaseG
