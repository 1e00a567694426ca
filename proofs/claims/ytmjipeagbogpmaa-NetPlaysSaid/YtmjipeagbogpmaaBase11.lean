/- Lemmas, part 11: PhaseG, PhaseFree, PhaseOwn, PhaseLink, PhaseTab, PhaseFreeG -/
import Derived.Orders
import Derived.RegionTactic
import Derived.KernelRfl
import Derived.Test.YtmjipeagbogpmaaBase4
import Derived.Below
import Derived.WalkKit
import Derived.Test.YtmjipeagbogpmaaBase1
namespace Go.Proofs.Ytmjipeagbogpmaa.PhaseG

section
variable {P : Program} {ops : Array Oper} {md : Region.Mode} {Q : Exit → Act → World → Prop}

def okB (ops : Array Oper) (n : Nat) : Bool :=
  (List.range ops.size).all fun i => match ops[i]? with
    | none => false
    | some o => (match o.guard with
      | none => true
      | some (j, _) => (o.after.any fun e => e.on == j && Region.binds .any e) && ((ops[j]?).bind (·.dst)).isSome) && ((o.after.all fun e => decide (e.on < i) || !Region.binds .any e) && (match o.dst with
      | none => true
      | some d => decide (d < n) && (List.range ops.size).all fun k => k == i || match ops[k]? with
        | none => true
        | some p => p.dst != some d))

theorem okB_spec {n : Nat} (h : okB ops n = true) {i : Nat} {o : Oper} (hi : ops[i]? = some o) :
    (∀ j b, o.guard = some (j, b) → (∃ e ∈ o.after, e.on = j ∧ Region.binds .any e = true) ∧ ∃ p d, ops[j]? = some p ∧ p.dst = some d) ∧ (∀ e ∈ o.after, Region.binds .any e = true → e.on < i) ∧ ∀ d, o.dst = some d → d < n ∧ ∀ k p, ops[k]? = some p → p.dst = some d → k = i := by
  have hlt : i < ops.size := (Array.getElem?_eq_some_iff.1 hi).1
  have h1 := List.all_eq_true.1 h i (List.mem_range.2 hlt)
  simp only [hi, Bool.and_eq_true] at h1
  obtain ⟨h2, h3, h4⟩ := h1
  refine ⟨fun j b hg => ?_, fun e he hbd => (by have := Array.all_eq_true_iff_forall_mem.1 h3 e he; rw [hbd, Bool.not_true, Bool.or_false] at this; exact of_decide_eq_true this), fun d hd => ?_⟩
  · rw [hg] at h2
    simp only [Bool.and_eq_true] at h2
    obtain ⟨k, hk, hkk⟩ := Array.any_eq_true.1 h2.1
    simp only [Bool.and_eq_true, beq_iff_eq] at hkk
    refine ⟨⟨_, Array.getElem_mem hk, hkk.1, hkk.2⟩, ?_⟩
    cases hp : ops[j]? with
    | none => rw [hp] at h2; simp at h2
    | some p =>
      cases hd : p.dst with
      | none => rw [hp] at h2; simp [hd] at h2
      | some d => exact ⟨p, d, rfl, hd⟩
  rw [hd] at h4
  simp only [Bool.and_eq_true] at h4
  refine ⟨of_decide_eq_true h4.1, fun k p hk hp => ?_⟩
  have hkl : k < ops.size := (Array.getElem?_eq_some_iff.1 hk).1
  have h5 := List.all_eq_true.1 h4.2 k (List.mem_range.2 hkl)
  simp only [hk, hp, Bool.or_eq_true, beq_iff_eq] at h5
  rcases h5 with h5 | h5
  · exact h5
  · simp at h5

structure Fits (ops : Array Oper) (v : Nat → Value) (a0 : Act) (listed : Array Bool) (a : Act) : Prop where
  defers : a.defers = a0.defers
  size : a.tmps.size = a0.tmps.size
  yes : ∀ k o d, ops[k]? = some o → o.dst = some d → listed.getD k false = true → a.tmps.getD d undef = v k
  no : ∀ d, (∀ k o, ops[k]? = some o → o.dst = some d → listed.getD k false = false) → a.tmps.getD d undef = a0.tmps.getD d undef

theorem getD_rep (n k : Nat) : (Array.replicate n false).getD k false = false := by
  by_cases h : k < n <;> simp [h]
theorem Fits.start (v : Nat → Value) (a0 : Act) : Fits ops v a0 (Array.replicate ops.size false) a0 :=
  ⟨rfl, rfl, (fun k o d _ _ h => by rw [getD_rep] at h; cases h), fun _ _ => rfl⟩
theorem put_getD (a : Act) (d : Nat) (v : Value) (e : Nat) (h : d < a.tmps.size) : (a.put (some d) v).tmps.getD e undef = if e = d then v else a.tmps.getD e undef := by
  unfold Act.put
  by_cases he : e = d
  · subst he; simp [h]
  · rw [if_neg he]
    simp only [Array.getD_eq_getD_getElem?]
    rw [Array.getElem?_setIfInBounds_ne (fun h => he h.symm)]
theorem set_getD (l : Array Bool) (i k : Nat) (h : i < l.size) : (l.setIfInBounds i true).getD k false = if k = i then true else l.getD k false := by
  by_cases he : k = i
  · subst he; simp [h]
  · rw [if_neg he]
    simp only [Array.getD_eq_getD_getElem?]
    rw [Array.getElem?_setIfInBounds_ne (fun h => he h.symm)]
theorem Fits.put {v : Nat → Value} {a0 a : Act} {listed : Array Bool} {i : Nat} {o : Oper} (hok : okB ops a0.tmps.size = true) (hi : ops[i]? = some o) (hl : listed.size = ops.size) (h : Fits ops v a0 listed a) :
    Fits ops v a0 (listed.setIfInBounds i true) (a.put o.dst (v i)) := by
  have hlt : i < listed.size := by rw [hl]; exact (Array.getElem?_eq_some_iff.1 hi).1
  obtain ⟨_, _, hd⟩ := okB_spec hok hi
  cases hdst : o.dst with
  | none =>
    refine ⟨h.defers, h.size, fun k p d hk hp hlk => ?_, fun d hn => ?_⟩
    · rw [set_getD _ _ _ hlt] at hlk
      by_cases hki : k = i
      · subst hki; rw [hi] at hk; injection hk with hk; subst hk; rw [hdst] at hp; cases hp
      · rw [if_neg hki] at hlk; exact h.yes k p d hk hp hlk
    · refine h.no d fun k p hk hp => ?_
      have := hn k p hk hp
      rw [set_getD _ _ _ hlt] at this
      by_cases hki : k = i
      · subst hki; rw [if_pos rfl] at this; cases this
      · rwa [if_neg hki] at this
  | some d0 =>
    obtain ⟨hd1, hd2⟩ := hd d0 hdst
    have hd1' : d0 < a.tmps.size := by rw [h.size]; exact hd1
    refine ⟨h.defers, by unfold Act.put; simp [h.size], fun k p d hk hp hlk => ?_, fun d hn => ?_⟩
    · rw [put_getD _ _ _ _ hd1']
      rw [set_getD _ _ _ hlt] at hlk
      by_cases hdd : d = d0
      · subst hdd
        rw [if_pos rfl, hd2 k p hk hp]
      · rw [if_neg hdd]
        by_cases hki : k = i
        · subst hki; rw [hi] at hk; injection hk with hk; subst hk; rw [hdst] at hp; injection hp with hp; exact absurd hp.symm hdd
        · rw [if_neg hki] at hlk; exact h.yes k p d hk hp hlk
    · rw [put_getD _ _ _ _ hd1']
      by_cases hdd : d = d0
      · subst hdd
        have := hn i o hi hdst
        rw [set_getD _ _ _ hlt, if_pos rfl] at this
        cases this
      · rw [if_neg hdd]
        refine h.no d fun k p hk hp => ?_
        have := hn k p hk hp
        rw [set_getD _ _ _ hlt] at this
        by_cases hki : k = i
        · subst hki; rw [if_pos rfl] at this; cases this
        · rwa [if_neg hki] at this
theorem Fits.same {v : Nat → Value} {a0 a b : Act} {la lb : Array Bool} (ha : Fits ops v a0 la a) (hb : Fits ops v a0 lb b) (h1 : ∀ k, k < ops.size → la.getD k false = true) (h2 : ∀ k, k < ops.size → lb.getD k false = true) : a = b := by
  have hs : a.tmps.size = b.tmps.size := by rw [ha.size, hb.size]
  have ht : a.tmps = b.tmps := by
    refine Array.ext hs fun d hd1 hd2 => ?_
    have key : a.tmps.getD d undef = b.tmps.getD d undef := by
      by_cases hex : ∃ (k : Nat) (o : Oper), ops[k]? = some o ∧ o.dst = some d
      · obtain ⟨k, o, hk, ho⟩ := hex
        have hkl := (Array.getElem?_eq_some_iff.1 hk).1
        rw [ha.yes k o d hk ho (h1 k hkl), hb.yes k o d hk ho (h2 k hkl)]
      · rw [ha.no d fun k o hk ho => absurd ⟨k, o, hk, ho⟩ hex, hb.no d fun k o hk ho => absurd ⟨k, o, hk, ho⟩ hex]
    simpa [hd1, hd2] using key
  have hdf : a.defers = b.defers := ha.defers.trans hb.defers.symm
  cases a
  cases b
  simp at ht hdf
  rw [ht, hdf]

def final (ops : Array Oper) (v : Nat → Value) : Nat → Act → Act
  | 0, a => a
  | n + 1, a => (final ops v n a).put ((ops[n]?).bind fun o : Oper => o.dst) (v n)
theorem final_fits (v : Nat → Value) (a0 : Act) (hok : okB ops a0.tmps.size = true) : ∀ n, n ≤ ops.size → ∃ l : Array Bool, l.size = ops.size ∧ (∀ k, k < n → l.getD k false = true) ∧ Fits ops v a0 l (final ops v n a0)
  | 0, _ => ⟨_, by simp, fun k hk => by omega, Fits.start v a0⟩
  | n + 1, hn => by
    obtain ⟨l, h1, h2, h3⟩ := final_fits v a0 hok n (by omega)
    have hi : ops[n]? = some ops[n] := Array.getElem?_eq_getElem (by omega)
    have h4 := Fits.put hok hi h1 h3
    refine ⟨l.setIfInBounds n true, by simp [h1], fun k hk => ?_, ?_⟩
    · rw [set_getD _ _ _ (by omega)]
      by_cases hkn : k = n
      · rw [if_pos hkn]
      · rw [if_neg hkn]; exact h2 k (by omega)
    · show Fits ops v a0 _ ((final ops v n a0).put ((ops[n]?).bind fun o : Oper => o.dst) (v n))
      rw [hi]
      exact h4

def left (l : Array Bool) : Nat := l.toList.countP (· == false)
theorem left_set {l : Array Bool} {i : Nat} (hi : i < l.size) (h : l.getD i true = false) : left (l.setIfInBounds i true) + 1 = left l := by
  unfold left
  have h0 : l[i] = false := by simpa [hi] using h
  have h1 : i < l.toList.length := by simpa using hi
  have h2 : l.toList[i] = false := by simpa using h0
  have h3 : 0 < l.toList.countP (· == false) := List.countP_pos_iff.2 ⟨false, by rw [← h2]; exact List.getElem_mem h1, rfl⟩
  rw [Array.toList_setIfInBounds, List.countP_set h1, h2, if_pos (show (false == false) = true from rfl), if_neg (show ¬ (true == false) = true by decide)]
  omega
theorem left_zero {l : Array Bool} (h : left l = 0) {k : Nat} (hk : k < l.size) : l.getD k false = true := by
  unfold left at h
  have h1 := List.countP_eq_zero.1 h
  have h2 := h1 l[k] (by simp)
  simpa [hk] using h2

theorem left_new (n : Nat) : left (Array.replicate n false) = n := by
  unfold left
  rw [Array.toList_replicate, List.countP_replicate]
  rfl

def guardsB (ops : Array Oper) (v : Nat → Value) : Bool := (List.range ops.size).all fun i => match (ops[i]?).bind (·.guard) with
  | none => true
  | some (j, b) => match v j with
    | .bool c => c == b
    | _ => false
theorem guardsB_spec {v : Nat → Value} (h : guardsB ops v = true) {i : Nat} {o : Oper} (hi : ops[i]? = some o) {j : Nat} {b : Bool} (hg : o.guard = some (j, b)) : v j = .bool b := by
  have hlt : i < ops.size := (Array.getElem?_eq_some_iff.1 hi).1
  have h1 := List.all_eq_true.1 h i (List.mem_range.2 hlt)
  simp only [hi, Option.bind_some, hg] at h1
  split at h1
  · next c hc =>
    rw [hc]
    have : c = b := by simpa using h1
    rw [this]
  · cases h1
theorem Fits.turn {v v' : Nat → Value} {a0 a : Act} {listed : Array Bool} (h : Fits ops v a0 listed a) (hv : ∀ k, listed.getD k false = true → v' k = v k) : Fits ops v' a0 listed a :=
  ⟨h.defers, h.size, fun k o d h1 h2 h3 => by rw [hv k h3]; exact h.yes k o d h1 h2 h3, h.no⟩
theorem wpAny_phased {a0 : Act} {C : (Nat → Value) → Array Bool → World → Prop} (hok : okB ops a0.tmps.size = true) (hgv : ∀ v listed W, C v listed W → guardsB ops v = true)
    (hstep : ∀ (i : Nat) (o : Oper), ops[i]? = some o → ∀ (v : Nat → Value) (listed : Array Bool) (a : Act) (W : World), listed.getD i true = false → (∀ e ∈ o.after, Region.binds .any e = true → listed.getD e.on false = true) → Fits ops v a0 listed a → C v listed W →
      ∀ K : Act → World → Prop, (∀ v' W', (∀ k, listed.getD k false = true → v' k = v k) → C v' (listed.setIfInBounds i true) W' → K (a.put o.dst (v' i)) W') → o.wp P a W K Q)
    (hend : ∀ (v : Nat → Value) (listed : Array Bool) (W : World), (∀ k, k < ops.size → listed.getD k false = true) → C v listed W → Q .normal (final ops v ops.size a0) W) :
    ∀ (fuel : Nat) (v : Nat → Value) (listed : Array Bool) (a : Act) (W : World), listed.size = ops.size → left listed = fuel → Fits ops v a0 listed a → C v listed W → wpAny P .any ops Q fuel listed a W := by
  have hall : ∀ (v : Nat → Value) (listed : Array Bool) (a : Act) (W : World), listed.size = ops.size → Fits ops v a0 listed a → C v listed W → (∀ k, k < ops.size → listed.getD k false = true) → Q .normal a W := by
    intro v listed a W hl hf hc hy
    obtain ⟨l, h1, h2, h3⟩ := final_fits v a0 hok ops.size (Nat.le_refl _)
    rw [Fits.same hf h3 hy h2]
    exact hend v listed W hy hc
  have hready : ∀ (listed : Array Bool), listed.size = ops.size → Region.ready .any ops listed = [] → ∀ k, k < ops.size → listed.getD k false = true := by
    intro listed hl hr k
    induction k using Nat.strongRecOn with
    | _ k ih =>
      intro hk
      have hi : ops[k]? = some ops[k] := Array.getElem?_eq_getElem hk
      obtain ⟨_, ha, _⟩ := okB_spec hok hi
      cases hb : listed.getD k false with
      | true => rfl
      | false =>
        have : k ∈ Region.ready .any ops listed := by
          unfold Region.ready
          refine List.mem_filter.2 ⟨List.mem_range.2 hk, ?_⟩
          have hkl : k < listed.size := by omega
          have h0 : listed.getD k true = false := by
            have : listed[k] = false := by simpa [hkl] using hb
            simp [hkl, this]
          rw [h0, hi]
          simp only [Bool.not_false, Bool.true_and, Option.map_some, Option.getD_some]
          refine Array.all_eq_true_iff_forall_mem.2 fun e he => ?_
          cases hbd : Region.binds .any e with
          | false => rfl
          | true => rw [ih e.on (ha e he hbd) (Nat.lt_trans (ha e he hbd) hk), Bool.or_true]
        rw [hr] at this
        cases this
  intro fuel
  induction fuel with
  | zero =>
    intro v listed a W hl hz hf hc
    have hy : ∀ k, k < ops.size → listed.getD k false = true := fun k hk => left_zero hz (by omega)
    refine ⟨?_, hall v listed a W hl hf hc hy⟩
    unfold Region.ready
    refine List.filter_eq_nil_iff.2 fun i hi => ?_
    have hil := List.mem_range.1 hi
    have hil' : i < listed.size := by omega
    have h1 : listed[i] = true := by simpa [hil'] using hy i hil
    simp [hil', h1]
  | succ fuel ih =>
    intro v listed a W hl hz hf hc
    refine ⟨fun hr => hall v listed a W hl hf hc (hready listed hl hr), fun i hi => ?_⟩
    unfold Region.ready at hi
    obtain ⟨hi1, hi2⟩ := List.mem_filter.1 hi
    have hil := List.mem_range.1 hi1
    have ho : ops[i]? = some ops[i] := Array.getElem?_eq_getElem hil
    rw [ho] at hi2
    simp only [Bool.and_eq_true, Option.map_some, Option.getD_some, Bool.not_eq_true'] at hi2
    obtain ⟨hun, haf⟩ := hi2
    have hdeps : ∀ e ∈ ops[i].after, Region.binds .any e = true → listed.getD e.on false = true := fun e he hb => by
      have := Array.all_eq_true_iff_forall_mem.1 haf e he
      rwa [hb, Bool.not_true, Bool.false_or] at this
    have hg := (okB_spec hok ho).1
    refine wpOp_step ho fun K hK => ?_
    have hw : Region.wanted ops[i] (yielded ops a.tmps) = true := by
      cases hgd : ops[i].guard with
      | none => simp [Region.wanted, hgd]
      | some jb =>
        obtain ⟨j, b⟩ := jb
        obtain ⟨⟨e, he, hej, heb⟩, p, d, hp, hd⟩ := hg j b hgd
        have h1 := hdeps e he heb
        rw [hej] at h1
        have h2 := hf.yes j p d hp hd h1
        rw [guardsB_spec (hgv v listed W hc) ho hgd] at h2
        have hdl := ((okB_spec hok hp).2.2 d hd).1
        have hdl' : d < a.tmps.size := by rw [hf.size]; exact hdl
        have h3 : a.tmps[d]? = some (.bool b) := by
          rw [Array.getElem?_eq_getElem hdl']
          simpa [hdl'] using h2
        simp [Region.wanted, hgd, yielded, hp, hd, h3]
    rw [if_pos hw]
    refine hstep i ops[i] ho v listed a W hun hdeps hf hc K fun v' W' hvv hc' => hK _ _ ?_
    exact ih v' (listed.setIfInBounds i true) (a.put ops[i].dst (v' i)) W' (by simp [hl]) (by have := left_set (l := listed) (i := i) (by omega) hun; omega) (Fits.put hok ho hl (hf.turn hvv)) hc'
theorem wp_region_phased {v0 : Nat → Value} {a0 : Act} {C : (Nat → Value) → Array Bool → World → Prop} {id : Nat} {w : World} (hm : P.follows .mixedOrders = true) (hok : okB ops a0.tmps.size = true) (hgv : ∀ v listed W, C v listed W → guardsB ops v = true)
    (hC : C v0 (Array.replicate ops.size false) { w with drawn := w.drawn + 1 })
    (hstep : ∀ (i : Nat) (o : Oper), ops[i]? = some o → ∀ (v : Nat → Value) (listed : Array Bool) (a : Act) (W : World), listed.getD i true = false → (∀ e ∈ o.after, Region.binds .any e = true → listed.getD e.on false = true) → Fits ops v a0 listed a → C v listed W →
      ∀ K : Act → World → Prop, (∀ v' W', (∀ k, listed.getD k false = true → v' k = v k) → C v' (listed.setIfInBounds i true) W' → K (a.put o.dst (v' i)) W') → o.wp P a W K Q)
    (hend : ∀ (v : Nat → Value) (listed : Array Bool) (W : World), (∀ k, k < ops.size → listed.getD k false = true) → C v listed W → Q .normal (final ops v ops.size a0) W) :
    (Code.region id ops true).wp P Q a0 w :=
  wp_region_any hm (wpAny_phased hok hgv hstep hend ops.size v0 _ a0 _ (by simp) (left_new ops.size) (Fits.start v0 a0) hC)
end
end Go.Proofs.Ytmjipeagbogpmaa.PhaseG

namespace Go.Proofs.Ytmjipeagbogpmaa.PhaseG
open Phase (any_in StepsL)
open Go.RowKit

structure DepF (l : List Oper) (v : Nat → Value) (a0 : Act) (R : Nat → Value → World → Prop) (o : Oper) (a : Act) (W : World) : Prop where
  done_ : ∀ (k : Nat) (p : Oper) (d : Nat), (o.after.any fun e => e.on == k && Region.binds .any e) = true → l[k]? = some p → p.dst = some d → a.tmps.getD d undef = v k ∧ R k (v k) W
  kept : ∀ d, (l.all fun p => p.dst != some d) = true → a.tmps.getD d undef = a0.tmps.getD d undef
def StepF (P : Program) (Q : Exit → Act → World → Prop) (l : List Oper) (a0 : Act) (w : World) (R : Nat → Value → World → Prop) (i : Nat) (o : Oper) : Prop :=
  ∀ (a : Act) (v : Nat → Value) (W : World), DepF l v a0 R o a W → Below w.heap.size w W → ∀ K : Act → World → Prop, (∀ x W', Below W.heap.size W W' → R i x W' → K (a.put o.dst x) W') → o.wp P a W K Q
section
variable {P : Program} {Q : Exit → Act → World → Prop}
end
end Go.Proofs.Ytmjipeagbogpmaa.PhaseG

namespace Go.Proofs.Ytmjipeagbogpmaa.PhaseG
open Phase (any_in StepsL)
open Go.RowKit
open Disk (Out)

section
variable {P : Program} {Q : Exit → Act → World → Prop}
end
end Go.Proofs.Ytmjipeagbogpmaa.PhaseG

namespace Go.Proofs.Ytmjipeagbogpmaa.PhaseG
open Phase (any_in StepsL)
open Go.RowKit
open Disk (Out)

section
variable {P : Program} {Q : Exit → Act → World → Prop}
end
end Go.Proofs.Ytmjipeagbogpmaa.PhaseG

namespace Go.Proofs.Ytmjipeagbogpmaa.PhaseG
open Go.RowKit
def RT (vals : List (Option Value)) (A : Nat → Value → World → Prop) (k : Nat) (x : Value) (W : World) : Prop := match vals[k]? with
  | some (some v) => x = v
  | _ => A k x W
theorem RT.out {vals : List (Option Value)} {A : Nat → Value → World → Prop} {k : Nat} {x : Value} {W W' : World} (h : RT vals A k x W) (hA : A k x W → A k x W') : RT vals A k x W' := by
  unfold RT at *
  split at h
  · exact h
  · exact hA h
end Go.Proofs.Ytmjipeagbogpmaa.PhaseG

namespace Go.Proofs.Ytmjipeagbogpmaa.PhaseG
open Phase (any_in StepsL)
open Go.RowKit

def guardsK (l : List Oper) (kn : List (Option Value)) : Bool := l.all fun o => match o.guard with
  | none => true
  | some (j, b) => match kn[j]? with
    | some (some (.bool c)) => c == b
    | _ => false
theorem guardsK_spec {l : List Oper} {kn : List (Option Value)} (h : guardsK l kn = true) {v : Nat → Value} (hv : ∀ k c, kn[k]? = some (some c) → v k = c) : guardsB l.toArray v = true := by
  unfold guardsB
  refine List.all_eq_true.2 fun i hi => ?_
  have hlt : i < l.length := by simpa using hi
  have ho : l.toArray[i]? = some l[i] := by simp [hlt]
  have hg := List.all_eq_true.1 h l[i] (List.getElem_mem hlt)
  cases hq : l[i].guard with
  | none => simp [ho, hq]
  | some jb =>
    obtain ⟨j, b⟩ := jb
    rw [hq] at hg
    dsimp only at hg
    cases hk : kn[j]? with
    | none => rw [hk] at hg; cases hg
    | some oc =>
      cases oc with
      | none => rw [hk] at hg; cases hg
      | some c =>
        rw [hk] at hg
        cases c with
        | bool c => simpa [ho, hq, hv j _ hk] using hg
        | _ => cases hg
section
variable {P : Program} {Q : Exit → Act → World → Prop}
theorem wp_region_freeg {l : List Oper} {a0 : Act} {id : Nat} {w : World} (kn : List (Option Value)) (R : Nat → Value → World → Prop) (hm : P.follows .mixedOrders = true) (hok : okB l.toArray a0.tmps.size = true) (hgk : guardsK l kn = true)
    (hRk : ∀ k x W c, R k x W → kn[k]? = some (some c) → x = c)
    (hR : ∀ k x W W', R k x W → Below w.heap.size w W → Below W.heap.size W W' → R k x W') (hsteps : StepsL (StepF P Q l a0 w R) 0 l) (F : (Nat → Value) → Act) (hF : ∀ v, final l.toArray v l.length a0 = F v)
    (hend : ∀ v W, Below w.heap.size w W → (∀ k, k < l.length → R k (v k) W) → Q .normal (F v) W) :
    (Code.region id l.toArray true).wp P Q a0 w := by
  refine wp_region_phased (v0 := fun k => match kn[k]? with | some (some c) => c | _ => undef) (C := fun v listed W => Below w.heap.size w W ∧ listed.size = l.length ∧ (∀ k, k < l.length → listed.getD k false = true → R k (v k) W) ∧ ∀ k c, kn[k]? = some (some c) → v k = c) hm hok (fun v _ _ hC => guardsK_spec hgk hC.2.2.2) ⟨(Below.refl _ _).drew, by simp, (fun k _ h => by rw [getD_rep] at h; cases h), fun k c hk => by simp only [hk]⟩ ?_ ?_
  · intro i o hi v listed a W hun hdeps hf hC K hK
    obtain ⟨hb, hsz, hr, hkn⟩ := hC
    have hil : l[i]? = some o := by simpa using hi
    have hlt : i < l.length := (List.getElem?_eq_some_iff.1 hil).1
    have hltl : i < listed.size := by omega
    have hD : DepF l v a0 R o a W := ⟨fun k p d hk hp hd => by
        obtain ⟨e, he, hek⟩ := any_in hk
        simp only [Bool.and_eq_true, beq_iff_eq] at hek
        have := hdeps e he hek.2
        rw [hek.1] at this
        exact ⟨hf.yes k p d (by simpa using hp) hd this, hr k (List.getElem?_eq_some_iff.1 hp).1 this⟩,
      fun d hd => hf.no d fun k p hk hp => by
        have hk' : l[k]? = some p := by simpa using hk
        have := List.all_eq_true.1 hd p (List.mem_of_getElem? hk')
        rw [hp] at this
        simp at this⟩
    have hS := StepsL.get hsteps hil
    rw [Nat.zero_add] at hS
    refine hS a v W hD hb K fun x W' hb' hx => ?_
    have hg : ∀ k, (listed.setIfInBounds i true).getD k false = if k = i then true else listed.getD k false := fun k => set_getD _ _ _ hltl
    have hunf : listed.getD i false = false := by
      have : listed[i] = false := by simpa [hltl] using hun
      simp [hltl, this]
    have := hK (fun k => if k = i then x else v k) W' (fun k hk => by
      by_cases e : k = i
      · rw [e, hunf] at hk; cases hk
      · rw [if_neg e]) ⟨hb.trans (hb'.mono hb.size), by simpa using hsz, (fun k hk hl => by
        rw [hg] at hl
        by_cases e : k = i
        · rw [if_pos e, e]
          exact hx
        · rw [if_neg e] at hl ⊢
          exact hR k _ W W' (hr k hk hl) hb hb'), fun k c hk => by
        by_cases e : k = i
        · rw [if_pos e]
          rw [e] at hk
          exact hRk i x W' c hx hk
        · rw [if_neg e]
          exact hkn k c hk⟩
    rwa [if_pos rfl] at this
  · intro v listed W hall hC
    obtain ⟨hb, _, hr, _⟩ := hC
    have := hend v W hb fun k hk => hr k hk (hall k (by simpa using hk))
    rw [← hF v] at this
    simpa using this
theorem RT_known {vals : List (Option Value)} {A : Nat → Value → World → Prop} (k : Nat) (x : Value) (W : World) (c : Value) (h : RT vals A k x W) (hk : vals[k]? = some (some c)) : x = c := by
  unfold RT at h
  rw [hk] at h
  exact h
end
end Go.Proofs.Ytmjipeagbogpmaa.PhaseG
