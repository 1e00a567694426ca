/- Lemmas, part 29: PhaseLink, BkStore, PhasePool, PoolWords -/
import Derived.Test.YtiijclibcfgnpaaGreatBase8
import Derived.Test.YtiijclibcfgnpaaGreatBase4
import Derived.Lib.Hide
import Derived.Test.YtiijclibcfgnpaaGreatBase25
import Derived.Test.YtiijclibcfgnpaaGreatBase1
import Derived.Maps.AppendAt
import Derived.Deep.AppendLies
namespace Go.Proofs.YtiijclibcfgnpaaGreat.PhaseG
open Phase (any_in StepsL)
open Go.RowKit
open Disk (Out)

section
variable {P : Program} {Q : Exit → Act → World → Prop}
theorem wp_store_blk {w : World} {o : Oper} {a : Act} {K : Act → World → Prop} (ty : TypeId) (x y : Operand) (ho : o.op = .store ty x y) {g : Nat} {t : TypeId} {old cells : Array Value} (hx : a.eval x = .pointer (some ⟨g, 0, none⟩)) (hy : a.eval y = .agg cells) (hb : Bk w g t old)
    (hi : (P.info? ty).map (·.size) = some cells.size) (hold : old.size = cells.size) (h1 : cells.all (·.oneCell') = true) (h : ∀ W', Bk W' g t cells → Out (fun k => k = g) w W' → K (a.put o.dst undef) W') : o.wp P a w K Q := by
  have hk := h (w.setRow g cells) (setRow_heap w g old cells t (0, 0) hb) ⟨rfl, rfl, rfl, by simp [World.setRow], fun k _ hk => setRow_other w g k cells hk⟩
  exact wp_store_row ty x y ho g cells hx hy t old hb hi hold h1 hk
end
end Go.Proofs.YtiijclibcfgnpaaGreat.PhaseG

namespace Go.Proofs.YtiijclibcfgnpaaGreat.Disk
open Go.RowKit

section
variable {P : Program} {ops : Array Oper} {rest : List Oper} {op : Oper} {a : Act} {w : World} {Q : Exit → Act → World → Prop}
theorem wpList_store_bk (hgd : op.guard = none) (ty : TypeId) (x y : Operand) (ho : op.op = .store ty x y)
    (g : Nat) (t : TypeId) (old cells : Array Value) (hx : a.eval x = .pointer (some ⟨g, 0, none⟩)) (hy : a.eval y = .agg cells)
    (hb : Bk w g t old) (hi : (P.info? ty).map (·.size) = some cells.size) (hold : old.size = cells.size) (h1 : cells.all (·.oneCell') = true)
    (h : Hid (∀ V, Bk V g t cells → Out (fun k => k = g) w V → wpList P ops Q rest (a.put op.dst undef) V)) : wpList P ops Q (op :: rest) a w :=
  wpList_store_row hgd ty x y ho g cells hx hy t old hb hi hold h1 (h.out _ (setRow_heap w g old cells t (0, 0) hb) ⟨rfl, rfl, rfl, by simp [World.setRow], fun k _ hk => setRow_other w g k cells hk⟩)
end
end Go.Proofs.YtiijclibcfgnpaaGreat.Disk
namespace Go.Proofs.YtiijclibcfgnpaaGreat
open Disk
theorem Bk.out {w w' : World} {g : Nat} {t : TypeId} {cs : Array Value} {X : Nat → Prop} (h : Bk w g t cs) (ho : Out X w w') (hx : ¬ X g) : Bk w' g t cs := h.kept (ho.block g h.lt hx)
end Go.Proofs.YtiijclibcfgnpaaGreat

namespace Go.Proofs.YtiijclibcfgnpaaGreat.PhaseP
open PhaseG (okB okB_spec guardsB guardsB_none laterB Fits getD_rep set_getD final wp_region_phased)
open Phase (any_in StepsL reachB reach_listed Closed)
open Go.RowKit
open Disk (Out)

def Took (con : Nat → List Nat) (O : Nat → Value → World → Nat → Prop) (v : Nat → Value) (W : World) (i : Nat) (b : Nat) : Prop := ∃ k, k ∈ con i ∧ O k (v k) W b
def GG (G : Nat → Nat → Prop) (b : Nat) : Prop := ∃ j, G j b
def soleB (n : Nat) (con : Nat → List Nat) (k i : Nat) : Bool := (List.range n).all fun j => !(con j).contains k || j == i
structure DepP (l : List Oper) (v : Nat → Value) (a0 : Act) (con : Nat → List Nat) (R : Nat → Value → World → Prop) (L : Nat → (Nat → Value) → Value → Prop) (i : Nat) (o : Oper) (a : Act) (W : World) : Prop where
  done_ : ∀ (k : Nat) (p : Oper) (d : Nat), (o.after.any fun e => e.on == k && Region.binds .any e) = true → l[k]? = some p → p.dst = some d → soleB l.length con k i = true → a.tmps.getD d undef = v k ∧ R k (v k) W
  told : ∀ (k : Nat) (p : Oper) (d : Nat), (o.after.any fun e => e.on == k && Region.binds .any e) = true → l[k]? = some p → p.dst = some d → a.tmps.getD d undef = v k ∧ L k v (v k)
  kept : ∀ f d, laterB l f i d = true → a.tmps.getD d undef = a0.tmps.getD d undef
def StepP (P : Program) (Q : Exit → Act → World → Prop) (l : List Oper) (a0 : Act) (w : World) (con : Nat → List Nat) (R : Nat → Value → World → Prop) (O : Nat → Value → World → Nat → Prop) (L : Nat → (Nat → Value) → Value → Prop) (G : Nat → Nat → Prop) (f : Nat) (i : Nat) (o : Oper) : Prop :=
  ∀ (a : Act) (v : Nat → Value) (W : World), DepP l v a0 con R L i o a W → Out (GG G) w W → (∀ j b, (j = i ∨ reachB l f j i = true) → G j b → W.heap[b]? = w.heap[b]?) → ∀ K : Act → World → Prop, (∀ x W', Out (fun b => Took con O v W i b ∨ G i b) W W' → R i x W' → L i v x → (∀ b, O i x W' b → b < W'.heap.size ∧ (W.heap.size ≤ b ∨ Took con O v W i b ∨ G i b)) → K (a.put o.dst x) W') → o.wp P a W K Q
section
variable {P : Program} {Q : Exit → Act → World → Prop}
def conB (l : List Oper) (con : Nat → List Nat) : Bool := (List.range l.length).all fun j => (con j).all fun k => soleB l.length con k j && (match l[j]? with
    | none => true
    | some o => o.after.any fun e => e.on == k && Region.binds .any e)
theorem conB_one {l : List Oper} {con : Nat → List Nat} (h : conB l con = true) {j k : Nat} (hj : j < l.length) (hc : k ∈ con j) : soleB l.length con k j = true := by
  have h1 := List.all_eq_true.1 (List.all_eq_true.1 h j (List.mem_range.2 hj)) k hc
  simp only [Bool.and_eq_true] at h1
  exact h1.1
theorem one_spec {n : Nat} {con : Nat → List Nat} {j k : Nat} (h : soleB n con k j = true) {i : Nat} (hi : i < n) (hc : k ∈ con i) : i = j := by
  have h1 := List.all_eq_true.1 h i (List.mem_range.2 hi)
  have h2 : (con i).contains k = true := by simpa using hc
  rw [h2] at h1
  simpa using h1
theorem conB_dep {l : List Oper} {con : Nat → List Nat} (h : conB l con = true) {j k : Nat} {o : Oper} (hj : l[j]? = some o) (hc : k ∈ con j) : (o.after.any fun e => e.on == k && Region.binds .any e) = true := by
  have hlt := (List.getElem?_eq_some_iff.1 hj).1
  have h1 := List.all_eq_true.1 (List.all_eq_true.1 h j (List.mem_range.2 hlt)) k hc
  simp only [hj, Bool.and_eq_true] at h1
  exact h1.2
def Lies (l : List Oper) (con : Nat → List Nat) (listed : Array Bool) (k : Nat) : Prop := k < l.length ∧ listed.getD k false = true ∧ ∀ j, j < l.length → k ∈ con j → listed.getD j false = false
theorem wp_region_pool {l : List Oper} {a0 : Act} {id : Nat} {w : World} (con : Nat → List Nat) (R : Nat → Value → World → Prop) (O : Nat → Value → World → Nat → Prop) (L : Nat → (Nat → Value) → Value → Prop) (G : Nat → Nat → Prop) (f : Nat) (hm : P.follows .mixedOrders = true) (hok : okB l.toArray a0.tmps.size = true) (hng : (l.all fun o => o.guard.isNone) = true) (hcon : conB l con = true)
    (hG1 : ∀ j b, G j b → b < w.heap.size) (hG2 : ∀ i j b, G i b → G j b → i = j)
    (hR : ∀ k x (Z : Nat → Prop) W W', R k x W → Out (GG G) w W → Out Z W W' → (∀ b, Z b → w.heap.size ≤ b ∨ GG G b) → (∀ b, O k x W b → ¬ Z b) → R k x W' ∧ ∀ b, O k x W' b → O k x W b)
    (hL : ∀ i v v' x, (∀ k, k ∈ con i → v' k = v k) → L i v x → L i v' x)
    (hsteps : StepsL (StepP P Q l a0 w con R O L G f) 0 l) (F : (Nat → Value) → Act) (hF : ∀ v, final l.toArray v l.length a0 = F v)
    (hend : ∀ v W, Out (GG G) w W → (∀ k, k < l.length → (∀ j, j < l.length → k ∉ con j) → R k (v k) W) → (∀ i, i < l.length → L i v (v i)) → Q .normal (F v) W) :
    (Code.region id l.toArray true).wp P Q a0 w := by
  refine wp_region_phased (v0 := fun _ => undef) (C := fun v listed W => Out (GG G) w W ∧ listed.size = l.length ∧ (∀ k, Lies l con listed k → R k (v k) W ∧ ∀ b, O k (v k) W b → b < W.heap.size ∧ (w.heap.size ≤ b ∨ ∃ j, listed.getD j false = true ∧ G j b)) ∧ (∀ j k b, Lies l con listed j → Lies l con listed k → j ≠ k → O j (v j) W b → ¬ O k (v k) W b) ∧ (∀ i, listed.getD i false = true → i < l.length → L i v (v i)) ∧ Closed l listed ∧ ∀ j b, listed.getD j false = false → G j b → W.heap[b]? = w.heap[b]?) hm hok (fun v _ _ _ => guardsB_none (by simpa using hng) v) ⟨(Out.refl _ w).drew, by simp, (fun k h => by have := h.2.1; rw [getD_rep] at this; cases this), (fun j k b h => by have := h.2.1; rw [getD_rep] at this; cases this), (fun i h => by rw [getD_rep] at h; cases h), (fun x o _ h => by rw [getD_rep] at h; cases h), (fun j b _ _ => rfl)⟩ ?_ ?_
  · intro i o hi v listed a W hun hdeps hf hC K hK
    obtain ⟨hb, hsz, hr, hdis, hlk, hcl, hgk⟩ := hC
    have hil : l[i]? = some o := by simpa using hi
    have hlt : i < l.length := (List.getElem?_eq_some_iff.1 hil).1
    have hltl : i < listed.size := by omega
    have hunf : listed.getD i false = false := by
      have : listed[i] = false := by simpa [hltl] using hun
      simp [hltl, this]
    have hlies : ∀ k, k < l.length → (o.after.any fun e => e.on == k && Region.binds .any e) = true → soleB l.length con k i = true → Lies l con listed k := fun k hkl hk hone => by
      obtain ⟨e, he, hek⟩ := any_in hk
      simp only [Bool.and_eq_true, beq_iff_eq] at hek
      have := hdeps e he hek.2
      rw [hek.1] at this
      refine ⟨hkl, this, fun j hj hc => ?_⟩
      rw [one_spec hone hj hc]
      exact hunf
    have hD : DepP l v a0 con R L i o a W := ⟨fun k p d hk hp hd hone => by
        have hL := hlies k (List.getElem?_eq_some_iff.1 hp).1 hk hone
        exact ⟨hf.yes k p d (by simpa using hp) hd hL.2.1, (hr k hL).1⟩,
      fun k p d hk hp hd => by
        obtain ⟨e, he, hek⟩ := any_in hk
        simp only [Bool.and_eq_true, beq_iff_eq] at hek
        have := hdeps e he hek.2
        rw [hek.1] at this
        exact ⟨hf.yes k p d (by simpa using hp) hd this, hlk k this (List.getElem?_eq_some_iff.1 hp).1⟩,
      fun f' d hlt' => hf.no d fun k p hk hp => by
        have hk' : l[k]? = some p := by simpa using hk
        have h5 := List.all_eq_true.1 hlt' k (List.mem_range.2 (List.getElem?_eq_some_iff.1 hk').1)
        rw [hk'] at h5
        simp only [hp, bne_self_eq_false, Bool.false_or, Bool.or_eq_true, beq_iff_eq] at h5
        rcases h5 with h5 | h5
        · rw [h5]; exact hunf
        · cases hlk : listed.getD k false with
          | false => rfl
          | true =>
            have := reach_listed hcl f' k i h5 (fun o' ho' e he hb' => hcl k o' ho' hlk e he hb')
            rw [hunf] at this
            cases this⟩
    have hS := StepsL.get hsteps hil
    rw [Nat.zero_add] at hS
    have hwait : ∀ j b, (j = i ∨ reachB l f j i = true) → G j b → W.heap[b]? = w.heap[b]? := fun j b hj hg => by
      refine hgk j b ?_ hg
      rcases hj with rfl | hj
      · exact hunf
      · cases hlj : listed.getD j false with
        | false => rfl
        | true =>
          have := reach_listed hcl f j i hj (fun o' ho' e he hbd => hcl j o' ho' hlj e he hbd)
          rw [hunf] at this
          cases this
    have hown : ∀ k, Lies l con listed k → ∀ b, O k (v k) W b → ¬ G i b := fun k hL b hob hg => by
      rcases ((hr k hL).2 b hob).2 with h | ⟨j, hj, hgj⟩
      · have := hG1 i b hg
        omega
      · rw [hG2 j i b hgj hg, hunf] at hj
        cases hj
    have hckl : ∀ k, k ∈ con i → k < l.length ∧ Lies l con listed k := fun k hc => by
      have hdep := conB_dep hcon hil hc
      obtain ⟨e, he, hek⟩ := any_in hdep
      simp only [Bool.and_eq_true, beq_iff_eq] at hek
      have hon := (okB_spec hok hi).2.1 e he hek.2
      exact ⟨by omega, hlies k (by omega) hdep (conB_one hcon hlt hc)⟩
    have htook : ∀ b, Took con O v W i b → ∃ k, Lies l con listed k ∧ k ∈ con i ∧ O k (v k) W b := fun b ⟨k, hc, hob⟩ => ⟨k, (hckl k hc).2, hc, hob⟩
    have hZ : ∀ b, (Took con O v W i b ∨ G i b) → w.heap.size ≤ b ∨ GG G b := fun b hz => by
      rcases hz with ht | hg
      · obtain ⟨k, hL, _, hob⟩ := htook b ht
        rcases ((hr k hL).2 b hob).2 with h | ⟨j, _, hgj⟩
        · exact .inl h
        · exact .inr ⟨j, hgj⟩
      · exact .inr ⟨i, hg⟩
    refine hS a v W hD hb hwait K fun x W' hb' hx hlx hox => ?_
    have hg : ∀ k, (listed.setIfInBounds i true).getD k false = if k = i then true else listed.getD k false := fun k => set_getD _ _ _ hltl
    have hmono : ∀ k, listed.getD k false = true → (listed.setIfInBounds i true).getD k false = true := fun k hk => by
      rw [hg]
      split
      · rfl
      · exact hk
    have hold : ∀ k, Lies l con (listed.setIfInBounds i true) k → k ≠ i → Lies l con listed k ∧ k ∉ con i := fun k hL e => by
      have h2 := hL.2.1
      rw [hg, if_neg e] at h2
      refine ⟨⟨hL.1, h2, fun j hj hc => ?_⟩, fun hc => ?_⟩
      · have h3 := hL.2.2 j hj hc
        rw [hg] at h3
        split at h3
        · cases h3
        · exact h3
      · have h3 := hL.2.2 i hlt hc
        rw [hg, if_pos rfl] at h3
        cases h3
    have hnt : ∀ k, Lies l con listed k → k ∉ con i → ∀ b, O k (v k) W b → ¬ (Took con O v W i b ∨ G i b) := fun k hL hne b hob hz => by
      rcases hz with ht | hgi
      · obtain ⟨k', hL', hc, hob'⟩ := htook b ht
        exact hdis k k' b hL hL' (fun e => hne (e ▸ hc)) hob hob'
      · exact hown k hL b hob hgi
    have hnew : ∀ k, Lies l con (listed.setIfInBounds i true) k → k ≠ i → R k (v k) W' ∧ ∀ b, O k (v k) W' b → O k (v k) W b := fun k hL e => by
      obtain ⟨hL', hne⟩ := hold k hL e
      exact hR k _ _ W W' (hr k hL').1 hb hb' hZ (hnt k hL' hne)
    have := hK (fun k => if k = i then x else v k) W' (fun k hk => by
      by_cases e : k = i
      · rw [e, hunf] at hk; cases hk
      · rw [if_neg e]) ⟨hb.trans hb' fun b hz => (hZ b hz).symm, by simpa using hsz, fun k hL => by
        by_cases e : k = i
        · rw [if_pos e, e]
          refine ⟨hx, fun b hob => ⟨(hox b hob).1, ?_⟩⟩
          rcases (hox b hob).2 with h | h | h
          · exact .inl (Nat.le_trans hb.size h)
          · obtain ⟨k', hL', _, hob'⟩ := htook b h
            rcases ((hr k' hL').2 b hob').2 with q | ⟨j, hj, hgj⟩
            · exact .inl q
            · exact .inr ⟨j, hmono j hj, hgj⟩
          · exact .inr ⟨i, by rw [hg, if_pos rfl], h⟩
        · rw [if_neg e]
          obtain ⟨hL', hne⟩ := hold k hL e
          obtain ⟨r1, r2⟩ := hr k hL'
          obtain ⟨n1, n2⟩ := hnew k hL e
          refine ⟨n1, fun b hob => ⟨Nat.lt_of_lt_of_le (r2 b (n2 b hob)).1 hb'.size, ?_⟩⟩
          rcases (r2 b (n2 b hob)).2 with q | ⟨j, hj, hgj⟩
          · exact .inl q
          · exact .inr ⟨j, hmono j hj, hgj⟩, fun j k b hj hk hjk h1 h2 => by
        by_cases ej : j = i
        · by_cases ek : k = i
          · exact hjk (ej.trans ek.symm)
          · rw [if_pos ej] at h1
            rw [if_neg ek] at h2
            rw [ej] at h1
            obtain ⟨hL', hne⟩ := hold k hk ek
            have h2 := (hnew k hk ek).2 b h2
            rcases (hox b h1).2 with h | h
            · have := ((hr k hL').2 b h2).1
              omega
            · exact hnt k hL' hne b h2 h
        · rw [if_neg ej] at h1
          obtain ⟨hL', hne⟩ := hold j hj ej
          have h1 := (hnew j hj ej).2 b h1
          by_cases ek : k = i
          · rw [if_pos ek, ek] at h2
            rcases (hox b h2).2 with h | h
            · have := ((hr j hL').2 b h1).1
              omega
            · exact hnt j hL' hne b h1 h
          · rw [if_neg ek] at h2
            have h2 := (hnew k hk ek).2 b h2
            exact hdis j k b hL' (hold k hk ek).1 hjk h1 h2, fun j hj hjl => by
        have hki : ∀ k, k ∈ con j → k ≠ i := fun k hc e => by
          have hdep := conB_dep hcon (List.getElem?_eq_getElem hjl) hc
          obtain ⟨e1, he, hek⟩ := any_in hdep
          simp only [Bool.and_eq_true, beq_iff_eq] at hek
          by_cases ej : j = i
          · subst ej
            have hjo : l[j]? = some l[j] := List.getElem?_eq_getElem hjl
            rw [hil] at hjo
            injection hjo with hjo
            have := hdeps e1 (hjo ▸ he) hek.2
            rw [hek.1, e, hunf] at this
            cases this
          · rw [hg, if_neg ej] at hj
            have := hcl j _ (List.getElem?_eq_getElem hjl) hj e1 he hek.2
            rw [hek.1, e, hunf] at this
            cases this
        by_cases ej : j = i
        · subst ej
          rw [if_pos rfl]
          exact hL j v _ x (fun k hk => if_neg (hki k hk)) hlx
        · rw [hg, if_neg ej] at hj
          rw [if_neg ej]
          exact hL j v _ (v j) (fun k hk => if_neg (hki k hk)) (hlk j hj hjl), fun j o' hj' hj e1 he hbd => by
        rw [hg]
        by_cases eon : e1.on = i
        · rw [if_pos eon]
        · rw [if_neg eon]
          by_cases ej : j = i
          · subst ej
            rw [hil] at hj'
            injection hj' with hj'
            subst hj'
            exact hdeps e1 he hbd
          · rw [hg, if_neg ej] at hj
            exact hcl j o' hj' hj e1 he hbd, fun j b hj hgj => by
        rw [hg] at hj
        split at hj
        · cases hj
        · next ej =>
          rw [← hgk j b hj hgj]
          refine hb'.block b (Nat.lt_of_lt_of_le (hG1 j b hgj) hb.size) fun hz => ?_
          rcases hz with ht | hgi
          · obtain ⟨k', hL', _, hob'⟩ := htook b ht
            rcases ((hr k' hL').2 b hob').2 with q | ⟨j', hj', hgj'⟩
            · have := hG1 j b hgj
              omega
            · rw [hG2 j' j b hgj' hgj, hj] at hj'
              cases hj'
          · exact ej (hG2 i j b hgi hgj).symm⟩
    rwa [if_pos rfl] at this
  · intro v listed W hall hC
    obtain ⟨hb, _, hr, _, hlk, _, _⟩ := hC
    have := hend v W hb (fun k hk hc => (hr k ⟨hk, hall k (by simpa using hk), fun j hj h => absurd h (hc j hj)⟩).1) fun i hi => hlk i (hall i (by simpa using hi)) hi
    rw [← hF v] at this
    simpa using this
end
end Go.Proofs.YtiijclibcfgnpaaGreat.PhaseP

namespace Go.Proofs.YtiijclibcfgnpaaGreat.PhaseG
open Go.RowKit
open Disk (Out)

theorem own_slice {w : World} {base size : Nat} {e : TypeId} {x : Value} {n : Nat} {xs : List Value} (h : w.ownsRow base e size x n xs) : ∃ A c, x = .slice A n c ∧ n ≤ c := by
  rcases h.2 with ⟨rfl, h0⟩ | ⟨g, cap, cur, rfl, _, _, hnc, _⟩
  · exact ⟨none, 0, by rw [h0], by omega⟩
  · exact ⟨_, _, rfl, hnc⟩
end Go.Proofs.YtiijclibcfgnpaaGreat.PhaseG
