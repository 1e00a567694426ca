/- The contracts of tree's calls, for the landed code. -/
import Derived.Test.YtplbckibogmicaaGreatDoorTreeApply
namespace Go.Proofs.YtplbckibogmicaaGreatDoor.Tree
open Go.RowKit Path

/-- In w these trees are alive, at these addresses; their memory is X. -/
def Trees (w : World) (L : List (Addr × TR)) (X : Nat → Prop) : Prop :=
  ∃ D : Nat → Prop, (∀ (i : Nat) (a : Addr) (t : TR), L[i]? = some (a, t) → ∃ g b, a = ⟨g, 0, none⟩ ∧ TreeAt w D g b t ∧ X g ∧ X b) ∧
    (∀ (i j : Nat) (a b : Addr) (t u : TR), L[i]? = some (a, t) → L[j]? = some (b, u) → a.block = b.block → i = j) ∧
    (∀ k, D k → X k ∧ ∀ (i : Nat) (a : Addr) (t : TR), L[i]? = some (a, t) → k ≠ a.block) ∧ ∀ k, X k → k < w.heap.size
theorem Trees.none_ (w : World) : Trees w [] (fun _ => False) :=
  ⟨fun _ => False, fun i a t h => by simp at h, fun i j a b t u h => by simp at h, fun k h => h.elim, fun k h => h.elim⟩
theorem Trees.keep {w w' : World} {L : List (Addr × TR)} {X : Nat → Prop} (h : Trees w L X) (hk : ∀ k, X k → w'.heap[k]? = w.heap[k]?) (hz : w.heap.size ≤ w'.heap.size) : Trees w' L X := by
  obtain ⟨D, h1, h2, h3, h4⟩ := h
  refine ⟨D, fun i a t hi => ?_, h2, h3, fun k hX => Nat.lt_of_lt_of_le (h4 k hX) hz⟩
  obtain ⟨g, b, rfl, ht, hg, hb⟩ := h1 i a t hi
  exact ⟨g, b, rfl, ht.kept (hk g hg) (hk b hb) (fun k hD => hk k (h3 k hD).1) hz, hg, hb⟩
theorem Trees.lt {w : World} {L : List (Addr × TR)} {X : Nat → Prop} (h : Trees w L X) : ∀ k, X k → k < w.heap.size := by
  obtain ⟨D, _, _, _, h4⟩ := h
  exact h4
theorem Trees.at_ {w : World} {L : List (Addr × TR)} {X : Nat → Prop} (h : Trees w L X) {i : Nat} {a : Addr} {t : TR} (hi : L[i]? = some (a, t)) : ∃ D g b, a = ⟨g, 0, none⟩ ∧ TreeAt w D g b t := by
  obtain ⟨D, h1, _⟩ := h
  obtain ⟨g, b, e, ht, _⟩ := h1 i a t hi
  exact ⟨D, g, b, e, ht⟩
theorem Trees.good {w : World} {L : List (Addr × TR)} {X : Nat → Prop} (h : Trees w L X) : ∀ (i : Nat) (a : Addr) (t : TR), L[i]? = some (a, t) → Good t.root t.row ∧ t.cnt < 18446744073709551616 := fun _ _ _ hi => by
  obtain ⟨D, g, b, _, ht⟩ := h.at_ hi
  exact ⟨ht.good, ht.cnt⟩
theorem Trees.below {w w' : World} {L : List (Addr × TR)} {X : Nat → Prop} (h : Trees w L X) (hb : Below w.heap.size w w') : Trees w' L X := h.keep (fun k hk => hb.block k (h.lt k hk)) hb.size

/-- What a call that makes or changes trees leaves. -/
def Made (w : World) (X : Nat → Prop) (L' : List (Addr × TR)) (w' : World) : Prop := ∃ X', Trees w' L' X' ∧ Out X w w' ∧ ∀ k, X' k → X k ∨ w.heap.size ≤ k
theorem TreeAt.wider {w : World} {D D' : Nat → Prop} {g b : Nat} {t : TR} (h : TreeAt w D g b t) (hD : ∀ k, D k → D' k) (hlt : ∀ k, D' k → k < w.heap.size) : TreeAt w D' g b t :=
  ⟨h.bk, owns_kept h.map rfl (fun _ _ => rfl) hD, h.good, h.cnt, hlt, h.small⟩
/-- One tree more, at a new address. -/
theorem made_cons {w w' : World} {L : List (Addr × TR)} {X D : Nat → Prop} {g b : Nat} {t : TR} (hT : Trees w L X) (hb : Below w.heap.size w w') (hg : w.heap.size ≤ g) (hbb : w.heap.size ≤ b) (ht : TreeAt w' D g b t) (hDX : ∀ k, D k → ∃ D0 : Nat → Prop, (∀ k, D0 k → X k ∧ ∀ (i : Nat) (a : Addr) (t : TR), L[i]? = some (a, t) → k ≠ a.block) ∧ D0 k) : Made w X ((⟨g, 0, none⟩, t) :: L) w' := by
  obtain ⟨D0, h1, h2, h3, h4⟩ := hT
  have hD : ∀ k, D k → X k ∧ ∀ (i : Nat) (a : Addr) (t : TR), L[i]? = some (a, t) → k ≠ a.block := fun k hk => by
    obtain ⟨D1, hD1, hk1⟩ := hDX k hk
    exact hD1 k hk1
  have hsz := hb.size
  have hlt : ∀ k, D0 k ∨ D k → k < w.heap.size := fun k hk => hk.elim (fun h => h4 k (h3 k h).1) (fun h => h4 k (hD k h).1)
  have hXa : ∀ (i : Nat) (a : Addr) (u : TR), L[i]? = some (a, u) → a.block < w.heap.size := fun i a u hi => by
    obtain ⟨g', b', rfl, _, hg', _⟩ := h1 i a u hi
    exact h4 g' hg'
  refine ⟨fun k => X k ∨ k = g ∨ k = b, ⟨fun k => D0 k ∨ D k, fun i a u hi => ?_, fun i j a a' u u' hi hj e => ?_, fun k hk => ⟨.inl (hk.elim (fun h => (h3 k h).1) (fun h => (hD k h).1)), fun i a u hi => ?_⟩, fun k hk => ?_⟩, Out.of_below hb, fun k hk => or_map hk id (fun h => h.elim (fun e => by omega) (fun e => by omega))⟩
  · cases i with
    | zero =>
      simp at hi
      obtain ⟨rfl, rfl⟩ := hi
      exact ⟨g, b, rfl, ht.wider (fun k hk => .inr hk) (fun k hk => Nat.lt_of_lt_of_le (hlt k hk) hsz), .inr (.inl rfl), .inr (.inr rfl)⟩
    | succ i =>
      obtain ⟨g', b', e, ht', hg', hb'⟩ := h1 i a u (by simpa using hi)
      exact ⟨g', b', e, (ht'.below hb).wider (fun k hk => .inl hk) (fun k hk => Nat.lt_of_lt_of_le (hlt k hk) hsz), .inl hg', .inl hb'⟩
  · cases i with
    | zero =>
      cases j with
      | zero => rfl
      | succ j =>
        simp at hi
        obtain ⟨rfl, rfl⟩ := hi
        have := hXa j a' u' (by simpa using hj)
        simp at e
        omega
    | succ i =>
      cases j with
      | zero =>
        simp at hj
        obtain ⟨rfl, rfl⟩ := hj
        have := hXa i a u (by simpa using hi)
        simp at e
        omega
      | succ j => rw [h2 i j a a' u u' (by simpa using hi) (by simpa using hj) e]
  · cases i with
    | zero =>
      simp at hi
      obtain ⟨rfl, rfl⟩ := hi
      have := hlt k hk
      show k ≠ g
      omega
    | succ i => exact hk.elim (fun h => (h3 k h).2 i a u (by simpa using hi)) (fun h => (hD k h).2 i a u (by simpa using hi))
  · rcases hk with h | rfl | rfl
    · exact Nat.lt_of_lt_of_le (h4 k h) hsz
    · exact ht.bk.lt
    · exact ht.map.lt

theorem New_yes (l : List UInt8) (w : World) (L : List (Addr × TR)) (X : Nat → Prop) (hl : l.length ≤ 1000000) (h : (partsF l).isSome = true) (hT : Trees w L X) : Calls Tryz.prog 14 #[.string (S l)] w fun e w' => ∃ a, e = .returned (.tuple #[.pointer (some a), .int .i64 0]) ∧ Below w.heap.size w w' ∧ Made w X ((a, TR.new l) :: L) w' :=
  (New_at l w hl h).mono fun _ _ ⟨_, _, he, hb, hg, hbb, ht⟩ => ⟨_, he, hb, made_cons hT hb hg hbb ht (fun _ hk => hk.elim)⟩
theorem Clone_any (i : Nat) (a : Addr) (t : TR) (w : World) (L : List (Addr × TR)) (X : Nat → Prop) (hT : Trees w L X) (hi : L[i]? = some (a, t)) :
    Calls Tryz.prog 22 #[.pointer (some a)] w fun e w' => ∃ b, e = .returned (.pointer (some b)) ∧ Below w.heap.size w w' ∧ Made w X ((b, t) :: L) w' := by
  have hT' := hT
  obtain ⟨D, h1, h2, h3, h4⟩ := hT
  obtain ⟨g, b, rfl, ht, _, _⟩ := h1 i a t hi
  exact (Clone_at w ht).mono fun e w' ⟨g', b', he, hb, hg, hbb, ht'⟩ => ⟨_, he, hb, made_cons hT' hb hg hbb ht' (fun k hk => ⟨D, h3, hk⟩)⟩
theorem Root_any (i : Nat) (a : Addr) (t : TR) (w : World) (L : List (Addr × TR)) (X : Nat → Prop) (hT : Trees w L X) (hi : L[i]? = some (a, t)) :
    Calls Tryz.prog 46 #[.pointer (some a)] w fun e w' => e = .returned (.string (S t.root)) ∧ Below w.heap.size w w' := by
  obtain ⟨D, g, b, rfl, ht⟩ := hT.at_ hi
  exact (Root_at w ht).mono fun e w' ⟨he, hw⟩ => ⟨he, hw ▸ Below.refl _ _⟩
theorem At_any (i : Nat) (a : Addr) (t : TR) (w : World) (L : List (Addr × TR)) (X : Nat → Prop) (hT : Trees w L X) (hi : L[i]? = some (a, t)) :
    Calls Tryz.prog 31 #[.pointer (some a)] w fun e w' => e = .returned (.int .u64 (t.cnt : Int)) ∧ Below w.heap.size w w' := by
  obtain ⟨D, g, b, rfl, ht⟩ := hT.at_ hi
  exact (At_at w ht).mono fun e w' ⟨he, hw⟩ => ⟨he, hw ▸ Below.refl _ _⟩
theorem Get_yes (p : List UInt8) (n : ZN) (i : Nat) (a : Addr) (t : TR) (w : World) (L : List (Addr × TR)) (X : Nat → Prop) (hT : Trees w L X) (hi : L[i]? = some (a, t)) (hp : p.length ≤ 1000000) (hg : get t.row p = some n) :
    Calls Tryz.prog 32 #[.pointer (some a), .string (S p)] w fun e w' => ∃ A k c, e = .returned (.tuple #[znV n (.slice A k c), .bool true]) ∧ Below w.heap.size w w' ∧ k ≤ c ∧ Rd w' A k n.data ∧ (0 < k → ∃ g, A = some ⟨g, 0, none⟩ ∧ w.heap.size ≤ g ∧ ∀ j, j < k → w'.frozen? ⟨g, j, none⟩ = false) := by
  obtain ⟨D, g, b, rfl, ht⟩ := hT.at_ hi
  refine (Get_at p n w ht hp (ht.small _ ((get_some_iff ht.good.sorted).1 hg)) hg).mono ?_
  rintro e w' ⟨d, he, hb, A, k, c, rfl, hc, hr, hf⟩
  exact ⟨A, k, c, he, hb, hc, hr, hf⟩
theorem Get_no (p : List UInt8) (i : Nat) (a : Addr) (t : TR) (w : World) (L : List (Addr × TR)) (X : Nat → Prop) (hT : Trees w L X) (hi : L[i]? = some (a, t)) (hp : p.length ≤ 1000000) (hg : get t.row p = none) :
    Calls Tryz.prog 32 #[.pointer (some a), .string (S p)] w fun e w' => ∃ A c, e = .returned (.tuple #[znV ZN.zero (.slice A 0 c), .bool false]) ∧ Below w.heap.size w w' := by
  obtain ⟨D, g, b, rfl, ht⟩ := hT.at_ hi
  exact Get_none p w ht hp hg
theorem Kids_any (p : List UInt8) (i : Nat) (a : Addr) (t : TR) (w : World) (L : List (Addr × TR)) (X : Nat → Prop) (hT : Trees w L X) (hi : L[i]? = some (a, t)) (hp : p.length ≤ 1000000) :
    Calls Tryz.prog 38 #[.pointer (some a), .string (S p)] w fun e w' => ∃ A c, e = .returned (.slice A (kids t.root t.row p).length c) ∧ Below w.heap.size w w' ∧ RdV w' A (kids t.root t.row p).length (sv (kids t.root t.row p)) := by
  obtain ⟨D, g, b, rfl, ht⟩ := hT.at_ hi
  exact Kids_any_at p w ht hp
theorem Paths_any (i : Nat) (a : Addr) (t : TR) (w : World) (L : List (Addr × TR)) (X : Nat → Prop) (hT : Trees w L X) (hi : L[i]? = some (a, t)) :
    Calls Tryz.prog 37 #[.pointer (some a)] w fun e w' => ∃ A c, e = .returned (.slice A t.row.length c) ∧ Below w.heap.size w w' ∧ RdV w' A t.row.length (sv (paths t.row)) ∧ ∀ ad, A = some ad → w.heap.size ≤ ad.block := by
  obtain ⟨D, g, b, rfl, ht⟩ := hT.at_ hi
  exact Paths_at w ht
theorem Same_any (i j : Nat) (a b : Addr) (t u : TR) (w : World) (L : List (Addr × TR)) (X : Nat → Prop) (hT : Trees w L X) (hi : L[i]? = some (a, t)) (hj : L[j]? = some (b, u)) :
    Calls Tryz.prog 25 #[.pointer (some a), .pointer (some b)] w fun e w' => e = .returned (.bool (decide (t.root = u.root ∧ t.cnt = u.cnt ∧ t.row = u.row))) ∧ Below w.heap.size w w' := by
  obtain ⟨D, g, b1, rfl, ht⟩ := hT.at_ hi
  obtain ⟨D', g', b2, rfl, hu⟩ := hT.at_ hj
  exact Same_at w ht hu
theorem Apply_any (P : Nat → Prop) (A : Option Addr) (n c : Nat) (xs : List Ef) (i : Nat) (a : Addr) (t : TR) (w : World) (L : List (Addr × TR)) (X : Nat → Prop) (hT : Trees w L X) (hi : L[i]? = some (a, t)) (hE : EfS P w A n xs) (_hPX : ∀ k, P k → ¬ X k) (hp : ∀ x ∈ xs, x.path.length ≤ 1000000 ∧ x.node.data.length ≤ 1000000) (hn : n ≤ 1000000) :
    Calls Tryz.prog 17 #[.pointer (some a), .slice A n c] w fun e w' => e = .returned (.int .i64 (t.apply xs).1) ∧ Made w X (L.set i (a, (t.apply xs).2)) w' := by
  have hT' := hT
  obtain ⟨D, h1, h2, h3, h4⟩ := hT
  obtain ⟨g, b, rfl, ht, hXg, hXb⟩ := h1 i a t hi
  have hilt : i < L.length := (List.getElem?_eq_some_iff.1 hi).1
  refine (Apply_at A n c xs w ht hE hp hn (fun k hk => (h3 k hk).2 i _ t hi)).mono ?_
  rintro e w' ⟨he, h | ⟨h0, ⟨b', D', ht', hb', hD'⟩, ho⟩⟩
  · obtain ⟨h, hb⟩ := h
    have e2 : (t.apply xs).2 = t := by rw [h]
    refine ⟨he, X, ?_, Out.of_below hb, fun k hk => .inl hk⟩
    have e3 : L.set i (⟨g, 0, none⟩, (t.apply xs).2) = L := by
      rw [e2]
      refine List.ext_getElem? fun j => ?_
      by_cases hij : i = j
      · subst hij; rw [List.getElem?_set_self hilt, hi]
      · rw [List.getElem?_set_ne hij]
    rw [e3]
    exact hT'.below hb
  · have hsz := ho.size
    have hgl := ht.bk.lt
    have hset : ∀ (j : Nat) (a' : Addr) (u : TR), (L.set i (⟨g, 0, none⟩, (t.apply xs).2))[j]? = some (a', u) → (j = i ∧ a' = ⟨g, 0, none⟩ ∧ u = (t.apply xs).2) ∨ (j ≠ i ∧ L[j]? = some (a', u)) := fun j a' u hj => by
      by_cases hij : i = j
      · subst hij
        rw [List.getElem?_set_self hilt] at hj
        have := Option.some.inj hj
        exact .inl ⟨rfl, (Prod.mk.inj this).1.symm, (Prod.mk.inj this).2.symm⟩
      · rw [List.getElem?_set_ne hij] at hj
        exact .inr ⟨fun e => hij e.symm, hj⟩
    have haddr : ∀ (j : Nat) (a' : Addr) (u : TR), (L.set i (⟨g, 0, none⟩, (t.apply xs).2))[j]? = some (a', u) → ∃ u', L[j]? = some (a', u') := fun j a' u hj => by
      rcases hset j a' u hj with ⟨rfl, rfl, _⟩ | ⟨_, h⟩
      · exact ⟨t, hi⟩
      · exact ⟨u, h⟩
    have hXa : ∀ (j : Nat) (a' : Addr) (u : TR), L[j]? = some (a', u) → a'.block < w.heap.size := fun j a' u hj => by
      obtain ⟨g', b', rfl, _, hg', _⟩ := h1 j a' u hj
      exact h4 g' hg'
    have hlt : ∀ k, D k ∨ D' k → k < w'.heap.size := fun k hk => hk.elim (fun h => Nat.lt_of_lt_of_le (h4 k (h3 k h).1) hsz) (fun h => ht'.dlt k h)
    refine ⟨he, fun k => X k ∨ (w.heap.size ≤ k ∧ k < w'.heap.size), ⟨fun k => D k ∨ D' k, fun j a' u hj => ?_, fun j k a1 a2 u1 u2 hj hk e => ?_, fun k hk => ⟨?_, fun j a' u hj => ?_⟩, fun k hk => ?_⟩, ⟨ho.os, ho.tape, ho.output, ho.size, fun k hk hX => ho.block k hk (fun e => hX (e ▸ hXg))⟩, fun k hk => or_map hk id (fun h => h.1)⟩
    · rcases hset j a' u hj with ⟨rfl, rfl, rfl⟩ | ⟨hne, h⟩
      · exact ⟨g, b', rfl, ht'.wider (fun k hk => .inr hk) hlt, .inl hXg, .inr ⟨hb', ht'.map.lt⟩⟩
      · obtain ⟨g1, b1, rfl, hu, hg1, hb1⟩ := h1 j a' u h
        have hg1ne : g1 ≠ g := fun e => hne (h2 j i _ _ u t h hi e)
        have hb1ne : b1 ≠ g := by
          rintro rfl
          obtain ⟨es, clock, hbm, _⟩ := hu.map
          have := ht.bk
          unfold Bk at this
          rw [hbm] at this
          cases this
        exact ⟨g1, b1, rfl, (hu.kept (ho.block g1 hu.bk.lt hg1ne) (ho.block b1 hu.map.lt hb1ne) (fun k hk => ho.block k (h4 k (h3 k hk).1) ((h3 k hk).2 i _ t hi)) hsz).wider (fun k hk => .inl hk) hlt, .inl hg1, .inl hb1⟩
    · obtain ⟨v1, hv1⟩ := haddr j a1 u1 hj
      obtain ⟨v2, hv2⟩ := haddr k a2 u2 hk
      exact h2 j k a1 a2 v1 v2 hv1 hv2 e
    · rcases hk with h | h
      · exact .inl (h3 k h).1
      · rcases hD' k h with h' | h'
        · exact .inl (h3 k h').1
        · exact .inr ⟨h', ht'.dlt k h⟩
    · obtain ⟨v, hv⟩ := haddr j a' u hj
      rcases hk with h | h
      · exact (h3 k h).2 j a' v hv
      · rcases hD' k h with h' | h'
        · exact (h3 k h').2 j a' v hv
        · have := hXa j a' v hv
          omega
    · rcases hk with h | h
      · exact Nat.lt_of_lt_of_le (h4 k h) hsz
      · exact h.2
end Go.Proofs.YtplbckibogmicaaGreatDoor.Tree
