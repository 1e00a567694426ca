/- What TreeWhole asks of every tree: the root first, parents, kids that are counted. -/
import Derived.Test.YtaokjkhailpemaaDoorTreeGrows
import Derived.Test.YtaokjkhailpemaaDoorTreeArgs
namespace Go.Proofs.YtaokjkhailpemaaDoor.Tree
open Go.Op Go.RowKit Path

theorem Trees.tail_ {w : World} {p : Addr × TR} {L : List (Addr × TR)} {X : Nat → Prop} (h : Trees w (p :: L) X) : Trees w L X := by
  obtain ⟨D, h1, h2, h3, h4⟩ := h
  exact ⟨D, fun i a t hi => h1 (i + 1) a t (by simpa using hi), fun i j a b t u hi hj e => by
    have := h2 (i + 1) (j + 1) a b t u (by simpa using hi) (by simpa using hj) e
    omega, fun k hk => ⟨(h3 k hk).1, fun i a t hi => (h3 k hk).2 (i + 1) a t (by simpa using hi)⟩, h4⟩
theorem St.tail_ {w0 w : World} {p : Addr × TR} {L : List (Addr × TR)} {X : Nat → Prop} (h : St w0 w (p :: L) X) : St w0 w L X := ⟨h.1.tail_, h.2.1, h.2.2⟩
theorem texts_at {w : World} {A : Option Addr} {n : Nat} {ps : List (List UInt8)} (h : RdV w A n (sv ps)) (h0 : 0 < ps.length) : ∃ b o, A = some ⟨b, o, none⟩ ∧ ∀ (i : Nat) (hi : i < ps.length), w.cell? ⟨b, o + i, none⟩ = some (.string (S ps[i])) := by
  have hn : 0 < n := by rw [← h.len, sv_length]; exact h0
  obtain ⟨ad, rfl, hc⟩ := h.cells hn
  have hq : ad = ⟨ad.block, ad.off, none⟩ := by
    have := hc 0 _ (sv_get h0)
    exact addr_plain (by simpa [Addr.add] using this)
  refine ⟨ad.block, ad.off, congrArg some hq, fun i hi => ?_⟩
  have := hc i _ (sv_get hi)
  rw [hq, add_plain] at this
  exact this
/-- The kids of the first k nodes. -/
def sumK (root : List UInt8) (l : Row) (k : Nat) : Nat := (((paths l).take k).map fun p => (kids root l p).length).sum
theorem sumK_succ {root : List UInt8} {l : Row} {k : Nat} (h : k < (paths l).length) : sumK root l (k + 1) = sumK root l k + (kids root l (paths l)[k]).length := by
  unfold sumK
  rw [← List.take_append_getElem h, List.map_append, List.sum_append]
  simp
theorem sumK_le {root : List UInt8} {l : Row} (k : Nat) : sumK root l k ≤ ((paths l).map fun p => (kids root l p).length).sum := by
  unfold sumK
  have h : ∀ (xs : List (List UInt8)) (k : Nat), ((xs.take k).map fun p => (kids root l p).length).sum ≤ (xs.map fun p => (kids root l p).length).sum := by
    intro xs
    induction xs with
    | nil => intro k; simp
    | cons x xs ih =>
      intro k
      cases k with
      | zero => simp
      | succ k =>
        have := ih k
        simp only [List.take_succ_cons, List.map_cons, List.sum_cons]
        omega
  exact h _ k
theorem sumK_48 {root : List UInt8} {l : Row} (h : Good root l) (k : Nat) : sumK root l k ≤ 47 := by
  have h1 := sumK_le (root := root) (l := l) k
  have h2 := sum_kids h
  have h3 := h.max
  omega
theorem sumK_all {root : List UInt8} {l : Row} (h : Good root l) : sumK root l (paths l).length + 1 = l.length := by
  unfold sumK
  rw [List.take_length]
  exact sum_kids h
theorem at_pos {root : List UInt8} {l : Row} (h : Good root l) {k : Nat} (h0 : 0 < k) (hk : k < (paths l).length) :
    (∃ n, get l (parentF (paths l)[k]) = some n) ∧ underF (paths l)[k] root = true ∧ bytesLess (paths l)[k - 1] (paths l)[k] = true := by
  have hm := List.getElem_mem hk
  have hord : ∀ i, (hi : i < k) → bytesLess ((paths l)[i]'(by omega)) (paths l)[k] = true := fun i hi => List.pairwise_iff_getElem.1 h.sorted i k (by omega) hk hi
  have hne : (paths l)[k] ≠ root := by
    obtain ⟨r, hr⟩ := root_first h
    have h1 := hord 0 h0
    have h2 : (paths l)[0]'(by omega) = root := by simp [hr]
    rw [h2] at h1
    exact fun e => less_ne h1 e.symm
  refine ⟨?_, h.under _ hm, hord (k - 1) (by omega)⟩
  have hp := h.par _ hm hne
  rw [← has_iff, has_get] at hp
  exact Option.isSome_iff_exists.1 hp
theorem at_zero {root : List UInt8} {l : Row} (h : Good root l) : ∃ h0 : 0 < (paths l).length, (paths l)[0] = root := by
  obtain ⟨r, hr⟩ := root_first h
  exact ⟨by simp [hr], by simp [hr]⟩
theorem path_64 {root : List UInt8} {l : Row} (h : Good root l) {k : Nat} (hk : k < (paths l).length) : (paths l)[k].length ≤ 64 := by
  obtain ⟨qs, _, h1, _⟩ := under_iff.1 (h.under _ (List.getElem_mem hk))
  exact ((parts_iff _ qs).1 h1).2.1
theorem apply_no {t : TR} {xs : List Ef} (h : ¬ (t.apply xs).1 = 0) : (t.apply xs).2 = t := by
  unfold TR.apply at h ⊢
  split
  · next h0 => rw [if_pos h0] at h; exact absurd rfl h
  · rfl
theorem apply_ok {t : TR} {xs : List Ef} (h : (t.apply xs).1 = 0) : (t.apply xs).2.cnt = (t.cnt + 1) % 18446744073709551616 := by
  unfold TR.apply at h ⊢
  split
  · rfl
  · next h0 => rw [if_neg h0] at h; exact absurd h h0
end Go.Proofs.YtaokjkhailpemaaDoor.Tree
