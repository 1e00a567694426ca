/- Nodes one below the other. -/
import Derived.Test.YtplbckibogmicaaGreatDoorTreeGrows
import Derived.Test.YtplbckibogmicaaGreatDoorTreeArgs
namespace Go.Proofs.YtplbckibogmicaaGreatDoor.Tree
open Go.RowKit Path

/-- /a/a/.. , k deep. -/
def pa : Nat → List UInt8
  | 0 => [47]
  | k + 1 => (List.replicate (k + 1) [47, 97]).flatten
def chain (n : Nat) : List Ef := (List.range n).map fun i => efPut (pa (i + 1))
def nodeOf (k : Nat) : ZN := { ZN.zero with data := pa k }
def rowG : Nat → Row
  | 0 => [([47], ZN.zero)]
  | k + 1 => rowG k ++ [(pa (k + 1), nodeOf (k + 1))]
theorem gn0 : (partsF [47]).isSome = true := by kernel_rfl
theorem gn1 : (List.range 21).all (fun n => decide (rowApply [47] (rowG 0) (chain n) = (0, rowG n))) = true := by kernel_rfl
theorem gn2 : (List.range 20).all (fun k => decide (one [47] (rowG (k + 1)) (efGone (pa (k + 1))) = (0, rowG k))) = true := by kernel_rfl
theorem gn3 : (List.range 21).all (fun n => (List.range (n - 1)).all fun i => decide (one [47] (rowG n) (efGone (pa (i + 1))) = (33, rowG n))) = true := by kernel_rfl
theorem gn4 : (List.range 20).all (fun k => decide (joinF (pa k) [97] = (pa (k + 1), 0))) = true := by kernel_rfl
theorem len_rowG (k : Nat) : (rowG k).length = k + 1 := by
  induction k with
  | zero => rfl
  | succ k ih => simp [rowG, ih]
theorem len_pa (k : Nat) : (pa k).length ≤ 2 * k + 1 := by
  cases k with
  | zero => decide
  | succ k => simp [pa]; omega
theorem chain_len (n : Nat) : (chain n).length = n := by simp [chain]
theorem chain_succ (n : Nat) : chain (n + 1) = chain n ++ [efPut (pa (n + 1))] := by simp [chain, List.range_succ]
theorem gone1 {n : Nat} (h : n ≤ 20) : (TR.new [47]).apply (chain n) = (0, ⟨[47], 1, rowG n⟩) := by
  have h1 := of_decide_eq_true (List.all_eq_true.1 gn1 n (List.mem_range.2 (by omega)))
  unfold TR.apply TR.new
  dsimp only
  rw [show ([([47], ZN.zero)] : Row) = rowG 0 from rfl, h1, if_pos rfl]
theorem gone2 {k c : Nat} (h : k < 20) : (⟨[47], c, rowG (k + 1)⟩ : TR).apply [efGone (pa (k + 1))] = (0, ⟨[47], (c + 1) % 18446744073709551616, rowG k⟩) := by
  have h1 := of_decide_eq_true (List.all_eq_true.1 gn2 k (List.mem_range.2 h))
  unfold TR.apply rowApply rowApply
  dsimp only
  rw [h1, if_pos rfl, if_pos rfl]
theorem gone3 {n i c : Nat} (h : n ≤ 20) (hi : i + 1 < n) : (⟨[47], c, rowG n⟩ : TR).apply [efGone (pa (i + 1))] = (33, ⟨[47], c, rowG n⟩) := by
  have h1 := List.all_eq_true.1 gn3 n (List.mem_range.2 (by omega))
  have h2 := of_decide_eq_true (List.all_eq_true.1 h1 i (List.mem_range.2 (by omega)))
  unfold TR.apply rowApply rowApply
  dsimp only
  rw [h2]
  rfl
theorem join4 {k : Nat} (h : k < 20) : joinF (pa k) [97] = (pa (k + 1), 0) := of_decide_eq_true (List.all_eq_true.1 gn4 k (List.mem_range.2 h))
theorem info_ef : (Tryz.prog.info? 41).map (fun i => (i.zero, i.size, i.bytes)) = some (some (.agg efZ), 11, 104) := by kernel_rfl
/-- A row of effects of the call's own. -/
theorem EfS.of_own {P : Nat → Prop} {w : World} {base : Nat} {e : TypeId} {A : Option Addr} {n c : Nat} {xds : List (Ef × Value)} (h : w.ownsRow base e 11 (.slice A n c) n (xds.flatMap fun y => efC y.1 y.2)) (hP : ∀ k, base ≤ k → k < w.heap.size → P k) (hd : ∀ y ∈ xds, DataS P w y.2 y.1.node.data) : EfS P w A n (xds.map (·.1)) := by
  have hlen : (xds.flatMap fun y => efC y.1 y.2).length = 11 * xds.length := by
    have : ∀ l : List (Ef × Value), (l.flatMap fun y => efC y.1 y.2).length = 11 * l.length := by
      intro l
      induction l with
      | nil => rfl
      | cons y l ih => rw [List.flatMap_cons, List.length_append, ih, efC_length, List.length_cons]; omega
    exact this xds
  have hn : xds.length = n := by have := h.1; rw [hlen] at this; omega
  refine ⟨by rw [List.length_map]; exact hn, fun j hj => ?_⟩
  have hj' : j < xds.length := by simpa using hj
  rcases h.2 with ⟨_, h0⟩ | ⟨g, cap, cur, e1, hg, hh, hnc, _, hs, ht⟩
  · omega
  · injection e1 with e1 e2 e3
    subst e1
    refine ⟨_, xds[j].2, rfl, hP _ hg (heap_lt hh), ?_, fun i v hv => ?_⟩
    · rw [List.getElem_map]
      exact hd _ (List.getElem_mem hj')
    · rw [List.getElem_map] at hv
      have hi : i < 11 := by
        have := (List.getElem?_eq_some_iff.1 hv).1
        rwa [efC_length] at this
      rw [add_off]
      simp only [World.cell?, hh]
      have h2 : (cur.toList.take (n * 11))[11 * j + i]? = some v := by rw [ht, flat_at xds j hj' hi]; exact hv
      rw [List.getElem?_take, if_pos (by omega)] at h2
      simpa using h2
theorem ef_new (w : World) (x : Ef) (d : Value) (e : TypeId) : ∀ j u, (efC x d)[j]? = some u → (w.alloc (.cells (efC x d).toArray e)).cell? ((⟨w.heap.size, 0, none⟩ : Addr).add j) = some u := by
  intro j u hu
  have hcell : ∀ (o : Obj), (w.alloc o).heap[w.heap.size]? = some o := fun o => heap_alloc_new _ _
  rw [add_off]
  simp only [World.cell?, hcell]
  rw [List.getElem?_toArray]
  exact hu
theorem ef_one (x : Ef) (D : Option Addr) (n c : Nat) : ∀ u ∈ efC x (.slice D n c), u.oneCell' = true := by
  intro u hu
  simp [efC, znC] at hu
  rcases hu with rfl | rfl | rfl | rfl | rfl | rfl | rfl | rfl | rfl | rfl | rfl <;> rfl
theorem own_keep {w w' : World} {base : Nat} {e : TypeId} {v : Value} {n : Nat} {xs : List Value} (h : w.ownsRow base e 11 v n xs) (hb : Below w.heap.size w w') : w'.ownsRow base e 11 v n xs :=
  ⟨h.1, by
    rcases h.2 with h1 | ⟨g, cap, cur, e1, e2, hh, r⟩
    · exact .inl h1
    · exact .inr ⟨g, cap, cur, e1, e2, (hb.block g (heap_lt hh)).trans hh, r⟩⟩
/-- The row's own block is no block of bytes. -/
theorem own_other {w w' : World} {base : Nat} {v : Value} {n : Nat} {xs : List Value} (h : w.ownsRow base 41 11 v n xs) (hg : w.grownBy w' v.ownBlock) : ∀ (g : Nat) (C : Array Value) (fz : Nat × Nat), w.heap[g]? = some (.cells C 5 fz) → w'.heap[g]? = w.heap[g]? := by
  intro g C fz hh
  refine hg.block g (heap_lt hh) (fun e => ?_)
  rcases h.2 with ⟨rfl, _⟩ | ⟨g', cap, cur, rfl, _, hh', _⟩
  · cases e
  · injection e with e
    subst e
    rw [hh] at hh'
    injection hh' with hh'
    injection hh' with _ h2 _
    revert h2
    decide
theorem own_blk {w : World} {base : Nat} {e : TypeId} {v : Value} {n : Nat} {xs : List Value} (h : w.ownsRow base e 11 v n xs) : ∀ g, v.ownBlock = some g → base ≤ g := by
  intro g e
  rcases h.2 with ⟨rfl, _⟩ | ⟨g', cap, cur, rfl, hb, _⟩
  · cases e
  · injection e with e
    subst e
    exact hb
theorem DataB.in_ {B : Nat} {P : Nat → Prop} {w : World} {d : Value} {bs : List UInt8} (h : DataB B w d bs) (hP : ∀ k, B ≤ k → k < w.heap.size → P k) : DataS P w d bs := by
  obtain ⟨g, c, C, fz, rfl, hc, hB, hh, hC⟩ := h
  exact ⟨_, _, c, rfl, hc, (fun _ ad h => by injection h with h; subst h; exact hP _ hB (heap_lt hh)), Rd.of_block hh hC⟩
theorem own_is {w : World} {base : Nat} {e : TypeId} {v : Value} {n : Nat} {xs : List Value} (h : w.ownsRow base e 11 v n xs) : ∃ A c, v = .slice A n c ∧ n ≤ c := by
  rcases h.2 with ⟨rfl, rfl⟩ | ⟨g, cap, cur, rfl, _, _, hc, _⟩
  · exact ⟨none, 0, rfl, Nat.le_refl _⟩
  · exact ⟨_, cap, rfl, hc⟩
theorem chain_ok {n : Nat} (h : n ≤ 20) : ∀ x ∈ chain n, x.path.length ≤ 1000000 ∧ x.node.data.length ≤ 1000000 := by
  intro x hx
  unfold chain at hx
  obtain ⟨i, hi, rfl⟩ := List.mem_map.1 hx
  have := List.mem_range.1 hi
  have := len_pa (i + 1)
  exact ⟨by show (pa (i + 1)).length ≤ _; omega, by show (pa (i + 1)).length ≤ _; omega⟩
/-- The path of one of them, in the row. -/
theorem chain_at {P : Nat → Prop} {w : World} {A : Option Addr} {k i : Nat} (h : EfS P w A k (chain k)) (hi : i < k) : ∃ b o, A = some ⟨b, o, none⟩ ∧ w.cell? ⟨b, o + i * 11, none⟩ = some (.string (S (pa (i + 1)))) := by
  have hl : i < (chain k).length := by rw [chain_len]; exact hi
  obtain ⟨b, o, D, m, c, rfl, _, _, _, hc⟩ := h.at_ hl
  have e : (chain k)[i] = efPut (pa (i + 1)) := by simp [chain]
  have := hc 0 _ rfl
  rw [e, show o + (11 * i + 0) = o + i * 11 by omega] at this
  exact ⟨b, o, rfl, this⟩
/-- What comes of one that is to go. -/
theorem gone_out {k t : Nat} (hk : k ≤ 20) (ht : t < k) : ∃ (f : Int) (q c : Nat), (⟨[47], 1, rowG k⟩ : TR).apply [efGone (pa (t + 1))] = (f, ⟨[47], c, rowG q⟩) ∧ q ≤ k ∧ ((t + 1 = k ∧ f = 0) ∨ (t + 1 < k ∧ f = 33)) := by
  by_cases h : t + 1 = k
  · subst h
    exact ⟨0, t, _, gone2 (by omega), by omega, .inl ⟨rfl, rfl⟩⟩
  · exact ⟨33, k, 1, gone3 hk (by omega), Nat.le_refl _, .inr ⟨by omega, rfl⟩⟩
end Go.Proofs.YtplbckibogmicaaGreatDoor.Tree
