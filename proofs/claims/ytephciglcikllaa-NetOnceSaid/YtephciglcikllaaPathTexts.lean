/- Rows of texts: slices whose elements have one cell each. -/
import Derived.Test.YtephciglcikllaaPathBase
namespace Go.Proofs.Ytephciglcikllaa
open Go.RowKit

/-- The slice '.slice A n c' reads as these values, of one cell each. -/
structure RdV (w : World) (A : Option Addr) (n : Nat) (vs : List Value) : Prop where
  len : vs.length = n
  cells : 0 < n → ∃ ad, A = some ad ∧ ∀ j v, vs[j]? = some v → w.cell? (ad.add j) = some v

theorem RdV.nil_ (w : World) (A : Option Addr) : RdV w A 0 [] := ⟨rfl, fun h => absurd h (by omega)⟩
theorem RdV.keep {w w' : World} {A : Option Addr} {n : Nat} {vs : List Value} (h : RdV w A n vs) (hk : ∀ (p : Addr) (v : Value), w.cell? p = some v → w'.cell? p = some v) : RdV w' A n vs :=
  ⟨h.len, fun hn => by
    obtain ⟨ad, e, hc⟩ := h.cells hn
    exact ⟨ad, e, fun j b hb => hk _ _ (hc j b hb)⟩⟩
theorem RdV.below {w w' : World} {A : Option Addr} {n : Nat} {vs : List Value} (h : RdV w A n vs) (hb : Below w.heap.size w w') : RdV w' A n vs :=
  h.keep fun p _ hp => (hb.cell (World.block_lt_of_cell? w p hp)).trans hp
theorem RdV.take {w : World} {A : Option Addr} {n : Nat} {vs : List Value} (h : RdV w A n vs) {k : Nat} (hk : k ≤ n) : RdV w A k (vs.take k) :=
  ⟨by rw [List.length_take, h.len]; omega, fun h0 => by
    obtain ⟨ad, e, hc⟩ := h.cells (by omega)
    refine ⟨ad, e, fun j b hb => hc j b ?_⟩
    rw [List.getElem?_take] at hb
    split at hb
    · exact hb
    · cases hb⟩
theorem RdV.of_own {w : World} {base : Nat} {e : TypeId} {A : Option Addr} {n m c : Nat} {vs : List Value} (h : w.ownsRow base e 1 (.slice A n c) m vs) : RdV w A n vs ∧ n = m := by
  have hl := h.1
  rw [Nat.mul_one] at hl
  rcases h.2 with ⟨e1, rfl⟩ | ⟨g, cap, cur, e1, _, hh, hnc, _, hs, ht⟩
  · injection e1 with e1 e2 e3
    subst e2
    exact ⟨⟨hl, fun h0 => absurd h0 (by omega)⟩, rfl⟩
  · injection e1 with e1 e2 e3
    subst e1 e2 e3
    refine ⟨⟨hl, fun _ => ⟨_, rfl, fun j b hb => ?_⟩⟩, rfl⟩
    have hj : j < n := by
      have := (List.getElem?_eq_some_iff.1 hb).1
      omega
    have : w.cell? ⟨g, 0 + j, none⟩ = some b := by
      simp only [World.cell?, hh]
      rw [Nat.mul_one] at ht
      have h2 : (cur.toList.take n)[j]? = some b := by rw [ht, hb]
      rw [List.getElem?_take, if_pos hj] at h2
      simpa using h2
    unfold Addr.add
    by_cases hj0 : j = 0
    · subst hj0; simpa using this
    · simpa [hj0] using this
theorem own_slice {w : World} {base : Nat} {e : TypeId} {v : Value} {n : Nat} {xs : List Value} (h : w.ownsRow base e 1 v n xs) : ∃ A c, v = .slice A n c := by
  rcases h.2 with ⟨h0, h1⟩ | ⟨g, cap, cur, h0, _⟩
  · exact ⟨none, 0, by rw [h0, h1]⟩
  · exact ⟨_, _, h0⟩
theorem own_nil (w : World) (base : Nat) (e : TypeId) : w.ownsRow base e 1 (.slice none 0 0) 0 [] := ⟨rfl, .inl ⟨rfl, rfl⟩⟩

/-- 'append(out, x...)', out a row of the call's own, x any values of one cell (nil let in). -/
theorem run_append_RdV {P : Program} {w : World} {t ty e : TypeId} {i : TypeInfo} {z : Value} {bytes : Nat} (ht : P.underlying t = some (.slice e)) (hi : P.info? e = some i) (hz : i.zero = some z) (hs : i.size = 1) (hb : i.bytes = bytes) (hzs : z.cells.size = 1)
    {base : Nat} {v : Value} {n : Nat} {xs : List Value} (hown : w.ownsRow base e 1 v n xs) {A : Option Addr} {m : Nat} {vs : List Value} (h : RdV w A m vs) (h1 : ∀ u ∈ vs, u.oneCell' = true) (c : Nat) (h63 : n + m ≤ maxLen) (hm : (n + m) * bytes ≤ 140737488355328) (hbase : base ≤ w.heap.size) :
    ∃ v' w', (Builtin.append_ #[t, t] ty #[v, .slice A m c]).run P w = .ok v' w' ∧ w'.ownsRow base e 1 v' (n + m) (xs ++ vs) ∧ w.grownBy w' v.ownBlock := by
  have hl := h.len
  cases A with
  | some ad =>
    have hcells : ∀ j u, vs[j]? = some u → w.cell? (ad.add j) = some u := by
      intro j u hu
      have h0 : 0 < m := by
        have := (List.getElem?_eq_some_iff.1 hu).1
        omega
      obtain ⟨ad', e', hc⟩ := h.cells h0
      injection e' with e'
      subst e'
      exact hc j u hu
    obtain ⟨v', w', h1, h2, h3, _⟩ := run_append_own (P := P) w base t ty e i z 1 bytes ht hi hz hs hb hzs (by decide) v n xs hown ad m c vs (by simp [hl]) hcells h1 h63 hm hbase
    exact ⟨v', w', h1, h2, h3⟩
  | none =>
    have hm0 : m = 0 := by
      rcases Nat.eq_zero_or_pos m with h0 | h0
      · exact h0
      · obtain ⟨_, e', _⟩ := h.cells h0
        cases e'
    subst hm0
    have hb0 : vs = [] := List.eq_nil_of_length_eq_zero hl
    subst hb0
    refine ⟨v, w, ?_, by simpa using hown, ⟨rfl, rfl, rfl, Nat.le_refl _, fun _ _ _ => rfl⟩⟩
    rcases hown.2 with ⟨rfl, rfl⟩ | ⟨g, cap, cur, rfl, _, _, hnc, _⟩
    · simp [Builtin.append_, run_underlying ht, sizeOf, typeInfo, hi, Builtin.lenOf, Builtin.firstCells]
    · simp [Builtin.append_, run_underlying ht, sizeOf, typeInfo, hi, Builtin.lenOf, Builtin.firstCells, hnc, storeCells]

theorem wpList_append_RdV {P : Program} {w : World} {ops : Array Oper} {rest : List Oper} {o : Oper} {a : Act} {Q : Exit → Act → World → Prop} (hgd : o.guard = none) (s x : Operand) (t : TypeId)
    (ho : o.op = .call { callee := .builtin .append, args := #[s, x], argTypes := #[t, t] }) {e : TypeId} {i : TypeInfo} {z : Value} {bytes : Nat} (ht : P.underlying t = some (.slice e)) (hi : P.info? e = some i) (hz : i.zero = some z) (hsz : i.size = 1) (hb : i.bytes = bytes) (hzs : z.cells.size = 1)
    {base : Nat} {v : Value} {n : Nat} {xs : List Value} (hs : a.eval s = v) (hown : w.ownsRow base e 1 v n xs) {A : Option Addr} {m c : Nat} {vs : List Value} (hx : a.eval x = .slice A m c) (h : RdV w A m vs) (h1 : ∀ u ∈ vs, u.oneCell' = true) (h63 : n + m ≤ maxLen) (hm : (n + m) * bytes ≤ 140737488355328) (hbase : base ≤ w.heap.size)
    (hK : ∀ v' w', w'.ownsRow base e 1 v' (n + m) (xs ++ vs) → w.grownBy w' v.ownBlock → wpList P ops Q rest (a.put o.dst v') w') : wpList P ops Q (o :: rest) a w := by
  obtain ⟨v', w', h1, h2, h3⟩ := run_append_RdV (ty := o.type) ht hi hz hsz hb hzs hown h h1 c h63 hm hbase
  refine wpList_plain hgd fun K hK' => ?_
  unfold Oper.wp execOp
  simp only [ho, resolve, invoke, builtin, Sem.run_bind, Sem.run_pure, Result.andThen_ok, List.map_toArray, List.map_cons, List.map_nil, hs, hx, h1]
  exact hK' _ _ (hK v' w' h2 h3)

/-- Texts as values. -/
def sv (ss : List (List UInt8)) : List Value := ss.map fun s => .string (S s)
theorem sv_all (ss : List (List UInt8)) : ∀ v ∈ sv ss, v.oneCell' = true := by
  intro v hv
  unfold sv at hv
  obtain ⟨s, _, rfl⟩ := List.mem_map.1 hv
  rfl
theorem sv_length (ss : List (List UInt8)) : (sv ss).length = ss.length := by simp [sv]
theorem sv_get {ss : List (List UInt8)} {j : Nat} (h : j < ss.length) : (sv ss)[j]? = some (.string (S ss[j])) := by simp [sv, h]
theorem sv_append (a b : List (List UInt8)) : sv (a ++ b) = sv a ++ sv b := by simp [sv]
theorem sv_take (a : List (List UInt8)) (k : Nat) : (sv a).take k = sv (a.take k) := by simp [sv]

theorem info_text : (Try.prog.info? 9).map (fun i => (i.zero, i.size, i.bytes)) = some (some (.string ⟨#[]⟩), 1, 16) := by kernel_rfl
theorem infos {P : Program} {t : TypeId} {z : Value} {a b : Nat} (h : (P.info? t).map (fun i => (i.zero, i.size, i.bytes)) = some (some z, a, b)) : ∃ i, P.info? t = some i ∧ i.zero = some z ∧ i.size = a ∧ i.bytes = b := by
  cases hi : P.info? t with
  | none => rw [hi] at h; cases h
  | some i =>
    rw [hi] at h
    simp at h
    exact ⟨i, rfl, h⟩
theorem S_extract (l : List UInt8) (a b : Nat) : (S l).extract a b = S ((l.drop a).take (b - a)) := by
  apply ByteArray.ext
  simp [S]
namespace Path
/-- Two texts of two rows, at one place. -/
theorem two_at {w : World} {A B : Option Addr} {n m k : Nat} {a b : List (List UInt8)} (ha : RdV w A n (sv a)) (hb : RdV w B m (sv b)) (h1 : k < a.length) (h2 : k < b.length) :
    ∃ p q, A = some p ∧ B = some q ∧ ∀ W, Below w.heap.size w W → ∀ r, (W.drewN r).cell? (p.add k) = some (.string (S a[k])) ∧ (W.drewN r).cell? (q.add k) = some (.string (S b[k])) := by
  have e1 : n = a.length := by rw [← ha.len, sv_length]
  have e2 : m = b.length := by rw [← hb.len, sv_length]
  obtain ⟨p, rfl, hc1⟩ := ha.cells (by omega)
  obtain ⟨q, rfl, hc2⟩ := hb.cells (by omega)
  refine ⟨p, q, rfl, rfl, fun W hW r => ?_⟩
  obtain ⟨_, x1, hd1⟩ := (ha.below (below_drewN hW r)).cells (by omega)
  obtain ⟨_, x2, hd2⟩ := (hb.below (below_drewN hW r)).cells (by omega)
  injection x1 with x1
  injection x2 with x2
  subst x1 x2
  exact ⟨hd1 k _ (sv_get h1), hd2 k _ (sv_get h2)⟩

theorem take_ne {a b : List (List UInt8)} {k : Nat} (h1 : k < a.length) (h2 : k < b.length) (hne : ¬ a[k] = b[k]) : ¬ a.take (k + 1) = b.take (k + 1) := by
  intro h
  have := congrArg (fun l => l[k]?) h
  simp only [List.getElem?_take, if_pos (Nat.lt_succ_self k), List.getElem?_eq_getElem h1, List.getElem?_eq_getElem h2] at this
  injection this with this
  exact hne this
theorem take_eq {a b : List (List UInt8)} {k : Nat} (h1 : k < a.length) (h2 : k < b.length) (h : a.take k = b.take k) (he : a[k] = b[k]) : a.take (k + 1) = b.take (k + 1) := by
  rw [← List.take_append_getElem h1, ← List.take_append_getElem h2, h, he]
end Path
end Go.Proofs.Ytephciglcikllaa
