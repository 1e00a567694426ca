/- Maps from whole numbers to whatever values, as functions. -/
import Derived.Test.YtephciglcikllaaDiskBase
import Derived.Maps.Own
import Derived.Maps.Keyed
import Derived.Maps.Views
import Derived.Maps.RangeWalk
namespace Go.Proofs.Ytephciglcikllaa.Zab
open Go.RowKit Disk

/-- An element as it is. -/
def fV (v : Value) : Option (DataW Value × List MemPlace) := some (.held v, [])
theorem ty_int : Try.prog.underlying 3 = some (.int .i64) := by kernel_rfl
theorem keyed_int : Go.Maps.Keyed Try.prog 3 := Go.Maps.int_keyed ty_int
theorem key_int (i : Nat) (hi : i < 9223372036854775808) : keyOf Try.prog 3 (.int .i64 (i : Int)) = some (.int .i64 (i : Int)) :=
  Go.Maps.keyOf_int_mk ty_int (by simp [Lit.wf, IntKind.min, IntKind.max, IntKind.signed, IntKind.bits]; omega)
/-- In w the map at block b holds f i at i; it has c entries. -/
structure IMap (w : World) (b : Nat) (f : Nat → Option Value) (c : Nat) (D : DataW Value) : Prop where
  own : w.ownsMap Try.prog 3 fV b c D
  size : Maps.size D = c
  at_ : ∀ i : Nat, D.atKey (.int .i64 (i : Int)) .nil = match f i with | some v => .held v | none => .nil
  has : ∀ i : Nat, Maps.has D (.int .i64 (i : Int)) = (f i).isSome
  keys : ∀ kl, Maps.has D kl = true → ∃ i : Nat, kl = .int .i64 (i : Int)
  tidy : Maps.Tidy D
theorem IMap.lt {w : World} {b : Nat} {f : Nat → Option Value} {c : Nat} {D : DataW Value} (h : IMap w b f c D) : b < w.heap.size := h.own.lt
theorem own_kept {w w' : World} {k : TypeId} {R : Value → Option (DataW Value × List MemPlace)} {b n : Nat} {D : DataW Value} (h : w.ownsMap Try.prog k R b n D) (hb : w'.heap[b]? = w.heap[b]?) : w'.ownsMap Try.prog k R b n D := by
  obtain ⟨es, clock, h1, h2⟩ := h
  exact ⟨es, clock, hb.trans h1, h2⟩
theorem IMap.kept {w w' : World} {b : Nat} {f : Nat → Option Value} {c : Nat} {D : DataW Value} (h : IMap w b f c D) (hb : w'.heap[b]? = w.heap[b]?) : IMap w' b f c D := ⟨own_kept h.own hb, h.size, h.at_, h.has, h.keys, h.tidy⟩
theorem IMap.out {w w' : World} {b : Nat} {f : Nat → Option Value} {c : Nat} {D : DataW Value} {X : Nat → Prop} (h : IMap w b f c D) (ho : Out X w w') (hx : ¬ X b) : IMap w' b f c D := h.kept (ho.block b h.lt hx)
theorem IMap.below {w w' : World} {b : Nat} {f : Nat → Option Value} {c : Nat} {D : DataW Value} (h : IMap w b f c D) (hb : Below w.heap.size w w') : IMap w' b f c D := h.kept (hb.block b h.lt)
theorem IMap.new (w : World) : IMap (w.alloc (.map #[] 0)) w.heap.size (fun _ => none) 0 (.map []) :=
  ⟨World.ownsMap_made w _ _ _, rfl, fun _ => rfl, fun _ => rfl, fun kl h => by simp [Maps.has] at h, by simp [Maps.Tidy]⟩
theorem held_inj {a b : Value} (h : (DataW.held a : DataW Value) = .held b) : a = b := DataW.held.inj h
theorem held_nil {a : Value} (h : (DataW.nil : DataW Value) = .held a) : False := by cases h
theorem IMap.look {w : World} {b : Nat} {f : Nat → Option Value} {c : Nat} {D : DataW Value} (h : IMap w b f c D) {t e : TypeId} (ht : Try.prog.underlying t = some (.map 3 e)) {z : Value} (hz : (zeroValue e).run Try.prog w = .ok z w) (i : Nat) (hi : i < 9223372036854775808) :
    (Instr.lookup t (.map (some b)) (.int .i64 (i : Int)) false).run Try.prog w = .ok ((f i).getD z) w ∧ (Instr.lookup t (.map (some b)) (.int .i64 (i : Int)) true).run Try.prog w = .ok (.tuple #[(f i).getD z, .bool (f i).isSome]) w := by
  obtain ⟨es, clock, hb, F, _, hD⟩ := h.own
  have hat := h.at_ i
  have hhas := h.has i
  constructor
  · rcases Maps.fit_look false keyed_int ht hz hb F (key_int i hi) with ⟨hrun, _, hat2⟩ | ⟨e0, y, _, _, hrun, hRv, hat2, _⟩
    · have := hat2 .nil
      rw [← hD, hat] at this
      cases hf : f i with
      | none => exact hrun
      | some v => rw [hf] at this; exact (held_nil this.symm).elim
    · have := hat2 .nil
      rw [← hD, hat] at this
      have hy : y = (.held e0.val, []) := (Option.some.inj hRv).symm
      rw [hy] at this
      cases hf : f i with
      | none => rw [hf] at this; exact (held_nil this).elim
      | some v =>
        rw [hf] at this
        rw [held_inj this]
        exact hrun
  · rcases Maps.fit_look true keyed_int ht hz hb F (key_int i hi) with ⟨hrun, _, hat2⟩ | ⟨e0, y, _, _, hrun, hRv, hat2, _⟩
    · have := hat2 .nil
      rw [← hD, hat] at this
      cases hf : f i with
      | none => exact hrun
      | some v => rw [hf] at this; exact (held_nil this.symm).elim
    · have := hat2 .nil
      rw [← hD, hat] at this
      have hy : y = (.held e0.val, []) := (Option.some.inj hRv).symm
      rw [hy] at this
      cases hf : f i with
      | none => rw [hf] at this; exact (held_nil this).elim
      | some v =>
        rw [hf] at this
        rw [held_inj this]
        exact hrun
def upd (f : Nat → Option Value) (i : Nat) (v : Value) : Nat → Option Value := fun j => if j = i then some v else f j
theorem lit_ne {i j : Nat} (h : j ≠ i) : (Lit.int .i64 (j : Int)) ≠ .int .i64 (i : Int) := fun e => by
  injection e with _ e
  omega
theorem put_imap {D : DataW Value} {f : Nat → Option Value} {i : Nat} {v : Value} (hD : Maps.IsMap D) (h1 : ∀ i : Nat, D.atKey (.int .i64 (i : Int)) .nil = match f i with | some v => .held v | none => .nil) :
    ∀ j : Nat, (D.put (.int .i64 (i : Int)) (.held v)).atKey (.int .i64 (j : Int)) .nil = match upd f i v j with | some v => .held v | none => .nil := fun j => by
  unfold upd
  by_cases hj : j = i
  · subst hj
    rw [if_pos rfl, Go.Maps.atKey_put_same hD (by simp [WideAt.IsKeyLit])]
  · rw [if_neg hj, Go.Maps.atKey_put_other (lit_ne hj)]
    exact h1 j
theorem put_has {D : DataW Value} {f : Nat → Option Value} {i : Nat} {v : Value} (hD : Maps.IsMap D) (h1 : ∀ i : Nat, Maps.has D (.int .i64 (i : Int)) = (f i).isSome) :
    ∀ j : Nat, Maps.has (D.put (.int .i64 (i : Int)) (.held v)) (.int .i64 (j : Int)) = (upd f i v j).isSome := fun j => by
  unfold upd
  by_cases hj : j = i
  · subst hj
    rw [if_pos rfl, Go.Maps.has_put_same hD (by simp [WideAt.IsKeyLit])]
    rfl
  · rw [if_neg hj, Go.Maps.has_put_other (lit_ne hj)]
    exact h1 j
theorem ismap_of {D : DataW Value} (h : Maps.Tidy D) : Maps.IsMap D := by
  obtain ⟨es, h, _⟩ := h
  exact ⟨es, h⟩
theorem own_tight {w : World} {b n : Nat} {D : DataW Value} (h : w.ownsMap Try.prog 3 fV b n D) : w.ownsMap Try.prog 3 fV b (Maps.size D) D := by
  obtain ⟨es, clock, h1, h2, h3, rfl⟩ := h
  refine ⟨es, clock, h1, h2, ?_, rfl⟩
  simp [Maps.size, length_sorted]
/-- 'm[i] = v'. -/
theorem IMap.put {w : World} {b : Nat} {f : Nat → Option Value} {c : Nat} {D : DataW Value} (h : IMap w b f c D) {t e : TypeId} (ht : Try.prog.underlying t = some (.map 3 e)) (i : Nat) (hi : i < 9223372036854775808) (v : Value) (hc : c < 1000000) :
    ∃ w' D', (Instr.mapUpdate t (.map (some b)) (.int .i64 (i : Int)) v).run Try.prog w = .ok () w' ∧ IMap w' b (upd f i v) (if (f i).isSome then c else c + 1) D' ∧ w.grownBy w' (some b) := by
  obtain ⟨w', hrun, ho, hg⟩ := h.own.update keyed_int ht (by unfold maxLen; omega) (key_int i hi) (val := v) (d := .held v) (ps := []) rfl
  have hsz := Go.Maps.size_put (k := .int .i64 (i : Int)) h.tidy (.held v)
  rw [h.has i, h.size] at hsz
  have ht2 : Maps.Tidy (D.put (.int .i64 (i : Int)) (.held v)) := by
    obtain ⟨es, e1, e2, _⟩ := ho.entries keyed_int
    exact ⟨es, e1, e2⟩
  refine ⟨w', _, hrun, ⟨?_, hsz, put_imap (ismap_of h.tidy) h.at_, put_has (ismap_of h.tidy) h.has, fun kl hk => ?_, ht2⟩, hg⟩
  · have := own_tight ho
    rwa [hsz] at this
  · by_cases hne : kl = .int .i64 (i : Int)
    · exact ⟨i, hne⟩
    · rw [Go.Maps.has_put_other hne] at hk
      exact h.keys kl hk
end Go.Proofs.Ytephciglcikllaa.Zab
