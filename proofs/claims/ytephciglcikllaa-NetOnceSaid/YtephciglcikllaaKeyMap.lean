/- Maps with keys of whatever kind and whatever values, as functions. -/
import Derived.Test.YtephciglcikllaaSmallMap
import Derived.Maps.OwnSet
namespace Go.Proofs.Ytephciglcikllaa.Zab
open Go.RowKit Disk Go.ChangeMaps Go.MapKept Go.WideShapes
open Go.WideElems (rg)

/-- Keys of type k: the values kv x. -/
structure KeyT (α : Type) (k : TypeId) where
  kv : α → Value
  ok : α → Prop
  law : Go.Maps.Keyed Try.prog k
  lit : ∀ x, ok x → ∃ l, keyOf Try.prog k (kv x) = some l
  inj : ∀ x y, kv x = kv y → x = y
section
variable {α : Type} {k : TypeId}
/-- In w the map at block b holds f x at x; it has c entries at most. -/
structure KMap (T : KeyT α k) (w : World) (b : Nat) (f : α → Option Value) (c : Nat) (D : DataW Value) : Prop where
  own : w.ownsMap Try.prog k fV b c D
  at_ : ∀ x l, keyOf Try.prog k (T.kv x) = some l → D.atKey l .nil = match f x with | some v => .held v | none => .nil
  has : ∀ x l, keyOf Try.prog k (T.kv x) = some l → Maps.has D l = (f x).isSome
  keys : ∀ l, Maps.has D l = true → ∃ x, keyOf Try.prog k (T.kv x) = some l
variable {T : KeyT α k} {w w' : World} {b : Nat} {f : α → Option Value} {c : Nat} {D : DataW Value}
theorem KMap.lt (h : KMap T w b f c D) : b < w.heap.size := h.own.lt
theorem KMap.kept (h : KMap T w b f c D) (hb : w'.heap[b]? = w.heap[b]?) : KMap T w' b f c D := ⟨own_kept h.own hb, h.at_, h.has, h.keys⟩
theorem KMap.out {X : Nat → Prop} (h : KMap T w b f c D) (ho : Out X w w') (hx : ¬ X b) : KMap T w' b f c D := h.kept (ho.block b h.lt hx)
theorem KMap.below (h : KMap T w b f c D) (hb : Below w.heap.size w w') : KMap T w' b f c D := h.kept (hb.block b h.lt)
theorem KMap.mono (h : KMap T w b f c D) {c' : Nat} (hc : c ≤ c') : KMap T w b f c' D := ⟨h.own.mono hc, h.at_, h.has, h.keys⟩
theorem KMap.congr {g : α → Option Value} (h : KMap T w b f c D) (hg : f = g) : KMap T w b g c D := hg ▸ h
theorem KMap.new (T : KeyT α k) (w : World) : KMap T (w.alloc (.map #[] 0)) w.heap.size (fun _ => none) 0 (.map []) :=
  ⟨World.ownsMap_made w _ _ _, fun _ _ _ => rfl, fun _ _ _ => rfl, fun kl h => by simp [Maps.has] at h⟩
theorem KMap.isMap (h : KMap T w b f c D) : Maps.IsMap D := by
  obtain ⟨es, clock, _, _, _, hD⟩ := h.own
  exact ⟨_, hD⟩
/-- 'm[x]', and 'v, ok := m[x]'. -/
theorem KMap.look (h : KMap T w b f c D) {t e : TypeId} (ht : Try.prog.underlying t = some (.map k e)) {z : Value} (hz : (zeroValue e).run Try.prog w = .ok z w) (x : α) (hx : T.ok x) :
    (Instr.lookup t (.map (some b)) (T.kv x) false).run Try.prog w = .ok ((f x).getD z) w ∧ (Instr.lookup t (.map (some b)) (T.kv x) true).run Try.prog w = .ok (.tuple #[(f x).getD z, .bool (f x).isSome]) w := by
  obtain ⟨es, clock, hb, F, _, hD⟩ := h.own
  obtain ⟨l, hl⟩ := T.lit x hx
  have hat := h.at_ x l hl
  constructor
  · rcases Maps.fit_look false T.law ht hz hb F hl with ⟨hrun, _, hat2⟩ | ⟨e0, y, _, _, hrun, hRv, hat2, _⟩
    · have := hat2 .nil
      rw [← hD, hat] at this
      cases hf : f x with
      | none => exact hrun
      | some v => rw [hf] at this; exact (held_nil this.symm).elim
    · have := hat2 .nil
      rw [← hD, hat] at this
      have hy : y = (.held e0.val, []) := (Option.some.inj hRv).symm
      rw [hy] at this
      cases hf : f x with
      | none => rw [hf] at this; exact (held_nil this).elim
      | some v =>
        rw [hf] at this
        rw [held_inj this]
        exact hrun
  · rcases Maps.fit_look true T.law ht hz hb F hl with ⟨hrun, _, hat2⟩ | ⟨e0, y, _, _, hrun, hRv, hat2, _⟩
    · have := hat2 .nil
      rw [← hD, hat] at this
      cases hf : f x with
      | none => exact hrun
      | some v => rw [hf] at this; exact (held_nil this.symm).elim
    · have := hat2 .nil
      rw [← hD, hat] at this
      have hy : y = (.held e0.val, []) := (Option.some.inj hRv).symm
      rw [hy] at this
      cases hf : f x with
      | none => rw [hf] at this; exact (held_nil this).elim
      | some v =>
        rw [hf] at this
        rw [held_inj this]
        exact hrun
theorem KeyT.lit_ne {x y : α} {l m : Lit} (hx : keyOf Try.prog k (T.kv x) = some l) (hy : keyOf Try.prog k (T.kv y) = some m) (h : x ≠ y) : l ≠ m := fun e => h (T.inj _ _ (T.law.inj hx (e ▸ hy)))
def kput [DecidableEq α] (f : α → Option Value) (x : α) (v : Option Value) : α → Option Value := fun y => if y = x then v else f y
/-- 'm[x] = v'. -/
theorem KMap.put [DecidableEq α] (h : KMap T w b f c D) {t e : TypeId} (ht : Try.prog.underlying t = some (.map k e)) (x : α) (hx : T.ok x) (v : Value) (hc : c < 1000000) :
    ∃ w' D', (Instr.mapUpdate t (.map (some b)) (T.kv x) v).run Try.prog w = .ok () w' ∧ KMap T w' b (kput f x (some v)) (c + 1) D' ∧ Out (fun i => i = b) w w' := by
  obtain ⟨l, hl⟩ := T.lit x hx
  obtain ⟨w', hrun, ho, hg⟩ := h.own.update T.law ht (by unfold maxLen; omega) hl (val := v) (d := .held v) (ps := []) rfl
  have hm := h.isMap
  have hkl := T.law.key hl
  refine ⟨w', _, hrun, ⟨ho, fun y m hy => ?_, fun y m hy => ?_, fun m hm2 => ?_⟩, ⟨hg.os, hg.tape, hg.output, hg.size, fun i hi hib => hg.block i hi (fun e => hib (by injection e))⟩⟩
  · unfold kput
    by_cases hxy : y = x
    · subst hxy
      obtain rfl : m = l := Option.some.inj (hy.symm.trans hl)
      rw [if_pos rfl, Go.Maps.atKey_put_same hm hkl]
    · rw [if_neg hxy, Go.Maps.atKey_put_other (T.lit_ne hy hl hxy)]
      exact h.at_ y m hy
  · unfold kput
    by_cases hxy : y = x
    · subst hxy
      obtain rfl : m = l := Option.some.inj (hy.symm.trans hl)
      rw [if_pos rfl, Go.Maps.has_put_same hm hkl]
      rfl
    · rw [if_neg hxy, Go.Maps.has_put_other (T.lit_ne hy hl hxy)]
      exact h.has y m hy
  · by_cases hml : m = l
    · subst hml; exact ⟨x, hl⟩
    · rw [Go.Maps.has_put_other hml] at hm2
      exact h.keys m hm2
/-- 'delete(m, x)'. -/
theorem KMap.drop [DecidableEq α] (h : KMap T w b f c D) {t e : TypeId} (ht : Try.prog.underlying t = some (.map k e)) (x : α) (hx : T.ok x) (ty : TypeId) :
    ∃ w' D', (Builtin.delete_ #[t, k] ty #[.map (some b), T.kv x]).run Try.prog w = .ok (.tuple #[]) w' ∧ KMap T w' b (kput f x none) c D' ∧ Out (fun i => i = b) w w' := by
  obtain ⟨l, hl⟩ := T.lit x hx
  obtain ⟨es, clock, hb, F, hs, hD⟩ := h.own
  obtain ⟨es', hrun, F', hle, hdel, _⟩ := Maps.fit_drop (ty := ty) T.law ht hb F hl
  have hD2 : D.del l = .map ((es'.toList.map (rg Try.prog k fV)).foldr DataW.insert []) := by rw [hD, DataW.del_eq, hdel]
  refine ⟨_, D.del l, hrun, ⟨⟨es', clock, heap_setBlock_same hb _, F', Nat.le_trans hle hs, hD2⟩, fun y m hy => ?_, fun y m hy => ?_, fun m hm2 => ?_⟩, ⟨rfl, rfl, rfl, by simp [setBlock], fun i _ hi => heap_setBlock_other hb _ hi⟩⟩
  · unfold kput
    by_cases hxy : y = x
    · subst hxy
      obtain rfl : m = l := Option.some.inj (hy.symm.trans hl)
      rw [if_pos rfl, Go.Maps.atKey_del_same]
    · rw [if_neg hxy, Go.Maps.atKey_del_other (T.lit_ne hy hl hxy)]
      exact h.at_ y m hy
  · unfold kput
    by_cases hxy : y = x
    · subst hxy
      obtain rfl : m = l := Option.some.inj (hy.symm.trans hl)
      rw [if_pos rfl, Go.Maps.has_del_same]
      rfl
    · rw [if_neg hxy, Go.Maps.has_del_other (T.lit_ne hy hl hxy)]
      exact h.has y m hy
  · by_cases hml : m = l
    · subst hml; exact ⟨x, hl⟩
    · rw [Go.Maps.has_del_other hml] at hm2
      exact h.keys m hm2
end
end Go.Proofs.Ytephciglcikllaa.Zab
