/- Lemmas, part 2: KeyMap, NetKey, PathPure, PathBase, PathTexts, NetMem -/
import Derived.Test.YtmjipeagbogpmaaBase1
import Derived.Maps.OwnSet
import Derived.DeepKeys4
import GoSem.Core.Utf8
import Derived.Test.YtmjipeagbogpmaaChecked
import Derived.KernelRfl
import Derived.Lib.Strings
import Derived.BigQuiet
namespace Go.Proofs.Ytmjipeagbogpmaa.Zab
open Go.RowKit Disk Go.ChangeMaps Go.MapKept Go.WideShapes
open Go.WideElems (rg)

structure KeyT (α : Type) (k : TypeId) where
  kv : α → Value
  ok : α → Prop
  law : Go.Maps.Keyed Try.prog k
  lit : ∀ x, ok x → ∃ l, keyOf Try.prog k (kv x) = some l
  inj : ∀ x y, kv x = kv y → x = y
section
variable {α : Type} {k : TypeId}
structure KMap (T : KeyT α k) (w : World) (b : Nat) (f : α → Option Value) (c : Nat) (D : DataW Value) : Prop where
  own : w.ownsMap Try.prog k fV b c D
  at_ : ∀ x l, keyOf Try.prog k (T.kv x) = some l → D.atKey l .nil = match f x with | some v => .held v | none => .nil
  has : ∀ x l, keyOf Try.prog k (T.kv x) = some l → Maps.has D l = (f x).isSome
  keys : ∀ l, Maps.has D l = true → ∃ x, keyOf Try.prog k (T.kv x) = some l
variable {T : KeyT α k} {w w' : World} {b : Nat} {f : α → Option Value} {c : Nat} {D : DataW Value}
theorem KMap.lt (h : KMap T w b f c D) : b < w.heap.size := h.own.lt
theorem KMap.kept (h : KMap T w b f c D) (hb : w'.heap[b]? = w.heap[b]?) : KMap T w' b f c D := ⟨own_kept h.own hb, h.at_, h.has, h.keys⟩
theorem KMap.out {X : Nat → Prop} (h : KMap T w b f c D) (ho : Out X w w') (hx : ¬ X b) : KMap T w' b f c D := h.kept (ho.block b h.lt hx)
theorem KMap.below (h : KMap T w b f c D) (hb : Below w.heap.size w w') : KMap T w' b f c D := h.kept (hb.block b h.lt)
theorem KMap.mono (h : KMap T w b f c D) {c' : Nat} (hc : c ≤ c') : KMap T w b f c' D := ⟨h.own.mono hc, h.at_, h.has, h.keys⟩
theorem KMap.congr {g : α → Option Value} (h : KMap T w b f c D) (hg : f = g) : KMap T w b g c D := hg ▸ h
theorem KMap.new (T : KeyT α k) (w : World) : KMap T (w.alloc (.map #[] 0)) w.heap.size (fun _ => none) 0 (.map []) :=
  ⟨World.ownsMap_made w _ _ _, fun _ _ _ => rfl, fun _ _ _ => rfl, fun kl h => by simp [Maps.has] at h⟩
theorem KMap.isMap (h : KMap T w b f c D) : Maps.IsMap D := by
  obtain ⟨es, clock, _, _, _, hD⟩ := h.own
  exact ⟨_, hD⟩
theorem KMap.look (h : KMap T w b f c D) {t e : TypeId} (ht : Try.prog.underlying t = some (.map k e)) {z : Value} (hz : (zeroValue e).run Try.prog w = .ok z w) (x : α) (hx : T.ok x) :
    (Instr.lookup t (.map (some b)) (T.kv x) false).run Try.prog w = .ok ((f x).getD z) w ∧ (Instr.lookup t (.map (some b)) (T.kv x) true).run Try.prog w = .ok (.tuple #[(f x).getD z, .bool (f x).isSome]) w := by
  obtain ⟨es, clock, hb, F, _, hD⟩ := h.own
  obtain ⟨l, hl⟩ := T.lit x hx
  have hat := h.at_ x l hl
  constructor
  · rcases Maps.fit_look false T.law ht hz hb F hl with ⟨hrun, _, hat2⟩ | ⟨e0, y, _, _, hrun, hRv, hat2, _⟩
    · have := hat2 .nil
      rw [← hD, hat] at this
      cases hf : f x with
      | none => exact hrun
      | some v => rw [hf] at this; exact (held_nil this.symm).elim
    · have := hat2 .nil
      rw [← hD, hat] at this
      have hy : y = (.held e0.val, []) := (Option.some.inj hRv).symm
      rw [hy] at this
      cases hf : f x with
      | none => rw [hf] at this; exact (held_nil this).elim
      | some v =>
        rw [hf] at this
        rw [held_inj this]
        exact hrun
  · rcases Maps.fit_look true T.law ht hz hb F hl with ⟨hrun, _, hat2⟩ | ⟨e0, y, _, _, hrun, hRv, hat2, _⟩
    · have := hat2 .nil
      rw [← hD, hat] at this
      cases hf : f x with
      | none => exact hrun
      | some v => rw [hf] at this; exact (held_nil this.symm).elim
    · have := hat2 .nil
      rw [← hD, hat] at this
      have hy : y = (.held e0.val, []) := (Option.some.inj hRv).symm
      rw [hy] at this
      cases hf : f x with
      | none => rw [hf] at this; exact (held_nil this).elim
      | some v =>
        rw [hf] at this
        rw [held_inj this]
        exact hrun
theorem KeyT.lit_ne {x y : α} {l m : Lit} (hx : keyOf Try.prog k (T.kv x) = some l) (hy : keyOf Try.prog k (T.kv y) = some m) (h : x ≠ y) : l ≠ m := fun e => h (T.inj _ _ (T.law.inj hx (e ▸ hy)))
def kput [DecidableEq α] (f : α → Option Value) (x : α) (v : Option Value) : α → Option Value := fun y => if y = x then v else f y
theorem KMap.put [DecidableEq α] (h : KMap T w b f c D) {t e : TypeId} (ht : Try.prog.underlying t = some (.map k e)) (x : α) (hx : T.ok x) (v : Value) (hc : c < 1000000) :
    ∃ w' D', (Instr.mapUpdate t (.map (some b)) (T.kv x) v).run Try.prog w = .ok () w' ∧ KMap T w' b (kput f x (some v)) (c + 1) D' ∧ Out (fun i => i = b) w w' := by
  obtain ⟨l, hl⟩ := T.lit x hx
  obtain ⟨w', hrun, ho, hg⟩ := h.own.update T.law ht (by unfold maxLen; omega) hl (val := v) (d := .held v) (ps := []) rfl
  have hm := h.isMap
  have hkl := T.law.key hl
  refine ⟨w', _, hrun, ⟨ho, fun y m hy => ?_, fun y m hy => ?_, fun m hm2 => ?_⟩, ⟨hg.os, hg.tape, hg.output, hg.size, fun i hi hib => hg.block i hi (fun e => hib (by injection e))⟩⟩
  · unfold kput
    by_cases hxy : y = x
    · subst hxy
      obtain rfl : m = l := Option.some.inj (hy.symm.trans hl)
      rw [if_pos rfl, Go.Maps.atKey_put_same hm hkl]
    · rw [if_neg hxy, Go.Maps.atKey_put_other (T.lit_ne hy hl hxy)]
      exact h.at_ y m hy
  · unfold kput
    by_cases hxy : y = x
    · subst hxy
      obtain rfl : m = l := Option.some.inj (hy.symm.trans hl)
      rw [if_pos rfl, Go.Maps.has_put_same hm hkl]
      rfl
    · rw [if_neg hxy, Go.Maps.has_put_other (T.lit_ne hy hl hxy)]
      exact h.has y m hy
  · by_cases hml : m = l
    · subst hml; exact ⟨x, hl⟩
    · rw [Go.Maps.has_put_other hml] at hm2
      exact h.keys m hm2
theorem KMap.drop [DecidableEq α] (h : KMap T w b f c D) {t e : TypeId} (ht : Try.prog.underlying t = some (.map k e)) (x : α) (hx : T.ok x) (ty : TypeId) :
    ∃ w' D', (Builtin.delete_ #[t, k] ty #[.map (some b), T.kv x]).run Try.prog w = .ok (.tuple #[]) w' ∧ KMap T w' b (kput f x none) c D' ∧ Out (fun i => i = b) w w' := by
  obtain ⟨l, hl⟩ := T.lit x hx
  obtain ⟨es, clock, hb, F, hs, hD⟩ := h.own
  obtain ⟨es', hrun, F', hle, hdel, _⟩ := Maps.fit_drop (ty := ty) T.law ht hb F hl
  have hD2 : D.del l = .map ((es'.toList.map (rg Try.prog k fV)).foldr DataW.insert []) := by rw [hD, DataW.del_eq, hdel]
  refine ⟨_, D.del l, hrun, ⟨⟨es', clock, heap_setBlock_same hb _, F', Nat.le_trans hle hs, hD2⟩, fun y m hy => ?_, fun y m hy => ?_, fun m hm2 => ?_⟩, ⟨rfl, rfl, rfl, by simp [setBlock], fun i _ hi => heap_setBlock_other hb _ hi⟩⟩
  · unfold kput
    by_cases hxy : y = x
    · subst hxy
      obtain rfl : m = l := Option.some.inj (hy.symm.trans hl)
      rw [if_pos rfl, Go.Maps.atKey_del_same]
    · rw [if_neg hxy, Go.Maps.atKey_del_other (T.lit_ne hy hl hxy)]
      exact h.at_ y m hy
  · unfold kput
    by_cases hxy : y = x
    · subst hxy
      obtain rfl : m = l := Option.some.inj (hy.symm.trans hl)
      rw [if_pos rfl, Go.Maps.has_del_same]
      rfl
    · rw [if_neg hxy, Go.Maps.has_del_other (T.lit_ne hy hl hxy)]
      exact h.has y m hy
  · by_cases hml : m = l
    · subst hml; exact ⟨x, hl⟩
    · rw [Go.Maps.has_del_other hml] at hm2
      exact h.keys m hm2
end
end Go.Proofs.Ytmjipeagbogpmaa.Zab

namespace Go.Proofs.Ytmjipeagbogpmaa.Net
open Go.RowKit Disk Zab

def adC (a : Ad) : List Value := [.int .i64 a.g, .int .i64 a.n]
def adV (a : Ad) : Value := .agg #[.int .i64 a.g, .int .i64 a.n]
def ltA (l : Lt) (v : Value) : Array Value := #[.int .i64 l.fr.g, .int .i64 l.fr.n, .int .i64 l.to.g, .int .i64 l.to.n, v]
def ltV (l : Lt) (v : Value) : Value := .agg (ltA l v)
def lkV (x : Ad × Ad) : Value := .agg #[.int .i64 x.1.g, .int .i64 x.1.n, .int .i64 x.2.g, .int .i64 x.2.n]
theorem under_addr : ∃ f0 f1 : Field, Try.prog.underlying 34 = some (.struct #[f0, f1]) ∧ f0.name ≠ "_" ∧ f1.name ≠ "_" ∧ f0.type = 3 ∧ f1.type = 3 ∧ f0.offset = 0 ∧ f1.offset = 1 := ⟨_, _, Try.underlying34, by decide, by decide, rfl, rfl, rfl, rfl⟩
theorem under_link : Try.prog.underlying 71 = some (.array 2 34) := by kernel_rfl
theorem cells_addr : Try.prog.cellsOf 34 = 2 := by kernel_rfl
theorem cells_int : Try.prog.cellsOf 3 = 1 := by kernel_rfl
theorem cells_link : Try.prog.cellsOf 71 = 4 := by kernel_rfl
theorem lits_int (d : Nat) {n : Int} (h : -9223372036854775808 ≤ n ∧ n ≤ 9223372036854775807) : Try.prog.keyLits (d + 1) 3 [.int .i64 n] = some [.int .i64 n] := by
  unfold Program.keyLits
  rw [ty_int]
  have : (Lit.int .i64 n).wf = true := by simp [Lit.wf, IntKind.min, IntKind.max, IntKind.signed, IntKind.bits]; omega
  simp [this]
theorem lits_addr (d : Nat) {a : Ad} (h : a.Wf) : Try.prog.keyLits (d + 2) 34 (adC a) = some [.int .i64 a.g, .int .i64 a.n] := by
  obtain ⟨f0, f1, hu, n0, n1, t0, t1, o0, o1⟩ := under_addr
  unfold Program.keyLits
  rw [hu]
  simp [cells_addr, adC, n0, n1, t0, t1, o0, o1, cells_int, lits_int d h.1, lits_int d h.2]
theorem lits_link (d : Nat) {a b : Ad} (ha : a.Wf) (hb : b.Wf) : Try.prog.keyLits (d + 3) 71 (adC a ++ adC b) = some [.int .i64 a.g, .int .i64 a.n, .int .i64 b.g, .int .i64 b.n] := by
  unfold Program.keyLits
  rw [under_link]
  have h1 := lits_addr d ha
  have h2 := lits_addr d hb
  unfold adC at h1 h2
  simp [cells_addr, cells_link, adC, h1, h2, List.range_succ]
theorem key_link {a b : Ad} (ha : a.Wf) (hb : b.Wf) : keyOf Try.prog 71 (lkV (a, b)) = some (.string (keyBytes [.int .i64 a.g, .int .i64 a.n, .int .i64 b.g, .int .i64 b.n])) := by
  unfold keyOf
  rw [under_link]
  have h1 : Try.prog.keyType 71 = true := by kernel_rfl
  have h2 : (lkV (a, b)).formed Try.prog 71 = true := by kernel_rfl
  have h3 : Try.prog.types.size + 1 = (Try.prog.types.size - 2) + 3 := by kernel_rfl
  have h4 := lits_link (Try.prog.types.size - 2) ha hb
  simp only [h1, h2, Bool.and_self, if_true]
  rw [h3]
  have h5 : (lkV (a, b)).cells.toList = adC a ++ adC b := rfl
  rw [h5, h4]
  rfl
def AW (x : Ad × Ad) : Prop := x.1.Wf ∧ x.2.Wf
theorem lkV_inj (x y : Ad × Ad) (h : lkV x = lkV y) : x = y := by
  obtain ⟨⟨a, b⟩, ⟨c, d⟩⟩ := x
  obtain ⟨⟨a', b'⟩, ⟨c', d'⟩⟩ := y
  unfold lkV at h
  simp at h
  obtain ⟨rfl, rfl, rfl, rfl⟩ := h
  rfl
def linkT : KeyT (Ad × Ad) 71 := ⟨lkV, AW, Go.Maps.Keyed.of_law (deep_law_laid (by kernel_rfl) (m := 3) (by omega) (of_decide_eq_true (by kernel_rfl)) (by kernel_rfl) (by kernel_rfl)), fun x hx => ⟨_, key_link hx.1 hx.2⟩, lkV_inj⟩
theorem linkOf_wf {a b : Ad} (ha : a.Wf) (hb : b.Wf) : AW (linkOf a b) := by
  unfold linkOf AW
  split
  · exact ⟨hb, ha⟩
  · exact ⟨ha, hb⟩
def cutV (cut : Ad × Ad → Bool) : Ad × Ad → Option Value := fun x => if cut x = true then some (.bool true) else none
theorem cutV_put (cut : Ad × Ad → Bool) (x : Ad × Ad) : kput (cutV cut) x (some (.bool true)) = cutV fun l => if l = x then true else cut l := by
  funext y
  unfold kput cutV
  by_cases h : y = x <;> simp [h]
theorem cutV_drop (cut : Ad × Ad → Bool) (x : Ad × Ad) : kput (cutV cut) x none = cutV fun l => if l = x then false else cut l := by
  funext y
  unfold kput cutV
  by_cases h : y = x <;> simp [h]
theorem cutV_get (cut : Ad × Ad → Bool) (x : Ad × Ad) : (cutV cut x).getD (.bool false) = .bool (cut x) := by
  unfold cutV
  cases cut x <;> simp
end Go.Proofs.Ytmjipeagbogpmaa.Net

namespace Go.Proofs.Ytmjipeagbogpmaa.Path

/-! ### The rune at the head of a list -/
def at0 (l : List UInt8) (k : Nat) : Nat := (l.getD k 0).toNat
def cont (l : List UInt8) (k : Nat) : Bool := decide (k < l.length) && at0 l k / 64 == 2
def dec (l : List UInt8) : Nat × Nat :=
  if at0 l 0 < 0x80 then (at0 l 0, 1)
  else if at0 l 0 / 32 == 6 && cont l 1 then
    if (at0 l 0 % 32) * 64 + at0 l 1 % 64 ≥ 0x80 then ((at0 l 0 % 32) * 64 + at0 l 1 % 64, 2) else (0xFFFD, 1)
  else if at0 l 0 / 16 == 14 && cont l 1 && cont l 2 then
    if (at0 l 0 % 16) * 4096 + (at0 l 1 % 64) * 64 + at0 l 2 % 64 ≥ 0x800 && Utf8.valid ((at0 l 0 % 16) * 4096 + (at0 l 1 % 64) * 64 + at0 l 2 % 64 : Nat) then ((at0 l 0 % 16) * 4096 + (at0 l 1 % 64) * 64 + at0 l 2 % 64, 3) else (0xFFFD, 1)
  else if at0 l 0 / 8 == 30 && cont l 1 && cont l 2 && cont l 3 then
    if (at0 l 0 % 8) * 262144 + (at0 l 1 % 64) * 4096 + (at0 l 2 % 64) * 64 + at0 l 3 % 64 ≥ 0x10000 && Utf8.valid ((at0 l 0 % 8) * 262144 + (at0 l 1 % 64) * 4096 + (at0 l 2 % 64) * 64 + at0 l 3 % 64 : Nat) then ((at0 l 0 % 8) * 262144 + (at0 l 1 % 64) * 4096 + (at0 l 2 % 64) * 64 + at0 l 3 % 64, 4) else (0xFFFD, 1)
  else (0xFFFD, 1)

inductive Head (l : List UInt8) : Prop
  | bad (h : dec l = (0xFFFD, 1))
  | one (h : dec l = (at0 l 0, 1)) (h0 : at0 l 0 < 128)
  | two (h : (dec l).2 = 2) (h0 : at0 l 0 / 32 = 6) (h1 : cont l 1 = true)
  | three (h : (dec l).2 = 3) (h0 : at0 l 0 / 16 = 14) (h1 : cont l 1 = true) (h2 : cont l 2 = true)
  | four (h : (dec l).2 = 4) (h0 : at0 l 0 / 8 = 30) (h1 : cont l 1 = true) (h2 : cont l 2 = true) (h3 : cont l 3 = true)

theorem head (l : List UInt8) : Head l := by
  by_cases a1 : at0 l 0 < 0x80
  · exact .one (by unfold dec; rw [if_pos a1]) a1
  · by_cases a2 : (at0 l 0 / 32 == 6 && cont l 1) = true
    · by_cases b : (at0 l 0 % 32) * 64 + at0 l 1 % 64 ≥ 0x80
      · simp at a2
        exact .two (by unfold dec; rw [if_neg a1, if_pos (by simpa using a2), if_pos b]) a2.1 a2.2
      · exact .bad (by unfold dec; rw [if_neg a1, if_pos a2, if_neg b])
    · by_cases a3 : (at0 l 0 / 16 == 14 && cont l 1 && cont l 2) = true
      · have a3' := a3
        simp at a3
        rcases Bool.eq_false_or_eq_true (decide ((at0 l 0 % 16) * 4096 + (at0 l 1 % 64) * 64 + at0 l 2 % 64 ≥ 0x800) && Utf8.valid ((at0 l 0 % 16) * 4096 + (at0 l 1 % 64) * 64 + at0 l 2 % 64 : Nat)) with b | b
        · exact .three (by unfold dec; rw [if_neg a1, if_neg a2, if_pos a3', if_pos b]) a3.1.1 a3.1.2 a3.2
        · exact .bad (by unfold dec; rw [if_neg a1, if_neg a2, if_pos a3', if_neg (by rw [b]; exact Bool.false_ne_true)])
      · by_cases a4 : (at0 l 0 / 8 == 30 && cont l 1 && cont l 2 && cont l 3) = true
        · have a4' := a4
          simp at a4
          rcases Bool.eq_false_or_eq_true (decide ((at0 l 0 % 8) * 262144 + (at0 l 1 % 64) * 4096 + (at0 l 2 % 64) * 64 + at0 l 3 % 64 ≥ 0x10000) && Utf8.valid ((at0 l 0 % 8) * 262144 + (at0 l 1 % 64) * 4096 + (at0 l 2 % 64) * 64 + at0 l 3 % 64 : Nat)) with b | b
          · exact .four (by unfold dec; rw [if_neg a1, if_neg a2, if_neg a3, if_pos a4', if_pos b]) a4.1.1.1 a4.1.1.2 a4.1.2 a4.2
          · exact .bad (by unfold dec; rw [if_neg a1, if_neg a2, if_neg a3, if_pos a4', if_neg (by rw [b]; exact Bool.false_ne_true)])
        · exact .bad (by unfold dec; rw [if_neg a1, if_neg a2, if_neg a3, if_neg a4])

/-! ### Names -/
def okR (r : Nat) : Bool := r != 47 && decide (32 ≤ r) && r != 127 && r != 0xFFFD
def runesF : Nat → List UInt8 → Bool
  | 0, l => l.isEmpty
  | f + 1, l => l.isEmpty || (okR (dec l).1 && runesF f (l.drop (dec l).2))
def runes (l : List UInt8) : Bool := runesF l.length l

def name (l : List UInt8) : Bool := !l.isEmpty && l != [46] && l != [46, 46] && runes l

/-! ### Paths -/
end Go.Proofs.Ytmjipeagbogpmaa.Path

namespace Go.Proofs.Ytmjipeagbogpmaa.Path
open Go.RowKit

theorem S_list (l : List UInt8) : (S l).toList = l := ByteArray.toList_mk l
theorem ty_string : Try.prog.underlying 9 = some .string := by kernel_rfl
theorem below_drewN {B : Nat} {w w' : World} (h : Below B w w') (m : Nat) : Below B w (w'.drewN m) := ⟨h.os, h.tape, h.output, h.size, h.block⟩
end Go.Proofs.Ytmjipeagbogpmaa.Path

namespace Go.Proofs.Ytmjipeagbogpmaa
open Go.RowKit

structure RdV (w : World) (A : Option Addr) (n : Nat) (vs : List Value) : Prop where
  len : vs.length = n
  cells : 0 < n → ∃ ad, A = some ad ∧ ∀ j v, vs[j]? = some v → w.cell? (ad.add j) = some v

theorem RdV.nil_ (w : World) (A : Option Addr) : RdV w A 0 [] := ⟨rfl, fun h => absurd h (by omega)⟩
theorem RdV.keep {w w' : World} {A : Option Addr} {n : Nat} {vs : List Value} (h : RdV w A n vs) (hk : ∀ (p : Addr) (v : Value), w.cell? p = some v → w'.cell? p = some v) : RdV w' A n vs :=
  ⟨h.len, fun hn => by
    obtain ⟨ad, e, hc⟩ := h.cells hn
    exact ⟨ad, e, fun j b hb => hk _ _ (hc j b hb)⟩⟩
theorem RdV.below {w w' : World} {A : Option Addr} {n : Nat} {vs : List Value} (h : RdV w A n vs) (hb : Below w.heap.size w w') : RdV w' A n vs :=
  h.keep fun p _ hp => (hb.cell (World.block_lt_of_cell? w p hp)).trans hp
theorem RdV.take {w : World} {A : Option Addr} {n : Nat} {vs : List Value} (h : RdV w A n vs) {k : Nat} (hk : k ≤ n) : RdV w A k (vs.take k) :=
  ⟨by rw [List.length_take, h.len]; omega, fun h0 => by
    obtain ⟨ad, e, hc⟩ := h.cells (by omega)
    refine ⟨ad, e, fun j b hb => hc j b ?_⟩
    rw [List.getElem?_take] at hb
    split at hb
    · exact hb
    · cases hb⟩
theorem RdV.of_own {w : World} {base : Nat} {e : TypeId} {A : Option Addr} {n m c : Nat} {vs : List Value} (h : w.ownsRow base e 1 (.slice A n c) m vs) : RdV w A n vs ∧ n = m := by
  have hl := h.1
  rw [Nat.mul_one] at hl
  rcases h.2 with ⟨e1, rfl⟩ | ⟨g, cap, cur, e1, _, hh, hnc, _, hs, ht⟩
  · injection e1 with e1 e2 e3
    subst e2
    exact ⟨⟨hl, fun h0 => absurd h0 (by omega)⟩, rfl⟩
  · injection e1 with e1 e2 e3
    subst e1 e2 e3
    refine ⟨⟨hl, fun _ => ⟨_, rfl, fun j b hb => ?_⟩⟩, rfl⟩
    have hj : j < n := by
      have := (List.getElem?_eq_some_iff.1 hb).1
      omega
    have : w.cell? ⟨g, 0 + j, none⟩ = some b := by
      simp only [World.cell?, hh]
      rw [Nat.mul_one] at ht
      have h2 : (cur.toList.take n)[j]? = some b := by rw [ht, hb]
      rw [List.getElem?_take, if_pos hj] at h2
      simpa using h2
    unfold Addr.add
    by_cases hj0 : j = 0
    · subst hj0; simpa using this
    · simpa [hj0] using this
theorem own_slice {w : World} {base : Nat} {e : TypeId} {v : Value} {n : Nat} {xs : List Value} (h : w.ownsRow base e 1 v n xs) : ∃ A c, v = .slice A n c := by
  rcases h.2 with ⟨h0, h1⟩ | ⟨g, cap, cur, h0, _⟩
  · exact ⟨none, 0, by rw [h0, h1]⟩
  · exact ⟨_, _, h0⟩
theorem run_append_RdV {P : Program} {w : World} {t ty e : TypeId} {i : TypeInfo} {z : Value} {bytes : Nat} (ht : P.underlying t = some (.slice e)) (hi : P.info? e = some i) (hz : i.zero = some z) (hs : i.size = 1) (hb : i.bytes = bytes) (hzs : z.cells.size = 1)
    {base : Nat} {v : Value} {n : Nat} {xs : List Value} (hown : w.ownsRow base e 1 v n xs) {A : Option Addr} {m : Nat} {vs : List Value} (h : RdV w A m vs) (h1 : ∀ u ∈ vs, u.oneCell' = true) (c : Nat) (h63 : n + m ≤ maxLen) (hm : (n + m) * bytes ≤ 140737488355328) (hbase : base ≤ w.heap.size) :
    ∃ v' w', (Builtin.append_ #[t, t] ty #[v, .slice A m c]).run P w = .ok v' w' ∧ w'.ownsRow base e 1 v' (n + m) (xs ++ vs) ∧ w.grownBy w' v.ownBlock := by
  have hl := h.len
  cases A with
  | some ad =>
    have hcells : ∀ j u, vs[j]? = some u → w.cell? (ad.add j) = some u := by
      intro j u hu
      have h0 : 0 < m := by
        have := (List.getElem?_eq_some_iff.1 hu).1
        omega
      obtain ⟨ad', e', hc⟩ := h.cells h0
      injection e' with e'
      subst e'
      exact hc j u hu
    obtain ⟨v', w', h1, h2, h3, _⟩ := run_append_own (P := P) w base t ty e i z 1 bytes ht hi hz hs hb hzs (by decide) v n xs hown ad m c vs (by simp [hl]) hcells h1 h63 hm hbase
    exact ⟨v', w', h1, h2, h3⟩
  | none =>
    have hm0 : m = 0 := by
      rcases Nat.eq_zero_or_pos m with h0 | h0
      · exact h0
      · obtain ⟨_, e', _⟩ := h.cells h0
        cases e'
    subst hm0
    have hb0 : vs = [] := List.eq_nil_of_length_eq_zero hl
    subst hb0
    refine ⟨v, w, ?_, by simpa using hown, ⟨rfl, rfl, rfl, Nat.le_refl _, fun _ _ _ => rfl⟩⟩
    rcases hown.2 with ⟨rfl, rfl⟩ | ⟨g, cap, cur, rfl, _, _, hnc, _⟩
    · simp [Builtin.append_, run_underlying ht, sizeOf, typeInfo, hi, Builtin.lenOf, Builtin.firstCells]
    · simp [Builtin.append_, run_underlying ht, sizeOf, typeInfo, hi, Builtin.lenOf, Builtin.firstCells, hnc, storeCells]

theorem wpList_append_RdV {P : Program} {w : World} {ops : Array Oper} {rest : List Oper} {o : Oper} {a : Act} {Q : Exit → Act → World → Prop} (hgd : o.guard = none) (s x : Operand) (t : TypeId)
    (ho : o.op = .call { callee := .builtin .append, args := #[s, x], argTypes := #[t, t] }) {e : TypeId} {i : TypeInfo} {z : Value} {bytes : Nat} (ht : P.underlying t = some (.slice e)) (hi : P.info? e = some i) (hz : i.zero = some z) (hsz : i.size = 1) (hb : i.bytes = bytes) (hzs : z.cells.size = 1)
    {base : Nat} {v : Value} {n : Nat} {xs : List Value} (hs : a.eval s = v) (hown : w.ownsRow base e 1 v n xs) {A : Option Addr} {m c : Nat} {vs : List Value} (hx : a.eval x = .slice A m c) (h : RdV w A m vs) (h1 : ∀ u ∈ vs, u.oneCell' = true) (h63 : n + m ≤ maxLen) (hm : (n + m) * bytes ≤ 140737488355328) (hbase : base ≤ w.heap.size)
    (hK : ∀ v' w', w'.ownsRow base e 1 v' (n + m) (xs ++ vs) → w.grownBy w' v.ownBlock → wpList P ops Q rest (a.put o.dst v') w') : wpList P ops Q (o :: rest) a w := by
  obtain ⟨v', w', h1, h2, h3⟩ := run_append_RdV (ty := o.type) ht hi hz hsz hb hzs hown h h1 c h63 hm hbase
  refine wpList_plain hgd fun K hK' => ?_
  unfold Oper.wp execOp
  simp only [ho, resolve, invoke, builtin, Sem.run_bind, Sem.run_pure, Result.andThen_ok, List.map_toArray, List.map_cons, List.map_nil, hs, hx, h1]
  exact hK' _ _ (hK v' w' h2 h3)

theorem infos {P : Program} {t : TypeId} {z : Value} {a b : Nat} (h : (P.info? t).map (fun i => (i.zero, i.size, i.bytes)) = some (some z, a, b)) : ∃ i, P.info? t = some i ∧ i.zero = some z ∧ i.size = a ∧ i.bytes = b := by
  cases hi : P.info? t with
  | none => rw [hi] at h; cases h
  | some i =>
    rw [hi] at h
    simp at h
    exact ⟨i, rfl, h⟩
namespace Path
end Path
end Go.Proofs.Ytmjipeagbogpmaa

namespace Go.Proofs.Ytmjipeagbogpmaa.Net
open Go.RowKit Disk Zab

structure RowE (w : World) (e : TypeId) (A : Option Addr) (n c : Nat) (ps : List Value) : Prop where
  len : ps.length = n
  form : (A = none ∧ n = 0 ∧ c = 0) ∨ ∃ g cur, A = some ⟨g, 0, none⟩ ∧ w.heap[g]? = some (.cells cur e (0, 0)) ∧ n ≤ c ∧ c ≤ cur.size ∧ cur.toList.take n = ps
theorem RowE.nil_ (w : World) (e : TypeId) : RowE w e none 0 0 [] := ⟨rfl, .inl ⟨rfl, rfl, rfl⟩⟩
theorem RowE.kept {w w' : World} {e : TypeId} {A : Option Addr} {n c : Nat} {ps : List Value} (h : RowE w e A n c ps) (hb : ∀ a, A = some a → w'.heap[a.block]? = w.heap[a.block]?) : RowE w' e A n c ps := by
  refine ⟨h.len, h.form.imp id ?_⟩
  rintro ⟨g, cur, rfl, h1, h2⟩
  exact ⟨g, cur, rfl, (hb _ rfl).trans h1, h2⟩
theorem RowE.lt {w : World} {e : TypeId} {A : Option Addr} {n c : Nat} {ps : List Value} (h : RowE w e A n c ps) : ∀ a, A = some a → a.block < w.heap.size := fun a ha => by
  rcases h.form with ⟨q, _⟩ | ⟨g, cur, rfl, h1, _⟩
  · rw [q] at ha; cases ha
  · injection ha with ha
    subst ha
    exact (Array.getElem?_eq_some_iff.1 h1).1
theorem RowE.le {w : World} {e : TypeId} {A : Option Addr} {n c : Nat} {ps : List Value} (h : RowE w e A n c ps) : n ≤ c := by
  rcases h.form with ⟨_, rfl, rfl⟩ | ⟨_, _, _, _, h, _⟩ <;> omega
theorem plus_add (g i : Nat) : ((⟨g, 0, none⟩ : Addr).add i) = ⟨g, i, none⟩ := by unfold Addr.add; split <;> simp_all
theorem RowE.cell {w : World} {e : TypeId} {A : Option Addr} {n c : Nat} {ps : List Value} (h : RowE w e A n c ps) {i : Nat} {v : Value} (hi : ps[i]? = some v) : ∃ g, A = some ⟨g, 0, none⟩ ∧ w.cell? ⟨g, i, none⟩ = some v := by
  have hl := h.len
  have hil := (List.getElem?_eq_some_iff.1 hi).1
  rcases h.form with ⟨_, q, _⟩ | ⟨g, cur, rfl, h1, _, _, h4⟩
  · omega
  · refine ⟨g, rfl, ?_⟩
    rw [← h4, List.getElem?_take, if_pos (by omega)] at hi
    simp only [World.cell?, h1]
    simpa using hi
theorem RowE.take {w : World} {e : TypeId} {A : Option Addr} {n c : Nat} {ps : List Value} (h : RowE w e A n c ps) {k : Nat} (hk : k ≤ n) : RowE w e A k k (ps.take k) := by
  have hl := h.len
  refine ⟨by rw [List.length_take]; omega, ?_⟩
  rcases h.form with ⟨h1, h2, h3⟩ | ⟨g, cur, h1, h2, h3, h4, h5⟩
  · exact .inl ⟨h1, by omega, by omega⟩
  · exact .inr ⟨g, cur, h1, h2, Nat.le_refl _, by omega, by rw [← h5, List.take_take, Nat.min_eq_left hk]⟩
theorem RowE.of_own {w : World} {base : Nat} {e : TypeId} {A : Option Addr} {n m c : Nat} {ps : List Value} (h : w.ownsRow base e 1 (.slice A n c) m ps) : RowE w e A n c ps := by
  have hl := h.1
  rcases h.2 with ⟨e1, rfl⟩ | ⟨g, cap, cur, e1, _, hh, hnc, _, hs, ht⟩
  · injection e1 with e1 e2 e3
    subst e1 e2 e3
    exact ⟨by simpa using hl, .inl ⟨rfl, rfl, rfl⟩⟩
  · injection e1 with e1 e2 e3
    subst e1 e2 e3
    rw [Nat.mul_one] at ht hs hl
    exact ⟨hl, .inr ⟨g, cur, rfl, hh, hnc, by omega, ht⟩⟩

def P1 (p : Nat) : Value := .pointer (some ⟨p, 0, none⟩)
def LtAt (w : World) (F : Nat → Prop) (p : Nat) (l : Lt) : Prop := ∃ B m c, Bk w p 37 (ltA l (.slice B m c)) ∧ m ≤ c ∧ Rd w B m l.bs ∧ ∀ a, B = some a → 1 ≤ m → F a.block
theorem rd_out {w W : World} {Z : Nat → Prop} {A : Option Addr} {n : Nat} {vs : List UInt8} (h : Rd w A n vs) (ho : Out Z w W) (hz : ∀ a, A = some a → 1 ≤ n → ¬ Z a.block) : Rd W A n vs :=
  ⟨h.len, fun h0 => by
    obtain ⟨ad, e, hc⟩ := h.cells h0
    exact ⟨ad, e, fun j v hv => (ho.cell (World.block_lt_of_cell? w _ (hc j v hv)) (by rw [addr_add_block]; exact hz ad e h0)).trans (hc j v hv)⟩⟩
theorem rdv_out {w W : World} {Z : Nat → Prop} {A : Option Addr} {n : Nat} {vs : List Value} (h : RdV w A n vs) (ho : Out Z w W) (hz : ∀ a, A = some a → 1 ≤ n → ¬ Z a.block) : RdV W A n vs :=
  ⟨h.len, fun h0 => by
    obtain ⟨ad, e, hc⟩ := h.cells h0
    exact ⟨ad, e, fun j v hv => (ho.cell (World.block_lt_of_cell? w _ (hc j v hv)) (by rw [addr_add_block]; exact hz ad e h0)).trans (hc j v hv)⟩⟩
theorem LtAt.out {w W : World} {F X : Nat → Prop} {p : Nat} {l : Lt} (h : LtAt w F p l) (ho : Out X w W) (hp : ¬ X p) (hf : ∀ b, F b → ¬ X b) : LtAt W F p l := by
  obtain ⟨B, m, c, h1, h2, h3, h4⟩ := h
  exact ⟨B, m, c, h1.kept (ho.block p h1.lt hp), h2, rd_out h3 ho fun a ha h0 => hf _ (h4 a ha h0), h4⟩
theorem LtAt.mono {w : World} {F G : Nat → Prop} {p : Nat} {l : Lt} (h : LtAt w F p l) (hf : ∀ b, F b → G b) : LtAt w G p l := by
  obtain ⟨B, m, c, h1, h2, h3, h4⟩ := h
  exact ⟨B, m, c, h1, h2, h3, fun a ha h0 => hf _ (h4 a ha h0)⟩
def iv (s : List Int) : List Value := s.map (.int .i64)
structure NtM (w : World) (O F : Nat → Prop) (gz : Nat) (As : Option Addr) (cs : Nat) (Ar : Option Addr) (cr gm : Nat) (D : DataW Value) (ps : List Nat) (z : Nt) (N : Nat) : Prop where
  bk : Bk w gz 60 #[.slice As z.sizes.length cs, .slice Ar z.row.length cr, .map (some gm)]
  fo : ∀ b, F b → O b ∧ b ≠ gz ∧ b ≠ gm ∧ ∀ a, Ar = some a → b ≠ a.block
  sz : RdV w As z.sizes.length (iv z.sizes)
  sf : ∀ a, As = some a → 1 ≤ z.sizes.length → F a.block
  row : RowE w 68 Ar z.row.length cr (ps.map P1)
  ro : ∀ a, Ar = some a → O a.block ∧ a.block ≠ gz ∧ a.block ≠ gm
  each : ∀ (i : Nat) p l, ps[i]? = some p → z.row[i]? = some l → F p ∧ LtAt w F p l
  go : O gz ∧ O gm ∧ gm ≠ gz
  map : KMap linkT w gm (cutV z.cut) N D
theorem NtM.out {w W : World} {O F X : Nat → Prop} {gz : Nat} {As : Option Addr} {cs : Nat} {Ar : Option Addr} {cr gm : Nat} {D : DataW Value} {ps : List Nat} {z : Nt} {N : Nat} (h : NtM w O F gz As cs Ar cr gm D ps z N) (ho : Out X w W) (hx : ∀ b, O b → ¬ X b) : NtM W O F gz As cs Ar cr gm D ps z N := by
  obtain ⟨h1, h2, h3, h4, h5, h6, h7, h8, h9⟩ := h
  refine ⟨h1.kept (ho.block _ h1.lt (hx _ h8.1)), h2, rdv_out h3 ho fun a ha h0 => hx _ (h2 _ (h4 a ha h0)).1, h4, h5.kept fun a ha => ho.block _ (h5.lt a ha) (hx _ (h6 a ha).1), h6, fun i p l hp hl => ?_, h8, h9.out ho (hx _ h8.2.1)⟩
  obtain ⟨q1, q2⟩ := h7 i p l hp hl
  exact ⟨q1, q2.out ho (hx _ (h2 _ q1).1) fun b hb => hx _ (h2 _ hb).1⟩
structure NtAt (w0 w : World) (O : Nat → Prop) (gz : Nat) (z : Nt) (N : Nat) : Prop where
  ok : z.Ok
  gz_ : O gz
  low : ∀ b, O b → w0.heap.size ≤ b ∧ b < w.heap.size
  mem : ∃ F As cs Ar cr gm D ps, NtM w O F gz As cs Ar cr gm D ps z N
theorem NtAt.out {w0 w W : World} {O X : Nat → Prop} {gz : Nat} {z : Nt} {N : Nat} (h : NtAt w0 w O gz z N) (ho : Out X w W) (hx : ∀ b, O b → ¬ X b) : NtAt w0 W O gz z N := by
  obtain ⟨h1, h2, h3, F, As, cs, Ar, cr, gm, D, ps, hm⟩ := h
  exact ⟨h1, h2, fun b hb => ⟨(h3 b hb).1, Nat.lt_of_lt_of_le (h3 b hb).2 ho.size⟩, F, As, cs, Ar, cr, gm, D, ps, hm.out ho hx⟩
theorem NtAt.below {w0 w W : World} {O : Nat → Prop} {gz : Nat} {z : Nt} {N : Nat} (h : NtAt w0 w O gz z N) (hb : Below w.heap.size w W) : NtAt w0 W O gz z N := h.out (X := fun _ => False) (Out.of_below hb) fun _ _ q => q
theorem NtAt.mono {w0 w : World} {O : Nat → Prop} {gz : Nat} {z : Nt} {N M : Nat} (h : NtAt w0 w O gz z N) (hm : N ≤ M) : NtAt w0 w O gz z M := by
  obtain ⟨h1, h2, h3, F, As, cs, Ar, cr, gm, D, ps, hq⟩ := h
  exact ⟨h1, h2, h3, F, As, cs, Ar, cr, gm, D, ps, hq.bk, hq.fo, hq.sz, hq.sf, hq.row, hq.ro, hq.each, hq.go, hq.map.mono hm⟩
def Go_ (O O' : Nat → Prop) (w w' : World) : Prop := Out O w w' ∧ ∀ b, O' b → O b ∨ w.heap.size ≤ b
theorem Go_.of_below {O : Nat → Prop} {w w' : World} (h : Below w.heap.size w w') : Go_ O O w w' := ⟨Out.of_below h, fun _ hb => .inl hb⟩
theorem Go_.trans {O O1 O2 : Nat → Prop} {w w1 w2 : World} (h : Go_ O O1 w w1) (k : Go_ O1 O2 w1 w2) : Go_ O O2 w w2 :=
  ⟨h.1.trans k.1 h.2, fun b hb => (k.2 b hb).elim (h.2 b) fun q => .inr (Nat.le_trans h.1.size q)⟩
def DidN (w0 : World) (O : Nat → Prop) (gz : Nat) (v : Value) (z : Nt) (N : Nat) (w : World) (e : Ending) (w' : World) : Prop :=
  ∃ O', e = .returned v ∧ NtAt w0 w' O' gz z N ∧ Go_ O O' w w'
end Go.Proofs.Ytmjipeagbogpmaa.Net
