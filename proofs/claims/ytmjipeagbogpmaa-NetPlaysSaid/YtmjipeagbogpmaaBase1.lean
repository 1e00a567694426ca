/- Lemmas, part 1: NetPure, Words, CrcBase, DiskPure, DiskBase, SmallMap -/
import Derived.WalkKit
import Derived.Lib.Hide
import Derived.Laws.CopyOwn
import Derived.Test.YtmjipeagbogpmaaRows
import Derived.Lib.SlBytesConst
import Derived.ProofKit
import Derived.OpenShut
import Derived.KernelRfl
import Derived.Deep.MidRow
import Derived.Laws.OwnMore
import Derived.Maps.Own
import Derived.Maps.Keyed
import Derived.Maps.Views
import Derived.Maps.RangeWalk
namespace Go.Proofs.Ytmjipeagbogpmaa.Net

structure Ad where
  g : Int
  n : Int
deriving DecidableEq
structure Lt where
  fr : Ad
  to : Ad
  bs : List UInt8
deriving DecidableEq
def ad0 : Ad := ⟨0, 0⟩
def lt0 : Lt := ⟨ad0, ad0, []⟩
instance : Inhabited Ad := ⟨ad0⟩
instance : Inhabited Lt := ⟨lt0⟩
def linkOf (a b : Ad) : Ad × Ad := if b.g < a.g ∨ (b.g = a.g ∧ b.n < a.n) then (b, a) else (a, b)
theorem linkOf_comm (a b : Ad) : linkOf a b = linkOf b a := by
  unfold linkOf
  obtain ⟨ag, an⟩ := a
  obtain ⟨bg, bn⟩ := b
  by_cases h1 : bg < ag ∨ (bg = ag ∧ bn < an)
  · have h2 : ¬ (ag < bg ∨ (ag = bg ∧ an < bn)) := by omega
    simp only [h1, h2, if_true, if_false]
  · by_cases h2 : ag < bg ∨ (ag = bg ∧ an < bn)
    · simp only [h1, h2, if_true, if_false]
    · have e1 : ag = bg := by omega
      have e2 : an = bn := by omega
      subst e1 e2
      rfl
theorem linkOf_eq (a b c d : Ad) : linkOf a b = linkOf c d ↔ (a = c ∧ b = d) ∨ (a = d ∧ b = c) := by
  have h : ∀ x y : Ad, linkOf x y = (x, y) ∨ linkOf x y = (y, x) := fun x y => by unfold linkOf; split <;> simp
  constructor
  · intro e
    rcases h a b with q | q <;> rcases h c d with r | r <;> rw [q, r] at e <;> injection e with e1 e2 <;> simp [e1, e2]
  · rintro (⟨rfl, rfl⟩ | ⟨rfl, rfl⟩)
    · rfl
    · exact linkOf_comm _ _
structure Nt where
  sizes : List Int
  row : List Lt
  cut : Ad × Ad → Bool
def sizesOk (s : List Int) : Bool := decide (1 ≤ s.length) && decide (s.length ≤ 4) && s.all fun x => decide (1 ≤ x) && decide (x ≤ 3)
theorem sizesOk_iff {s : List Int} : sizesOk s = true ↔ 1 ≤ s.length ∧ s.length ≤ 4 ∧ ∀ x ∈ s, 1 ≤ x ∧ x ≤ 3 := by
  unfold sizesOk
  simp [and_assoc]
def Nt.new (s : List Int) : Nt := ⟨s, [], fun _ => false⟩
def Nt.has (z : Nt) (a : Ad) : Bool := decide (0 ≤ a.g) && decide (a.g < (z.sizes.length : Int)) && decide (0 ≤ a.n) && decide (a.n < z.sizes.getD a.g.toNat 0)
def Nt.link (z : Nt) (a b : Ad) : Bool := !decide (a = b) && z.has a && z.has b
def Nt.cuts (z : Nt) (a b : Ad) : Bool := z.cut (linkOf a b)
def Nt.okAt (z : Nt) (i : Int) : Bool := decide (0 ≤ i) && decide (i < (z.row.length : Int))
theorem okAt_iff {z : Nt} {i : Int} : z.okAt i = true ↔ ∃ k : Nat, i = (k : Int) ∧ k < z.row.length := by
  unfold Nt.okAt
  simp only [Bool.and_eq_true, decide_eq_true_eq]
  constructor
  · rintro ⟨h1, h2⟩
    exact ⟨i.toNat, by omega, by omega⟩
  · rintro ⟨k, rfl, h⟩
    exact ⟨by omega, by omega⟩
def Nt.add (z : Nt) (l : Lt) : Nt × Int := if 4096 ≤ z.row.length then (z, 4) else ({ z with row := z.row ++ [l] }, 0)
def Nt.send (z : Nt) (l : Lt) : Nt × Int := if z.link l.fr l.to = false then (z, 1) else if 2097152 < l.bs.length then (z, 1) else z.add l
def Nt.out (z : Nt) (i : Nat) : Nt := { z with row := z.row.eraseIdx i }
def Nt.take (z : Nt) (i : Int) : Nt × Lt × Int :=
  if z.okAt i = false then (z, lt0, 1) else if z.cuts (z.row.getD i.toNat lt0).fr (z.row.getD i.toNat lt0).to = true then (z, lt0, 65) else (z.out i.toNat, z.row.getD i.toNat lt0, 0)
def Nt.drop (z : Nt) (i : Int) : Nt × Int := if z.okAt i = false then (z, 1) else (z.out i.toNat, 0)
def Nt.double (z : Nt) (i : Int) : Nt × Int := if z.okAt i = false then (z, 1) else z.add (z.row.getD i.toNat lt0)
def Nt.hold (z : Nt) (i : Int) : Nt × Int := if z.okAt i = false then (z, 1) else (z.out i.toNat).add (z.row.getD i.toNat lt0)
def Nt.turn (z : Nt) (a b : Ad) (v : Bool) : Nt × Int := if z.link a b = false then (z, 1) else ({ z with cut := fun l => if l = linkOf a b then v else z.cut l }, 0)
structure A1 where
  do_ : Nat
  i : Int
  l : Lt
instance : Inhabited A1 := ⟨⟨0, 0, lt0⟩⟩
def Nt.act (z : Nt) (a : A1) : Nt × Lt × Int :=
  if a.do_ % 7 = 0 then ((z.send a.l).1, lt0, (z.send a.l).2)
  else if a.do_ % 7 = 1 then z.take a.i
  else if a.do_ % 7 = 2 then ((z.drop a.i).1, lt0, (z.drop a.i).2)
  else if a.do_ % 7 = 3 then ((z.double a.i).1, lt0, (z.double a.i).2)
  else if a.do_ % 7 = 4 then ((z.hold a.i).1, lt0, (z.hold a.i).2)
  else if a.do_ % 7 = 5 then ((z.turn a.l.fr a.l.to true).1, lt0, (z.turn a.l.fr a.l.to true).2)
  else ((z.turn a.l.fr a.l.to false).1, lt0, (z.turn a.l.fr a.l.to false).2)
structure Nt.Ok (z : Nt) : Prop where
  sizes : sizesOk z.sizes = true
  few : z.row.length ≤ 4096
  each : ∀ l ∈ z.row, z.link l.fr l.to = true ∧ l.bs.length ≤ 2097152
def Ad.Wf (a : Ad) : Prop := (-9223372036854775808 ≤ a.g ∧ a.g ≤ 9223372036854775807) ∧ -9223372036854775808 ≤ a.n ∧ a.n ≤ 9223372036854775807
theorem has_wf {z : Nt} (h : sizesOk z.sizes = true) {a : Ad} (ha : z.has a = true) : (0 ≤ a.g ∧ a.g ≤ 3) ∧ 0 ≤ a.n ∧ a.n ≤ 2 := by
  obtain ⟨h1, h2, h3⟩ := sizesOk_iff.1 h
  unfold Nt.has at ha
  simp only [Bool.and_eq_true, decide_eq_true_eq] at ha
  obtain ⟨⟨⟨q1, q2⟩, q3⟩, q4⟩ := ha
  have hl : a.g.toNat < z.sizes.length := by omega
  rw [List.getD_eq_getElem?_getD, List.getElem?_eq_getElem hl] at q4
  have := h3 _ (List.getElem_mem hl)
  simp only [Option.getD_some] at q4
  omega
theorem link_wf {z : Nt} (h : sizesOk z.sizes = true) {a b : Ad} (hl : z.link a b = true) : a.Wf ∧ b.Wf := by
  unfold Nt.link at hl
  simp only [Bool.and_eq_true] at hl
  have h1 := has_wf h hl.1.2
  have h2 := has_wf h hl.2
  unfold Ad.Wf
  omega
theorem link_keep {z y : Nt} (h : y.sizes = z.sizes) (a b : Ad) : y.link a b = z.link a b := by
  unfold Nt.link Nt.has
  rw [h]
theorem Nt.Ok.new {s : List Int} (h : sizesOk s = true) : (Nt.new s).Ok := ⟨h, Nat.zero_le _, fun l hl => by cases hl⟩
theorem Nt.Ok.add {z : Nt} (h : z.Ok) {l : Lt} (h1 : z.link l.fr l.to = true) (h2 : l.bs.length ≤ 2097152) : (z.add l).1.Ok := by
  unfold Nt.add
  split
  · exact h
  · refine ⟨h.sizes, by simp; omega, fun x hx => ?_⟩
    rcases List.mem_append.1 hx with q | q
    · exact h.each x q
    · rw [List.mem_singleton.1 q]; exact ⟨h1, h2⟩
theorem Nt.Ok.out {z : Nt} (h : z.Ok) (i : Nat) : (z.out i).Ok :=
  ⟨h.sizes, Nat.le_trans (List.length_eraseIdx_le ..) h.few, fun x hx => h.each x (List.mem_of_mem_eraseIdx hx)⟩
theorem Nt.Ok.send {z : Nt} (h : z.Ok) (l : Lt) : (z.send l).1.Ok := by
  unfold Nt.send
  split
  · exact h
  · split
    · exact h
    · exact h.add (by simpa using ‹¬ z.link l.fr l.to = false›) (by omega)
theorem getD_mem {z : Nt} {i : Int} (h : z.okAt i = true) : z.row.getD i.toNat lt0 ∈ z.row ∧ z.row[i.toNat]? = some (z.row.getD i.toNat lt0) := by
  obtain ⟨k, rfl, hk⟩ := okAt_iff.1 h
  rw [Int.toNat_natCast, List.getD_eq_getElem?_getD, List.getElem?_eq_getElem hk]
  exact ⟨List.getElem_mem hk, rfl⟩
theorem Nt.Ok.take {z : Nt} (h : z.Ok) (i : Int) : (z.take i).1.Ok := by
  unfold Nt.take
  split
  · exact h
  · split
    · exact h
    · exact h.out _
theorem Nt.Ok.drop {z : Nt} (h : z.Ok) (i : Int) : (z.drop i).1.Ok := by
  unfold Nt.drop
  split
  · exact h
  · exact h.out _
theorem Nt.Ok.double {z : Nt} (h : z.Ok) (i : Int) : (z.double i).1.Ok := by
  unfold Nt.double
  split
  · exact h
  · have hm := (getD_mem (z := z) (i := i) (by simpa using ‹¬ z.okAt i = false›)).1
    exact h.add (h.each _ hm).1 (h.each _ hm).2
theorem Nt.Ok.hold {z : Nt} (h : z.Ok) (i : Int) : (z.hold i).1.Ok := by
  unfold Nt.hold
  split
  · exact h
  · have hm := (getD_mem (z := z) (i := i) (by simpa using ‹¬ z.okAt i = false›)).1
    exact (h.out _).add ((link_keep rfl _ _).trans (h.each _ hm).1) (h.each _ hm).2
theorem Nt.Ok.turn {z : Nt} (h : z.Ok) (a b : Ad) (v : Bool) : (z.turn a b v).1.Ok := by
  unfold Nt.turn
  split
  · exact h
  · exact ⟨h.sizes, h.few, h.each⟩
theorem Nt.Ok.act {z : Nt} (h : z.Ok) (a : A1) : (z.act a).1.Ok := by
  unfold Nt.act
  repeat' split
  · exact h.send _
  · exact h.take _
  · exact h.drop _
  · exact h.double _
  · exact h.hold _
  · exact h.turn _ _ _
  · exact h.turn _ _ _
theorem hold_eq {z : Nt} (h : z.Ok) {i : Int} (hi : z.okAt i = true) : z.hold i = ({ z with row := z.row.eraseIdx i.toNat ++ [z.row.getD i.toNat lt0] }, 0) := by
  obtain ⟨k, rfl, hk⟩ := okAt_iff.1 hi
  have hf := h.few
  have : ¬ 4096 ≤ (z.out (k : Int).toNat).row.length := by
    unfold Nt.out
    simp only [Int.toNat_natCast]
    rw [List.length_eraseIdx_of_lt hk]
    omega
  unfold Nt.hold Nt.add
  rw [if_neg (by rw [hi]; simp), if_neg this]
  rfl
end Go.Proofs.Ytmjipeagbogpmaa.Net

namespace Go.Proofs.Ytmjipeagbogpmaa
open Go.RowKit

def U (b : UInt8) : Value := .int .u8 (b.toNat : Int)

theorem U_all (bs : List UInt8) : ∀ v ∈ bs.map U, v.oneCell' = true := by
  intro v hv
  obtain ⟨b, _, rfl⟩ := List.mem_map.1 hv
  rfl

theorem addr_add_block (a : Addr) (k : Nat) : (a.add k).block = a.block := by
  unfold Addr.add
  split <;> rfl
theorem addr_add_add (a : Addr) (i j : Nat) : (a.add i).add j = a.add (i + j) := by
  unfold Addr.add
  by_cases h1 : i = 0
  · simp [h1]
  · by_cases h2 : j = 0
    · simp [h2]
    · simp [h1, h2, Nat.add_assoc]

structure Rd (w : World) (A : Option Addr) (n : Nat) (bs : List UInt8) : Prop where
  len : bs.length = n
  cells : 0 < n → ∃ ad, A = some ad ∧ ∀ j b, bs[j]? = some b → w.cell? (ad.add j) = some (U b)

theorem Rd.nil_ (w : World) (A : Option Addr) : Rd w A 0 [] := ⟨rfl, fun h => absurd h (by omega)⟩

theorem Rd.keep {w w' : World} {A : Option Addr} {n : Nat} {bs : List UInt8} (h : Rd w A n bs)
    (hk : ∀ (p : Addr) (b : UInt8), w.cell? p = some (U b) → w'.cell? p = some (U b)) : Rd w' A n bs :=
  ⟨h.len, fun hn => by
    obtain ⟨ad, e, hc⟩ := h.cells hn
    exact ⟨ad, e, fun j b hb => hk _ _ (hc j b hb)⟩⟩

theorem Rd.below {w w' : World} {A : Option Addr} {n : Nat} {bs : List UInt8} (h : Rd w A n bs) (hb : Below w.heap.size w w') : Rd w' A n bs :=
  h.keep fun p _ hp => (hb.cell (World.block_lt_of_cell? w p hp)).trans hp

def Bk (w : World) (g : Nat) (t : TypeId) (cs : Array Value) : Prop := w.heap[g]? = some (.cells cs t (0, 0))

theorem Bk.lt {w : World} {g : Nat} {t : TypeId} {cs : Array Value} (h : Bk w g t cs) : g < w.heap.size := (Array.getElem?_eq_some_iff.1 h).1
theorem Bk.cell {w : World} {g : Nat} {t : TypeId} {cs : Array Value} (h : Bk w g t cs) (i : Nat) : w.cell? ⟨g, i, none⟩ = cs[i]? := by
  unfold Bk at h
  simp [World.cell?, h]
theorem Bk.frozen {w : World} {g : Nat} {t : TypeId} {cs : Array Value} (h : Bk w g t cs) (i : Nat) : w.frozen? ⟨g, i, none⟩ = false := by
  unfold Bk at h
  simp [World.frozen?, h]
theorem Bk.kept {w w' : World} {g : Nat} {t : TypeId} {cs : Array Value} (h : Bk w g t cs) (hb : w'.heap[g]? = w.heap[g]?) : Bk w' g t cs := hb.trans h
theorem Bk.below {w w' : World} {g : Nat} {t : TypeId} {cs : Array Value} (h : Bk w g t cs) (hb : Below w.heap.size w w') : Bk w' g t cs := h.kept (hb.block g h.lt)
theorem Bk.alloc {w : World} {g : Nat} {t : TypeId} {cs : Array Value} (h : Bk w g t cs) (o : Obj) : Bk (w.alloc o) g t cs := h.kept (Below.heap_alloc w o g h.lt)
theorem Bk.new (w : World) (t : TypeId) (cs : Array Value) : Bk (w.alloc (.cells cs t)) w.heap.size t cs := heap_alloc_new w _
theorem Bk.set {w : World} {g : Nat} {t : TypeId} {cs : Array Value} (h : Bk w g t cs) (i : Nat) (u : Value) : Bk (w.setCell ⟨g, i, none⟩ u) g t (cs.setIfInBounds i u) := by
  unfold Bk at h ⊢
  simp [World.setCell, Array.getElem?_modify, h]

theorem cell_ne_block {w : World} {g : Nat} {t : TypeId} {cs : Array Value} (h : Bk w g t cs) (hn : ∀ (i : Nat) (b : UInt8), cs[i]? ≠ some (U b))
    {p : Addr} {b : UInt8} (hp : w.cell? p = some (U b)) : p.block ≠ g := by
  rintro rfl
  unfold Bk at h
  simp only [World.cell?, h] at hp
  split at hp
  · cases hp
  · exact hn _ _ hp

theorem Rd.setCell {w : World} {g : Nat} {t : TypeId} {cs : Array Value} (h : Bk w g t cs) (hn : ∀ (i : Nat) (b : UInt8), cs[i]? ≠ some (U b))
    {A : Option Addr} {n : Nat} {bs : List UInt8} (hr : Rd w A n bs) (i : Nat) (u : Value) : Rd (w.setCell ⟨g, i, none⟩ u) A n bs :=
  hr.keep fun p _ hp => (World.cell?_of_block (Below.heap_setCell w _ u p.block (cell_ne_block h hn hp))).trans hp

theorem Rd.grown {w w' : World} {g : Nat} {t : TypeId} {cs : Array Value} (h : Bk w g t cs) (hn : ∀ (i : Nat) (b : UInt8), cs[i]? ≠ some (U b))
    {A : Option Addr} {n : Nat} {bs : List UInt8} (hr : Rd w A n bs) (hg : w.grownBy w' (some g)) : Rd w' A n bs :=
  hr.keep fun p _ hp => (World.cell?_of_block (hg.block p.block (World.block_lt_of_cell? w p hp) (fun e => cell_ne_block h hn hp (by injection e)))).trans hp

theorem Rd.take {w : World} {A : Option Addr} {n : Nat} {bs : List UInt8} (h : Rd w A n bs) {k : Nat} (hk : k ≤ n) : Rd w A k (bs.take k) :=
  ⟨by rw [List.length_take, h.len]; omega, fun h0 => by
    obtain ⟨ad, e, hc⟩ := h.cells (by omega)
    refine ⟨ad, e, fun j b hb => hc j b ?_⟩
    rw [List.getElem?_take] at hb
    split at hb
    · exact hb
    · cases hb⟩

theorem Rd.drop {w : World} {A : Option Addr} {n : Nat} {bs : List UInt8} (h : Rd w A n bs) {k c : Nat} (hk : k ≤ n) (hc : n ≤ c) :
    Rd w (if c = k then A else A.map (·.add k)) (n - k) (bs.drop k) :=
  ⟨by rw [List.length_drop, h.len], fun h0 => by
    obtain ⟨ad, rfl, hcell⟩ := h.cells (by omega)
    rw [if_neg (by omega)]
    refine ⟨ad.add k, rfl, fun j b hb => ?_⟩
    rw [addr_add_add]
    rw [List.getElem?_drop] at hb
    exact hcell _ b hb⟩

theorem Rd.of_own {w : World} {base : Nat} {e : TypeId} {A : Option Addr} {n m c : Nat} {bs : List UInt8} (h : w.ownsRow base e 1 (.slice A n c) m (bs.map U)) : Rd w A n bs ∧ n = m := by
  have hl := h.1
  simp at hl
  rcases h.2 with ⟨e1, rfl⟩ | ⟨g, cap, cur, e1, _, hh, hnc, _, hs, ht⟩
  · injection e1 with e1 e2 e3
    subst e2
    exact ⟨⟨hl, fun h0 => absurd h0 (by omega)⟩, rfl⟩
  · injection e1 with e1 e2 e3
    subst e1 e2 e3
    refine ⟨⟨hl, fun _ => ⟨_, rfl, fun j b hb => ?_⟩⟩, rfl⟩
    have hj : j < n := by
      have := (List.getElem?_eq_some_iff.1 hb).1
      omega
    have : w.cell? ⟨g, 0 + j, none⟩ = some (U b) := by
      simp only [World.cell?, hh]
      rw [Nat.mul_one] at ht
      have h2 : (cur.toList.take n)[j]? = some (U b) := by rw [ht, List.getElem?_map, hb]; rfl
      rw [List.getElem?_take, if_pos hj] at h2
      simpa using h2
    unfold Addr.add
    by_cases hj0 : j = 0
    · subst hj0; simpa using this
    · simpa [hj0] using this

def S (bs : List UInt8) : ByteArray := ⟨bs.toArray⟩

theorem ofNat_toNat_u8 (b : UInt8) : UInt8.ofNat ((b.toNat : Int)).toNat = b := by simp

theorem foldl_U (bs : List UInt8) : (bs.map fun b => (b.toNat : Int)).foldl (fun r n => r.push (UInt8.ofNat n.toNat)) ByteArray.empty = S bs := by
  rw [foldl_push_bytes]
  have : (List.map (fun n : Int => UInt8.ofNat n.toNat) (bs.map fun b : UInt8 => (b.toNat : Int))) = bs := by
    rw [List.map_map]
    refine (List.map_congr_left (g := id) (fun b _ => ?_)).trans (List.map_id bs)
    exact ofNat_toNat_u8 b
  rw [this]
  simp [ByteArray.empty, ByteArray.emptyWithCapacity, S]
  rfl

theorem run_string_Rd {P : Program} {w : World} {A : Option Addr} {n : Nat} {bs : List UInt8} (src dst e : TypeId) (hs : P.underlying src = some (.slice e)) (he : P.underlying e = some (.int .u8)) (hd : P.underlying dst = some .string)
    (h : Rd w A n bs) (c : Nat) : (convert src dst (.slice A n c)).run P w = .ok (.string (S bs)) w := by
  have hl := h.len
  by_cases h0 : 0 < n
  · obtain ⟨ad, rfl, hc⟩ := h.cells h0
    have h1 : (loadCells ad n).run P w = .ok ((bs.map fun b : UInt8 => (b.toNat : Int)).map (Value.int .u8)).toArray w := by
      have := run_loadCells_list (P := P) w ad (bs.map U) (fun j v hj => by
        rw [List.getElem?_map] at hj
        cases hb : bs[j]? with
        | none => rw [hb] at hj; cases hj
        | some b =>
          rw [hb] at hj
          injection hj with hj
          subst hj
          exact hc j b hb)
      rw [List.length_map, hl] at this
      rw [this, List.map_map]
      rfl
    rw [run_convert_bytes_string w src dst e _ n c hs he hd, run_bytesToString w _ n c _ h1, foldl_U]
  · have hn : n = 0 := by omega
    subst hn
    have hb : bs = [] := List.eq_nil_of_length_eq_zero hl
    subst hb
    rw [run_convert_bytes_string w src dst e _ 0 c hs he hd]
    cases A with
    | none =>
      simp [Conv.bytesToString, S, ByteArray.empty, ByteArray.emptyWithCapacity]
      rfl
    | some ad =>
      have h1 : (loadCells ad 0).run P w = .ok (([] : List Int).map (Value.int .u8)).toArray w := by simp [loadCells, loadCellsFrom]
      rw [run_bytesToString w _ 0 c _ h1]
      rfl

def be : Nat → Nat → List UInt8
  | 0, _ => []
  | k + 1, x => UInt8.ofNat (x / 256 ^ k) :: be k x

theorem run_append_Rd {P : Program} {w : World} {t ty e : TypeId} {i : TypeInfo} {z : Value} (ht : P.underlying t = some (.slice e)) (hi : P.info? e = some i) (hz : i.zero = some z) (hs : i.size = 1) (hb : i.bytes = 1) (hzs : z.cells.size = 1)
    {base : Nat} {v : Value} {n : Nat} {xs : List Value} (hown : w.ownsRow base e 1 v n xs) {A : Option Addr} {m : Nat} {bs : List UInt8} (h : Rd w A m bs) (c : Nat) (hm : n + m ≤ 140737488355328) (hbase : base ≤ w.heap.size) :
    ∃ v' w', (Builtin.append_ #[t, t] ty #[v, .slice A m c]).run P w = .ok v' w' ∧ w'.ownsRow base e 1 v' (n + m) (xs ++ bs.map U) ∧ w.grownBy w' v.ownBlock := by
  have hl := h.len
  have hcells : ∀ ad, A = some ad → ∀ j u, (bs.map U)[j]? = some u → w.cell? (ad.add j) = some u := by
    intro ad had j u hu
    rw [List.getElem?_map] at hu
    cases hb : bs[j]? with
    | none => rw [hb] at hu; cases hu
    | some b =>
      rw [hb] at hu
      injection hu with hu
      subst hu
      have h0 : 0 < m := by
        have := (List.getElem?_eq_some_iff.1 hb).1
        omega
      obtain ⟨ad', e', hc⟩ := h.cells h0
      rw [had] at e'
      injection e' with e'
      subst e'
      exact hc j b hb
  cases A with
  | some ad =>
    obtain ⟨v', w', h1, h2, h3, _⟩ := run_append_own (P := P) w base t ty e i z 1 1 ht hi hz hs hb hzs (by decide) v n xs hown ad m c (bs.map U) (by simp [hl]) (hcells ad rfl) (U_all bs) (by unfold maxLen; omega) (by omega) hbase
    exact ⟨v', w', h1, h2, h3⟩
  | none =>
    have hm0 : m = 0 := by
      rcases Nat.eq_zero_or_pos m with h0 | h0
      · exact h0
      · obtain ⟨_, e', _⟩ := h.cells h0
        cases e'
    subst hm0
    have hb0 : bs = [] := List.eq_nil_of_length_eq_zero hl
    subst hb0
    refine ⟨v, w, ?_, by simpa using hown, ⟨rfl, rfl, rfl, Nat.le_refl _, fun _ _ _ => rfl⟩⟩
    rcases hown.2 with ⟨rfl, rfl⟩ | ⟨g, cap, cur, rfl, _, _, hnc, _⟩
    · simp [Builtin.append_, run_underlying ht, sizeOf, typeInfo, hi, Builtin.lenOf, Builtin.firstCells]
    · simp [Builtin.append_, run_underlying ht, sizeOf, typeInfo, hi, Builtin.lenOf, Builtin.firstCells, hnc, storeCells]

theorem wpList_append_Rd {P : Program} {w : World} {ops : Array Oper} {rest : List Oper} {o : Oper} {a : Act} {Q : Exit → Act → World → Prop} (hgd : o.guard = none) (s x : Operand) (t : TypeId)
    (ho : o.op = .call { callee := .builtin .append, args := #[s, x], argTypes := #[t, t] }) {e : TypeId} {i : TypeInfo} {z : Value} (ht : P.underlying t = some (.slice e)) (hi : P.info? e = some i) (hz : i.zero = some z) (hsz : i.size = 1) (hb : i.bytes = 1) (hzs : z.cells.size = 1)
    {base : Nat} {v : Value} {n : Nat} {xs : List Value} (hs : a.eval s = v) (hown : w.ownsRow base e 1 v n xs) {A : Option Addr} {m c : Nat} {bs : List UInt8} (hx : a.eval x = .slice A m c) (h : Rd w A m bs) (hm : n + m ≤ 140737488355328) (hbase : base ≤ w.heap.size)
    (hK : ∀ v' w', w'.ownsRow base e 1 v' (n + m) (xs ++ bs.map U) → w.grownBy w' v.ownBlock → wpList P ops Q rest (a.put o.dst v') w') : wpList P ops Q (o :: rest) a w := by
  obtain ⟨v', w', h1, h2, h3⟩ := run_append_Rd (ty := o.type) ht hi hz hsz hb hzs hown h c hm hbase
  refine wpList_plain hgd fun K hK' => ?_
  unfold Oper.wp execOp
  simp only [ho, resolve, invoke, builtin, Sem.run_bind, Sem.run_pure, Result.andThen_ok, List.map_toArray, List.map_cons, List.map_nil, hs, hx, h1]
  exact hK' _ _ (hK v' w' h2 h3)

end Go.Proofs.Ytmjipeagbogpmaa

namespace Go.Proofs.Ytmjipeagbogpmaa
open Go.ChangeShapes Go.WideShapes Go.ChangeAt Go.RowKit

theorem info_byte : (Try.prog.info? 5).map (fun i => (i.zero, i.size, i.bytes)) = some (some (.int .u8 0), 1, 1) := by kernel_rfl
theorem ty_bytes : Try.prog.underlying 35 = some (.slice 5) := by kernel_rfl
theorem ty_byte : Try.prog.underlying 5 = some (.int .u8) := by kernel_rfl
theorem ty_string : Try.prog.underlying 9 = some .string := by kernel_rfl

theorem conv_string {w : World} {A : Option Addr} {n : Nat} {bs : List UInt8} (h : Rd w A n bs) (c : Nat) : (convert 35 9 (.slice A n c)).run Try.prog w = .ok (.string (S bs)) w := run_string_Rd (P := Try.prog) 35 9 5 ty_bytes ty_byte ty_string h c

theorem own : ownKnob Try.prog.godebug = none := by kernel_rfl
theorem laidOut : laidOutB Try.prog = true := by kernel_rfl
theorem ty_bool : Try.prog.underlying 4 = some .bool := by kernel_rfl
section
variable {H : Type} {enc : TypeId × Value → H} {P : Program}

theorem trodAll_below (hl : laidOutB P = true) {W W' : World} (hb : Below W.heap.size W W') : ∀ (ts : List TypeId) (vs : List Value) (ds : List (DataW H)) (ps : List MemPlace),
    ts.all (fun t => P.readableRec t && decide (t < P.types.size)) = true → (∀ x ∈ ps, x.block < W.heap.size) → DataW.TrodAll enc P W 0 (fun _ => true) true ts vs ds ps → DataW.TrodAll enc P W' 0 (fun b => decide (b < W.heap.size)) true ts vs ds ps := by
  intro ts
  induction ts with
  | nil =>
    intro vs ds ps _ _ h
    obtain ⟨rfl, rfl, rfl⟩ := trodAll_nil h
    exact trodAll_mk0
  | cons t ts ih =>
    intro vs ds ps hr hlt h
    obtain ⟨v, vs', d, ds', p, q, rfl, rfl, rfl, h1, h2⟩ := trodAll_cons h
    rw [List.all_cons, Bool.and_eq_true, Bool.and_eq_true, decide_eq_true_iff] at hr
    exact trodAll_cons_mk (Below.trod hl hr.1.1 hr.1.2 h1 hb (fun x hx => hlt x (List.mem_append_left _ hx))) (ih _ _ _ hr.2 (fun x hx => hlt x (List.mem_append_right _ hx)) h2)

theorem post_true {f : Func} {s : ChangeSpec} {tb : TypeId} {W W' : World} {args : Array Value} {ds gs : List (DataW H)} {before : List MemPlace} (hl : laidOutB P = true)
    (hr : f.params.toList.all (fun t => P.readableRec t && decide (t < P.types.size)) = true) (hbool : P.underlying tb = some .bool) (hres : f.resultTypes = #[tb]) (hv : s.vars = [])
    (hW : DataW.Whole enc P f.params.toList s.vars false W args.toList ds gs before) (hb : Below W.heap.size W W') (hfn : s.fn H (ds ++ gs) = { results := [.lit (.bool true)], args := ds }) :
    s.post enc P f false true false false W args (.bool true) W' := by
  have hW0 := hW
  obtain ⟨p, q, hA, hV, rfl, _, _⟩ := hW
  rw [hv] at hV
  obtain ⟨rfl, rfl⟩ := trodVars_none hV
  rw [List.append_nil] at hW0
  refine ⟨ds, [], p, [], p, [], hW0, ?_, ?_, ?_, hb.frame _, fun h => by cases h⟩
  · rw [hfn, hres]
    exact trodAll_cons_mk (shut_bool hbool true) trodAll_mk0
  · rw [hfn]
    exact trodAll_below hl hb _ _ _ _ hr (fun x hx => hW0.lt x hx) hA
  · rw [hfn, hv]
    rfl

end

end Go.Proofs.Ytmjipeagbogpmaa

namespace Go.Proofs.Ytmjipeagbogpmaa.Disk
open Go.RowKit

structure DK where
  pages : List (List UInt8)
  row : List (Nat × List UInt8)
  dead : Bool
  left : Int
def DK.faultAt (d : DK) (k : Int) : Int := if d.dead = true then 9 else if k < 0 ∨ (d.pages.length : Int) ≤ k then 1 else 0
def DK.burn (d : DK) : Int × DK := if d.left = 0 then (9, { d with dead := true }) else if 0 < d.left then (0, { d with left := d.left - 1 }) else (0, d)
def DK.write (d : DK) (k : Int) (b : List UInt8) : Int × DK :=
  if d.faultAt k ≠ 0 then (d.faultAt k, d) else if b.length ≠ 512 then (1, d) else if d.burn.1 ≠ 0 then d.burn else (0, { d.burn.2 with row := d.burn.2.row ++ [(k.toNat, b)] })
def DK.new (n : Nat) : DK := ⟨List.replicate n (List.replicate 512 0), [], false, -1⟩

def OkP (ps : List (List UInt8)) : Prop := ∀ b ∈ ps, b.length = 512
def OkR (n : Nat) (r : List (Nat × List UInt8)) : Prop := ∀ x ∈ r, x.1 < n ∧ x.2.length = 512
structure Ok (d : DK) : Prop where
  pages : OkP d.pages
  row : OkR d.pages.length d.row
  many : d.pages.length ≤ 4096
  some_ : 1 ≤ d.pages.length
  low : -9223372036854775808 ≤ d.left
  high : d.left ≤ 9223372036854775807

theorem OkP.get {ps : List (List UInt8)} (h : OkP ps) {k : Nat} (hk : k < ps.length) : (ps.getD k []).length = 512 := by
  rw [List.getD_eq_getElem?_getD, List.getElem?_eq_getElem hk]
  exact h _ (List.getElem_mem hk)
theorem Ok.new {n : Nat} (h1 : 1 ≤ n) (h2 : n ≤ 4096) : Ok (DK.new n) :=
  ⟨fun b hb => (by have := (List.mem_replicate.1 hb).2; rw [this, List.length_replicate]), fun x hx => (nomatch hx), (by show (List.replicate n _).length ≤ 4096; rw [List.length_replicate]; exact h2), (by show 1 ≤ (List.replicate n _).length; rw [List.length_replicate]; exact h1),
    (by show -9223372036854775808 ≤ (-1 : Int); omega), (by show (-1 : Int) ≤ 9223372036854775807; omega)⟩
theorem Ok.burn {d : DK} (h : Ok d) : Ok d.burn.2 := by
  have h1 := h.low
  have h2 := h.high
  unfold DK.burn
  split
  · exact ⟨h.pages, h.row, h.many, h.some_, h1, h2⟩
  · split
    · exact ⟨h.pages, h.row, h.many, h.some_, by show _ ≤ d.left - 1; omega, by show d.left - 1 ≤ _; omega⟩
    · exact h
theorem burn_pages (d : DK) : d.burn.2.pages = d.pages := by unfold DK.burn; split <;> (try split) <;> rfl
theorem burn_row (d : DK) : d.burn.2.row = d.row := by unfold DK.burn; split <;> (try split) <;> rfl
theorem Ok.set {d d' : DK} (h : Ok d) (hp : d'.pages.length = d.pages.length) (h1 : OkP d'.pages) (h2 : OkR d.pages.length d'.row) (h3 : -9223372036854775808 ≤ d'.left) (h4 : d'.left ≤ 9223372036854775807) : Ok d' :=
  ⟨h1, hp ▸ h2, hp ▸ h.many, hp ▸ h.some_, h3, h4⟩
theorem faultAt_zero {d : DK} {k : Int} (h : d.faultAt k = 0) : d.dead = false ∧ 0 ≤ k ∧ k < d.pages.length := by
  unfold DK.faultAt at h
  split at h
  · omega
  · next hd =>
    split at h
    · omega
    · exact ⟨by simpa using hd, by omega, by omega⟩
theorem Ok.write {d : DK} (h : Ok d) (k : Int) (b : List UInt8) : Ok (d.write k b).2 := by
  unfold DK.write
  split
  · exact h
  · next hf =>
    split
    · exact h
    · next hb =>
      split
      · exact h.burn
      · have h0 := faultAt_zero (by simpa using hf)
        refine h.burn.set rfl h.burn.pages ?_ h.burn.low h.burn.high
        rw [burn_pages]
        intro x hx
        rcases List.mem_append.1 hx with hx | hx
        · exact h.row x (burn_row d ▸ hx)
        · obtain rfl := List.mem_singleton.1 hx
          exact ⟨by have := h0.2; show k.toNat < _; omega, by simpa using hb⟩
end Go.Proofs.Ytmjipeagbogpmaa.Disk

namespace Go.Proofs.Ytmjipeagbogpmaa.Disk
open Go.RowKit

structure Out (X : Nat → Prop) (w w' : World) : Prop where
  os : w'.os = w.os
  tape : w'.tape = w.tape
  output : w'.output = w.output
  size : w.heap.size ≤ w'.heap.size
  block : ∀ k, k < w.heap.size → ¬ X k → w'.heap[k]? = w.heap[k]?
theorem Out.of_below {X : Nat → Prop} {w w' : World} (h : Below w.heap.size w w') : Out X w w' := ⟨h.os, h.tape, h.output, h.size, fun k hk _ => h.block k hk⟩
theorem Out.refl (X : Nat → Prop) (w : World) : Out X w w := ⟨rfl, rfl, rfl, Nat.le_refl _, fun _ _ _ => rfl⟩
theorem Out.trans {X X' : Nat → Prop} {w w1 w2 : World} (h1 : Out X w w1) (h2 : Out X' w1 w2) (hx : ∀ k, X' k → X k ∨ w.heap.size ≤ k) : Out X w w2 :=
  ⟨h2.os.trans h1.os, h2.tape.trans h1.tape, h2.output.trans h1.output, Nat.le_trans h1.size h2.size, fun k hk hX => (h2.block k (Nat.lt_of_lt_of_le hk h1.size) (fun h => (hx k h).elim hX (by omega))).trans (h1.block k hk hX)⟩
theorem Out.below {X : Nat → Prop} {B : Nat} {w0 w w' : World} (h : Out X w w') (hb : Below B w0 w) (hX : ∀ k, X k → B ≤ k) (hB : B ≤ w.heap.size) : Below B w0 w' :=
  ⟨h.os.trans hb.os, h.tape.trans hb.tape, h.output.trans hb.output, Nat.le_trans hb.size h.size, fun k hk => (h.block k (by omega) (fun hx => by have := hX k hx; omega)).trans (hb.block k hk)⟩
theorem Out.mono {X Y : Nat → Prop} {w w' : World} (h : Out X w w') (hx : ∀ k, X k → Y k ∨ w.heap.size ≤ k) : Out Y w w' :=
  ⟨h.os, h.tape, h.output, h.size, fun k hk hY => h.block k hk (fun hX => (hx k hX).elim hY (by omega))⟩
theorem Out.setCell {X : Nat → Prop} (w : World) {p : Addr} (hp : X p.block) (u : Value) : Out X w (w.setCell p u) :=
  ⟨rfl, rfl, rfl, by simp [World.setCell], fun k _ hX => Below.heap_setCell w p u k (fun e => hX (e ▸ hp))⟩
theorem Out.setCells {X : Nat → Prop} {b : Nat} (hb : X b) : ∀ (vs : List Value) (o : Nat) (w : World), Out X w (w.setCells b o vs)
  | [], _, w => Out.refl X w
  | v :: r, o, w => by
    have h1 := Out.setCell w (p := ⟨b, o, none⟩) hb v
    exact h1.trans (Out.setCells hb r (o + 1) _) (fun k hk => .inl hk)
theorem Out.alloc {X : Nat → Prop} (w : World) (o : Obj) : Out X w (w.alloc o) := Out.of_below ((Below.refl w.heap.size w).alloc (Nat.le_refl _) o)
theorem Out.drew {X : Nat → Prop} {w w' : World} (h : Out X w w') : Out X w w'.drew := ⟨h.os, h.tape, h.output, h.size, h.block⟩

theorem Out.cell {X : Nat → Prop} {w w' : World} (h : Out X w w') {p : Addr} (hp : p.block < w.heap.size) (hX : ¬ X p.block) : w'.cell? p = w.cell? p := World.cell?_of_block (w := w) (h.block p.block hp hX)

end Go.Proofs.Ytmjipeagbogpmaa.Disk

namespace Go.Proofs.Ytmjipeagbogpmaa.Zab
open Go.RowKit Disk

def fV (v : Value) : Option (DataW Value × List MemPlace) := some (.held v, [])
theorem ty_int : Try.prog.underlying 3 = some (.int .i64) := by kernel_rfl
theorem own_kept {w w' : World} {k : TypeId} {R : Value → Option (DataW Value × List MemPlace)} {b n : Nat} {D : DataW Value} (h : w.ownsMap Try.prog k R b n D) (hb : w'.heap[b]? = w.heap[b]?) : w'.ownsMap Try.prog k R b n D := by
  obtain ⟨es, clock, h1, h2⟩ := h
  exact ⟨es, clock, hb.trans h1, h2⟩
theorem held_inj {a b : Value} (h : (DataW.held a : DataW Value) = .held b) : a = b := DataW.held.inj h
theorem held_nil {a : Value} (h : (DataW.nil : DataW Value) = .held a) : False := by cases h
theorem lit_ne {i j : Nat} (h : j ≠ i) : (Lit.int .i64 (j : Int)) ≠ .int .i64 (i : Int) := fun e => by
  injection e with _ e
  omega
end Go.Proofs.Ytmjipeagbogpmaa.Zab
