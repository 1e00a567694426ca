/- Lines: what they are, and how they lie in memory: read, or of one's own. It speaks of no function of the program. -/
import Derived.Test.YtephciglcikllaaDiskBase
import Derived.Test.YtephciglcikllaaRead2
import Derived.Lib.OwnKind
namespace Go.Proofs.Ytephciglcikllaa.Log
open Go.RowKit Disk

theorem own_le {w : World} {base : Nat} {e : TypeId} {A : Option Addr} {n c m : Nat} {xs : List Value} (h : w.ownsRow base e 1 (.slice A n c) m xs) : n ≤ c := by
  rcases h.2 with ⟨e1, rfl⟩ | ⟨g, cap, cur, e1, _, _, hnc, _⟩
  · injection e1 with _ e2 e3
    omega
  · injection e1 with _ e2 e3
    omega
theorem rdb_out {w W : World} {Z : Nat → Prop} {A : Option Addr} {n : Nat} {vs : List UInt8} (h : Rd w A n vs) (ho : Out Z w W) (hz : ∀ a, A = some a → ¬ Z a.block) : Rd W A n vs :=
  ⟨h.len, fun h0 => by
    obtain ⟨ad, e, hc⟩ := h.cells h0
    exact ⟨ad, e, fun j v hv => (ho.cell (World.block_lt_of_cell? w _ (hc j v hv)) (by rw [addr_add_block]; exact hz ad e)).trans (hc j v hv)⟩⟩
/-- Rows of bytes, each in memory of its own from block B on. -/
structure Fresh (B : Nat) (w : World) (vs : List Value) (bs : List (List UInt8)) : Prop where
  len : vs.length = bs.length
  at_ : ∀ (j : Nat) (b : List UInt8), bs[j]? = some b → ∃ A n c, vs[j]? = some (.slice A n c) ∧ w.ownsRow B 5 1 (.slice A n c) n (b.map U)
theorem Fresh.below {B : Nat} {w w' : World} {vs : List Value} {bs : List (List UInt8)} (h : Fresh B w vs bs) (hb : Below w.heap.size w w') : Fresh B w' vs bs :=
  ⟨h.len, fun j b hj => by
    obtain ⟨A, n, c, h1, h2⟩ := h.at_ j b hj
    exact ⟨A, n, c, h1, h2.kept (grown_of_below hb none) (Classical.em _)⟩⟩
theorem Fresh.grown {B : Nat} {w w' : World} {vs : List Value} {bs : List (List UInt8)} (h : Fresh B w vs bs) {row : Option Nat} (hg : w.grownBy w' row) {T : TypeId} (hT : T ≠ 5) (hr : ∀ r, row = some r → ∃ c fz, w.heap[r]? = some (.cells c T fz)) : Fresh B w' vs bs :=
  ⟨h.len, fun j b hj => by
    obtain ⟨A, n, c, h1, h2⟩ := h.at_ j b hj
    refine ⟨A, n, c, h1, h2.kept hg ?_⟩
    cases ho : (Value.slice A n c).ownBlock with
    | none => exact .inl rfl
    | some k =>
      refine .inr fun e => ?_
      obtain ⟨c1, f1, q1⟩ := Lib.ownsRow_kind h2 k ho
      obtain ⟨c2, f2, q2⟩ := hr k e.symm
      rw [q1] at q2
      injection q2 with q2
      injection q2 with _ q3
      exact hT q3.symm⟩
theorem Fresh.set {B : Nat} {w : World} {vs : List Value} {bs : List (List UInt8)} (h : Fresh B w vs bs) {g i : Nat} {u : Value} (hg : g < B) : Fresh B (w.setCell ⟨g, i, none⟩ u) vs bs :=
  ⟨h.len, fun j b hj => by
    obtain ⟨A, n, c, h1, h2⟩ := h.at_ j b hj
    exact ⟨A, n, c, h1, ownsRow_setCell_below h2 (a := ⟨g, i, none⟩) hg u⟩⟩
theorem Fresh.snoc {B : Nat} {w : World} {vs : List Value} {bs : List (List UInt8)} {A : Option Addr} {n c : Nat} {b : List UInt8} (h : Fresh B w vs bs) (h2 : w.ownsRow B 5 1 (.slice A n c) n (b.map U)) : Fresh B w (vs ++ [.slice A n c]) (bs ++ [b]) :=
  ⟨by simp [h.len], fun j x hj => by
    rcases Nat.lt_or_ge j bs.length with hl | hl
    · rw [List.getElem?_append_left hl] at hj
      rw [List.getElem?_append_left (by rw [h.len]; exact hl)]
      exact h.at_ j x hj
    · rw [List.getElem?_append_right hl] at hj
      rw [List.getElem?_append_right (by rw [h.len]; exact hl), h.len]
      have : j - bs.length = 0 := by
        have := (List.getElem?_eq_some_iff.1 hj).1
        simp at this
        omega
      rw [this] at hj ⊢
      simp at hj
      subst hj
      exact ⟨A, n, c, rfl, h2⟩⟩
end Go.Proofs.Ytephciglcikllaa.Log
namespace Go.Proofs.Ytephciglcikllaa.Sto
open Go.RowKit Disk Log

/-- A line. -/
structure Ln where
  epoch : Nat
  bytes : List UInt8
/-- The greatest number of an epoch. -/
def top : Nat := 281474976710656
/-- A line may be. -/
def lineB (x : Ln) : Bool := decide (1 ≤ x.epoch) && decide (x.epoch ≤ top) && decide (1 ≤ x.bytes.length) && decide (x.bytes.length ≤ 4096)
theorem lineB_iff {x : Ln} : lineB x = true ↔ 1 ≤ x.epoch ∧ x.epoch ≤ top ∧ 1 ≤ x.bytes.length ∧ x.bytes.length ≤ 4096 := by
  unfold lineB
  simp [and_assoc]
theorem rdb_out1 {w W : World} {Z : Nat → Prop} {A : Option Addr} {n : Nat} {vs : List UInt8} (h : Rd w A n vs) (ho : Out Z w W) (hz : ∀ a, A = some a → 1 ≤ n → ¬ Z a.block) : Rd W A n vs := by
  rcases Nat.eq_zero_or_pos n with h0 | h0
  · exact ⟨h.len, fun q => absurd q (by omega)⟩
  · exact rdb_out h ho fun a ha => hz a ha h0
/-- Lines that are read, in blocks of P. -/
structure LnS (P : Nat → Prop) (w : World) (A : Option Addr) (n : Nat) (ls : List Ln) : Prop where
  len : ls.length = n
  at_ : ∀ (j : Nat) (x : Ln), ls[j]? = some x → ∃ b o B m c, A = some ⟨b, o, none⟩ ∧ P b ∧ w.cell? ⟨b, o + j * 2, none⟩ = some (.int .u64 (x.epoch : Int)) ∧ w.cell? ⟨b, o + j * 2 + 1, none⟩ = some (.slice B m c) ∧ m ≤ c ∧ Rd w B m x.bytes ∧ ∀ b, B = some b → 1 ≤ m → P b.block
theorem LnS.out {P X : Nat → Prop} {w w' : World} {A : Option Addr} {n : Nat} {ls : List Ln} (h : LnS P w A n ls) (ho : Out X w w') (hx : ∀ k, P k → ¬ X k) : LnS P w' A n ls :=
  ⟨h.len, fun j x hj => by
    obtain ⟨b, o, B, m, c, h1, h2, h3, h4, h5, h6, h7⟩ := h.at_ j x hj
    have hk : ∀ i v, w.cell? ⟨b, i, none⟩ = some v → w'.cell? ⟨b, i, none⟩ = some v := fun i v hv =>
      (ho.cell (World.block_lt_of_cell? w _ hv) (hx _ h2)).trans hv
    exact ⟨b, o, B, m, c, h1, h2, hk _ _ h3, hk _ _ h4, h5, rdb_out1 h6 ho (fun a ha h0 => hx _ (h7 a ha h0)), h7⟩⟩
theorem LnS.below {P : Nat → Prop} {w w' : World} {A : Option Addr} {n : Nat} {ls : List Ln} (h : LnS P w A n ls) (hb : Below w.heap.size w w') : LnS P w' A n ls :=
  h.out (X := fun _ => False) (Out.of_below hb) fun _ _ q => q
theorem LnS.mono {P Q : Nat → Prop} {w : World} {A : Option Addr} {n : Nat} {ls : List Ln} (h : LnS P w A n ls) (hq : ∀ k, P k → Q k) : LnS Q w A n ls :=
  ⟨h.len, fun j x hj => by
    obtain ⟨b, o, B, m, c, h1, h2, h3, h4, h5, h6, h7⟩ := h.at_ j x hj
    exact ⟨b, o, B, m, c, h1, hq _ h2, h3, h4, h5, h6, fun b hb h0 => hq _ (h7 b hb h0)⟩⟩
theorem LnS.nil_ (P : Nat → Prop) (w : World) (A : Option Addr) : LnS P w A 0 [] := ⟨rfl, fun j x hj => by simp at hj⟩

/-- A line's cells. -/
def lnC (x : Ln) (v : Value) : List Value := [.int .u64 (x.epoch : Int), v]
def lnsC : List Ln → List Value → List Value
  | x :: ls, v :: vs => lnC x v ++ lnsC ls vs
  | _, _ => []
theorem lnsC_length : ∀ (ls : List Ln) (vs : List Value), ls.length = vs.length → (lnsC ls vs).length = 2 * ls.length
  | [], [], _ => rfl
  | x :: ls, v :: vs, h => by
    have := lnsC_length ls vs (by simpa using h)
    rw [lnsC, List.length_append, this, List.length_cons]
    show 2 + _ = _
    omega
theorem lnsC_append : ∀ (ls : List Ln) (vs : List Value) (ms : List Ln) (us : List Value), ls.length = vs.length → lnsC (ls ++ ms) (vs ++ us) = lnsC ls vs ++ lnsC ms us
  | [], [], ms, us, _ => rfl
  | x :: ls, v :: vs, ms, us, h => by
    rw [List.cons_append, List.cons_append, lnsC, lnsC_append ls vs ms us (by simpa using h), lnsC, List.append_assoc]
theorem lnsC_snoc (ls : List Ln) (vs : List Value) (x : Ln) (v : Value) (h : ls.length = vs.length) : lnsC (ls ++ [x]) (vs ++ [v]) = lnsC ls vs ++ lnC x v := by
  rw [lnsC_append ls vs [x] [v] h]
  show _ ++ (lnC x v ++ []) = _
  rw [List.append_nil]
theorem lnsC_get : ∀ (ls : List Ln) (vs : List Value) (j i : Nat) (x : Ln) (v : Value), ls[j]? = some x → vs[j]? = some v → i < 2 → (lnsC ls vs)[2 * j + i]? = (lnC x v)[i]?
  | [], _, j, i, x, v, h, _, _ => by simp at h
  | _ :: _, [], j, i, x, v, _, h, _ => by simp at h
  | y :: ls, u :: vs, 0, i, x, v, h1, h2, hi => by
    simp at h1 h2
    subst h1 h2
    rw [lnsC, Nat.mul_zero, Nat.zero_add, List.getElem?_append_left (by exact hi)]
  | y :: ls, u :: vs, j + 1, i, x, v, h1, h2, hi => by
    rw [lnsC, List.getElem?_append_right (by show 2 ≤ _; omega)]
    have : 2 * (j + 1) + i - (lnC y u).length = 2 * j + i := by show 2 * (j + 1) + i - 2 = _; omega
    rw [this]
    exact lnsC_get ls vs j i x v (by simpa using h1) (by simpa using h2) hi
theorem lnC_one (x : Ln) {v : Value} (h : v.oneCell' = true) : ∀ u ∈ lnC x v, u.oneCell' = true := by
  intro u hu
  rcases List.mem_cons.1 hu with rfl | hu
  · rfl
  · rw [List.mem_singleton.1 hu]; exact h
theorem add_plain (g i : Nat) : ((⟨g, 0, none⟩ : Addr).add i) = ⟨g, i, none⟩ := by unfold Addr.add; split <;> simp_all
end Go.Proofs.Ytephciglcikllaa.Sto
