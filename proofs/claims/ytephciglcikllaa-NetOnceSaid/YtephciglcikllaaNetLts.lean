/- Rows of letters in memory. -/
import Derived.Test.YtephciglcikllaaNetMem
import Derived.Deep.AppendSrc
import Derived.Deep.AppendLies
namespace Go.Proofs.Ytephciglcikllaa.Net
open Go.RowKit Disk Zab

/-- A letter's cells; those of a row. -/
def ltC (l : Lt) (v : Value) : List Value := [.int .i64 l.fr.g, .int .i64 l.fr.n, .int .i64 l.to.g, .int .i64 l.to.n, v]
def ltsC : List Lt → List Value → List Value
  | x :: ls, v :: vs => ltC x v ++ ltsC ls vs
  | _, _ => []
theorem ltsC_length : ∀ (ls : List Lt) (vs : List Value), ls.length = vs.length → (ltsC ls vs).length = 5 * ls.length
  | [], [], _ => rfl
  | x :: ls, v :: vs, h => by
    have := ltsC_length ls vs (by simpa using h)
    rw [ltsC, List.length_append, this, List.length_cons]
    show 5 + _ = _
    omega
theorem ltsC_append : ∀ (ls : List Lt) (vs : List Value) (ms : List Lt) (us : List Value), ls.length = vs.length → ltsC (ls ++ ms) (vs ++ us) = ltsC ls vs ++ ltsC ms us
  | [], [], ms, us, _ => rfl
  | x :: ls, v :: vs, ms, us, h => by
    rw [List.cons_append, List.cons_append, ltsC, ltsC_append ls vs ms us (by simpa using h), ltsC, List.append_assoc]
theorem ltsC_snoc (ls : List Lt) (vs : List Value) (x : Lt) (v : Value) (h : ls.length = vs.length) : ltsC (ls ++ [x]) (vs ++ [v]) = ltsC ls vs ++ ltC x v := by
  rw [ltsC_append ls vs [x] [v] h]
  show _ ++ (ltC x v ++ []) = _
  rw [List.append_nil]
theorem ltsC_get : ∀ (ls : List Lt) (vs : List Value) (j i : Nat) (x : Lt) (v : Value), ls[j]? = some x → vs[j]? = some v → i < 5 → (ltsC ls vs)[5 * j + i]? = (ltC x v)[i]?
  | [], _, j, i, x, v, h, _, _ => by simp at h
  | _ :: _, [], j, i, x, v, _, h, _ => by simp at h
  | y :: ls, u :: vs, 0, i, x, v, h1, h2, hi => by
    simp at h1 h2
    subst h1 h2
    rw [ltsC, Nat.mul_zero, Nat.zero_add, List.getElem?_append_left (by exact hi)]
  | y :: ls, u :: vs, j + 1, i, x, v, h1, h2, hi => by
    rw [ltsC, List.getElem?_append_right (by show 5 ≤ _; omega)]
    have : 5 * (j + 1) + i - (ltC y u).length = 5 * j + i := by show 5 * (j + 1) + i - 5 = _; omega
    rw [this]
    exact ltsC_get ls vs j i x v (by simpa using h1) (by simpa using h2) hi
theorem ltC_one (x : Lt) {v : Value} (h : v.oneCell' = true) : ∀ u ∈ ltC x v, u.oneCell' = true := by
  intro u hu
  simp only [ltC, List.mem_cons, List.not_mem_nil, or_false] at hu
  rcases hu with rfl | rfl | rfl | rfl | rfl
  · rfl
  · rfl
  · rfl
  · rfl
  · exact h
/-- Bytes of letters, as values. -/
structure LtB (P : Nat → Prop) (w : World) (vs : List Value) (ls : List Lt) : Prop where
  len : vs.length = ls.length
  at_ : ∀ (j : Nat) (x : Lt), ls[j]? = some x → ∃ B m c, vs[j]? = some (.slice B m c) ∧ m ≤ c ∧ Rd w B m x.bs ∧ ∀ b, B = some b → 1 ≤ m → P b.block
theorem LtB.nil_ (P : Nat → Prop) (w : World) : LtB P w [] [] := ⟨rfl, fun j x hj => by simp at hj⟩
theorem LtB.out {P X : Nat → Prop} {w w' : World} {vs : List Value} {ls : List Lt} (h : LtB P w vs ls) (ho : Out X w w') (hx : ∀ k, P k → ¬ X k) : LtB P w' vs ls :=
  ⟨h.len, fun j x hj => by
    obtain ⟨B, m, c, h1, h2, h3, h4⟩ := h.at_ j x hj
    exact ⟨B, m, c, h1, h2, rd_out h3 ho (fun a ha h0 => hx _ (h4 a ha h0)), h4⟩⟩
theorem LtB.below {P : Nat → Prop} {w w' : World} {vs : List Value} {ls : List Lt} (h : LtB P w vs ls) (hb : Below w.heap.size w w') : LtB P w' vs ls := h.out (X := fun _ => False) (Out.of_below hb) fun _ _ q => q
theorem LtB.mono {P Q : Nat → Prop} {w : World} {vs : List Value} {ls : List Lt} (h : LtB P w vs ls) (hq : ∀ k, P k → Q k) : LtB Q w vs ls :=
  ⟨h.len, fun j x hj => by
    obtain ⟨B, m, c, h1, h2, h3, h4⟩ := h.at_ j x hj
    exact ⟨B, m, c, h1, h2, h3, fun b hb h0 => hq _ (h4 b hb h0)⟩⟩
theorem LtB.snoc {P : Nat → Prop} {w : World} {vs : List Value} {ls : List Lt} (h : LtB P w vs ls) {x : Lt} {B : Option Addr} {m c : Nat} (h1 : m ≤ c) (h2 : Rd w B m x.bs) (h3 : ∀ b, B = some b → 1 ≤ m → P b.block) : LtB P w (vs ++ [.slice B m c]) (ls ++ [x]) :=
  ⟨by rw [List.length_append, List.length_append, h.len]; rfl, fun j y hj => by
    rcases Nat.lt_or_ge j ls.length with hl | hl
    · rw [List.getElem?_append_left hl] at hj
      rw [List.getElem?_append_left (by rw [h.len]; exact hl)]
      exact h.at_ j y hj
    · have hlt : j < (ls ++ [x]).length := (List.getElem?_eq_some_iff.1 hj).1
      rw [List.length_append, List.length_singleton] at hlt
      have e : j = ls.length := by omega
      subst e
      rw [List.getElem?_append_right (Nat.le_refl _), Nat.sub_self] at hj
      simp at hj
      subst hj
      exact ⟨B, m, c, by rw [← h.len, List.getElem?_append_right (Nat.le_refl _), Nat.sub_self]; rfl, h1, h2, h3⟩⟩
theorem LtB.one {P : Nat → Prop} {w : World} {vs : List Value} {ls : List Lt} (h : LtB P w vs ls) : ∀ u ∈ ltsC ls vs, u.oneCell' = true := by
  suffices hh : ∀ (ls : List Lt) (vs : List Value), (∀ v ∈ vs, v.oneCell' = true) → ∀ u ∈ ltsC ls vs, u.oneCell' = true by
    refine hh ls vs fun v hv => ?_
    obtain ⟨j, hj, rfl⟩ := List.mem_iff_getElem.1 hv
    obtain ⟨B, m, c, h1, _⟩ := h.at_ j (ls[j]'(by rw [← h.len]; exact hj)) (List.getElem?_eq_getElem _)
    rw [List.getElem?_eq_getElem hj] at h1
    injection h1 with h1
    rw [h1]; rfl
  intro ls
  induction ls with
  | nil => intro vs _ u hu; cases hu
  | cons x ls ih =>
    intro vs hv u hu
    cases vs with
    | nil => cases hu
    | cons v vs =>
      rw [ltsC] at hu
      rcases List.mem_append.1 hu with q | q
      · exact ltC_one x (hv v List.mem_cons_self) u q
      · exact ih vs (fun v hv2 => hv v (List.mem_cons_of_mem _ hv2)) u q
/-- Letters that are read: the slice lies in blocks of P, the bytes too. -/
structure LtS (P : Nat → Prop) (w : World) (A : Option Addr) (n : Nat) (ls : List Lt) : Prop where
  len : ls.length = n
  at_ : ∀ (j : Nat) (x : Lt), ls[j]? = some x → ∃ b o B m c, A = some ⟨b, o, none⟩ ∧ P b ∧ (∀ i v, (ltC x (.slice B m c))[i]? = some v → w.cell? ⟨b, o + j * 5 + i, none⟩ = some v) ∧ m ≤ c ∧ Rd w B m x.bs ∧ ∀ b, B = some b → 1 ≤ m → P b.block
theorem LtS.nil_ (P : Nat → Prop) (w : World) (A : Option Addr) : LtS P w A 0 [] := ⟨rfl, fun j x hj => by simp at hj⟩
theorem LtS.out {P X : Nat → Prop} {w w' : World} {A : Option Addr} {n : Nat} {ls : List Lt} (h : LtS P w A n ls) (ho : Out X w w') (hx : ∀ k, P k → ¬ X k) : LtS P w' A n ls :=
  ⟨h.len, fun j x hj => by
    obtain ⟨b, o, B, m, c, h1, h2, h3, h4, h5, h6⟩ := h.at_ j x hj
    exact ⟨b, o, B, m, c, h1, h2, fun i v hv => (ho.cell (World.block_lt_of_cell? w _ (h3 i v hv)) (hx _ h2)).trans (h3 i v hv), h4, rd_out h5 ho (fun a ha h0 => hx _ (h6 a ha h0)), h6⟩⟩
theorem LtS.below {P : Nat → Prop} {w w' : World} {A : Option Addr} {n : Nat} {ls : List Lt} (h : LtS P w A n ls) (hb : Below w.heap.size w w') : LtS P w' A n ls := h.out (X := fun _ => False) (Out.of_below hb) fun _ _ q => q
theorem LtS.mono {P Q : Nat → Prop} {w : World} {A : Option Addr} {n : Nat} {ls : List Lt} (h : LtS P w A n ls) (hq : ∀ k, P k → Q k) : LtS Q w A n ls :=
  ⟨h.len, fun j x hj => by
    obtain ⟨b, o, B, m, c, h1, h2, h3, h4, h5, h6⟩ := h.at_ j x hj
    exact ⟨b, o, B, m, c, h1, hq _ h2, h3, h4, h5, fun b hb h0 => hq _ (h6 b hb h0)⟩⟩
/-- One letter: its cells, and where they lie. -/
theorem LtS.get {P : Nat → Prop} {w : World} {A : Option Addr} {n : Nat} {ls : List Lt} (h : LtS P w A n ls) {j : Nat} {x : Lt} (hj : ls[j]? = some x) : ∃ b o B m c, A = some ⟨b, o, none⟩ ∧ P b ∧ w.cell? ⟨b, o + j * 5, none⟩ = some (.int .i64 x.fr.g) ∧ w.cell? ⟨b, o + j * 5 + 1, none⟩ = some (.int .i64 x.fr.n) ∧ w.cell? ⟨b, o + j * 5 + 2, none⟩ = some (.int .i64 x.to.g) ∧ w.cell? ⟨b, o + j * 5 + 3, none⟩ = some (.int .i64 x.to.n) ∧ w.cell? ⟨b, o + j * 5 + 4, none⟩ = some (.slice B m c) ∧ m ≤ c ∧ Rd w B m x.bs ∧ ∀ b, B = some b → 1 ≤ m → P b.block := by
  obtain ⟨b, o, B, m, c, h1, h2, h3, h4, h5, h6⟩ := h.at_ j x hj
  exact ⟨b, o, B, m, c, h1, h2, h3 0 _ rfl, h3 1 _ rfl, h3 2 _ rfl, h3 3 _ rfl, h3 4 _ rfl, h4, h5, h6⟩
/-- A part of a row. -/
theorem LtS.take {P : Nat → Prop} {w : World} {A : Option Addr} {n : Nat} {ls : List Lt} (h : LtS P w A n ls) {k : Nat} (hk : k ≤ n) : LtS P w A k (ls.take k) :=
  ⟨by rw [List.length_take, h.len]; omega, fun j x hj => h.at_ j x (by
    rw [List.getElem?_take] at hj
    split at hj
    · exact hj
    · cases hj)⟩
theorem LtS.drop {P : Nat → Prop} {w : World} {b o n : Nat} {ls : List Lt} (h : LtS P w (some ⟨b, o, none⟩) n ls) (k : Nat) : LtS P w (some ⟨b, o + k * 5, none⟩) (n - k) (ls.drop k) :=
  ⟨by rw [List.length_drop, h.len], fun j x hj => by
    rw [List.getElem?_drop] at hj
    obtain ⟨b', o', B, m, c, h1, h2, h3, h4⟩ := h.at_ _ x hj
    injection h1 with h1
    injection h1 with h1 h1'
    subst h1 h1'
    exact ⟨b, o + k * 5, B, m, c, rfl, h2, fun i v hv => by
      have := h3 i v hv
      rwa [show o + (k + j) * 5 + i = o + k * 5 + j * 5 + i from by omega] at this, h4⟩⟩
/-- A row of one's own whose cells are letters. -/
theorem lts_of_row {P : Nat → Prop} {w : World} {base : Nat} {A : Option Addr} {n c : Nat} {ls : List Lt} {vs : List Value} (h : w.ownsRow base 37 5 (.slice A n c) n (ltsC ls vs)) (hn : ls.length = n) (hv : LtB P w vs ls) : LtS (fun b => P b ∨ base ≤ b) w A n ls := by
  refine ⟨hn, fun j x hj => ?_⟩
  obtain ⟨B, m, c2, h1, h2, h3, h4⟩ := hv.at_ j x hj
  have hjl := (List.getElem?_eq_some_iff.1 hj).1
  rcases h.2 with ⟨_, h0⟩ | ⟨g, cap, cur, e, hg, hh, _⟩
  · omega
  · injection e with e
    subst e
    refine ⟨g, 0, B, m, c2, rfl, .inr hg, fun i v hi => ?_, h2, h3, fun b hb h0 => .inl (h4 b hb h0)⟩
    have hi5 : i < 5 := (List.getElem?_eq_some_iff.1 hi).1
    have := h.cells (g := g) rfl _ v ((ltsC_get ls vs j i x _ hj h1 hi5).trans hi)
    rw [plus_add] at this
    rw [show 0 + j * 5 + i = 5 * j + i from by omega]
    exact this
/-- One letter in a block of its own. -/
theorem lts_one {P : Nat → Prop} {w : World} {g : Nat} {l : Lt} {B : Option Addr} {m c : Nat} (hb : Bk w g 37 (ltA l (.slice B m c))) (hg : P g) (hm : m ≤ c) (hr : Rd w B m l.bs) (hP : ∀ b, B = some b → 1 ≤ m → P b.block) : LtS P w (some ⟨g, 0, none⟩) 1 [l] :=
  ⟨rfl, fun j x hj => by
    have hj0 : j = 0 := by have := (List.getElem?_eq_some_iff.1 hj).1; simpa using this
    subst hj0
    simp at hj
    subst hj
    exact ⟨g, 0, B, m, c, rfl, hg, fun i v hv => by
      have := hb.cell i
      rw [show 0 + 0 * 5 + i = i from by omega, this]
      have e : (ltA l (.slice B m c))[i]? = (ltC l (.slice B m c))[i]? := by unfold ltA ltC; simp
      rw [e, hv], hm, hr, hP⟩⟩
theorem info_letter : (Try.prog.info? 37).map (fun i => (i.zero, i.size, i.bytes)) = some (some (.agg #[.int .i64 0, .int .i64 0, .int .i64 0, .int .i64 0, .slice none 0 0]), 5, 56) := by kernel_rfl
theorem ty_letters : Try.prog.underlying 46 = some (.slice 37) := by kernel_rfl
end Go.Proofs.Ytephciglcikllaa.Net
