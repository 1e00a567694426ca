/- Nodes and effects as values and in memory; memory that belongs to trees. -/
import Derived.Test.YtplbckibogmicaaGreatDoorTreeGood
import Derived.Test.YtplbckibogmicaaGreatDoorPathCode
import Derived.Laws.IdiomStrings
namespace Go.Proofs.YtplbckibogmicaaGreatDoor.Tree
open Go.RowKit Path

/-- A node's cells, an effect's; a node's data lie at d. -/
def znC (n : ZN) (d : Value) : List Value := [d, .int .u32 n.ver, .int .u32 n.kin, .int .u32 n.next, .int .i64 n.site, .int .u32 n.own, .int .u64 n.made, .int .u64 n.chg, .int .u64 n.tch]
def efC (x : Ef) (d : Value) : List Value := .string (S x.path) :: .bool x.gone :: znC x.node d
/-- Their values. -/
def znV (n : ZN) (d : Value) : Value := .agg (znC n d).toArray
def efV (x : Ef) (d : Value) : Value := .agg (efC x d).toArray

theorem ty_bytes : Tryz.prog.underlying 33 = some (.slice 5) := by kernel_rfl
theorem ty_byte : Tryz.prog.underlying 5 = some (.int .u8) := by kernel_rfl
/-- '[]byte(s)'. -/
theorem bytes_of (p : List UInt8) (w : World) : ∃ (c : Nat) (C : Array Value) (fz : Nat × Nat), (convert 9 33 (.string (S p))).run Tryz.prog w = .ok (.slice (some ⟨w.heap.size, 0, none⟩) p.length c) (w.drew.alloc (.cells C 5 fz)) ∧ p.length ≤ c ∧ ∀ (j : Nat) (b : UInt8), p[j]? = some b → C[j]? = some (U b) := by
  have h := run_bytes_of_string (P := Tryz.prog) w 9 33 5 (S p) ty_string ty_bytes ty_byte
  rw [S_size] at h
  refine ⟨_, _, _, h, grownCap_ge _ _ _ _, fun j b hb => ?_⟩
  have hj : j < p.length := (List.getElem?_eq_some_iff.1 hb).1
  have hsz : (S p).data.size = p.length := by simp [S]
  unfold bytesRow
  rw [Array.getElem?_append_left (by simp [hsz, hj]), Array.getElem?_map]
  have : (S p).data[j]? = some b := by simpa [S] using hb
  rw [this]
  rfl
/-- A block of bytes reads as them. -/
theorem Rd.of_block {w : World} {g : Nat} {C : Array Value} {e : TypeId} {fz : Nat × Nat} {p : List UInt8} (h : w.heap[g]? = some (.cells C e fz)) (hc : ∀ (j : Nat) (b : UInt8), p[j]? = some b → C[j]? = some (U b)) : Rd w (some ⟨g, 0, none⟩) p.length p :=
  ⟨rfl, fun _ => ⟨_, rfl, fun j b hb => by
    have : w.cell? ⟨g, 0 + j, none⟩ = some (U b) := by
      simp only [World.cell?, h]
      rw [Nat.zero_add]
      exact hc j b hb
    unfold Addr.add
    by_cases hj0 : j = 0
    · subst hj0; simpa using this
    · simpa [hj0] using this⟩⟩

/-- Behind w all blocks but those of X are as they were. -/
structure Out (X : Nat → Prop) (w w' : World) : Prop where
  os : w'.os = w.os
  tape : w'.tape = w.tape
  output : w'.output = w.output
  size : w.heap.size ≤ w'.heap.size
  block : ∀ k, k < w.heap.size → ¬ X k → w'.heap[k]? = w.heap[k]?
theorem Out.of_below {X : Nat → Prop} {w w' : World} (h : Below w.heap.size w w') : Out X w w' := ⟨h.os, h.tape, h.output, h.size, fun k hk _ => h.block k hk⟩
theorem Out.refl (X : Nat → Prop) (w : World) : Out X w w := ⟨rfl, rfl, rfl, Nat.le_refl _, fun _ _ _ => rfl⟩
theorem Out.trans {X X' : Nat → Prop} {w w1 w2 : World} (h1 : Out X w w1) (h2 : Out X' w1 w2) (hx : ∀ k, X' k → X k ∨ w.heap.size ≤ k) : Out X w w2 :=
  ⟨h2.os.trans h1.os, h2.tape.trans h1.tape, h2.output.trans h1.output, Nat.le_trans h1.size h2.size, fun k hk hX => (h2.block k (Nat.lt_of_lt_of_le hk h1.size) (fun h => (hx k h).elim hX (by omega))).trans (h1.block k hk hX)⟩
theorem Out.below {X : Nat → Prop} {B : Nat} {w0 w w' : World} (h : Out X w w') (hb : Below B w0 w) (hX : ∀ k, X k → B ≤ k) (hB : B ≤ w.heap.size) : Below B w0 w' :=
  ⟨h.os.trans hb.os, h.tape.trans hb.tape, h.output.trans hb.output, Nat.le_trans hb.size h.size, fun k hk => (h.block k (by omega) (fun hx => by have := hX k hx; omega)).trans (hb.block k hk)⟩
theorem Out.cell {X : Nat → Prop} {w w' : World} (h : Out X w w') {p : Addr} (hp : p.block < w.heap.size) (hX : ¬ X p.block) : w'.cell? p = w.cell? p := World.cell?_of_block (w := w) (h.block p.block hp hX)

theorem add_block (a : Addr) (j : Nat) : (a.add j).block = a.block := by unfold Addr.add; split <;> rfl
theorem add_off (g j : Nat) : (⟨g, 0, none⟩ : Addr).add j = ⟨g, j, none⟩ := by
  unfold Addr.add
  by_cases h : j = 0
  · subst h; simp
  · simp [h]
/-- The bytes at d, in blocks of P. -/
def DataS (P : Nat → Prop) (w : World) (d : Value) (bs : List UInt8) : Prop := ∃ A n c, d = .slice A n c ∧ n ≤ c ∧ (0 < n → ∀ ad, A = some ad → P ad.block) ∧ Rd w A n bs
theorem DataS.out {P X : Nat → Prop} {w w' : World} {d : Value} {bs : List UInt8} (h : DataS P w d bs) (ho : Out X w w') (hx : ∀ k, P k → ¬ X k) : DataS P w' d bs := by
  obtain ⟨A, n, c, e, hc, hP, hr⟩ := h
  refine ⟨A, n, c, e, hc, hP, hr.len, fun h0 => ?_⟩
  obtain ⟨ad, rfl, hcell⟩ := hr.cells h0
  exact ⟨ad, rfl, fun j b hb => (ho.cell (World.block_lt_of_cell? w _ (hcell j b hb)) (by rw [add_block]; exact hx _ (hP h0 ad rfl))).trans (hcell j b hb)⟩
theorem DataS.below {P : Nat → Prop} {w w' : World} {d : Value} {bs : List UInt8} (h : DataS P w d bs) (hb : Below w.heap.size w w') : DataS P w' d bs := h.out (X := fun _ => False) (.of_below hb) (fun _ _ h => h)
theorem DataS.mono {P Q : Nat → Prop} {w : World} {d : Value} {bs : List UInt8} (h : DataS P w d bs) (hpq : ∀ k, P k → Q k) : DataS Q w d bs := by
  obtain ⟨A, n, c, e, hc, hP, hr⟩ := h
  exact ⟨A, n, c, e, hc, fun h0 ad e => hpq _ (hP h0 ad e), hr⟩
theorem DataS.nil_ (P : Nat → Prop) (w : World) : DataS P w (.slice none 0 0) [] := ⟨none, 0, 0, rfl, Nat.le_refl _, (fun _ ad h => by cases h), Rd.nil_ _ _⟩

/-- The slice '.slice A n c' reads as these effects, in blocks of P. -/
structure EfS (P : Nat → Prop) (w : World) (A : Option Addr) (n : Nat) (xs : List Ef) : Prop where
  len : xs.length = n
  cells : ∀ j, (h : j < xs.length) → ∃ ad d, A = some ad ∧ P ad.block ∧ DataS P w d xs[j].node.data ∧ ∀ (i : Nat) (v : Value), (efC xs[j] d)[i]? = some v → w.cell? (ad.add (11 * j + i)) = some v
theorem EfS.out {P X : Nat → Prop} {w w' : World} {A : Option Addr} {n : Nat} {xs : List Ef} (h : EfS P w A n xs) (ho : Out X w w') (hx : ∀ k, P k → ¬ X k) : EfS P w' A n xs :=
  ⟨h.len, fun j hj => by
    obtain ⟨ad, d, e, hP, hd, hc⟩ := h.cells j hj
    exact ⟨ad, d, e, hP, hd.out ho hx, fun i v hv => (ho.cell (World.block_lt_of_cell? w _ (hc i v hv)) (by rw [add_block]; exact hx _ hP)).trans (hc i v hv)⟩⟩
theorem EfS.below {P : Nat → Prop} {w w' : World} {A : Option Addr} {n : Nat} {xs : List Ef} (h : EfS P w A n xs) (hb : Below w.heap.size w w') : EfS P w' A n xs := h.out (X := fun _ => False) (.of_below hb) (fun _ _ h => h)
theorem EfS.nil_ (P : Nat → Prop) (w : World) (A : Option Addr) : EfS P w A 0 [] := ⟨rfl, fun j h => absurd h (by simp)⟩
theorem efC_length (x : Ef) (d : Value) : (efC x d).length = 11 := rfl
theorem flat_at : ∀ (l : List (Ef × Value)) (j : Nat) (h : j < l.length) {i : Nat} (_ : i < 11), (l.flatMap fun y => efC y.1 y.2)[11 * j + i]? = (efC l[j].1 l[j].2)[i]?
  | [], _, h, _, _ => absurd h (by simp)
  | y :: l, 0, _, _, hi => by rw [List.flatMap_cons, Nat.mul_zero, Nat.zero_add, List.getElem?_append_left (by rw [efC_length]; exact hi)]; rfl
  | y :: l, j + 1, h, i, hi => by
    rw [List.flatMap_cons, List.getElem?_append_right (by rw [efC_length]; omega), efC_length, show 11 * (j + 1) + i - 11 = 11 * j + i by omega]
    exact flat_at l j (by simpa using h) hi
/-- '[]api.Effect{..}'. -/
theorem EfS.lit {P : Nat → Prop} {w : World} {e : TypeId} (xds : List (Ef × Value)) (hP : P w.heap.size) (hd : ∀ y ∈ xds, DataS P w y.2 y.1.node.data) :
    EfS P (w.alloc (.cells (xds.flatMap fun y => efC y.1 y.2).toArray e)) (some ⟨w.heap.size, 0, none⟩) xds.length (xds.map (·.1)) :=
  ⟨by simp, fun j hj => by
    have hj' : j < xds.length := by simpa using hj
    refine ⟨_, xds[j].2, rfl, hP, ?_, fun i v hv => ?_⟩
    · rw [List.getElem_map]
      exact (hd _ (List.getElem_mem hj')).below ((Below.refl _ _).alloc (Nat.le_refl _) _)
    · rw [List.getElem_map] at hv
      have hi : i < 11 := by
        have := (List.getElem?_eq_some_iff.1 hv).1
        rwa [efC_length] at this
      have hflat : ∀ (l : List (Ef × Value)) (j : Nat) (h : j < l.length), (l.flatMap fun y => efC y.1 y.2)[11 * j + i]? = (efC l[j].1 l[j].2)[i]? := by
        intro l
        induction l with
        | nil => intro j h; exact absurd h (by simp)
        | cons y l ih =>
          intro j h
          rw [List.flatMap_cons]
          cases j with
          | zero => rw [Nat.mul_zero, Nat.zero_add, List.getElem?_append_left (by rw [efC_length]; exact hi)]; rfl
          | succ j =>
            rw [List.getElem?_append_right (by rw [efC_length]; omega), efC_length, show 11 * (j + 1) + i - 11 = 11 * j + i by omega]
            exact ih j (by simpa using h)
      have hcell : ∀ (o : Obj), (w.alloc o).heap[w.heap.size]? = some o := fun o => by
        show (w.heap.push o)[w.heap.size]? = some o
        simp
      rw [add_off]
      simp only [World.cell?, hcell]
      rw [List.getElem?_toArray, hflat xds j hj']
      exact hv⟩
end Go.Proofs.YtplbckibogmicaaGreatDoor.Tree
