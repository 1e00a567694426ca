/- Words for bytes in memory: a slice that reads as a list of bytes, and how that is kept. It speaks of no program. -/
import Derived.WalkKit
import Derived.Lib.Hide
import Derived.Laws.CopyOwn
namespace Go.Proofs.Ytephciglcikllaa
open Go.RowKit

/-- A byte as a cell. -/
def U (b : UInt8) : Value := .int .u8 (b.toNat : Int)

theorem U_one (b : UInt8) : (U b).oneCell' = true := rfl
theorem U_all (bs : List UInt8) : ∀ v ∈ bs.map U, v.oneCell' = true := by
  intro v hv
  obtain ⟨b, _, rfl⟩ := List.mem_map.1 hv
  rfl

theorem addr_add_block (a : Addr) (k : Nat) : (a.add k).block = a.block := by
  unfold Addr.add
  split <;> rfl
theorem addr_add_add (a : Addr) (i j : Nat) : (a.add i).add j = a.add (i + j) := by
  unfold Addr.add
  by_cases h1 : i = 0
  · simp [h1]
  · by_cases h2 : j = 0
    · simp [h2]
    · simp [h1, h2, Nat.add_assoc]

/-- The slice '.slice A n c' reads as the bytes bs. -/
structure Rd (w : World) (A : Option Addr) (n : Nat) (bs : List UInt8) : Prop where
  len : bs.length = n
  cells : 0 < n → ∃ ad, A = some ad ∧ ∀ j b, bs[j]? = some b → w.cell? (ad.add j) = some (U b)

theorem Rd.nil_ (w : World) (A : Option Addr) : Rd w A 0 [] := ⟨rfl, fun h => absurd h (by omega)⟩

/-- Any change that leaves each of its cells alone. -/
theorem Rd.keep {w w' : World} {A : Option Addr} {n : Nat} {bs : List UInt8} (h : Rd w A n bs)
    (hk : ∀ (p : Addr) (b : UInt8), w.cell? p = some (U b) → w'.cell? p = some (U b)) : Rd w' A n bs :=
  ⟨h.len, fun hn => by
    obtain ⟨ad, e, hc⟩ := h.cells hn
    exact ⟨ad, e, fun j b hb => hk _ _ (hc j b hb)⟩⟩

theorem Rd.below {w w' : World} {A : Option Addr} {n : Nat} {bs : List UInt8} (h : Rd w A n bs) (hb : Below w.heap.size w w') : Rd w' A n bs :=
  h.keep fun p _ hp => (hb.cell (World.block_lt_of_cell? w p hp)).trans hp

/-- A block of cells, known whole. -/
def Bk (w : World) (g : Nat) (t : TypeId) (cs : Array Value) : Prop := w.heap[g]? = some (.cells cs t (0, 0))

theorem Bk.lt {w : World} {g : Nat} {t : TypeId} {cs : Array Value} (h : Bk w g t cs) : g < w.heap.size := (Array.getElem?_eq_some_iff.1 h).1
theorem Bk.cell {w : World} {g : Nat} {t : TypeId} {cs : Array Value} (h : Bk w g t cs) (i : Nat) : w.cell? ⟨g, i, none⟩ = cs[i]? := by
  unfold Bk at h
  simp [World.cell?, h]
theorem Bk.frozen {w : World} {g : Nat} {t : TypeId} {cs : Array Value} (h : Bk w g t cs) (i : Nat) : w.frozen? ⟨g, i, none⟩ = false := by
  unfold Bk at h
  simp [World.frozen?, h]
theorem Bk.kept {w w' : World} {g : Nat} {t : TypeId} {cs : Array Value} (h : Bk w g t cs) (hb : w'.heap[g]? = w.heap[g]?) : Bk w' g t cs := hb.trans h
theorem Bk.below {w w' : World} {g : Nat} {t : TypeId} {cs : Array Value} (h : Bk w g t cs) (hb : Below w.heap.size w w') : Bk w' g t cs := h.kept (hb.block g h.lt)
theorem Bk.alloc {w : World} {g : Nat} {t : TypeId} {cs : Array Value} (h : Bk w g t cs) (o : Obj) : Bk (w.alloc o) g t cs := h.kept (Below.heap_alloc w o g h.lt)
theorem Bk.new (w : World) (t : TypeId) (cs : Array Value) : Bk (w.alloc (.cells cs t)) w.heap.size t cs := heap_alloc_new w _
theorem Bk.set {w : World} {g : Nat} {t : TypeId} {cs : Array Value} (h : Bk w g t cs) (i : Nat) (u : Value) : Bk (w.setCell ⟨g, i, none⟩ u) g t (cs.setIfInBounds i u) := by
  unfold Bk at h ⊢
  simp [World.setCell, Array.getElem?_modify, h]

/-- What lies in a block of which no cell is a byte is not touched by a store there. -/
theorem cell_ne_block {w : World} {g : Nat} {t : TypeId} {cs : Array Value} (h : Bk w g t cs) (hn : ∀ (i : Nat) (b : UInt8), cs[i]? ≠ some (U b))
    {p : Addr} {b : UInt8} (hp : w.cell? p = some (U b)) : p.block ≠ g := by
  rintro rfl
  unfold Bk at h
  simp only [World.cell?, h] at hp
  split at hp
  · cases hp
  · exact hn _ _ hp

theorem Rd.setCell {w : World} {g : Nat} {t : TypeId} {cs : Array Value} (h : Bk w g t cs) (hn : ∀ (i : Nat) (b : UInt8), cs[i]? ≠ some (U b))
    {A : Option Addr} {n : Nat} {bs : List UInt8} (hr : Rd w A n bs) (i : Nat) (u : Value) : Rd (w.setCell ⟨g, i, none⟩ u) A n bs :=
  hr.keep fun p _ hp => (World.cell?_of_block (Below.heap_setCell w _ u p.block (cell_ne_block h hn hp))).trans hp

theorem Rd.grown {w w' : World} {g : Nat} {t : TypeId} {cs : Array Value} (h : Bk w g t cs) (hn : ∀ (i : Nat) (b : UInt8), cs[i]? ≠ some (U b))
    {A : Option Addr} {n : Nat} {bs : List UInt8} (hr : Rd w A n bs) (hg : w.grownBy w' (some g)) : Rd w' A n bs :=
  hr.keep fun p _ hp => (World.cell?_of_block (hg.block p.block (World.block_lt_of_cell? w p hp) (fun e => cell_ne_block h hn hp (by injection e)))).trans hp

/-- The first k bytes: 'x[:k]'. -/
theorem Rd.take {w : World} {A : Option Addr} {n : Nat} {bs : List UInt8} (h : Rd w A n bs) {k : Nat} (hk : k ≤ n) : Rd w A k (bs.take k) :=
  ⟨by rw [List.length_take, h.len]; omega, fun h0 => by
    obtain ⟨ad, e, hc⟩ := h.cells (by omega)
    refine ⟨ad, e, fun j b hb => hc j b ?_⟩
    rw [List.getElem?_take] at hb
    split at hb
    · exact hb
    · cases hb⟩

/-- What stands behind the first k bytes: 'x[k:]', in the model's own form. -/
theorem Rd.drop {w : World} {A : Option Addr} {n : Nat} {bs : List UInt8} (h : Rd w A n bs) {k c : Nat} (hk : k ≤ n) (hc : n ≤ c) :
    Rd w (if c = k then A else A.map (·.add k)) (n - k) (bs.drop k) :=
  ⟨by rw [List.length_drop, h.len], fun h0 => by
    obtain ⟨ad, rfl, hcell⟩ := h.cells (by omega)
    rw [if_neg (by omega)]
    refine ⟨ad.add k, rfl, fun j b hb => ?_⟩
    rw [addr_add_add]
    rw [List.getElem?_drop] at hb
    exact hcell _ b hb⟩

/-- A row of the call's own reads as its bytes. -/
theorem Rd.of_own {w : World} {base : Nat} {e : TypeId} {A : Option Addr} {n m c : Nat} {bs : List UInt8} (h : w.ownsRow base e 1 (.slice A n c) m (bs.map U)) : Rd w A n bs ∧ n = m := by
  have hl := h.1
  simp at hl
  rcases h.2 with ⟨e1, rfl⟩ | ⟨g, cap, cur, e1, _, hh, hnc, _, hs, ht⟩
  · injection e1 with e1 e2 e3
    subst e2
    exact ⟨⟨hl, fun h0 => absurd h0 (by omega)⟩, rfl⟩
  · injection e1 with e1 e2 e3
    subst e1 e2 e3
    refine ⟨⟨hl, fun _ => ⟨_, rfl, fun j b hb => ?_⟩⟩, rfl⟩
    have hj : j < n := by
      have := (List.getElem?_eq_some_iff.1 hb).1
      omega
    have : w.cell? ⟨g, 0 + j, none⟩ = some (U b) := by
      simp only [World.cell?, hh]
      rw [Nat.mul_one] at ht
      have h2 : (cur.toList.take n)[j]? = some (U b) := by rw [ht, List.getElem?_map, hb]; rfl
      rw [List.getElem?_take, if_pos hj] at h2
      simpa using h2
    unfold Addr.add
    by_cases hj0 : j = 0
    · subst hj0; simpa using this
    · simpa [hj0] using this

theorem info_u8 {P : Program} {e : TypeId} {i : TypeInfo} (h1 : P.info? e = some i) (h2 : i.size = 1) : (P.info? e).map (·.size) = some 1 := by simp [h1, h2]

/-- A string of bytes. -/
def S (bs : List UInt8) : ByteArray := ⟨bs.toArray⟩

theorem ofNat_toNat_u8 (b : UInt8) : UInt8.ofNat ((b.toNat : Int)).toNat = b := by simp

theorem foldl_U (bs : List UInt8) : (bs.map fun b => (b.toNat : Int)).foldl (fun r n => r.push (UInt8.ofNat n.toNat)) ByteArray.empty = S bs := by
  rw [foldl_push_bytes]
  have : (List.map (fun n : Int => UInt8.ofNat n.toNat) (bs.map fun b : UInt8 => (b.toNat : Int))) = bs := by
    rw [List.map_map]
    refine (List.map_congr_left (g := id) (fun b _ => ?_)).trans (List.map_id bs)
    exact ofNat_toNat_u8 b
  rw [this]
  simp [ByteArray.empty, ByteArray.emptyWithCapacity, S]
  rfl

/-- 'string(x)'. -/
theorem run_string_Rd {P : Program} {w : World} {A : Option Addr} {n : Nat} {bs : List UInt8} (src dst e : TypeId) (hs : P.underlying src = some (.slice e)) (he : P.underlying e = some (.int .u8)) (hd : P.underlying dst = some .string)
    (h : Rd w A n bs) (c : Nat) : (convert src dst (.slice A n c)).run P w = .ok (.string (S bs)) w := by
  have hl := h.len
  by_cases h0 : 0 < n
  · obtain ⟨ad, rfl, hc⟩ := h.cells h0
    have h1 : (loadCells ad n).run P w = .ok ((bs.map fun b : UInt8 => (b.toNat : Int)).map (Value.int .u8)).toArray w := by
      have := run_loadCells_list (P := P) w ad (bs.map U) (fun j v hj => by
        rw [List.getElem?_map] at hj
        cases hb : bs[j]? with
        | none => rw [hb] at hj; cases hj
        | some b =>
          rw [hb] at hj
          injection hj with hj
          subst hj
          exact hc j b hb)
      rw [List.length_map, hl] at this
      rw [this, List.map_map]
      rfl
    rw [run_convert_bytes_string w src dst e _ n c hs he hd, run_bytesToString w _ n c _ h1, foldl_U]
  · have hn : n = 0 := by omega
    subst hn
    have hb : bs = [] := List.eq_nil_of_length_eq_zero hl
    subst hb
    rw [run_convert_bytes_string w src dst e _ 0 c hs he hd]
    cases A with
    | none =>
      simp [Conv.bytesToString, S, ByteArray.empty, ByteArray.emptyWithCapacity]
      rfl
    | some ad =>
      have h1 : (loadCells ad 0).run P w = .ok (([] : List Int).map (Value.int .u8)).toArray w := by simp [loadCells, loadCellsFrom]
      rw [run_bytesToString w _ 0 c _ h1]
      rfl

/-- 'make([]byte, n, C)'. -/
theorem run_make_bytes {P : Program} {t e : TypeId} {i : TypeInfo} (ht : P.underlying t = some (.slice e)) (hi : P.info? e = some i) (hz : i.zero = some (.int .u8 0)) (hs : i.size = 1) (hb : i.bytes = 1)
    (kl kc : IntKind) (n : Nat) (C : Int) (hn : n ≤ C) (hC : C ≤ 281474976710656) (w : World) :
    (Instr.makeSlice t (.int kl (n : Int)) (.int kc C)).run P w = .ok (.slice (some ⟨w.heap.size, 0, none⟩) n C.toNat) (w.alloc (.cells (List.replicate C.toNat (U 0)).toArray e)) := by
  have hr := run_make (P := P) w t e i _ ht hi hz kl kc n C (by omega) hn (by rw [hb]; omega) (by omega)
  rw [hr, hs, Nat.mul_one]
  have h1 : madeCells (Value.int .u8 0).cells C.toNat = (List.replicate C.toNat (U 0)).toArray := by
    have := toList_madeCells_one (Value.int .u8 0) C.toNat
    rw [← Array.toList_inj]
    exact this
  rw [h1]
  simp

theorem setRow_alloc (w : World) (cur cs : Array Value) (e : TypeId) : (w.alloc (.cells cur e)).setRow w.heap.size cs = w.alloc (.cells cs e) := by
  unfold World.setRow World.alloc
  simp only [World.mk.injEq, and_true]
  apply Array.ext_getElem?
  intro k
  rw [Array.getElem?_modify, Array.getElem?_push, Array.getElem?_push]
  by_cases hk : k = w.heap.size
  · subst hk; simp
  · have : w.heap.size ≠ k := fun h => hk h.symm
    simp [this, hk]

/-- 'copy(out, x)', out a row that was just made, no shorter than x. -/
theorem run_copy_Rd {P : Program} {w : World} {dT sT ty e : TypeId} {A : Option Addr} {n : Nat} {bs : List UInt8} (hu : P.underlying dT = some (.slice e)) (hs : (P.info? e).map (·.size) = some 1)
    (h : Rd w A n bs) (cur : List Value) (hcur : n ≤ cur.length) (C c : Nat) :
    (Builtin.copy_ #[dT, sT] ty #[.slice (some ⟨w.heap.size, 0, none⟩) n C, .slice A n c]).run P (w.alloc (.cells cur.toArray e)) = .ok (.int .i64 (n : Int)) (w.alloc (.cells (bs.map U ++ cur.drop n).toArray e)) := by
  have hl := h.len
  by_cases h0 : 0 < n
  · obtain ⟨ad, rfl, hc⟩ := h.cells h0
    have := run_copy_row P (w.alloc (.cells cur.toArray e)) dT sT ty e w.heap.size 0 n C ad n c cur.toArray e (bs.map U) hu hs (heap_alloc_new w _) (by simp [hl])
      (fun j v hj => by
        rw [List.getElem?_map] at hj
        cases hb : bs[j]? with
        | none => rw [hb] at hj; cases hj
        | some b =>
          rw [hb] at hj
          injection hj with hj
          subst hj
          have hx := hc j b hb
          rw [World.cell?_alloc_lt _ _ _ (World.block_lt_of_cell? w _ hx)]
          exact hx)
      (by simp [hl]; exact hcur) (U_all bs)
    rw [this, setRow_alloc]
    simp [hl, goInt]
  · have hn : n = 0 := by omega
    subst hn
    have hb : bs = [] := List.eq_nil_of_length_eq_zero hl
    subst hb
    have := run_copy_none (P := P) (w.alloc (.cells cur.toArray e)) dT sT ty e (some ⟨w.heap.size, 0, none⟩) A 0 C 0 c hu hs (by simp)
    rw [this]
    simp [goInt]

/-- The last k bytes of x, the highest first. -/
def be : Nat → Nat → List UInt8
  | 0, _ => []
  | k + 1, x => UInt8.ofNat (x / 256 ^ k) :: be k x

theorem be_length (k x : Nat) : (be k x).length = k := by
  induction k with
  | zero => rfl
  | succ k ih => simp [be, ih]

theorem one_new (w : World) (z : Value) (e : TypeId) : ∀ j u, [z][j]? = some u → (w.alloc (.cells #[z] e)).cell? ((⟨w.heap.size, 0, none⟩ : Addr).add j) = some u := by
  intro j u hu
  have hj : j = 0 := by
    have := (List.getElem?_eq_some_iff.1 hu).1
    simp at this
    omega
  subst hj
  simp [Addr.add] at hu ⊢
  exact hu

theorem byte_shift (x r : Nat) : Value.int .u8 ((x : Int) / 2 ^ (8 * r) % 256) = U (UInt8.ofNat (x / 256 ^ r)) := by
  unfold U
  congr 1
  have h : (2 : Nat) ^ (8 * r) = 256 ^ r := by rw [Nat.pow_mul]
  have h2 : ((x : Int) / 2 ^ (8 * r) % 256) = ((x / 2 ^ (8 * r) % 256 : Nat) : Int) := by simp
  rw [h2, h]
  simp

theorem take_be (k x r : Nat) (hr : r < k) : (be k x).take (k - r) = (be k x).take (k - (r + 1)) ++ [UInt8.ofNat (x / 256 ^ r)] := by
  induction k with
  | zero => omega
  | succ k ih =>
    by_cases h : r = k
    · subst h
      simp [be, show r + 1 - r = 1 from by omega]
    · have e1 : k + 1 - r = (k - r) + 1 := by omega
      have e2 : k + 1 - (r + 1) = (k - (r + 1)) + 1 := by omega
      rw [e1, e2]
      simp only [be, List.take_succ_cons, List.cons_append]
      rw [ih (by omega)]

theorem wrap_wrap64 (x : Nat) (hx : x < 18446744073709551616) : IntKind.u64.wrap (wrap64 (x : Int)) = x := by
  rw [IntKind.wrap_u64]
  unfold wrap64
  omega

/-- 'append(out, x...)', out a row of the call's own, x any bytes (nil let in). -/
theorem run_append_Rd {P : Program} {w : World} {t ty e : TypeId} {i : TypeInfo} {z : Value} (ht : P.underlying t = some (.slice e)) (hi : P.info? e = some i) (hz : i.zero = some z) (hs : i.size = 1) (hb : i.bytes = 1) (hzs : z.cells.size = 1)
    {base : Nat} {v : Value} {n : Nat} {xs : List Value} (hown : w.ownsRow base e 1 v n xs) {A : Option Addr} {m : Nat} {bs : List UInt8} (h : Rd w A m bs) (c : Nat) (hm : n + m ≤ 140737488355328) (hbase : base ≤ w.heap.size) :
    ∃ v' w', (Builtin.append_ #[t, t] ty #[v, .slice A m c]).run P w = .ok v' w' ∧ w'.ownsRow base e 1 v' (n + m) (xs ++ bs.map U) ∧ w.grownBy w' v.ownBlock := by
  have hl := h.len
  have hcells : ∀ ad, A = some ad → ∀ j u, (bs.map U)[j]? = some u → w.cell? (ad.add j) = some u := by
    intro ad had j u hu
    rw [List.getElem?_map] at hu
    cases hb : bs[j]? with
    | none => rw [hb] at hu; cases hu
    | some b =>
      rw [hb] at hu
      injection hu with hu
      subst hu
      have h0 : 0 < m := by
        have := (List.getElem?_eq_some_iff.1 hb).1
        omega
      obtain ⟨ad', e', hc⟩ := h.cells h0
      rw [had] at e'
      injection e' with e'
      subst e'
      exact hc j b hb
  cases A with
  | some ad =>
    obtain ⟨v', w', h1, h2, h3, _⟩ := run_append_own (P := P) w base t ty e i z 1 1 ht hi hz hs hb hzs (by decide) v n xs hown ad m c (bs.map U) (by simp [hl]) (hcells ad rfl) (U_all bs) (by unfold maxLen; omega) (by omega) hbase
    exact ⟨v', w', h1, h2, h3⟩
  | none =>
    have hm0 : m = 0 := by
      rcases Nat.eq_zero_or_pos m with h0 | h0
      · exact h0
      · obtain ⟨_, e', _⟩ := h.cells h0
        cases e'
    subst hm0
    have hb0 : bs = [] := List.eq_nil_of_length_eq_zero hl
    subst hb0
    refine ⟨v, w, ?_, by simpa using hown, ⟨rfl, rfl, rfl, Nat.le_refl _, fun _ _ _ => rfl⟩⟩
    rcases hown.2 with ⟨rfl, rfl⟩ | ⟨g, cap, cur, rfl, _, _, hnc, _⟩
    · simp [Builtin.append_, run_underlying ht, sizeOf, typeInfo, hi, Builtin.lenOf, Builtin.firstCells]
    · simp [Builtin.append_, run_underlying ht, sizeOf, typeInfo, hi, Builtin.lenOf, Builtin.firstCells, hnc, storeCells]

theorem wpList_append_Rd {P : Program} {w : World} {ops : Array Oper} {rest : List Oper} {o : Oper} {a : Act} {Q : Exit → Act → World → Prop} (hgd : o.guard = none) (s x : Operand) (t : TypeId)
    (ho : o.op = .call { callee := .builtin .append, args := #[s, x], argTypes := #[t, t] }) {e : TypeId} {i : TypeInfo} {z : Value} (ht : P.underlying t = some (.slice e)) (hi : P.info? e = some i) (hz : i.zero = some z) (hsz : i.size = 1) (hb : i.bytes = 1) (hzs : z.cells.size = 1)
    {base : Nat} {v : Value} {n : Nat} {xs : List Value} (hs : a.eval s = v) (hown : w.ownsRow base e 1 v n xs) {A : Option Addr} {m c : Nat} {bs : List UInt8} (hx : a.eval x = .slice A m c) (h : Rd w A m bs) (hm : n + m ≤ 140737488355328) (hbase : base ≤ w.heap.size)
    (hK : ∀ v' w', w'.ownsRow base e 1 v' (n + m) (xs ++ bs.map U) → w.grownBy w' v.ownBlock → wpList P ops Q rest (a.put o.dst v') w') : wpList P ops Q (o :: rest) a w := by
  obtain ⟨v', w', h1, h2, h3⟩ := run_append_Rd (ty := o.type) ht hi hz hsz hb hzs hown h c hm hbase
  refine wpList_plain hgd fun K hK' => ?_
  unfold Oper.wp execOp
  simp only [ho, resolve, invoke, builtin, Sem.run_bind, Sem.run_pure, Result.andThen_ok, List.map_toArray, List.map_cons, List.map_nil, hs, hx, h1]
  exact hK' _ _ (hK v' w' h2 h3)

/-- What a new row that begins with bytes owns. -/
theorem own_of_row (w : World) (e : TypeId) (bs : List UInt8) (n m : Nat) (hl : bs.length = n) (hm : n + m ≤ maxLen) :
    (w.alloc (.cells (bs.map U ++ List.replicate m (U 0)).toArray e)).ownsRow w.heap.size e 1 (.slice (some ⟨w.heap.size, 0, none⟩) n (n + m)) n (bs.map U) :=
  ⟨by simp [hl], .inr ⟨w.heap.size, n + m, _, rfl, Nat.le_refl _, heap_alloc_new w _, by omega, hm, by simp [hl], by simp [← hl]⟩⟩

end Go.Proofs.Ytephciglcikllaa
