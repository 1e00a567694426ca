/- Lemmas, part 1: Words, CrcBase, Put, Read, Read2, Read3 -/
import Derived.WalkKit
import Derived.Lib.Hide
import Derived.Laws.CopyOwn
import Derived.Test.YtmhfhhhhbcignaaGreatRows
import Derived.Lib.SlBytesConst
import Derived.ProofKit
import Derived.OpenShut
import Derived.KernelRfl
import Derived.Test.YtmhfhhhhbcignaaGreatChecked
namespace Go.Proofs.YtmhfhhhhbcignaaGreat
open Go.RowKit

/-- A byte as a cell. -/
def U (b : UInt8) : Value := .int .u8 (b.toNat : Int)

theorem U_one (b : UInt8) : (U b).oneCell' = true := rfl
theorem U_all (bs : List UInt8) : ∀ v ∈ bs.map U, v.oneCell' = true := by
  intro v hv
  obtain ⟨b, _, rfl⟩ := List.mem_map.1 hv
  rfl

theorem addr_add_block (a : Addr) (k : Nat) : (a.add k).block = a.block := by
  unfold Addr.add
  split <;> rfl
theorem addr_add_add (a : Addr) (i j : Nat) : (a.add i).add j = a.add (i + j) := by
  unfold Addr.add
  by_cases h1 : i = 0
  · simp [h1]
  · by_cases h2 : j = 0
    · simp [h2]
    · simp [h1, h2, Nat.add_assoc]

/-- The slice '.slice A n c' reads as the bytes bs. -/
structure Rd (w : World) (A : Option Addr) (n : Nat) (bs : List UInt8) : Prop where
  len : bs.length = n
  cells : 0 < n → ∃ ad, A = some ad ∧ ∀ j b, bs[j]? = some b → w.cell? (ad.add j) = some (U b)

theorem Rd.nil_ (w : World) (A : Option Addr) : Rd w A 0 [] := ⟨rfl, fun h => absurd h (by omega)⟩

/-- Any change that leaves each of its cells alone. -/
theorem Rd.keep {w w' : World} {A : Option Addr} {n : Nat} {bs : List UInt8} (h : Rd w A n bs)
    (hk : ∀ (p : Addr) (b : UInt8), w.cell? p = some (U b) → w'.cell? p = some (U b)) : Rd w' A n bs :=
  ⟨h.len, fun hn => by
    obtain ⟨ad, e, hc⟩ := h.cells hn
    exact ⟨ad, e, fun j b hb => hk _ _ (hc j b hb)⟩⟩

theorem Rd.below {w w' : World} {A : Option Addr} {n : Nat} {bs : List UInt8} (h : Rd w A n bs) (hb : Below w.heap.size w w') : Rd w' A n bs :=
  h.keep fun p _ hp => (hb.cell (World.block_lt_of_cell? w p hp)).trans hp

/-- A block of cells, known whole. -/
def Bk (w : World) (g : Nat) (t : TypeId) (cs : Array Value) : Prop := w.heap[g]? = some (.cells cs t (0, 0))

theorem Bk.lt {w : World} {g : Nat} {t : TypeId} {cs : Array Value} (h : Bk w g t cs) : g < w.heap.size := (Array.getElem?_eq_some_iff.1 h).1
theorem Bk.cell {w : World} {g : Nat} {t : TypeId} {cs : Array Value} (h : Bk w g t cs) (i : Nat) : w.cell? ⟨g, i, none⟩ = cs[i]? := by
  unfold Bk at h
  simp [World.cell?, h]
theorem Bk.frozen {w : World} {g : Nat} {t : TypeId} {cs : Array Value} (h : Bk w g t cs) (i : Nat) : w.frozen? ⟨g, i, none⟩ = false := by
  unfold Bk at h
  simp [World.frozen?, h]
theorem Bk.kept {w w' : World} {g : Nat} {t : TypeId} {cs : Array Value} (h : Bk w g t cs) (hb : w'.heap[g]? = w.heap[g]?) : Bk w' g t cs := hb.trans h
theorem Bk.below {w w' : World} {g : Nat} {t : TypeId} {cs : Array Value} (h : Bk w g t cs) (hb : Below w.heap.size w w') : Bk w' g t cs := h.kept (hb.block g h.lt)
theorem Bk.alloc {w : World} {g : Nat} {t : TypeId} {cs : Array Value} (h : Bk w g t cs) (o : Obj) : Bk (w.alloc o) g t cs := h.kept (Below.heap_alloc w o g h.lt)
theorem Bk.new (w : World) (t : TypeId) (cs : Array Value) : Bk (w.alloc (.cells cs t)) w.heap.size t cs := heap_alloc_new w _
theorem Bk.set {w : World} {g : Nat} {t : TypeId} {cs : Array Value} (h : Bk w g t cs) (i : Nat) (u : Value) : Bk (w.setCell ⟨g, i, none⟩ u) g t (cs.setIfInBounds i u) := by
  unfold Bk at h ⊢
  simp [World.setCell, Array.getElem?_modify, h]

/-- What lies in a block of which no cell is a byte is not touched by a store there. -/
theorem cell_ne_block {w : World} {g : Nat} {t : TypeId} {cs : Array Value} (h : Bk w g t cs) (hn : ∀ (i : Nat) (b : UInt8), cs[i]? ≠ some (U b))
    {p : Addr} {b : UInt8} (hp : w.cell? p = some (U b)) : p.block ≠ g := by
  rintro rfl
  unfold Bk at h
  simp only [World.cell?, h] at hp
  split at hp
  · cases hp
  · exact hn _ _ hp

theorem Rd.setCell {w : World} {g : Nat} {t : TypeId} {cs : Array Value} (h : Bk w g t cs) (hn : ∀ (i : Nat) (b : UInt8), cs[i]? ≠ some (U b))
    {A : Option Addr} {n : Nat} {bs : List UInt8} (hr : Rd w A n bs) (i : Nat) (u : Value) : Rd (w.setCell ⟨g, i, none⟩ u) A n bs :=
  hr.keep fun p _ hp => (World.cell?_of_block (Below.heap_setCell w _ u p.block (cell_ne_block h hn hp))).trans hp

theorem Rd.grown {w w' : World} {g : Nat} {t : TypeId} {cs : Array Value} (h : Bk w g t cs) (hn : ∀ (i : Nat) (b : UInt8), cs[i]? ≠ some (U b))
    {A : Option Addr} {n : Nat} {bs : List UInt8} (hr : Rd w A n bs) (hg : w.grownBy w' (some g)) : Rd w' A n bs :=
  hr.keep fun p _ hp => (World.cell?_of_block (hg.block p.block (World.block_lt_of_cell? w p hp) (fun e => cell_ne_block h hn hp (by injection e)))).trans hp

/-- The first k bytes: 'x[:k]'. -/
theorem Rd.take {w : World} {A : Option Addr} {n : Nat} {bs : List UInt8} (h : Rd w A n bs) {k : Nat} (hk : k ≤ n) : Rd w A k (bs.take k) :=
  ⟨by rw [List.length_take, h.len]; omega, fun h0 => by
    obtain ⟨ad, e, hc⟩ := h.cells (by omega)
    refine ⟨ad, e, fun j b hb => hc j b ?_⟩
    rw [List.getElem?_take] at hb
    split at hb
    · exact hb
    · cases hb⟩

/-- What stands behind the first k bytes: 'x[k:]', in the model's own form. -/
theorem Rd.drop {w : World} {A : Option Addr} {n : Nat} {bs : List UInt8} (h : Rd w A n bs) {k c : Nat} (hk : k ≤ n) (hc : n ≤ c) :
    Rd w (if c = k then A else A.map (·.add k)) (n - k) (bs.drop k) :=
  ⟨by rw [List.length_drop, h.len], fun h0 => by
    obtain ⟨ad, rfl, hcell⟩ := h.cells (by omega)
    rw [if_neg (by omega)]
    refine ⟨ad.add k, rfl, fun j b hb => ?_⟩
    rw [addr_add_add]
    rw [List.getElem?_drop] at hb
    exact hcell _ b hb⟩

/-- A row of the call's own reads as its bytes. -/
theorem Rd.of_own {w : World} {base : Nat} {e : TypeId} {A : Option Addr} {n m c : Nat} {bs : List UInt8} (h : w.ownsRow base e 1 (.slice A n c) m (bs.map U)) : Rd w A n bs ∧ n = m := by
  have hl := h.1
  simp at hl
  rcases h.2 with ⟨e1, rfl⟩ | ⟨g, cap, cur, e1, _, hh, hnc, _, hs, ht⟩
  · injection e1 with e1 e2 e3
    subst e2
    exact ⟨⟨hl, fun h0 => absurd h0 (by omega)⟩, rfl⟩
  · injection e1 with e1 e2 e3
    subst e1 e2 e3
    refine ⟨⟨hl, fun _ => ⟨_, rfl, fun j b hb => ?_⟩⟩, rfl⟩
    have hj : j < n := by
      have := (List.getElem?_eq_some_iff.1 hb).1
      omega
    have : w.cell? ⟨g, 0 + j, none⟩ = some (U b) := by
      simp only [World.cell?, hh]
      rw [Nat.mul_one] at ht
      have h2 : (cur.toList.take n)[j]? = some (U b) := by rw [ht, List.getElem?_map, hb]; rfl
      rw [List.getElem?_take, if_pos hj] at h2
      simpa using h2
    unfold Addr.add
    by_cases hj0 : j = 0
    · subst hj0; simpa using this
    · simpa [hj0] using this

theorem info_u8 {P : Program} {e : TypeId} {i : TypeInfo} (h1 : P.info? e = some i) (h2 : i.size = 1) : (P.info? e).map (·.size) = some 1 := by simp [h1, h2]

/-- A string of bytes. -/
def S (bs : List UInt8) : ByteArray := ⟨bs.toArray⟩

theorem ofNat_toNat_u8 (b : UInt8) : UInt8.ofNat ((b.toNat : Int)).toNat = b := by simp

theorem foldl_U (bs : List UInt8) : (bs.map fun b => (b.toNat : Int)).foldl (fun r n => r.push (UInt8.ofNat n.toNat)) ByteArray.empty = S bs := by
  rw [foldl_push_bytes]
  have : (List.map (fun n : Int => UInt8.ofNat n.toNat) (bs.map fun b : UInt8 => (b.toNat : Int))) = bs := by
    rw [List.map_map]
    refine (List.map_congr_left (g := id) (fun b _ => ?_)).trans (List.map_id bs)
    exact ofNat_toNat_u8 b
  rw [this]
  simp [ByteArray.empty, ByteArray.emptyWithCapacity, S]
  rfl

/-- 'string(x)'. -/
theorem run_string_Rd {P : Program} {w : World} {A : Option Addr} {n : Nat} {bs : List UInt8} (src dst e : TypeId) (hs : P.underlying src = some (.slice e)) (he : P.underlying e = some (.int .u8)) (hd : P.underlying dst = some .string)
    (h : Rd w A n bs) (c : Nat) : (convert src dst (.slice A n c)).run P w = .ok (.string (S bs)) w := by
  have hl := h.len
  by_cases h0 : 0 < n
  · obtain ⟨ad, rfl, hc⟩ := h.cells h0
    have h1 : (loadCells ad n).run P w = .ok ((bs.map fun b : UInt8 => (b.toNat : Int)).map (Value.int .u8)).toArray w := by
      have := run_loadCells_list (P := P) w ad (bs.map U) (fun j v hj => by
        rw [List.getElem?_map] at hj
        cases hb : bs[j]? with
        | none => rw [hb] at hj; cases hj
        | some b =>
          rw [hb] at hj
          injection hj with hj
          subst hj
          exact hc j b hb)
      rw [List.length_map, hl] at this
      rw [this, List.map_map]
      rfl
    rw [run_convert_bytes_string w src dst e _ n c hs he hd, run_bytesToString w _ n c _ h1, foldl_U]
  · have hn : n = 0 := by omega
    subst hn
    have hb : bs = [] := List.eq_nil_of_length_eq_zero hl
    subst hb
    rw [run_convert_bytes_string w src dst e _ 0 c hs he hd]
    cases A with
    | none =>
      simp [Conv.bytesToString, S, ByteArray.empty, ByteArray.emptyWithCapacity]
      rfl
    | some ad =>
      have h1 : (loadCells ad 0).run P w = .ok (([] : List Int).map (Value.int .u8)).toArray w := by simp [loadCells, loadCellsFrom]
      rw [run_bytesToString w _ 0 c _ h1]
      rfl

/-- 'make([]byte, n, C)'. -/
theorem run_make_bytes {P : Program} {t e : TypeId} {i : TypeInfo} (ht : P.underlying t = some (.slice e)) (hi : P.info? e = some i) (hz : i.zero = some (.int .u8 0)) (hs : i.size = 1) (hb : i.bytes = 1)
    (kl kc : IntKind) (n : Nat) (C : Int) (hn : n ≤ C) (hC : C ≤ 281474976710656) (w : World) :
    (Instr.makeSlice t (.int kl (n : Int)) (.int kc C)).run P w = .ok (.slice (some ⟨w.heap.size, 0, none⟩) n C.toNat) (w.alloc (.cells (List.replicate C.toNat (U 0)).toArray e)) := by
  have hr := run_make (P := P) w t e i _ ht hi hz kl kc n C (by omega) hn (by rw [hb]; omega) (by omega)
  rw [hr, hs, Nat.mul_one]
  have h1 : madeCells (Value.int .u8 0).cells C.toNat = (List.replicate C.toNat (U 0)).toArray := by
    have := toList_madeCells_one (Value.int .u8 0) C.toNat
    rw [← Array.toList_inj]
    exact this
  rw [h1]
  simp

theorem setRow_alloc (w : World) (cur cs : Array Value) (e : TypeId) : (w.alloc (.cells cur e)).setRow w.heap.size cs = w.alloc (.cells cs e) := by
  unfold World.setRow World.alloc
  simp only [World.mk.injEq, and_true]
  apply Array.ext_getElem?
  intro k
  rw [Array.getElem?_modify, Array.getElem?_push, Array.getElem?_push]
  by_cases hk : k = w.heap.size
  · subst hk; simp
  · have : w.heap.size ≠ k := fun h => hk h.symm
    simp [this, hk]

/-- 'copy(out, x)', out a row that was just made, no shorter than x. -/
theorem run_copy_Rd {P : Program} {w : World} {dT sT ty e : TypeId} {A : Option Addr} {n : Nat} {bs : List UInt8} (hu : P.underlying dT = some (.slice e)) (hs : (P.info? e).map (·.size) = some 1)
    (h : Rd w A n bs) (cur : List Value) (hcur : n ≤ cur.length) (C c : Nat) :
    (Builtin.copy_ #[dT, sT] ty #[.slice (some ⟨w.heap.size, 0, none⟩) n C, .slice A n c]).run P (w.alloc (.cells cur.toArray e)) = .ok (.int .i64 (n : Int)) (w.alloc (.cells (bs.map U ++ cur.drop n).toArray e)) := by
  have hl := h.len
  by_cases h0 : 0 < n
  · obtain ⟨ad, rfl, hc⟩ := h.cells h0
    have := run_copy_row P (w.alloc (.cells cur.toArray e)) dT sT ty e w.heap.size 0 n C ad n c cur.toArray e (bs.map U) hu hs (heap_alloc_new w _) (by simp [hl])
      (fun j v hj => by
        rw [List.getElem?_map] at hj
        cases hb : bs[j]? with
        | none => rw [hb] at hj; cases hj
        | some b =>
          rw [hb] at hj
          injection hj with hj
          subst hj
          have hx := hc j b hb
          rw [World.cell?_alloc_lt _ _ _ (World.block_lt_of_cell? w _ hx)]
          exact hx)
      (by simp [hl]; exact hcur) (U_all bs)
    rw [this, setRow_alloc]
    simp [hl, goInt]
  · have hn : n = 0 := by omega
    subst hn
    have hb : bs = [] := List.eq_nil_of_length_eq_zero hl
    subst hb
    have := run_copy_none (P := P) (w.alloc (.cells cur.toArray e)) dT sT ty e (some ⟨w.heap.size, 0, none⟩) A 0 C 0 c hu hs (by simp)
    rw [this]
    simp [goInt]

/-- The last k bytes of x, the highest first. -/
def be : Nat → Nat → List UInt8
  | 0, _ => []
  | k + 1, x => UInt8.ofNat (x / 256 ^ k) :: be k x

theorem be_length (k x : Nat) : (be k x).length = k := by
  induction k with
  | zero => rfl
  | succ k ih => simp [be, ih]

theorem one_new (w : World) (z : Value) (e : TypeId) : ∀ j u, [z][j]? = some u → (w.alloc (.cells #[z] e)).cell? ((⟨w.heap.size, 0, none⟩ : Addr).add j) = some u := by
  intro j u hu
  have hj : j = 0 := by
    have := (List.getElem?_eq_some_iff.1 hu).1
    simp at this
    omega
  subst hj
  simp [Addr.add] at hu ⊢
  exact hu

theorem byte_shift (x r : Nat) : Value.int .u8 ((x : Int) / 2 ^ (8 * r) % 256) = U (UInt8.ofNat (x / 256 ^ r)) := by
  unfold U
  congr 1
  have h : (2 : Nat) ^ (8 * r) = 256 ^ r := by rw [Nat.pow_mul]
  have h2 : ((x : Int) / 2 ^ (8 * r) % 256) = ((x / 2 ^ (8 * r) % 256 : Nat) : Int) := by simp
  rw [h2, h]
  simp

theorem take_be (k x r : Nat) (hr : r < k) : (be k x).take (k - r) = (be k x).take (k - (r + 1)) ++ [UInt8.ofNat (x / 256 ^ r)] := by
  induction k with
  | zero => omega
  | succ k ih =>
    by_cases h : r = k
    · subst h
      simp [be, show r + 1 - r = 1 from by omega]
    · have e1 : k + 1 - r = (k - r) + 1 := by omega
      have e2 : k + 1 - (r + 1) = (k - (r + 1)) + 1 := by omega
      rw [e1, e2]
      simp only [be, List.take_succ_cons, List.cons_append]
      rw [ih (by omega)]

theorem wrap_wrap64 (x : Nat) (hx : x < 18446744073709551616) : IntKind.u64.wrap (wrap64 (x : Int)) = x := by
  rw [IntKind.wrap_u64]
  unfold wrap64
  omega

/-- 'append(out, x...)', out a row of the call's own, x any bytes (nil let in). -/
theorem run_append_Rd {P : Program} {w : World} {t ty e : TypeId} {i : TypeInfo} {z : Value} (ht : P.underlying t = some (.slice e)) (hi : P.info? e = some i) (hz : i.zero = some z) (hs : i.size = 1) (hb : i.bytes = 1) (hzs : z.cells.size = 1)
    {base : Nat} {v : Value} {n : Nat} {xs : List Value} (hown : w.ownsRow base e 1 v n xs) {A : Option Addr} {m : Nat} {bs : List UInt8} (h : Rd w A m bs) (c : Nat) (hm : n + m ≤ 140737488355328) (hbase : base ≤ w.heap.size) :
    ∃ v' w', (Builtin.append_ #[t, t] ty #[v, .slice A m c]).run P w = .ok v' w' ∧ w'.ownsRow base e 1 v' (n + m) (xs ++ bs.map U) ∧ w.grownBy w' v.ownBlock := by
  have hl := h.len
  have hcells : ∀ ad, A = some ad → ∀ j u, (bs.map U)[j]? = some u → w.cell? (ad.add j) = some u := by
    intro ad had j u hu
    rw [List.getElem?_map] at hu
    cases hb : bs[j]? with
    | none => rw [hb] at hu; cases hu
    | some b =>
      rw [hb] at hu
      injection hu with hu
      subst hu
      have h0 : 0 < m := by
        have := (List.getElem?_eq_some_iff.1 hb).1
        omega
      obtain ⟨ad', e', hc⟩ := h.cells h0
      rw [had] at e'
      injection e' with e'
      subst e'
      exact hc j b hb
  cases A with
  | some ad =>
    obtain ⟨v', w', h1, h2, h3, _⟩ := run_append_own (P := P) w base t ty e i z 1 1 ht hi hz hs hb hzs (by decide) v n xs hown ad m c (bs.map U) (by simp [hl]) (hcells ad rfl) (U_all bs) (by unfold maxLen; omega) (by omega) hbase
    exact ⟨v', w', h1, h2, h3⟩
  | none =>
    have hm0 : m = 0 := by
      rcases Nat.eq_zero_or_pos m with h0 | h0
      · exact h0
      · obtain ⟨_, e', _⟩ := h.cells h0
        cases e'
    subst hm0
    have hb0 : bs = [] := List.eq_nil_of_length_eq_zero hl
    subst hb0
    refine ⟨v, w, ?_, by simpa using hown, ⟨rfl, rfl, rfl, Nat.le_refl _, fun _ _ _ => rfl⟩⟩
    rcases hown.2 with ⟨rfl, rfl⟩ | ⟨g, cap, cur, rfl, _, _, hnc, _⟩
    · simp [Builtin.append_, run_underlying ht, sizeOf, typeInfo, hi, Builtin.lenOf, Builtin.firstCells]
    · simp [Builtin.append_, run_underlying ht, sizeOf, typeInfo, hi, Builtin.lenOf, Builtin.firstCells, hnc, storeCells]

theorem wpList_append_Rd {P : Program} {w : World} {ops : Array Oper} {rest : List Oper} {o : Oper} {a : Act} {Q : Exit → Act → World → Prop} (hgd : o.guard = none) (s x : Operand) (t : TypeId)
    (ho : o.op = .call { callee := .builtin .append, args := #[s, x], argTypes := #[t, t] }) {e : TypeId} {i : TypeInfo} {z : Value} (ht : P.underlying t = some (.slice e)) (hi : P.info? e = some i) (hz : i.zero = some z) (hsz : i.size = 1) (hb : i.bytes = 1) (hzs : z.cells.size = 1)
    {base : Nat} {v : Value} {n : Nat} {xs : List Value} (hs : a.eval s = v) (hown : w.ownsRow base e 1 v n xs) {A : Option Addr} {m c : Nat} {bs : List UInt8} (hx : a.eval x = .slice A m c) (h : Rd w A m bs) (hm : n + m ≤ 140737488355328) (hbase : base ≤ w.heap.size)
    (hK : ∀ v' w', w'.ownsRow base e 1 v' (n + m) (xs ++ bs.map U) → w.grownBy w' v.ownBlock → wpList P ops Q rest (a.put o.dst v') w') : wpList P ops Q (o :: rest) a w := by
  obtain ⟨v', w', h1, h2, h3⟩ := run_append_Rd (ty := o.type) ht hi hz hsz hb hzs hown h c hm hbase
  refine wpList_plain hgd fun K hK' => ?_
  unfold Oper.wp execOp
  simp only [ho, resolve, invoke, builtin, Sem.run_bind, Sem.run_pure, Result.andThen_ok, List.map_toArray, List.map_cons, List.map_nil, hs, hx, h1]
  exact hK' _ _ (hK v' w' h2 h3)

/-- What a new row that begins with bytes owns. -/
theorem own_of_row (w : World) (e : TypeId) (bs : List UInt8) (n m : Nat) (hl : bs.length = n) (hm : n + m ≤ maxLen) :
    (w.alloc (.cells (bs.map U ++ List.replicate m (U 0)).toArray e)).ownsRow w.heap.size e 1 (.slice (some ⟨w.heap.size, 0, none⟩) n (n + m)) n (bs.map U) :=
  ⟨by simp [hl], .inr ⟨w.heap.size, n + m, _, rfl, Nat.le_refl _, heap_alloc_new w _, by omega, hm, by simp [hl], by simp [← hl]⟩⟩

end Go.Proofs.YtmhfhhhhbcignaaGreat

namespace Go.Proofs.YtmhfhhhhbcignaaGreat
open Go.ChangeShapes Go.WideShapes Go.ChangeAt Go.RowKit

theorem info_byte : (Tryz.prog.info? 5).map (fun i => (i.zero, i.size, i.bytes)) = some (some (.int .u8 0), 1, 1) := by kernel_rfl
theorem ty_bytes : Tryz.prog.underlying 57 = some (.slice 5) := by kernel_rfl
theorem ty_byte : Tryz.prog.underlying 5 = some (.int .u8) := by kernel_rfl
theorem ty_string : Tryz.prog.underlying 9 = some .string := by kernel_rfl

/-- A new literal row of bytes, marked or not. -/
theorem rd_lit (w : World) (e : TypeId) (fr : Nat × Nat) (bs : List UInt8) : Rd (w.alloc (.cells (bs.map U).toArray e fr)) (some ⟨w.heap.size, 0, none⟩) bs.length bs :=
  ⟨rfl, fun _ => ⟨_, rfl, fun j b hb => by
    have hh : (w.alloc (.cells (bs.map U).toArray e fr)).heap[w.heap.size]? = some (.cells (bs.map U).toArray e fr) := heap_alloc_new w _
    have : ((⟨w.heap.size, 0, none⟩ : Addr).add j) = ⟨w.heap.size, j, none⟩ := by
      unfold Addr.add
      split
      · next h => rw [h]
      · simp
    rw [this]
    unfold World.cell?
    rw [hh]
    simp [hb]⟩⟩

theorem conv_const (w : World) (C : Array Value) (n c : Nat) : (convert 57 57 (.slice (some ⟨w.heap.size, 0, none⟩) n c)).run Tryz.prog (w.alloc (.cells C 5)) = .ok (.slice (some ⟨w.heap.size, 0, none⟩) n c) (w.alloc (.cells C 5 (C.size, C.size + 1))) := Lib.run_convert_bytes_const (P := Tryz.prog) w 57 5 C n c ty_bytes ty_byte
theorem conv_string {w : World} {A : Option Addr} {n : Nat} {bs : List UInt8} (h : Rd w A n bs) (c : Nat) : (convert 57 9 (.slice A n c)).run Tryz.prog w = .ok (.string (S bs)) w := run_string_Rd (P := Tryz.prog) 57 9 5 ty_bytes ty_byte ty_string h c

theorem own : ownKnob Tryz.prog.godebug = none := by kernel_rfl
theorem laidOut : laidOutB Tryz.prog = true := by kernel_rfl
theorem ty_bool : Tryz.prog.underlying 4 = some .bool := by kernel_rfl
theorem ty_u64 : Tryz.prog.underlying 32 = some (.int .u64) := by kernel_rfl
theorem cells_byte : Tryz.prog.cellsOf 5 = 1 := by kernel_rfl

section
variable {H : Type} {enc : TypeId × Value → H} {P : Program}

theorem trodAll_below (hl : laidOutB P = true) {W W' : World} (hb : Below W.heap.size W W') : ∀ (ts : List TypeId) (vs : List Value) (ds : List (DataW H)) (ps : List MemPlace),
    ts.all (fun t => P.readableRec t && decide (t < P.types.size)) = true → (∀ x ∈ ps, x.block < W.heap.size) → DataW.TrodAll enc P W 0 (fun _ => true) true ts vs ds ps → DataW.TrodAll enc P W' 0 (fun b => decide (b < W.heap.size)) true ts vs ds ps := by
  intro ts
  induction ts with
  | nil =>
    intro vs ds ps _ _ h
    obtain ⟨rfl, rfl, rfl⟩ := trodAll_nil h
    exact trodAll_mk0
  | cons t ts ih =>
    intro vs ds ps hr hlt h
    obtain ⟨v, vs', d, ds', p, q, rfl, rfl, rfl, h1, h2⟩ := trodAll_cons h
    rw [List.all_cons, Bool.and_eq_true, Bool.and_eq_true, decide_eq_true_iff] at hr
    exact trodAll_cons_mk (Below.trod hl hr.1.1 hr.1.2 h1 hb (fun x hx => hlt x (List.mem_append_left _ hx))) (ih _ _ _ hr.2 (fun x hx => hlt x (List.mem_append_right _ hx)) h2)

theorem post_true {f : Func} {s : ChangeSpec} {tb : TypeId} {W W' : World} {args : Array Value} {ds gs : List (DataW H)} {before : List MemPlace} (hl : laidOutB P = true)
    (hr : f.params.toList.all (fun t => P.readableRec t && decide (t < P.types.size)) = true) (hbool : P.underlying tb = some .bool) (hres : f.resultTypes = #[tb]) (hv : s.vars = [])
    (hW : DataW.Whole enc P f.params.toList s.vars false W args.toList ds gs before) (hb : Below W.heap.size W W') (hfn : s.fn H (ds ++ gs) = { results := [.lit (.bool true)], args := ds }) :
    s.post enc P f false true false false W args (.bool true) W' := by
  have hW0 := hW
  obtain ⟨p, q, hA, hV, rfl, _, _⟩ := hW
  rw [hv] at hV
  obtain ⟨rfl, rfl⟩ := trodVars_none hV
  rw [List.append_nil] at hW0
  refine ⟨ds, [], p, [], p, [], hW0, ?_, ?_, ?_, hb.frame _, fun h => by cases h⟩
  · rw [hfn, hres]
    exact trodAll_cons_mk (shut_bool hbool true) trodAll_mk0
  · rw [hfn]
    exact trodAll_below hl hb _ _ _ _ hr (fun x hx => hW0.lt x hx) hA
  · rw [hfn, hv]
    rfl

/-- An argument of bytes: its slice, and the bytes. -/
theorem open_bytes {t e : TypeId} (ht : P.underlying t = some (.slice e)) (he : P.underlying e = some (.int .u8)) (hc : P.cellsOf e = 1) {w : World} {base b0 : Nat} {r : Reach} {spare : Nat → Bool} {held : Bool} {v : Value} {d : DataW H} {ps : List MemPlace}
    (hv : Value.okWide P w r b0 t v) (h : DataW.Trod enc P w base spare held t v d ps) : ∃ A n c bs, v = .slice A n c ∧ n ≤ c ∧ c ≤ maxLen ∧ Rd w A n bs := by
  obtain ⟨A, n, c, rfl⟩ := okWide_slice ht hv
  obtain ⟨fuel, h⟩ := h
  rcases open_ints ht he hc h with ⟨hcs, _⟩ | ⟨a, len, cap, zs, hcs, _, hl, hm, hz, _, hcell, hwf⟩
  · simp [Value.cells] at hcs
    obtain ⟨rfl, rfl, rfl⟩ := hcs
    exact ⟨none, 0, 0, [], rfl, Nat.le_refl _, Nat.zero_le _, Rd.nil_ _ _⟩
  · simp [Value.cells] at hcs
    obtain ⟨rfl, rfl, rfl⟩ := hcs
    have hzl : n ≤ zs.length := by rw [hz]; split <;> omega
    refine ⟨some a, n, c, (zs.take n).map (fun z => UInt8.ofNat z.toNat), rfl, hl, hm, ⟨by simp; omega, fun _ => ⟨a, rfl, fun j b hb => ?_⟩⟩⟩
    rw [List.getElem?_map, List.getElem?_take] at hb
    split at hb
    · next hj =>
      have hjl : j < zs.length := by omega
      rw [List.getElem?_eq_getElem hjl] at hb
      injection hb with hb
      rw [hcell j hjl, ← hb]
      have hw := hwf zs[j] (List.getElem_mem hjl)
      simp [Lit.wf, IntKind.min, IntKind.max, IntKind.signed, IntKind.bits] at hw
      unfold U
      congr 2
      rw [List.getD_eq_getElem?_getD, List.getElem?_eq_getElem hjl]
      simp
      omega
    · cases hb
end

end Go.Proofs.YtmhfhhhhbcignaaGreat

namespace Go.Proofs.YtmhfhhhhbcignaaGreat
open Go.RowKit


set_option maxRecDepth 100000 in
set_option maxHeartbeats 400000 in
theorem withRoom_any (A : Option Addr) (n c : Nat) (m : Int) (bs : List UInt8) (w : World) (h : Rd w A n bs) (hm : 0 ≤ m) (hb : n + m ≤ 1000000000000) :
    Calls Tryz.prog 81 #[.slice A n c, .int .i64 m] w fun e w' =>
      e = .returned (.slice (some ⟨w.heap.size, 0, none⟩) n (n + m.toNat)) ∧ w' = w.alloc (.cells (bs.map U ++ List.replicate m.toNat (U 0)).toArray 5) := by
  obtain ⟨i0, hi, hz0, hz1, hz2⟩ := info_parts info_byte
  have hmk := fun W => run_make_bytes (P := Tryz.prog) ty_bytes hi hz0 hz1 hz2 .i64 .i64 n (n + m) (by omega) (by omega) W
  have hcp := run_copy_Rd (P := Tryz.prog) (dT := 57) (sT := 57) (ty := 3) ty_bytes (info_u8 hi hz1) h (List.replicate ((n : Int) + m).toNat (U 0)) (by simp; omega) ((n : Int) + m).toNat c
  have hd : (List.replicate ((n : Int) + m).toNat (U 0)).drop n = List.replicate m.toNat (U 0) := by
    rw [List.drop_replicate]; congr 1; omega
  rw [hd] at hcp
  clear hi hz0 hz1 hz2 h hd
  have hN : ((n : Int) + m).toNat = n + m.toNat := by omega
  rw [hN] at hmk hcp
  generalize List.replicate (n + m.toNat) (U 0) = Z at hmk hcp
  generalize List.map U bs ++ List.replicate m.toNat (U 0) = Y at hcp ⊢
  clear hN
  go_enter Tryz.func81, Tryz.ntmps81
  go_wp2_with fail
  go_ret
  exact ⟨rfl, rfl⟩

set_option maxHeartbeats 400000 in
theorem putNumber_any (base : Nat) (v : Value) (n k x : Nat) (xx kk : Int) (xs : List UInt8) (w : World) (hown : w.ownsRow base 5 1 v n (xs.map U)) (hxx : xx = x) (_hx : x < 18446744073709551616) (hkk : kk = k) (hk : k ≤ 8) (hn : n ≤ 1000000000000) (hbase : base ≤ w.heap.size) :
    Calls Tryz.prog 80 #[v, .int .u64 xx, .int .i64 kk] w fun e w' =>
      ∃ v', e = .returned v' ∧ w'.ownsRow base 5 1 v' (n + k) ((xs ++ be k x).map U) ∧ Below base w w' := by
  subst hxx hkk
  obtain ⟨i0, hi, hz0, hz1, hz2⟩ := info_parts info_byte
  have HI := Lib.hid hi
  have HZ0 := Lib.hid hz0
  have HZ1 := Lib.hid hz1
  have HZ2 := Lib.hid hz2
  clear hi hz0 hz1 hz2
  have HO := Lib.hid hown
  clear hown
  go_enter Tryz.func80, Tryz.ntmps80
  go_wp2_with fail
  go_loopw [0, 7] (fun b l wr => ∃ (r : Nat) (vv : Value), r ≤ k ∧ b = vv ∧ l = .int .i64 ((r : Int) - 1) ∧ wr.ownsRow base 5 1 vv (n + (k - r)) ((xs ++ (be k x).take (k - r)).map U) ∧ Below base w wr) (fun _ l _ => (intOf l + 1).toNat)
  case atStart => exact ⟨k, v, Nat.le_refl _, rfl, rfl, by simpa using HO.out, Below.refl _ _⟩
  case round =>
    obtain ⟨r, vv, hr, rfl, rfl, hown, hbel⟩ := hrel
    have HO := Lib.hid hown
    clear hown
    by_cases h0 : 0 < r
    · obtain ⟨r, rfl⟩ : ∃ r', r = r' + 1 := ⟨r - 1, by omega⟩
      go_wp2_with (at_builtin; refine wpList_append_own _ rfl (.tmp 14) (.tmp 20) _ rfl base 5 i0 _ 1 1 ty_bytes HI.out HZ0.out HZ1.out HZ2.out rfl (by decide) _ (n + (k - (r + 1))) _ rfl (HO.out.alloc _) ⟨wr.heap.size, 0, none⟩ 1 1 _ rfl rfl (one_new _ _ _) (by simp [Value.oneCell']) (by unfold maxLen; omega) (by omega) (by simp; have := hbel.size; omega) ?_)
      intro v' w1 hown1 hgr1 _
      have hown2 : w1.ownsRow base 5 1 v' (n + (k - r)) ((xs ++ (be k x).take (k - r)).map U) := by
        rw [take_be k x r (by omega), show n + (k - r) = n + (k - (r + 1)) + 1 from by omega, ← List.append_assoc, List.map_append, List.map_cons, List.map_nil, ← byte_shift]
        simpa using hown1
      have hb2 : Below base w w1 := (hbel.alloc (by have := hbel.size; omega) _).grown hgr1 (by simp; have := hbel.size; omega) (fun g hg => (HO.out.lt g hg).1)
      have HO1 := Lib.hid hown2
      have HB := Lib.hid hb2
      clear hown1 hgr1 hown2 hb2
      go_wp2_with fail
      exact ⟨⟨r, v', by omega, rfl, rfl, HO1.out, HB.out⟩, by simp [intOf]⟩
    · obtain rfl : r = 0 := by omega
      go_wp2_with fail
      go_ret
      refine ⟨_, rfl, ?_, hbel⟩
      have := HO.out
      rwa [Nat.sub_zero, List.take_of_length_le (by rw [be_length]; omega)] at this

/-- What a putting call hands back: a new row that reads as bs; nothing that was there has turned. -/
def Put (w : World) (bs : List UInt8) (e : Ending) (w' : World) : Prop :=
  ∃ A n c, e = .returned (.slice A n c) ∧ n = bs.length ∧ n ≤ c ∧ w'.ownsRow w.heap.size 5 1 (.slice A n c) n (bs.map U) ∧ Below w.heap.size w w'

theorem Put.of {w w' : World} {bs : List UInt8} {v : Value} (h : w'.ownsRow w.heap.size 5 1 v bs.length (bs.map U)) (hb : Below w.heap.size w w') : Put w bs (.returned v) w' := by
  have h0 := h
  rcases h.2 with ⟨rfl, hn⟩ | ⟨g, cap, cur, rfl, _, _, hnc, _⟩
  · exact ⟨none, 0, 0, rfl, hn.symm, Nat.le_refl _, hn ▸ h0, hb⟩
  · exact ⟨_, _, _, rfl, rfl, hnc, h0, hb⟩

theorem withRoom_own (A : Option Addr) (n c : Nat) (m : Int) (bs : List UInt8) (w : World) (h : Rd w A n bs) (hm : 0 ≤ m) (hb : n + m ≤ 1000000000000) :
    Calls Tryz.prog 81 #[.slice A n c, .int .i64 m] w fun e w' =>
      e = .returned (.slice (some ⟨w.heap.size, 0, none⟩) n (n + m.toNat)) ∧ w'.ownsRow w.heap.size 5 1 (.slice (some ⟨w.heap.size, 0, none⟩) n (n + m.toNat)) n (bs.map U) ∧ Below w.heap.size w w' :=
  (withRoom_any A n c m bs w h hm hb).mono fun e w' ⟨he, hw⟩ => by
    subst hw
    exact ⟨he, own_of_row w 5 bs n m.toNat h.len (by unfold maxLen; omega), (Below.refl _ _).alloc (Nat.le_refl _) _⟩

set_option maxHeartbeats 400000 in
theorem Uint_any (A : Option Addr) (n c x : Nat) (xx : Int) (bs : List UInt8) (w : World) (h : Rd w A n bs) (hxx : xx = x) (hx : x < 18446744073709551616) (hn : n ≤ 500000000000) :
    Calls Tryz.prog 62 #[.slice A n c, .int .u64 xx] w (Put w (bs ++ be 8 x)) := by
  have H := Lib.hid h
  have HX := Lib.hid hx
  have HE := Lib.hid hxx
  clear h hx hxx
  go_enter Tryz.func62, Tryz.ntmps62
  go_wp2_with fail
  refine (withRoom_own A n c 8 bs w H.out (by omega) (by omega)).mono ?_
  rintro e w1 ⟨rfl, hown1, hb1⟩
  have HO1 := Lib.hid hown1
  have HB1 := Lib.hid hb1
  clear hown1 hb1
  go_wp2_with fail
  refine (putNumber_any w.heap.size _ n 8 x xx 8 bs w1 HO1.out HE.out HX.out rfl (by omega) (by omega) HB1.out.size).mono ?_
  rintro e w2 ⟨v, rfl, hown2, hb2⟩
  have HO2 := Lib.hid hown2
  have HB2 := Lib.hid hb2
  clear hown2 hb2
  go_wp2_with fail
  go_ret
  exact Put.of (by rw [List.length_append, H.out.len, be_length]; exact HO2.out) (HB1.out.trans HB2.out)

set_option maxHeartbeats 400000 in
theorem Byte_any (A : Option Addr) (n c x : Nat) (xx : Int) (bs : List UInt8) (w : World) (h : Rd w A n bs) (hxx : xx = x) (hx : x < 256) (hn : n ≤ 500000000000) :
    Calls Tryz.prog 61 #[.slice A n c, .int .u8 xx] w (Put w (bs ++ be 1 x)) := by
  have H := Lib.hid h
  have HE := Lib.hid hxx
  have hx0 : 0 ≤ xx := by omega
  have hx1 : xx < 256 := by omega
  clear h hxx
  go_enter Tryz.func61, Tryz.ntmps61
  go_wp2_with fail
  refine (withRoom_own A n c 1 bs w H.out (by omega) (by omega)).mono ?_
  rintro e w1 ⟨rfl, hown1, hb1⟩
  have HO1 := Lib.hid hown1
  have HB1 := Lib.hid hb1
  clear hown1 hb1
  go_wp2_with fail
  refine (putNumber_any w.heap.size _ n 1 x xx 1 bs w1 HO1.out HE.out (by omega) rfl (by omega) (by omega) HB1.out.size).mono ?_
  rintro e w2 ⟨v, rfl, hown2, hb2⟩
  have HO2 := Lib.hid hown2
  have HB2 := Lib.hid hb2
  clear hown2 hb2
  go_wp2_with fail
  go_ret
  exact Put.of (by rw [List.length_append, H.out.len, be_length]; exact HO2.out) (HB1.out.trans HB2.out)

set_option maxHeartbeats 400000 in
theorem Text_any (A A2 : Option Addr) (n c n2 c2 : Nat) (bs ss : List UInt8) (w : World) (h : Rd w A n bs) (h2 : Rd w A2 n2 ss) (hn : n ≤ 100000000000) (hn2 : n2 ≤ 100000000000) :
    Calls Tryz.prog 67 #[.slice A n c, .slice A2 n2 c2] w (Put w (bs ++ (be 4 n2 ++ ss))) := by
  obtain ⟨i0, hi, hz0, hz1, hz2⟩ := info_parts info_byte
  have HI := Lib.hid hi
  have HZ0 := Lib.hid hz0
  have HZ1 := Lib.hid hz1
  have HZ2 := Lib.hid hz2
  clear hi hz0 hz1 hz2
  have H := Lib.hid h
  have H2 := Lib.hid h2
  clear h h2
  go_enter Tryz.func67, Tryz.ntmps67
  go_wp2_with fail
  refine (withRoom_own A n c _ bs w H.out (by omega) (by omega)).mono ?_
  rintro e w1 ⟨rfl, hown1, hb1⟩
  have HO1 := Lib.hid hown1
  have HB1 := Lib.hid hb1
  clear hown1 hb1
  go_wp2_with fail
  refine (putNumber_any w.heap.size _ n 4 n2 _ 4 bs w1 HO1.out rfl (by omega) rfl (by omega) (by omega) HB1.out.size).mono ?_
  rintro e w2 ⟨v, rfl, hown2, hb2⟩
  have HO2 := Lib.hid hown2
  have HB2 := Lib.hid (HB1.out.trans hb2)
  clear hown2 hb2
  go_wp2_with (at_builtin; refine wpList_append_Rd rfl (.tmp 16) (.tmp 17) _ rfl ty_bytes HI.out HZ0.out HZ1.out HZ2.out rfl rfl HO2.out rfl (H2.out.below HB2.out) (by omega) HB2.out.size ?_)
  intro v' w3 hown3 hgr3
  have HO3 := Lib.hid hown3
  have HB3 := Lib.hid (HB2.out.grown hgr3 HB2.out.size (fun g hg => (HO2.out.lt g hg).1))
  clear hown3 hgr3
  go_wp2_with fail
  go_ret
  refine Put.of ?_ HB3.out
  have h3 := HO3.out
  have e1 : (bs ++ (be 4 n2 ++ ss)).length = n + 4 + n2 := by simp [H.out.len, H2.out.len, be_length]; omega
  rw [e1]
  simpa using h3
end Go.Proofs.YtmhfhhhhbcignaaGreat

namespace Go.Proofs.YtmhfhhhhbcignaaGreat
open Go.RowKit

/-- The number that bytes are, the highest first. -/
def val (bs : List UInt8) : Nat := bs.foldl (fun v b => v * 256 + b.toNat) 0

theorem val_snoc (bs : List UInt8) (b : UInt8) : val (bs ++ [b]) = val bs * 256 + b.toNat := by simp [val]
theorem val_lt (bs : List UInt8) : val bs < 256 ^ bs.length := by
  suffices h : ∀ r : List UInt8, val r.reverse < 256 ^ r.length by
    have := h bs.reverse
    simpa using this
  intro r
  induction r with
  | nil => simp [val]
  | cons b r ih =>
    rw [List.reverse_cons, val_snoc, List.length_cons, Nat.pow_succ]
    have := b.toNat_lt
    omega

theorem or_byte (v b : Nat) (hv : v * 256 < 18446744073709551616) (hb : b < 256) : bits .or .u64 (IntKind.u64.wrap ((v : Int) * 256)) (b : Int) = ((v * 256 + b : Nat) : Int) := by
  have h1 : IntKind.u64.wrap ((v : Int) * 256) = ((v * 256 : Nat) : Int) := by rw [IntKind.wrap_u64]; omega
  rw [h1, u64_or_nat _ _ hv (by omega)]
  have := Nat.two_pow_add_eq_or_of_lt (i := 8) (show b < 2 ^ 8 from hb) v
  rw [Nat.mul_comm v 256]
  exact congrArg _ this.symm

theorem pow_le_7 {k : Nat} (h : k ≤ 7) : 256 ^ k ≤ 72057594037927936 := Nat.le_trans (Nat.pow_le_pow_right (by omega) h) (by decide)
theorem val_lt8 (bs : List UInt8) (h : bs.length ≤ 8) : val bs < 18446744073709551616 := Nat.lt_of_lt_of_le (val_lt bs) (Nat.le_trans (Nat.pow_le_pow_right (by omega) h) (by decide))

set_option maxHeartbeats 400000 in
theorem num_any (A : Option Addr) (n c : Nat) (bs : List UInt8) (w : World) (h : Rd w A n bs) (hn : n ≤ 8) :
    Calls Tryz.prog 124 #[.slice A n c] w fun e w' => e = .returned (.int .u64 (val bs : Int)) ∧ w = w' := by
  have H := Lib.hid h
  clear h
  go_enter Tryz.func124, Tryz.ntmps124
  go_wp2_with fail
  go_loop [3, 5, 8] (fun v _ i => ∃ k : Nat, k ≤ n ∧ i = .int .i64 (k : Int) ∧ v = .int .u64 (val (bs.take k) : Int)) (fun _ _ i => n - (intOf i).toNat)
  case atStart => exact ⟨0, by omega, rfl, rfl⟩
  case round =>
    obtain ⟨k, hk, rfl, rfl⟩ := hrel
    by_cases hlt : k < n
    · obtain ⟨ad, rfl, hc⟩ := H.out.cells (by omega)
      have hkl : k < bs.length := by rw [H.out.len]; exact hlt
      have hcell := hc k _ (List.getElem?_eq_getElem hkl)
      clear hc
      have HV : Hid (bits .or .u64 (IntKind.u64.wrap ((val (bs.take k) : Int) * 256)) ((bs[k]).toNat : Int) = (val (bs.take (k + 1)) : Int)) := by
        have hp := pow_le_7 (show k ≤ 7 by omega)
        have hv := val_lt (bs.take k)
        have hbv := (bs[k]).toNat_lt
        rw [List.length_take, Nat.min_eq_left (by omega)] at hv
        have := or_byte (val (bs.take k)) (bs[k]).toNat (by omega) (by omega)
        rw [← List.take_append_getElem hkl, val_snoc]
        exact this
      unfold U at hcell
      have hbv := (bs[k]).toNat_lt
      go_wp2_with fail
      exact ⟨⟨k + 1, by omega, rfl, congrArg (Value.int .u64) HV.out⟩, by simp [intOf]; omega⟩
    · obtain rfl : k = n := by omega
      have HL : Hid (bs.take k = bs) := List.take_of_length_le (by rw [H.out.len]; omega)
      go_wp2_with fail
      go_ret
      rw [HL.out]
      exact ⟨rfl, rfl⟩

/-- A reader's state: the bytes that are left, and whether it is bad. -/
def takeS (k : Nat) (s : List UInt8 × Bool) : List UInt8 × (List UInt8 × Bool) :=
  if s.2 = true ∨ s.1.length < k then ([], (s.1, true)) else (s.1.take k, (s.1.drop k, false))

/-- Block r is a reader in state s. -/
def Rdr (w : World) (r : Nat) (s : List UInt8 × Bool) : Prop :=
  ∃ A n c, Bk w r 160 #[.slice A n c, .bool s.2] ∧ n ≤ c ∧ c ≤ 1000000000000 ∧ Rd w A n s.1

theorem rdr_nobyte (A : Option Addr) (n c : Nat) (b : Bool) : ∀ (i : Nat) (x : UInt8), (#[Value.slice A n c, Value.bool b] : Array Value)[i]? ≠ some (U x) := by
  intro i x h
  match i with
  | 0 => simp [U] at h
  | 1 => simp [U] at h
  | i + 2 => simp at h

set_option maxHeartbeats 400000 in
theorem readU_ok (r : Nat) (A : Option Addr) (n c k : Nat) (kk : Int) (bs : List UInt8) (w : World) (hb : Bk w r 160 #[.slice A n c, .bool false]) (hnc : n ≤ c) (hc : c ≤ 1000000000000) (h : Rd w A n bs) (hkk : kk = k) (hk : k ≤ n) (hk8 : k ≤ 8) :
    Calls Tryz.prog 123 #[.pointer (some ⟨r, 0, none⟩), .int .u64 kk, .func (.func 124) #[] #[]] w fun e w' => e = .returned (.int .u64 (val (bs.take k) : Int)) ∧ w' = w.setCell ⟨r, 0, none⟩ (.slice (if c = k then A else A.map (·.add k)) (n - k) (c - k)) := by
  subst hkk
  have H := Lib.hid h
  have HB := Lib.hid hb
  have c0 := hb.cell 0
  have c1 := hb.cell 1
  have f0 := hb.frozen 0
  clear h hb
  simp at c0 c1
  go_enter Tryz.func123, Tryz.ntmps123
  go_wp2_with fail
  refine (num_any A k c (bs.take k) w (H.out.take hk) hk8).mono ?_
  rintro e w' ⟨rfl, rfl⟩
  go_wp2_with fail
  all_goals
    go_ret
    exact ⟨rfl, rfl⟩

set_option maxHeartbeats 400000 in
theorem readU_bad (r : Nat) (A : Option Addr) (n c : Nat) (kk : Int) (f : Value) (w : World) (hb : Bk w r 160 #[.slice A n c, .bool true]) :
    Calls Tryz.prog 123 #[.pointer (some ⟨r, 0, none⟩), .int .u64 kk, f] w fun e w' => e = .returned (.int .u64 0) ∧ w = w' := by
  have c1 := hb.cell 1
  clear hb
  simp at c1
  go_enter Tryz.func123, Tryz.ntmps123
  go_wp2_with fail
  go_ret
  exact ⟨rfl, rfl⟩

set_option maxHeartbeats 400000 in
theorem readU_nil (kk : Int) (f : Value) (w : World) :
    Calls Tryz.prog 123 #[.pointer none, .int .u64 kk, f] w fun e w' => e = .returned (.int .u64 0) ∧ w = w' := by
  go_enter Tryz.func123, Tryz.ntmps123
  go_wp2_with fail
  go_ret
  exact ⟨rfl, rfl⟩

set_option maxHeartbeats 400000 in
theorem readU_short (r : Nat) (A : Option Addr) (n c k : Nat) (kk : Int) (f : Value) (w : World) (hb : Bk w r 160 #[.slice A n c, .bool false]) (hnc : n ≤ 1000000000000) (hkk : kk = k) (hk : n < k) :
    Calls Tryz.prog 123 #[.pointer (some ⟨r, 0, none⟩), .int .u64 kk, f] w fun e w' => e = .returned (.int .u64 0) ∧ w' = w.setCell ⟨r, 1, none⟩ (.bool true) := by
  subst hkk
  have c0 := hb.cell 0
  have c1 := hb.cell 1
  have f0 := hb.frozen 1
  clear hb
  simp at c0 c1
  go_enter Tryz.func123, Tryz.ntmps123
  go_wp2_with fail
  go_ret
  exact ⟨rfl, rfl⟩

theorem rdr_set0 {w : World} {r : Nat} {A A' : Option Addr} {n c n' c' : Nat} {b : Bool} {bs' : List UInt8} (hb : Bk w r 160 #[.slice A n c, .bool b]) (hnc : n' ≤ c') (hc : c' ≤ 1000000000000) (h : Rd w A' n' bs') :
    Rdr (w.setCell ⟨r, 0, none⟩ (.slice A' n' c')) r (bs', b) :=
  ⟨A', n', c', by simpa using hb.set 0 (.slice A' n' c'), hnc, hc, Rd.setCell hb (rdr_nobyte _ _ _ _) h 0 _⟩
theorem rdr_set1 {w : World} {r : Nat} {A : Option Addr} {n c : Nat} {b b' : Bool} {bs : List UInt8} (hb : Bk w r 160 #[.slice A n c, .bool b]) (hnc : n ≤ c) (hc : c ≤ 1000000000000) (h : Rd w A n bs) :
    Rdr (w.setCell ⟨r, 1, none⟩ (.bool b')) r (bs, b') :=
  ⟨A, n, c, by simpa using hb.set 1 (.bool b'), hnc, hc, Rd.setCell hb (rdr_nobyte _ _ _ _) h 1 _⟩
theorem grown_set (w : World) (r i : Nat) (u : Value) : w.grownBy (w.setCell ⟨r, i, none⟩ u) (some r) :=
  ⟨rfl, rfl, rfl, by simp [World.setCell], fun k _ hk => Below.heap_setCell w _ u k (fun e => hk (by rw [e]))⟩
theorem grown_refl (w : World) (row : Option Nat) : w.grownBy w row := ⟨rfl, rfl, rfl, Nat.le_refl _, fun _ _ _ => rfl⟩

/-- What a reading call leaves: block r is a reader in state s, nothing else has turned. -/
def Red (w : World) (r : Nat) (v : Value) (s : List UInt8 × Bool) (e : Ending) (w' : World) : Prop := e = .returned v ∧ Rdr w' r s ∧ w.grownBy w' (some r)

theorem readU_any (r k : Nat) (kk : Int) (s : List UInt8 × Bool) (w : World) (h : Rdr w r s) (hkk : kk = k) (hk8 : k ≤ 8) :
    Calls Tryz.prog 123 #[.pointer (some ⟨r, 0, none⟩), .int .u64 kk, .func (.func 124) #[] #[]] w (Red w r (.int .u64 (val (takeS k s).1 : Int)) (takeS k s).2) := by
  obtain ⟨bs, bad⟩ := s
  obtain ⟨A, n, c, hb, hnc, hc, hr⟩ := h
  have hl := hr.len
  simp only at hb hr hl
  cases bad with
  | true =>
    refine (readU_bad r A n c kk _ w hb).mono ?_
    rintro e w' ⟨rfl, rfl⟩
    simp only [takeS, true_or, if_true]
    exact ⟨rfl, ⟨A, n, c, hb, hnc, hc, hr⟩, grown_refl _ _⟩
  | false =>
    by_cases hk : n < k
    · refine (readU_short r A n c k kk _ w hb (by omega) hkk hk).mono ?_
      rintro e w' ⟨rfl, rfl⟩
      simp only [takeS, hl, hk, or_true, if_true]
      exact ⟨rfl, rdr_set1 hb hnc hc hr, grown_set _ _ _ _⟩
    · refine (readU_ok r A n c k kk bs w hb hnc hc hr hkk (by omega) hk8).mono ?_
      rintro e w' ⟨rfl, rfl⟩
      have hs : takeS k (bs, false) = (bs.take k, (bs.drop k, false)) := by simp [takeS, hl, hk]
      rw [hs]
      exact ⟨rfl, rdr_set0 hb (by omega) (by omega) (hr.drop (by omega) hnc), grown_set _ _ _ _⟩

set_option maxHeartbeats 400000 in
theorem number_any (r k : Nat) (kk : Int) (s : List UInt8 × Bool) (w : World) (h : Rdr w r s) (hkk : kk = k) (hk8 : k ≤ 8) :
    Calls Tryz.prog 102 #[.pointer (some ⟨r, 0, none⟩), .int .u64 kk] w (Red w r (.int .u64 (val (takeS k s).1 : Int)) (takeS k s).2) := by
  have H := Lib.hid h
  have HE := Lib.hid hkk
  clear h hkk
  go_enter Tryz.func102, Tryz.ntmps102
  go_wp2_with fail
  refine (readU_any r k kk s w H.out HE.out hk8).mono ?_
  rintro e w' ⟨rfl, h1, h2⟩
  have H1 := Lib.hid h1
  have H2 := Lib.hid h2
  clear h1 h2
  go_wp2_with fail
  go_ret
  exact ⟨rfl, H1.out, H2.out⟩

set_option maxHeartbeats 400000 in
theorem number_nil (kk : Int) (w : World) :
    Calls Tryz.prog 102 #[.pointer none, .int .u64 kk] w fun e w' => e = .returned (.int .u64 0) ∧ w = w' := by
  go_enter Tryz.func102, Tryz.ntmps102
  go_wp2_with fail
  refine (readU_nil kk _ w).mono ?_
  rintro e w' ⟨rfl, rfl⟩
  go_wp2_with fail
  go_ret
  exact ⟨rfl, rfl⟩

end Go.Proofs.YtmhfhhhhbcignaaGreat

namespace Go.Proofs.YtmhfhhhhbcignaaGreat
open Go.RowKit

theorem val_nil : val [] = 0 := rfl
theorem takeS_len (k : Nat) (s : List UInt8 × Bool) : (takeS k s).1.length ≤ k := by
  unfold takeS
  split
  · simp
  · exact List.length_take_le _ _
theorem takeS_val8 (k : Nat) (s : List UInt8 × Bool) (hk : k ≤ 8) : val (takeS k s).1 < 18446744073709551616 := val_lt8 _ (Nat.le_trans (takeS_len k s) hk)

set_option maxHeartbeats 400000 in
theorem rByte_any (r : Nat) (s : List UInt8 × Bool) (w : World) (h : Rdr w r s) :
    Calls Tryz.prog 92 #[.pointer (some ⟨r, 0, none⟩)] w (Red w r (.int .u8 (val (takeS 1 s).1 : Int)) (takeS 1 s).2) := by
  have H := Lib.hid h
  clear h
  have hv : val (takeS 1 s).1 < 256 := Nat.lt_of_lt_of_le (val_lt _) (Nat.le_trans (Nat.pow_le_pow_right (by omega) (takeS_len 1 s)) (by decide))
  go_enter Tryz.func92, Tryz.ntmps92
  go_wp2_with fail
  refine (number_any r 1 1 s w H.out rfl (by omega)).mono ?_
  rintro e w' ⟨rfl, h1, h2⟩
  have H1 := Lib.hid h1
  have H2 := Lib.hid h2
  clear h1 h2
  go_wp2_with fail
  go_ret
  exact ⟨rfl, H1.out, H2.out⟩

set_option maxHeartbeats 400000 in
theorem rUint_any (r : Nat) (s : List UInt8 × Bool) (w : World) (h : Rdr w r s) :
    Calls Tryz.prog 87 #[.pointer (some ⟨r, 0, none⟩)] w (Red w r (.int .u64 (val (takeS 8 s).1 : Int)) (takeS 8 s).2) := by
  have H := Lib.hid h
  clear h
  go_enter Tryz.func87, Tryz.ntmps87
  go_wp2_with fail
  refine (number_any r 8 8 s w H.out rfl (by omega)).mono ?_
  rintro e w' ⟨rfl, h1, h2⟩
  have H1 := Lib.hid h1
  have H2 := Lib.hid h2
  clear h1 h2
  go_wp2_with fail
  go_ret
  exact ⟨rfl, H1.out, H2.out⟩

set_option maxHeartbeats 400000 in
theorem rBad_any (r : Nat) (s : List UInt8 × Bool) (w : World) (h : Rdr w r s) :
    Calls Tryz.prog 140 #[.pointer (some ⟨r, 0, none⟩)] w (Red w r (.tuple #[]) (s.1, true)) := by
  obtain ⟨A, n, c, hb, hnc, hc, hr⟩ := h
  have HB := Lib.hid hb
  have HR := Lib.hid hr
  have c1 := hb.cell 1
  have f0 := hb.frozen 1
  clear hb hr
  simp at c1
  go_enter Tryz.func140, Tryz.ntmps140
  go_wp2_with fail
  go_end0
  exact ⟨rfl, rdr_set1 HB.out hnc hc HR.out, grown_set _ _ _ _⟩

set_option maxHeartbeats 400000 in
theorem rDone_any (r : Nat) (s : List UInt8 × Bool) (w : World) (h : Rdr w r s) :
    Calls Tryz.prog 93 #[.pointer (some ⟨r, 0, none⟩)] w (fun e w' => e = .returned (.int .i64 (if s.2 = true ∨ 0 < s.1.length then 2 else 0)) ∧ w = w') := by
  obtain ⟨bs, bad⟩ := s
  obtain ⟨A, n, c, hb, hnc, hc, hr⟩ := h
  have HR := Lib.hid hr
  have hl := hr.len
  have c0 := hb.cell 0
  have c1 := hb.cell 1
  clear hb hr
  simp at c0 c1
  simp only at hl ⊢
  rw [hl]
  clear hl
  cases bad with
  | true =>
    simp only [true_or, if_true]
    go_enter Tryz.func93, Tryz.ntmps93
    go_wp2_with fail
    go_ret
    exact ⟨rfl, rfl⟩
  | false =>
    by_cases h0 : 0 < n
    · simp only [h0, or_true, if_true]
      go_enter Tryz.func93, Tryz.ntmps93
      go_wp2_with fail
      go_ret
      exact ⟨rfl, rfl⟩
    · rw [if_neg (by simp [h0])]
      go_enter Tryz.func93, Tryz.ntmps93
      go_wp2_with fail
      go_ret
      exact ⟨rfl, rfl⟩

set_option maxHeartbeats 400000 in
theorem rNew_any (A : Option Addr) (n c : Nat) (bs : List UInt8) (w : World) (h : Rd w A n bs) (hn : n ≤ 1000000000000) :
    Calls Tryz.prog 86 #[.slice A n c] w (fun e w' => ∃ r, e = .returned (.pointer (some ⟨r, 0, none⟩)) ∧ w.heap.size ≤ r ∧ Rdr w' r (bs, false) ∧ Below w.heap.size w w') := by
  have H := Lib.hid h
  clear h
  go_enter Tryz.func86, Tryz.ntmps86
  go_wp2_with fail
  refine (withRoom_own A n c 0 bs w H.out (by omega) (by omega)).mono ?_
  rintro e w1 ⟨rfl, hown1, hb1⟩
  have HO1 := Lib.hid hown1
  have HB1 := Lib.hid hb1
  clear hown1 hb1
  go_wp2_with fail
  go_ret
  have hr1 := Rd.of_own HO1.out
  exact ⟨w1.heap.size, rfl, HB1.out.size, ⟨_, n, n, Bk.new w1 _ _, Nat.le_refl _, hn, hr1.1.below ((Below.refl _ _).alloc (Nat.le_refl _) _)⟩, HB1.out.alloc HB1.out.size _⟩

set_option maxHeartbeats 400000 in
theorem tell_any (A : Option Addr) (n c : Nat) (bs : List UInt8) (w : World) (h : Rd w A n bs) (hn : n ≤ 1000000000000) :
    Calls Tryz.prog 126 #[.slice A n c] w fun e w' => e = .returned (.slice (some ⟨w.heap.size, 0, none⟩) n n) ∧ w'.ownsRow w.heap.size 5 1 (.slice (some ⟨w.heap.size, 0, none⟩) n n) n (bs.map U) ∧ Below w.heap.size w w' := by
  have H := Lib.hid h
  clear h
  go_enter Tryz.func126, Tryz.ntmps126
  go_wp2_with fail
  refine (withRoom_own A n c 0 bs w H.out (by omega) (by omega)).mono ?_
  rintro e w1 ⟨rfl, hown1, hb1⟩
  have HO1 := Lib.hid hown1
  have HB1 := Lib.hid hb1
  clear hown1 hb1
  go_wp2_with fail
  go_ret
  exact ⟨rfl, HO1.out, HB1.out⟩

/-- What a reading call of bytes leaves. -/
def RedB (w : World) (r : Nat) (bs : List UInt8) (s : List UInt8 × Bool) (e : Ending) (w' : World) : Prop :=
  ∃ A n c, e = .returned (.slice A n c) ∧ w'.ownsRow w.heap.size 5 1 (.slice A n c) n (bs.map U) ∧ Rdr w' r s ∧ w.grownBy w' (some r)

/-- Bytes were told, then the reader's slice was set. -/
def ToldB (w : World) (r k : Nat) (bs : List UInt8) (u : Value) (e : Ending) (w' : World) : Prop :=
  ∃ w1, e = .returned (.slice (some ⟨w.heap.size, 0, none⟩) k k) ∧ w1.ownsRow w.heap.size 5 1 (.slice (some ⟨w.heap.size, 0, none⟩) k k) k (bs.map U) ∧ Below w.heap.size w w1 ∧ w' = w1.setCell ⟨r, 0, none⟩ u

theorem own_base {w : World} {base base' : Nat} {e : TypeId} {size : Nat} {v : Value} {n : Nat} {xs : List Value} (h : w.ownsRow base e size v n xs) (hb : base' ≤ base) : w.ownsRow base' e size v n xs := by
  refine ⟨h.1, ?_⟩
  rcases h.2 with h2 | ⟨g, cap, cur, e, hg, hr⟩
  · exact Or.inl h2
  · exact Or.inr ⟨g, cap, cur, e, Nat.le_trans hb hg, hr⟩

set_option maxHeartbeats 400000 in
theorem readB_ok (r : Nat) (A : Option Addr) (n c k : Nat) (kk : Int) (bs : List UInt8) (w : World) (hb : Bk w r 160 #[.slice A n c, .bool false]) (hnc : n ≤ c) (hc : c ≤ 1000000000000) (h : Rd w A n bs) (hkk : kk = k) (hk : k ≤ n) :
    Calls Tryz.prog 125 #[.pointer (some ⟨r, 0, none⟩), .int .u64 kk, .func (.func 126) #[] #[]] w (ToldB w r k (bs.take k) (.slice (if c = k then A else A.map (·.add k)) (n - k) (c - k))) := by
  subst hkk
  have H := Lib.hid h
  have HB := Lib.hid hb
  have c0 := hb.cell 0
  have c1 := hb.cell 1
  clear h hb
  simp at c0 c1
  go_enter Tryz.func125, Tryz.ntmps125
  go_wp2_with fail
  refine (tell_any A k c (bs.take k) w (H.out.take hk) (by omega)).mono ?_
  rintro e w1 ⟨rfl, hown1, hb1⟩
  have c01 : w1.cell? ⟨r, 0, none⟩ = some (.slice A n c) := (hb1.cell HB.out.lt).trans c0
  have f01 : w1.frozen? ⟨r, 0, none⟩ = false := (hb1.frozen HB.out.lt).trans (HB.out.frozen 0)
  have HO1 := Lib.hid hown1
  have HB1 := Lib.hid hb1
  clear hown1 hb1 c0 c1
  go_wp2_with fail
  all_goals
    go_ret
    exact ⟨w1, rfl, HO1.out, HB1.out, rfl⟩

set_option maxHeartbeats 400000 in
theorem readB_bad (r : Nat) (A : Option Addr) (n c : Nat) (kk : Int) (f : Value) (w : World) (hb : Bk w r 160 #[.slice A n c, .bool true]) :
    Calls Tryz.prog 125 #[.pointer (some ⟨r, 0, none⟩), .int .u64 kk, f] w fun e w' => e = .returned (.slice none 0 0) ∧ w = w' := by
  have c1 := hb.cell 1
  clear hb
  simp at c1
  go_enter Tryz.func125, Tryz.ntmps125
  go_wp2_with fail
  go_ret
  exact ⟨rfl, rfl⟩

set_option maxHeartbeats 400000 in
theorem readB_nil (kk : Int) (f : Value) (w : World) :
    Calls Tryz.prog 125 #[.pointer none, .int .u64 kk, f] w fun e w' => e = .returned (.slice none 0 0) ∧ w = w' := by
  go_enter Tryz.func125, Tryz.ntmps125
  go_wp2_with fail
  go_ret
  exact ⟨rfl, rfl⟩

set_option maxHeartbeats 400000 in
theorem readB_short (r : Nat) (A : Option Addr) (n c k : Nat) (kk : Int) (f : Value) (w : World) (hb : Bk w r 160 #[.slice A n c, .bool false]) (hnc : n ≤ 1000000000000) (hkk : kk = k) (hk : n < k) :
    Calls Tryz.prog 125 #[.pointer (some ⟨r, 0, none⟩), .int .u64 kk, f] w fun e w' => e = .returned (.slice none 0 0) ∧ w' = w.setCell ⟨r, 1, none⟩ (.bool true) := by
  subst hkk
  have c0 := hb.cell 0
  have c1 := hb.cell 1
  have f0 := hb.frozen 1
  clear hb
  simp at c0 c1
  go_enter Tryz.func125, Tryz.ntmps125
  go_wp2_with fail
  go_ret
  exact ⟨rfl, rfl⟩

theorem grown_of_below {w w1 : World} (h : Below w.heap.size w w1) (row : Option Nat) : w.grownBy w1 row := ⟨h.os, h.tape, h.output, h.size, fun k hk _ => h.block k hk⟩
theorem grown_trans {w w1 w2 : World} {row : Option Nat} (h : w.grownBy w1 row) (k : w1.grownBy w2 row) : w.grownBy w2 row :=
  ⟨k.os.trans h.os, k.tape.trans h.tape, k.output.trans h.output, Nat.le_trans h.size k.size, fun i hi hn => (k.block i (Nat.lt_of_lt_of_le hi h.size) hn).trans (h.block i hi hn)⟩

theorem readB_any (r k : Nat) (kk : Int) (s : List UInt8 × Bool) (w : World) (h : Rdr w r s) (hkk : kk = k) :
    Calls Tryz.prog 125 #[.pointer (some ⟨r, 0, none⟩), .int .u64 kk, .func (.func 126) #[] #[]] w (RedB w r (takeS k s).1 (takeS k s).2) := by
  obtain ⟨bs, bad⟩ := s
  obtain ⟨A, n, c, hb, hnc, hc, hr⟩ := h
  have hl := hr.len
  simp only at hb hr hl
  cases bad with
  | true =>
    refine (readB_bad r A n c kk _ w hb).mono ?_
    rintro e w' ⟨rfl, rfl⟩
    simp only [takeS, true_or, if_true]
    exact ⟨none, 0, 0, rfl, World.ownsRow_nil _ _ _ _, ⟨A, n, c, hb, hnc, hc, hr⟩, grown_refl _ _⟩
  | false =>
    by_cases hk : n < k
    · refine (readB_short r A n c k kk _ w hb (by omega) hkk hk).mono ?_
      rintro e w' ⟨rfl, rfl⟩
      simp only [takeS, hl, hk, or_true, if_true]
      exact ⟨none, 0, 0, rfl, World.ownsRow_nil _ _ _ _, rdr_set1 hb hnc hc hr, grown_set _ _ _ _⟩
    · refine (readB_ok r A n c k kk bs w hb hnc hc hr hkk (by omega)).mono ?_
      rintro e w' ⟨w1, rfl, hown, hbel, rfl⟩
      have hs : takeS k (bs, false) = (bs.take k, (bs.drop k, false)) := by simp [takeS, hl, hk]
      rw [hs]
      exact ⟨_, k, k, rfl, ownsRow_setCell_below hown hb.lt _, rdr_set0 (hb.below hbel) (by omega) (by omega) ((hr.below hbel).drop (by omega) hnc), grown_trans (grown_of_below hbel _) (grown_set _ _ _ _)⟩

/-- What Text reads. -/
def textS (s : List UInt8 × Bool) : List UInt8 × (List UInt8 × Bool) := takeS (val (takeS 4 s).1) (takeS 4 s).2

set_option maxHeartbeats 400000 in
theorem rText_any (r : Nat) (s : List UInt8 × Bool) (w : World) (h : Rdr w r s) :
    Calls Tryz.prog 104 #[.pointer (some ⟨r, 0, none⟩)] w (RedB w r (textS s).1 (textS s).2) := by
  have H := Lib.hid h
  clear h
  go_enter Tryz.func104, Tryz.ntmps104
  go_wp2_with fail
  refine (number_any r 4 4 s w H.out rfl (by omega)).mono ?_
  rintro e w1 ⟨rfl, h1, h2⟩
  have H1 := Lib.hid h1
  have H2 := Lib.hid h2
  clear h1 h2
  go_wp2_with fail
  refine (readB_any r _ _ (takeS 4 s).2 w1 H1.out rfl).mono ?_
  rintro e w2 ⟨A, n, c, rfl, hown, h3, h4⟩
  have HO := Lib.hid hown
  have H3 := Lib.hid h3
  have H4 := Lib.hid h4
  clear hown h3 h4
  go_wp2_with fail
  go_ret
  exact ⟨A, n, c, rfl, own_base HO.out H2.out.size, H3.out, grown_trans H2.out H4.out⟩

end Go.Proofs.YtmhfhhhhbcignaaGreat

namespace Go.Proofs.YtmhfhhhhbcignaaGreat
open Go.RowKit

/-- What Count reads. -/
def countS (most : Int) (s : List UInt8 × Bool) : Nat × (List UInt8 × Bool) :=
  if most < 0 ∨ most < (val (takeS 8 s).1 : Int) then (0, ((takeS 8 s).2.1, true)) else (val (takeS 8 s).1, (takeS 8 s).2)

set_option maxHeartbeats 400000 in
theorem rCount_any (r : Nat) (most : Int) (s : List UInt8 × Bool) (w : World) (h : Rdr w r s) (hm : most ≤ 9223372036854775807) (hm2 : -9223372036854775808 ≤ most) :
    Calls Tryz.prog 139 #[.pointer (some ⟨r, 0, none⟩), .int .i64 most] w (Red w r (.int .i64 (countS most s).1) (countS most s).2) := by
  have H := Lib.hid h
  have hv := takeS_val8 8 s (by omega)
  clear h
  by_cases h0 : most < 0
  · have hs : countS most s = (0, ((takeS 8 s).2.1, true)) := by unfold countS; rw [if_pos (.inl h0)]
    rw [hs]
    clear hs
    go_enter Tryz.func139, Tryz.ntmps139
    go_wp2_with fail
    refine (number_any r 8 8 s w H.out rfl (by omega)).mono ?_
    rintro e w1 ⟨rfl, h1, h2⟩
    have H1 := Lib.hid h1
    have H2 := Lib.hid h2
    clear h1 h2
    go_wp2_with fail
    refine (rBad_any r _ w1 H1.out).mono ?_
    rintro e w2 ⟨rfl, h1, h2⟩
    have H3 := Lib.hid h1
    have H4 := Lib.hid h2
    clear h1 h2
    go_wp2_with fail
    go_ret
    exact ⟨rfl, H3.out, grown_trans H2.out H4.out⟩
  · by_cases h1 : most < (val (takeS 8 s).1 : Int)
    · have hs : countS most s = (0, ((takeS 8 s).2.1, true)) := by unfold countS; rw [if_pos (.inr h1)]
      rw [hs]
      clear hs
      go_enter Tryz.func139, Tryz.ntmps139
      go_wp2_with fail
      refine (number_any r 8 8 s w H.out rfl (by omega)).mono ?_
      rintro e w1 ⟨rfl, h1', h2⟩
      have H1 := Lib.hid h1'
      have H2 := Lib.hid h2
      clear h1' h2
      go_wp2_with fail
      refine (rBad_any r _ w1 H1.out).mono ?_
      rintro e w2 ⟨rfl, h1', h2⟩
      have H3 := Lib.hid h1'
      have H4 := Lib.hid h2
      clear h1' h2
      go_wp2_with fail
      go_ret
      exact ⟨rfl, H3.out, grown_trans H2.out H4.out⟩
    · have hs : countS most s = (val (takeS 8 s).1, (takeS 8 s).2) := by unfold countS; rw [if_neg (by omega)]
      rw [hs]
      clear hs
      go_enter Tryz.func139, Tryz.ntmps139
      go_wp2_with fail
      refine (number_any r 8 8 s w H.out rfl (by omega)).mono ?_
      rintro e w1 ⟨rfl, h1', h2⟩
      have H1 := Lib.hid h1'
      have H2 := Lib.hid h2
      clear h1' h2
      go_wp2_with fail
      go_ret
      exact ⟨rfl, H1.out, H2.out⟩

set_option maxHeartbeats 400000 in
theorem nByte (w : World) : Calls Tryz.prog 92 #[.pointer none] w fun e w' => e = .returned (.int .u8 0) ∧ w = w' := by
  go_enter Tryz.func92, Tryz.ntmps92
  go_wp2_with fail
  refine (number_nil _ w).mono ?_
  rintro e w' ⟨rfl, rfl⟩
  go_wp2_with fail
  go_ret
  exact ⟨rfl, rfl⟩
set_option maxHeartbeats 400000 in
theorem nUint (w : World) : Calls Tryz.prog 87 #[.pointer none] w fun e w' => e = .returned (.int .u64 0) ∧ w = w' := by
  go_enter Tryz.func87, Tryz.ntmps87
  go_wp2_with fail
  refine (number_nil _ w).mono ?_
  rintro e w' ⟨rfl, rfl⟩
  go_wp2_with fail
  go_ret
  exact ⟨rfl, rfl⟩
set_option maxHeartbeats 400000 in
theorem nText (w : World) : Calls Tryz.prog 104 #[.pointer none] w fun e w' => e = .returned (.slice none 0 0) ∧ w = w' := by
  go_enter Tryz.func104, Tryz.ntmps104
  go_wp2_with fail
  refine (number_nil _ w).mono ?_
  rintro e w' ⟨rfl, rfl⟩
  go_wp2_with fail
  refine (readB_nil _ _ w).mono ?_
  rintro e w' ⟨rfl, rfl⟩
  go_wp2_with fail
  go_ret
  exact ⟨rfl, rfl⟩
set_option maxHeartbeats 400000 in
theorem nBad (w : World) : Calls Tryz.prog 140 #[.pointer none] w fun e w' => e = .returned (.tuple #[]) ∧ w = w' := by
  go_enter Tryz.func140, Tryz.ntmps140
  go_wp2_with fail
  go_end0
  exact ⟨rfl, rfl⟩
set_option maxHeartbeats 400000 in
theorem nDone (w : World) : Calls Tryz.prog 93 #[.pointer none] w fun e w' => e = .returned (.int .i64 8) ∧ w = w' := by
  go_enter Tryz.func93, Tryz.ntmps93
  go_wp2_with fail
  go_ret
  exact ⟨rfl, rfl⟩
set_option maxHeartbeats 400000 in
theorem nCount (w : World) : Calls Tryz.prog 139 #[.pointer none, .int .i64 3] w fun e w' => e = .returned (.int .i64 0) ∧ w = w' := by
  go_enter Tryz.func139, Tryz.ntmps139
  go_wp2_with fail
  refine (number_nil _ w).mono ?_
  rintro e w' ⟨rfl, rfl⟩
  go_wp2_with fail
  go_ret
  exact ⟨rfl, rfl⟩
end Go.Proofs.YtmhfhhhhbcignaaGreat
