/- Trees in memory: the map of nodes as a row in order, and what a tree is in a world. -/
import Derived.Test.YtplbckibogmicaaGreatDoorTreeBase
import Derived.Maps.Own
import Derived.Maps.OwnOps
import Derived.Maps.OwnSet
namespace Go.Proofs.YtplbckibogmicaaGreatDoor.Tree
open Go.Op Go.RowKit Path

/-! ### A row as a map's datum -/
def mapD (l : Row) : DataW ZN := .map (l.map fun x => (.string x.1, .held x.2))
theorem before_less : ∀ a b : List UInt8, bytesBefore a b = bytesLess a b
  | _, [] => by cases ‹List UInt8› <;> rfl
  | [], _ :: _ => rfl
  | a :: x, b :: y => by
    unfold bytesBefore bytesLess
    rw [before_less x y]
theorem size_mapD (l : Row) : Maps.size (mapD l) = l.length := by simp [Maps.size, mapD]
theorem has_mapD (l : Row) (p : List UInt8) : Maps.has (mapD l) (.string p) = has l p := by
  unfold mapD has
  rw [Maps.has_eq, List.any_map]
  induction l with
  | nil => rfl
  | cons x l ih =>
    rw [List.any_cons, List.any_cons, ih]
    by_cases h : x.1 = p
    · subst h; simp [Lit.sameKey]
    · have h2 : (x.1 == p) = false := by simpa using h
      rw [h2]
      simp [Lit.sameKey, h]
theorem atKey_mapD (l : Row) (p : List UInt8) (z : DataW ZN) : (mapD l).atKey (.string p) z = match get l p with | some v => .held v | none => z := by
  unfold mapD get DataW.atKey
  dsimp only
  induction l with
  | nil => rfl
  | cons x l ih =>
    rw [List.map_cons]
    by_cases h : x.1 = p
    · subst h; simp [Lit.sameKey]
    · rw [List.find?_cons_of_neg (by simpa [Lit.sameKey] using h), ih, List.find?_cons_of_neg (by simpa using h)]
theorem filter_mapD (l : Row) (p : List UInt8) : (l.map fun x => ((.string x.1 : Lit), (DataW.held x.2 : DataW ZN))).filter (fun q => !q.1.sameKey (.string p)) = (del p l).map fun x => (.string x.1, .held x.2) := by
  unfold del
  rw [List.filter_map]
  congr 1
theorem del_mapD (l : Row) (p : List UInt8) : (mapD l).del (.string p) = mapD (del p l) := by
  unfold mapD DataW.del
  dsimp only
  rw [filter_mapD]
theorem del_none {l : Row} {p : List UInt8} (h : ∀ x ∈ l, x.1 ≠ p) : del p l = l := by
  unfold del
  rw [List.filter_eq_self]
  intro x hx
  simpa using h x hx
theorem put_mapD {l : Row} (hs : Sorted l) (p : List UInt8) (v : ZN) : (mapD l).put (.string p) (.held v) = mapD (ins p v l) := by
  unfold mapD DataW.put
  dsimp only
  rw [filter_mapD]
  congr 1
  induction l with
  | nil => rfl
  | cons x l ih =>
    obtain ⟨q, u⟩ := x
    have h' : (q :: l.map (·.1)).Pairwise fun a b => bytesLess a b = true := hs
    rw [List.pairwise_cons] at h'
    have ih := ih h'.2
    unfold ins
    by_cases hq : q = p
    · subst hq
      rw [if_pos rfl]
      have hd : del q ((q, u) :: l) = l := by
        unfold del
        rw [List.filter_cons_of_neg (by simp)]
        exact del_none fun x hx e => by
          have := h'.1 x.1 (List.mem_map.2 ⟨x, hx, rfl⟩)
          rw [e, less_irrefl] at this
          cases this
      rw [hd]
      cases l with
      | nil => rfl
      | cons y l =>
        obtain ⟨r, z⟩ := y
        have hlt := h'.1 r (by simp)
        show (if (Lit.string q).before (.string r) = true then _ else _) = _
        rw [if_pos (by show bytesBefore q r = true; rw [before_less]; exact hlt)]
        rfl
    · rw [if_neg hq]
      have hd : del p ((q, u) :: l) = (q, u) :: del p l := by
        unfold del
        rw [List.filter_cons_of_pos (by simpa using hq)]
      rw [hd]
      by_cases hlt : bytesLess p q = true
      · rw [if_pos hlt]
        have hn : del p l = l := del_none fun x hx e => by
          have h1 := h'.1 x.1 (List.mem_map.2 ⟨x, hx, rfl⟩)
          rw [e, less_asymm hlt] at h1
          cases h1
        rw [hn]
        show (if (Lit.string p).before (.string q) = true then _ else _) = _
        rw [if_pos (by show bytesBefore p q = true; rw [before_less]; exact hlt)]
        rfl
      · rw [if_neg hlt]
        show (if (Lit.string p).before (.string q) = true then _ else _) = _
        rw [if_neg (by show ¬ bytesBefore p q = true; rw [before_less]; exact hlt), ih]
        rfl
theorem keys : Maps.Keyed Tryz.prog 9 := Maps.string_keyed ty_string
theorem key_of (p : List UInt8) (h : p.length ≤ 1000000) : keyOf Tryz.prog 9 (.string (S p)) = some (.string p) := by
  have := Go.WideMaps.keyOf_string_mk (P := Tryz.prog) ty_string (s := S p) (by rw [S_size]; unfold maxLen; omega)
  simpa [S] using this
theorem ty_map : Tryz.prog.underlying 87 = some (.map 9 39) := by kernel_rfl
theorem zero_zn (w : World) : (zeroValue 39).run Tryz.prog w = .ok (znV ZN.zero (.slice none 0 0)) w := by
  simp [znV, znC, ZN.zero]

/-! ### A node in a world -/
theorem rd_unique {w : World} {A : Option Addr} {n : Nat} {a b : List UInt8} (ha : Rd w A n a) (hb : Rd w A n b) : a = b := by
  have h1 := ha.len
  have h2 := hb.len
  by_cases h0 : n = 0
  · subst h0
    rw [List.eq_nil_of_length_eq_zero h1, List.eq_nil_of_length_eq_zero h2]
  · obtain ⟨ad, e1, c1⟩ := ha.cells (by omega)
    obtain ⟨ad', e2, c2⟩ := hb.cells (by omega)
    have : ad = ad' := by rw [e1] at e2; exact Option.some.inj e2
    subst this
    refine List.ext_getElem (by omega) fun j hj hj' => ?_
    have g1 := c1 j a[j] (List.getElem?_eq_getElem hj)
    have g2 := c2 j b[j] (List.getElem?_eq_getElem hj')
    rw [g1] at g2
    have g3 : U a[j] = U b[j] := Option.some.inj g2
    unfold U at g3
    injection g3 with _ g3
    exact UInt8.toNat_inj.1 (by exact_mod_cast g3)
theorem znV_inj {n m : ZN} {d e : Value} (h : znV n d = znV m e) : d = e ∧ n.ver = m.ver ∧ n.kin = m.kin ∧ n.next = m.next ∧ n.site = m.site ∧ n.own = m.own ∧ n.made = m.made ∧ n.chg = m.chg ∧ n.tch = m.tch := by
  unfold znV znC at h
  simpa using h
theorem DataS.unique {P Q : Nat → Prop} {w : World} {d : Value} {a b : List UInt8} (ha : DataS P w d a) (hb : DataS Q w d b) : a = b := by
  obtain ⟨A, n, c, rfl, _, _, h1⟩ := ha
  obtain ⟨B, m, c', e, _, _, h2⟩ := hb
  injection e with e1 e2 e3
  subst e1
  subst e2
  exact rd_unique h1 h2
theorem zn_unique {P Q : Nat → Prop} {w : World} {n m : ZN} {d e : Value} (h : znV n d = znV m e) (hd : DataS P w d n.data) (he : DataS Q w e m.data) : n = m := by
  obtain ⟨rfl, h1, h2, h3, h4, h5, h6, h7, h8⟩ := znV_inj h
  have h0 := hd.unique he
  cases n
  cases m
  simp_all
theorem DataS.kept {P : Nat → Prop} {w w' : World} {d : Value} {bs : List UInt8} (h : DataS P w d bs) (hk : ∀ k, P k → w'.heap[k]? = w.heap[k]?) : DataS P w' d bs := by
  obtain ⟨A, n, c, e, hc, hP, hr⟩ := h
  refine ⟨A, n, c, e, hc, hP, hr.len, fun h0 => ?_⟩
  obtain ⟨ad, rfl, hcell⟩ := hr.cells h0
  exact ⟨ad, rfl, fun j b hb => (World.cell?_of_block (w := w) (hk _ (by rw [add_block]; exact hP h0 ad rfl))).trans (hcell j b hb)⟩

open Classical in
/-- How a map's element reads: as a node whose data lie in blocks of D. -/
noncomputable def zR (D : Nat → Prop) (w : World) (v : Value) : Option (DataW ZN × List MemPlace) :=
  if h : ∃ n d, v = znV n d ∧ DataS D w d n.data then some (.held h.choose, []) else none
theorem zR_mk {D : Nat → Prop} {w : World} {n : ZN} {d : Value} (hd : DataS D w d n.data) : zR D w (znV n d) = some (.held n, []) := by
  have h : ∃ m e, znV n d = znV m e ∧ DataS D w e m.data := ⟨n, d, rfl, hd⟩
  unfold zR
  rw [dif_pos h]
  obtain ⟨e, h1, h2⟩ := h.choose_spec
  rw [← zn_unique h1 hd h2]
theorem zR_inv {D : Nat → Prop} {w : World} {v : Value} {z : DataW ZN × List MemPlace} (h : zR D w v = some z) : ∃ n d, v = znV n d ∧ DataS D w d n.data ∧ z = (.held n, []) := by
  unfold zR at h
  split at h
  · next h1 =>
    obtain ⟨e, h2, h3⟩ := h1.choose_spec
    exact ⟨_, e, h2, h3, (Option.some.inj h).symm⟩
  · cases h
theorem zR_kept {D D' : Nat → Prop} {w w' : World} (hk : ∀ k, D k → w'.heap[k]? = w.heap[k]?) (hD : ∀ k, D k → D' k) {v : Value} {z : DataW ZN × List MemPlace} (h : zR D w v = some z) : zR D' w' v = some z := by
  obtain ⟨n, d, rfl, hd, rfl⟩ := zR_inv h
  exact zR_mk ((hd.kept hk).mono hD)

/-! ### A tree in a world -/
def Small (l : Row) : Prop := ∀ x ∈ l, x.2.data.length ≤ 1000000
theorem small_del {l : Row} (h : Small l) (p : List UInt8) : Small (del p l) := fun x hx => h x (List.mem_filter.1 hx).1
theorem small_ins {l : Row} (h : Small l) (p : List UInt8) (n : ZN) (hn : n.data.length ≤ 1000000) : Small (ins p n l) := by
  induction l with
  | nil =>
    intro x hx
    simp [ins] at hx
    subst hx
    exact hn
  | cons y l ih =>
    obtain ⟨q, m⟩ := y
    have h1 : Small l := fun x hx => h x (List.mem_cons_of_mem _ hx)
    have h2 := h (q, m) (by simp)
    intro x hx
    unfold ins at hx
    split at hx
    · rcases List.mem_cons.1 hx with rfl | hx
      · exact hn
      · exact h1 x hx
    · split at hx
      · rcases List.mem_cons.1 hx with rfl | hx
        · exact hn
        · exact h x hx
      · rcases List.mem_cons.1 hx with rfl | hx
        · exact h2
        · exact ih h1 x hx
structure TreeAt (w : World) (D : Nat → Prop) (g b : Nat) (t : TR) : Prop where
  bk : Bk w g 89 #[.string (S t.root), .int .u64 (t.cnt : Int), .map (some b)]
  map : w.ownsMap Tryz.prog 9 (zR D w) b t.row.length (mapD t.row)
  good : Good t.root t.row
  cnt : t.cnt < 18446744073709551616
  dlt : ∀ k, D k → k < w.heap.size
  small : Small t.row
theorem owns_kept {D D' : Nat → Prop} {w0 w w' : World} {b n : Nat} {M : DataW ZN} (h : w.ownsMap Tryz.prog 9 (zR D w0) b n M) (hb : w'.heap[b]? = w.heap[b]?) (hk : ∀ k, D k → w'.heap[k]? = w0.heap[k]?) (hD : ∀ k, D k → D' k) : w'.ownsMap Tryz.prog 9 (zR D' w') b n M := by
  obtain ⟨es, clock, hb0, F, hs, rfl⟩ := h
  exact (World.ownsMap_of_fit (hb.trans hb0) F (fun _ _ _ hz => zR_kept hk hD hz)).mono hs
theorem TreeAt.kept {w w' : World} {D : Nat → Prop} {g b : Nat} {t : TR} (h : TreeAt w D g b t) (hg : w'.heap[g]? = w.heap[g]?) (hb : w'.heap[b]? = w.heap[b]?) (hk : ∀ k, D k → w'.heap[k]? = w.heap[k]?) (hz : w.heap.size ≤ w'.heap.size) : TreeAt w' D g b t :=
  ⟨h.bk.kept hg, owns_kept h.map hb hk (fun _ h => h), h.good, h.cnt, fun k hk' => Nat.lt_of_lt_of_le (h.dlt k hk') hz, h.small⟩
theorem TreeAt.below {w w' : World} {D : Nat → Prop} {g b : Nat} {t : TR} (h : TreeAt w D g b t) (hb : Below w.heap.size w w') : TreeAt w' D g b t :=
  h.kept (hb.block g h.bk.lt) (hb.block b h.map.lt) (fun k hk => hb.block k (h.dlt k hk)) hb.size
theorem TreeAt.ne {w : World} {D : Nat → Prop} {g b : Nat} {t : TR} (h : TreeAt w D g b t) : g ≠ b := by
  obtain ⟨es, clock, hb, _⟩ := h.map
  have h1 := h.bk
  unfold Bk at h1
  rintro rfl
  rw [hb] at h1
  cases h1
theorem TreeAt.look {w : World} {D : Nat → Prop} {g b : Nat} {t : TR} (h : TreeAt w D g b t) (p : List UInt8) (hp : p.length ≤ 1000000) :
    ∃ n d, (Instr.lookup 87 (.map (some b)) (.string (S p)) true).run Tryz.prog w = .ok (.tuple #[znV n d, .bool (has t.row p)]) w ∧ DataS D w d n.data := by
  obtain ⟨v, ps, h1, h2⟩ := h.map.look_ok keys ty_map (zero_zn w) (zR_mk (DataS.nil_ D w)) (key_of p hp)
  obtain ⟨n, d, rfl, hd, _⟩ := zR_inv h2
  rw [has_mapD] at h1
  exact ⟨n, d, h1, hd⟩
theorem TreeAt.find {w : World} {D : Nat → Prop} {g b : Nat} {t : TR} (h : TreeAt w D g b t) (p : List UInt8) (hp : p.length ≤ 1000000) (n : ZN) (hn : get t.row p = some n) :
    ∃ d, (Instr.lookup 87 (.map (some b)) (.string (S p)) false).run Tryz.prog w = .ok (znV n d) w ∧ DataS D w d n.data := by
  obtain ⟨v, ps, h1, h2⟩ := h.map.lookup keys ty_map (zero_zn w) (zR_mk (DataS.nil_ D w)) (key_of p hp)
  rw [atKey_mapD, hn] at h2
  obtain ⟨m, d, rfl, hd, e⟩ := zR_inv h2
  simp at e
  obtain ⟨rfl, -⟩ := e
  exact ⟨d, h1, hd⟩
theorem TreeAt.size {w : World} {D : Nat → Prop} {g b : Nat} {t : TR} (h : TreeAt w D g b t) (ty : TypeId) : (Builtin.len_ #[87] ty #[.map (some b)]).run Tryz.prog w = .ok (.int .i64 t.row.length) w := by
  rw [h.map.len ty_map ty, size_mapD]
end Go.Proofs.YtplbckibogmicaaGreatDoor.Tree
