/- What goes through all paths in order: the iterator's contract. -/
import Derived.Test.YtplbckibogmicaaGreatDoorTreeSameOf
import Derived.Test.YtplbckibogmicaaGreatDoorShelf2
import Derived.RangeFuncNested
import Derived.RangeFuncBound
import Derived.RangeFuncCalls
import Derived.RangeFuncLeaves
import Derived.RangeFuncBox
import Derived.Shelf.Abstract
import Derived.Shelf.AbstractIn
import Derived.Shelf.RegionOpen
import Derived.WalkKit
import Derived.OwnWalkIn
import Derived.TacticsInMore
import Derived.LoopNIn
import Derived.LoopIn
import Derived.Maps.AppendAt
import Derived.Maps.OwnIn
import Derived.Sort.Walk0
namespace Go.Proofs.YtplbckibogmicaaGreatDoor.Tree
open Go.Op Go.RowKit Go.Maps Go.Sort Go.Shelf Path
attribute [local go_sem] Oper.semAt_some

abbrev Pth := { p : List UInt8 // p.length ≤ 64 }
def encP (x : Pth) : Array Value := #[.string (S x.1)]

/-! ### What a round keeps: all cells but the box bx and the row that it names -/
def rowAt (W : World) (bx : Nat) : Option Nat := (W.cell? ⟨bx, 0, none⟩).bind Value.ownBlock
structure Keep (bx : Nat) (W W' : World) : Prop where
  size : W.heap.size ≤ W'.heap.size
  cells : ∀ k o, W.heap[k]? = some o → o.isCells = true → k ≠ bx → rowAt W bx ≠ some k → W'.heap[k]? = some o
  row : rowAt W' bx = rowAt W bx ∨ ∃ k, rowAt W' bx = some k ∧ W.heap.size ≤ k
theorem Keep.trans {bx : Nat} {A B C : World} (h : Keep bx A B) (k : Keep bx B C) : Keep bx A C := by
  refine ⟨Nat.le_trans h.size k.size, fun i o hi ho hne hr => ?_, ?_⟩
  · have hlt : i < A.heap.size := (Array.getElem?_eq_some_iff.1 hi).1
    refine k.cells i o (h.cells i o hi ho hne hr) ho hne ?_
    rcases h.row with e | ⟨j, e, hj⟩
    · rw [e]; exact hr
    · rw [e]
      intro e2
      have := Option.some.inj e2
      omega
  · rcases k.row with e | ⟨j, e, hj⟩
    · rcases h.row with e2 | ⟨j, e2, hj⟩
      · exact .inl (e.trans e2)
      · exact .inr ⟨j, e.trans e2, hj⟩
    · exact .inr ⟨j, e, Nat.le_trans h.size hj⟩
theorem rowAt_same {bx : Nat} {W W' : World} (h : W'.heap[bx]? = W.heap[bx]?) : rowAt W' bx = rowAt W bx := by
  unfold rowAt
  rw [World.cell?_of_block (w := W) h]
theorem Keep.put {bx B : Nat} (hbx : bx < B) (W : World) (l : Nat) (o o' : Obj) (hl : B ≤ l) (h : W.heap[l]? = some o) (ho : o.isCells = false) (_ : o.isWalk = false) : Keep bx W (W.putObj l o') :=
  ⟨by simp, fun k q hk hq _ _ => by
    have : k ≠ l := by
      rintro rfl
      rw [h] at hk
      cases hk
      rw [ho] at hq
      cases hq
    exact (World.putObj_heap_other this).trans hk, .inl (rowAt_same (World.putObj_heap_other (by omega)))⟩
theorem Keep.of_below {bx : Nat} {W W' : World} (hb : Below W.heap.size W W') (hbx : bx < W.heap.size) : Keep bx W W' :=
  ⟨hb.size, fun k _ hk _ _ _ => (hb.block k (Array.getElem?_eq_some_iff.1 hk).1).trans hk, .inl (rowAt_same (hb.block bx hbx))⟩

/-! ### The keys in order -/
theorem le_of_less {x y : List UInt8} (h : bytesLess x y = true) : leB x y = true := by
  have h2 := less_asymm h
  rw [bytesLess_eq] at h2
  simp only [leB, decide_eq_true_eq]
  exact List.not_lt.1 (of_decide_eq_false h2)
theorem strKeys_mapD (l : Row) : strKeys (mapD l) = paths l := by
  unfold strKeys mapD paths
  dsimp only
  rw [List.map_map]
  rfl
theorem sorted_keys {l : Row} (hs : Sorted l) {ss : List (List UInt8)} (hp : ss.Perm (strKeys (mapD l))) : ss.mergeSort leB = paths l := by
  rw [mergeSort_of_perm hp, strKeys_mapD]
  exact List.mergeSort_of_pairwise (pw_map (fun h => le_of_less h) hs)
theorem row_facts {W2 : World} {base : Nat} {e : TypeId} {v : Value} {ss : List (List UInt8)} {l : Row} (hs : Sorted l) (hne : l ≠ []) (hS : ss.Perm (strKeys (mapD l))) (hrow : W2.ownsRow base e 1 v ss.length ((ss.mergeSort leB).map encStr)) :
    ∃ blk cap cur, v = .slice (some ⟨blk, 0, none⟩) l.length cap ∧ base ≤ blk ∧ W2.heap[blk]? = some (.cells cur e (0, 0)) ∧ ∀ (j : Nat) (h : j < (paths l).length), W2.cell? ⟨blk, j, none⟩ = some (.string (S (paths l)[j])) := by
  have hm := sorted_keys hs hS
  have hlen : ss.length = l.length := by rw [hS.length_eq, strKeys_mapD, length_paths]
  rw [hm, hlen] at hrow
  have hrow' := hrow
  rcases hrow.2 with ⟨_, h0⟩ | ⟨g, cap, cur, rfl, hbase, hgb, _⟩
  · exact absurd (List.eq_nil_of_length_eq_zero h0) hne
  · refine ⟨g, cap, cur, rfl, hbase, hgb, fun j h => ?_⟩
    have := hrow'.cells (g := g) rfl j (encStr (paths l)[j]) (by rw [List.getElem?_map, List.getElem?_eq_getElem h]; rfl)
    rw [add_off] at this
    exact this
theorem sortsA (m : Nat) : AnyZ.SortsIn Tryz.prog Tryz.sortedA_ren Fence.wide m :=
  ⟨fun blk off cap ss W hH hblk hsz => callsIn_wide.2 (AnyM.slices_Sort_string Tryz.sortA blk off cap ss W hH hblk hsz),
   fun p cap W => callsIn_wide.2 (AnyM.slices_Sort_string_none Tryz.sortA p cap W)⟩

theorem good_ne {root : List UInt8} {l : Row} (h : Good root l) : l ≠ [] := by
  rintro rfl
  exact absurd h.has_root (by simp [paths])
/-- Between two rounds. -/
def RelI (bx blk : Nat) (o : Obj) (l : List (List UInt8)) (J : List Pth → World → Prop) (i : Value) (wr : World) : Prop :=
  ∃ k : Nat, i = .int .i64 k ∧ k ≤ l.length ∧ (∃ pre : List Pth, pre.map (·.1) = l.take k ∧ J pre wr) ∧ wr.heap[blk]? = some o ∧ rowAt wr bx ≠ some blk
theorem abides_none {B : Nat} {J : List Pth → World → Prop} (hJ : AbidesFrom B J) {s : List Pth} {W W' : World} (h : J s W) (hg : W.grownBy W' none) : J s W' := hJ s W W' none h hg (fun r e => by cases e)
set_option maxRecDepth 100000 in
set_option maxHeartbeats 4000000 in
theorem inOrder1_stops (n : Nat) (hn : 6 ≤ n) {D : Nat → Prop} {g b : Nat} {t : TR} (bx Bt : Nat) (w : World) (h : TreeAt w D g b t) (hBt : w.cell? ⟨Bt, 0, none⟩ = some (.pointer (some ⟨g, 0, none⟩))) (hbx : bx < w.heap.size) (hrw : ∀ k, rowAt w bx = some k → k < w.heap.size) :
    SeqStopsK Fence.wide n Tryz.prog 89 #[.pointer (some ⟨Bt, 0, none⟩)] encP (Keep bx) (fun xs => xs.map (·.1) = paths t.row) (fun pre => pre.map (·.1) <+: paths t.row) t.row.length w := by
  intro l J Jx W hW hJ hJx hY h0
  have hB0 := hW
  have ht := h.below hB0
  have hcB : W.cell? ⟨Bt, 0, none⟩ = some (.pointer (some ⟨g, 0, none⟩)) := (hW.cell (p := ⟨Bt, 0, none⟩) (World.block_lt_of_cell? w _ hBt)).trans hBt
  have hcN : W.cell? ⟨g, 2, none⟩ = some (.map (some b)) := ht.bk.cell 2
  have hrow0 : ∀ k, rowAt W bx = some k → k < W.heap.size := fun k hk => by
    rw [rowAt_same (hW.block bx hbx)] at hk
    exact Nat.lt_of_lt_of_le (hrw k hk) hW.size
  have hW1 := Below.heap_alloc W (.cells #[.map (some b)] 87)
  have hseq : SeqGives Fence.wide (n - 1 - 1 - 1 - 1) Tryz.prog 109 #[.pointer (some ⟨W.heap.size, 0, none⟩)] encStr (fun ss => ss.Perm (strKeys (mapD t.row))) (Maps.size (mapD t.row)) (W.alloc (.cells #[.map (some b)] 87)) :=
    AnyZ.keys_gives (ρ := Tryz.keysA_ren) { Tryz.keysA with } Fence.wide _ trivial rfl (by omega) W.heap.size b _ (mapD t.row) _ (by simp) (by simp) (ht.map.alloc _)
  have cK : ∀ mb W, CallsIn Fence.wide (n - 1) Tryz.prog 91 #[.map mb] W fun e w' => e = .returned (.func (.func 109) #[] #[.pointer (some ⟨W.heap.size, 0, none⟩)]) ∧ w' = W.alloc (.cells #[.map mb] 87) := fun mb W => AnyZ.keys_in Tryz.keysA Fence.wide (n - 1) trivial rfl mb W
  have cS := AnyZ.sorted_in Tryz.sortedA Fence.wide (n - 1) trivial trivial trivial trivial rfl (by omega) (sortsA _) (enters_of Tryz.func108 (by kernel_rfl) rfl) 109 #[.pointer (some ⟨W.heap.size, 0, none⟩)] trivial (enters_of Tryz.func109 (by kernel_rfl) rfl) _ _ (by rw [size_mapD]; have := ht.good.max; unfold maxLen; omega) (by rw [size_mapD]; have := ht.good.max; omega) _ hseq
  change CallsIn _ _ Tryz.prog 90 _ _ _ at cS
  have hfK : Fence.wide.fn 91 := trivial
  have hfS : Fence.wide.fn 90 := trivial
  have h1 : 1 ≤ n := by omega
  have HBX : Hid (bx < W.heap.size) := Nat.lt_of_lt_of_le hbx hW.size
  have HT := Lib.hid ht
  have HJ0 := Lib.hid h0
  have HY := Lib.hid hY
  have HROW := Lib.hid hrow0
  have HG := Lib.hid h.good
  clear h hW hB0 ht hBt hrw hrow0 hW1 hseq h0 hY
  refine callsIn_of_wp Tryz.func89 rfl trivial ?_ rfl
  simp only [Tryz.ntmps89, List.size_toArray, List.length_cons, List.length_nil, Nat.reduceAdd, Nat.reduceSub, Array.replicate_succ, Array.replicate_zero, List.push_toArray, List.append_toArray, List.nil_append, List.cons_append]
  gi_wp2_with (first
    | (gi_at_call 91; refine (cK _ _).mono ?_; rintro e w' ⟨rfl, rfl⟩)
    | (gi_at_call 90; refine cS.mono ?_; rintro e W2 ⟨v, ss, rfl, hS, hrow, hnil, hb⟩; obtain ⟨blk, cap, cur, rfl, hbase, hblk, hcur⟩ := row_facts HG.out.sorted (good_ne HG.out) hS hrow))
  have hB1 : Below W.heap.size W (W.alloc (.cells #[.map (some b)] 87)) := (Below.refl _ _).alloc (Nat.le_refl _) _
  have hB2 : Below W.heap.size W W2 := hB1.trans (hb.mono hB1.size)
  have hblt : W.heap.size < blk := by simp at hbase; omega
  have hbxW : bx < W.heap.size := HBX.out
  have hJ2 : J [] W2 := abides_none hJ HJ0.out (grown_of_below hB2)
  have hrow2 : rowAt W2 bx ≠ some blk := by
    rw [rowAt_same (hB2.block bx hbxW)]
    intro e
    have := HROW.out blk e
    omega
  have hlen : (paths t.row).length = t.row.length := length_paths _
  have HCELL : Hid (∀ (wr : World), wr.heap[blk]? = some (.cells cur (Tryz.sortedA_ren.t 26)) → ∀ (j : Nat) (h : j < (paths t.row).length), wr.cell? ⟨blk, j, none⟩ = some (.string (S (paths t.row)[j]))) := fun wr hwr j hj => by
    rw [World.cell?_of_block (w := W2) (hwr.trans hblk.symm)]
    exact hcur j hj
  have HREL : Hid (RelI bx blk (.cells cur (Tryz.sortedA_ren.t 26)) (paths t.row) J (.int .i64 0) W2) := ⟨0, rfl, Nat.zero_le _, ⟨[], by simp, hJ2⟩, hblk, hrow2⟩
  have HLEN := Lib.hid hlen
  have HBLT : Hid (bx ≠ blk) := by show ¬ _ = _; omega
  have HP : Hid (∀ p ∈ paths t.row, p.length ≤ 64) := fun p hp => by
    obtain ⟨qs, _, h1, _⟩ := under_iff.1 (HG.out.under p hp)
    exact ((parts_iff p qs).1 h1).2.1
  clear hB1 hB2 hblt hbxW hJ2 hrow2 hlen hcur hrow hnil hbase hblk hb hS cS cK hfK hfS HROW HJ0 HBX
  have hmax : t.row.length ≤ 48 := HG.out.max
  gi_loopw [12] (fun i wr => RelI bx blk (.cells cur (Tryz.sortedA_ren.t 26)) (paths t.row) J i wr) (fun i _ => t.row.length - (intOf i).toNat)
  case atStart => exact HREL.out
  case round =>
    obtain ⟨k, rfl, hk, ⟨pre, hpre, hJs⟩, hbl, hrw⟩ := hrel
    clear HREL
    by_cases hlt : k < t.row.length
    · have hlt' : k < (paths t.row).length := by rw [HLEN.out]; exact hlt
      obtain ⟨x, hx⟩ : ∃ x : Pth, x.1 = (paths t.row)[k] := ⟨⟨_, HP.out _ (List.getElem_mem hlt')⟩, rfl⟩
      have hcell := HCELL.out wr hbl k hlt'
      rw [← hx] at hcell
      have hprel : pre.length = k := by
        have := congrArg List.length hpre
        rw [List.length_map, List.length_take, Nat.min_eq_left hk] at this
        exact this
      obtain ⟨fn, tmps, assign, body, hy, hR⟩ := HY.out pre x wr hJs (by omega)
      have HSNOC : Hid ((pre ++ [x]).map (·.1) = (paths t.row).take (k + 1)) := by
        show _ = _
        rw [List.map_append, hpre, List.take_succ_eq_append_getElem hlt', ← hx]
        rfl
      dsimp only [encP] at hy
      have HK1 : Hid (k + 1 ≤ (paths t.row).length) := hlt'
      have HBL := Lib.hid hbl
      have HRW := Lib.hid hrw
      clear hk hx hlt' hprel hpre hbl hrw
      gi_wp2
      refine hR.mono ?_
      rintro e W3 (⟨rfl, hJ3, hk3⟩ | ⟨rfl, hJx3⟩)
      · have HB3 := Lib.hid (hk3.cells blk _ HBL.out rfl (fun e => HBLT.out e.symm) HRW.out)
        have HR3 : Hid (rowAt W3 bx ≠ some blk) := by
          show ¬ _ = _
          rcases hk3.row with e | ⟨j, e, hj⟩
          · rw [e]; exact HRW.out
          · rw [e]
            intro e2
            have := Option.some.inj e2
            have := (Array.getElem?_eq_some_iff.1 HBL.out).1
            omega
        clear hk3
        gi_wp2
        go_roundw
        case rel => exact ⟨k + 1, by go_num, HK1.out, ⟨pre ++ [x], HSNOC.out, hJ3⟩, HB3.out, HR3.out⟩
        case measure => simp [intOf]; omega
      · gi_wp2
        refine bodyPost_ret (results_none rfl _ _ _) rfl ?_
        exact ⟨⟨_, rfl⟩, .inr ⟨pre ++ [x], HSNOC.out ▸ List.take_prefix _ _, hJx3⟩⟩
    · obtain rfl : k = t.row.length := by rw [HLEN.out] at hk; omega
      have HPRE : Hid (pre.map (·.1) = paths t.row) := by
        show _ = _
        rw [hpre, List.take_of_length_le (by rw [HLEN.out]; exact Nat.le_refl _)]
      clear hk hpre
      gi_wp2
      go_end0
      exact ⟨⟨_, rfl⟩, .inl ⟨pre, HPRE.out, hJs⟩⟩
end Go.Proofs.YtplbckibogmicaaGreatDoor.Tree
