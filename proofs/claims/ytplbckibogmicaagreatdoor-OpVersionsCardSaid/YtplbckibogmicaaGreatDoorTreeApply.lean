/- Apply. -/
import Derived.Test.YtplbckibogmicaaGreatDoorTreeDo
import Derived.Test.YtplbckibogmicaaGreatDoorTreeArgs
namespace Go.Proofs.YtplbckibogmicaaGreatDoor.Tree
open Go.Op Go.RowKit Path

/-- What becomes of the clone on the way: the row that is there, and what is still to come. -/
def Mid (g b : Nat) (D : Nat → Prop) (t : TR) (xs : List Ef) (w : World) (i : Value) (wr : World) : Prop :=
  ∃ j : Nat, i = .int .i64 j ∧ j ≤ xs.length ∧ ∃ l D', TreeAt wr D' g b ⟨t.root, t.cnt, l⟩ ∧ rowApply t.root t.row xs = rowApply t.root l (xs.drop j) ∧ (∀ k, D' k → k ≠ b ∧ k ≠ g) ∧ (∀ k, D' k → D k ∨ w.heap.size ≤ k) ∧ Below w.heap.size w wr
theorem rowApply_cons {root : List UInt8} {l : Row} {xs : List Ef} {j : Nat} (hj : j < xs.length) : rowApply root l (xs.drop j) = if (one root l xs[j]).1 = 0 then rowApply root (one root l xs[j]).2 (xs.drop (j + 1)) else ((one root l xs[j]).1, l) := by
  rw [List.drop_eq_getElem_cons hj]
  rfl
theorem Out.below_of {w0 w w' : World} {b : Nat} (h : Out (· = b) w w') (hb : Below w0.heap.size w0 w) (hlt : w0.heap.size ≤ b) : Below w0.heap.size w0 w' :=
  h.below hb (fun k hk => by subst hk; exact hlt) hb.size

/-- What Apply leaves: where it is refused, all is as it was; else the tree's block alone has turned. -/
structure Applied (g : Nat) (D : Nat → Prop) (t t' : TR) (w w' : World) : Prop where
  tree : ∃ b' D', TreeAt w' D' g b' t' ∧ w.heap.size ≤ b' ∧ (∀ k, D' k → D k ∨ w.heap.size ≤ k)
  out : Out (· = g) w w'

def ApplyPost (g : Nat) (D : Nat → Prop) (t : TR) (xs : List Ef) (w : World) (e : Ending) (w' : World) : Prop :=
  e = .returned (.int .i64 (t.apply xs).1) ∧ ((t.apply xs = ((t.apply xs).1, t) ∧ Below w.heap.size w w') ∨ ((t.apply xs).1 = 0 ∧ Applied g D t (t.apply xs).2 w w'))
theorem ApplyPost.no {g : Nat} {D : Nat → Prop} {t : TR} {xs : List Ef} {w w' : World} {r : Int} {l : Row} (hr : rowApply t.root t.row xs = (r, l)) (h0 : ¬ r = 0) (hb : Below w.heap.size w w') : ApplyPost g D t xs w (.returned (.int .i64 r)) w' := by
  have e : t.apply xs = (r, t) := by
    unfold TR.apply
    rw [hr, if_neg h0]
  unfold ApplyPost
  rw [e]
  exact ⟨rfl, .inl ⟨rfl, hb⟩⟩
theorem ApplyPost.yes {g : Nat} {D : Nat → Prop} {t : TR} {xs : List Ef} {w w' : World} {l : Row} (hr : rowApply t.root t.row xs = (0, l)) (ha : Applied g D t ⟨t.root, (t.cnt + 1) % 18446744073709551616, l⟩ w w') : ApplyPost g D t xs w (.returned (.int .i64 0)) w' := by
  have e : t.apply xs = (0, ⟨t.root, (t.cnt + 1) % 18446744073709551616, l⟩) := by
    unfold TR.apply
    rw [hr, if_pos rfl]
  unfold ApplyPost
  rw [e]
  exact ⟨rfl, .inr ⟨rfl, ha⟩⟩
set_option maxRecDepth 100000 in
set_option maxHeartbeats 4000000 in
theorem Apply_at {P : Nat → Prop} (A : Option Addr) (n c : Nat) (xs : List Ef) {D : Nat → Prop} {g b : Nat} {t : TR} (w : World) (h : TreeAt w D g b t) (hE : EfS P w A n xs) (hp : ∀ x ∈ xs, x.path.length ≤ 1000000 ∧ x.node.data.length ≤ 1000000) (hn : n ≤ 1000000) (hDg : ∀ k, D k → k ≠ g) :
    Calls Tryz.prog 17 #[.pointer (some ⟨g, 0, none⟩), .slice A n c] w (ApplyPost g D t xs w) := by
  have cc := Clone_at w h
  have H := Lib.hid h
  have HE := Lib.hid hE
  have HP := Lib.hid hp
  have HLEN := Lib.hid hE.len
  clear h hE hp
  go_enter Tryz.func17, Tryz.ntmps17
  go_wp2_with fail
  refine cc.mono ?_
  rintro e w1 ⟨g', b', rfl, hb1, hg', hb', ht1⟩
  have HMID : Hid (Mid g' b' D t xs w (.int .i64 0) w1) := ⟨0, rfl, Nat.zero_le _, t.row, D, ht1, by simp, fun k hk => by have := H.out.dlt k hk; exact ⟨fun e => by omega, fun e => by omega⟩, fun k hk => .inl hk, hb1⟩
  clear cc hb1 ht1
  go_wp2_with fail
  go_loopw [15] (fun i wr => Mid g' b' D t xs w i wr) (fun i _ => n - (intOf i).toNat)
  case atStart => exact HMID.out
  case round =>
    obtain ⟨j, rfl, hj, l, D', ht, hrow, hDb, hDw, hb⟩ := hrel
    clear HMID
    rw [HLEN.out] at hj
    by_cases hlt : j < n
    · have hjx : j < xs.length := by rw [HLEN.out]; exact hlt
      obtain ⟨bb, o, Dd, m, cp, rfl, hPb, hds, hlen, hcells⟩ := (HE.out.below hb).at_ hjx
      obtain ⟨hp1, hp2⟩ := HP.out _ (List.getElem_mem hjx)
      have hxs := rowApply_cons (root := t.root) (l := l) hjx
      obtain ⟨x, hx⟩ : ∃ x, xs[j] = x := ⟨_, rfl⟩
      rw [hx] at hds hlen hcells hp1 hp2 hxs
      have HXS : Hid (rowApply t.root t.row xs = if (one t.root l x).1 = 0 then rowApply t.root (one t.root l x).2 (xs.drop (j + 1)) else ((one t.root l x).1, l)) := hrow.trans hxs
      have q0 := hcells 0 _ rfl
      rw [show o + (11 * j + 0) = o + j * 11 by omega] at q0
      have q1 := hcells 1 _ rfl
      rw [show o + (11 * j + 1) = o + j * 11 + 1 by omega] at q1
      have q2 := hcells 2 _ rfl
      rw [show o + (11 * j + 2) = o + j * 11 + 2 by omega] at q2
      have q3 := hcells 3 _ rfl
      rw [show o + (11 * j + 3) = o + j * 11 + 3 by omega] at q3
      have q4 := hcells 4 _ rfl
      rw [show o + (11 * j + 4) = o + j * 11 + 4 by omega] at q4
      have q5 := hcells 5 _ rfl
      rw [show o + (11 * j + 5) = o + j * 11 + 5 by omega] at q5
      have q6 := hcells 6 _ rfl
      rw [show o + (11 * j + 6) = o + j * 11 + 6 by omega] at q6
      have q7 := hcells 7 _ rfl
      rw [show o + (11 * j + 7) = o + j * 11 + 7 by omega] at q7
      have q8 := hcells 8 _ rfl
      rw [show o + (11 * j + 8) = o + j * 11 + 8 by omega] at q8
      have q9 := hcells 9 _ rfl
      rw [show o + (11 * j + 9) = o + j * 11 + 9 by omega] at q9
      have q10 := hcells 10 _ rfl
      rw [show o + (11 * j + 10) = o + j * 11 + 10 by omega] at q10
      have HT := Lib.hid ht
      have HB := Lib.hid hb
      have HDS := Lib.hid hds
      have HDB := Lib.hid hDb
      have HDW := Lib.hid hDw
      have hn' : n ≤ 1000000 := hn
      clear hxs hrow hcells hx ht hb hds hDb hDw hlen
      have hbA : Below wr.heap.size wr (wr.alloc (.cells (efC x (.slice Dd m cp)).toArray 41)) := (Below.refl _ _).alloc (Nat.le_refl _) _
      have cf := fault_at x (.slice Dd m cp) _ (HT.out.below hbA) (HDS.out.below hbA) hp1
      have HBA := Lib.hid (HB.out.trans (hbA.mono HB.out.size))
      have HbA := Lib.hid hbA
      clear hbA
      unfold efV at cf
      dsimp only [efC, znC] at cf HBA HbA
      go_wp2_with fail
      by_cases h0 : (one t.root l x).1 = 0
      · rw [h0] at cf
        refine cf.mono ?_
        rintro e w2 ⟨rfl, hb2⟩
        have K2 : Bk w2 wr.heap.size 41 (efC x (.slice Dd m cp)).toArray := (Bk.new wr _ _).below hb2
        have B2 : Hid (Below w.heap.size w w2) := HBA.out.trans (hb2.mono HBA.out.size)
        have BR : Hid (Below wr.heap.size wr w2) := HbA.out.trans (hb2.mono HbA.out.size)
        have kc := K2.cell
        have c3 := do_at x (.slice Dd m cp) w2 (HT.out.below BR.out) (HDS.out.below BR.out) hp1 hp2 h0 (fun k hk => (HDB.out k hk).1)
        have H0 := Lib.hid h0
        unfold efV at c3
        dsimp only [efC, znC] at kc c3
        clear cf hb2 K2 h0
        go_wp2_with fail
        refine c3.mono ?_
        rintro e w3 ⟨rfl, hd⟩
        have HD := Lib.hid hd
        clear c3 hd kc
        go_wp2_with fail
        obtain ⟨⟨D2, ht2, hD2⟩, ho⟩ := HD.out
        have hrow2 := HXS.out
        rw [if_pos H0.out] at hrow2
        have hs := B2.out.size
        have hbw : b' < w2.heap.size := Nat.lt_of_lt_of_le HT.out.map.lt BR.out.size
        have hgw : g' < w2.heap.size := Nat.lt_of_lt_of_le HT.out.bk.lt BR.out.size
        have HREL : Hid (Mid g' b' D t xs w (.int .i64 (j + 1 : Nat)) w3) := ⟨j + 1, rfl, hjx, _, D2, ht2, hrow2, fun k hk => (hD2 k hk).elim (HDB.out k) (fun h => ⟨fun e => by omega, fun e => by omega⟩), fun k hk => (hD2 k hk).elim (HDW.out k) (fun h => .inr (Nat.le_trans hs h)), ho.below_of B2.out hb'⟩
        clear ht2 hD2 ho hrow2
        go_roundw
        case rel => exact HREL.out
        case measure => simp [intOf]; omega
      · generalize hr : (one t.root l x).1 = r at *
        refine cf.mono ?_
        rintro e w2 ⟨rfl, hb2⟩
        have hrow2 := HXS.out
        rw [if_neg h0] at hrow2
        have HPOST : Hid (ApplyPost g D t xs w (.returned (.int .i64 r)) w2) := ApplyPost.no hrow2 h0 (HBA.out.trans (hb2.mono HBA.out.size))
        clear cf hb2 hrow2 hr
        go_wp2_with fail
        go_ret
        exact HPOST.out
    · obtain rfl : j = n := by omega
      have hfin : rowApply t.root t.row xs = (0, l) := by
        rw [hrow, List.drop_of_length_le (by rw [HLEN.out]; exact Nat.le_refl _)]
        rfl
      have hg0 := (H.out.bk.below hb)
      have kc := ht.bk.cell
      have kf := ht.bk.frozen
      have gc := hg0.cell
      have gf := hg0.frozen
      have HT := Lib.hid ht
      have HB := Lib.hid hb
      have HDW := Lib.hid hDw
      have HFIN := Lib.hid hfin
      have HG0 := Lib.hid hg0
      have hne : g ≠ g' := by have := H.out.bk.lt; omega
      have hDb' := hDb
      clear hrow hb ht hDb hDw hfin hg0
      have HDB := Lib.hid hDb'
      go_wp2_with fail
      go_ret
      have hgw : g < w.heap.size := H.out.bk.lt
      have hwr := HB.out.size
      have hkeep : ∀ (v : Value) (k : Nat), k ≠ g → k ≠ g' → ((((wr.setCell ⟨g', 1, none⟩ v).setCell ⟨g, 0, none⟩ (.string (S t.root))).setCell ⟨g, 1, none⟩ v).setCell ⟨g, 2, none⟩ (.map (some b'))).heap[k]? = wr.heap[k]? := fun v k h1 h2 => by
        rw [heap_setCell_ne _ _ _ _ _ h1, heap_setCell_ne _ _ _ _ _ h1, heap_setCell_ne _ _ _ _ _ h1, heap_setCell_ne _ _ _ _ _ h2]
      have hsz : ∀ (v : Value), ((((wr.setCell ⟨g', 1, none⟩ v).setCell ⟨g, 0, none⟩ (.string (S t.root))).setCell ⟨g, 1, none⟩ v).setCell ⟨g, 2, none⟩ (.map (some b'))).heap.size = wr.heap.size := fun v => by simp [World.setCell]
      have hwrap : IntKind.u64.wrap ((t.cnt : Int) + 1) = (((t.cnt + 1) % 18446744073709551616 : Nat) : Int) := by
        simp [IntKind.wrap, IntKind.signed, IntKind.bits]
      rw [hwrap]
      have hDne : ∀ k, D' k → k ≠ g ∧ k ≠ g' := fun k hk => ⟨(HDW.out k hk).elim (hDg k) (fun h => by omega), (HDB.out k hk).2⟩
      refine ApplyPost.yes HFIN.out ⟨⟨b', D', ⟨?_, ?_, HT.out.good, Nat.mod_lt _ (by decide), fun k hk => by rw [hsz]; exact HT.out.dlt k hk, HT.out.small⟩, hb', HDW.out⟩, ⟨HB.out.os, HB.out.tape, HB.out.output, by rw [hsz]; exact hwr, fun k hk hneg => (hkeep _ k hneg (by omega)).trans (HB.out.block k hk)⟩⟩
      · have := (((HG0.out.kept (heap_setCell_ne wr g' 1 g (.int .u64 (((t.cnt + 1) % 18446744073709551616 : Nat) : Int)) hne)).set 0 (.string (S t.root))).set 1 (.int .u64 (((t.cnt + 1) % 18446744073709551616 : Nat) : Int))).set 2 (.map (some b'))
        simpa using this
      · exact owns_kept HT.out.map (hkeep _ b' (by omega) HT.out.ne.symm) (fun k hk => hkeep _ k (hDne k hk).1 (hDne k hk).2) (fun _ h => h)
theorem Apply_nil (A : Option Addr) (n c : Nat) (w : World) : Calls Tryz.prog 17 #[.pointer none, .slice A n c] w fun e w' => e = .returned (.int .i64 8) ∧ Below w.heap.size w w' := by
  go_enter Tryz.func17, Tryz.ntmps17
  go_wp2_with fail
  go_ret
  exact ⟨rfl, Below.refl _ _⟩
end Go.Proofs.YtplbckibogmicaaGreatDoor.Tree
