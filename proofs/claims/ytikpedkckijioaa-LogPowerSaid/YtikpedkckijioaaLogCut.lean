/- The pieces of a record, one by one: the iterator's contract. -/
import Derived.Test.YtikpedkckijioaaLogStepsAll
import Derived.RangeFuncNested
import Derived.RangeFuncBound
import Derived.RangeFuncCalls
import Derived.RangeFuncLeaves
import Derived.RangeFuncBox
import Derived.OwnWalkIn
import Derived.TacticsInMore
import Derived.LoopNIn
import Derived.LoopIn
import Derived.Shelf.RegionOpen
namespace Go.Proofs.Ytikpedkckijioaa.Log
open Go.Op Go.RowKit Disk
attribute [local go_sem] Oper.semAt_some

/-- The slice of the i-th piece. -/
def slC (A : Option Addr) (m c i : Nat) : Value := .slice (if c = i * 480 then A else A.map (fun x => x.add (i * 480))) (min (i * 480 + 480) m - i * 480) (c - i * 480)
def encC (A : Option Addr) (m c : Nat) (i : Nat) : Array Value := #[.int .i64 (i : Int), slC A m c i]
def KpC (bt : Nat) (W W' : World) : Prop := W.heap.size ≤ W'.heap.size ∧ W'.heap[bt]? = W.heap[bt]?
def RelC (bt M : Nat) (o : Option Obj) (J : List Nat → World → Prop) (i : Value) (wr : World) : Prop := ∃ k : Nat, i = .int .i64 (k : Int) ∧ k ≤ M ∧ J (List.range k) wr ∧ wr.heap[bt]? = o
theorem piece_in {m k : Nat} (h : k < manyOf m) : k * 480 ≤ m ∧ (0 < k → k * 480 < m) := by
  unfold manyOf at h
  omega
set_option maxRecDepth 100000 in
set_option maxHeartbeats 4000000 in
theorem cut_stops (n : Nat) (hn : 6 ≤ n) (A : Option Addr) (m c bt : Nat) (w : World) (hc : w.cell? ⟨bt, 0, none⟩ = some (.slice A m c)) (hm : m ≤ 10000000) (hmc : m ≤ c) :
    SeqStopsK Fence.wide n Try.prog 84 #[.pointer (some ⟨bt, 0, none⟩)] (encC A m c) (KpC bt) (fun xs => xs = List.range (manyOf m)) (fun _ => True) (manyOf m) w := by
  intro l J Jx W hW hJ hJx hY h0
  have hcB : W.cell? ⟨bt, 0, none⟩ = some (.slice A m c) := (hW.cell (p := ⟨bt, 0, none⟩) (World.block_lt_of_cell? w _ hc)).trans hc
  have HC : Hid (∀ wr : World, wr.heap[bt]? = W.heap[bt]? → wr.cell? ⟨bt, 0, none⟩ = some (.slice A m c)) := fun wr h => (World.cell?_of_block (w := W) h).trans hcB
  have HJ0 := Lib.hid h0
  have HY := Lib.hid hY
  have h1 : 1 ≤ n := by omega
  have cP := pieces_any m (by omega) W
  have HM : Hid (manyOf m ≤ 1000000) := by unfold manyOf; show _ ≤ _; omega
  have HPI : Hid (∀ k, k < manyOf m → k * 480 ≤ m ∧ (0 < k → k * 480 < m)) := fun k hk => piece_in hk
  have hfP : Fence.wide.fn 64 := trivial
  clear hW h0 hY hc
  generalize manyOf m = M at *
  refine callsIn_of_wp Try.func84 rfl trivial ?_ rfl
  simp only [Try.ntmps84, List.size_toArray, List.length_cons, List.length_nil, Nat.reduceAdd, Nat.reduceSub, Array.replicate_succ, Array.replicate_zero, List.push_toArray, List.append_toArray, List.nil_append, List.cons_append]
  gi_wp2_with (gi_at_call 64; refine (callsIn_wide.2 cP).mono ?_; rintro e w' ⟨rfl, rfl⟩)
  gi_loopw [8] (fun i wr => RelC bt M (W.heap[bt]?) J i wr) (fun i _ => M - (intOf i).toNat)
  case atStart => exact ⟨0, rfl, by omega, HJ0.out, rfl⟩
  case round =>
    obtain ⟨k, rfl, hk, hj, hbt⟩ := hrel
    have hcell := HC.out wr hbt
    have HBT := Lib.hid hbt
    by_cases hlt : k < M
    · obtain ⟨q1, q2⟩ := HPI.out k hlt
      obtain ⟨fn, tmps, assign, body, hy, hR⟩ := HY.out (List.range k) k wr hj (by rw [List.length_range]; exact hlt)
      have HSN : Hid (List.range k ++ [k] = List.range (k + 1)) := List.range_succ.symm
      have HMM := HM.out
      obtain ⟨e, he1, he2⟩ : ∃ e : Nat, min ((k : Int) * 480 + 480) (m : Int) = (e : Int) ∧ min (k * 480 + 480) m = e := ⟨min (k * 480 + 480) m, by omega, rfl⟩
      dsimp only [encC, slC] at hy
      rw [he2] at hy
      clear hj hbt he2 q2
      by_cases hck : c = k * 480
      · rw [if_pos hck, show c - k * 480 = 0 by omega] at hy
        subst hck
        gi_wp2
        all_goals first
          | (refine hR.mono ?_
             rintro e W3 (⟨rfl, hJ3, hk3⟩ | ⟨rfl, hJx3⟩)
             · have HJ3 : Hid (J (List.range (k + 1)) W3) := by rw [← HSN.out]; exact hJ3
               have HB3 : Hid (W3.heap[bt]? = W.heap[bt]?) := hk3.2.trans HBT.out
               clear hJ3 hk3
               gi_wp2
               go_roundw
               case rel => exact ⟨k + 1, by go_num, by omega, HJ3.out, HB3.out⟩
               case measure => simp [intOf]; omega
             · gi_wp2
               refine bodyPost_ret (results_none rfl _ _ _) rfl ?_
               exact ⟨⟨_, rfl⟩, .inr ⟨_, trivial, hJx3⟩⟩)
      · rw [if_neg hck] at hy
        gi_wp2
        all_goals first
          | (refine hR.mono ?_
             rintro e W3 (⟨rfl, hJ3, hk3⟩ | ⟨rfl, hJx3⟩)
             · have HJ3 : Hid (J (List.range (k + 1)) W3) := by rw [← HSN.out]; exact hJ3
               have HB3 : Hid (W3.heap[bt]? = W.heap[bt]?) := hk3.2.trans HBT.out
               clear hJ3 hk3
               gi_wp2
               go_roundw
               case rel => exact ⟨k + 1, by go_num, by omega, HJ3.out, HB3.out⟩
               case measure => simp [intOf]; omega
             · gi_wp2
               refine bodyPost_ret (results_none rfl _ _ _) rfl ?_
               exact ⟨⟨_, rfl⟩, .inr ⟨_, trivial, hJx3⟩⟩)
    · obtain rfl : k = M := by omega
      have HJK := Lib.hid hj
      clear hj hbt
      gi_wp2
      go_end0
      exact ⟨⟨_, rfl⟩, .inl ⟨_, rfl, HJK.out⟩⟩
end Go.Proofs.Ytikpedkckijioaa.Log
