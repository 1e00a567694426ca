/- A log of one's own: what a law has of it. -/
import Derived.Test.YtikpedkckijioaaLogCommitAll
import Derived.Test.YtikpedkckijioaaLogPureAll
import Derived.Test.YtikpedkckijioaaLogOpen
import Derived.Test.YtikpedkckijioaaDiskSt
namespace Go.Proofs.Ytikpedkckijioaa.Log
open Go.RowKit Disk

theorem Run.count {ps : Pages} {l e : Nat} {bs : List (List UInt8)} {l' e' : Nat} (h : Run ps l e bs l' e') : bs.length + e ≤ e' := by
  induction h with
  | nil => simp
  | cons h1 _ ih =>
    obtain ⟨_, h2, _⟩ := rec1_some h1
    rw [List.length_cons]
    omega
theorem recs_facts {ps : Pages} {hd : Bool} {rs : List (List UInt8)} {e : Nat} (h : Recs ps = (hd, rs, e)) (h1 : 1 ≤ ps.length) : 1 ≤ e ∧ e ≤ ps.length ∧ rs.length + 1 ≤ e ∧ (hd = false → e = 1 ∧ rs = []) := by
  rcases kept_cases ps with ⟨s, l, _, H, q⟩ | ⟨_, q⟩
  · rw [h] at H q
    have a := H.run.le
    have b := Run.count H.run
    dsimp only at a b q
    exact ⟨a.1, a.2.2 h1, b, fun hh => by rw [q] at hh; cases hh⟩
  · rw [q] at h
    injection h with h2 h3
    injection h3 with h3 h4
    subst h3 h4
    exact ⟨Nat.le_refl _, h1, Nat.le_refl _, fun _ => ⟨rfl, rfl⟩⟩
/-- What a log knows is what lies in its part. -/
structure KL (d : DK) (f n : Nat) (L : LK) : Prop where
  up : Up d f n L.top
  recs : Recs (part (now d) f n) = (L.head, L.recs, L.end_)
  met : L.met = false
  row : d.row = []
  sz : ∀ b ∈ L.recs, b.length ≤ 3000000
theorem KL.many {d : DK} {f n : Nat} {L : LK} (h : KL d f n L) : 2 ≤ n ∧ f + n ≤ 4096 ∧ 1 ≤ L.end_ ∧ L.end_ ≤ n ∧ L.recs.length + 1 ≤ L.end_ ∧ (L.head = false → L.end_ = 1 ∧ L.recs = []) := by
  have h1 := recs_facts h.recs (by rw [h.up.len]; have := h.up.two; omega)
  rw [h.up.len] at h1
  have h2 := h.up.in_
  have h3 := h.up.ok.many
  exact ⟨h.up.two, by omega, h1⟩
/-- A log of one's own since w0, on its disk: their memory lies within Z. -/
structure Lw (w0 w : World) (Z : Nat → Prop) (g gd f n : Nat) (d : DK) (L : LK) : Prop where
  at_ : ∃ X Y, DkAt w X gd d ∧ LgAt w Y g gd (f : Int) n L ∧ (∀ k, X k → ¬ Y k) ∧ (∀ k, X k → Z k) ∧ ∀ k, Y k → Z k
  below : Below w0.heap.size w0 w
  own : ∀ k, Z k → w0.heap.size ≤ k
  lt : ∀ k, Z k → k < w.heap.size
def LwTo (v : Value) (w0 : World) (Z : Nat → Prop) (g gd f n : Nat) (d' : DK) (L' : LK) (w : World) (e : Ending) (w' : World) : Prop :=
  e = .returned v ∧ ∃ Z', Lw w0 w' Z' g gd f n d' L' ∧ Out Z w w' ∧ ∀ k, Z' k → Z k ∨ w.heap.size ≤ k
theorem Lw.below_ {w0 w w' : World} {Z : Nat → Prop} {g gd f n : Nat} {d : DK} {L : LK} (h : Lw w0 w Z g gd f n d L) (hb : Below w.heap.size w w') : Lw w0 w' Z g gd f n d L := by
  obtain ⟨⟨X, Y, h1, h2, h3, h4, h5⟩, h6, h7, h8⟩ := h
  exact ⟨⟨X, Y, h1.below hb, h2.below hb, h3, h4, h5⟩, h6.trans (hb.mono h6.size), h7, fun k hk => Nat.lt_of_lt_of_le (h8 k hk) hb.size⟩
/-- Something beside it is changed. -/
theorem Lw.beside {w0 w w' : World} {Z V : Nat → Prop} {g gd f n : Nat} {d : DK} {L : LK} (h : Lw w0 w Z g gd f n d L) (ho : Out V w w') (hv : ∀ k, Z k → ¬ V k) (hv0 : ∀ k, V k → w0.heap.size ≤ k) : Lw w0 w' Z g gd f n d L := by
  obtain ⟨⟨X, Y, h1, h2, h3, h4, h5⟩, h6, h7, h8⟩ := h
  exact ⟨⟨X, Y, h1.out ho (fun k hk hx => hv k (h4 k hk) hx), h2.out ho (fun k hk => hv k (h5 k hk)), h3, h4, h5⟩, ho.below h6 hv0 h6.size, h7, fun k hk => Nat.lt_of_lt_of_le (h8 k hk) ho.size⟩
theorem Lw.of {w0 w w' : World} {Z X Y : Nat → Prop} {g gd f n : Nat} {d d' : DK} {L L' : LK} {z : Int} {e : Ending} (h : Lw w0 w Z g gd f n d L) (hX : ∀ k, X k → Z k) (hY : ∀ k, Y k → Z k) (hw : WrPost X Y g gd f n z d' L' w e w') : LwTo (.int .i64 z) w0 Z g gd f n d' L' w e w' := by
  obtain ⟨rfl, X', Y', h1, h2, h3, h4, h5, h6⟩ := hw
  have ho : Out Z w w' := h3.mono fun k hk => .inl (hk.elim (hX k) (hY k))
  have hX2 : ∀ k, X' k → Z k ∨ w.heap.size ≤ k := fun k hk => (h4 k hk).elim (fun q => .inl (hX k q)) .inr
  have hY2 : ∀ k, Y' k → Z k ∨ w.heap.size ≤ k := fun k hk => (h5 k hk).elim (fun q => .inl (hY k q)) .inr
  have hXl : ∀ k, X' k → k < w'.heap.size := fun k hk => by obtain ⟨_, _, _, q⟩ := h1; exact q.lt k hk
  refine ⟨rfl, fun k => X' k ∨ Y' k, ⟨⟨X', Y', h1, h2, h6, fun k hk => .inl hk, fun k hk => .inr hk⟩, ho.below h.below h.own h.below.size, fun k hk => ?_, fun k hk => hk.elim (hXl k) (h2.lt k)⟩, ho, fun k hk => hk.elim (hX2 k) (hY2 k)⟩
  rcases hk.elim (hX2 k) (hY2 k) with q | q
  · exact h.own k q
  · exact Nat.le_trans h.below.size q
theorem commitF_head {d : DK} {f n : Nat} {L : LK} {b : List UInt8} (h : KL d f n L) (hr : L.end_ + manyOf b.length ≤ n) (hh : L.head = true) : commitF d f n L.top b = (wr d (f + L.end_) (leafs (L.top + 1) (manyOf b.length) b), L.top + 1) := by
  unfold commitF
  rw [h.recs, if_neg (by rw [h.up.on]; decide), if_neg (by dsimp only; omega), if_pos hh]
theorem commitF_first {d : DK} {f n : Nat} {L : LK} {b : List UInt8} (h : KL d f n L) (hr : L.end_ + manyOf b.length ≤ n) (hh : L.head = false) : (commitF d f n L.top b).1 = comH d f L.top (manyOf b.length) b ∧ ((commitF d f n L.top b).1.1 = 0 → (commitF d f n L.top b).2 = L.top + 2) := by
  unfold commitF comH
  rw [h.recs, if_neg (by rw [h.up.on]; decide), if_neg (by dsimp only; omega), if_neg (by dsimp only; rw [hh]; exact Bool.false_ne_true)]
  by_cases h0 : (wr d f (headL (L.top + 1))).1 ≠ 0
  · rw [if_pos h0, if_pos h0]
    exact ⟨rfl, fun hz => absurd hz h0⟩
  · rw [if_neg h0, if_neg h0]
    exact ⟨rfl, fun _ => rfl⟩
theorem commitF_full {d : DK} {f n : Nat} {L : LK} {b : List UInt8} (h : KL d f n L) (hr : n < L.end_ + manyOf b.length) : commitF d f n L.top b = ((4, d), L.top) := by
  unfold commitF
  rw [h.recs, if_neg (by rw [h.up.on]; decide), if_pos (by dsimp only; omega)]
/-- What a Commit comes to: answer z, disk d', what the log knows L'. -/
structure ComK (d : DK) (f n : Nat) (L : LK) (b : List UInt8) (z : Int) (d' : DK) (L' : LK) : Prop where
  ans : z = (commitF d f n L.top b).1.1
  disk : d' = (commitF d f n L.top b).1.2
  good : z = 0 → KL d' f n L' ∧ L'.recs = L.recs ++ [b] ∧ L'.end_ = L.end_ + manyOf b.length ∧ L'.top ≤ L.top + 2 ∧ (d.left < 0 → d'.left = d.left) ∧ L.end_ + manyOf b.length ≤ n
  full : z = 4 → d' = d ∧ L' = L
  bad : z ≠ 0 → z ≠ 4 → L'.met = true
  room : n < L.end_ + manyOf b.length → z = 4
  some_ : L.end_ + manyOf b.length ≤ n → z ≠ 4
theorem ComK.of {d : DK} {f n : Nat} {L L' : LK} {b : List UInt8} {r : Int × DK} {L0 : LK} (h : KL d f n L) (ht : L.top + 2 < 18446744073709551616) (hb : b.length ≤ 3000000) (hroom : L.end_ + manyOf b.length ≤ n) (hr : (commitF d f n L.top b).1 = r) (hL0 : r.1 = 0 → L0 = ⟨true, L.recs ++ [b], L.end_ + manyOf b.length, (commitF d f n L.top b).2, L.met⟩) (h0 : r.1 = 0 → L' = L0) (h1 : r.1 ≠ 0 → L'.met = true) (h4 : r.1 ≠ 4) : ComK d f n L b r.1 r.2 L' := by
  have hm := h.many
  refine ⟨by rw [hr], by rw [hr], fun hz => ?_, fun hz => absurd hz h4, fun hz _ => h1 hz, fun hz => by omega, fun _ => h4⟩
  have hc0 : (commitF d f n L.top b).1.1 = 0 := by rw [hr]; exact hz
  obtain ⟨c1, c2, c3, c4, c5, c6⟩ := commit_up h.up ht (by omega) hc0
  rw [hr] at c1 c2 c3 c5
  rw [h0 hz, hL0 hz]
  rw [h.recs] at c2
  refine ⟨⟨c1, c2, h.met, c3, fun x hx => ?_⟩, rfl, rfl, c6, c5, hroom⟩
  rcases List.mem_append.1 hx with q | q
  · exact h.sz x q
  · rw [List.mem_singleton.1 q]; exact hb
theorem wr_code {d : DK} {e : Nat} {ls : Pages} (hd : d.dead = false) (he : e + ls.length ≤ d.pages.length) (ho : OkP ls) : (wr d e ls).1 ≠ 4 := by
  rcases wr_cases ls d e hd he ho with ⟨a1, _⟩ | ⟨a1, _⟩ <;> rw [a1] <;> decide
theorem commit_st {w0 w : World} {Z : Nat → Prop} {g gd f n : Nat} {d : DK} {L : LK} (h : Lw w0 w Z g gd f n d L) (hK : KL d f n L) (ht : L.top + 2 < 18446744073709551616) (A : Option Addr) (m c : Nat) (b : List UInt8) (hr : Rd w A m b) (hA : ∀ a, A = some a → ¬ Z a.block) (hmc : m ≤ c) (hm : m ≤ 3000000) :
    Calls Try.prog 13 #[.pointer (some ⟨g, 0, none⟩), .slice A m c] w fun e w' => ∃ z d' L', LwTo (.int .i64 z) w0 Z g gd f n d' L' w e w' ∧ ComK d f n L b z d' L' := by
  obtain ⟨X, Y, hd, hl, hxy, hX, hY⟩ := h.at_
  obtain ⟨k1, k2, k3, k4, k5, k6⟩ := hK.many
  have hlen : b.length = m := hr.len
  have hA2 : ∀ a, A = some a → ¬ (X a.block ∨ Y a.block) := fun a ha hx => hA a ha (hx.elim (hX _) (hY _))
  have hin := hK.up.in_
  rcases Nat.lt_or_ge n (L.end_ + manyOf m) with hf | hroom
  · refine (commit_full hl hd hK.up.on hK.met (by omega) k4 A m c hf).mono ?_
    rintro e w' ⟨rfl, hb⟩
    have hq := commitF_full (b := b) hK (by rw [hlen]; exact hf)
    exact ⟨4, d, L, ⟨rfl, Z, h.below_ hb, Out.of_below hb, fun k hk => .inl hk⟩, by rw [hq], by rw [hq], fun hz => (by cases hz), fun _ => ⟨rfl, rfl⟩, fun _ hz => absurd rfl hz, fun _ => rfl, fun hz => by rw [hlen] at hz; omega⟩
  · cases hh : L.head with
    | true =>
      refine (commit_head hl hd hxy hK.up.on hK.met (by omega) (by omega) k3 (by rw [hK.row]; exact Nat.zero_le _) (by omega) ht A m c b hr hA2 hmc hroom hh).mono ?_
      rintro e w' ⟨L', hw, h0, h1⟩
      have hq := commitF_head (b := b) hK (by rw [hlen]; exact hroom) hh
      rw [hlen] at hq
      refine ⟨_, _, L', h.of hX hY hw, ComK.of hK ht (by omega) (by rw [hlen]; exact hroom) (by rw [hq]) (fun _ => by rw [hq, hlen, hh]) h0 h1 (wr_code hK.up.on (by rw [leafs_length]; omega) (leafs_ok _ _ _))⟩
    | false =>
      obtain ⟨q1, q2⟩ := k6 hh
      refine (commit_first hl hd hxy hK.up.on hK.met (by omega) (by omega) (by rw [hK.row]; exact Nat.zero_le _) ht A m c b hr hA2 hmc hroom hh q1).mono ?_
      rintro e w' ⟨L', hw, h0, h1⟩
      obtain ⟨hq, hq2⟩ := commitF_first (b := b) hK (by rw [hlen]; exact hroom) hh
      rw [hlen] at hq
      refine ⟨_, _, L', h.of hX hY hw, ComK.of hK ht (by omega) (by rw [hlen]; exact hroom) hq (fun hz => by rw [hq2 (by rw [hq]; exact hz), hlen, q1, q2]; rfl) h0 h1 ?_⟩
      unfold comH
      by_cases hx : (wr d f (headL (L.top + 1))).1 ≠ 0
      · rw [if_pos hx]
        exact wr_code hK.up.on (by show f + 1 ≤ _; omega) (headL_ok _)
      · rw [if_neg hx]
        have hu := reset_up hK.up (by omega) (show (resetF d f L.top).1 = 0 by unfold resetF; simpa using hx)
        exact wr_code hu.1.on (by rw [leafs_length]; have := hu.1.in_; unfold resetF at this; omega) (leafs_ok _ _ _)
/-- What a Reset comes to. -/
structure ResK (d : DK) (f n : Nat) (L : LK) (z : Int) (d' : DK) (L' : LK) : Prop where
  ans : z = (resetF d f L.top).1
  disk : d' = (resetF d f L.top).2
  good : z = 0 → KL d' f n L' ∧ L'.recs = [] ∧ L'.end_ = 1 ∧ L'.top = L.top + 1 ∧ (d.left < 0 → d'.left = d.left)
  bad : z ≠ 0 → L'.met = true
theorem reset_st {w0 w : World} {Z : Nat → Prop} {g gd f n : Nat} {d : DK} {L : LK} (h : Lw w0 w Z g gd f n d L) (hK : KL d f n L) (ht : L.top + 2 < 18446744073709551616) :
    Calls Try.prog 16 #[.pointer (some ⟨g, 0, none⟩)] w fun e w' => ∃ z d' L', LwTo (.int .i64 z) w0 Z g gd f n d' L' w e w' ∧ ResK d f n L z d' L' := by
  obtain ⟨X, Y, hd, hl, hxy, hX, hY⟩ := h.at_
  obtain ⟨k1, k2, k3, k4, k5, k6⟩ := hK.many
  refine (reset_goes hl hd hxy hK.up.on (by omega) (by rw [hK.row]; exact Nat.zero_le _) (by omega)).mono ?_
  rintro e w' ⟨L', hw, h0, h1⟩
  refine ⟨_, _, L', h.of hX hY hw, rfl, rfl, fun hz => ?_, h1⟩
  obtain ⟨c1, c2, c3, c4, c5⟩ := reset_up hK.up (by omega) hz
  rw [h0 hz]
  exact ⟨⟨c1, c2, hK.met, c3, fun x hx => by cases hx⟩, rfl, rfl, rfl, c5⟩
theorem room_st {w0 w : World} {Z : Nat → Prop} {g gd f n : Nat} {d : DK} {L : LK} (h : Lw w0 w Z g gd f n d L) (hn : n ≤ 4096) (he : L.end_ ≤ n) :
    Calls Try.prog 23 #[.pointer (some ⟨g, 0, none⟩)] w fun e w' => e = .returned (.int .i64 ((480 * (n - L.end_) : Nat) : Int)) ∧ Below w.heap.size w w' := by
  obtain ⟨X, Y, hd, hl, hxy, hX, hY⟩ := h.at_
  exact room_quiet hl (by omega) he
theorem batches_st {w0 w : World} {Z : Nat → Prop} {g gd f n : Nat} {d : DK} {L : LK} (h : Lw w0 w Z g gd f n d L) (hn : L.recs.length ≤ 1000000) (hs : ∀ b ∈ L.recs, b.length ≤ 3000000) :
    Calls Try.prog 26 #[.pointer (some ⟨g, 0, none⟩)] w (BatPost L.recs w) := by
  obtain ⟨X, Y, hd, hl, hxy, hX, hY⟩ := h.at_
  exact batches_any hl hn fun b hb => by have := hs b hb; omega
end Go.Proofs.Ytikpedkckijioaa.Log

namespace Go.Proofs.Ytikpedkckijioaa.Log
open Go.RowKit Disk

def newL (d : DK) (f n : Nat) : LK := ⟨(Recs (part (now d) f n)).1, (Recs (part (now d) f n)).2.1, (Recs (part (now d) f n)).2.2, newest (part (now d) f n), false⟩
theorem open_st {w0 w : World} {X : Nat → Prop} {gd f n : Nat} {d : DK} (hs : St w0 w X gd d) (hn : d.dead = false) (h2 : 2 ≤ n) (hin : f + n ≤ d.pages.length) (hrow : d.row.length ≤ 1000000) (hnw : newest (part (now d) f n) ≠ 18446744073709551615) :
    Calls Try.prog 11 #[.pointer (some ⟨gd, 0, none⟩), .int .i64 (f : Int), .int .i64 (n : Int)] w fun e w' => ∃ g Z, e = .returned (.tuple #[.pointer (some ⟨g, 0, none⟩), .int .i64 0]) ∧ Lw w0 w' Z g gd f n d (newL d f n) ∧ Below w.heap.size w w' ∧ (∀ k, Z k → X k ∨ w.heap.size ≤ k) ∧ ∀ k, X k → Z k := by
  have hmany := hs.at_.ok.many
  refine (open_yes hs.at_ hn f n h2 (by omega) hin hrow).mono ?_
  rintro e w' ⟨hb, hp⟩
  rw [if_neg hnw] at hp
  obtain ⟨g, Y, rfl, hl, hY⟩ := hp
  have hXl := hs.at_.lt
  refine ⟨g, fun k => X k ∨ Y k, rfl, ⟨⟨X, Y, hs.at_.below hb, hl, fun k hx hy => ?_, fun k hk => .inl hk, fun k hk => .inr hk⟩, hs.below.trans (hb.mono hs.below.size), fun k hk => ?_, fun k hk => ?_⟩, hb, fun k hk => hk.elim .inl (fun q => .inr (hY k q)), fun k hk => .inl hk⟩
  · have := hXl k hx; have := hY k hy; omega
  · rcases hk with q | q
    · exact hs.own k q
    · exact Nat.le_trans hs.below.size (hY k q)
  · rcases hk with q | q
    · exact Nat.lt_of_lt_of_le (hXl k q) hb.size
    · exact hl.lt k q
theorem now_new (n : Nat) : part (now (DK.new n)) 0 n = List.replicate n (List.replicate 512 0) := by
  have := part_all (List.replicate n (List.replicate 512 (0 : UInt8)))
  rwa [List.length_replicate] at this
theorem newL_new (n : Nat) : newL (DK.new n) 0 n = ⟨false, [], 1, 0, false⟩ := by
  unfold newL
  rw [now_new, recs_new, newest_new]
theorem kl_new {n : Nat} (h1 : 2 ≤ n) (h2 : n ≤ 4096) : KL (DK.new n) 0 n ⟨false, [], 1, 0, false⟩ :=
  ⟨(Stands.new h1 h2).up, by rw [now_new, recs_new], rfl, rfl, fun b hb => by cases hb⟩
def MadePost (n : Nat) (w0 w : World) (e : Ending) (w' : World) : Prop :=
  ∃ g gd Z, e = .returned (.tuple #[.pointer (some ⟨gd, 0, none⟩), .pointer (some ⟨g, 0, none⟩)]) ∧ Lw w0 w' Z g gd 0 n (DK.new n) ⟨false, [], 1, 0, false⟩ ∧ Below w.heap.size w w' ∧ ∀ k, Z k → w.heap.size ≤ k
theorem made_any (n : Nat) (h1 : 2 ≤ n) (h2 : n ≤ 4096) (w0 w : World) (hb0 : Below w0.heap.size w0 w) : Calls Try.prog 21 #[.int .i64 (n : Int)] w (MadePost n w0 w) := by
  have CN := Lib.hid (new_st n w0 w (by omega) h2 hb0)
  have CO : Hid (∀ (X : Nat → Prop) (gd : Nat) w1, St w0 w1 X gd (DK.new n) → _) := fun X gd w1 hs => open_st (f := 0) (n := n) hs rfl h1 (by show 0 + n ≤ (List.replicate _ _).length; rw [List.length_replicate]; omega) (Nat.zero_le _) (by rw [now_new, newest_new]; decide)
  clear hb0
  go_enter Try.func21, Try.ntmps21
  go_wp2_with fail
  refine CN.out.mono ?_
  rintro e w1 ⟨gd, X, rfl, hs, hX, hb⟩
  have HS := Lib.hid hs
  have HX := Lib.hid hX
  have HB := Lib.hid hb
  clear hs hX hb
  go_wp2_with fail
  refine (CO.out X gd w1 HS.out).mono ?_
  rintro e w2 ⟨g, Z, rfl, hl, hb2, hZ, -⟩
  rw [newL_new] at hl
  have HL := Lib.hid hl
  have HB2 := Lib.hid (HB.out.trans (hb2.mono HB.out.size))
  have HZ : Hid (∀ k, Z k → w.heap.size ≤ k) := fun k hk => by
    rcases hZ k hk with q | q
    · exact HX.out k q
    · exact Nat.le_trans HB.out.size q
  clear hl hb2 hZ
  go_wp2_with fail
  go_ret2
  exact ⟨g, gd, Z, rfl, HL.out, HB2.out, HZ.out⟩
/-- A log of one's own on a disk with power and no countdown: its records, its end, a bound of its stamps. -/
def Sd (w0 w : World) (Z : Nat → Prop) (g gd f n : Nat) (bs : List (List UInt8)) (e N : Nat) : Prop :=
  ∃ d L, Lw w0 w Z g gd f n d L ∧ KL d f n L ∧ d.left < 0 ∧ L.recs = bs ∧ L.end_ = e ∧ L.top ≤ N
def SdTo (v : Value) (w0 : World) (Z : Nat → Prop) (g gd f n : Nat) (bs : List (List UInt8)) (e N : Nat) (w : World) (x : Ending) (w' : World) : Prop :=
  x = .returned v ∧ ∃ Z', Sd w0 w' Z' g gd f n bs e N ∧ Out Z w w' ∧ ∀ k, Z' k → Z k ∨ w.heap.size ≤ k
theorem Sd.below_ {w0 w w' : World} {Z : Nat → Prop} {g gd f n : Nat} {bs : List (List UInt8)} {e N : Nat} (h : Sd w0 w Z g gd f n bs e N) (hb : Below w.heap.size w w') : Sd w0 w' Z g gd f n bs e N := by
  obtain ⟨d, L, h1, h2⟩ := h
  exact ⟨d, L, h1.below_ hb, h2⟩
theorem Sd.beside {w0 w w' : World} {Z V : Nat → Prop} {g gd f n : Nat} {bs : List (List UInt8)} {e N : Nat} (h : Sd w0 w Z g gd f n bs e N) (ho : Out V w w') (hv : ∀ k, Z k → ¬ V k) (hv0 : ∀ k, V k → w0.heap.size ≤ k) : Sd w0 w' Z g gd f n bs e N := by
  obtain ⟨d, L, h1, h2⟩ := h
  exact ⟨d, L, h1.beside ho hv hv0, h2⟩
theorem Sd.lt {w0 w : World} {Z : Nat → Prop} {g gd f n : Nat} {bs : List (List UInt8)} {e N : Nat} (h : Sd w0 w Z g gd f n bs e N) : ∀ k, Z k → k < w.heap.size := by
  obtain ⟨d, L, h1, _⟩ := h
  exact h1.lt
theorem Sd.below {w0 w : World} {Z : Nat → Prop} {g gd f n : Nat} {bs : List (List UInt8)} {e N : Nat} (h : Sd w0 w Z g gd f n bs e N) : Below w0.heap.size w0 w := by
  obtain ⟨d, L, h1, _⟩ := h
  exact h1.below
theorem Sd.own {w0 w : World} {Z : Nat → Prop} {g gd f n : Nat} {bs : List (List UInt8)} {e N : Nat} (h : Sd w0 w Z g gd f n bs e N) : ∀ k, Z k → w0.heap.size ≤ k := by
  obtain ⟨d, L, h1, _⟩ := h
  exact h1.own
theorem Sd.commit {w0 w : World} {Z : Nat → Prop} {g gd f n : Nat} {bs : List (List UInt8)} {e N : Nat} (h : Sd w0 w Z g gd f n bs e N) (hN : N + 2 < 65536) (A : Option Addr) (m c : Nat) (b : List UInt8) (hr : Rd w A m b) (hA : ∀ a, A = some a → ¬ Z a.block) (hmc : m ≤ c) (hm : m ≤ 3000000) (hroom : e + manyOf m ≤ n) :
    Calls Try.prog 13 #[.pointer (some ⟨g, 0, none⟩), .slice A m c] w (SdTo (.int .i64 0) w0 Z g gd f n (bs ++ [b]) (e + manyOf m) (N + 2) w) := by
  obtain ⟨d, L, h1, hK, hl, rfl, rfl, ht⟩ := h
  refine (commit_st h1 hK (by omega) A m c b hr hA hmc hm).mono ?_
  rintro x w' ⟨z, d', L', ⟨rfl, Z', q1, q2, q3⟩, hc⟩
  have hlen : b.length = m := hr.len
  have hz : z = 0 := by
    have h4 := hc.some_ (by rw [hlen]; exact hroom)
    have := commit_steady (b := b) hK.up hl (by omega)
    rw [hc.ans] at h4 ⊢
    rcases this.2.2.2.2 with q | q
    · rw [← this.1] at q
      exact absurd q h4
    · rw [this.1]; exact q
  subst hz
  obtain ⟨g1, g2, g3, g4, g5, _⟩ := hc.good rfl
  exact ⟨rfl, Z', ⟨d', L', q1, g1, by rw [g5 hl]; exact hl, g2, by rw [g3, hlen], by omega⟩, q2, q3⟩
theorem Sd.full {w0 w : World} {Z : Nat → Prop} {g gd f n : Nat} {bs : List (List UInt8)} {e N : Nat} (h : Sd w0 w Z g gd f n bs e N) (A : Option Addr) (m c : Nat) (hroom : n < e + manyOf m) :
    Calls Try.prog 13 #[.pointer (some ⟨g, 0, none⟩), .slice A m c] w fun x w' => x = .returned (.int .i64 4) ∧ Below w.heap.size w w' := by
  obtain ⟨d, L, h1, hK, hl, rfl, rfl, ht⟩ := h
  obtain ⟨X, Y, hd, hlg, -⟩ := h1.at_
  obtain ⟨k1, k2, k3, k4, -⟩ := hK.many
  exact commit_full hlg hd hK.up.on hK.met (by omega) k4 A m c hroom
theorem Sd.reset {w0 w : World} {Z : Nat → Prop} {g gd f n : Nat} {bs : List (List UInt8)} {e N : Nat} (h : Sd w0 w Z g gd f n bs e N) (hN : N + 2 < 65536) :
    Calls Try.prog 16 #[.pointer (some ⟨g, 0, none⟩)] w (SdTo (.int .i64 0) w0 Z g gd f n [] 1 (N + 1) w) := by
  obtain ⟨d, L, h1, hK, hl, rfl, rfl, ht⟩ := h
  refine (reset_st h1 hK (by omega)).mono ?_
  rintro x w' ⟨z, d', L', ⟨rfl, Z', q1, q2, q3⟩, hc⟩
  have hz : z = 0 := by rw [hc.ans]; exact (reset_steady hK.up hl).1
  subst hz
  obtain ⟨g1, g2, g3, g4, g5⟩ := hc.good rfl
  exact ⟨rfl, Z', ⟨d', L', q1, g1, by rw [g5 hl]; exact hl, g2, g3, by omega⟩, q2, q3⟩
theorem Sd.room {w0 w : World} {Z : Nat → Prop} {g gd f n : Nat} {bs : List (List UInt8)} {e N : Nat} (h : Sd w0 w Z g gd f n bs e N) :
    Calls Try.prog 23 #[.pointer (some ⟨g, 0, none⟩)] w fun x w' => x = .returned (.int .i64 ((480 * (n - e) : Nat) : Int)) ∧ Below w.heap.size w w' := by
  obtain ⟨d, L, h1, hK, hl, rfl, rfl, ht⟩ := h
  obtain ⟨k1, k2, k3, k4, -⟩ := hK.many
  exact room_st h1 (by omega) k4
theorem Sd.batches {w0 w : World} {Z : Nat → Prop} {g gd f n : Nat} {bs : List (List UInt8)} {e N : Nat} (h : Sd w0 w Z g gd f n bs e N) :
    Calls Try.prog 26 #[.pointer (some ⟨g, 0, none⟩)] w (BatPost bs w) := by
  obtain ⟨d, L, h1, hK, hl, rfl, rfl, ht⟩ := h
  obtain ⟨k1, k2, k3, k4, k5, -⟩ := hK.many
  exact batches_st h1 (by omega) hK.sz
theorem MadePost.sd {n : Nat} {w0 w w' : World} {e : Ending} (h1 : 2 ≤ n) (h2 : n ≤ 4096) (h : MadePost n w0 w e w') : ∃ g gd Z, e = .returned (.tuple #[.pointer (some ⟨gd, 0, none⟩), .pointer (some ⟨g, 0, none⟩)]) ∧ Sd w0 w' Z g gd 0 n [] 1 0 ∧ Below w.heap.size w w' ∧ ∀ k, Z k → w.heap.size ≤ k := by
  obtain ⟨g, gd, Z, q1, q2, q3, q4⟩ := h
  exact ⟨g, gd, Z, q1, ⟨_, _, q2, kl_new h1 h2, show (-1 : Int) < 0 by decide, rfl, rfl, Nat.le_refl _⟩, q3, q4⟩
theorem rd_lit (w : World) (t : TypeId) (fz : Nat × Nat) (bs : List UInt8) : Rd (w.alloc (.cells (bs.map U).toArray t fz)) (some ⟨w.heap.size, 0, none⟩) bs.length bs :=
  ⟨rfl, fun _ => ⟨_, rfl, fun j b hj => by
    have hadd : ((⟨w.heap.size, 0, none⟩ : Addr).add j) = ⟨w.heap.size, j, none⟩ := by unfold Addr.add; split <;> simp_all
    rw [hadd]
    have hw := World.alloc_heap_new w (.cells (bs.map U).toArray t fz)
    unfold World.cell?
    dsimp only
    rw [hw]
    simp [hj]⟩⟩
end Go.Proofs.Ytikpedkckijioaa.Log

namespace Go.Proofs.Ytikpedkckijioaa.Log
open Go.RowKit Disk

theorem info_byte : (Try.prog.info? 5).map (fun i => (i.zero, i.size, i.bytes)) = some (some (.int .u8 0), 1, 1) := by kernel_rfl
def abc : List UInt8 := [97, 98, 99]
/-- What the first of a row of one holds. -/
theorem first_row {w : World} {base B : Nat} {A : Option Addr} {c : Nat} {vs : List Value} {b : List UInt8} {bs : List (List UInt8)} (h : w.ownsRow base 32 1 (.slice A (bs.length + 1) c) (bs.length + 1) vs) (hf : Fresh B w vs (b :: bs)) : ∃ g A2 n2 c2, A = some ⟨g, 0, none⟩ ∧ base ≤ g ∧ w.cell? ⟨g, 0, none⟩ = some (.slice A2 n2 c2) ∧ Rd w A2 n2 b ∧ ∀ a, A2 = some a → B ≤ a.block ∧ a.block < w.heap.size := by
  obtain ⟨A2, n2, c2, h1, h2⟩ := hf.at_ 0 b rfl
  rcases h.2 with ⟨_, q⟩ | ⟨g, cap, cur, q1, q2, q3⟩
  · cases q
  · injection q1 with q1
    subst q1
    have hc := h.cells (g := g) rfl 0 _ h1
    refine ⟨g, A2, n2, c2, rfl, q2, hc, (Rd.of_own h2).1, fun a ha => ?_⟩
    subst ha
    exact h2.lt a.block rfl
set_option maxRecDepth 100000 in
set_option maxHeartbeats 2000000 in
theorem wakes_any (w : World) : Calls Try.prog 9 #[] w fun e w' => e = .returned (.bool true) ∧ Below w.heap.size w w' := by
  obtain ⟨i0, hi, hz0, hz1, hz2⟩ := infos info_byte
  have HI := Lib.hid hi
  have HZ0 := Lib.hid hz0
  have HZ1 := Lib.hid hz1
  have HZ2 := Lib.hid hz2
  clear hi hz0 hz1 hz2
  go_enter Try.func9, Try.ntmps9
  go_wp2_with fail
  refine (made_any 4 (by decide) (by decide) w w (Below.refl _ _)).mono ?_
  intro e w1 hm
  obtain ⟨g, gd, Z, rfl, hs, hb, hZ⟩ := hm.sd (by decide) (by decide)
  have HS := Lib.hid hs
  clear hs hb hZ hm
  go_wp2_with fail
  refine HS.out.room.mono ?_
  rintro e w2 ⟨rfl, hb⟩
  replace HS := Lib.hid (HS.out.below_ hb)
  clear hb
  have hcv := conv_const w2 #[.int .u8 97, .int .u8 98, .int .u8 99] 3 3
  have hb3 : Below w2.heap.size w2 (w2.alloc (.cells #[.int .u8 97, .int .u8 98, .int .u8 99] 5 (3, 4))) := (Below.refl _ _).alloc (Nat.le_refl _) _
  have HR3 : Hid (Rd (w2.alloc (.cells #[.int .u8 97, .int .u8 98, .int .u8 99] 5 (3, 4))) (some ⟨w2.heap.size, 0, none⟩) 3 abc) := rd_lit w2 5 (3, 4) abc
  have HZ3 : Hid (∀ a, (some ⟨w2.heap.size, 0, none⟩ : Option Addr) = some a → ¬ Z a.block) := fun a ha hz => by
    injection ha with ha
    subst ha
    have : w2.heap.size < w2.heap.size := HS.out.lt _ hz
    omega
  have HS3 := Lib.hid (HS.out.below_ hb3)
  generalize hw3 : w2.alloc (.cells #[.int .u8 97, .int .u8 98, .int .u8 99] 5 (3, 4)) = w3 at *
  clear hb3 hw3 HS
  go_wp2_with fail
  refine (HS3.out.commit (by decide) (some ⟨w2.heap.size, 0, none⟩) 3 3 abc HR3.out HZ3.out (Nat.le_refl _) (by decide) (by decide)).mono ?_
  rintro e w4 ⟨rfl, Z4, hs, -⟩
  have HS4 : Hid (Sd w w4 Z4 g gd 0 4 [abc] 2 2) := hs
  clear hs HS3 HZ3 HR3 hcv
  go_wp2_with fail
  refine HS4.out.room.mono ?_
  rintro e w5 ⟨rfl, hb⟩
  have HS5 := Lib.hid (HS4.out.below_ hb)
  clear hb HS4
  go_wp2_with fail
  refine HS5.out.batches.mono ?_
  rintro e w6 ⟨A, c, vs, rfl, hown, hfr, hb⟩
  have HS6 := Lib.hid (HS5.out.below_ hb)
  obtain ⟨gb, A2, n2, c2, rfl, -, hc, hrd, -⟩ := first_row hown hfr
  have hcs := conv_string hrd c2
  clear hown hfr hb HS5 hrd
  have hsa : ((S abc).toList == [97, 98, 99]) = true := by kernel_rfl
  have hmk : (Instr.makeSlice 32 (.int .i64 960) (.int .i64 960)).run Try.prog w6 = .ok (.slice (some ⟨w6.heap.size, 0, none⟩) 960 960) (w6.alloc (.cells ((List.replicate 960 (0 : UInt8)).map U).toArray 5 (0, 0))) := by
    rw [List.map_replicate]
    exact run_make_bytes (P := Try.prog) ty_bytes HI.out HZ0.out HZ1.out HZ2.out .i64 .i64 960 960 (by decide) (by omega) w6
  have hb7 : Below w6.heap.size w6 (w6.alloc (.cells ((List.replicate 960 (0 : UInt8)).map U).toArray 5 (0, 0))) := (Below.refl _ _).alloc (Nat.le_refl _) _
  have HR7 : Hid (Rd (w6.alloc (.cells ((List.replicate 960 (0 : UInt8)).map U).toArray 5 (0, 0))) (some ⟨w6.heap.size, 0, none⟩) 960 (List.replicate 960 0)) := by
    have := rd_lit w6 5 (0, 0) (List.replicate 960 0)
    rwa [List.length_replicate] at this
  have HZ7 : Hid (∀ a, (some ⟨w6.heap.size, 0, none⟩ : Option Addr) = some a → ¬ Z4 a.block) := fun a ha hz => by
    injection ha with ha
    subst ha
    have : w6.heap.size < w6.heap.size := HS6.out.lt _ hz
    omega
  have HS7 := Lib.hid (HS6.out.below_ hb7)
  generalize hw7 : w6.alloc (.cells ((List.replicate 960 (0 : UInt8)).map U).toArray 5 (0, 0)) = w7 at *
  clear hb7 hw7 HS6
  go_wp2_with fail
  refine (HS7.out.commit (by decide) (some ⟨w6.heap.size, 0, none⟩) 960 960 (List.replicate 960 0) HR7.out HZ7.out (Nat.le_refl _) (by decide) (by decide)).mono ?_
  rintro e w8 ⟨rfl, Z8, hs, -⟩
  have HS8 : Hid (Sd w w8 Z8 g gd 0 4 [abc, List.replicate 960 0] 4 4) := hs
  clear hs HS7 HR7 HZ7 hmk
  go_wp2_with fail
  refine (HS8.out.full none 0 0 (by decide)).mono ?_
  rintro e w9 ⟨rfl, hb⟩
  have HS9 := Lib.hid (HS8.out.below_ hb)
  clear hb HS8
  go_wp2_with fail
  refine (HS9.out.reset (by decide)).mono ?_
  rintro e w10 ⟨rfl, Z10, hs, -⟩
  have HS10 : Hid (Sd w w10 Z10 g gd 0 4 [] 1 5) := hs
  clear hs HS9
  go_wp2_with fail
  refine HS10.out.batches.mono ?_
  rintro e w11 ⟨A3, c3, vs3, rfl, hown, hfr, hb⟩
  have HS11 := Lib.hid (HS10.out.below_ hb)
  clear hown hfr hb HS10
  go_wp2_with fail
  refine HS11.out.room.mono ?_
  rintro e w12 ⟨rfl, hb⟩
  have HS12 := Lib.hid (HS11.out.below_ hb)
  clear hb HS11
  go_wp2_with fail
  go_ret
  exact ⟨rfl, HS12.out.below⟩
end Go.Proofs.Ytikpedkckijioaa.Log
