/- Lemmas, part 15: LogLawAll, LogHelpAll, StoMem -/
import Derived.Test.YtmhfhhhhbcignaaGreatBase14
import Derived.Test.YtmhfhhhhbcignaaGreatBase3
import Derived.Test.YtmhfhhhhbcignaaGreatBase11
import Derived.Test.YtmhfhhhhbcignaaGreatBase6
import Derived.Deep.Slices
import Derived.Test.YtmhfhhhhbcignaaGreatBase4
import Derived.Deep.RegionHeld3
import Derived.Deep.AppendLies
namespace Go.Proofs.YtmhfhhhhbcignaaGreat.Log
open Go.RowKit Disk

theorem Run.count {ps : Pages} {l e : Nat} {bs : List (List UInt8)} {l' e' : Nat} (h : Run ps l e bs l' e') : bs.length + e ≤ e' := by
  induction h with
  | nil => simp
  | cons h1 _ ih =>
    obtain ⟨_, h2, _⟩ := rec1_some h1
    rw [List.length_cons]
    omega
theorem recs_facts {ps : Pages} {hd : Bool} {rs : List (List UInt8)} {e : Nat} (h : Recs ps = (hd, rs, e)) (h1 : 1 ≤ ps.length) : 1 ≤ e ∧ e ≤ ps.length ∧ rs.length + 1 ≤ e ∧ (hd = false → e = 1 ∧ rs = []) := by
  rcases kept_cases ps with ⟨s, l, _, H, q⟩ | ⟨_, q⟩
  · rw [h] at H q
    have a := H.run.le
    have b := Run.count H.run
    dsimp only at a b q
    exact ⟨a.1, a.2.2 h1, b, fun hh => by rw [q] at hh; cases hh⟩
  · rw [q] at h
    injection h with h2 h3
    injection h3 with h3 h4
    subst h3 h4
    exact ⟨Nat.le_refl _, h1, Nat.le_refl _, fun _ => ⟨rfl, rfl⟩⟩
/-- What a log knows is what lies in its part. -/
structure KL (d : DK) (f n : Nat) (L : LK) : Prop where
  up : Up d f n L.top
  recs : Recs (part (now d) f n) = (L.head, L.recs, L.end_)
  met : L.met = false
  row : d.row = []
  sz : ∀ b ∈ L.recs, b.length ≤ 3000000
theorem KL.many {d : DK} {f n : Nat} {L : LK} (h : KL d f n L) : 2 ≤ n ∧ f + n ≤ 4096 ∧ 1 ≤ L.end_ ∧ L.end_ ≤ n ∧ L.recs.length + 1 ≤ L.end_ ∧ (L.head = false → L.end_ = 1 ∧ L.recs = []) := by
  have h1 := recs_facts h.recs (by rw [h.up.len]; have := h.up.two; omega)
  rw [h.up.len] at h1
  have h2 := h.up.in_
  have h3 := h.up.ok.many
  exact ⟨h.up.two, by omega, h1⟩
/-- A log of one's own since w0, on its disk: their memory lies within Z. -/
structure Lw (w0 w : World) (Z : Nat → Prop) (g gd f n : Nat) (d : DK) (L : LK) : Prop where
  at_ : ∃ X Y, DkAt w X gd d ∧ LgAt w Y g gd (f : Int) n L ∧ (∀ k, X k → ¬ Y k) ∧ (∀ k, X k → Z k) ∧ ∀ k, Y k → Z k
  below : Below w0.heap.size w0 w
  own : ∀ k, Z k → w0.heap.size ≤ k
  lt : ∀ k, Z k → k < w.heap.size
def LwTo (v : Value) (w0 : World) (Z : Nat → Prop) (g gd f n : Nat) (d' : DK) (L' : LK) (w : World) (e : Ending) (w' : World) : Prop :=
  e = .returned v ∧ ∃ Z', Lw w0 w' Z' g gd f n d' L' ∧ Out Z w w' ∧ ∀ k, Z' k → Z k ∨ w.heap.size ≤ k
theorem Lw.below_ {w0 w w' : World} {Z : Nat → Prop} {g gd f n : Nat} {d : DK} {L : LK} (h : Lw w0 w Z g gd f n d L) (hb : Below w.heap.size w w') : Lw w0 w' Z g gd f n d L := by
  obtain ⟨⟨X, Y, h1, h2, h3, h4, h5⟩, h6, h7, h8⟩ := h
  exact ⟨⟨X, Y, h1.below hb, h2.below hb, h3, h4, h5⟩, h6.trans (hb.mono h6.size), h7, fun k hk => Nat.lt_of_lt_of_le (h8 k hk) hb.size⟩
/-- Something beside it is changed. -/
theorem Lw.beside {w0 w w' : World} {Z V : Nat → Prop} {g gd f n : Nat} {d : DK} {L : LK} (h : Lw w0 w Z g gd f n d L) (ho : Out V w w') (hv : ∀ k, Z k → ¬ V k) (hv0 : ∀ k, V k → w0.heap.size ≤ k) : Lw w0 w' Z g gd f n d L := by
  obtain ⟨⟨X, Y, h1, h2, h3, h4, h5⟩, h6, h7, h8⟩ := h
  exact ⟨⟨X, Y, h1.out ho (fun k hk hx => hv k (h4 k hk) hx), h2.out ho (fun k hk => hv k (h5 k hk)), h3, h4, h5⟩, ho.below h6 hv0 h6.size, h7, fun k hk => Nat.lt_of_lt_of_le (h8 k hk) ho.size⟩
theorem Lw.of {w0 w w' : World} {Z X Y : Nat → Prop} {g gd f n : Nat} {d d' : DK} {L L' : LK} {z : Int} {e : Ending} (h : Lw w0 w Z g gd f n d L) (hX : ∀ k, X k → Z k) (hY : ∀ k, Y k → Z k) (hw : WrPost X Y g gd f n z d' L' w e w') : LwTo (.int .i64 z) w0 Z g gd f n d' L' w e w' := by
  obtain ⟨rfl, X', Y', h1, h2, h3, h4, h5, h6⟩ := hw
  have ho : Out Z w w' := h3.mono fun k hk => .inl (hk.elim (hX k) (hY k))
  have hX2 : ∀ k, X' k → Z k ∨ w.heap.size ≤ k := fun k hk => (h4 k hk).elim (fun q => .inl (hX k q)) .inr
  have hY2 : ∀ k, Y' k → Z k ∨ w.heap.size ≤ k := fun k hk => (h5 k hk).elim (fun q => .inl (hY k q)) .inr
  have hXl : ∀ k, X' k → k < w'.heap.size := fun k hk => by obtain ⟨_, _, _, q⟩ := h1; exact q.lt k hk
  refine ⟨rfl, fun k => X' k ∨ Y' k, ⟨⟨X', Y', h1, h2, h6, fun k hk => .inl hk, fun k hk => .inr hk⟩, ho.below h.below h.own h.below.size, fun k hk => ?_, fun k hk => hk.elim (hXl k) (h2.lt k)⟩, ho, fun k hk => hk.elim (hX2 k) (hY2 k)⟩
  rcases hk.elim (hX2 k) (hY2 k) with q | q
  · exact h.own k q
  · exact Nat.le_trans h.below.size q
theorem commitF_head {d : DK} {f n : Nat} {L : LK} {b : List UInt8} (h : KL d f n L) (hr : L.end_ + manyOf b.length ≤ n) (hh : L.head = true) : commitF d f n L.top b = (wr d (f + L.end_) (leafs (L.top + 1) (manyOf b.length) b), L.top + 1) := by
  unfold commitF
  rw [h.recs, if_neg (by rw [h.up.on]; decide), if_neg (by dsimp only; omega), if_pos hh]
theorem commitF_first {d : DK} {f n : Nat} {L : LK} {b : List UInt8} (h : KL d f n L) (hr : L.end_ + manyOf b.length ≤ n) (hh : L.head = false) : (commitF d f n L.top b).1 = comH d f L.top (manyOf b.length) b ∧ ((commitF d f n L.top b).1.1 = 0 → (commitF d f n L.top b).2 = L.top + 2) := by
  unfold commitF comH
  rw [h.recs, if_neg (by rw [h.up.on]; decide), if_neg (by dsimp only; omega), if_neg (by dsimp only; rw [hh]; exact Bool.false_ne_true)]
  by_cases h0 : (wr d f (headL (L.top + 1))).1 ≠ 0
  · rw [if_pos h0, if_pos h0]
    exact ⟨rfl, fun hz => absurd hz h0⟩
  · rw [if_neg h0, if_neg h0]
    exact ⟨rfl, fun _ => rfl⟩
theorem commitF_full {d : DK} {f n : Nat} {L : LK} {b : List UInt8} (h : KL d f n L) (hr : n < L.end_ + manyOf b.length) : commitF d f n L.top b = ((4, d), L.top) := by
  unfold commitF
  rw [h.recs, if_neg (by rw [h.up.on]; decide), if_pos (by dsimp only; omega)]
/-- What a Commit comes to: answer z, disk d', what the log knows L'. -/
structure ComK (d : DK) (f n : Nat) (L : LK) (b : List UInt8) (z : Int) (d' : DK) (L' : LK) : Prop where
  ans : z = (commitF d f n L.top b).1.1
  disk : d' = (commitF d f n L.top b).1.2
  good : z = 0 → KL d' f n L' ∧ L'.recs = L.recs ++ [b] ∧ L'.end_ = L.end_ + manyOf b.length ∧ L'.top ≤ L.top + 2 ∧ (d.left < 0 → d'.left = d.left) ∧ L.end_ + manyOf b.length ≤ n
  full : z = 4 → d' = d ∧ L' = L
  bad : z ≠ 0 → z ≠ 4 → L'.met = true
  room : n < L.end_ + manyOf b.length → z = 4
  some_ : L.end_ + manyOf b.length ≤ n → z ≠ 4
theorem ComK.of {d : DK} {f n : Nat} {L L' : LK} {b : List UInt8} {r : Int × DK} {L0 : LK} (h : KL d f n L) (ht : L.top + 2 < 18446744073709551616) (hb : b.length ≤ 3000000) (hroom : L.end_ + manyOf b.length ≤ n) (hr : (commitF d f n L.top b).1 = r) (hL0 : r.1 = 0 → L0 = ⟨true, L.recs ++ [b], L.end_ + manyOf b.length, (commitF d f n L.top b).2, L.met⟩) (h0 : r.1 = 0 → L' = L0) (h1 : r.1 ≠ 0 → L'.met = true) (h4 : r.1 ≠ 4) : ComK d f n L b r.1 r.2 L' := by
  have hm := h.many
  refine ⟨by rw [hr], by rw [hr], fun hz => ?_, fun hz => absurd hz h4, fun hz _ => h1 hz, fun hz => by omega, fun _ => h4⟩
  have hc0 : (commitF d f n L.top b).1.1 = 0 := by rw [hr]; exact hz
  obtain ⟨c1, c2, c3, c4, c5, c6⟩ := commit_up h.up ht (by omega) hc0
  rw [hr] at c1 c2 c3 c5
  rw [h0 hz, hL0 hz]
  rw [h.recs] at c2
  refine ⟨⟨c1, c2, h.met, c3, fun x hx => ?_⟩, rfl, rfl, c6, c5, hroom⟩
  rcases List.mem_append.1 hx with q | q
  · exact h.sz x q
  · rw [List.mem_singleton.1 q]; exact hb
theorem wr_code {d : DK} {e : Nat} {ls : Pages} (hd : d.dead = false) (he : e + ls.length ≤ d.pages.length) (ho : OkP ls) : (wr d e ls).1 ≠ 4 := by
  rcases wr_cases ls d e hd he ho with ⟨a1, _⟩ | ⟨a1, _⟩ <;> rw [a1] <;> decide
theorem commit_st {w0 w : World} {Z : Nat → Prop} {g gd f n : Nat} {d : DK} {L : LK} (h : Lw w0 w Z g gd f n d L) (hK : KL d f n L) (ht : L.top + 2 < 18446744073709551616) (A : Option Addr) (m c : Nat) (b : List UInt8) (hr : Rd w A m b) (hA : ∀ a, A = some a → ¬ Z a.block) (hmc : m ≤ c) (hm : m ≤ 3000000) :
    Calls Tryz.prog 78 #[.pointer (some ⟨g, 0, none⟩), .slice A m c] w fun e w' => ∃ z d' L', LwTo (.int .i64 z) w0 Z g gd f n d' L' w e w' ∧ ComK d f n L b z d' L' := by
  obtain ⟨X, Y, hd, hl, hxy, hX, hY⟩ := h.at_
  obtain ⟨k1, k2, k3, k4, k5, k6⟩ := hK.many
  have hlen : b.length = m := hr.len
  have hA2 : ∀ a, A = some a → ¬ (X a.block ∨ Y a.block) := fun a ha hx => hA a ha (hx.elim (hX _) (hY _))
  have hin := hK.up.in_
  rcases Nat.lt_or_ge n (L.end_ + manyOf m) with hf | hroom
  · refine (commit_full hl hd hK.up.on hK.met (by omega) k4 A m c hf).mono ?_
    rintro e w' ⟨rfl, hb⟩
    have hq := commitF_full (b := b) hK (by rw [hlen]; exact hf)
    exact ⟨4, d, L, ⟨rfl, Z, h.below_ hb, Out.of_below hb, fun k hk => .inl hk⟩, by rw [hq], by rw [hq], fun hz => (by cases hz), fun _ => ⟨rfl, rfl⟩, fun _ hz => absurd rfl hz, fun _ => rfl, fun hz => by rw [hlen] at hz; omega⟩
  · cases hh : L.head with
    | true =>
      refine (commit_head hl hd hxy hK.up.on hK.met (by omega) (by omega) k3 (by rw [hK.row]; exact Nat.zero_le _) (by omega) ht A m c b hr hA2 hmc hroom hh).mono ?_
      rintro e w' ⟨L', hw, h0, h1⟩
      have hq := commitF_head (b := b) hK (by rw [hlen]; exact hroom) hh
      rw [hlen] at hq
      refine ⟨_, _, L', h.of hX hY hw, ComK.of hK ht (by omega) (by rw [hlen]; exact hroom) (by rw [hq]) (fun _ => by rw [hq, hlen, hh]) h0 h1 (wr_code hK.up.on (by rw [leafs_length]; omega) (leafs_ok _ _ _))⟩
    | false =>
      obtain ⟨q1, q2⟩ := k6 hh
      refine (commit_first hl hd hxy hK.up.on hK.met (by omega) (by omega) (by rw [hK.row]; exact Nat.zero_le _) ht A m c b hr hA2 hmc hroom hh q1).mono ?_
      rintro e w' ⟨L', hw, h0, h1⟩
      obtain ⟨hq, hq2⟩ := commitF_first (b := b) hK (by rw [hlen]; exact hroom) hh
      rw [hlen] at hq
      refine ⟨_, _, L', h.of hX hY hw, ComK.of hK ht (by omega) (by rw [hlen]; exact hroom) hq (fun hz => by rw [hq2 (by rw [hq]; exact hz), hlen, q1, q2]; rfl) h0 h1 ?_⟩
      unfold comH
      by_cases hx : (wr d f (headL (L.top + 1))).1 ≠ 0
      · rw [if_pos hx]
        exact wr_code hK.up.on (by show f + 1 ≤ _; omega) (headL_ok _)
      · rw [if_neg hx]
        have hu := reset_up hK.up (by omega) (show (resetF d f L.top).1 = 0 by unfold resetF; simpa using hx)
        exact wr_code hu.1.on (by rw [leafs_length]; have := hu.1.in_; unfold resetF at this; omega) (leafs_ok _ _ _)
/-- What a Reset comes to. -/
structure ResK (d : DK) (f n : Nat) (L : LK) (z : Int) (d' : DK) (L' : LK) : Prop where
  ans : z = (resetF d f L.top).1
  disk : d' = (resetF d f L.top).2
  good : z = 0 → KL d' f n L' ∧ L'.recs = [] ∧ L'.end_ = 1 ∧ L'.top = L.top + 1 ∧ (d.left < 0 → d'.left = d.left)
  bad : z ≠ 0 → L'.met = true
theorem reset_st {w0 w : World} {Z : Nat → Prop} {g gd f n : Nat} {d : DK} {L : LK} (h : Lw w0 w Z g gd f n d L) (hK : KL d f n L) (ht : L.top + 2 < 18446744073709551616) :
    Calls Tryz.prog 100 #[.pointer (some ⟨g, 0, none⟩)] w fun e w' => ∃ z d' L', LwTo (.int .i64 z) w0 Z g gd f n d' L' w e w' ∧ ResK d f n L z d' L' := by
  obtain ⟨X, Y, hd, hl, hxy, hX, hY⟩ := h.at_
  obtain ⟨k1, k2, k3, k4, k5, k6⟩ := hK.many
  refine (reset_goes hl hd hxy hK.up.on (by omega) (by rw [hK.row]; exact Nat.zero_le _) (by omega)).mono ?_
  rintro e w' ⟨L', hw, h0, h1⟩
  refine ⟨_, _, L', h.of hX hY hw, rfl, rfl, fun hz => ?_, h1⟩
  obtain ⟨c1, c2, c3, c4, c5⟩ := reset_up hK.up (by omega) hz
  rw [h0 hz]
  exact ⟨⟨c1, c2, hK.met, c3, fun x hx => by cases hx⟩, rfl, rfl, rfl, c5⟩
theorem room_st {w0 w : World} {Z : Nat → Prop} {g gd f n : Nat} {d : DK} {L : LK} (h : Lw w0 w Z g gd f n d L) (hn : n ≤ 4096) (he : L.end_ ≤ n) :
    Calls Tryz.prog 96 #[.pointer (some ⟨g, 0, none⟩)] w fun e w' => e = .returned (.int .i64 ((480 * (n - L.end_) : Nat) : Int)) ∧ Below w.heap.size w w' := by
  obtain ⟨X, Y, hd, hl, hxy, hX, hY⟩ := h.at_
  exact room_quiet hl (by omega) he
theorem batches_st {w0 w : World} {Z : Nat → Prop} {g gd f n : Nat} {d : DK} {L : LK} (h : Lw w0 w Z g gd f n d L) (hn : L.recs.length ≤ 1000000) (hs : ∀ b ∈ L.recs, b.length ≤ 3000000) :
    Calls Tryz.prog 74 #[.pointer (some ⟨g, 0, none⟩)] w (BatPost L.recs w) := by
  obtain ⟨X, Y, hd, hl, hxy, hX, hY⟩ := h.at_
  exact batches_any hl hn fun b hb => by have := hs b hb; omega
end Go.Proofs.YtmhfhhhhbcignaaGreat.Log

namespace Go.Proofs.YtmhfhhhhbcignaaGreat.Log
open Go.RowKit Disk

def newL (d : DK) (f n : Nat) : LK := ⟨(Recs (part (now d) f n)).1, (Recs (part (now d) f n)).2.1, (Recs (part (now d) f n)).2.2, newest (part (now d) f n), false⟩
theorem open_st {w0 w : World} {X : Nat → Prop} {gd f n : Nat} {d : DK} (hs : St w0 w X gd d) (hn : d.dead = false) (h2 : 2 ≤ n) (hin : f + n ≤ d.pages.length) (hrow : d.row.length ≤ 1000000) (hnw : newest (part (now d) f n) ≠ 18446744073709551615) :
    Calls Tryz.prog 73 #[.pointer (some ⟨gd, 0, none⟩), .int .i64 (f : Int), .int .i64 (n : Int)] w fun e w' => ∃ g Z, e = .returned (.tuple #[.pointer (some ⟨g, 0, none⟩), .int .i64 0]) ∧ Lw w0 w' Z g gd f n d (newL d f n) ∧ Below w.heap.size w w' ∧ (∀ k, Z k → X k ∨ w.heap.size ≤ k) ∧ ∀ k, X k → Z k := by
  have hmany := hs.at_.ok.many
  refine (open_yes hs.at_ hn f n h2 (by omega) hin hrow).mono ?_
  rintro e w' ⟨hb, hp⟩
  rw [if_neg hnw] at hp
  obtain ⟨g, Y, rfl, hl, hY⟩ := hp
  have hXl := hs.at_.lt
  refine ⟨g, fun k => X k ∨ Y k, rfl, ⟨⟨X, Y, hs.at_.below hb, hl, fun k hx hy => ?_, fun k hk => .inl hk, fun k hk => .inr hk⟩, hs.below.trans (hb.mono hs.below.size), fun k hk => ?_, fun k hk => ?_⟩, hb, fun k hk => hk.elim .inl (fun q => .inr (hY k q)), fun k hk => .inl hk⟩
  · have := hXl k hx; have := hY k hy; omega
  · rcases hk with q | q
    · exact hs.own k q
    · exact Nat.le_trans hs.below.size (hY k q)
  · rcases hk with q | q
    · exact Nat.lt_of_lt_of_le (hXl k q) hb.size
    · exact hl.lt k q
theorem now_new (n : Nat) : part (now (DK.new n)) 0 n = List.replicate n (List.replicate 512 0) := by
  have := part_all (List.replicate n (List.replicate 512 (0 : UInt8)))
  rwa [List.length_replicate] at this
theorem newL_new (n : Nat) : newL (DK.new n) 0 n = ⟨false, [], 1, 0, false⟩ := by
  unfold newL
  rw [now_new, recs_new, newest_new]
theorem kl_new {n : Nat} (h1 : 2 ≤ n) (h2 : n ≤ 4096) : KL (DK.new n) 0 n ⟨false, [], 1, 0, false⟩ :=
  ⟨(Stands.new h1 h2).up, by rw [now_new, recs_new], rfl, rfl, fun b hb => by cases hb⟩
def MadePost (n : Nat) (w0 w : World) (e : Ending) (w' : World) : Prop :=
  ∃ g gd Z, e = .returned (.tuple #[.pointer (some ⟨gd, 0, none⟩), .pointer (some ⟨g, 0, none⟩)]) ∧ Lw w0 w' Z g gd 0 n (DK.new n) ⟨false, [], 1, 0, false⟩ ∧ Below w.heap.size w w' ∧ ∀ k, Z k → w.heap.size ≤ k
/-- A log of one's own on a disk with power and no countdown: its records, its end, a bound of its stamps. -/
def Sd (w0 w : World) (Z : Nat → Prop) (g gd f n : Nat) (bs : List (List UInt8)) (e N : Nat) : Prop :=
  ∃ d L, Lw w0 w Z g gd f n d L ∧ KL d f n L ∧ d.left < 0 ∧ L.recs = bs ∧ L.end_ = e ∧ L.top ≤ N
def SdTo (v : Value) (w0 : World) (Z : Nat → Prop) (g gd f n : Nat) (bs : List (List UInt8)) (e N : Nat) (w : World) (x : Ending) (w' : World) : Prop :=
  x = .returned v ∧ ∃ Z', Sd w0 w' Z' g gd f n bs e N ∧ Out Z w w' ∧ ∀ k, Z' k → Z k ∨ w.heap.size ≤ k
theorem Sd.below_ {w0 w w' : World} {Z : Nat → Prop} {g gd f n : Nat} {bs : List (List UInt8)} {e N : Nat} (h : Sd w0 w Z g gd f n bs e N) (hb : Below w.heap.size w w') : Sd w0 w' Z g gd f n bs e N := by
  obtain ⟨d, L, h1, h2⟩ := h
  exact ⟨d, L, h1.below_ hb, h2⟩
theorem Sd.beside {w0 w w' : World} {Z V : Nat → Prop} {g gd f n : Nat} {bs : List (List UInt8)} {e N : Nat} (h : Sd w0 w Z g gd f n bs e N) (ho : Out V w w') (hv : ∀ k, Z k → ¬ V k) (hv0 : ∀ k, V k → w0.heap.size ≤ k) : Sd w0 w' Z g gd f n bs e N := by
  obtain ⟨d, L, h1, h2⟩ := h
  exact ⟨d, L, h1.beside ho hv hv0, h2⟩
theorem Sd.lt {w0 w : World} {Z : Nat → Prop} {g gd f n : Nat} {bs : List (List UInt8)} {e N : Nat} (h : Sd w0 w Z g gd f n bs e N) : ∀ k, Z k → k < w.heap.size := by
  obtain ⟨d, L, h1, _⟩ := h
  exact h1.lt
theorem Sd.below {w0 w : World} {Z : Nat → Prop} {g gd f n : Nat} {bs : List (List UInt8)} {e N : Nat} (h : Sd w0 w Z g gd f n bs e N) : Below w0.heap.size w0 w := by
  obtain ⟨d, L, h1, _⟩ := h
  exact h1.below
theorem Sd.own {w0 w : World} {Z : Nat → Prop} {g gd f n : Nat} {bs : List (List UInt8)} {e N : Nat} (h : Sd w0 w Z g gd f n bs e N) : ∀ k, Z k → w0.heap.size ≤ k := by
  obtain ⟨d, L, h1, _⟩ := h
  exact h1.own
theorem Sd.commit {w0 w : World} {Z : Nat → Prop} {g gd f n : Nat} {bs : List (List UInt8)} {e N : Nat} (h : Sd w0 w Z g gd f n bs e N) (hN : N + 2 < 65536) (A : Option Addr) (m c : Nat) (b : List UInt8) (hr : Rd w A m b) (hA : ∀ a, A = some a → ¬ Z a.block) (hmc : m ≤ c) (hm : m ≤ 3000000) (hroom : e + manyOf m ≤ n) :
    Calls Tryz.prog 78 #[.pointer (some ⟨g, 0, none⟩), .slice A m c] w (SdTo (.int .i64 0) w0 Z g gd f n (bs ++ [b]) (e + manyOf m) (N + 2) w) := by
  obtain ⟨d, L, h1, hK, hl, rfl, rfl, ht⟩ := h
  refine (commit_st h1 hK (by omega) A m c b hr hA hmc hm).mono ?_
  rintro x w' ⟨z, d', L', ⟨rfl, Z', q1, q2, q3⟩, hc⟩
  have hlen : b.length = m := hr.len
  have hz : z = 0 := by
    have h4 := hc.some_ (by rw [hlen]; exact hroom)
    have := commit_steady (b := b) hK.up hl (by omega)
    rw [hc.ans] at h4 ⊢
    rcases this.2.2.2.2 with q | q
    · rw [← this.1] at q
      exact absurd q h4
    · rw [this.1]; exact q
  subst hz
  obtain ⟨g1, g2, g3, g4, g5, _⟩ := hc.good rfl
  exact ⟨rfl, Z', ⟨d', L', q1, g1, by rw [g5 hl]; exact hl, g2, by rw [g3, hlen], by omega⟩, q2, q3⟩
theorem Sd.full {w0 w : World} {Z : Nat → Prop} {g gd f n : Nat} {bs : List (List UInt8)} {e N : Nat} (h : Sd w0 w Z g gd f n bs e N) (A : Option Addr) (m c : Nat) (hroom : n < e + manyOf m) :
    Calls Tryz.prog 78 #[.pointer (some ⟨g, 0, none⟩), .slice A m c] w fun x w' => x = .returned (.int .i64 4) ∧ Below w.heap.size w w' := by
  obtain ⟨d, L, h1, hK, hl, rfl, rfl, ht⟩ := h
  obtain ⟨X, Y, hd, hlg, -⟩ := h1.at_
  obtain ⟨k1, k2, k3, k4, -⟩ := hK.many
  exact commit_full hlg hd hK.up.on hK.met (by omega) k4 A m c hroom
theorem Sd.reset {w0 w : World} {Z : Nat → Prop} {g gd f n : Nat} {bs : List (List UInt8)} {e N : Nat} (h : Sd w0 w Z g gd f n bs e N) (hN : N + 2 < 65536) :
    Calls Tryz.prog 100 #[.pointer (some ⟨g, 0, none⟩)] w (SdTo (.int .i64 0) w0 Z g gd f n [] 1 (N + 1) w) := by
  obtain ⟨d, L, h1, hK, hl, rfl, rfl, ht⟩ := h
  refine (reset_st h1 hK (by omega)).mono ?_
  rintro x w' ⟨z, d', L', ⟨rfl, Z', q1, q2, q3⟩, hc⟩
  have hz : z = 0 := by rw [hc.ans]; exact (reset_steady hK.up hl).1
  subst hz
  obtain ⟨g1, g2, g3, g4, g5⟩ := hc.good rfl
  exact ⟨rfl, Z', ⟨d', L', q1, g1, by rw [g5 hl]; exact hl, g2, g3, by omega⟩, q2, q3⟩
theorem Sd.room {w0 w : World} {Z : Nat → Prop} {g gd f n : Nat} {bs : List (List UInt8)} {e N : Nat} (h : Sd w0 w Z g gd f n bs e N) :
    Calls Tryz.prog 96 #[.pointer (some ⟨g, 0, none⟩)] w fun x w' => x = .returned (.int .i64 ((480 * (n - e) : Nat) : Int)) ∧ Below w.heap.size w w' := by
  obtain ⟨d, L, h1, hK, hl, rfl, rfl, ht⟩ := h
  obtain ⟨k1, k2, k3, k4, -⟩ := hK.many
  exact room_st h1 (by omega) k4
theorem Sd.batches {w0 w : World} {Z : Nat → Prop} {g gd f n : Nat} {bs : List (List UInt8)} {e N : Nat} (h : Sd w0 w Z g gd f n bs e N) :
    Calls Tryz.prog 74 #[.pointer (some ⟨g, 0, none⟩)] w (BatPost bs w) := by
  obtain ⟨d, L, h1, hK, hl, rfl, rfl, ht⟩ := h
  obtain ⟨k1, k2, k3, k4, k5, -⟩ := hK.many
  exact batches_st h1 (by omega) hK.sz
theorem MadePost.sd {n : Nat} {w0 w w' : World} {e : Ending} (h1 : 2 ≤ n) (h2 : n ≤ 4096) (h : MadePost n w0 w e w') : ∃ g gd Z, e = .returned (.tuple #[.pointer (some ⟨gd, 0, none⟩), .pointer (some ⟨g, 0, none⟩)]) ∧ Sd w0 w' Z g gd 0 n [] 1 0 ∧ Below w.heap.size w w' ∧ ∀ k, Z k → w.heap.size ≤ k := by
  obtain ⟨g, gd, Z, q1, q2, q3, q4⟩ := h
  exact ⟨g, gd, Z, q1, ⟨_, _, q2, kl_new h1 h2, show (-1 : Int) < 0 by decide, rfl, rfl, Nat.le_refl _⟩, q3, q4⟩
theorem rd_lit (w : World) (t : TypeId) (fz : Nat × Nat) (bs : List UInt8) : Rd (w.alloc (.cells (bs.map U).toArray t fz)) (some ⟨w.heap.size, 0, none⟩) bs.length bs :=
  ⟨rfl, fun _ => ⟨_, rfl, fun j b hj => by
    have hadd : ((⟨w.heap.size, 0, none⟩ : Addr).add j) = ⟨w.heap.size, j, none⟩ := by unfold Addr.add; split <;> simp_all
    rw [hadd]
    have hw := World.alloc_heap_new w (.cells (bs.map U).toArray t fz)
    unfold World.cell?
    dsimp only
    rw [hw]
    simp [hj]⟩⟩
end Go.Proofs.YtmhfhhhhbcignaaGreat.Log

namespace Go.Proofs.YtmhfhhhhbcignaaGreat.Log
open Go.RowKit Disk

theorem info_byte : (Tryz.prog.info? 5).map (fun i => (i.zero, i.size, i.bytes)) = some (some (.int .u8 0), 1, 1) := by kernel_rfl
def abc : List UInt8 := [97, 98, 99]
/-- What the first of a row of one holds. -/
theorem first_row {w : World} {base B : Nat} {A : Option Addr} {c : Nat} {vs : List Value} {b : List UInt8} {bs : List (List UInt8)} (h : w.ownsRow base 57 1 (.slice A (bs.length + 1) c) (bs.length + 1) vs) (hf : Fresh B w vs (b :: bs)) : ∃ g A2 n2 c2, A = some ⟨g, 0, none⟩ ∧ base ≤ g ∧ w.cell? ⟨g, 0, none⟩ = some (.slice A2 n2 c2) ∧ Rd w A2 n2 b ∧ ∀ a, A2 = some a → B ≤ a.block ∧ a.block < w.heap.size := by
  obtain ⟨A2, n2, c2, h1, h2⟩ := hf.at_ 0 b rfl
  rcases h.2 with ⟨_, q⟩ | ⟨g, cap, cur, q1, q2, q3⟩
  · cases q
  · injection q1 with q1
    subst q1
    have hc := h.cells (g := g) rfl 0 _ h1
    refine ⟨g, A2, n2, c2, rfl, q2, hc, (Rd.of_own h2).1, fun a ha => ?_⟩
    subst ha
    exact h2.lt a.block rfl
end Go.Proofs.YtmhfhhhhbcignaaGreat.Log

namespace Go.Proofs.YtmhfhhhhbcignaaGreat.Log
open Go.ChangeShapes Go.WideShapes Go.ChangeAt Go.RowKit Disk

theorem ty_u16 : Tryz.prog.underlying 56 = some (.int .u16) := by kernel_rfl
theorem ty_ints : Tryz.prog.underlying 46 = some (.slice 3) := by kernel_rfl
theorem ty_int : Tryz.prog.underlying 3 = some (.int .i64) := by kernel_rfl
theorem ce_u16 : Tryz.prog.cellsOf 56 = 1 := by kernel_rfl
theorem ce_u8 : Tryz.prog.cellsOf 5 = 1 := by kernel_rfl
theorem ce_int : Tryz.prog.cellsOf 3 = 1 := by kernel_rfl
theorem ce_bool : Tryz.prog.cellsOf 4 = 1 := by kernel_rfl
theorem addr_plain {w : World} {a : Addr} {v : Value} (h : w.cell? a = some v) : a = ⟨a.block, a.off, none⟩ := by
  obtain ⟨b, o, s⟩ := a
  cases s with
  | none => rfl
  | some x =>
    unfold World.cell? at h
    split at h
    · simp at h
    · cases h
theorem add_plain (b o k : Nat) : (⟨b, o, none⟩ : Addr).add k = ⟨b, o + k, none⟩ := by
  unfold Addr.add
  by_cases h : k = 0
  · subst h; simp
  · simp [h]
theorem list4 {α : Type} {l : List α} (h : l.length = 4) : ∃ a b c d, l = [a, b, c, d] := by
  match l, h with
  | [a, b, c, d], _ => exact ⟨a, b, c, d, rfl⟩
/-- Rows of values of four cells. -/
structure FourS (w : World) (A : Option Addr) (n : Nat) (xs : List (Array Value)) : Prop where
  len : xs.length = n
  cells : ∀ j, (h : j < xs.length) → ∃ b o, A = some ⟨b, o, none⟩ ∧ xs[j].size = 4 ∧ ∀ (i : Nat) (v : Value), xs[j][i]? = some v → w.cell? ⟨b, o + j * 4 + i, none⟩ = some v
theorem FourS.nil_ (w : World) (A : Option Addr) : FourS w A 0 [] := ⟨rfl, fun j h => absurd h (by simp)⟩
theorem FourS.below {w w' : World} {A : Option Addr} {n : Nat} {xs : List (Array Value)} (h : FourS w A n xs) (hb : Below w.heap.size w w') : FourS w' A n xs :=
  ⟨h.len, fun j hj => by
    obtain ⟨b, o, e, h1, hc⟩ := h.cells j hj
    exact ⟨b, o, e, h1, fun i v hv => (hb.cell (World.block_lt_of_cell? w _ (hc i v hv))).trans (hc i v hv)⟩⟩
section
variable {H : Type} {enc : TypeId × Value → H} {w : World} {base : Nat} {spare : Nat → Bool} {held : Bool}
theorem open_fates {fuel : Nat} {cs : List Value} {x : DataW H × List MemPlace} (h : DataW.trod enc Tryz.prog w base spare held fuel 46 cs = some x) : ∃ A n c zs, cs = [.slice A n c] ∧ n ≤ c ∧ c ≤ maxLen ∧ RdI w A n zs := by
  rcases open_ints ty_ints ty_int ce_int h with ⟨rfl, _⟩ | ⟨a, len, cap, zs, rfl, _, hl, hm, hz, _, hc, hw⟩
  · exact ⟨none, 0, 0, [], rfl, Nat.le_refl _, Nat.zero_le _, RdI.nil_ _ _⟩
  · have hlz : len ≤ zs.length := by rw [hz]; split <;> omega
    refine ⟨some a, len, cap, zs.take len, rfl, hl, hm, ⟨by simp; omega, fun _ => ⟨a, rfl, fun j z hb => ?_⟩, fun z hzm => ?_⟩⟩
    · rw [List.getElem?_take] at hb
      split at hb
      · next hj =>
        have hjl : j < zs.length := by omega
        rw [List.getElem?_eq_getElem hjl] at hb
        injection hb with hb
        rw [hc j hjl, ← hb, List.getD_eq_getElem?_getD, List.getElem?_eq_getElem hjl]
        rfl
      · cases hb
    · have := hw z (List.mem_of_mem_take hzm)
      simp [Lit.wf, IntKind.min, IntKind.max, IntKind.signed, IntKind.bits] at this
      omega
set_option maxRecDepth 100000 in
theorem arg_ints {b0 : Nat} {r : Reach} {v : Value} {d : DataW H} {ps : List MemPlace} (hv : Value.okWide Tryz.prog w r b0 46 v) (h : DataW.Trod enc Tryz.prog w base spare held 46 v d ps) : ∃ A n c zs, v = .slice A n c ∧ n ≤ c ∧ c ≤ maxLen ∧ RdI w A n zs := by
  obtain ⟨A, n, c, rfl⟩ := okWide_slice ty_ints hv
  obtain ⟨fuel, h⟩ := h
  obtain ⟨A', n', c', zs, e, h1, h2, h3⟩ := open_fates h
  simp [Value.cells] at e
  obtain ⟨rfl, rfl, rfl⟩ := e
  exact ⟨A, n, c, zs, rfl, h1, h2, h3⟩
/-- A row of numbers below 2^16. -/
def vals16 (zs : List Nat) : List Value := zs.map fun (z : Nat) => Value.int .u16 (z : Int)
theorem open_u8n {P : Program} {t : TypeId} (ht : P.underlying t = some (.int .u8)) {b0 : Nat} {r : Reach} {v : Value} {d : DataW H} {ps : List MemPlace}
    (hv : Value.okWide P w r b0 t v) (h : DataW.Trod enc P w base spare held t v d ps) : ∃ a : Nat, v = .int .u8 (a : Int) ∧ a < 256 := by
  obtain ⟨z, rfl, _, _, hw⟩ := open_int ht hv h
  have hb := bounds_u8 hw
  exact ⟨z.toNat, by congr 1; omega, by omega⟩
end
end Go.Proofs.YtmhfhhhhbcignaaGreat.Log

namespace Go.Proofs.YtmhfhhhhbcignaaGreat.Log
open Go.RowKit Disk

/-- The bytes of an act. -/
def actByte (B : UInt8) (i : Nat) : UInt8 := B + UInt8.ofNat (i / 7)
def actBytes (B : UInt8) (n : Nat) : List UInt8 := (List.range n).map (actByte B)
def partB (B : UInt8) (n k : Nat) : List UInt8 := (List.range n).map fun i => if i < k then actByte B i else 0
theorem partB_zero (B : UInt8) (n : Nat) : partB B n 0 = List.replicate n 0 := by
  refine List.ext_getElem (by simp [partB]) fun i h1 h2 => ?_
  simp [partB]
theorem partB_all (B : UInt8) (n : Nat) : partB B n n = actBytes B n := by
  refine List.ext_getElem (by simp [partB, actBytes]) fun i h1 h2 => ?_
  have : i < n := by simpa [partB] using h1
  simp [partB, actBytes, this]
theorem partB_set (B : UInt8) (n k : Nat) : (partB B n k).set k (actByte B k) = partB B n (k + 1) := by
  refine List.ext_getElem (by simp [partB]) fun i h1 h2 => ?_
  rw [List.getElem_set]
  simp only [partB, List.getElem_map, List.getElem_range]
  by_cases h : k = i
  · subst h
    rw [if_pos rfl, if_pos (Nat.lt_succ_self _)]
  · rw [if_neg h]
    by_cases h3 : i < k
    · rw [if_pos h3, if_pos (by omega)]
    · rw [if_neg h3, if_neg (by omega)]
def RelBy (w0 : World) (G : Nat) (B : UInt8) (n : Nat) (i : Value) (wr : World) : Prop :=
  ∃ k : Nat, k ≤ n ∧ i = .int .i64 (k : Int) ∧ Bk wr G 5 ((partB B n k).map U).toArray ∧ Below G w0 wr ∧ G < wr.heap.size
def BytesPost (B : UInt8) (n : Nat) (w : World) (e : Ending) (w' : World) : Prop :=
  ∃ G, e = .returned (.slice (some ⟨G, 0, none⟩) n n) ∧ Rd w' (some ⟨G, 0, none⟩) n (actBytes B n) ∧ w.heap.size ≤ G ∧ G < w'.heap.size ∧ Below w.heap.size w w'
theorem byte_add (B : UInt8) (k : Nat) : Value.int .u8 (((B.toNat : Int) + (k : Int) / 7) % 256) = U (actByte B k) := by
  unfold U actByte
  congr 1
  rw [UInt8.toNat_add, UInt8.toNat_ofNat']
  omega
/-- The texts of records. -/
def RelTx (w : World) (bs : List (List UInt8)) (v i : Value) (wr : World) : Prop :=
  ∃ k : Nat, k ≤ bs.length ∧ i = .int .i64 (k : Int) ∧ wr.ownsRow w.heap.size 9 1 v k (sv (bs.take k)) ∧ Below w.heap.size w wr
def TextsPost (bs : List (List UInt8)) (w : World) (e : Ending) (w' : World) : Prop :=
  ∃ A c, e = .returned (.slice A bs.length c) ∧ w'.ownsRow w.heap.size 9 1 (.slice A bs.length c) bs.length (sv bs) ∧ Below w.heap.size w w'
/-- The same texts? -/
def RelEq (w : World) (ts bs : List (List UInt8)) (i : Value) (wr : World) : Prop :=
  ∃ k : Nat, k ≤ ts.length ∧ i = .int .i64 (k : Int) ∧ ts.take k = bs.take k ∧ Below w.heap.size w wr
theorem texts_at {W : World} {A : Option Addr} {n : Nat} {ss : List (List UInt8)} (h : RdV W A n (sv ss)) {k : Nat} (hk : k < ss.length) : ∃ b o, A = some ⟨b, o, none⟩ ∧ W.cell? ⟨b, o + k, none⟩ = some (.string (S ss[k])) := by
  have hl := h.len
  rw [sv_length] at hl
  obtain ⟨ad, rfl, hc⟩ := h.cells (by omega)
  have hp := addr_plain (hc 0 _ (sv_get (j := 0) (by omega)))
  simp [Addr.add] at hp
  have h0 := hc k _ (sv_get hk)
  rw [hp, add_plain] at h0
  exact ⟨ad.block, ad.off, by rw [← hp], h0⟩
theorem S_eq (a b : List UInt8) : ((S a).toList == (S b).toList) = (a == b) := by
  have e : ∀ x : List UInt8, (S x).toList = x := fun x => by simp [S]
  rw [e, e]
end Go.Proofs.YtmhfhhhhbcignaaGreat.Log

namespace Go.Proofs.YtmhfhhhhbcignaaGreat.Log
open Go.RowKit Disk

structure T2 (w0 w : World) (gd ga fa na gb fb nb : Nat) (d : DK) (La Lb : LK) (X Ya Yb : Nat → Prop) : Prop where
  hd : DkAt w X gd d
  ha : LgAt w Ya ga gd (fa : Int) na La
  hb : LgAt w Yb gb gd (fb : Int) nb Lb
  xa : ∀ k, X k → ¬ Ya k
  xb : ∀ k, X k → ¬ Yb k
  ab : ∀ k, Ya k → ¬ Yb k
  ka : KL d fa na La
  kb : KL d fb nb Lb
  left : d.left < 0
  below : Below w0.heap.size w0 w
  own : ∀ k, X k ∨ Ya k ∨ Yb k → w0.heap.size ≤ k
  apart : fa + na ≤ fb ∨ fb + nb ≤ fa
theorem T2.swap {w0 w : World} {gd ga fa na gb fb nb : Nat} {d : DK} {La Lb : LK} {X Ya Yb : Nat → Prop} (h : T2 w0 w gd ga fa na gb fb nb d La Lb X Ya Yb) : T2 w0 w gd gb fb nb ga fa na d Lb La X Yb Ya :=
  ⟨h.hd, h.hb, h.ha, h.xb, h.xa, fun k hb ha => h.ab k ha hb, h.kb, h.ka, h.left, h.below, fun k hk => h.own k (hk.elim .inl fun q => q.elim (fun r => .inr (.inr r)) fun r => .inr (.inl r)), h.apart.symm⟩
theorem T2.lw {w0 w : World} {gd ga fa na gb fb nb : Nat} {d : DK} {La Lb : LK} {X Ya Yb : Nat → Prop} (h : T2 w0 w gd ga fa na gb fb nb d La Lb X Ya Yb) : Lw w0 w (fun k => X k ∨ Ya k) ga gd fa na d La :=
  ⟨⟨X, Ya, h.hd, h.ha, h.xa, fun _ hk => .inl hk, fun _ hk => .inr hk⟩, h.below, fun k hk => h.own k (hk.elim .inl fun q => .inr (.inl q)), fun k hk => hk.elim (h.hd.lt k) (h.ha.lt k)⟩
/-- Two logs of one's own: the first one's records, its end, a bound of all stamps. -/
def Tw (w0 w : World) (Z : Nat → Prop) (gd ga fa na gb fb nb : Nat) (bs : List (List UInt8)) (e N : Nat) : Prop :=
  ∃ d La Lb X Ya Yb, T2 w0 w gd ga fa na gb fb nb d La Lb X Ya Yb ∧ La.recs = bs ∧ La.end_ = e ∧ La.top ≤ N ∧ Lb.top ≤ N ∧ ∀ k, X k ∨ Ya k ∨ Yb k → Z k
def TwTo (v : Value) (w0 : World) (Z : Nat → Prop) (gd ga fa na gb fb nb : Nat) (bs : List (List UInt8)) (e N : Nat) (w : World) (x : Ending) (w' : World) : Prop :=
  x = .returned v ∧ ∃ Z', Tw w0 w' Z' gd ga fa na gb fb nb bs e N ∧ Out Z w w' ∧ (∀ k, Z' k → Z k ∨ w.heap.size ≤ k) ∧ ∀ k, Z' k → k < w'.heap.size
theorem T2.turn {w0 w w' : World} {gd ga fa na gb fb nb : Nat} {d d' : DK} {La Lb La' : LK} {X Ya Yb Z : Nat → Prop} {v : Value} {x : Ending} (h : T2 w0 w gd ga fa na gb fb nb d La Lb X Ya Yb) (hZ : ∀ k, X k ∨ Ya k ∨ Yb k → Z k) (hq : LwTo v w0 (fun k => X k ∨ Ya k) ga gd fa na d' La' w x w') (ka : KL d' fa na La') (kb : KL d' fb nb Lb) (hl : d'.left < 0) :
    x = .returned v ∧ ∃ X' Ya', T2 w0 w' gd ga fa na gb fb nb d' La' Lb X' Ya' Yb ∧ Out Z w w' ∧ (∀ k, X' k ∨ Ya' k ∨ Yb k → Z k ∨ w.heap.size ≤ k) ∧ ∀ k, X' k ∨ Ya' k ∨ Yb k → k < w'.heap.size := by
  obtain ⟨rfl, Z1, hw, ho, hs⟩ := hq
  obtain ⟨X', Ya', q1, q2, q3, q4, q5⟩ := hw.at_
  have hbl := h.hb.lt
  have hno : ∀ k, Yb k → ¬ Z1 k := fun k hk hz => by
    rcases hs k hz with (r | r) | r
    · exact h.xb k r hk
    · exact h.ab k r hk
    · have := hbl k hk; omega
  have hb' : LgAt w' Yb gb gd (fb : Int) nb Lb := h.hb.out ho (fun k hk hz => hz.elim (fun r => h.xb k r hk) (fun r => h.ab k r hk))
  have hsub : ∀ k, X' k ∨ Ya' k ∨ Yb k → Z k ∨ w.heap.size ≤ k := fun k hk => by
    rcases hk with r | r | r
    · rcases hs k (q4 k r) with (t | t) | t
      · exact .inl (hZ k (.inl t))
      · exact .inl (hZ k (.inr (.inl t)))
      · exact .inr t
    · rcases hs k (q5 k r) with (t | t) | t
      · exact .inl (hZ k (.inl t))
      · exact .inl (hZ k (.inr (.inl t)))
      · exact .inr t
    · exact .inl (hZ k (.inr (.inr r)))
  refine ⟨rfl, X', Ya', ⟨q1, q2, hb', q3, fun k hx hy => hno k hy (q4 k hx), fun k hx hy => hno k hy (q5 k hx), ka, kb, hl, hw.below, fun k hk => ?_, h.apart⟩, ho.mono fun k hk => .inl (hZ k (hk.elim .inl fun r => .inr (.inl r))), hsub, fun k hk => ?_⟩
  · rcases hk with r | r | r
    · exact hw.own k (q4 k r)
    · exact hw.own k (q5 k r)
    · exact h.own k (.inr (.inr r))
  · rcases hk with r | r | r
    · exact q1.lt k r
    · exact q2.lt k r
    · exact hb'.lt k r
theorem kl_beside {d d' : DK} {fa na fb nb : Nat} {L La' : LK} (h : KL d fb nb L) (ka : KL d' fa na La') (hp : d'.pages.length = d.pages.length) (hq : part (now d') fb nb = part (now d) fb nb) : KL d' fb nb L :=
  ⟨⟨ka.up.ok, ka.up.on, h.up.two, by rw [hp]; exact h.up.in_, by rw [hq]; exact h.up.low⟩, by rw [hq]; exact h.recs, h.met, ka.row, h.sz⟩
/-- The first one commits. -/
theorem T2.commit {w0 w : World} {gd ga fa na gb fb nb : Nat} {d : DK} {La Lb : LK} {X Ya Yb Z : Nat → Prop} (h : T2 w0 w gd ga fa na gb fb nb d La Lb X Ya Yb) (hZ : ∀ k, X k ∨ Ya k ∨ Yb k → Z k) (ht : La.top + 2 < 65536) (A : Option Addr) (m c : Nat) (b : List UInt8) (hr : Rd w A m b) (hA : ∀ a, A = some a → ¬ Z a.block) (hmc : m ≤ c) (hm : m ≤ 3000000) :
    Calls Tryz.prog 78 #[.pointer (some ⟨ga, 0, none⟩), .slice A m c] w fun x w' => ∃ z d' La', (x = .returned (.int .i64 z) ∧ ∃ X' Ya', T2 w0 w' gd ga fa na gb fb nb d' La' Lb X' Ya' Yb ∧ Out Z w w' ∧ (∀ k, X' k ∨ Ya' k ∨ Yb k → Z k ∨ w.heap.size ≤ k) ∧ ∀ k, X' k ∨ Ya' k ∨ Yb k → k < w'.heap.size) ∧ La'.top ≤ La.top + 2 ∧
      (La.end_ + manyOf m ≤ na → z = 0 ∧ La'.recs = La.recs ++ [b] ∧ La'.end_ = La.end_ + manyOf m) ∧ (na < La.end_ + manyOf m → z = 4 ∧ La'.recs = La.recs ∧ La'.end_ = La.end_) := by
  have hlen : b.length = m := hr.len
  refine (commit_st h.lw h.ka (by omega) A m c b hr (fun a ha hx => hA a ha (hZ _ (hx.elim .inl fun r => .inr (.inl r)))) hmc hm).mono ?_
  rintro x w' ⟨z, d', La', hq, hc⟩
  have hmany := h.ka.many
  rcases Nat.lt_or_ge na (La.end_ + manyOf m) with hf | hroom
  · have hz := hc.room (by rw [hlen]; exact hf)
    obtain ⟨rfl, rfl⟩ := hc.full hz
    exact ⟨z, _, _, h.turn hZ hq h.ka h.kb h.left, by omega, fun q => by omega, fun _ => ⟨hz, rfl, rfl⟩⟩
  · have hz : z = 0 := by
      have h4 := hc.some_ (by rw [hlen]; exact hroom)
      have := commit_steady (b := b) h.ka.up h.left (by omega)
      rw [hc.ans] at h4 ⊢
      rcases this.2.2.2.2 with q | q
      · rw [← this.1] at q
        exact absurd q h4
      · rw [this.1]; exact q
    obtain ⟨g1, g2, g3, g4, g5, _⟩ := hc.good hz
    have hc0 : (commitF d fa na La.top b).1.1 = 0 := by rw [← hc.ans]; exact hz
    have hup := commit_up h.ka.up (by omega) (by omega) hc0
    have hbs := commit_beside (b := b) (g := fb) (k := nb) h.ka.up h.left (by omega) h.kb.up.in_ h.apart
    rw [← hc.disk] at hup hbs
    exact ⟨z, d', La', h.turn hZ hq g1 (kl_beside h.kb g1 hup.2.2.2.1 hbs) (by rw [g5 h.left]; exact h.left), g4, fun _ => ⟨hz, g2, by rw [g3, hlen]⟩, fun q => by omega⟩
theorem T2.reset {w0 w : World} {gd ga fa na gb fb nb : Nat} {d : DK} {La Lb : LK} {X Ya Yb Z : Nat → Prop} (h : T2 w0 w gd ga fa na gb fb nb d La Lb X Ya Yb) (hZ : ∀ k, X k ∨ Ya k ∨ Yb k → Z k) (ht : La.top + 2 < 65536) :
    Calls Tryz.prog 100 #[.pointer (some ⟨ga, 0, none⟩)] w fun x w' => ∃ d' La', (x = .returned (.int .i64 0) ∧ ∃ X' Ya', T2 w0 w' gd ga fa na gb fb nb d' La' Lb X' Ya' Yb ∧ Out Z w w' ∧ (∀ k, X' k ∨ Ya' k ∨ Yb k → Z k ∨ w.heap.size ≤ k) ∧ ∀ k, X' k ∨ Ya' k ∨ Yb k → k < w'.heap.size) ∧ La'.top ≤ La.top + 2 ∧ La'.recs = [] ∧ La'.end_ = 1 := by
  refine (reset_st h.lw h.ka (by omega)).mono ?_
  rintro x w' ⟨z, d', La', hq, hc⟩
  have hz : z = 0 := by rw [hc.ans]; exact (reset_steady h.ka.up h.left).1
  subst hz
  obtain ⟨g1, g2, g3, g4, g5⟩ := hc.good rfl
  have hc0 : (resetF d fa La.top).1 = 0 := by rw [← hc.ans]
  have hup := reset_up h.ka.up (by omega) hc0
  have hbs := reset_beside (g := fb) (k := nb) h.ka.up h.left h.kb.up.in_ h.apart
  rw [← hc.disk] at hup hbs
  exact ⟨d', La', h.turn hZ hq g1 (kl_beside h.kb g1 hup.2.2.2.1 hbs) (by rw [g5 h.left]; exact h.left), by omega, g2, g3⟩
section
variable {w0 w : World} {Z : Nat → Prop} {gd ga fa na gb fb nb : Nat} {bs : List (List UInt8)} {e N : Nat}
theorem Tw.below (h : Tw w0 w Z gd ga fa na gb fb nb bs e N) : Below w0.heap.size w0 w := by
  obtain ⟨d, La, Lb, X, Ya, Yb, h1, _⟩ := h
  exact h1.below
theorem Tw.beside {w' : World} {V : Nat → Prop} (h : Tw w0 w Z gd ga fa na gb fb nb bs e N) (ho : Out V w w') (hv : ∀ k, Z k → ¬ V k) (hv0 : ∀ k, V k → w0.heap.size ≤ k) : Tw w0 w' Z gd ga fa na gb fb nb bs e N := by
  obtain ⟨d, La, Lb, X, Ya, Yb, h1, h2, h3, h4, h5, h6⟩ := h
  exact ⟨d, La, Lb, X, Ya, Yb, ⟨h1.hd.out ho (fun k hk hx => hv k (h6 k (.inl hk)) hx), h1.ha.out ho (fun k hk => hv k (h6 k (.inr (.inl hk)))), h1.hb.out ho (fun k hk => hv k (h6 k (.inr (.inr hk)))), h1.xa, h1.xb, h1.ab, h1.ka, h1.kb, h1.left, ho.below h1.below hv0 h1.below.size, h1.own, h1.apart⟩, h2, h3, h4, h5, h6⟩
theorem Tw.below_ {w' : World} (h : Tw w0 w Z gd ga fa na gb fb nb bs e N) (hb : Below w.heap.size w w') : Tw w0 w' Z gd ga fa na gb fb nb bs e N :=
  h.beside (V := fun _ => False) (Out.of_below hb) (fun _ _ q => q) (fun _ q => q.elim)
theorem Tw.commit (h : Tw w0 w Z gd ga fa na gb fb nb bs e N) (hN : N + 2 < 65536) (A : Option Addr) (m c : Nat) (b : List UInt8) (hr : Rd w A m b) (hA : ∀ a, A = some a → ¬ Z a.block) (hmc : m ≤ c) (hm : m ≤ 3000000) (hroom : e + manyOf m ≤ na) :
    Calls Tryz.prog 78 #[.pointer (some ⟨ga, 0, none⟩), .slice A m c] w (TwTo (.int .i64 0) w0 Z gd ga fa na gb fb nb (bs ++ [b]) (e + manyOf m) (N + 2) w) := by
  obtain ⟨d, La, Lb, X, Ya, Yb, h1, rfl, rfl, h4, h5, h6⟩ := h
  refine (h1.commit h6 (by omega) A m c b hr hA hmc hm).mono ?_
  rintro x w' ⟨z, d', La', ⟨rfl, X', Ya', q1, q2, q3, q4⟩, ht, hy, -⟩
  obtain ⟨rfl, r1, r2⟩ := hy hroom
  exact ⟨rfl, _, ⟨d', La', Lb, X', Ya', Yb, q1, r1, r2, by omega, by omega, fun k hk => hk⟩, q2, q3, q4⟩
theorem Tw.full (h : Tw w0 w Z gd ga fa na gb fb nb bs e N) (hN : N + 2 < 65536) (A : Option Addr) (m c : Nat) (b : List UInt8) (hr : Rd w A m b) (hA : ∀ a, A = some a → ¬ Z a.block) (hmc : m ≤ c) (hm : m ≤ 3000000) (hroom : na < e + manyOf m) :
    Calls Tryz.prog 78 #[.pointer (some ⟨ga, 0, none⟩), .slice A m c] w (TwTo (.int .i64 4) w0 Z gd ga fa na gb fb nb bs e (N + 2) w) := by
  obtain ⟨d, La, Lb, X, Ya, Yb, h1, rfl, rfl, h4, h5, h6⟩ := h
  refine (h1.commit h6 (by omega) A m c b hr hA hmc hm).mono ?_
  rintro x w' ⟨z, d', La', ⟨rfl, X', Ya', q1, q2, q3, q4⟩, ht, -, hy⟩
  obtain ⟨rfl, r1, r2⟩ := hy hroom
  exact ⟨rfl, _, ⟨d', La', Lb, X', Ya', Yb, q1, r1, r2, by omega, by omega, fun k hk => hk⟩, q2, q3, q4⟩
theorem Tw.reset (h : Tw w0 w Z gd ga fa na gb fb nb bs e N) (hN : N + 2 < 65536) :
    Calls Tryz.prog 100 #[.pointer (some ⟨ga, 0, none⟩)] w (TwTo (.int .i64 0) w0 Z gd ga fa na gb fb nb [] 1 (N + 2) w) := by
  obtain ⟨d, La, Lb, X, Ya, Yb, h1, rfl, rfl, h4, h5, h6⟩ := h
  refine (h1.reset h6 (by omega)).mono ?_
  rintro x w' ⟨d', La', ⟨rfl, X', Ya', q1, q2, q3, q4⟩, ht, r1, r2⟩
  exact ⟨rfl, _, ⟨d', La', Lb, X', Ya', Yb, q1, r1, r2, by omega, by omega, fun k hk => hk⟩, q2, q3, q4⟩
/-- The other one commits. -/
theorem Tw.other (h : Tw w0 w Z gd ga fa na gb fb nb bs e N) (hN : N + 2 < 65536) (A : Option Addr) (m c : Nat) (b : List UInt8) (hr : Rd w A m b) (hA : ∀ a, A = some a → ¬ Z a.block) (hmc : m ≤ c) (hm : m ≤ 3000000) :
    Calls Tryz.prog 78 #[.pointer (some ⟨gb, 0, none⟩), .slice A m c] w fun x w' => ∃ z, TwTo (.int .i64 z) w0 Z gd ga fa na gb fb nb bs e (N + 2) w x w' := by
  obtain ⟨d, La, Lb, X, Ya, Yb, h1, rfl, rfl, h4, h5, h6⟩ := h
  refine (h1.swap.commit (Z := Z) (fun k hk => h6 k (hk.elim .inl fun q => q.elim (fun r => .inr (.inr r)) fun r => .inr (.inl r))) (by omega) A m c b hr hA hmc hm).mono ?_
  rintro x w' ⟨z, d', Lb', ⟨rfl, X', Yb', q1, q2, q3, q4⟩, ht, -, -⟩
  exact ⟨z, rfl, fun k => X' k ∨ Yb' k ∨ Ya k, ⟨d', La, Lb', X', Ya, Yb', q1.swap, rfl, rfl, by omega, by omega, fun k hk => hk.elim .inl fun q => q.elim (fun r => .inr (.inr r)) fun r => .inr (.inl r)⟩, q2, q3, q4⟩
theorem Tw.otherReset (h : Tw w0 w Z gd ga fa na gb fb nb bs e N) (hN : N + 2 < 65536) :
    Calls Tryz.prog 100 #[.pointer (some ⟨gb, 0, none⟩)] w (TwTo (.int .i64 0) w0 Z gd ga fa na gb fb nb bs e (N + 2) w) := by
  obtain ⟨d, La, Lb, X, Ya, Yb, h1, rfl, rfl, h4, h5, h6⟩ := h
  refine (h1.swap.reset (Z := Z) (fun k hk => h6 k (hk.elim .inl fun q => q.elim (fun r => .inr (.inr r)) fun r => .inr (.inl r))) (by omega)).mono ?_
  rintro x w' ⟨d', Lb', ⟨rfl, X', Yb', q1, q2, q3, q4⟩, ht, r1, r2⟩
  exact ⟨rfl, fun k => X' k ∨ Yb' k ∨ Ya k, ⟨d', La, Lb', X', Ya, Yb', q1.swap, rfl, rfl, by omega, by omega, fun k hk => hk.elim .inl fun q => q.elim (fun r => .inr (.inr r)) fun r => .inr (.inl r)⟩, q2, q3, q4⟩
theorem Tw.room (h : Tw w0 w Z gd ga fa na gb fb nb bs e N) :
    Calls Tryz.prog 96 #[.pointer (some ⟨ga, 0, none⟩)] w fun x w' => x = .returned (.int .i64 ((480 * (na - e) : Nat) : Int)) ∧ Below w.heap.size w w' := by
  obtain ⟨d, La, Lb, X, Ya, Yb, h1, rfl, rfl, h4, h5, h6⟩ := h
  obtain ⟨k1, k2, k3, k4, -⟩ := h1.ka.many
  exact room_st h1.lw (by omega) k4
theorem Tw.batches (h : Tw w0 w Z gd ga fa na gb fb nb bs e N) :
    Calls Tryz.prog 74 #[.pointer (some ⟨ga, 0, none⟩)] w (BatPost bs w) := by
  obtain ⟨d, La, Lb, X, Ya, Yb, h1, rfl, rfl, h4, h5, h6⟩ := h
  obtain ⟨k1, k2, k3, k4, k5, -⟩ := h1.ka.many
  exact batches_st h1.lw (by omega) h1.ka.sz
theorem Tw.many (h : Tw w0 w Z gd ga fa na gb fb nb bs e N) : bs.length ≤ 4096 ∧ 1 ≤ e ∧ e ≤ na := by
  obtain ⟨d, La, Lb, X, Ya, Yb, h1, rfl, rfl, h4, h5, h6⟩ := h
  obtain ⟨k1, k2, k3, k4, k5, -⟩ := h1.ka.many
  exact ⟨by omega, k3, k4⟩
end
end Go.Proofs.YtmhfhhhhbcignaaGreat.Log

namespace Go.Proofs.YtmhfhhhhbcignaaGreat.Log
open Go.ChangeShapes Go.WideShapes Go.ChangeAt Go.RowKit Disk

structure Try1 where
  reset : Bool
  b : UInt8
  n : Nat
  fuse : Nat
def tryC (y : Try1) : List Value := [.bool y.reset, .int .u8 (y.b.toNat : Int), .int .u16 (y.n : Int), .int .u8 (y.fuse : Int)]
/-- The slice reads as these tries. -/
structure TryS (w : World) (A : Option Addr) (n : Nat) (xs : List Try1) : Prop where
  len : xs.length = n
  cells : ∀ j, (h : j < xs.length) → ∃ b o, A = some ⟨b, o, none⟩ ∧ xs[j].n < 65536 ∧ xs[j].fuse < 256 ∧ ∀ (i : Nat) (v : Value), (tryC xs[j])[i]? = some v → w.cell? ⟨b, o + j * 4 + i, none⟩ = some v
theorem TryS.nil_ (w : World) (A : Option Addr) : TryS w A 0 [] := ⟨rfl, fun j h => absurd h (by simp)⟩
theorem TryS.below {w w' : World} {A : Option Addr} {n : Nat} {xs : List Try1} (h : TryS w A n xs) (hb : Below w.heap.size w w') : TryS w' A n xs :=
  ⟨h.len, fun j hj => by
    obtain ⟨b, o, e, h1, h2, hc⟩ := h.cells j hj
    exact ⟨b, o, e, h1, h2, fun i v hv => (hb.cell (World.block_lt_of_cell? w _ (hc i v hv))).trans (hc i v hv)⟩⟩
section
variable {H : Type} {enc : TypeId × Value → H} {w : World} {base : Nat} {spare : Nat → Bool} {held : Bool}
theorem ty_u32 : Tryz.prog.underlying 137 = some (.int .u32) := by kernel_rfl
theorem open_u32n {P : Program} {t : TypeId} (ht : P.underlying t = some (.int .u32)) {b0 : Nat} {r : Reach} {v : Value} {d : DataW H} {ps : List MemPlace}
    (hv : Value.okWide P w r b0 t v) (h : DataW.Trod enc P w base spare held t v d ps) : ∃ a : Nat, v = .int .u32 (a : Int) ∧ a < 4294967296 := by
  obtain ⟨z, rfl, _, _, hw⟩ := open_int ht hv h
  simp [Lit.wf, IntKind.min, IntKind.max, IntKind.signed, IntKind.bits] at hw
  exact ⟨z.toNat, by congr 1; omega, by omega⟩
end
end Go.Proofs.YtmhfhhhhbcignaaGreat.Log

namespace Go.Proofs.YtmhfhhhhbcignaaGreat.Sto
open Go.RowKit Disk Log

theorem rdb_out1 {w W : World} {Z : Nat → Prop} {A : Option Addr} {n : Nat} {vs : List UInt8} (h : Rd w A n vs) (ho : Out Z w W) (hz : ∀ a, A = some a → 1 ≤ n → ¬ Z a.block) : Rd W A n vs := by
  rcases Nat.eq_zero_or_pos n with h0 | h0
  · exact ⟨h.len, fun q => absurd q (by omega)⟩
  · exact rdb_out h ho fun a ha => hz a ha h0
/-- Lines that are read, in blocks of P. -/
structure LnS (P : Nat → Prop) (w : World) (A : Option Addr) (n : Nat) (ls : List Ln) : Prop where
  len : ls.length = n
  at_ : ∀ (j : Nat) (x : Ln), ls[j]? = some x → ∃ b o B m c, A = some ⟨b, o, none⟩ ∧ P b ∧ w.cell? ⟨b, o + j * 2, none⟩ = some (.int .u64 (x.epoch : Int)) ∧ w.cell? ⟨b, o + j * 2 + 1, none⟩ = some (.slice B m c) ∧ m ≤ c ∧ Rd w B m x.bytes ∧ ∀ b, B = some b → 1 ≤ m → P b.block
theorem LnS.out {P X : Nat → Prop} {w w' : World} {A : Option Addr} {n : Nat} {ls : List Ln} (h : LnS P w A n ls) (ho : Out X w w') (hx : ∀ k, P k → ¬ X k) : LnS P w' A n ls :=
  ⟨h.len, fun j x hj => by
    obtain ⟨b, o, B, m, c, h1, h2, h3, h4, h5, h6, h7⟩ := h.at_ j x hj
    have hk : ∀ i v, w.cell? ⟨b, i, none⟩ = some v → w'.cell? ⟨b, i, none⟩ = some v := fun i v hv =>
      (ho.cell (World.block_lt_of_cell? w _ hv) (hx _ h2)).trans hv
    exact ⟨b, o, B, m, c, h1, h2, hk _ _ h3, hk _ _ h4, h5, rdb_out1 h6 ho (fun a ha h0 => hx _ (h7 a ha h0)), h7⟩⟩
theorem LnS.below {P : Nat → Prop} {w w' : World} {A : Option Addr} {n : Nat} {ls : List Ln} (h : LnS P w A n ls) (hb : Below w.heap.size w w') : LnS P w' A n ls :=
  h.out (X := fun _ => False) (Out.of_below hb) fun _ _ q => q
theorem LnS.mono {P Q : Nat → Prop} {w : World} {A : Option Addr} {n : Nat} {ls : List Ln} (h : LnS P w A n ls) (hq : ∀ k, P k → Q k) : LnS Q w A n ls :=
  ⟨h.len, fun j x hj => by
    obtain ⟨b, o, B, m, c, h1, h2, h3, h4, h5, h6, h7⟩ := h.at_ j x hj
    exact ⟨b, o, B, m, c, h1, hq _ h2, h3, h4, h5, h6, fun b hb h0 => hq _ (h7 b hb h0)⟩⟩
theorem LnS.nil_ (P : Nat → Prop) (w : World) (A : Option Addr) : LnS P w A 0 [] := ⟨rfl, fun j x hj => by simp at hj⟩

/-- A line's cells. -/
def lnC (x : Ln) (v : Value) : List Value := [.int .u64 (x.epoch : Int), v]
def lnsC : List Ln → List Value → List Value
  | x :: ls, v :: vs => lnC x v ++ lnsC ls vs
  | _, _ => []
theorem lnsC_length : ∀ (ls : List Ln) (vs : List Value), ls.length = vs.length → (lnsC ls vs).length = 2 * ls.length
  | [], [], _ => rfl
  | x :: ls, v :: vs, h => by
    have := lnsC_length ls vs (by simpa using h)
    rw [lnsC, List.length_append, this, List.length_cons]
    show 2 + _ = _
    omega
theorem lnsC_append : ∀ (ls : List Ln) (vs : List Value) (ms : List Ln) (us : List Value), ls.length = vs.length → lnsC (ls ++ ms) (vs ++ us) = lnsC ls vs ++ lnsC ms us
  | [], [], ms, us, _ => rfl
  | x :: ls, v :: vs, ms, us, h => by
    rw [List.cons_append, List.cons_append, lnsC, lnsC_append ls vs ms us (by simpa using h), lnsC, List.append_assoc]
theorem lnsC_snoc (ls : List Ln) (vs : List Value) (x : Ln) (v : Value) (h : ls.length = vs.length) : lnsC (ls ++ [x]) (vs ++ [v]) = lnsC ls vs ++ lnC x v := by
  rw [lnsC_append ls vs [x] [v] h]
  show _ ++ (lnC x v ++ []) = _
  rw [List.append_nil]
theorem lnsC_get : ∀ (ls : List Ln) (vs : List Value) (j i : Nat) (x : Ln) (v : Value), ls[j]? = some x → vs[j]? = some v → i < 2 → (lnsC ls vs)[2 * j + i]? = (lnC x v)[i]?
  | [], _, j, i, x, v, h, _, _ => by simp at h
  | _ :: _, [], j, i, x, v, _, h, _ => by simp at h
  | y :: ls, u :: vs, 0, i, x, v, h1, h2, hi => by
    simp at h1 h2
    subst h1 h2
    rw [lnsC, Nat.mul_zero, Nat.zero_add, List.getElem?_append_left (by exact hi)]
  | y :: ls, u :: vs, j + 1, i, x, v, h1, h2, hi => by
    rw [lnsC, List.getElem?_append_right (by show 2 ≤ _; omega)]
    have : 2 * (j + 1) + i - (lnC y u).length = 2 * j + i := by show 2 * (j + 1) + i - 2 = _; omega
    rw [this]
    exact lnsC_get ls vs j i x v (by simpa using h1) (by simpa using h2) hi
theorem lnC_one (x : Ln) {v : Value} (h : v.oneCell' = true) : ∀ u ∈ lnC x v, u.oneCell' = true := by
  intro u hu
  rcases List.mem_cons.1 hu with rfl | hu
  · rfl
  · rw [List.mem_singleton.1 hu]; exact h
/-- Lines of one's own. -/
def OwnL (base : Nat) (w : World) (v : Value) (ls : List Ln) : Prop :=
  ∃ xs, w.ownsRow base 63 2 v ls.length (lnsC ls xs) ∧ Fresh base w xs (ls.map (·.bytes))
theorem OwnL.nil_ (base : Nat) (w : World) : OwnL base w (.slice none 0 0) [] := ⟨[], ⟨rfl, .inl ⟨rfl, rfl⟩⟩, ⟨rfl, fun j b hj => by simp at hj⟩⟩
theorem OwnL.form {base : Nat} {w : World} {v : Value} {ls : List Ln} (h : OwnL base w v ls) : ∃ A c, v = .slice A ls.length c ∧ ls.length ≤ c ∧ ∀ a, A = some a → base ≤ a.block ∧ a.block < w.heap.size := by
  obtain ⟨xs, hown, _⟩ := h
  rcases hown.2 with ⟨rfl, h0⟩ | ⟨g, cap, cur, rfl, hg, hh, hnc, _⟩
  · exact ⟨none, 0, by rw [h0], by omega, fun a ha => by cases ha⟩
  · exact ⟨_, _, rfl, hnc, fun a ha => by injection ha with ha; subst ha; exact ⟨hg, (Array.getElem?_eq_some_iff.1 hh).1⟩⟩
theorem add_plain (g i : Nat) : ((⟨g, 0, none⟩ : Addr).add i) = ⟨g, i, none⟩ := by unfold Addr.add; split <;> simp_all
theorem OwnL.lns {base : Nat} {w : World} {A : Option Addr} {n c : Nat} {ls : List Ln} (h : OwnL base w (.slice A n c) ls) : LnS (fun k => base ≤ k ∧ k < w.heap.size) w A ls.length ls := by
  obtain ⟨xs, hown, hf⟩ := h
  refine ⟨rfl, fun j x hj => ?_⟩
  obtain ⟨B, m, c2, h1, h2⟩ := hf.at_ j x.bytes (by rw [List.getElem?_map, hj]; rfl)
  have g0 := lnsC_get ls xs j 0 x _ hj h1 (by omega)
  have g1 := lnsC_get ls xs j 1 x _ hj h1 (by omega)
  have hjl := (List.getElem?_eq_some_iff.1 hj).1
  rcases hown.2 with ⟨_, h0⟩ | ⟨g, cap, cur, e, hg, hh, _⟩
  · omega
  · injection e with e
    subst e
    refine ⟨g, 0, B, m, c2, rfl, ⟨hg, (Array.getElem?_eq_some_iff.1 hh).1⟩, ?_, ?_, own_le h2, (Rd.of_own h2).1, fun b hb _ => h2.lt b.block (by subst hb; rfl)⟩
    · have := hown.cells (g := g) rfl _ _ g0
      rw [add_plain] at this
      rw [show 0 + j * 2 = 2 * j + 0 from by omega]
      exact this
    · have := hown.cells (g := g) rfl _ _ g1
      rw [add_plain] at this
      rw [show 0 + j * 2 + 1 = 2 * j + 1 from by omega]
      exact this
theorem info_line : (Tryz.prog.info? 63).map (fun i => (i.zero, i.size, i.bytes)) = some (some (.agg #[.int .u64 0, .slice none 0 0]), 2, 32) := by kernel_rfl
theorem ty_lines : Tryz.prog.underlying 33 = some (.slice 63) := by kernel_rfl
end Go.Proofs.YtmhfhhhhbcignaaGreat.Sto
