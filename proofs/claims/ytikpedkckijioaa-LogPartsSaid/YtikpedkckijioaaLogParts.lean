/- LogParts: two logs on parts of one disk that do not touch do not disturb one another: for every row of tries and every number the call returns true, and nothing that was there has turned. No conditions. -/
import Derived.Test.YtikpedkckijioaaLogHelpAll
import Derived.Deep.RegionHeldLaw
namespace Go.Proofs.Ytikpedkckijioaa.logParts
open Go.ChangeShapes Go.WideShapes Go.ChangeAt Go.RowKit Disk Log

theorem part16 (f : Nat) (hf : f + 8 ≤ 16) : Log.part (Log.now (DK.new 16)) f 8 = List.replicate 8 (List.replicate 512 0) := by
  show ((List.replicate 16 (List.replicate 512 (0 : UInt8))).drop f).take 8 = _
  rw [List.drop_replicate, List.take_replicate, Nat.min_eq_left (by omega)]
theorem kl16 (f : Nat) (hf : f + 8 ≤ 16) : KL (DK.new 16) f 8 ⟨false, [], 1, 0, false⟩ :=
  ⟨⟨Ok.new (by decide) (by decide), rfl, by decide, by show f + 8 ≤ (List.replicate _ _).length; rw [List.length_replicate]; exact hf, by rw [part16 f hf]; exact low_new 8⟩, by rw [part16 f hf, recs_new], rfl, rfl, fun b hb => by cases hb⟩
theorem open16 (f : Nat) (hf : f + 8 ≤ 16) {w : World} {X : Nat → Prop} {gd : Nat} (hd : DkAt w X gd (DK.new 16)) : Calls Try.prog 11 #[.pointer (some ⟨gd, 0, none⟩), .int .i64 (f : Int), .int .i64 8] w fun e w' => ∃ g Y, e = .returned (.tuple #[.pointer (some ⟨g, 0, none⟩), .int .i64 0]) ∧ LgAt w' Y g gd (f : Int) 8 ⟨false, [], 1, 0, false⟩ ∧ (∀ k, Y k → w.heap.size ≤ k) ∧ Below w.heap.size w w' := by
  have h0 : newest (Log.part (Log.now (DK.new 16)) f 8) = 0 := by rw [part16 f hf, newest_new]
  refine (open_yes hd rfl f 8 (by decide) (by decide) (by show f + 8 ≤ (List.replicate _ _).length; rw [List.length_replicate]; exact hf) (Nat.zero_le _)).mono ?_
  rintro e w' ⟨hb, hp⟩
  rw [if_neg (by rw [h0]; decide), part16 f hf, recs_new, newest_new] at hp
  obtain ⟨g, Y, rfl, hl, hY⟩ := hp
  exact ⟨g, Y, rfl, hl, hY, hb⟩
/-- The log that is opened anew. -/
theorem openA {w0 w : World} {Z : Nat → Prop} {gd ga gb : Nat} {bs : List (List UInt8)} {e N : Nat} (h : Tw w0 w Z gd ga 0 8 gb 8 8 bs e N) (hN : N < 65536) : Calls Try.prog 11 #[.pointer (some ⟨gd, 0, none⟩), .int .i64 0, .int .i64 8] w fun x w' => ∃ g, x = .returned (.tuple #[.pointer (some ⟨g, 0, none⟩), .int .i64 0]) ∧ Below w.heap.size w w' ∧ Calls Try.prog 26 #[.pointer (some ⟨g, 0, none⟩)] w' (BatPost bs w') := by
  obtain ⟨d, La, Lb, X, Ya, Yb, h1, rfl, rfl, h4, h5, h6⟩ := h
  have hnw := newest_le h1.ka.up.low
  have hm := h1.ka.many
  refine (open_yes h1.hd h1.ka.up.on 0 8 (by decide) (by decide) h1.ka.up.in_ (by rw [h1.ka.row]; exact Nat.zero_le _)).mono ?_
  rintro x w' ⟨hb, hp⟩
  rw [if_neg (by omega), h1.ka.recs] at hp
  obtain ⟨g, Y, rfl, hl, hY⟩ := hp
  exact ⟨g, rfl, hb, batches_any (L := ⟨La.head, La.recs, La.end_, newest (Log.part (Log.now d) 0 8), false⟩) hl (by show La.recs.length ≤ _; omega) (fun b hb => by have := h1.ka.sz b hb; omega)⟩
theorem sd_mono {w0 w : World} {Z : Nat → Prop} {g gd f n : Nat} {bs : List (List UInt8)} {e N M : Nat} (h : Sd w0 w Z g gd f n bs e N) (hM : N ≤ M) : Sd w0 w Z g gd f n bs e M := by
  obtain ⟨d, L, h1, hK, hl, h4, h5, ht⟩ := h
  exact ⟨d, L, h1, hK, hl, h4, h5, Nat.le_trans ht hM⟩
theorem tw_mono {w0 w : World} {Z : Nat → Prop} {gd ga fa na gb fb nb : Nat} {bs : List (List UInt8)} {e N M : Nat} (h : Tw w0 w Z gd ga fa na gb fb nb bs e N) (hM : N ≤ M) : Tw w0 w Z gd ga fa na gb fb nb bs e M := by
  obtain ⟨d, La, Lb, X, Ya, Yb, h1, h2, h3, h4, h5, h6⟩ := h
  exact ⟨d, La, Lb, X, Ya, Yb, h1, h2, h3, by omega, by omega, h6⟩
/-- Both logs of one disk, a third one on its own, and a row of bytes beside them. -/
def Bo (w wr : World) (gd ga gb go_ gdo : Nat) (ba : List (List UInt8)) (ea : Nat) (bo : List (List UInt8)) (eo N G nn : Nat) (tt : List UInt8) : Prop :=
  ∃ Z Zo : Nat → Prop, Tw w wr Z gd ga 0 8 gb 8 8 ba ea N ∧ Sd w wr Zo go_ gdo 0 8 bo eo N ∧ (∀ j, Z j → ¬ Zo j) ∧ (∀ j, Z j → w.heap.size ≤ j ∧ j < wr.heap.size) ∧ Rd wr (some ⟨G, 0, none⟩) nn tt ∧ ¬ Z G ∧ ¬ Zo G ∧ G < wr.heap.size
section
variable {w wr : World} {gd ga gb go_ gdo : Nat} {ba : List (List UInt8)} {ea : Nat} {bo : List (List UInt8)} {eo N G nn : Nat} {tt : List UInt8}
theorem Bo.below (h : Bo w wr gd ga gb go_ gdo ba ea bo eo N G nn tt) : Below w.heap.size w wr := by
  obtain ⟨Z, Zo, h1, _⟩ := h
  exact h1.below
theorem Bo.below_ {w' : World} (h : Bo w wr gd ga gb go_ gdo ba ea bo eo N G nn tt) (hb : Below wr.heap.size wr w') : Bo w w' gd ga gb go_ gdo ba ea bo eo N G nn tt := by
  obtain ⟨Z, Zo, h1, h2, h3, h4, h5, h6, h7, h8⟩ := h
  exact ⟨Z, Zo, h1.below_ hb, h2.below_ hb, h3, fun j hj => ⟨(h4 j hj).1, Nat.lt_of_lt_of_le (h4 j hj).2 hb.size⟩, h5.below hb, h6, h7, Nat.lt_of_lt_of_le h8 hb.size⟩
theorem Bo.turnA {w' : World} {Z Zo : Nat → Prop} {v : Value} {x : Ending} {ba' : List (List UInt8)} {ea' M : Nat} (h2 : Sd w wr Zo go_ gdo 0 8 bo eo N) (h3 : ∀ j, Z j → ¬ Zo j) (h4 : ∀ j, Z j → w.heap.size ≤ j ∧ j < wr.heap.size) (h5 : Rd wr (some ⟨G, 0, none⟩) nn tt) (h6 : ¬ Z G) (h7 : ¬ Zo G) (h8 : G < wr.heap.size) (hM : N ≤ M) (hq : TwTo v w Z gd ga 0 8 gb 8 8 ba' ea' M wr x w') :
    x = .returned v ∧ Bo w w' gd ga gb go_ gdo ba' ea' bo eo M G nn tt := by
  obtain ⟨rfl, Z', q1, q2, q3, q4⟩ := hq
  have hol := h2.lt
  refine ⟨rfl, Z', Zo, q1, sd_mono (h2.beside q2 (fun j hz hv => h3 j hv hz) (fun j hj => (h4 j hj).1)) hM, fun j hz ho => ?_, fun j hj => ⟨?_, q4 j hj⟩, rdb_out h5 q2 (fun a ha => by injection ha with ha; subst ha; exact h6), fun hz => ?_, h7, Nat.lt_of_lt_of_le h8 q2.size⟩
  · rcases q3 j hz with r | r
    · exact h3 j r ho
    · have := hol j ho; omega
  · rcases q3 j hj with r | r
    · exact (h4 j r).1
    · exact Nat.le_trans h2.below.size r
  · rcases q3 G hz with r | r
    · exact h6 r
    · omega
theorem Bo.turnO {w' : World} {Z Zo : Nat → Prop} {v : Value} {x : Ending} {bo' : List (List UInt8)} {eo' M : Nat} (h1 : Tw w wr Z gd ga 0 8 gb 8 8 ba ea N) (h2 : Sd w wr Zo go_ gdo 0 8 bo eo N) (h3 : ∀ j, Z j → ¬ Zo j) (h4 : ∀ j, Z j → w.heap.size ≤ j ∧ j < wr.heap.size) (h5 : Rd wr (some ⟨G, 0, none⟩) nn tt) (h6 : ¬ Z G) (h7 : ¬ Zo G) (h8 : G < wr.heap.size) (hM : N ≤ M) (hq : SdTo v w Zo go_ gdo 0 8 bo' eo' M wr x w') :
    x = .returned v ∧ Bo w w' gd ga gb go_ gdo ba ea bo' eo' M G nn tt := by
  obtain ⟨rfl, Zo', q1, q2, q3⟩ := hq
  refine ⟨rfl, Z, Zo', tw_mono (h1.beside q2 (fun j hz hv => h3 j hz hv) (h2.own)) hM, q1, fun j hz ho => ?_, fun j hj => ⟨(h4 j hj).1, Nat.lt_of_lt_of_le (h4 j hj).2 q2.size⟩, rdb_out h5 q2 (fun a ha => by injection ha with ha; subst ha; exact h7), h6, fun hz => ?_, Nat.lt_of_lt_of_le h8 q2.size⟩
  · rcases q3 j ho with r | r
    · exact h3 j hz r
    · have := (h4 j hz).2; omega
  · rcases q3 G hz with r | r
    · exact h7 r
    · omega
theorem Bo.other (h : Bo w wr gd ga gb go_ gdo ba ea bo eo N G nn tt) (hN : N + 2 < 65536) (hn : nn ≤ 3000000) : Calls Try.prog 13 #[.pointer (some ⟨gb, 0, none⟩), .slice (some ⟨G, 0, none⟩) nn nn] wr fun x w' => ∃ z, x = .returned (.int .i64 z) ∧ Bo w w' gd ga gb go_ gdo ba ea bo eo (N + 2) G nn tt := by
  obtain ⟨Z, Zo, h1, h2, h3, h4, h5, h6, h7, h8⟩ := h
  refine (h1.other hN _ nn nn tt h5 (fun a ha => by injection ha with ha; subst ha; exact h6) (Nat.le_refl _) hn).mono ?_
  rintro x w' ⟨z, hq⟩
  exact ⟨z, Bo.turnA h2 h3 h4 h5 h6 h7 h8 (by omega) hq⟩
theorem Bo.otherReset (h : Bo w wr gd ga gb go_ gdo ba ea bo eo N G nn tt) (hN : N + 2 < 65536) : Calls Try.prog 16 #[.pointer (some ⟨gb, 0, none⟩)] wr fun x w' => x = .returned (.int .i64 0) ∧ Bo w w' gd ga gb go_ gdo ba ea bo eo (N + 2) G nn tt := by
  obtain ⟨Z, Zo, h1, h2, h3, h4, h5, h6, h7, h8⟩ := h
  exact (h1.otherReset hN).mono fun x w' hq => Bo.turnA h2 h3 h4 h5 h6 h7 h8 (by omega) hq
theorem Bo.resetA (h : Bo w wr gd ga gb go_ gdo ba ea bo eo N G nn tt) (hN : N + 2 < 65536) : Calls Try.prog 16 #[.pointer (some ⟨ga, 0, none⟩)] wr fun x w' => x = .returned (.int .i64 0) ∧ Bo w w' gd ga gb go_ gdo [] 1 bo eo (N + 2) G nn tt := by
  obtain ⟨Z, Zo, h1, h2, h3, h4, h5, h6, h7, h8⟩ := h
  exact (h1.reset hN).mono fun x w' hq => Bo.turnA h2 h3 h4 h5 h6 h7 h8 (by omega) hq
theorem Bo.resetO (h : Bo w wr gd ga gb go_ gdo ba ea bo eo N G nn tt) (hN : N + 2 < 65536) : Calls Try.prog 16 #[.pointer (some ⟨go_, 0, none⟩)] wr fun x w' => x = .returned (.int .i64 0) ∧ Bo w w' gd ga gb go_ gdo ba ea [] 1 (N + 1) G nn tt := by
  obtain ⟨Z, Zo, h1, h2, h3, h4, h5, h6, h7, h8⟩ := h
  exact (h2.reset hN).mono fun x w' hq => Bo.turnO h1 h2 h3 h4 h5 h6 h7 h8 (by omega) hq
theorem Bo.commitA (h : Bo w wr gd ga gb go_ gdo ba ea bo eo N G nn tt) (hN : N + 2 < 65536) (hn : nn ≤ 3000000) (hroom : ea + manyOf nn ≤ 8) : Calls Try.prog 13 #[.pointer (some ⟨ga, 0, none⟩), .slice (some ⟨G, 0, none⟩) nn nn] wr fun x w' => x = .returned (.int .i64 0) ∧ Bo w w' gd ga gb go_ gdo (ba ++ [tt]) (ea + manyOf nn) bo eo (N + 2) G nn tt := by
  obtain ⟨Z, Zo, h1, h2, h3, h4, h5, h6, h7, h8⟩ := h
  exact (h1.commit hN _ nn nn tt h5 (fun a ha => by injection ha with ha; subst ha; exact h6) (Nat.le_refl _) hn hroom).mono fun x w' hq => Bo.turnA h2 h3 h4 h5 h6 h7 h8 (by omega) hq
theorem Bo.fullA (h : Bo w wr gd ga gb go_ gdo ba ea bo eo N G nn tt) (hN : N + 2 < 65536) (hn : nn ≤ 3000000) (hroom : 8 < ea + manyOf nn) : Calls Try.prog 13 #[.pointer (some ⟨ga, 0, none⟩), .slice (some ⟨G, 0, none⟩) nn nn] wr fun x w' => x = .returned (.int .i64 4) ∧ Bo w w' gd ga gb go_ gdo ba ea bo eo (N + 2) G nn tt := by
  obtain ⟨Z, Zo, h1, h2, h3, h4, h5, h6, h7, h8⟩ := h
  exact (h1.full hN _ nn nn tt h5 (fun a ha => by injection ha with ha; subst ha; exact h6) (Nat.le_refl _) hn hroom).mono fun x w' hq => Bo.turnA h2 h3 h4 h5 h6 h7 h8 (by omega) hq
theorem Bo.commitO (h : Bo w wr gd ga gb go_ gdo ba ea bo eo N G nn tt) (hN : N + 2 < 65536) (hn : nn ≤ 3000000) (hroom : eo + manyOf nn ≤ 8) : Calls Try.prog 13 #[.pointer (some ⟨go_, 0, none⟩), .slice (some ⟨G, 0, none⟩) nn nn] wr fun x w' => x = .returned (.int .i64 0) ∧ Bo w w' gd ga gb go_ gdo ba ea (bo ++ [tt]) (eo + manyOf nn) (N + 2) G nn tt := by
  obtain ⟨Z, Zo, h1, h2, h3, h4, h5, h6, h7, h8⟩ := h
  exact (h2.commit hN _ nn nn tt h5 (fun a ha => by injection ha with ha; subst ha; exact h7) (Nat.le_refl _) hn hroom).mono fun x w' hq => Bo.turnO h1 h2 h3 h4 h5 h6 h7 h8 (by omega) hq
theorem Bo.fullO (h : Bo w wr gd ga gb go_ gdo ba ea bo eo N G nn tt) (hroom : 8 < eo + manyOf nn) : Calls Try.prog 13 #[.pointer (some ⟨go_, 0, none⟩), .slice (some ⟨G, 0, none⟩) nn nn] wr fun x w' => x = .returned (.int .i64 4) ∧ Bo w w' gd ga gb go_ gdo ba ea bo eo N G nn tt := by
  have h0 := h
  obtain ⟨Z, Zo, h1, h2, h3, h4, h5, h6, h7, h8⟩ := h
  exact (h2.full _ nn nn hroom).mono fun x w' ⟨e, hb⟩ => ⟨e, h0.below_ hb⟩
theorem Bo.roomA (h : Bo w wr gd ga gb go_ gdo ba ea bo eo N G nn tt) : Calls Try.prog 23 #[.pointer (some ⟨ga, 0, none⟩)] wr fun x w' => x = .returned (.int .i64 ((480 * (8 - ea) : Nat) : Int)) ∧ Bo w w' gd ga gb go_ gdo ba ea bo eo N G nn tt := by
  have h0 := h
  obtain ⟨Z, Zo, h1, h2, h3, h4, h5, h6, h7, h8⟩ := h
  exact h1.room.mono fun x w' ⟨e, hb⟩ => ⟨e, h0.below_ hb⟩
theorem Bo.roomO (h : Bo w wr gd ga gb go_ gdo ba ea bo eo N G nn tt) : Calls Try.prog 23 #[.pointer (some ⟨go_, 0, none⟩)] wr fun x w' => x = .returned (.int .i64 ((480 * (8 - eo) : Nat) : Int)) ∧ Bo w w' gd ga gb go_ gdo ba ea bo eo N G nn tt := by
  have h0 := h
  obtain ⟨Z, Zo, h1, h2, h3, h4, h5, h6, h7, h8⟩ := h
  exact h2.room.mono fun x w' ⟨e, hb⟩ => ⟨e, h0.below_ hb⟩
theorem Bo.batchesA (h : Bo w wr gd ga gb go_ gdo ba ea bo eo N G nn tt) : Calls Try.prog 26 #[.pointer (some ⟨ga, 0, none⟩)] wr (BatPost ba wr) := by
  obtain ⟨Z, Zo, h1, h2, h3, h4, h5, h6, h7, h8⟩ := h
  exact h1.batches
theorem Bo.batchesO (h : Bo w wr gd ga gb go_ gdo ba ea bo eo N G nn tt) : Calls Try.prog 26 #[.pointer (some ⟨go_, 0, none⟩)] wr (BatPost bo wr) := by
  obtain ⟨Z, Zo, h1, h2, h3, h4, h5, h6, h7, h8⟩ := h
  exact h2.batches
theorem Bo.many (h : Bo w wr gd ga gb go_ gdo ba ea bo eo N G nn tt) : ba.length ≤ 4096 ∧ 1 ≤ ea ∧ ea ≤ 8 := by
  obtain ⟨Z, Zo, h1, h2, h3, h4, h5, h6, h7, h8⟩ := h
  exact h1.many
end
/-- Between two rounds. -/
def RelPt (w : World) (gd ga gb go gdo m : Nat) (i : Value) (wr : World) : Prop :=
  ∃ (k : Nat) (Z Zo : Nat → Prop) (bs : List (List UInt8)) (e : Nat), k ≤ m ∧ i = .int .i64 (k : Int) ∧ Tw w wr Z gd ga 0 8 gb 8 8 bs e (4 * k) ∧ Sd w wr Zo go gdo 0 8 bs e (4 * k) ∧ (∀ j, Z j → ¬ Zo j) ∧ ∀ j, Z j → w.heap.size ≤ j ∧ j < wr.heap.size
theorem Bo.rel {w wr : World} {gd ga gb go_ gdo m k : Nat} {bs : List (List UInt8)} {e N G nn : Nat} {tt : List UInt8} (h : Bo w wr gd ga gb go_ gdo bs e bs e N G nn tt) (hk : k + 1 ≤ m) (hN : N ≤ 4 * (k + 1)) : RelPt w gd ga gb go_ gdo m (.int .i64 ((k : Int) + 1)) wr := by
  obtain ⟨Z, Zo, h1, h2, h3, h4, h5, h6, h7, h8⟩ := h
  exact ⟨k + 1, Z, Zo, bs, e, hk, rfl, tw_mono h1 hN, sd_mono h2 hN, h3, h4⟩
set_option maxRecDepth 100000 in
set_option maxHeartbeats 8000000 in
theorem walk (A : Option Addr) (m c : Nat) (xs : List Try1) (q : Nat) (w : World) (hxs : TryS w A m xs) (hm : m ≤ maxLen) : Calls Try.prog 6 #[.slice A m c, .int .u32 (q : Int)] w fun e w' => e = .returned (.bool true) ∧ Below w.heap.size w w' := by
  have hm2 : m < 9223372036854775808 := by unfold maxLen at hm; omega
  by_cases hbig : 30 < m
  · have q1 : (30 < m) = True := eq_true hbig
    clear hxs hm
    go_enter Try.func6, Try.ntmps6
    go_wp2_with fail
    refine (wakes_any w).mono ?_
    rintro e w1 ⟨rfl, hb⟩
    have HB := Lib.hid hb
    clear hb
    go_wp2_with fail
    go_ret
    exact ⟨rfl, HB.out⟩
  have q1 : (30 < m) = False := eq_false hbig
  have hm30 : m ≤ 30 := by omega
  have HX := Lib.hid hxs
  clear hxs hm hbig hm2
  go_enter Try.func6, Try.ntmps6
  go_wp2_with fail
  refine (new_st 16 w w (by decide) (by decide) (Below.refl _ _)).mono ?_
  rintro e w1 ⟨gd, X, rfl, hs, -, -⟩
  have HS := Lib.hid hs
  clear hs
  go_wp2_with fail
  refine (open16 0 (by decide) HS.out.at_).mono ?_
  rintro e w2 ⟨ga, Ya, rfl, ha, hYa, hb⟩
  have HS2 := Lib.hid (HS.out.below_ hb)
  have HA := Lib.hid ha
  have HYa : Hid (∀ k, Ya k → w1.heap.size ≤ k) := hYa
  clear ha hYa hb
  go_wp2_with fail
  refine (open16 8 (by decide) HS2.out.at_).mono ?_
  rintro e w3 ⟨gb, Yb, rfl, hb', hYb, hb⟩
  have HTW : Hid (Tw w w3 (fun k => X k ∨ Ya k ∨ Yb k) gd ga 0 8 gb 8 8 [] 1 0) := by
    have hX1 := HS.out.at_.lt
    have hA1 := HA.out.lt
    have hs12 := HS2.out.below.size
    have hXl2 := HS2.out.at_.lt
    refine ⟨DK.new 16, ⟨false, [], 1, 0, false⟩, ⟨false, [], 1, 0, false⟩, X, Ya, Yb, ⟨HS2.out.at_.below hb, HA.out.below hb, hb', fun k hx hy => ?_, fun k hx hy => ?_, fun k hx hy => ?_, kl16 0 (by decide), kl16 8 (by decide), show (-1 : Int) < 0 by decide, HS2.out.below.trans (hb.mono HS2.out.below.size), fun k hk => ?_, .inl (by decide)⟩, rfl, rfl, Nat.le_refl _, Nat.le_refl _, fun k hk => hk⟩
    · have := hX1 k hx; have := HYa.out k hy; omega
    · have := hXl2 k hx; have := hYb k hy; omega
    · have := hA1 k hx; have := hYb k hy; omega
    · rcases hk with r | r | r
      · exact HS.out.own k r
      · exact Nat.le_trans HS.out.below.size (HYa.out k r)
      · exact Nat.le_trans hs12 (hYb k r)
  have HLT : Hid (∀ k, (fun k => X k ∨ Ya k ∨ Yb k) k → w.heap.size ≤ k ∧ k < w3.heap.size) := fun k hk => by
    rcases hk with r | r | r
    · exact ⟨HS.out.own k r, Nat.lt_of_lt_of_le (HS2.out.at_.lt k r) hb.size⟩
    · exact ⟨Nat.le_trans HS.out.below.size (HYa.out k r), Nat.lt_of_lt_of_le (HA.out.lt k r) hb.size⟩
    · exact ⟨Nat.le_trans HS2.out.below.size (hYb k r), hb'.lt k r⟩
  generalize (fun k => X k ∨ Ya k ∨ Yb k) = Z at *
  clear hb' hYb hb HS HS2 HA HYa
  go_wp2_with fail
  refine (made_any 8 (by decide) (by decide) w w3 HTW.out.below).mono ?_
  intro e w4 hmd
  obtain ⟨go_, gdo, Zo, rfl, hs, hb, hZ⟩ := hmd.sd (by decide) (by decide)
  have HO := Lib.hid hs
  have HT := Lib.hid (HTW.out.below_ hb)
  have HD : Hid (∀ j, Z j → ¬ Zo j) := fun j h1 h2 => by have := (HLT.out j h1).2; have := hZ j h2; omega
  have HL4 : Hid (∀ j, Z j → w.heap.size ≤ j ∧ j < w4.heap.size) := fun j hj => ⟨(HLT.out j hj).1, Nat.lt_of_lt_of_le (HLT.out j hj).2 hb.size⟩
  clear hs hb hZ hmd HTW HLT
  go_wp2_with fail
  go_loopw [13] (fun i wr => RelPt w gd ga gb go_ gdo m i wr) (fun i _ => m - (intOf i).toNat)
  case atStart => exact ⟨0, Z, Zo, [], 1, by omega, rfl, HT.out, HO.out, HD.out, HL4.out⟩
  case round =>
    clear HT HO HD HL4
    obtain ⟨k, Z1, Zo1, bs, e0, hk, rfl, ht, ho, hd, hl⟩ := hrel
    have HT := Lib.hid ht
    have HO := Lib.hid ho
    have HD := Lib.hid hd
    have HL := Lib.hid hl
    clear ht ho hd hl
    by_cases hlt : k < m
    · obtain ⟨bb, oo, hA1, hn1, hf1, hc⟩ := HX.out.cells k (by have := HX.out.len; omega)
      subst hA1
      obtain ⟨y, hy⟩ : ∃ y, y = xs[k]'(by have := HX.out.len; omega) := ⟨_, rfl⟩
      rw [← hy] at hn1 hc
      have c0 := hc 0 _ rfl
      have c1 := hc 1 _ rfl
      have c2 := hc 2 _ rfl
      have HCB := Lib.hid (fun W => bytes_any 0 y.b y.n 0 W hn1)
      have KW : Hid (∀ W, Below w.heap.size w W → W.cell? ⟨bb, oo + k * 4 + 1, none⟩ = some (.int .u8 (y.b.toNat : Int)) ∧ W.cell? ⟨bb, oo + k * 4 + 2, none⟩ = some (.int .u16 (y.n : Int))) := fun W hW => ⟨(hW.cell (World.block_lt_of_cell? w _ c1)).trans c1, (hW.cell (World.block_lt_of_cell? w _ c2)).trans c2⟩
      have HC0 : Hid (∀ W, Below w.heap.size w W → W.cell? ⟨bb, oo + k * 4, none⟩ = some (.bool y.reset)) := fun W hW => (hW.cell (World.block_lt_of_cell? w _ c0)).trans c0
      have BD : Hid (Below wr.heap.size wr wr.drew) := (Below.refl _ _).drew
      have BD0 : Hid (Below w.heap.size w wr.drew) := HT.out.below.trans (BD.out.mono HT.out.below.size)
      clear c0 c1 c2 hc hy hf1 hn1
      go_wp2_with fail
      go_region_held (fun w' => w'.cell? ⟨bb, oo + k * 4 + 1, none⟩ = some (.int .u8 (y.b.toNat : Int)) ∧ w'.cell? ⟨bb, oo + k * 4 + 2, none⟩ = some (.int .u16 (y.n : Int)))
        (first | exact KW.out _ BD0.out | exact KW.out _ BE0.out)
        (first
          | (go_at_call 14; refine (HCB.out _).mono ?_; rintro e we ⟨G, rfl, hrd, hG1, hG2, hbe⟩; have BE : Hid (Below wr.heap.size wr we) := BD.out.trans hbe; have BE0 : Hid (Below w.heap.size w we) := HT.out.below.trans (BE.out.mono HT.out.below.size); have HG2 : Hid (G < we.heap.size) := hG2; have HRD := Lib.hid hrd; have HG1 : Hid (wr.heap.size ≤ G) := hG1; clear hrd hG1 hG2 hbe)
          | fail)
      obtain ⟨nn, hnn⟩ : ∃ nn, nn = y.n % 3000 := ⟨_, rfl⟩
      have hnl : nn < 3000 := by omega
      rw [← hnn] at HRD ⊢
      have HBO : Hid (Bo w we gd ga gb go_ gdo bs e0 bs e0 (4 * k) G nn (actBytes y.b nn)) := by
        refine ⟨Z1, Zo1, HT.out.below_ BE.out, HO.out.below_ BE.out, HD.out, fun j hj => ⟨(HL.out j hj).1, Nat.lt_of_lt_of_le (HL.out j hj).2 BE.out.size⟩, HRD.out, fun hz => ?_, fun hz => ?_, HG2.out⟩
        · have h1 := (HL.out _ hz).2
          have := HG1.out
          omega
        · have h1 := HO.out.lt _ hz
          have := HG1.out
          omega
      have c0 := HC0.out we BE0.out
      have hk30 : k ≤ 30 := by omega
      clear hnn KW BD BD0 BE BE0 HG1 HG2 HT HO HL HD HCB HRD
      generalize actBytes y.b nn = tt at *
      go_wp2_with fail
      · refine (HBO.out.other (by omega) (by omega)).mono ?_
        rintro e5 w5 ⟨z5, rfl, hbo⟩
        have HB5 := Lib.hid hbo
        have c5 := HC0.out w5 HB5.out.below
        clear hbo HBO c0
        cases hrs : y.reset with
        | true =>
          rw [hrs] at c5
          have HRS := Lib.hid hrs
          clear hrs HC0
          go_wp2_with fail
          refine (HB5.out.otherReset (by omega)).mono ?_
          rintro e6 w6 ⟨rfl, hbo⟩
          have HB6 := Lib.hid hbo
          clear hbo HB5 c5
          go_wp2_with fail
          exact ⟨HB6.out.rel (by omega) (by omega), by simp [intOf]; omega⟩
        | false =>
          rw [hrs] at c5
          have HRS := Lib.hid hrs
          clear hrs HC0
          go_wp2_with fail
          exact ⟨HB5.out.rel (by omega) (by omega), by simp [intOf]; omega⟩
      · refine (HBO.out.resetA (by omega)).mono ?_
        rintro e5 w5 ⟨rfl, hbo⟩
        have HB5 := Lib.hid hbo
        clear hbo HBO c0
        go_wp2_with fail
        refine (HB5.out.resetO (by omega)).mono ?_
        rintro e6 w6 ⟨rfl, hbo⟩
        have HB6 := Lib.hid hbo
        clear hbo HB5
        generalize ([] : List (List UInt8)) = bs2 at *
        go_wp2_with fail
        refine HB6.out.roomA.mono ?_
        rintro e7 w7 ⟨rfl, hbo⟩
        have HB7 := Lib.hid hbo
        clear hbo HB6
        go_wp2_with fail
        refine HB7.out.roomO.mono ?_
        rintro e8 w8 ⟨rfl, hbo⟩
        have HB8 := Lib.hid hbo
        clear hbo HB7
        go_wp2_with fail
        refine HB8.out.batchesA.mono ?_
        rintro e9 w9 ⟨A9, c9, vs9, rfl, hown, hfr, hb⟩
        have HB9 := Lib.hid (HB8.out.below_ hb)
        have HTX := Lib.hid (texts_any hown hfr (by have := HB9.out.many.1; omega))
        clear hown hfr hb HB8
        go_wp2_with fail
        refine HTX.out.mono ?_
        rintro e10 w10 ⟨A10, c10, rfl, hown, hb⟩
        have HB10 := Lib.hid (HB9.out.below_ hb)
        have HR10 := Lib.hid (RdV.of_own hown).1
        clear hown hb HB9 HTX
        go_wp2_with fail
        refine HB10.out.batchesO.mono ?_
        rintro e11 w11 ⟨A11, c11, vs11, rfl, hown, hfr, hb⟩
        have HB11 := Lib.hid (HB10.out.below_ hb)
        have HR11 := Lib.hid (HR10.out.below hb)
        have HTX := Lib.hid (texts_any hown hfr (by have := HB11.out.many.1; omega))
        clear hown hfr hb HB10 HR10
        go_wp2_with fail
        refine HTX.out.mono ?_
        rintro e12 w12 ⟨A12, c12, rfl, hown, hb⟩
        have HB12 := Lib.hid (HB11.out.below_ hb)
        have HEQ := Lib.hid (equal_any (c := c10) (d := c12) (HR11.out.below hb) (RdV.of_own hown).1 (by have := HB12.out.many.1; omega) (by have := HB12.out.many.1; omega))
        clear hown hb HB11 HTX HR11
        go_wp2_with fail
        refine HEQ.out.mono ?_
        rintro e13 w13 ⟨rfl, hb⟩
        have HB13 := Lib.hid (HB12.out.below_ hb)
        clear hb HB12 HEQ
        go_wp2_with fail
        exact ⟨HB13.out.rel (by omega) (by omega), by simp [intOf]; omega⟩
      · by_cases hroom : e0 + manyOf nn ≤ 8
        · refine (HBO.out.commitA (by omega) (by omega) hroom).mono ?_
          rintro e5 w5 ⟨rfl, hbo⟩
          have HB5 := Lib.hid hbo
          clear hbo HBO c0
          go_wp2_with fail
          refine (HB5.out.commitO (by omega) (by omega) hroom).mono ?_
          rintro e6 w6 ⟨rfl, hbo⟩
          have HB6 := Lib.hid hbo
          clear hbo HB5
          generalize bs ++ [tt] = bs2 at *
          generalize e0 + manyOf nn = e2 at *
          go_wp2_with fail
          refine HB6.out.roomA.mono ?_
          rintro e7 w7 ⟨rfl, hbo⟩
          have HB7 := Lib.hid hbo
          clear hbo HB6
          go_wp2_with fail
          refine HB7.out.roomO.mono ?_
          rintro e8 w8 ⟨rfl, hbo⟩
          have HB8 := Lib.hid hbo
          clear hbo HB7
          go_wp2_with fail
          refine HB8.out.batchesA.mono ?_
          rintro e9 w9 ⟨A9, c9, vs9, rfl, hown, hfr, hb⟩
          have HB9 := Lib.hid (HB8.out.below_ hb)
          have HTX := Lib.hid (texts_any hown hfr (by have := HB9.out.many.1; omega))
          clear hown hfr hb HB8
          go_wp2_with fail
          refine HTX.out.mono ?_
          rintro e10 w10 ⟨A10, c10, rfl, hown, hb⟩
          have HB10 := Lib.hid (HB9.out.below_ hb)
          have HR10 := Lib.hid (RdV.of_own hown).1
          clear hown hb HB9 HTX
          go_wp2_with fail
          refine HB10.out.batchesO.mono ?_
          rintro e11 w11 ⟨A11, c11, vs11, rfl, hown, hfr, hb⟩
          have HB11 := Lib.hid (HB10.out.below_ hb)
          have HR11 := Lib.hid (HR10.out.below hb)
          have HTX := Lib.hid (texts_any hown hfr (by have := HB11.out.many.1; omega))
          clear hown hfr hb HB10 HR10
          go_wp2_with fail
          refine HTX.out.mono ?_
          rintro e12 w12 ⟨A12, c12, rfl, hown, hb⟩
          have HB12 := Lib.hid (HB11.out.below_ hb)
          have HEQ := Lib.hid (equal_any (c := c10) (d := c12) (HR11.out.below hb) (RdV.of_own hown).1 (by have := HB12.out.many.1; omega) (by have := HB12.out.many.1; omega))
          clear hown hb HB11 HTX HR11
          go_wp2_with fail
          refine HEQ.out.mono ?_
          rintro e13 w13 ⟨rfl, hb⟩
          have HB13 := Lib.hid (HB12.out.below_ hb)
          clear hb HB12 HEQ
          go_wp2_with fail
          exact ⟨HB13.out.rel (by omega) (by omega), by simp [intOf]; omega⟩
        · refine (HBO.out.fullA (by omega) (by omega) (by omega)).mono ?_
          rintro e5 w5 ⟨rfl, hbo⟩
          have HB5 := Lib.hid hbo
          clear hbo HBO c0
          go_wp2_with fail
          refine (HB5.out.fullO (by omega)).mono ?_
          rintro e6 w6 ⟨rfl, hbo⟩
          have HB6 := Lib.hid hbo
          clear hbo HB5
          go_wp2_with fail
          refine HB6.out.roomA.mono ?_
          rintro e7 w7 ⟨rfl, hbo⟩
          have HB7 := Lib.hid hbo
          clear hbo HB6
          go_wp2_with fail
          refine HB7.out.roomO.mono ?_
          rintro e8 w8 ⟨rfl, hbo⟩
          have HB8 := Lib.hid hbo
          clear hbo HB7
          go_wp2_with fail
          refine HB8.out.batchesA.mono ?_
          rintro e9 w9 ⟨A9, c9, vs9, rfl, hown, hfr, hb⟩
          have HB9 := Lib.hid (HB8.out.below_ hb)
          have HTX := Lib.hid (texts_any hown hfr (by have := HB9.out.many.1; omega))
          clear hown hfr hb HB8
          go_wp2_with fail
          refine HTX.out.mono ?_
          rintro e10 w10 ⟨A10, c10, rfl, hown, hb⟩
          have HB10 := Lib.hid (HB9.out.below_ hb)
          have HR10 := Lib.hid (RdV.of_own hown).1
          clear hown hb HB9 HTX
          go_wp2_with fail
          refine HB10.out.batchesO.mono ?_
          rintro e11 w11 ⟨A11, c11, vs11, rfl, hown, hfr, hb⟩
          have HB11 := Lib.hid (HB10.out.below_ hb)
          have HR11 := Lib.hid (HR10.out.below hb)
          have HTX := Lib.hid (texts_any hown hfr (by have := HB11.out.many.1; omega))
          clear hown hfr hb HB10 HR10
          go_wp2_with fail
          refine HTX.out.mono ?_
          rintro e12 w12 ⟨A12, c12, rfl, hown, hb⟩
          have HB12 := Lib.hid (HB11.out.below_ hb)
          have HEQ := Lib.hid (equal_any (c := c10) (d := c12) (HR11.out.below hb) (RdV.of_own hown).1 (by have := HB12.out.many.1; omega) (by have := HB12.out.many.1; omega))
          clear hown hb HB11 HTX HR11
          go_wp2_with fail
          refine HEQ.out.mono ?_
          rintro e13 w13 ⟨rfl, hb⟩
          have HB13 := Lib.hid (HB12.out.below_ hb)
          clear hb HB12 HEQ
          go_wp2_with fail
          exact ⟨HB13.out.rel (by omega) (by omega), by simp [intOf]; omega⟩
    · obtain rfl : k = m := by omega
      have HMN := Lib.hid HT.out.many
      go_wp2_with fail
      refine (openA HT.out (by omega)).mono ?_
      rintro e5 w5 ⟨g5, rfl, hb, hbat⟩
      have HOB := Lib.hid (HO.out.below_ hb)
      have HBT := Lib.hid hbat
      clear hb hbat HT HO HD HL
      go_wp2_with fail
      refine HBT.out.mono ?_
      rintro e9 w9 ⟨A9, c9, vs9, rfl, hown, hfr, hb⟩
      have HO9 := Lib.hid (HOB.out.below_ hb)
      have HTX := Lib.hid (texts_any hown hfr (by have := HMN.out.1; omega))
      clear hown hfr hb HOB HBT
      go_wp2_with fail
      refine HTX.out.mono ?_
      rintro e10 w10 ⟨A10, c10, rfl, hown, hb⟩
      have HO10 := Lib.hid (HO9.out.below_ hb)
      have HR10 := Lib.hid (RdV.of_own hown).1
      clear hown hb HO9 HTX
      go_wp2_with fail
      refine HO10.out.batches.mono ?_
      rintro e11 w11 ⟨A11, c11, vs11, rfl, hown, hfr, hb⟩
      have HO11 := Lib.hid (HO10.out.below_ hb)
      have HR11 := Lib.hid (HR10.out.below hb)
      have HTX := Lib.hid (texts_any hown hfr (by have := HMN.out.1; omega))
      clear hown hfr hb HO10 HR10
      go_wp2_with fail
      refine HTX.out.mono ?_
      rintro e12 w12 ⟨A12, c12, rfl, hown, hb⟩
      have HO12 := Lib.hid (HO11.out.below_ hb)
      have HEQ := Lib.hid (equal_any (c := c10) (d := c12) (HR11.out.below hb) (RdV.of_own hown).1 (by have := HMN.out.1; omega) (by have := HMN.out.1; omega))
      clear hown hb HO11 HTX HR11
      go_wp2_with fail
      refine HEQ.out.mono ?_
      rintro e13 w13 ⟨rfl, hb⟩
      have HB13 := Lib.hid (HO12.out.below_ hb).below
      clear hb HO12 HEQ
      go_wp2_with fail
      refine (wakes_any w13).mono ?_
      rintro e14 w14 ⟨rfl, hb⟩
      have HB14 := Lib.hid (HB13.out.trans (hb.mono HB13.out.size))
      clear hb HB13
      go_wp2_with fail
      go_ret
      exact ⟨rfl, HB14.out⟩

set_option maxRecDepth 100000 in
theorem lifted (os : Os) (started : os.Started) (H : Type) (enc : TypeId × Value → H) :
    ReturnsInHanded {} Try.checked os 6 .any (Rows.logPartsSpec.pre6 enc Try.prog Try.f6 Rows.logPartsRow.domain false) (Rows.logPartsSpec.post enc Try.prog Try.f6 false true false false) := by
  refine returnsInHanded_of_change (C := Try.checked) own started (by kernel_rfl) Try.func6
    (ChangeSpec.witness6 (enc := enc) (C := Try.checked) false ⟨#[], #[.slice none 0 0, .int .u32 0], []⟩ 8 (by kernel_rfl) (by kernel_rfl) (by kernel_rfl) (by kernel_rfl)) ?_
  intro W base args ds gs before hval0 hW hcnd _
  have hval : ∀ (j : Nat) t v, Try.f6.params[j]? = some t → args[j]? = some v → Value.okWide Try.prog W .any base t v := hval0
  have hW' := hW
  obtain ⟨p, q, hA0, hV, rfl, hfz, hnd⟩ := hW
  have hA : DataW.TrodAll enc Try.prog W 0 (fun _ => true) true Try.f6.params.toList args.toList ds p := hA0
  rw [Try.params6] at hA hval
  obtain ⟨v0, v1, d0, d1, p0, p1, rfl, rfl, rfl, h0, h1⟩ := trodAll_two hA
  obtain ⟨rfl, rfl⟩ := trodVars_none hV
  obtain ⟨A, n, c, xs, rfl, hnc, hc, hxs⟩ := arg_tries (hval 0 _ v0 rfl rfl) h0
  obtain ⟨q, rfl, -⟩ := open_u32n ty_u32 (hval 1 _ v1 rfl rfl) h1
  refine (walk A n c xs q W hxs (Nat.le_trans hnc hc)).mono fun e W' ⟨he, hb⟩ => ?_
  subst he
  exact ⟨_, rfl, post_true laidOut (by kernel_rfl) ty_bool (by kernel_rfl) rfl hW' hb rfl⟩

theorem over : Rows.logPartsRow.holds Try.pinned (OpenSpec.ofChange Rows.logPartsSpec) :=
  OpenClaim.holds_of_wide 6 Try.f6 rfl rfl rfl rfl rfl rfl rfl ⟨rfl, rfl, rfl, rfl, rfl⟩ rfl rfl rfl rfl rfl (by kernel_rfl) Try.func6 (by kernel_rfl)
    (of_decide_eq_true (by kernel_rfl)) (by unfold Func.isWrapper; first | (rw [if_pos (by decide +kernel)]; kernel_rfl) | (rw [if_neg (by decide +kernel)]; exact ⟨rfl, rfl⟩))
    (fun os started H enc _ => lifted os started H enc)

theorem proved : Rows.LogPartsSaid :=
  over
end Go.Proofs.Ytikpedkckijioaa.logParts
