/- LogPower: whenever the power goes, and comes again, whatever is left of the disk's row, as often as that is: the records are those that were committed, and perhaps the one that was being committed; of a Reset under way all, or none; nothing else ever comes again: for every number of pages, every row of tries and every row of fates the call returns true, and nothing that was there has turned. No conditions. -/
import Derived.Test.YtikpedkckijioaaLogHelpAll
import Derived.Test.YtikpedkckijioaaLogEmpty
import Derived.Deep.RegionHeldLaw
namespace Go.Proofs.Ytikpedkckijioaa.logPower
open Go.ChangeShapes Go.WideShapes Go.ChangeAt Go.RowKit Disk Log

theorem own_cap {w : World} {base n m d : Nat} {e : TypeId} {B : Option Addr} {xs : List Value} (h : w.ownsRow base e 1 (.slice B n d) m xs) : n ≤ d := by
  rcases h.2 with ⟨h1, h2⟩ | ⟨g, cap, cur, h1, _, _, h2, _⟩
  · injection h1 with _ h1 h3
    omega
  · injection h1 with _ h1 h3
    omega

open PhaseG (wp_region_last run_append_empty StepF StepZ StepT)
open Phase (stepsL_cons stepsL_nil)
theorem wp_append_run {P : Program} {o : Oper} {a : Act} {W W' : World} {K : Act → World → Prop} {Q : Exit → Act → World → Prop} (s x : Operand) (t : TypeId) (ho : o.op = .call { callee := .builtin .append, args := #[s, x], argTypes := #[t, t] }) {v u v' : Value} (hs : a.eval s = v) (hx : a.eval x = u) (hrun : (Builtin.append_ #[t, t] o.type #[v, u]).run P W = .ok v' W') (hK : K (a.put o.dst v') W') : o.wp P a W K Q := by
  unfold Oper.wp execOp
  simp only [ho, resolve, invoke, builtin, Sem.run_bind, Sem.run_pure, Result.andThen_ok, List.map_toArray, List.map_cons, List.map_nil, hs, hx, hrun]
  exact hK
/-- A call of the disk's, from a log of one's own. -/
theorem turned {w0 w w' : World} {Z X Y : Nat → Prop} {g gd f n : Nat} {d d' : DK} {L : LK} {v : Value} {e : Ending} (h : Lw w0 w Z g gd f n d L) (h2 : LgAt w Y g gd (f : Int) n L) (h3 : ∀ k, X k → ¬ Y k) (h4 : ∀ k, X k → Z k) (h5 : ∀ k, Y k → Z k) (ht : Turns v X gd d' w e w') : LwTo v w0 Z g gd f n d' L w e w' := by
  obtain ⟨rfl, X', q1, q2, q3⟩ := ht
  have hX2 : ∀ k, X' k → Z k ∨ w.heap.size ≤ k := fun k hk => (q3 k hk).elim (fun q => .inl (h4 k q)) .inr
  have ho : Out Z w w' := q2.mono fun k hk => .inl (h4 k hk)
  have hXl : ∀ k, X' k → k < w'.heap.size := fun k hk => by obtain ⟨_, _, _, q⟩ := q1; exact q.lt k hk
  have hl' : LgAt w' Y g gd (f : Int) n L := h2.out q2 (fun k hy hx => h3 k hx hy)
  refine ⟨rfl, fun k => X' k ∨ Y k, ⟨⟨X', Y, q1, hl', fun k hx hy => ?_, fun k hk => .inl hk, fun k hk => .inr hk⟩, ho.below h.below h.own h.below.size, fun k hk => ?_, fun k hk => hk.elim (hXl k) (hl'.lt k)⟩, ho, fun k hk => hk.elim (hX2 k) (fun q => .inl (h5 k q))⟩
  · rcases q3 k hx with r | r
    · exact h3 k r hy
    · have := h2.lt k hy; omega
  · rcases hk.elim (hX2 k) (fun q => Or.inl (h5 k q)) with q | q
    · exact h.own k q
    · exact Nat.le_trans h.below.size q
theorem fuse_lw {w0 w : World} {Z : Nat → Prop} {g gd f n : Nat} {d : DK} {L : LK} (h : Lw w0 w Z g gd f n d L) (x : Int) (h1 : -9223372036854775808 ≤ x) (h2 : x ≤ 9223372036854775807) : Calls Try.prog 22 #[.pointer (some ⟨gd, 0, none⟩), .int .i64 x] w (LwTo (.tuple #[]) w0 Z g gd f n (d.fuse x) L w) := by
  obtain ⟨X, Y, q1, q2, q3, q4, q5⟩ := h.at_
  exact (fuse_any q1 x h1 h2).mono fun e w' hd => turned h q2 q3 q4 q5 hd
theorem restart_lw {w0 w : World} {Z : Nat → Prop} {g gd f n : Nat} {d : DK} {L : LK} (h : Lw w0 w Z g gd f n d L) (A : Option Addr) (m c : Nat) (zs : List Int) (hr : RdI w A m zs) (hA : 0 < m → ∀ a, A = some a → ¬ Z a.block) (hm : m ≤ 1000000) (hrow : d.row.length ≤ 1000000) : Calls Try.prog 24 #[.pointer (some ⟨gd, 0, none⟩), .slice A m c] w (LwTo (.tuple #[]) w0 Z g gd f n (d.restart zs) L w) := by
  obtain ⟨X, Y, q1, q2, q3, q4, q5⟩ := h.at_
  exact (restart_any q1 A m c zs hr (fun h0 a ha hx => hA h0 a ha (q4 _ hx)) hm hrow).mono fun e w' hd => turned h q2 q3 q4 q5 hd
theorem kl_fuse {d : DK} {f n : Nat} {L : LK} (h : KL d f n L) (x : Int) (h1 : -9223372036854775808 ≤ x) (h2 : x ≤ 9223372036854775807) : KL (d.fuse x) f n L :=
  ⟨h.up.fuse h1 h2, by rw [now_fuse]; exact h.recs, h.met, by rw [fuse_row]; exact h.row, h.sz⟩
theorem wr_row : ∀ (ls : Pages) (d : DK) (e : Nat), (wr d e ls).2.row.length ≤ d.row.length + ls.length
  | [], d, _ => sync_row d
  | p :: ls, d, e => by
    have h1 := write_row d (e : Int) p
    have h2 := wr_row ls (d.write e p).2 (e + 1)
    rw [wr]
    split
    · rw [List.length_cons]; omega
    · rw [List.length_cons]; omega
theorem commitF_row {d : DK} {f n N : Nat} {b : List UInt8} : (commitF d f n N b).1.2.row.length ≤ d.row.length + 1 + manyOf b.length := by
  have h1 := wr_row (leafs (N + 1) (manyOf b.length) b) d (f + (Recs (Log.part (Log.now d) f n)).2.2)
  have h2 := wr_row (headL (N + 1)) d f
  have h3 := wr_row (leafs (N + 2) (manyOf b.length) b) (wr d f (headL (N + 1))).2 (f + 1)
  rw [leafs_length] at h1 h3
  have h4 : (headL (N + 1)).length = 1 := rfl
  unfold commitF
  split
  · show d.row.length ≤ _
    omega
  · split
    · show d.row.length ≤ _
      omega
    · split
      · show (wr _ _ _).2.row.length ≤ _
        omega
      · split
        · show (wr _ _ _).2.row.length ≤ _
          omega
        · show (wr _ _ _).2.row.length ≤ _
          omega
/-- The log is opened anew behind a loss; the old one knows that it met it. -/
theorem again_lw {w0 w : World} {Z : Nat → Prop} {g gd n N : Nat} {d : DK} {L : LK} {bs : List (List UInt8)} (h : Lw w0 w Z g gd 0 n d L) (hmet : L.met = true) (hs : Stands d 0 n N bs) (hN : N < 65536) (hsz : ∀ b ∈ bs, b.length ≤ 3000000) : Calls Try.prog 11 #[.pointer (some ⟨gd, 0, none⟩), .int .i64 0, .int .i64 (n : Int)] w fun e w' => ∃ g' Z' L', e = .returned (.tuple #[.pointer (some ⟨g', 0, none⟩), .int .i64 0]) ∧ Lw w0 w' Z' g' gd 0 n d L' ∧ KL d 0 n L' ∧ L'.recs = bs ∧ L'.top ≤ N ∧ Below w.heap.size w w' ∧ (∀ k, Z' k → Z k ∨ w.heap.size ≤ k) ∧ Calls Try.prog 13 #[.pointer (some ⟨g, 0, none⟩), .slice none 0 0] w' (Ans (.int .i64 9) w') := by
  obtain ⟨X, Y, q1, q2, q3, q4, q5⟩ := h.at_
  have hnw := newest_le hs.up.low
  refine (open_st (f := 0) (n := n) ⟨q1, h.below, fun k hk => h.own k (q4 k hk)⟩ hs.up.on hs.up.two hs.up.in_ (by rw [hs.row]; exact Nat.zero_le _) (by omega)).mono ?_
  rintro e w' ⟨g', Z', rfl, hl, hb, hz, -⟩
  refine ⟨g', Z', newL d 0 n, rfl, hl, ⟨hs.newest.up, rfl, rfl, hs.row, fun b hbm => hsz b (by rw [← hs.recs]; exact hbm)⟩, hs.recs, hnw, hb, fun k hk => (hz k hk).elim (fun r => .inl (q4 k r)) .inr, ?_⟩
  exact commit_met (q2.below hb) (q1.below hb) hs.up.on hmet _
def RP (w4 : World) (rs : List (List UInt8)) (A1 : Option Addr) (c1 G nn : Nat) (tt : List UInt8) : Nat → Value → World → Prop
  | 0, x, W => ∃ b, x = .slice (some ⟨b, 0, none⟩) 0 0 ∧ w4.heap.size ≤ b ∧ b < W.heap.size ∧ W.heap[b]? = some (.cells #[] 9 (0, 0))
  | 1, x, _ => x = .slice A1 rs.length c1
  | 2, x, W => W.ownsRow w4.heap.size 9 1 x rs.length (sv rs)
  | 3, x, _ => x = .slice (some ⟨G, 0, none⟩) nn nn
  | 4, x, _ => x = .string (S tt)
  | 5, x, W => ∃ b, x = .slice (some ⟨b, 0, none⟩) 1 1 ∧ RdV W (some ⟨b, 0, none⟩) 1 [.string (S tt)]
  | _, _, _ => True
theorem rp_keep {w4 : World} (rs : List (List UInt8)) (A1 : Option Addr) (c1 G nn : Nat) (tt : List UInt8) : ∀ k x W W', RP w4 rs A1 c1 G nn tt k x W → Below w4.heap.size w4 W → Below W.heap.size W W' → RP w4 rs A1 c1 G nn tt k x W' := by
  intro k x W W' h _ hb
  match k, h with
  | 0, ⟨b, h1, h2, h3, h4⟩ => exact ⟨b, h1, h2, Nat.lt_of_lt_of_le h3 hb.size, (hb.block b h3).trans h4⟩
  | 1, h => exact h
  | 2, h => exact World.ownsRow.kept h (grown_of_below hb none) (Classical.em _)
  | 3, h => exact h
  | 4, h => exact h
  | 5, ⟨b, h1, h2⟩ => exact ⟨b, h1, h2.below hb⟩
  | _ + 6, _ => exact trivial
def EP (w4 : World) (rs : List (List UInt8)) (tt : List UInt8) (x : Value) (W : World) : Prop :=
  ∃ A c, x = .slice A (rs.length + 1) c ∧ W.ownsRow w4.heap.size 9 1 (.slice A (rs.length + 1) c) (rs.length + 1) (sv (rs ++ [tt])) ∧ Below w4.heap.size w4 W
/-- Between two rounds: the log, and the texts that were kept. -/
def RelPw (w : World) (gd n m : Nat) (x v i : Value) (wr : World) : Prop :=
  ∃ (k g : Nat) (Z : Nat → Prop) (d : DK) (L : LK) (A : Option Addr) (c : Nat), k ≤ m ∧ i = .int .i64 (k : Int) ∧ x = .pointer (some ⟨g, 0, none⟩) ∧ v = .slice A L.recs.length c ∧ Lw w wr Z g gd 0 n d L ∧ KL d 0 n L ∧ L.top ≤ 300 * k ∧ L.recs.length ≤ c ∧ RdV wr A L.recs.length (sv L.recs) ∧ ∀ a, A = some a → ¬ Z a.block ∧ a.block < wr.heap.size
/-- A log of one's own, and what a round holds beside it: its try, its bytes, the texts kept, the texts next. -/
structure Pw (w W : World) (Z : Nat → Prop) (g gd n : Nat) (d : DK) (L : LK) (BX : Nat) (y : Try1) (G nn : Nat) (tt : List UInt8) (A1 : Option Addr) (ks : List (List UInt8)) (An : Option Addr) (ns : List (List UInt8)) : Prop where
  lw : Lw w W Z g gd 0 n d L
  bk : Bk W BX 54 #[.bool y.reset, .int .u8 (y.b.toNat : Int), .int .u16 (y.n : Int), .int .u8 (y.fuse : Int)]
  rd : Rd W (some ⟨G, 0, none⟩) nn tt
  rk : RdV W A1 ks.length (sv ks)
  rn : RdV W An ns.length (sv ns)
  zb : ¬ Z BX ∧ BX < W.heap.size
  zg : ¬ Z G ∧ G < W.heap.size
  zk : ∀ a, A1 = some a → ¬ Z a.block ∧ a.block < W.heap.size
  zn : ∀ a, An = some a → ¬ Z a.block ∧ a.block < W.heap.size
section
variable {w W : World} {Z : Nat → Prop} {g gd n : Nat} {d : DK} {L : LK} {BX : Nat} {y : Try1} {G nn : Nat} {tt : List UInt8} {A1 : Option Addr} {ks : List (List UInt8)} {An : Option Addr} {ns : List (List UInt8)}
theorem Pw.to {W' : World} {Z' : Nat → Prop} {g' : Nat} {d' : DK} {L' : LK} (h : Pw w W Z g gd n d L BX y G nn tt A1 ks An ns) (hl : Lw w W' Z' g' gd 0 n d' L') (ho : Out Z W W') (hs : ∀ k, Z' k → Z k ∨ W.heap.size ≤ k) : Pw w W' Z' g' gd n d' L' BX y G nn tt A1 ks An ns := by
  have far : ∀ b, ¬ Z b ∧ b < W.heap.size → ¬ Z' b ∧ b < W'.heap.size := fun b hb => ⟨fun hz => (hs b hz).elim hb.1 (fun q => by omega), Nat.lt_of_lt_of_le hb.2 ho.size⟩
  exact ⟨hl, h.bk.kept (ho.block BX h.zb.2 h.zb.1), rdb_out h.rd ho (fun a ha => by injection ha with ha; subst ha; exact h.zg.1), rdv_out h.rk ho (fun a ha => (h.zk a ha).1), rdv_out h.rn ho (fun a ha => (h.zn a ha).1), far _ h.zb, far _ h.zg, fun a ha => far _ (h.zk a ha), fun a ha => far _ (h.zn a ha)⟩
theorem Pw.turn {W' : World} {v : Value} {e : Ending} {d' : DK} {L' : LK} (h : Pw w W Z g gd n d L BX y G nn tt A1 ks An ns) (hq : LwTo v w Z g gd 0 n d' L' W e W') : e = .returned v ∧ ∃ Z', Pw w W' Z' g gd n d' L' BX y G nn tt A1 ks An ns := by
  obtain ⟨rfl, Z', q1, q2, q3⟩ := hq
  exact ⟨rfl, Z', h.to q1 q2 q3⟩
theorem Pw.below_ {W' : World} (h : Pw w W Z g gd n d L BX y G nn tt A1 ks An ns) (hb : Below W.heap.size W W') : Pw w W' Z g gd n d L BX y G nn tt A1 ks An ns :=
  h.to (h.lw.below_ hb) (Out.of_below hb) (fun _ hk => .inl hk)
theorem Pw.none_ (h : Pw w W Z g gd n d L BX y G nn tt A1 ks An ns) : Pw w W Z g gd n d L BX y G nn tt A1 ks none [] :=
  ⟨h.lw, h.bk, h.rd, h.rk, RdV.nil_ _ _, h.zb, h.zg, h.zk, fun a ha => by cases ha⟩
/-- The round's end: what is kept is the old texts, or the next. -/
theorem Pw.relK {m k c : Nat} (h : Pw w W Z g gd n d L BX y G nn tt A1 ks An ns) (hK : KL d 0 n L) (hr : L.recs = ks) (ht : L.top ≤ 300 * (k + 1)) (hk : k + 1 ≤ m) (hc : ks.length ≤ c) : RelPw w gd n m (.pointer (some ⟨g, 0, none⟩)) (.slice A1 ks.length c) (.int .i64 ((k : Int) + 1)) W := by
  subst hr
  exact ⟨k + 1, g, Z, d, L, A1, c, hk, rfl, rfl, rfl, h.lw, hK, ht, hc, h.rk, h.zk⟩
theorem Pw.relN {m k c : Nat} (h : Pw w W Z g gd n d L BX y G nn tt A1 ks An ns) (hK : KL d 0 n L) (hr : L.recs = ns) (ht : L.top ≤ 300 * (k + 1)) (hk : k + 1 ≤ m) (hc : ns.length ≤ c) : RelPw w gd n m (.pointer (some ⟨g, 0, none⟩)) (.slice An ns.length c) (.int .i64 ((k : Int) + 1)) W := by
  subst hr
  exact ⟨k + 1, g, Z, d, L, An, c, hk, rfl, rfl, rfl, h.lw, hK, ht, hc, h.rn, h.zn⟩
end
set_option maxRecDepth 100000 in
set_option maxHeartbeats 8000000 in
theorem walk (a0 : Nat) (A : Option Addr) (m c : Nat) (xs : List Try1) (F : Option Addr) (mF cF : Nat) (zs : List Int) (w : World) (ha : a0 < 256) (hxs : TryS w A m xs) (hm : m ≤ maxLen) (hzs : RdI w F mF zs) (hmF : mF ≤ maxLen) : Calls Try.prog 4 #[.int .u8 (a0 : Int), .slice A m c, .slice F mF cF] w fun e w' => e = .returned (.bool true) ∧ Below w.heap.size w w' := by
  obtain ⟨i0, hi, hz0, hz1, hz2⟩ := infos info_text
  have HI := Lib.hid hi
  have HZ0 := Lib.hid hz0
  have HZ1 := Lib.hid hz1
  have HZ2 := Lib.hid hz2
  clear hi hz0 hz1 hz2
  have hm2 : m < 9223372036854775808 := by unfold maxLen at hm; omega
  have hmF2 : mF < 9223372036854775808 := by unfold maxLen at hmF; omega
  by_cases hbig : 40 < m ∨ 60 < mF
  · have HBG := Lib.hid hbig
    clear hxs hm hzs hmF hbig
    by_cases h1 : 40 < m
    · have q1 : (40 < m) = True := eq_true h1
      go_enter Try.func4, Try.ntmps4
      go_wp2_with fail
      refine (wakes_any w).mono ?_
      rintro e w1 ⟨rfl, hb⟩
      have HB := Lib.hid hb
      clear hb
      go_wp2_with fail
      go_ret
      exact ⟨rfl, HB.out⟩
    · have q1 : (40 < m) = False := eq_false h1
      have h2 : 60 < mF := HBG.out.resolve_left h1
      have q2 : (60 < mF) = True := eq_true h2
      go_enter Try.func4, Try.ntmps4
      go_wp2_with fail
      all_goals first
        | (exfalso; omega)
        | (refine (wakes_any w).mono ?_
           rintro e w1 ⟨rfl, hb⟩
           have HB := Lib.hid hb
           clear hb
           go_wp2_with fail
           go_ret
           exact ⟨rfl, HB.out⟩)
  have q1 : (40 < m) = False := eq_false (by omega)
  have q2 : (60 < mF) = False := eq_false (by omega)
  obtain ⟨n, hn⟩ : ∃ n, n = 2 + a0 % 19 := ⟨_, rfl⟩
  have hn2 : 2 ≤ n := by omega
  have hn20 : n ≤ 20 := by omega
  have hnv : (2 : Int) + (a0 : Int) % 19 = (n : Int) := by omega
  have HX := Lib.hid hxs
  have HF := Lib.hid hzs
  have hm40 : m ≤ 40 := by omega
  have hmF60 : mF ≤ 60 := by omega
  clear hn hxs hm hzs hmF hbig hm2 hmF2
  go_enter Try.func4, Try.ntmps4
  go_wp2_with fail
  refine (made_any n hn2 (by omega) w w (Below.refl _ _)).mono ?_
  rintro e w2 ⟨g, gd, Z, rfl, hl, hb, hZ⟩
  have HL := Lib.hid hl
  clear hl hb hZ hnv
  go_wp2_with fail
  go_loopw [9, 10, 11] (fun x v i wr => RelPw w gd n m x v i wr) (fun _ _ i _ => m - (intOf i).toNat)
  case atStart => exact ⟨0, g, Z, _, _, none, 0, by omega, rfl, rfl, rfl, HL.out, kl_new hn2 (by omega), Nat.zero_le _, Nat.le_refl _, RdV.nil_ _ _, fun a ha => by cases ha⟩
  case round =>
    clear HL
    obtain ⟨k, g1, Z1, d, L, A1, c1, hk, rfl, rfl, rfl, hl, hK, ht, hc1, hr, hA⟩ := hrel
    have HL := Lib.hid hl
    have HK := Lib.hid hK
    have HR := Lib.hid hr
    have HA := Lib.hid hA
    have hrl : L.recs.length ≤ 20 := by have := hK.many; omega
    clear hl hK hr hA
    by_cases hlt : k < m
    · obtain ⟨bb, oo, hA1, hn1, hf1, hc⟩ := HX.out.cells k (by have := HX.out.len; omega)
      subst hA1
      obtain ⟨y, hy⟩ : ∃ y, y = xs[k]'(by have := HX.out.len; omega) := ⟨_, rfl⟩
      rw [← hy] at hn1 hf1 hc
      have hB0 := HL.out.below
      have c0 : wr.cell? ⟨bb, oo + k * 4, none⟩ = some (.bool y.reset) := (hB0.cell (World.block_lt_of_cell? w _ (hc 0 _ rfl))).trans (hc 0 _ rfl)
      have c1' : wr.cell? ⟨bb, oo + k * 4 + 1, none⟩ = some (.int .u8 (y.b.toNat : Int)) := (hB0.cell (World.block_lt_of_cell? w _ (hc 1 _ rfl))).trans (hc 1 _ rfl)
      have c2 : wr.cell? ⟨bb, oo + k * 4 + 2, none⟩ = some (.int .u16 (y.n : Int)) := (hB0.cell (World.block_lt_of_cell? w _ (hc 2 _ rfl))).trans (hc 2 _ rfl)
      have c3 : wr.cell? ⟨bb, oo + k * 4 + 3, none⟩ = some (.int .u8 (y.fuse : Int)) := (hB0.cell (World.block_lt_of_cell? w _ (hc 3 _ rfl))).trans (hc 3 _ rfl)
      have HCB := Lib.hid (fun W => bytes_any 0 y.b y.n 0 W hn1)
      have hb3 : Below wr.heap.size wr (wr.alloc (.cells #[.bool y.reset, .int .u8 (y.b.toNat : Int), .int .u16 (y.n : Int), .int .u8 (y.fuse : Int)] 54)) := (Below.refl _ _).alloc (Nat.le_refl _) _
      have HBX : Hid (Bk (wr.alloc (.cells #[.bool y.reset, .int .u8 (y.b.toNat : Int), .int .u16 (y.n : Int), .int .u8 (y.fuse : Int)] 54)) wr.heap.size 54 #[.bool y.reset, .int .u8 (y.b.toNat : Int), .int .u16 (y.n : Int), .int .u8 (y.fuse : Int)]) := Bk.new wr _ _
      have HB3 := Lib.hid hb3
      clear hc hy hB0 hb3 hn1
      go_wp2_with fail
      refine (HCB.out _).mono ?_
      rintro e w4 ⟨G, rfl, hrd, hG1, hG2, hb4⟩
      generalize wr.alloc (.cells #[.bool y.reset, .int .u8 (y.b.toNat : Int), .int .u16 (y.n : Int), .int .u8 (y.fuse : Int)] 54) = w3 at *
      obtain ⟨nn, hnn⟩ : ∃ nn, nn = y.n % 3000 := ⟨_, rfl⟩
      have hnl : nn < 3000 := by omega
      rw [← hnn] at hrd ⊢
      have HB4 : Hid (Below wr.heap.size wr w4) := HB3.out.trans (hb4.mono HB3.out.size)
      have HBX4 : Hid (Bk w4 wr.heap.size 54 #[.bool y.reset, .int .u8 (y.b.toNat : Int), .int .u16 (y.n : Int), .int .u8 (y.fuse : Int)]) := HBX.out.below hb4
      have HG : Hid (wr.heap.size ≤ G ∧ G < w4.heap.size) := ⟨Nat.le_trans HB3.out.size hG1, hG2⟩
      have HRD := Lib.hid hrd
      have HKR := Lib.hid (HR.out.below HB4.out)
      have HCV : Hid (∀ W, Below w4.heap.size w4 W → (convert 32 9 (.slice (some ⟨G, 0, none⟩) nn nn)).run Try.prog W = .ok (.string (S (actBytes y.b nn))) W) := fun W hW => conv_string (hrd.below hW) nn
      clear hrd hG1 hG2 hb4 c0 c1' c2 c3 HBX HCB HB3 hnn
      generalize actBytes y.b nn = tt at *
      go_wp2_with fail
      refine wp_region_last 6 40 (RP w4 L.recs A1 c1 G nn tt) (EP w4 L.recs tt) (fun _ vz x => x = vz) (by kernel_rfl) (by kernel_rfl) (by kernel_rfl) (by kernel_rfl) (by kernel_rfl) (by decide) (rp_keep (L.recs) A1 c1 G nn tt) ?_ ?_ ?_ (fun v => { tmps := #[Value.int IntKind.u8 (a0 : Int), Value.slice (some ⟨bb, oo, none⟩) m c, Value.slice F mF cF, undef, undef, undef, u6, Value.int IntKind.i64 (n : Int), Value.pointer (some ⟨gd, 0, none⟩), Value.pointer (some ⟨g1, 0, none⟩), Value.slice A1 L.recs.length c1, Value.int IntKind.i64 (k : Int), Value.pointer (some ⟨wr.heap.size, 0, none⟩), Value.slice (some ⟨G, 0, none⟩) nn nn, v 7, u15, u16, u17, u18, Value.slice (some ⟨bb, oo, none⟩) m c, Value.int IntKind.i64 (m : Int), Value.bool (decide ((40 : Int) < (m : Int))), Value.bool (decide ((40 : Int) < (m : Int))), Value.slice F mF cF, Value.int IntKind.i64 (mF : Int), Value.bool (decide ((60 : Int) < (mF : Int))), Value.bool (decide ((40 : Int) < (m : Int)) || decide ((60 : Int) < (mF : Int))), undef, Value.int IntKind.u8 (a0 : Int), Value.int IntKind.i64 (a0 : Int), Value.int IntKind.i64 ((a0 : Int) % 19), Value.int IntKind.i64 (n : Int), Value.tuple #[Value.pointer (some ⟨gd, 0, none⟩), Value.pointer (some ⟨g, 0, none⟩)], Value.int IntKind.i64 (n : Int), Value.tuple #[Value.pointer (some ⟨gd, 0, none⟩), Value.pointer (some ⟨g, 0, none⟩)], Value.pointer (some ⟨gd, 0, none⟩), Value.pointer (some ⟨g, 0, none⟩), Value.pointer (some ⟨g, 0, none⟩), Value.bool false, Value.int IntKind.i64 (k : Int), Value.slice (some ⟨bb, oo, none⟩) m c, Value.int IntKind.i64 (m : Int), Value.bool true, u43, u44, Value.slice (some ⟨bb, oo, none⟩) m c, Value.int IntKind.i64 (k : Int), Value.pointer (some ⟨bb, oo + k * 4, none⟩), Value.agg #[Value.bool y.reset, Value.int IntKind.u8 (y.b.toNat : Int), Value.int IntKind.u16 (y.n : Int), Value.int IntKind.u8 (y.fuse : Int)], Value.pointer (some ⟨wr.heap.size, 1, none⟩), Value.int IntKind.u8 (y.b.toNat : Int), Value.pointer (some ⟨wr.heap.size, 2, none⟩), Value.int IntKind.u16 (y.n : Int), Value.agg #[Value.int IntKind.u8 0, Value.int IntKind.u8 (y.b.toNat : Int), Value.int IntKind.u16 (y.n : Int), Value.int IntKind.i64 0], Value.slice (some ⟨G, 0, none⟩) nn nn, v 0, v 1, v 2, v 3, v 4, v 5, v 6, u62, u63, u64, u65, u66, u67, u68, u69, u70, u71, u72, u73, u74, u75, u76, u77, u78, u79, u80, u81, u82, u83, u84, u85, u86, u87, u88, u89, u90, u91, u92, u93, u94, u95, u96, u97, u98, u99, u100, u101, u102, u103, u104, u105, u106, u107, u108, u109, u110, u111, u112, u113, u114, u115, u116, u117, u118, u119, u120, u121, u122, u123, u124, u125, u126, u127, u128, u129, u130, u131, u132, undef], defers := [] }) (fun v => by kernel_rfl) ?_
      · refine stepsL_cons ?_ (stepsL_cons ?_ (stepsL_cons ?_ (stepsL_cons ?_ (stepsL_cons ?_ (stepsL_cons ?_ stepsL_nil)))))
        · intro a v W hd hb K hK
          have hk := hK (.slice (some ⟨W.heap.size, 0, none⟩) 0 0) (W.alloc (.cells #[] 9)) ((Below.refl _ _).alloc (Nat.le_refl _) _) ⟨W.heap.size, rfl, hb.size, by simp, World.alloc_heap_new W _⟩
          clear hK
          unfold Oper.wp
          go_simp
          exact hk
        · intro a v W hd hb K hK
          have k10 : a.tmps.getD 10 undef = .slice A1 L.recs.length c1 := hd.kept 10 (by kernel_rfl)
          have hk := hK (.slice A1 L.recs.length c1) W (Below.refl _ _) rfl
          clear hK
          unfold Oper.wp
          go_simp
          exact hk
        · intro a v W hd hb K hK
          obtain ⟨h55, b, e0, hb1, hb2, hb3⟩ := hd.done_ 0 _ 55 (by kernel_rfl) rfl rfl
          obtain ⟨h56, r56⟩ := hd.done_ 1 _ 56 (by kernel_rfl) rfl rfl
          have r56 : v 1 = .slice A1 L.recs.length c1 := r56
          rw [e0] at h55
          rw [r56] at h56
          obtain ⟨v', W', hrun, hown, hbw⟩ := run_append_empty (ty := 31) ty_texts HI.out HZ0.out HZ1.out HZ2.out rfl hb3 (c := c1) (HKR.out.below hb) (sv_all _) (by unfold maxLen; omega) (by omega) hb1 hb.size
          exact wp_append_run (.tmp 55) (.tmp 56) 31 rfl h55 h56 hrun (hK v' W' hbw hown)
        · intro a v W hd hb K hK
          have k13 : a.tmps.getD 13 undef = .slice (some ⟨G, 0, none⟩) nn nn := hd.kept 13 (by kernel_rfl)
          have hk := hK (.slice (some ⟨G, 0, none⟩) nn nn) W (Below.refl _ _) rfl
          clear hK
          unfold Oper.wp
          go_simp
          exact hk
        · intro a v W hd hb K hK
          obtain ⟨h58, r58⟩ := hd.done_ 3 _ 58 (by kernel_rfl) rfl rfl
          have r58 : v 3 = .slice (some ⟨G, 0, none⟩) nn nn := r58
          rw [r58] at h58
          have hcv := HCV.out W hb
          have hk := hK (.string (S tt)) W (Below.refl _ _) rfl
          clear hK
          unfold Oper.wp
          go_simp
          first | exact hk | (rw [hcv]; exact hk)
        · intro a v W hd hb K hK
          obtain ⟨h59, r59⟩ := hd.done_ 4 _ 59 (by kernel_rfl) rfl rfl
          have r59 : v 4 = .string (S tt) := r59
          rw [r59] at h59
          have hk := hK (.slice (some ⟨W.heap.size, 0, none⟩) 1 1) (W.alloc (.cells #[.string (S tt)] 9)) ((Below.refl _ _).alloc (Nat.le_refl _) _) ⟨W.heap.size, rfl, rows_lit W 9 [.string (S tt)]⟩
          clear hK
          rw [Array.getD_eq_getD_getElem?] at h59
          unfold Oper.wp
          go_simp
          exact hk
      · intro o ho a v W hd hb K hK
        have ho' : _ = o := Option.some.inj ho
        subst ho'
        obtain ⟨h57, r57⟩ := hd.done_ 2 _ 57 (by kernel_rfl) rfl rfl
        obtain ⟨h60, b, e5, r60⟩ := hd.done_ 5 _ 60 (by kernel_rfl) rfl rfl
        rw [e5] at h60
        have r57 : W.ownsRow w4.heap.size 9 1 (v 2) L.recs.length (sv L.recs) := r57
        obtain ⟨v', W', hrun, hown, hgr⟩ := run_append_RdV (ty := 31) ty_texts HI.out HZ0.out HZ1.out HZ2.out rfl r57 r60 (by simp [Value.oneCell']) 1 (by unfold maxLen; omega) (by omega) hb.size
        obtain ⟨A5, c5, rfl⟩ := own_slice hown
        refine wp_append_run (.tmp 57) (.tmp 60) 31 rfl h57 h60 hrun (hK _ W' ⟨A5, c5, rfl, ?_, hb.grown hgr hb.size (fun k hk => (r57.lt k hk).1)⟩)
        rw [sv_append]
        exact hown
      · refine stepsL_cons ?_ stepsL_nil
        intro a vz W h61 hE K hK
        have k61 : a.tmps.getD 61 undef = vz := h61 _ 61 rfl rfl
        have hk := hK vz rfl
        clear hK
        unfold Oper.wp
        go_simp
        exact hk
      · intro v W hE hT
        obtain ⟨A5, c5, e6, hown, hb5⟩ := hE
        have e7 : v 7 = v 6 := hT 7 (by decide) (by decide)
        rw [e6] at e7
        have hn5 : L.recs.length + 1 ≤ c5 := own_cap hown
        have HPW : Hid (Pw w W Z1 g1 gd n d L wr.heap.size y G nn tt A1 L.recs A5 (L.recs ++ [tt])) := by
          have hbw := HB4.out.trans (hb5.mono HB4.out.size)
          refine ⟨HL.out.below_ hbw, HBX4.out.below hb5, HRD.out.below hb5, HKR.out.below hb5, ?_, ⟨fun hz => ?_, Nat.lt_of_lt_of_le HBX4.out.lt hb5.size⟩, ⟨fun hz => ?_, Nat.lt_of_lt_of_le HG.out.2 hb5.size⟩, fun a ha => ⟨(HA.out a ha).1, Nat.lt_of_lt_of_le (HA.out a ha).2 hbw.size⟩, fun a ha => ?_⟩
          · rw [List.length_append]
            exact (RdV.of_own hown).1
          · have := HL.out.lt _ hz
            omega
          · have := HL.out.lt _ hz
            have := HG.out.1
            omega
          · subst ha
            have h1 := hown.lt a.block rfl
            refine ⟨fun hz => ?_, h1.2⟩
            have := HL.out.lt _ hz
            have := HB4.out.size
            omega
        have HNL : Hid ((L.recs ++ [tt]).length = L.recs.length + 1) := by show _ = _; rw [List.length_append]; rfl
        clear hT hown hb5 HL HB4 HBX4 HG HRD HKR HCV HA HR
        rw [e7, e6]
        dsimp only
        obtain ⟨tk, hks⟩ : ∃ x, x = L.recs := ⟨_, rfl⟩
        obtain ⟨NX, hNX⟩ : ∃ x, x = L.recs ++ [tt] := ⟨_, rfl⟩
        rw [← hNX] at HPW HNL
        rw [← HNL.out] at hn5 ⊢
        have HNX := Lib.hid hNX
        rw [← hks] at HPW hc1 ⊢
        have HKS := Lib.hid hks
        have HCN : Hid (NX.length ≤ c5) := hn5
        obtain ⟨cN, hcN⟩ : ∃ x, x = c5 := ⟨_, rfl⟩
        rw [← hcN] at HCN ⊢
        have c0 := HPW.out.bk.cell 0
        have c3 := HPW.out.bk.cell 3
        clear hNX hks hn5 e6 e7 hcN HNL
        cases hrs : y.reset with
        | true =>
          have HRS := Lib.hid hrs
          rw [hrs] at c0
          clear hrs
          by_cases hfu : y.fuse ≤ 60
          · go_wp2_with fail
            refine (fuse_lw HPW.out.lw (y.fuse : Int) (by omega) (by omega)).mono ?_
            intro eA wA hqA
            obtain ⟨rfl, ZA, hpA⟩ := HPW.out.turn hqA
            have HP6 := Lib.hid hpA
            have HK6 := Lib.hid (kl_fuse HK.out (y.fuse : Int) (by omega) (by omega))
            have c0 := HP6.out.bk.cell 0
            rw [HRS.out] at c0
            clear hqA hpA HPW c3 HK
            go_wp2_with fail
            refine (reset_st HP6.out.lw HK6.out (by omega)).mono ?_
            rintro eR wR ⟨z, d7, L7, hq, hc⟩
            obtain ⟨rfl, Z7, hp7⟩ := HP6.out.turn hq
            have HP7 := Lib.hid hp7.none_
            have HC := Lib.hid hc
            clear hq hp7 hc HP6
            by_cases hz : z = 0
            · subst hz
              have HKL := Lib.hid (HC.out.good rfl).1
              have HRC : Hid (L7.recs = []) := (HC.out.good rfl).2.1
              have HTP : Hid (L7.top ≤ 300 * (k + 1)) := by
                have := (HC.out.good rfl).2.2.2.1
                show _ ≤ _
                omega
              clear HC
              go_wp2_with fail
              refine (fuse_lw HP7.out.lw (-1) (by decide) (by decide)).mono ?_
              intro eF wF hqF
              obtain ⟨rfl, ZF, hpF⟩ := HP7.out.turn hqF
              have HPF := Lib.hid hpF
              have HKG := Lib.hid (kl_fuse HKL.out (-1) (by decide) (by decide))
              clear hqF hpF HP7 HKL
              go_wp2_with fail
              refine (batches_st HPF.out.lw (by have := HKG.out.many; omega) HKG.out.sz).mono ?_
              rintro eG wG ⟨AG, cG, vsG, rfl, hownG, hfrG, hbG⟩
              have HPG := Lib.hid (HPF.out.below_ hbG)
              rw [HRC.out] at hownG hfrG ⊢
              have HTX := Lib.hid (texts_any hownG hfrG (by rw [← HRC.out]; have := HKG.out.many; omega))
              clear hownG hfrG hbG HPF
              go_wp2_with fail
              refine HTX.out.mono ?_
              rintro eH wH ⟨AH, cH, rfl, hownH, hbH⟩
              have HPH := Lib.hid (HPG.out.below_ hbH)
              have HEQ := Lib.hid (equal_any (c := cH) (d := 0) (RdV.of_own hownH).1 HPH.out.rn (by rw [← HRC.out]; have := HKG.out.many; omega) (by rw [← HRC.out]; have := HKG.out.many; omega))
              clear hownH hbH HPG HTX
              go_wp2_with fail
              refine HEQ.out.mono ?_
              rintro eI wI ⟨rfl, hbI⟩
              have HPI := Lib.hid (HPH.out.below_ hbI)
              clear hbI HPH HEQ
              go_wp2_with fail
              exact ⟨HPI.out.relN HKG.out HRC.out HTP.out (by omega) (by exact Nat.le_refl _), by simp [intOf]; omega⟩
            · have hst := try_reset_dead HK6.out.up HK6.out.row (kept := tk) (by rw [HK6.out.recs, HKS.out]) (by omega) (by rw [← HC.out.ans]; exact hz) zs
              have HRW : Hid (d7.row.length ≤ 1000000) := by
                show _ ≤ _
                rw [HC.out.disk]
                exact Nat.le_trans (wr_row _ _ _) (by rw [HK6.out.row]; show 0 + 1 ≤ 1000000; decide)
              rw [← HC.out.disk, ← HC.out.ans] at hst
              obtain ⟨hz9, hst⟩ := hst
              have hmet := HC.out.bad hz
              subst hz9
              obtain ⟨bs, HBS, HST⟩ : ∃ bs, Hid (bs = tk ∨ bs = []) ∧ Hid (Stands (d7.restart zs) 0 n (Log.upTo (L.top + 1)) bs) := by
                rcases hst with r | r
                · exact ⟨_, .inl rfl, r⟩
                · exact ⟨_, .inr rfl, r⟩
              have HSZ : Hid (∀ b ∈ bs, b.length ≤ 3000000) := fun b hb => by
                rcases HBS.out with r | r
                · rw [r, HKS.out] at hb; exact HK6.out.sz b hb
                · rw [r] at hb; cases hb
              have HNL : Hid (([] : List (List UInt8)).length ≤ 100000) := Nat.zero_le _
              clear hst HC hz
              go_wp2_with fail
              refine (restart_lw HP7.out.lw F mF cF zs (HF.out.below HP7.out.lw.below) (fun h0 a ha hz => by
                subst ha
                obtain ⟨ad, e, hc⟩ := HF.out.cells h0
                injection e with e
                subst e
                have h1 := World.block_lt_of_cell? w _ (hc 0 _ (List.getElem?_eq_getElem (by rw [HF.out.len]; exact h0)))
                rw [addr_add_block] at h1
                have := HP7.out.lw.own _ hz
                omega) (by omega) HRW.out).mono ?_
              intro eS wS hqS
              obtain ⟨rfl, ZS, hpS⟩ := HP7.out.turn hqS
              have HPS := Lib.hid hpS
              clear hqS hpS HP7
              go_wp2_with fail
              refine (again_lw HPS.out.lw hmet HST.out (by unfold Log.upTo; omega) HSZ.out).mono ?_
              rintro eO wO ⟨g', ZO, LO, rfl, hlO, hKO, hrO, htO, hbO, hsO, hcm⟩
              have HPO := Lib.hid (HPS.out.to hlO (Out.of_below hbO) hsO)
              have HKL := Lib.hid hKO
              have HRC := Lib.hid hrO
              have HTP : Hid (LO.top ≤ 300 * (k + 1)) := by
                show _ ≤ _
                unfold Log.upTo at htO
                omega
              have HCM := Lib.hid hcm
              clear hlO hKO hrO htO hbO hsO hcm HPS HST hmet
              go_wp2_with fail
              refine HCM.out.mono ?_
              rintro eC _ ⟨rfl, rfl⟩
              clear HCM
              go_wp2_with fail
              refine (batches_st HPO.out.lw (by have := HKL.out.many; omega) HKL.out.sz).mono ?_
              rintro e1 w1' ⟨B1, b1, vs1, rfl, hown1, hfr1, hb1⟩
              have HP1 := Lib.hid (HPO.out.below_ hb1)
              rw [HRC.out] at hown1 hfr1 ⊢
              have HTX1 := Lib.hid (texts_any hown1 hfr1 (by rw [← HRC.out]; have := HKL.out.many; omega))
              clear hown1 hfr1 hb1 HPO
              go_wp2_with fail
              refine HTX1.out.mono ?_
              rintro e2 w2' ⟨B2, b2, rfl, hown2, hb2⟩
              have HP2 := Lib.hid (HP1.out.below_ hb2)
              have HEQ1 := Lib.hid (equal_any (c := b2) (d := 0) (RdV.of_own hown2).1 HP2.out.rn (by rw [← HRC.out]; have := HKL.out.many; omega) HNL.out)
              clear hown2 hb2 HP1 HTX1
              go_wp2_with fail
              refine HEQ1.out.mono ?_
              rintro e3 w3' ⟨rfl, hb3⟩
              have HP3 := Lib.hid (HP2.out.below_ hb3)
              clear hb3 HP2 HEQ1
              by_cases heq : bs = []
              · have hbe : (bs == []) = true := by rw [heq]; exact beq_self_eq_true _
                rw [hbe]
                replace HRC : Hid (LO.recs = []) := HRC.out.trans heq
                clear hbe heq
                go_wp2_with fail
                refine (fuse_lw HP3.out.lw (-1) (by decide) (by decide)).mono ?_
                intro eF wF hqF
                obtain ⟨rfl, ZF, hpF⟩ := HP3.out.turn hqF
                have HPF := Lib.hid hpF
                have HKG := Lib.hid (kl_fuse HKL.out (-1) (by decide) (by decide))
                clear hqF hpF HP3 HKL
                go_wp2_with fail
                refine (batches_st HPF.out.lw (by have := HKG.out.many; omega) HKG.out.sz).mono ?_
                rintro eG wG ⟨AG, cG, vsG, rfl, hownG, hfrG, hbG⟩
                have HPG := Lib.hid (HPF.out.below_ hbG)
                rw [HRC.out] at hownG hfrG ⊢
                have HTX := Lib.hid (texts_any hownG hfrG (by rw [← HRC.out]; have := HKG.out.many; omega))
                clear hownG hfrG hbG HPF
                go_wp2_with fail
                refine HTX.out.mono ?_
                rintro eH wH ⟨AH, cH, rfl, hownH, hbH⟩
                have HPH := Lib.hid (HPG.out.below_ hbH)
                have HEQ := Lib.hid (equal_any (c := cH) (d := 0) (RdV.of_own hownH).1 HPH.out.rn (by rw [← HRC.out]; have := HKG.out.many; omega) (by rw [← HRC.out]; have := HKG.out.many; omega))
                clear hownH hbH HPG HTX
                go_wp2_with fail
                refine HEQ.out.mono ?_
                rintro eI wI ⟨rfl, hbI⟩
                have HPI := Lib.hid (HPH.out.below_ hbI)
                clear hbI HPH HEQ
                go_wp2_with fail
                exact ⟨HPI.out.relN HKG.out HRC.out HTP.out (by omega) (by exact Nat.le_refl _), by simp [intOf]; omega⟩
              · have hbe : (bs == []) = false := beq_eq_false_iff_ne.2 heq
                rw [hbe]
                replace HRC : Hid (LO.recs = tk) := HRC.out.trans (HBS.out.resolve_right heq)
                clear hbe heq
                go_wp2_with fail
                refine (fuse_lw HP3.out.lw (-1) (by decide) (by decide)).mono ?_
                intro eF wF hqF
                obtain ⟨rfl, ZF, hpF⟩ := HP3.out.turn hqF
                have HPF := Lib.hid hpF
                have HKG := Lib.hid (kl_fuse HKL.out (-1) (by decide) (by decide))
                clear hqF hpF HP3 HKL
                go_wp2_with fail
                refine (batches_st HPF.out.lw (by have := HKG.out.many; omega) HKG.out.sz).mono ?_
                rintro eG wG ⟨AG, cG, vsG, rfl, hownG, hfrG, hbG⟩
                have HPG := Lib.hid (HPF.out.below_ hbG)
                rw [HRC.out] at hownG hfrG ⊢
                have HTX := Lib.hid (texts_any hownG hfrG (by rw [← HRC.out]; have := HKG.out.many; omega))
                clear hownG hfrG hbG HPF
                go_wp2_with fail
                refine HTX.out.mono ?_
                rintro eH wH ⟨AH, cH, rfl, hownH, hbH⟩
                have HPH := Lib.hid (HPG.out.below_ hbH)
                have HEQ := Lib.hid (equal_any (c := cH) (d := c1) (RdV.of_own hownH).1 HPH.out.rk (by rw [← HRC.out]; have := HKG.out.many; omega) (by rw [← HRC.out]; have := HKG.out.many; omega))
                clear hownH hbH HPG HTX
                go_wp2_with fail
                refine HEQ.out.mono ?_
                rintro eI wI ⟨rfl, hbI⟩
                have HPI := Lib.hid (HPH.out.below_ hbI)
                clear hbI HPH HEQ
                go_wp2_with fail
                exact ⟨HPI.out.relK HKG.out HRC.out HTP.out (by omega) (by exact hc1), by simp [intOf]; omega⟩
          · go_wp2_with fail
            refine (reset_st HPW.out.lw HK.out (by omega)).mono ?_
            rintro eR wR ⟨z, d7, L7, hq, hc⟩
            obtain ⟨rfl, Z7, hp7⟩ := HPW.out.turn hq
            have HP7 := Lib.hid hp7.none_
            have HC := Lib.hid hc
            clear hq hp7 hc HPW
            by_cases hz : z = 0
            · subst hz
              have HKL := Lib.hid (HC.out.good rfl).1
              have HRC : Hid (L7.recs = []) := (HC.out.good rfl).2.1
              have HTP : Hid (L7.top ≤ 300 * (k + 1)) := by
                have := (HC.out.good rfl).2.2.2.1
                show _ ≤ _
                omega
              clear HC
              go_wp2_with fail
              refine (fuse_lw HP7.out.lw (-1) (by decide) (by decide)).mono ?_
              intro eF wF hqF
              obtain ⟨rfl, ZF, hpF⟩ := HP7.out.turn hqF
              have HPF := Lib.hid hpF
              have HKG := Lib.hid (kl_fuse HKL.out (-1) (by decide) (by decide))
              clear hqF hpF HP7 HKL
              go_wp2_with fail
              refine (batches_st HPF.out.lw (by have := HKG.out.many; omega) HKG.out.sz).mono ?_
              rintro eG wG ⟨AG, cG, vsG, rfl, hownG, hfrG, hbG⟩
              have HPG := Lib.hid (HPF.out.below_ hbG)
              rw [HRC.out] at hownG hfrG ⊢
              have HTX := Lib.hid (texts_any hownG hfrG (by rw [← HRC.out]; have := HKG.out.many; omega))
              clear hownG hfrG hbG HPF
              go_wp2_with fail
              refine HTX.out.mono ?_
              rintro eH wH ⟨AH, cH, rfl, hownH, hbH⟩
              have HPH := Lib.hid (HPG.out.below_ hbH)
              have HEQ := Lib.hid (equal_any (c := cH) (d := 0) (RdV.of_own hownH).1 HPH.out.rn (by rw [← HRC.out]; have := HKG.out.many; omega) (by rw [← HRC.out]; have := HKG.out.many; omega))
              clear hownH hbH HPG HTX
              go_wp2_with fail
              refine HEQ.out.mono ?_
              rintro eI wI ⟨rfl, hbI⟩
              have HPI := Lib.hid (HPH.out.below_ hbI)
              clear hbI HPH HEQ
              go_wp2_with fail
              exact ⟨HPI.out.relN HKG.out HRC.out HTP.out (by omega) (by exact Nat.le_refl _), by simp [intOf]; omega⟩
            · have hst := try_reset_dead HK.out.up HK.out.row (kept := tk) (by rw [HK.out.recs, HKS.out]) (by omega) (by rw [← HC.out.ans]; exact hz) zs
              have HRW : Hid (d7.row.length ≤ 1000000) := by
                show _ ≤ _
                rw [HC.out.disk]
                exact Nat.le_trans (wr_row _ _ _) (by rw [HK.out.row]; show 0 + 1 ≤ 1000000; decide)
              rw [← HC.out.disk, ← HC.out.ans] at hst
              obtain ⟨hz9, hst⟩ := hst
              have hmet := HC.out.bad hz
              subst hz9
              obtain ⟨bs, HBS, HST⟩ : ∃ bs, Hid (bs = tk ∨ bs = []) ∧ Hid (Stands (d7.restart zs) 0 n (Log.upTo (L.top + 1)) bs) := by
                rcases hst with r | r
                · exact ⟨_, .inl rfl, r⟩
                · exact ⟨_, .inr rfl, r⟩
              have HSZ : Hid (∀ b ∈ bs, b.length ≤ 3000000) := fun b hb => by
                rcases HBS.out with r | r
                · rw [r, HKS.out] at hb; exact HK.out.sz b hb
                · rw [r] at hb; cases hb
              have HNL : Hid (([] : List (List UInt8)).length ≤ 100000) := Nat.zero_le _
              clear hst HC hz
              go_wp2_with fail
              refine (restart_lw HP7.out.lw F mF cF zs (HF.out.below HP7.out.lw.below) (fun h0 a ha hz => by
                subst ha
                obtain ⟨ad, e, hc⟩ := HF.out.cells h0
                injection e with e
                subst e
                have h1 := World.block_lt_of_cell? w _ (hc 0 _ (List.getElem?_eq_getElem (by rw [HF.out.len]; exact h0)))
                rw [addr_add_block] at h1
                have := HP7.out.lw.own _ hz
                omega) (by omega) HRW.out).mono ?_
              intro eS wS hqS
              obtain ⟨rfl, ZS, hpS⟩ := HP7.out.turn hqS
              have HPS := Lib.hid hpS
              clear hqS hpS HP7
              go_wp2_with fail
              refine (again_lw HPS.out.lw hmet HST.out (by unfold Log.upTo; omega) HSZ.out).mono ?_
              rintro eO wO ⟨g', ZO, LO, rfl, hlO, hKO, hrO, htO, hbO, hsO, hcm⟩
              have HPO := Lib.hid (HPS.out.to hlO (Out.of_below hbO) hsO)
              have HKL := Lib.hid hKO
              have HRC := Lib.hid hrO
              have HTP : Hid (LO.top ≤ 300 * (k + 1)) := by
                show _ ≤ _
                unfold Log.upTo at htO
                omega
              have HCM := Lib.hid hcm
              clear hlO hKO hrO htO hbO hsO hcm HPS HST hmet
              go_wp2_with fail
              refine HCM.out.mono ?_
              rintro eC _ ⟨rfl, rfl⟩
              clear HCM
              go_wp2_with fail
              refine (batches_st HPO.out.lw (by have := HKL.out.many; omega) HKL.out.sz).mono ?_
              rintro e1 w1' ⟨B1, b1, vs1, rfl, hown1, hfr1, hb1⟩
              have HP1 := Lib.hid (HPO.out.below_ hb1)
              rw [HRC.out] at hown1 hfr1 ⊢
              have HTX1 := Lib.hid (texts_any hown1 hfr1 (by rw [← HRC.out]; have := HKL.out.many; omega))
              clear hown1 hfr1 hb1 HPO
              go_wp2_with fail
              refine HTX1.out.mono ?_
              rintro e2 w2' ⟨B2, b2, rfl, hown2, hb2⟩
              have HP2 := Lib.hid (HP1.out.below_ hb2)
              have HEQ1 := Lib.hid (equal_any (c := b2) (d := 0) (RdV.of_own hown2).1 HP2.out.rn (by rw [← HRC.out]; have := HKL.out.many; omega) HNL.out)
              clear hown2 hb2 HP1 HTX1
              go_wp2_with fail
              refine HEQ1.out.mono ?_
              rintro e3 w3' ⟨rfl, hb3⟩
              have HP3 := Lib.hid (HP2.out.below_ hb3)
              clear hb3 HP2 HEQ1
              by_cases heq : bs = []
              · have hbe : (bs == []) = true := by rw [heq]; exact beq_self_eq_true _
                rw [hbe]
                replace HRC : Hid (LO.recs = []) := HRC.out.trans heq
                clear hbe heq
                go_wp2_with fail
                refine (fuse_lw HP3.out.lw (-1) (by decide) (by decide)).mono ?_
                intro eF wF hqF
                obtain ⟨rfl, ZF, hpF⟩ := HP3.out.turn hqF
                have HPF := Lib.hid hpF
                have HKG := Lib.hid (kl_fuse HKL.out (-1) (by decide) (by decide))
                clear hqF hpF HP3 HKL
                go_wp2_with fail
                refine (batches_st HPF.out.lw (by have := HKG.out.many; omega) HKG.out.sz).mono ?_
                rintro eG wG ⟨AG, cG, vsG, rfl, hownG, hfrG, hbG⟩
                have HPG := Lib.hid (HPF.out.below_ hbG)
                rw [HRC.out] at hownG hfrG ⊢
                have HTX := Lib.hid (texts_any hownG hfrG (by rw [← HRC.out]; have := HKG.out.many; omega))
                clear hownG hfrG hbG HPF
                go_wp2_with fail
                refine HTX.out.mono ?_
                rintro eH wH ⟨AH, cH, rfl, hownH, hbH⟩
                have HPH := Lib.hid (HPG.out.below_ hbH)
                have HEQ := Lib.hid (equal_any (c := cH) (d := 0) (RdV.of_own hownH).1 HPH.out.rn (by rw [← HRC.out]; have := HKG.out.many; omega) (by rw [← HRC.out]; have := HKG.out.many; omega))
                clear hownH hbH HPG HTX
                go_wp2_with fail
                refine HEQ.out.mono ?_
                rintro eI wI ⟨rfl, hbI⟩
                have HPI := Lib.hid (HPH.out.below_ hbI)
                clear hbI HPH HEQ
                go_wp2_with fail
                exact ⟨HPI.out.relN HKG.out HRC.out HTP.out (by omega) (by exact Nat.le_refl _), by simp [intOf]; omega⟩
              · have hbe : (bs == []) = false := beq_eq_false_iff_ne.2 heq
                rw [hbe]
                replace HRC : Hid (LO.recs = tk) := HRC.out.trans (HBS.out.resolve_right heq)
                clear hbe heq
                go_wp2_with fail
                refine (fuse_lw HP3.out.lw (-1) (by decide) (by decide)).mono ?_
                intro eF wF hqF
                obtain ⟨rfl, ZF, hpF⟩ := HP3.out.turn hqF
                have HPF := Lib.hid hpF
                have HKG := Lib.hid (kl_fuse HKL.out (-1) (by decide) (by decide))
                clear hqF hpF HP3 HKL
                go_wp2_with fail
                refine (batches_st HPF.out.lw (by have := HKG.out.many; omega) HKG.out.sz).mono ?_
                rintro eG wG ⟨AG, cG, vsG, rfl, hownG, hfrG, hbG⟩
                have HPG := Lib.hid (HPF.out.below_ hbG)
                rw [HRC.out] at hownG hfrG ⊢
                have HTX := Lib.hid (texts_any hownG hfrG (by rw [← HRC.out]; have := HKG.out.many; omega))
                clear hownG hfrG hbG HPF
                go_wp2_with fail
                refine HTX.out.mono ?_
                rintro eH wH ⟨AH, cH, rfl, hownH, hbH⟩
                have HPH := Lib.hid (HPG.out.below_ hbH)
                have HEQ := Lib.hid (equal_any (c := cH) (d := c1) (RdV.of_own hownH).1 HPH.out.rk (by rw [← HRC.out]; have := HKG.out.many; omega) (by rw [← HRC.out]; have := HKG.out.many; omega))
                clear hownH hbH HPG HTX
                go_wp2_with fail
                refine HEQ.out.mono ?_
                rintro eI wI ⟨rfl, hbI⟩
                have HPI := Lib.hid (HPH.out.below_ hbI)
                clear hbI HPH HEQ
                go_wp2_with fail
                exact ⟨HPI.out.relK HKG.out HRC.out HTP.out (by omega) (by exact hc1), by simp [intOf]; omega⟩
        | false =>
          have HRS := Lib.hid hrs
          rw [hrs] at c0
          clear hrs
          by_cases hfu : y.fuse ≤ 60
          · go_wp2_with fail
            refine (fuse_lw HPW.out.lw (y.fuse : Int) (by omega) (by omega)).mono ?_
            intro eA wA hqA
            obtain ⟨rfl, ZA, hpA⟩ := HPW.out.turn hqA
            have HP6 := Lib.hid hpA
            have HK6 := Lib.hid (kl_fuse HK.out (y.fuse : Int) (by omega) (by omega))
            have c0 := HP6.out.bk.cell 0
            rw [HRS.out] at c0
            clear hqA hpA HPW c3 HK
            go_wp2_with fail
            refine (commit_st HP6.out.lw HK6.out (by omega) (some ⟨G, 0, none⟩) nn nn tt HP6.out.rd (fun a ha => by injection ha with ha; subst ha; exact HP6.out.zg.1) (Nat.le_refl _) (by omega)).mono ?_
            rintro eR wR ⟨z, d7, L7, hq, hc⟩
            obtain ⟨rfl, Z7, hp7⟩ := HP6.out.turn hq
            have HP7 := Lib.hid hp7
            have HC := Lib.hid hc
            clear hq hp7 hc HP6
            by_cases hz : z = 0
            · subst hz
              have HKL := Lib.hid (HC.out.good rfl).1
              have HRC : Hid (L7.recs = NX) := (HC.out.good rfl).2.1.trans HNX.out.symm
              have HTP : Hid (L7.top ≤ 300 * (k + 1)) := by
                have := (HC.out.good rfl).2.2.2.1
                show _ ≤ _
                omega
              clear HC
              go_wp2_with fail
              refine (fuse_lw HP7.out.lw (-1) (by decide) (by decide)).mono ?_
              intro eF wF hqF
              obtain ⟨rfl, ZF, hpF⟩ := HP7.out.turn hqF
              have HPF := Lib.hid hpF
              have HKG := Lib.hid (kl_fuse HKL.out (-1) (by decide) (by decide))
              clear hqF hpF HP7 HKL
              go_wp2_with fail
              refine (batches_st HPF.out.lw (by have := HKG.out.many; omega) HKG.out.sz).mono ?_
              rintro eG wG ⟨AG, cG, vsG, rfl, hownG, hfrG, hbG⟩
              have HPG := Lib.hid (HPF.out.below_ hbG)
              rw [HRC.out] at hownG hfrG ⊢
              have HTX := Lib.hid (texts_any hownG hfrG (by rw [← HRC.out]; have := HKG.out.many; omega))
              clear hownG hfrG hbG HPF
              go_wp2_with fail
              refine HTX.out.mono ?_
              rintro eH wH ⟨AH, cH, rfl, hownH, hbH⟩
              have HPH := Lib.hid (HPG.out.below_ hbH)
              have HEQ := Lib.hid (equal_any (c := cH) (d := cN) (RdV.of_own hownH).1 HPH.out.rn (by rw [← HRC.out]; have := HKG.out.many; omega) (by rw [← HRC.out]; have := HKG.out.many; omega))
              clear hownH hbH HPG HTX
              go_wp2_with fail
              refine HEQ.out.mono ?_
              rintro eI wI ⟨rfl, hbI⟩
              have HPI := Lib.hid (HPH.out.below_ hbI)
              clear hbI HPH HEQ
              go_wp2_with fail
              exact ⟨HPI.out.relN HKG.out HRC.out HTP.out (by omega) (by exact HCN.out), by simp [intOf]; omega⟩
            by_cases hz4 : z = 4
            · subst hz4
              obtain ⟨hd7, hl7⟩ := HC.out.full rfl
              subst hd7
              subst hl7
              have hml := HK6.out.many
              have HFL : Hid (480 * (n - L7.end_) < nn ∨ L7.end_ = n) := (many_iff nn L7.end_ n hml.2.2.2.1).1 (Nat.lt_of_not_le fun h => HC.out.some_ (by rw [HP7.out.rd.len]; exact h) rfl)
              have HKL := Lib.hid HK6.out
              have HRC : Hid (L7.recs = tk) := HKS.out.symm
              have HTP : Hid (L7.top ≤ 300 * (k + 1)) := by show _ ≤ _; omega
              have hrm := room_st HP7.out.lw (by omega) hml.2.2.2.1
              obtain ⟨R, hR⟩ : ∃ R, R = n - L7.end_ := ⟨_, rfl⟩
              rw [← hR] at hrm
              have HRM := Lib.hid hrm
              have HRR := Lib.hid hR
              have hRl : R ≤ 20 := by omega
              clear hrm hR HC hml
              by_cases hR0 : R = 0
              · subst hR0
                go_wp2_with fail
                refine HRM.out.mono ?_
                rintro eT wT ⟨rfl, hbT⟩
                have HP8 := Lib.hid (HP7.out.below_ hbT)
                clear hbT HP7 HRM
                go_wp2_with fail
                refine (fuse_lw HP8.out.lw (-1) (by decide) (by decide)).mono ?_
                intro eF wF hqF
                obtain ⟨rfl, ZF, hpF⟩ := HP8.out.turn hqF
                have HPF := Lib.hid hpF
                have HKG := Lib.hid (kl_fuse HKL.out (-1) (by decide) (by decide))
                clear hqF hpF HP8 HKL
                go_wp2_with fail
                refine (batches_st HPF.out.lw (by have := HKG.out.many; omega) HKG.out.sz).mono ?_
                rintro eG wG ⟨AG, cG, vsG, rfl, hownG, hfrG, hbG⟩
                have HPG := Lib.hid (HPF.out.below_ hbG)
                rw [HRC.out] at hownG hfrG ⊢
                have HTX := Lib.hid (texts_any hownG hfrG (by rw [← HRC.out]; have := HKG.out.many; omega))
                clear hownG hfrG hbG HPF
                go_wp2_with fail
                refine HTX.out.mono ?_
                rintro eH wH ⟨AH, cH, rfl, hownH, hbH⟩
                have HPH := Lib.hid (HPG.out.below_ hbH)
                have HEQ := Lib.hid (equal_any (c := cH) (d := c1) (RdV.of_own hownH).1 HPH.out.rk (by rw [← HRC.out]; have := HKG.out.many; omega) (by rw [← HRC.out]; have := HKG.out.many; omega))
                clear hownH hbH HPG HTX
                go_wp2_with fail
                refine HEQ.out.mono ?_
                rintro eI wI ⟨rfl, hbI⟩
                have HPI := Lib.hid (HPH.out.below_ hbI)
                clear hbI HPH HEQ
                go_wp2_with fail
                exact ⟨HPI.out.relK HKG.out HRC.out HTP.out (by omega) (by exact hc1), by simp [intOf]; omega⟩
              · have hr1 : (0 < R) = True := eq_true (by omega)
                have hr2 : ((nn : Int) ≤ 480 * (R : Int)) = False := eq_false (by have := HFL.out; have := HRR.out; omega)
                go_wp2_with fail
                refine HRM.out.mono ?_
                rintro eT wT ⟨rfl, hbT⟩
                have HP8 := Lib.hid (HP7.out.below_ hbT)
                have hrm := room_st HP8.out.lw (by omega) (HKL.out.many).2.2.2.1
                rw [← HRR.out] at hrm
                have HRM2 := Lib.hid hrm
                clear hbT HP7 HRM hrm
                go_wp2_with fail
                refine HRM2.out.mono ?_
                rintro eU wU ⟨rfl, hbU⟩
                have HP9 := Lib.hid (HP8.out.below_ hbU)
                clear hbU HP8 HRM2
                go_wp2_with fail
                refine (fuse_lw HP9.out.lw (-1) (by decide) (by decide)).mono ?_
                intro eF wF hqF
                obtain ⟨rfl, ZF, hpF⟩ := HP9.out.turn hqF
                have HPF := Lib.hid hpF
                have HKG := Lib.hid (kl_fuse HKL.out (-1) (by decide) (by decide))
                clear hqF hpF HP9 HKL
                go_wp2_with fail
                refine (batches_st HPF.out.lw (by have := HKG.out.many; omega) HKG.out.sz).mono ?_
                rintro eG wG ⟨AG, cG, vsG, rfl, hownG, hfrG, hbG⟩
                have HPG := Lib.hid (HPF.out.below_ hbG)
                rw [HRC.out] at hownG hfrG ⊢
                have HTX := Lib.hid (texts_any hownG hfrG (by rw [← HRC.out]; have := HKG.out.many; omega))
                clear hownG hfrG hbG HPF
                go_wp2_with fail
                refine HTX.out.mono ?_
                rintro eH wH ⟨AH, cH, rfl, hownH, hbH⟩
                have HPH := Lib.hid (HPG.out.below_ hbH)
                have HEQ := Lib.hid (equal_any (c := cH) (d := c1) (RdV.of_own hownH).1 HPH.out.rk (by rw [← HRC.out]; have := HKG.out.many; omega) (by rw [← HRC.out]; have := HKG.out.many; omega))
                clear hownH hbH HPG HTX
                go_wp2_with fail
                refine HEQ.out.mono ?_
                rintro eI wI ⟨rfl, hbI⟩
                have HPI := Lib.hid (HPH.out.below_ hbI)
                clear hbI HPH HEQ
                go_wp2_with fail
                exact ⟨HPI.out.relK HKG.out HRC.out HTP.out (by omega) (by exact hc1), by simp [intOf]; omega⟩
            · have hst := try_dead (b := tt) HK6.out.up HK6.out.row (kept := tk) (by rw [HK6.out.recs, HKS.out]) (by omega) (by omega) (by rw [← HC.out.ans]; exact hz) (by rw [← HC.out.ans]; exact hz4) zs
              have HRW : Hid (d7.row.length ≤ 1000000) := by
                show _ ≤ _
                rw [HC.out.disk]
                refine Nat.le_trans commitF_row ?_
                rw [HK6.out.row, HP7.out.rd.len]
                show 0 + 1 + manyOf nn ≤ _
                unfold manyOf
                omega
              rw [← HC.out.disk, ← HC.out.ans] at hst
              obtain ⟨hz9, hst⟩ := hst
              have hmet := HC.out.bad hz hz4
              subst hz9
              obtain ⟨bs, HBS, HST⟩ : ∃ bs, Hid (bs = tk ∨ bs = NX) ∧ Hid (Stands (d7.restart zs) 0 n (Log.upTo (L.top + 2)) bs) := by
                rcases hst with r | r
                · exact ⟨_, .inl rfl, r⟩
                · exact ⟨_, .inr (by rw [HNX.out, HKS.out]), r⟩
              have HSZ : Hid (∀ b ∈ bs, b.length ≤ 3000000) := fun b hb => by
                rcases HBS.out with r | r
                · rw [r, HKS.out] at hb; exact HK6.out.sz b hb
                · rw [r, HNX.out] at hb
                  rcases List.mem_append.1 hb with hb | hb
                  · exact HK6.out.sz b hb
                  · rw [List.mem_singleton.1 hb, HP7.out.rd.len]; omega
              have HNL : Hid (NX.length ≤ 100000) := by
                show _ ≤ _
                rw [HNX.out, List.length_append]
                show _ + 1 ≤ _
                omega
              clear hst HC hz hz4
              go_wp2_with fail
              refine (restart_lw HP7.out.lw F mF cF zs (HF.out.below HP7.out.lw.below) (fun h0 a ha hz => by
                subst ha
                obtain ⟨ad, e, hc⟩ := HF.out.cells h0
                injection e with e
                subst e
                have h1 := World.block_lt_of_cell? w _ (hc 0 _ (List.getElem?_eq_getElem (by rw [HF.out.len]; exact h0)))
                rw [addr_add_block] at h1
                have := HP7.out.lw.own _ hz
                omega) (by omega) HRW.out).mono ?_
              intro eS wS hqS
              obtain ⟨rfl, ZS, hpS⟩ := HP7.out.turn hqS
              have HPS := Lib.hid hpS
              clear hqS hpS HP7
              go_wp2_with fail
              refine (again_lw HPS.out.lw hmet HST.out (by unfold Log.upTo; omega) HSZ.out).mono ?_
              rintro eO wO ⟨g', ZO, LO, rfl, hlO, hKO, hrO, htO, hbO, hsO, hcm⟩
              have HPO := Lib.hid (HPS.out.to hlO (Out.of_below hbO) hsO)
              have HKL := Lib.hid hKO
              have HRC := Lib.hid hrO
              have HTP : Hid (LO.top ≤ 300 * (k + 1)) := by
                show _ ≤ _
                unfold Log.upTo at htO
                omega
              have HCM := Lib.hid hcm
              clear hlO hKO hrO htO hbO hsO hcm HPS HST hmet
              go_wp2_with fail
              refine HCM.out.mono ?_
              rintro eC _ ⟨rfl, rfl⟩
              clear HCM
              go_wp2_with fail
              refine (batches_st HPO.out.lw (by have := HKL.out.many; omega) HKL.out.sz).mono ?_
              rintro e1 w1' ⟨B1, b1, vs1, rfl, hown1, hfr1, hb1⟩
              have HP1 := Lib.hid (HPO.out.below_ hb1)
              rw [HRC.out] at hown1 hfr1 ⊢
              have HTX1 := Lib.hid (texts_any hown1 hfr1 (by rw [← HRC.out]; have := HKL.out.many; omega))
              clear hown1 hfr1 hb1 HPO
              go_wp2_with fail
              refine HTX1.out.mono ?_
              rintro e2 w2' ⟨B2, b2, rfl, hown2, hb2⟩
              have HP2 := Lib.hid (HP1.out.below_ hb2)
              have HEQ1 := Lib.hid (equal_any (c := b2) (d := cN) (RdV.of_own hown2).1 HP2.out.rn (by rw [← HRC.out]; have := HKL.out.many; omega) HNL.out)
              clear hown2 hb2 HP1 HTX1
              go_wp2_with fail
              refine HEQ1.out.mono ?_
              rintro e3 w3' ⟨rfl, hb3⟩
              have HP3 := Lib.hid (HP2.out.below_ hb3)
              clear hb3 HP2 HEQ1
              by_cases heq : bs = NX
              · have hbe : (bs == NX) = true := by rw [heq]; exact beq_self_eq_true _
                rw [hbe]
                replace HRC : Hid (LO.recs = NX) := HRC.out.trans heq
                clear hbe heq
                go_wp2_with fail
                refine (fuse_lw HP3.out.lw (-1) (by decide) (by decide)).mono ?_
                intro eF wF hqF
                obtain ⟨rfl, ZF, hpF⟩ := HP3.out.turn hqF
                have HPF := Lib.hid hpF
                have HKG := Lib.hid (kl_fuse HKL.out (-1) (by decide) (by decide))
                clear hqF hpF HP3 HKL
                go_wp2_with fail
                refine (batches_st HPF.out.lw (by have := HKG.out.many; omega) HKG.out.sz).mono ?_
                rintro eG wG ⟨AG, cG, vsG, rfl, hownG, hfrG, hbG⟩
                have HPG := Lib.hid (HPF.out.below_ hbG)
                rw [HRC.out] at hownG hfrG ⊢
                have HTX := Lib.hid (texts_any hownG hfrG (by rw [← HRC.out]; have := HKG.out.many; omega))
                clear hownG hfrG hbG HPF
                go_wp2_with fail
                refine HTX.out.mono ?_
                rintro eH wH ⟨AH, cH, rfl, hownH, hbH⟩
                have HPH := Lib.hid (HPG.out.below_ hbH)
                have HEQ := Lib.hid (equal_any (c := cH) (d := cN) (RdV.of_own hownH).1 HPH.out.rn (by rw [← HRC.out]; have := HKG.out.many; omega) (by rw [← HRC.out]; have := HKG.out.many; omega))
                clear hownH hbH HPG HTX
                go_wp2_with fail
                refine HEQ.out.mono ?_
                rintro eI wI ⟨rfl, hbI⟩
                have HPI := Lib.hid (HPH.out.below_ hbI)
                clear hbI HPH HEQ
                go_wp2_with fail
                exact ⟨HPI.out.relN HKG.out HRC.out HTP.out (by omega) (by exact HCN.out), by simp [intOf]; omega⟩
              · have hbe : (bs == NX) = false := beq_eq_false_iff_ne.2 heq
                rw [hbe]
                replace HRC : Hid (LO.recs = tk) := HRC.out.trans (HBS.out.resolve_right heq)
                clear hbe heq
                go_wp2_with fail
                refine (fuse_lw HP3.out.lw (-1) (by decide) (by decide)).mono ?_
                intro eF wF hqF
                obtain ⟨rfl, ZF, hpF⟩ := HP3.out.turn hqF
                have HPF := Lib.hid hpF
                have HKG := Lib.hid (kl_fuse HKL.out (-1) (by decide) (by decide))
                clear hqF hpF HP3 HKL
                go_wp2_with fail
                refine (batches_st HPF.out.lw (by have := HKG.out.many; omega) HKG.out.sz).mono ?_
                rintro eG wG ⟨AG, cG, vsG, rfl, hownG, hfrG, hbG⟩
                have HPG := Lib.hid (HPF.out.below_ hbG)
                rw [HRC.out] at hownG hfrG ⊢
                have HTX := Lib.hid (texts_any hownG hfrG (by rw [← HRC.out]; have := HKG.out.many; omega))
                clear hownG hfrG hbG HPF
                go_wp2_with fail
                refine HTX.out.mono ?_
                rintro eH wH ⟨AH, cH, rfl, hownH, hbH⟩
                have HPH := Lib.hid (HPG.out.below_ hbH)
                have HEQ := Lib.hid (equal_any (c := cH) (d := c1) (RdV.of_own hownH).1 HPH.out.rk (by rw [← HRC.out]; have := HKG.out.many; omega) (by rw [← HRC.out]; have := HKG.out.many; omega))
                clear hownH hbH HPG HTX
                go_wp2_with fail
                refine HEQ.out.mono ?_
                rintro eI wI ⟨rfl, hbI⟩
                have HPI := Lib.hid (HPH.out.below_ hbI)
                clear hbI HPH HEQ
                go_wp2_with fail
                exact ⟨HPI.out.relK HKG.out HRC.out HTP.out (by omega) (by exact hc1), by simp [intOf]; omega⟩
          · go_wp2_with fail
            refine (commit_st HPW.out.lw HK.out (by omega) (some ⟨G, 0, none⟩) nn nn tt HPW.out.rd (fun a ha => by injection ha with ha; subst ha; exact HPW.out.zg.1) (Nat.le_refl _) (by omega)).mono ?_
            rintro eR wR ⟨z, d7, L7, hq, hc⟩
            obtain ⟨rfl, Z7, hp7⟩ := HPW.out.turn hq
            have HP7 := Lib.hid hp7
            have HC := Lib.hid hc
            clear hq hp7 hc HPW
            by_cases hz : z = 0
            · subst hz
              have HKL := Lib.hid (HC.out.good rfl).1
              have HRC : Hid (L7.recs = NX) := (HC.out.good rfl).2.1.trans HNX.out.symm
              have HTP : Hid (L7.top ≤ 300 * (k + 1)) := by
                have := (HC.out.good rfl).2.2.2.1
                show _ ≤ _
                omega
              clear HC
              go_wp2_with fail
              refine (fuse_lw HP7.out.lw (-1) (by decide) (by decide)).mono ?_
              intro eF wF hqF
              obtain ⟨rfl, ZF, hpF⟩ := HP7.out.turn hqF
              have HPF := Lib.hid hpF
              have HKG := Lib.hid (kl_fuse HKL.out (-1) (by decide) (by decide))
              clear hqF hpF HP7 HKL
              go_wp2_with fail
              refine (batches_st HPF.out.lw (by have := HKG.out.many; omega) HKG.out.sz).mono ?_
              rintro eG wG ⟨AG, cG, vsG, rfl, hownG, hfrG, hbG⟩
              have HPG := Lib.hid (HPF.out.below_ hbG)
              rw [HRC.out] at hownG hfrG ⊢
              have HTX := Lib.hid (texts_any hownG hfrG (by rw [← HRC.out]; have := HKG.out.many; omega))
              clear hownG hfrG hbG HPF
              go_wp2_with fail
              refine HTX.out.mono ?_
              rintro eH wH ⟨AH, cH, rfl, hownH, hbH⟩
              have HPH := Lib.hid (HPG.out.below_ hbH)
              have HEQ := Lib.hid (equal_any (c := cH) (d := cN) (RdV.of_own hownH).1 HPH.out.rn (by rw [← HRC.out]; have := HKG.out.many; omega) (by rw [← HRC.out]; have := HKG.out.many; omega))
              clear hownH hbH HPG HTX
              go_wp2_with fail
              refine HEQ.out.mono ?_
              rintro eI wI ⟨rfl, hbI⟩
              have HPI := Lib.hid (HPH.out.below_ hbI)
              clear hbI HPH HEQ
              go_wp2_with fail
              exact ⟨HPI.out.relN HKG.out HRC.out HTP.out (by omega) (by exact HCN.out), by simp [intOf]; omega⟩
            by_cases hz4 : z = 4
            · subst hz4
              obtain ⟨hd7, hl7⟩ := HC.out.full rfl
              subst hd7
              subst hl7
              have hml := HK.out.many
              have HFL : Hid (480 * (n - L7.end_) < nn ∨ L7.end_ = n) := (many_iff nn L7.end_ n hml.2.2.2.1).1 (Nat.lt_of_not_le fun h => HC.out.some_ (by rw [HP7.out.rd.len]; exact h) rfl)
              have HKL := Lib.hid HK.out
              have HRC : Hid (L7.recs = tk) := HKS.out.symm
              have HTP : Hid (L7.top ≤ 300 * (k + 1)) := by show _ ≤ _; omega
              have hrm := room_st HP7.out.lw (by omega) hml.2.2.2.1
              obtain ⟨R, hR⟩ : ∃ R, R = n - L7.end_ := ⟨_, rfl⟩
              rw [← hR] at hrm
              have HRM := Lib.hid hrm
              have HRR := Lib.hid hR
              have hRl : R ≤ 20 := by omega
              clear hrm hR HC hml
              by_cases hR0 : R = 0
              · subst hR0
                go_wp2_with fail
                refine HRM.out.mono ?_
                rintro eT wT ⟨rfl, hbT⟩
                have HP8 := Lib.hid (HP7.out.below_ hbT)
                clear hbT HP7 HRM
                go_wp2_with fail
                refine (fuse_lw HP8.out.lw (-1) (by decide) (by decide)).mono ?_
                intro eF wF hqF
                obtain ⟨rfl, ZF, hpF⟩ := HP8.out.turn hqF
                have HPF := Lib.hid hpF
                have HKG := Lib.hid (kl_fuse HKL.out (-1) (by decide) (by decide))
                clear hqF hpF HP8 HKL
                go_wp2_with fail
                refine (batches_st HPF.out.lw (by have := HKG.out.many; omega) HKG.out.sz).mono ?_
                rintro eG wG ⟨AG, cG, vsG, rfl, hownG, hfrG, hbG⟩
                have HPG := Lib.hid (HPF.out.below_ hbG)
                rw [HRC.out] at hownG hfrG ⊢
                have HTX := Lib.hid (texts_any hownG hfrG (by rw [← HRC.out]; have := HKG.out.many; omega))
                clear hownG hfrG hbG HPF
                go_wp2_with fail
                refine HTX.out.mono ?_
                rintro eH wH ⟨AH, cH, rfl, hownH, hbH⟩
                have HPH := Lib.hid (HPG.out.below_ hbH)
                have HEQ := Lib.hid (equal_any (c := cH) (d := c1) (RdV.of_own hownH).1 HPH.out.rk (by rw [← HRC.out]; have := HKG.out.many; omega) (by rw [← HRC.out]; have := HKG.out.many; omega))
                clear hownH hbH HPG HTX
                go_wp2_with fail
                refine HEQ.out.mono ?_
                rintro eI wI ⟨rfl, hbI⟩
                have HPI := Lib.hid (HPH.out.below_ hbI)
                clear hbI HPH HEQ
                go_wp2_with fail
                exact ⟨HPI.out.relK HKG.out HRC.out HTP.out (by omega) (by exact hc1), by simp [intOf]; omega⟩
              · have hr1 : (0 < R) = True := eq_true (by omega)
                have hr2 : ((nn : Int) ≤ 480 * (R : Int)) = False := eq_false (by have := HFL.out; have := HRR.out; omega)
                go_wp2_with fail
                refine HRM.out.mono ?_
                rintro eT wT ⟨rfl, hbT⟩
                have HP8 := Lib.hid (HP7.out.below_ hbT)
                have hrm := room_st HP8.out.lw (by omega) (HKL.out.many).2.2.2.1
                rw [← HRR.out] at hrm
                have HRM2 := Lib.hid hrm
                clear hbT HP7 HRM hrm
                go_wp2_with fail
                refine HRM2.out.mono ?_
                rintro eU wU ⟨rfl, hbU⟩
                have HP9 := Lib.hid (HP8.out.below_ hbU)
                clear hbU HP8 HRM2
                go_wp2_with fail
                refine (fuse_lw HP9.out.lw (-1) (by decide) (by decide)).mono ?_
                intro eF wF hqF
                obtain ⟨rfl, ZF, hpF⟩ := HP9.out.turn hqF
                have HPF := Lib.hid hpF
                have HKG := Lib.hid (kl_fuse HKL.out (-1) (by decide) (by decide))
                clear hqF hpF HP9 HKL
                go_wp2_with fail
                refine (batches_st HPF.out.lw (by have := HKG.out.many; omega) HKG.out.sz).mono ?_
                rintro eG wG ⟨AG, cG, vsG, rfl, hownG, hfrG, hbG⟩
                have HPG := Lib.hid (HPF.out.below_ hbG)
                rw [HRC.out] at hownG hfrG ⊢
                have HTX := Lib.hid (texts_any hownG hfrG (by rw [← HRC.out]; have := HKG.out.many; omega))
                clear hownG hfrG hbG HPF
                go_wp2_with fail
                refine HTX.out.mono ?_
                rintro eH wH ⟨AH, cH, rfl, hownH, hbH⟩
                have HPH := Lib.hid (HPG.out.below_ hbH)
                have HEQ := Lib.hid (equal_any (c := cH) (d := c1) (RdV.of_own hownH).1 HPH.out.rk (by rw [← HRC.out]; have := HKG.out.many; omega) (by rw [← HRC.out]; have := HKG.out.many; omega))
                clear hownH hbH HPG HTX
                go_wp2_with fail
                refine HEQ.out.mono ?_
                rintro eI wI ⟨rfl, hbI⟩
                have HPI := Lib.hid (HPH.out.below_ hbI)
                clear hbI HPH HEQ
                go_wp2_with fail
                exact ⟨HPI.out.relK HKG.out HRC.out HTP.out (by omega) (by exact hc1), by simp [intOf]; omega⟩
            · have hst := try_dead (b := tt) HK.out.up HK.out.row (kept := tk) (by rw [HK.out.recs, HKS.out]) (by omega) (by omega) (by rw [← HC.out.ans]; exact hz) (by rw [← HC.out.ans]; exact hz4) zs
              have HRW : Hid (d7.row.length ≤ 1000000) := by
                show _ ≤ _
                rw [HC.out.disk]
                refine Nat.le_trans commitF_row ?_
                rw [HK.out.row, HP7.out.rd.len]
                show 0 + 1 + manyOf nn ≤ _
                unfold manyOf
                omega
              rw [← HC.out.disk, ← HC.out.ans] at hst
              obtain ⟨hz9, hst⟩ := hst
              have hmet := HC.out.bad hz hz4
              subst hz9
              obtain ⟨bs, HBS, HST⟩ : ∃ bs, Hid (bs = tk ∨ bs = NX) ∧ Hid (Stands (d7.restart zs) 0 n (Log.upTo (L.top + 2)) bs) := by
                rcases hst with r | r
                · exact ⟨_, .inl rfl, r⟩
                · exact ⟨_, .inr (by rw [HNX.out, HKS.out]), r⟩
              have HSZ : Hid (∀ b ∈ bs, b.length ≤ 3000000) := fun b hb => by
                rcases HBS.out with r | r
                · rw [r, HKS.out] at hb; exact HK.out.sz b hb
                · rw [r, HNX.out] at hb
                  rcases List.mem_append.1 hb with hb | hb
                  · exact HK.out.sz b hb
                  · rw [List.mem_singleton.1 hb, HP7.out.rd.len]; omega
              have HNL : Hid (NX.length ≤ 100000) := by
                show _ ≤ _
                rw [HNX.out, List.length_append]
                show _ + 1 ≤ _
                omega
              clear hst HC hz hz4
              go_wp2_with fail
              refine (restart_lw HP7.out.lw F mF cF zs (HF.out.below HP7.out.lw.below) (fun h0 a ha hz => by
                subst ha
                obtain ⟨ad, e, hc⟩ := HF.out.cells h0
                injection e with e
                subst e
                have h1 := World.block_lt_of_cell? w _ (hc 0 _ (List.getElem?_eq_getElem (by rw [HF.out.len]; exact h0)))
                rw [addr_add_block] at h1
                have := HP7.out.lw.own _ hz
                omega) (by omega) HRW.out).mono ?_
              intro eS wS hqS
              obtain ⟨rfl, ZS, hpS⟩ := HP7.out.turn hqS
              have HPS := Lib.hid hpS
              clear hqS hpS HP7
              go_wp2_with fail
              refine (again_lw HPS.out.lw hmet HST.out (by unfold Log.upTo; omega) HSZ.out).mono ?_
              rintro eO wO ⟨g', ZO, LO, rfl, hlO, hKO, hrO, htO, hbO, hsO, hcm⟩
              have HPO := Lib.hid (HPS.out.to hlO (Out.of_below hbO) hsO)
              have HKL := Lib.hid hKO
              have HRC := Lib.hid hrO
              have HTP : Hid (LO.top ≤ 300 * (k + 1)) := by
                show _ ≤ _
                unfold Log.upTo at htO
                omega
              have HCM := Lib.hid hcm
              clear hlO hKO hrO htO hbO hsO hcm HPS HST hmet
              go_wp2_with fail
              refine HCM.out.mono ?_
              rintro eC _ ⟨rfl, rfl⟩
              clear HCM
              go_wp2_with fail
              refine (batches_st HPO.out.lw (by have := HKL.out.many; omega) HKL.out.sz).mono ?_
              rintro e1 w1' ⟨B1, b1, vs1, rfl, hown1, hfr1, hb1⟩
              have HP1 := Lib.hid (HPO.out.below_ hb1)
              rw [HRC.out] at hown1 hfr1 ⊢
              have HTX1 := Lib.hid (texts_any hown1 hfr1 (by rw [← HRC.out]; have := HKL.out.many; omega))
              clear hown1 hfr1 hb1 HPO
              go_wp2_with fail
              refine HTX1.out.mono ?_
              rintro e2 w2' ⟨B2, b2, rfl, hown2, hb2⟩
              have HP2 := Lib.hid (HP1.out.below_ hb2)
              have HEQ1 := Lib.hid (equal_any (c := b2) (d := cN) (RdV.of_own hown2).1 HP2.out.rn (by rw [← HRC.out]; have := HKL.out.many; omega) HNL.out)
              clear hown2 hb2 HP1 HTX1
              go_wp2_with fail
              refine HEQ1.out.mono ?_
              rintro e3 w3' ⟨rfl, hb3⟩
              have HP3 := Lib.hid (HP2.out.below_ hb3)
              clear hb3 HP2 HEQ1
              by_cases heq : bs = NX
              · have hbe : (bs == NX) = true := by rw [heq]; exact beq_self_eq_true _
                rw [hbe]
                replace HRC : Hid (LO.recs = NX) := HRC.out.trans heq
                clear hbe heq
                go_wp2_with fail
                refine (fuse_lw HP3.out.lw (-1) (by decide) (by decide)).mono ?_
                intro eF wF hqF
                obtain ⟨rfl, ZF, hpF⟩ := HP3.out.turn hqF
                have HPF := Lib.hid hpF
                have HKG := Lib.hid (kl_fuse HKL.out (-1) (by decide) (by decide))
                clear hqF hpF HP3 HKL
                go_wp2_with fail
                refine (batches_st HPF.out.lw (by have := HKG.out.many; omega) HKG.out.sz).mono ?_
                rintro eG wG ⟨AG, cG, vsG, rfl, hownG, hfrG, hbG⟩
                have HPG := Lib.hid (HPF.out.below_ hbG)
                rw [HRC.out] at hownG hfrG ⊢
                have HTX := Lib.hid (texts_any hownG hfrG (by rw [← HRC.out]; have := HKG.out.many; omega))
                clear hownG hfrG hbG HPF
                go_wp2_with fail
                refine HTX.out.mono ?_
                rintro eH wH ⟨AH, cH, rfl, hownH, hbH⟩
                have HPH := Lib.hid (HPG.out.below_ hbH)
                have HEQ := Lib.hid (equal_any (c := cH) (d := cN) (RdV.of_own hownH).1 HPH.out.rn (by rw [← HRC.out]; have := HKG.out.many; omega) (by rw [← HRC.out]; have := HKG.out.many; omega))
                clear hownH hbH HPG HTX
                go_wp2_with fail
                refine HEQ.out.mono ?_
                rintro eI wI ⟨rfl, hbI⟩
                have HPI := Lib.hid (HPH.out.below_ hbI)
                clear hbI HPH HEQ
                go_wp2_with fail
                exact ⟨HPI.out.relN HKG.out HRC.out HTP.out (by omega) (by exact HCN.out), by simp [intOf]; omega⟩
              · have hbe : (bs == NX) = false := beq_eq_false_iff_ne.2 heq
                rw [hbe]
                replace HRC : Hid (LO.recs = tk) := HRC.out.trans (HBS.out.resolve_right heq)
                clear hbe heq
                go_wp2_with fail
                refine (fuse_lw HP3.out.lw (-1) (by decide) (by decide)).mono ?_
                intro eF wF hqF
                obtain ⟨rfl, ZF, hpF⟩ := HP3.out.turn hqF
                have HPF := Lib.hid hpF
                have HKG := Lib.hid (kl_fuse HKL.out (-1) (by decide) (by decide))
                clear hqF hpF HP3 HKL
                go_wp2_with fail
                refine (batches_st HPF.out.lw (by have := HKG.out.many; omega) HKG.out.sz).mono ?_
                rintro eG wG ⟨AG, cG, vsG, rfl, hownG, hfrG, hbG⟩
                have HPG := Lib.hid (HPF.out.below_ hbG)
                rw [HRC.out] at hownG hfrG ⊢
                have HTX := Lib.hid (texts_any hownG hfrG (by rw [← HRC.out]; have := HKG.out.many; omega))
                clear hownG hfrG hbG HPF
                go_wp2_with fail
                refine HTX.out.mono ?_
                rintro eH wH ⟨AH, cH, rfl, hownH, hbH⟩
                have HPH := Lib.hid (HPG.out.below_ hbH)
                have HEQ := Lib.hid (equal_any (c := cH) (d := c1) (RdV.of_own hownH).1 HPH.out.rk (by rw [← HRC.out]; have := HKG.out.many; omega) (by rw [← HRC.out]; have := HKG.out.many; omega))
                clear hownH hbH HPG HTX
                go_wp2_with fail
                refine HEQ.out.mono ?_
                rintro eI wI ⟨rfl, hbI⟩
                have HPI := Lib.hid (HPH.out.below_ hbI)
                clear hbI HPH HEQ
                go_wp2_with fail
                exact ⟨HPI.out.relK HKG.out HRC.out HTP.out (by omega) (by exact hc1), by simp [intOf]; omega⟩
    · obtain rfl : k = m := by omega
      go_wp2_with fail
      refine (wakes_any wr).mono ?_
      rintro e w14 ⟨rfl, hb⟩
      have HB14 := Lib.hid (HL.out.below.trans (hb.mono HL.out.below.size))
      clear hb
      go_wp2_with fail
      go_ret
      exact ⟨rfl, HB14.out⟩

set_option maxRecDepth 100000 in
theorem lifted (os : Os) (started : os.Started) (H : Type) (enc : TypeId × Value → H) :
    ReturnsInHanded {} Try.checked os 4 .any (Rows.logPowerSpec.pre6 enc Try.prog Try.f4 Rows.logPowerRow.domain false) (Rows.logPowerSpec.post enc Try.prog Try.f4 false true false false) := by
  refine returnsInHanded_of_change (C := Try.checked) own started (by kernel_rfl) Try.func4
    (ChangeSpec.witness6 (enc := enc) (C := Try.checked) false ⟨#[], #[.int .u8 0, .slice none 0 0, .slice none 0 0], []⟩ 8 (by kernel_rfl) (by kernel_rfl) (by kernel_rfl) (by kernel_rfl)) ?_
  intro W base args ds gs before hval0 hW hcnd _
  have hval : ∀ (j : Nat) t v, Try.f4.params[j]? = some t → args[j]? = some v → Value.okWide Try.prog W .any base t v := hval0
  have hW' := hW
  obtain ⟨p, q, hA0, hV, rfl, hfz, hnd⟩ := hW
  have hA : DataW.TrodAll enc Try.prog W 0 (fun _ => true) true Try.f4.params.toList args.toList ds p := hA0
  rw [Try.params4] at hA hval
  obtain ⟨v0, v1, v2, d0, d1, d2, p0, p1, p2, rfl, rfl, rfl, h0, h1, h2⟩ := trodAll_three hA
  obtain ⟨rfl, rfl⟩ := trodVars_none hV
  obtain ⟨a0, rfl, ha⟩ := open_u8n ty_byte (hval 0 _ v0 rfl rfl) h0
  obtain ⟨A, n, c, xs, rfl, hnc, hc, hxs⟩ := arg_tries (hval 1 _ v1 rfl rfl) h1
  obtain ⟨F, m, cF, zs, rfl, hmc, hcF, hzs⟩ := arg_ints (hval 2 _ v2 rfl rfl) h2
  refine (walk a0 A n c xs F m cF zs W ha hxs (Nat.le_trans hnc hc) hzs (Nat.le_trans hmc hcF)).mono fun e W' ⟨he, hb⟩ => ?_
  subst he
  exact ⟨_, rfl, post_true laidOut (by kernel_rfl) ty_bool (by kernel_rfl) rfl hW' hb rfl⟩

theorem over : Rows.logPowerRow.holds Try.pinned (OpenSpec.ofChange Rows.logPowerSpec) :=
  OpenClaim.holds_of_wide 4 Try.f4 rfl rfl rfl rfl rfl rfl rfl ⟨rfl, rfl, rfl, rfl, rfl⟩ rfl rfl rfl rfl rfl (by kernel_rfl) Try.func4 (by kernel_rfl)
    (of_decide_eq_true (by kernel_rfl)) (by unfold Func.isWrapper; first | (rw [if_pos (by decide +kernel)]; kernel_rfl) | (rw [if_neg (by decide +kernel)]; exact ⟨rfl, rfl⟩))
    (fun os started H enc _ => lifted os started H enc)

theorem proved : Rows.LogPowerSaid :=
  over
end Go.Proofs.Ytikpedkckijioaa.logPower
