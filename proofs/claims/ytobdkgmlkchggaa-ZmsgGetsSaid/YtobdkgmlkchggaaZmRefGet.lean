/- The document's own Get. -/
import Derived.Test.YtobdkgmlkchggaaZmRef
import Derived.Test.YtobdkgmlkchggaaZmGet
import Derived.Test.YtobdkgmlkchggaaRefQ
import Derived.Test.YtobdkgmlkchggaaZmSame
namespace Go.Proofs.Ytobdkgmlkchggaa.Zm
open Go.RowKit Disk Log Sto
open PhaseG (wp_append_pool own_same own_out own_lt own_slice out_grownBy run_append_rd)
open PhaseP (wp_region_pool Took GG)
open Phase (stepsL_cons stepsL_nil)

set_option maxHeartbeats 1000000 in
theorem rnumber_any {A : Option Addr} {n c : Nat} {bs : List UInt8} (q : Nat) (s : List UInt8 × Bool) (w : World) (h : RefQ A n c bs w q s) :
    Calls Try.prog 33 #[.pointer (some ⟨q, 0, none⟩), .int .i64 256] w (RefVQ A n c bs w q (.int .i64 ((countS 256 s).1 : Int)) (countS 256 s).2) := by
  have H := Lib.hid h
  have hv := takeS_val8 8 s (by omega)
  clear h
  by_cases h1 : (256 : Int) < (val (takeS 8 s).1 : Int)
  · have hs : countS 256 s = (0, ((takeS 8 s).2.1, true)) := by unfold countS; rw [if_pos (.inr h1)]
    rw [hs]
    clear hs
    go_enter Try.func33, Try.ntmps33
    go_wp2_with fail
    refine (sUint_anyQ q s w H.out).mono ?_
    rintro e w1 ⟨rfl, h1', h2⟩
    have H1 := Lib.hid h1'
    have H2 := Lib.hid h2
    obtain ⟨c2, f2⟩ := refQ_cells h1'
    clear h1' h2
    go_wp2_with fail
    go_ret
    exact ⟨rfl, refQ_bad H1.out, grown_trans H2.out (grown_set _ _ _ _)⟩
  · have hs : countS 256 s = (val (takeS 8 s).1, (takeS 8 s).2) := by unfold countS; rw [if_neg (by omega)]
    rw [hs]
    clear hs
    go_enter Try.func33, Try.ntmps33
    go_wp2_with fail
    refine (sUint_anyQ q s w H.out).mono ?_
    rintro e w1 ⟨rfl, h1', h2⟩
    have H1 := Lib.hid h1'
    have H2 := Lib.hid h2
    clear h1' h2
    go_wp2_with fail
    go_ret
    exact ⟨rfl, H1.out, H2.out⟩
theorem keeps_refQ (A : Option Addr) (n c : Nat) (bs : List UInt8) (q : Nat) (s : List UInt8 × Bool) : Keeps (fun W => RefQ A n c bs W q s) q (fun b => ∃ a, A = some a ∧ a.block = b) := fun _ _ _ h ho hr hk => h.out ho hr fun a ha => hk _ ⟨a, ha, rfl⟩
/-- The region that reads a line. -/
def conR (i : Nat) : List Nat := if i = 6 then [3, 5] else if i = 7 then [6] else if i = 8 then [7] else if i = 9 then [1, 8] else if i = 11 then [9] else []
def GRt (row : Value) (r M : Nat) (i b : Nat) : Prop := (i = 1 ∧ row.ownBlock = some b) ∨ (i = 5 ∧ b = r) ∨ (i = 11 ∧ b = M)
def OR (r M k : Nat) (i : Nat) (x : Value) (W : World) (b : Nat) : Prop := match i with
  | 1 => x.ownBlock = some b
  | 3 => x.ownBlock = some b
  | 5 => b = r
  | 6 => OT r x b
  | 7 => b = r ∨ ∃ y e, x = .agg #[e, y] ∧ y.ownBlock = some b
  | 8 => OOne r x W b
  | 9 => ORow r k x W b
  | 11 => b = M ∨ ORow r k x W b
  | _ => False
def RR (RD2 : World → Prop) (B M r k e : Nat) (t : List UInt8) (K : Nat → Prop) (row : Value) (cs hdC : List Value) : Nat → Value → World → Prop
  | 0, x, _ => x = .pointer (some ⟨M, 5, none⟩)
  | 1, x, W => x = row ∧ W.ownsRow B 37 2 x k cs
  | 2, x, _ => x = .int .u64 (e : Int)
  | 3, x, W => W.ownsRow B 5 1 x 0 []
  | 4, x, _ => x = .pointer (some ⟨r, 0, none⟩)
  | 5, x, W => RD2 W ∧ ∃ A n c, x = .slice A n c ∧ Rd W A n t ∧ ∀ a, A = some a → K a.block
  | 6, x, W => TX RD2 B t x W
  | 7, x, W => ∃ y, x = .agg #[.int .u64 (e : Int), y] ∧ TX RD2 B t y W
  | 8, x, W => One RD2 B e t x W
  | 9, x, W => RowT RD2 B e k t cs x W
  | 10, x, _ => x = .pointer (some ⟨M, 5, none⟩)
  | 11, x, W => Bk W M 25 (hdC ++ [x]).toArray ∧ RowT RD2 B e k t cs x W
  | _, _, _ => True
theorem RR.out {RD2 : World → Prop} {B M r k e : Nat} {t : List UInt8} {row : Value} {cs hdC : List Value} {K : Nat → Prop} (hk2 : Keeps RD2 r K) (hcs : cs.length = 2 * k) (i : Nat) (x : Value) (Z : Nat → Prop) (W W' : World) (hx : RR RD2 B M r k e t K row cs hdC i x W) (ho : Out Z W W') (hK : ∀ b, K b → ¬ Z b) (hn : ∀ b, OR r M k i x W b → ¬ Z b) :
    RR RD2 B M r k e t K row cs hdC i x W' ∧ ∀ b, OR r M k i x W' b → OR r M k i x W b := by
  match i, hx with
  | 0, q => exact ⟨q, fun b hb => hb⟩
  | 1, q => exact ⟨⟨q.1, own_out q.2 ho fun b hb => hn b hb⟩, fun b hb => hb⟩
  | 2, q => exact ⟨q, fun b hb => hb⟩
  | 3, q => exact ⟨own_out q ho fun b hb => hn b hb, fun b hb => hb⟩
  | 4, q => exact ⟨q, fun b hb => hb⟩
  | 5, ⟨q, A, n, c, e1, h1, h2⟩ => exact ⟨⟨hk2 Z W W' q ho (hn r rfl) hK, A, n, c, e1, rd_out h1 ho fun a ha => hK _ (h2 a ha), h2⟩, fun b hb => hb⟩
  | 6, q => exact ⟨TX.out hk2 q ho hK hn, fun b hb => hb⟩
  | 7, ⟨y, e1, q⟩ => exact ⟨⟨y, e1, q.out hk2 ho hK fun b hb => hn b (hb.elim .inl fun z => .inr ⟨y, _, e1, z⟩)⟩, fun b hb => hb⟩
  | 8, q => exact One.out hk2 q ho hK hn
  | 9, q => exact RowT.out hk2 hcs q ho hK hn
  | 10, q => exact ⟨q, fun b hb => hb⟩
  | 11, q =>
    have h1 := RowT.out hk2 hcs q.2 ho hK fun b hb => hn b (.inr hb)
    exact ⟨⟨q.1.kept (ho.block M q.1.lt (hn M (.inl rfl))), h1.1⟩, fun b hb => hb.imp id (h1.2 b)⟩
  | _ + 12, _ => exact ⟨trivial, fun b hb => hb⟩
def RelQ (w0 : World) (M q : Nat) (A : Option Addr) (n c : Nat) (b : List UInt8) (i : Value) (wr : World) : Prop :=
  ∃ (k : Nat) (Ar : Option Addr) (cr : Nat) (xs : List Value), k ≤ nOf b ∧ i = .int .i64 (k : Int) ∧ Bk wr M 25 (mgC (said b) Ar k cr) ∧ wr.ownsRow w0.heap.size 37 2 (.slice Ar k cr) k (lnsC (linesS k (s6 b)).1 xs) ∧ Fresh w0.heap.size wr xs ((linesS k (s6 b)).1.map (·.bytes)) ∧ RefQ A n c b wr q (linesS k (s6 b)).2 ∧ Out (fun b => b = q ∨ b = M) w0 wr
set_option maxRecDepth 100000 in
set_option maxHeartbeats 8000000 in
theorem rget_any (A : Option Addr) (n c : Nat) (bs : List UInt8) (w : World) (h : Rd w A n bs) (hn : n ≤ 100000) (hnc : n ≤ c) (hA : ∀ a, A = some a → a.block < w.heap.size) :
    Calls Try.prog 15 #[.slice A n c] w (GetPost bs w) := by
  obtain ⟨w0, hw0⟩ : ∃ w0, w0 = ((w.alloc (.cells #[.int .u8 0, .int .u64 0, .int .u64 0, .int .i64 0, .int .i64 0, .slice none 0 0] 25)).alloc (.cells #[.int .u8 0, .int .u64 0, .int .u64 0, .int .i64 0, .int .i64 0, .slice none 0 0] 25)).alloc (.cells #[.slice A n c, .int .i64 0, .bool false] 55) := ⟨_, rfl⟩
  have hb0 : Below w.heap.size w w0 := by rw [hw0]; exact (((Below.refl _ _).alloc (Nat.le_refl _) _).alloc (by simp) _).alloc (by simp; omega) _
  have hz0 : Bk w0 w.heap.size 25 zeroC := by rw [hw0]; exact ((Bk.new w _ _).alloc _).alloc _
  have hm0 : Bk w0 (w.heap.size + 1) 25 zeroC := by
    have q := Bk.new (w.alloc (.cells #[.int .u8 0, .int .u64 0, .int .u64 0, .int .i64 0, .int .i64 0, .slice none 0 0] 25)) 25 zeroC
    rw [World.size_alloc] at q
    rw [hw0]
    exact q.alloc _
  have hs0 : Bk w0 (w.heap.size + 1 + 1) 55 #[.slice A n c, .int .i64 0, .bool false] := by
    have q := Bk.new ((w.alloc (.cells #[.int .u8 0, .int .u64 0, .int .u64 0, .int .i64 0, .int .i64 0, .slice none 0 0] 25)).alloc (.cells #[.int .u8 0, .int .u64 0, .int .u64 0, .int .i64 0, .int .i64 0, .slice none 0 0] 25)) 55 #[.slice A n c, .int .i64 0, .bool false]
    rw [World.size_alloc, World.size_alloc] at q
    rw [hw0]
    exact q
  have hm0' := hm0
  clear hm0
  obtain ⟨M, hM⟩ : ∃ M, M = w.heap.size + 1 := ⟨_, rfl⟩
  obtain ⟨q, hq⟩ : ∃ q, q = w.heap.size + 1 + 1 := ⟨_, rfl⟩
  have hrf : RefQ A n c bs w0 q (bs, false) := ⟨0, by rw [hq]; exact hs0, hnc, hn, Nat.zero_le _, h.below hb0, rfl⟩
  have HAB : Hid (∀ a, A = some a → a.block < w.heap.size) := hA
  have HLEN : Hid (bs.length = n) := h.len
  have HB0 := Lib.hid hb0
  have HZ0 := Lib.hid hz0
  have hm0 : Bk w0 M 25 zeroC := by rw [hM]; exact hm0'
  have HM0 := Lib.hid hm0
  have HS0 := Lib.hid hrf
  have HWE := Lib.hid hw0
  have HMQ : Hid (M = w.heap.size + 1 ∧ q = w.heap.size + 2) := ⟨hM, hq⟩
  have ho : Out (fun b => b = q ∨ b = M) w0 w0 := Out.refl _ _
  have HO0 := Lib.hid ho
  clear h hb0 hz0 hm0 hm0' hs0 hrf hw0 ho hA
  go_enter Try.func15, Try.ntmps15
  go_wp2_with fail
  rw [← HWE.out, ← hq, ← hM]
  have HEM := Lib.hid hM
  have HEQ := Lib.hid hq
  clear hM hq
  have k8 : ((val (takeS 1 (bs, false)).1 : Nat) : Int) % 256 = ((said bs).kind : Int) := by
    have := (said_ok bs).1
    have e : val (takeS 1 (bs, false)).1 = (said bs).kind := rfl
    rw [e]
    omega
  have k8' : IntKind.u8.wrap ((val (takeS 1 (bs, false)).1 : Nat) : Int) = ((said bs).kind : Int) := by
    rw [← k8]
    rfl
  refine (Take_anyQ q 1 1 (bs, false) w0 HS0.out rfl).mono ?_
  rintro e v1 ⟨A1, n1, c1, rfl, hr, hR, hg, -⟩
  have HD := Lib.hid hr
  have HR1 := Lib.hid hR
  have HU1 : Hid (Out (fun b => b = q ∨ b = M) w0 v1) := HO0.out.trans (out_grownBy hg) fun b hb => .inl (.inl (by injection hb with hb; exact hb.symm))
  have HN1 : Hid (Bk v1 M 25 zeroC) := HM0.out.kept ((out_grownBy hg).block M HM0.out.lt (fun hb => by injection hb with hb; have := HMQ.out; omega))
  clear hr hR hg
  go_wp2_with fail
  refine (Value_any A1 n1 c1 _ v1 HD.out (by have := HD.out.len; have := takeS_len 1 (bs, false); omega)).mono ?_
  rintro e _ ⟨rfl, rfl⟩
  have m0 : v1.cell? ⟨M, 0, none⟩ = some (.int .u8 0) := HN1.out.cell 0
  have f0 := HN1.out.frozen 0
  go_wp2_with fail
  have hoo1 : Out (fun b => b = M) v1 (v1.setCell ⟨M, 0, none⟩ (.int .u8 ((said bs).kind : Int))) := Out.setCell (X := fun b => b = M) v1 (p := ⟨M, 0, none⟩) rfl _
  have hN : Bk (v1.setCell ⟨M, 0, none⟩ (.int .u8 ((said bs).kind : Int))) M 25 #[.int .u8 ((said bs).kind : Int), .int .u64 0, .int .u64 0, .int .i64 0, .int .i64 0, .slice none 0 0] := by
    have z := HN1.out.set 0 (.int .u8 ((said bs).kind : Int))
    simpa [zeroC] using z
  have hR : RefQ A n c bs (v1.setCell ⟨M, 0, none⟩ (.int .u8 ((said bs).kind : Int))) q (s1 bs) := HR1.out.out hoo1 (by have := HMQ.out; omega) (fun a ha hb => by have := HAB.out a ha; have := HMQ.out; omega)
  obtain ⟨y1, hy1⟩ : ∃ y, y = v1.setCell ⟨M, 0, none⟩ (.int .u8 ((said bs).kind : Int)) := ⟨_, rfl⟩
  rw [← hy1] at hN hR hoo1 ⊢
  have HNy1 := Lib.hid hN
  have HRy1 := Lib.hid hR
  have HUy1 : Hid (Out (fun b => b = q ∨ b = M) w0 y1) := HU1.out.trans hoo1 fun b hb => .inl (.inr hb)
  clear hN hR hoo1 hy1 m0 f0 HN1 HR1 HU1
  have K1 : Calls Try.prog 32 #[.pointer (some ⟨q, 0, none⟩)] y1 (RefVQ A n c bs y1 q (.int .u64 ((said bs).epoch : Int)) (s2 bs)) := sUint_anyQ q _ y1 HRy1.out
  refine K1.mono ?_
  rintro e v2 ⟨rfl, hR, hg⟩
  have HR2 := Lib.hid hR
  have HU2 : Hid (Out (fun b => b = q ∨ b = M) w0 v2) := HUy1.out.trans (out_grownBy hg) fun b hb => .inl (.inl (by injection hb with hb; exact hb.symm))
  have HN2 : Hid (Bk v2 M 25 #[.int .u8 ((said bs).kind : Int), .int .u64 0, .int .u64 0, .int .i64 0, .int .i64 0, .slice none 0 0]) := HNy1.out.kept ((out_grownBy hg).block M HNy1.out.lt (fun hb => by injection hb with hb; have := HMQ.out; omega))
  have m0 : v2.cell? ⟨M, 1, none⟩ = some (.int .u64 0) := HN2.out.cell 1
  have f0 := HN2.out.frozen 1
  clear hR hg K1 HNy1 HRy1 HUy1
  go_wp2_with fail
  have hoo2 : Out (fun b => b = M) v2 (v2.setCell ⟨M, 1, none⟩ (.int .u64 ((said bs).epoch : Int))) := Out.setCell (X := fun b => b = M) v2 (p := ⟨M, 1, none⟩) rfl _
  have hN : Bk (v2.setCell ⟨M, 1, none⟩ (.int .u64 ((said bs).epoch : Int))) M 25 #[.int .u8 ((said bs).kind : Int), .int .u64 ((said bs).epoch : Int), .int .u64 0, .int .i64 0, .int .i64 0, .slice none 0 0] := by
    have z := HN2.out.set 1 (.int .u64 ((said bs).epoch : Int))
    simpa [zeroC] using z
  have hR : RefQ A n c bs (v2.setCell ⟨M, 1, none⟩ (.int .u64 ((said bs).epoch : Int))) q (s2 bs) := HR2.out.out hoo2 (by have := HMQ.out; omega) (fun a ha hb => by have := HAB.out a ha; have := HMQ.out; omega)
  obtain ⟨y2, hy2⟩ : ∃ y, y = v2.setCell ⟨M, 1, none⟩ (.int .u64 ((said bs).epoch : Int)) := ⟨_, rfl⟩
  rw [← hy2] at hN hR hoo2 ⊢
  have HNy2 := Lib.hid hN
  have HRy2 := Lib.hid hR
  have HUy2 : Hid (Out (fun b => b = q ∨ b = M) w0 y2) := HU2.out.trans hoo2 fun b hb => .inl (.inr hb)
  clear hN hR hoo2 hy2 m0 f0 HN2 HR2 HU2
  have K1 : Calls Try.prog 32 #[.pointer (some ⟨q, 0, none⟩)] y2 (RefVQ A n c bs y2 q (.int .u64 ((said bs).current : Int)) (s3 bs)) := sUint_anyQ q _ y2 HRy2.out
  refine K1.mono ?_
  rintro e v3 ⟨rfl, hR, hg⟩
  have HR3 := Lib.hid hR
  have HU3 : Hid (Out (fun b => b = q ∨ b = M) w0 v3) := HUy2.out.trans (out_grownBy hg) fun b hb => .inl (.inl (by injection hb with hb; exact hb.symm))
  have HN3 : Hid (Bk v3 M 25 #[.int .u8 ((said bs).kind : Int), .int .u64 ((said bs).epoch : Int), .int .u64 0, .int .i64 0, .int .i64 0, .slice none 0 0]) := HNy2.out.kept ((out_grownBy hg).block M HNy2.out.lt (fun hb => by injection hb with hb; have := HMQ.out; omega))
  have m0 : v3.cell? ⟨M, 2, none⟩ = some (.int .u64 0) := HN3.out.cell 2
  have f0 := HN3.out.frozen 2
  clear hR hg K1 HNy2 HRy2 HUy2
  go_wp2_with fail
  have hoo3 : Out (fun b => b = M) v3 (v3.setCell ⟨M, 2, none⟩ (.int .u64 ((said bs).current : Int))) := Out.setCell (X := fun b => b = M) v3 (p := ⟨M, 2, none⟩) rfl _
  have hN : Bk (v3.setCell ⟨M, 2, none⟩ (.int .u64 ((said bs).current : Int))) M 25 #[.int .u8 ((said bs).kind : Int), .int .u64 ((said bs).epoch : Int), .int .u64 ((said bs).current : Int), .int .i64 0, .int .i64 0, .slice none 0 0] := by
    have z := HN3.out.set 2 (.int .u64 ((said bs).current : Int))
    simpa [zeroC] using z
  have hR : RefQ A n c bs (v3.setCell ⟨M, 2, none⟩ (.int .u64 ((said bs).current : Int))) q (s3 bs) := HR3.out.out hoo3 (by have := HMQ.out; omega) (fun a ha hb => by have := HAB.out a ha; have := HMQ.out; omega)
  obtain ⟨y3, hy3⟩ : ∃ y, y = v3.setCell ⟨M, 2, none⟩ (.int .u64 ((said bs).current : Int)) := ⟨_, rfl⟩
  rw [← hy3] at hN hR hoo3 ⊢
  have HNy3 := Lib.hid hN
  have HRy3 := Lib.hid hR
  have HUy3 : Hid (Out (fun b => b = q ∨ b = M) w0 y3) := HU3.out.trans hoo3 fun b hb => .inl (.inr hb)
  clear hN hR hoo3 hy3 m0 f0 HN3 HR3 HU3
  have K1 : Calls Try.prog 33 #[.pointer (some ⟨q, 0, none⟩), .int .i64 256] y3 (RefVQ A n c bs y3 q (.int .i64 (said bs).at_) (s4 bs)) := rnumber_any q _ y3 HRy3.out
  refine K1.mono ?_
  rintro e v4 ⟨rfl, hR, hg⟩
  have HR4 := Lib.hid hR
  have HU4 : Hid (Out (fun b => b = q ∨ b = M) w0 v4) := HUy3.out.trans (out_grownBy hg) fun b hb => .inl (.inl (by injection hb with hb; exact hb.symm))
  have HN4 : Hid (Bk v4 M 25 #[.int .u8 ((said bs).kind : Int), .int .u64 ((said bs).epoch : Int), .int .u64 ((said bs).current : Int), .int .i64 0, .int .i64 0, .slice none 0 0]) := HNy3.out.kept ((out_grownBy hg).block M HNy3.out.lt (fun hb => by injection hb with hb; have := HMQ.out; omega))
  have m0 : v4.cell? ⟨M, 3, none⟩ = some (.int .i64 0) := HN4.out.cell 3
  have f0 := HN4.out.frozen 3
  clear hR hg K1 HNy3 HRy3 HUy3
  go_wp2_with fail
  have hoo4 : Out (fun b => b = M) v4 (v4.setCell ⟨M, 3, none⟩ (.int .i64 (said bs).at_)) := Out.setCell (X := fun b => b = M) v4 (p := ⟨M, 3, none⟩) rfl _
  have hN : Bk (v4.setCell ⟨M, 3, none⟩ (.int .i64 (said bs).at_)) M 25 #[.int .u8 ((said bs).kind : Int), .int .u64 ((said bs).epoch : Int), .int .u64 ((said bs).current : Int), .int .i64 (said bs).at_, .int .i64 0, .slice none 0 0] := by
    have z := HN4.out.set 3 (.int .i64 (said bs).at_)
    simpa [zeroC] using z
  have hR : RefQ A n c bs (v4.setCell ⟨M, 3, none⟩ (.int .i64 (said bs).at_)) q (s4 bs) := HR4.out.out hoo4 (by have := HMQ.out; omega) (fun a ha hb => by have := HAB.out a ha; have := HMQ.out; omega)
  obtain ⟨y4, hy4⟩ : ∃ y, y = v4.setCell ⟨M, 3, none⟩ (.int .i64 (said bs).at_) := ⟨_, rfl⟩
  rw [← hy4] at hN hR hoo4 ⊢
  have HNy4 := Lib.hid hN
  have HRy4 := Lib.hid hR
  have HUy4 : Hid (Out (fun b => b = q ∨ b = M) w0 y4) := HU4.out.trans hoo4 fun b hb => .inl (.inr hb)
  clear hN hR hoo4 hy4 m0 f0 HN4 HR4 HU4
  have K1 : Calls Try.prog 33 #[.pointer (some ⟨q, 0, none⟩), .int .i64 256] y4 (RefVQ A n c bs y4 q (.int .i64 (said bs).commit) (s5 bs)) := rnumber_any q _ y4 HRy4.out
  refine K1.mono ?_
  rintro e v5 ⟨rfl, hR, hg⟩
  have HR5 := Lib.hid hR
  have HU5 : Hid (Out (fun b => b = q ∨ b = M) w0 v5) := HUy4.out.trans (out_grownBy hg) fun b hb => .inl (.inl (by injection hb with hb; exact hb.symm))
  have HN5 : Hid (Bk v5 M 25 #[.int .u8 ((said bs).kind : Int), .int .u64 ((said bs).epoch : Int), .int .u64 ((said bs).current : Int), .int .i64 (said bs).at_, .int .i64 0, .slice none 0 0]) := HNy4.out.kept ((out_grownBy hg).block M HNy4.out.lt (fun hb => by injection hb with hb; have := HMQ.out; omega))
  have m0 : v5.cell? ⟨M, 4, none⟩ = some (.int .i64 0) := HN5.out.cell 4
  have f0 := HN5.out.frozen 4
  clear hR hg K1 HNy4 HRy4 HUy4
  go_wp2_with fail
  have hoo5 : Out (fun b => b = M) v5 (v5.setCell ⟨M, 4, none⟩ (.int .i64 (said bs).commit)) := Out.setCell (X := fun b => b = M) v5 (p := ⟨M, 4, none⟩) rfl _
  have hN : Bk (v5.setCell ⟨M, 4, none⟩ (.int .i64 (said bs).commit)) M 25 #[.int .u8 ((said bs).kind : Int), .int .u64 ((said bs).epoch : Int), .int .u64 ((said bs).current : Int), .int .i64 (said bs).at_, .int .i64 (said bs).commit, .slice none 0 0] := by
    have z := HN5.out.set 4 (.int .i64 (said bs).commit)
    simpa [zeroC] using z
  have hR : RefQ A n c bs (v5.setCell ⟨M, 4, none⟩ (.int .i64 (said bs).commit)) q (s5 bs) := HR5.out.out hoo5 (by have := HMQ.out; omega) (fun a ha hb => by have := HAB.out a ha; have := HMQ.out; omega)
  obtain ⟨y5, hy5⟩ : ∃ y, y = v5.setCell ⟨M, 4, none⟩ (.int .i64 (said bs).commit) := ⟨_, rfl⟩
  rw [← hy5] at hN hR hoo5 ⊢
  have HNy5 := Lib.hid hN
  have HRy5 := Lib.hid hR
  have HUy5 : Hid (Out (fun b => b = q ∨ b = M) w0 y5) := HU5.out.trans hoo5 fun b hb => .inl (.inr hb)
  clear hN hR hoo5 hy5 m0 f0 HN5 HR5 HU5
  have K1 : Calls Try.prog 33 #[.pointer (some ⟨q, 0, none⟩), .int .i64 256] y5 (RefVQ A n c bs y5 q (.int .i64 (nOf bs : Int)) (s6 bs)) := rnumber_any q _ y5 HRy5.out
  refine K1.mono ?_
  rintro e w8 ⟨rfl, hrd, hg⟩
  have HD8 := Lib.hid hrd
  have HO8 : Hid (Out (fun b => b = q ∨ b = M) w0 w8) := HUy5.out.trans (out_grownBy hg) fun b hb => .inl (.inl (by injection hb with hb; exact hb.symm))
  have HM8 : Hid (Bk w8 M 25 (mgC (said bs) none 0 0)) := HNy5.out.kept ((out_grownBy hg).block M HNy5.out.lt (fun hb => by injection hb with hb; have := HMQ.out; omega))
  have HRL : Hid (q < w8.heap.size) := HD8.out.lt
  have HMB : Hid (M < w8.heap.size) := HM8.out.lt
  have HRM2 : Hid (M ≠ q) := by have := HMQ.out; show _ ≠ _; omega
  have HZ8 : Hid (Bk w8 w.heap.size 25 zeroC) := HZ0.out.kept (HO8.out.block _ HZ0.out.lt (by have := HMQ.out; omega))
  have HAQ : Hid (∀ b, (∃ a, A = some a ∧ a.block = b) → b < w.heap.size) := fun b ⟨a, ha, hb⟩ => by rw [← hb]; exact HAB.out a ha
  have hnl := nOf_le bs
  clear hrd hg K1 HNy5 HRy5 HUy5 k8 k8'
  go_wp2_with fail
  go_loopw [7] (fun i wr => RelQ w8 M q A n c bs i wr) (fun i _ => nOf bs - (intOf i).toNat)
  case atStart => exact ⟨0, none, 0, [], Nat.zero_le _, rfl, HM8.out, ⟨rfl, .inl ⟨rfl, rfl⟩⟩, ⟨rfl, fun j b hj => by simp [linesS] at hj⟩, HD8.out, Out.refl _ _⟩
  case round =>
    obtain ⟨k, Ar, cr, xs, hk, rfl, hbm, hown, hfr, hrd, hout⟩ := hrel
    obtain ⟨st, hst⟩ : ∃ st, st = (linesS k (s6 bs)).2 := ⟨_, rfl⟩
    obtain ⟨ls, hls⟩ : ∃ ls, ls = (linesS k (s6 bs)).1 := ⟨_, rfl⟩
    have hll : ls.length = k := by rw [hls, linesS_length]
    rw [← hst] at hrd
    rw [← hls] at hown hfr
    have HM := Lib.hid hbm
    have HO := Lib.hid hown
    have HF := Lib.hid hfr
    have HD := Lib.hid hrd
    have HU := Lib.hid hout
    have HST := Lib.hid hst
    have HLS := Lib.hid hls
    have HLL := Lib.hid hll
    have HXL : Hid (xs.length = k) := by
      have := hfr.len
      rw [List.length_map] at this
      show _ = _
      omega
    obtain ⟨c2, -⟩ := refQ_cells hrd
    clear hbm hown hfr hrd hout hst hls hll
    by_cases hgo : k < nOf bs ∧ st.2 = false
    · obtain ⟨hlt, hbad⟩ := hgo
      rw [hbad] at c2
      go_wp2_with fail
      refine (sUint_anyQ q st wr HD.out).mono ?_
      rintro ee w2 ⟨rfl, hrd, hg⟩
      have hgo2 : Out (fun b => b = q) wr w2 := (out_grownBy hg).mono fun b hb => .inl (by injection hb with hb; exact hb.symm)
      obtain ⟨e, he⟩ : ∃ e, e = val (takeS 8 st).1 := ⟨_, rfl⟩
      obtain ⟨t, ht⟩ : ∃ t, t = (textS (takeS 8 st).2).1 := ⟨_, rfl⟩
      rw [← he]
      have HE := Lib.hid he
      have HT := Lib.hid ht
      have HDz := Lib.hid hrd
      have HMz : Hid (Bk w2 M 25 (mgC (said bs) Ar k cr)) := HM.out.kept (hgo2.block M HM.out.lt HRM2.out)
      have HOz : Hid (w2.ownsRow w8.heap.size 37 2 (.slice Ar k cr) k (lnsC ls xs)) := own_out HO.out hgo2 fun b hb hq => by
        have := (own_lt HO.out hb).1
        have := HRL.out
        omega
      have HFz : Hid (Fresh w8.heap.size w2 xs (ls.map (·.bytes))) := fresh_out HF.out hgo2 fun b hb => .inl (by rw [hb]; exact HRL.out)
      have HUz : Hid (Out (fun b => b = q ∨ b = M) w8 w2) := HU.out.trans hgo2 fun b hb => .inl (.inl hb)
      have hcs : (lnsC ls xs).length = 2 * k := by rw [lnsC_length _ _ (by rw [HLL.out, HXL.out]), HLL.out]
      have HCS := Lib.hid hcs
      have hk256 : k < 256 := by omega
      have HTL : Hid (t.length ≤ 100000) := by
        have z := (linesS_ok 1 st (lineS st).1 (by show _ ∈ [] ++ [(lineS st).1]; simp)).2
        have z2 : (lineS st).1.bytes.length ≤ st.1.length := z
        have z3 : st.1.length ≤ bs.length := by
          obtain ⟨pos, _, _, _, _, hrr, e6⟩ := HD.out
          rw [e6, List.length_drop]
          omega
        have z4 : (lineS st).1.bytes = t := HT.out.symm
        rw [z4] at z2
        have := HLEN.out
        show _ ≤ _
        omega
      have HGB : Hid (∀ b, GG (GRt (.slice Ar k cr) q M) b → (b = M ∨ b = q) ∨ (w8.heap.size ≤ b ∧ b < w2.heap.size ∧ (Value.slice Ar k cr).ownBlock = some b)) := fun b ⟨_, hg⟩ => by
        rcases hg with ⟨_, hg⟩ | ⟨_, hg⟩ | ⟨_, hg⟩
        · have z := own_lt HOz.out hg
          exact .inr ⟨z.1, z.2, hg⟩
        · exact .inl (.inr hg)
        · exact .inl (.inl hg)
      have HQZ : Hid (∀ b, (∃ a, A = some a ∧ a.block = b) → ∀ Z : Nat → Prop, (∀ b, Z b → w2.heap.size ≤ b ∨ GG (GRt (.slice Ar k cr) q M) b) → ¬ Z b) := fun b hq Z hz hzb => by
        have z1 := HAQ.out b hq
        have z2 := HUz.out.size
        have z3 := HMB.out
        have z4 := HMQ.out
        rcases hz b hzb with h | h
        · omega
        · rcases HGB.out b h with (h | h) | h
          · omega
          · omega
          · omega
      have HQG : Hid (∀ b, (∃ a, A = some a ∧ a.block = b) → ¬ GG (GRt (.slice Ar k cr) q M) b) := fun b hq => HQZ.out b hq _ fun _ h => .inr h
      clear he ht hcs hrd hg hgo2 c2 hbad HM HO HF HD HU
      go_wp2_with fail
      refine wp_region_pool (F := ?F) conR (RR (fun W => RefQ A n c bs W q (lineS st).2) w8.heap.size M q k e t (fun b => ∃ a, A = some a ∧ a.block = b) (.slice Ar k cr) (lnsC ls xs) [Value.int .u8 ((said bs).kind : Int), .int .u64 ((said bs).epoch : Int), .int .u64 ((said bs).current : Int), .int .i64 (said bs).at_, .int .i64 (said bs).commit]) (OR q M k) (fun _ _ _ => True) (GRt (.slice Ar k cr) q M) 20 (by kernel_rfl) (by kernel_rfl) (by kernel_rfl) (by kernel_rfl) ?hG1 ?hG2 ?hR (fun _ _ _ _ _ _ => trivial) ?hS ?hF ?hE
      case hF =>
        intro v
        simp only [List.length_cons, List.length_nil, Nat.zero_add, Nat.reduceAdd, PhaseG.final, List.getElem?_toArray, List.getElem?_cons_zero, List.getElem?_cons_succ, Option.bind_some, Act.put, List.setIfInBounds_toArray, List.set_cons_zero, List.set_cons_succ]
        exact rfl
      case hG1 =>
        intro j b hg
        rcases HGB.out b ⟨j, hg⟩ with (h | h) | h
        · rw [h]; exact HMz.out.lt
        · rw [h]; exact HDz.out.lt
        · exact h.2.1
      case hG2 =>
        intro i j b h1 h2
        have hne := HRM2.out
        have hMl := HMB.out
        have hrl := HRL.out
        rcases h1 with ⟨e1, h1⟩ | ⟨e1, h1⟩ | ⟨e1, h1⟩ <;> rcases h2 with ⟨e2, h2⟩ | ⟨e2, h2⟩ | ⟨e2, h2⟩
        · omega
        · have := (own_lt HOz.out h1).1; omega
        · have := (own_lt HOz.out h1).1; omega
        · have := (own_lt HOz.out h2).1; omega
        · omega
        · omega
        · have := (own_lt HOz.out h2).1; omega
        · omega
        · omega
      case hR =>
        intro k x Z W W' hx hb ho hz hn
        exact RR.out (keeps_refQ A n c bs q _) HCS.out _ _ _ _ _ hx ho (fun b hq => HQZ.out b hq Z hz) hn
      case hS =>
        refine stepsL_cons ?_ (stepsL_cons ?_ (stepsL_cons ?_ (stepsL_cons ?_ (stepsL_cons ?_ (stepsL_cons ?_ (stepsL_cons ?_ (stepsL_cons ?_ (stepsL_cons ?_ (stepsL_cons ?_ (stepsL_cons ?_ (stepsL_cons ?_ (stepsL_nil))))))))))))
        · intro a v W hd hb hw K hK
          have k4 : a.tmps.getD 4 undef = .pointer (some ⟨M, 0, none⟩) := hd.kept 20 4 (by kernel_rfl)
          have hk := hK (.pointer (some ⟨M, 5, none⟩)) W (Out.refl _ _) rfl trivial (fun b hob => absurd hob id)
          clear hK
          unfold Oper.wp
          go_simp
          exact hk
        · intro a v W hd hb hw K hK
          obtain ⟨h45, r45⟩ := hd.done_ 0 _ 45 (by kernel_rfl) rfl rfl (by kernel_rfl)
          have r45 : v 0 = .pointer (some ⟨M, 5, none⟩) := r45
          rw [r45] at h45
          have kk : W.cell? ⟨M, 5, none⟩ = some (.slice Ar k cr) := (HMz.out.kept (hw 11 M (.inr (by kernel_rfl)) (.inr (.inr ⟨rfl, rfl⟩)))).cell 5
          have ho1 : W.ownsRow w8.heap.size 37 2 (.slice Ar k cr) k (lnsC ls xs) := own_same HOz.out fun b hb' => hw 1 b (.inl rfl) (.inl ⟨rfl, hb'⟩)
          have hk := hK (.slice Ar k cr) W (Out.refl _ _) ⟨rfl, ho1⟩ trivial (fun b hob => ⟨(own_lt ho1 hob).2, .inr (.inr (.inl ⟨rfl, hob⟩))⟩)
          clear hK
          unfold Oper.wp
          go_simp
          exact hk
        · intro a v W hd hb hw K hK
          have k8 : a.tmps.getD 8 undef = .int .u64 (e : Int) := hd.kept 20 8 (by kernel_rfl)
          have hk := hK (.int .u64 (e : Int)) W (Out.refl _ _) rfl trivial (fun b hob => absurd hob id)
          clear hK
          unfold Oper.wp
          go_simp
          exact hk
        · intro a v W hd hb hw K hK
          have hba : Below W.heap.size W (W.alloc (.cells #[] 5)) := (Below.refl _ _).alloc (Nat.le_refl _) _
          have hon : (W.alloc (.cells #[] 5)).ownsRow w8.heap.size 5 1 (.slice (some ⟨W.heap.size, 0, none⟩) 0 0) 0 [] := own_base (World.ownsRow_lit W #[] 0 (Nat.le_refl _) (Nat.zero_le _) rfl) (Nat.le_trans HUz.out.size hb.size)
          have hk := hK (.slice (some ⟨W.heap.size, 0, none⟩) 0 0) (W.alloc (.cells #[] 5)) (Out.of_below hba) hon trivial (fun b hob => by
            have z := own_lt hon hob
            injection hob with hob
            have hob : W.heap.size = b := hob
            exact ⟨z.2, .inl (by omega)⟩)
          clear hK
          unfold Oper.wp
          go_simp
          exact hk
        · intro a v W hd hb hw K hK
          have k5 : a.tmps.getD 5 undef = .pointer (some ⟨q, 0, none⟩) := hd.kept 20 5 (by kernel_rfl)
          have hk := hK (.pointer (some ⟨q, 0, none⟩)) W (Out.refl _ _) rfl trivial (fun b hob => absurd hob id)
          clear hK
          unfold Oper.wp
          go_simp
          exact hk
        · intro a v W hd hb hw K hK
          obtain ⟨h49, r49⟩ := hd.done_ 4 _ 49 (by kernel_rfl) rfl rfl (by kernel_rfl)
          have r49 : v 4 = .pointer (some ⟨q, 0, none⟩) := r49
          rw [r49] at h49
          have hrd : RefQ A n c bs W q (takeS 8 st).2 := HDz.out.same hb (hw 5 q (.inl rfl) (.inr (.inl ⟨rfl, rfl⟩))) (fun a ha => HQG.out _ ⟨a, ha, rfl⟩)
          have ct := sText_anyQ q (takeS 8 st).2 W hrd
          rw [← HT.out] at ct
          unfold Oper.wp
          go_simp
          refine ct.mono ?_
          rintro e' W' ⟨A4, n4, c4, rfl, hr4, hr', hg, hla⟩
          exact hK (.slice A4 n4 c4) W' ((out_grownBy hg).mono fun b hb' => .inl (.inr (.inr (.inl ⟨rfl, by injection hb' with hb'; exact hb'.symm⟩)))) ⟨hr', A4, n4, c4, rfl, hr4, fun a ha => by obtain ⟨a0, z1, z2⟩ := hla a ha; exact ⟨a0, z1, z2.symm⟩⟩ trivial (fun b hob => by
            have hob : b = q := hob
            exact ⟨by rw [hob]; exact hr'.lt, .inr (.inr (.inr (.inl ⟨rfl, hob⟩)))⟩)
        · intro a v W hd hb hw K hK
          obtain ⟨h48, r48⟩ := hd.done_ 3 _ 48 (by kernel_rfl) rfl rfl (by kernel_rfl)
          obtain ⟨h50, r50⟩ := hd.done_ 5 _ 50 (by kernel_rfl) rfl rfl (by kernel_rfl)
          obtain ⟨hrd5, A4, n4, c4, e50, hr4, hla⟩ := r50
          rw [e50] at h50
          have ho48 : W.ownsRow w8.heap.size 5 1 (v 3) 0 [] := r48
          have hn4 : n4 = t.length := hr4.len.symm
          obtain ⟨i0, hi, hz0, hz1, hz2⟩ := info_parts info_byte
          obtain ⟨v', W', hrun, hown', hgr, hwh⟩ := run_append_rd (P := Try.prog) (t := 27) (ty := 27) ty_bytes hi hz0 hz1 hz2 rfl ho48 hr4 c4 (by have := HTL.out; omega) (Nat.le_trans HUz.out.size hb.size)
          have ho' : W'.ownsRow w8.heap.size 5 1 v' t.length (t.map U) := by
            have z := hown'
            rw [List.nil_append, Nat.zero_add, hn4] at z
            exact z
          have hoo := out_grownBy hgr
          have hrd' : RefQ A n c bs W' q (lineS st).2 := RefQ.out hrd5 hoo (fun hz => by
            have := (own_lt ho48 hz).1
            have := HRL.out
            omega) (fun a ha hz => by
            have := (own_lt ho48 hz).1
            have := HAB.out a ha
            have := HMQ.out
            have := HMB.out
            omega)
          have hk := hK v' W' (hoo.mono fun b hb' => .inl (.inl ⟨3, by decide, hb'⟩)) ⟨ho', hrd'⟩ trivial (fun b hob => by
            rcases hob with hob | hob
            · exact ⟨by rw [hob]; exact hrd'.lt, .inr (.inl ⟨5, by decide, hob⟩)⟩
            · exact ⟨(own_lt ho' hob).2, (hwh b hob).elim (fun z => .inr (.inl ⟨3, by decide, z⟩)) .inl⟩)
          exact wp_append_pool (.tmp 48) (.tmp 50) _ rfl h48 h50 hrun hk
        · intro a v W hd hb hw K hK
          obtain ⟨h47, r47⟩ := hd.done_ 2 _ 47 (by kernel_rfl) rfl rfl (by kernel_rfl)
          have r47 : v 2 = .int .u64 (e : Int) := r47
          rw [r47] at h47
          obtain ⟨h51, r51⟩ := hd.done_ 6 _ 51 (by kernel_rfl) rfl rfl (by kernel_rfl)
          have ht28 : TX (fun W => RefQ A n c bs W q (lineS st).2) w8.heap.size t (v 6) W := r51
          have hk := hK (.agg #[.int .u64 (e : Int), v 6]) W (Out.refl _ _) ⟨v 6, rfl, ht28⟩ trivial (fun b hob => by
            refine ⟨?_, .inr (.inl ⟨6, by decide, ?_⟩)⟩
            · rcases hob with hob | ⟨y, e', h1, h2⟩
              · rw [hob]; exact ht28.2.lt
              · injection h1 with h1
                have h3 : v 6 = y := by have := congrArg (fun l : Array Value => l[1]?) h1; simpa using this
                rw [← h3] at h2
                exact (own_lt ht28.1 h2).2
            · rcases hob with hob | ⟨y, e', h1, h2⟩
              · exact .inl hob
              · injection h1 with h1
                have h3 : v 6 = y := by have := congrArg (fun l : Array Value => l[1]?) h1; simpa using this
                rw [← h3] at h2
                exact .inr h2)
          obtain ⟨Ay, cy, ey, -⟩ := own_slice ht28.1
          rw [ey] at h51 hk
          clear hK
          simp only [Array.getD_eq_getD_getElem?] at h47 h51
          unfold Oper.wp
          go_simp
          exact hk
        · intro a v W hd hb hw K hK
          obtain ⟨h52, r52⟩ := hd.done_ 7 _ 52 (by kernel_rfl) rfl rfl (by kernel_rfl)
          obtain ⟨y, e29, ht29⟩ := r52
          rw [e29] at h52
          have ht29 : TX (fun W => RefQ A n c bs W q (lineS st).2) w8.heap.size t y W := ht29
          obtain ⟨Ay, cy, ey, -⟩ := own_slice ht29.1
          subst ey
          have hba : Below W.heap.size W (W.alloc (.cells #[.int .u64 (e : Int), .slice Ay t.length cy] 37)) := (Below.refl _ _).alloc (Nat.le_refl _) _
          have hbn : Bk (W.alloc (.cells #[.int .u64 (e : Int), .slice Ay t.length cy] 37)) W.heap.size 37 #[.int .u64 (e : Int), .slice Ay t.length cy] := Bk.new _ _ _
          have hc1 : (W.alloc (.cells #[.int .u64 (e : Int), .slice Ay t.length cy] 37)).cell? ⟨W.heap.size, 1, none⟩ = some (.slice Ay t.length cy) := hbn.cell 1
          have hk := hK (.slice (some ⟨W.heap.size, 0, none⟩) 1 1) (W.alloc (.cells #[.int .u64 (e : Int), .slice Ay t.length cy] 37)) (Out.of_below hba) ⟨W.heap.size, _, rfl, hbn, ht29.out (keeps_refQ A n c bs q _) (Out.of_below (X := fun _ => False) hba) (fun _ _ z => z) (fun _ _ z => z)⟩ trivial (fun b hob => by
            rcases hob with hob | ⟨nb, e1, hob⟩
            · exact ⟨by rw [hob]; exact Nat.lt_of_lt_of_le ht29.2.lt hba.size, .inr (.inl ⟨7, by decide, .inl hob⟩)⟩
            · injection e1 with e1
              injection e1 with e1
              injection e1 with e1
              subst e1
              rcases hob with hob | ⟨y, h1, h2⟩
              · exact ⟨by rw [hob]; exact hbn.lt, .inl (by omega)⟩
              · rw [hc1] at h1
                injection h1 with h1
                rw [← h1] at h2
                exact ⟨Nat.lt_of_lt_of_le (own_lt ht29.1 h2).2 hba.size, .inr (.inl ⟨7, by decide, .inr ⟨_, _, e29, h2⟩⟩)⟩)
          clear hK
          simp only [Array.getD_eq_getD_getElem?] at h52
          unfold Oper.wp
          go_simp
          exact hk
        · intro a v W hd hb hw K hK
          obtain ⟨h46, r46⟩ := hd.done_ 1 _ 46 (by kernel_rfl) rfl rfl (by kernel_rfl)
          obtain ⟨e24, ho24⟩ := r46
          rw [e24] at h46 ho24
          obtain ⟨h53, r53⟩ := hd.done_ 8 _ 53 (by kernel_rfl) rfl rfl (by kernel_rfl)
          obtain ⟨nb, y, e30, hbn, ht30⟩ := r53
          rw [e30] at h53
          have ho24 : W.ownsRow w8.heap.size 37 2 (.slice Ar k cr) k (lnsC ls xs) := ho24
          have ht30 : TX (fun W => RefQ A n c bs W q (lineS st).2) w8.heap.size t y W := ht30
          obtain ⟨Ay, cy, ey, -⟩ := own_slice ht30.1
          subst ey
          have hc1 : W.cell? ⟨nb, 1, none⟩ = some (.slice Ay t.length cy) := hbn.cell 1
          obtain ⟨i0, hi, hz0, hz1, hz2⟩ := info_parts info_line
          obtain ⟨g, cap, W', hrun, hown', hgr, hwh, hlt'⟩ := run_append_lies (P := Try.prog) (w := W) 23 23 w8.heap.size 37 i0 _ 2 32 ty_lines hi hz0 hz1 hz2 rfl (by decide) (.slice Ar k cr) k (lnsC ls xs) ho24 ⟨nb, 0, none⟩ 1 1 [.int .u64 (e : Int), .slice Ay t.length cy] rfl (World.news_of_block (cs := #[.int .u64 (e : Int), .slice Ay t.length cy]) (t := 37) (fr := (0, 0)) hbn) (by simp [Value.oneCell']) (by decide) (by unfold maxLen; omega) (by omega) (Nat.le_trans HUz.out.size hb.size) _ rfl
          have hoo := out_grownBy hgr
          have htk : TX (fun W => RefQ A n c bs W q (lineS st).2) w8.heap.size t (.slice Ay t.length cy) W' := by
            refine ht30.out (keeps_refQ A n c bs q _) hoo (fun b hq hz => ?_) (fun b hob hz => ?_)
            · have := (own_lt ho24 hz).1
              have := HAQ.out b hq
              have := HMB.out
              have := HMQ.out
              omega
            · rcases hob with hob | hob
              · have := (own_lt ho24 hz).1
                have := HRL.out
                omega
              · obtain ⟨c1, f1, q1⟩ := Lib.ownsRow_kind ht30.1 b hob
                obtain ⟨c2, f2, q2⟩ := Lib.ownsRow_kind ho24 b hz
                rw [q1] at q2
                injection q2 with q2
                injection q2 with _ q3
                exact absurd q3 (by decide)
          have hcl := rowT_cell hown' HCS.out
          have hk := hK (.slice (some ⟨g, 0, none⟩) (k + 1) cap) W' (hoo.mono fun b hb' => .inl (.inl ⟨1, by decide, by rw [e24]; exact hb'⟩)) ⟨g, cap, _, rfl, hown', htk⟩ trivial (fun b hob => by
            rcases hob with hob | ⟨g', cap', e1, hob⟩
            · exact ⟨by rw [hob]; exact htk.2.lt, .inr (.inl ⟨8, by decide, .inl hob⟩)⟩
            · injection e1 with e1 _ e3
              injection e1 with e1
              injection e1 with e1
              subst e1
              subst e3
              rcases hob with hob | ⟨y', h1, h2⟩
              · subst hob
                exact ⟨hlt', hwh.elim (fun z => .inr (.inl ⟨1, by decide, by rw [e24]; exact z⟩)) (fun z => .inl (by omega))⟩
              · rw [hcl] at h1
                injection h1 with h1
                rw [← h1] at h2
                exact ⟨(own_lt htk.1 h2).2, .inr (.inl ⟨8, by decide, .inr ⟨nb, e30, .inr ⟨_, hc1, h2⟩⟩⟩)⟩)
          exact wp_append_pool (.tmp 46) (.tmp 53) _ rfl h46 h53 hrun hk
        · intro a v W hd hb hw K hK
          have k4 : a.tmps.getD 4 undef = .pointer (some ⟨M, 0, none⟩) := hd.kept 20 4 (by kernel_rfl)
          have hk := hK (.pointer (some ⟨M, 5, none⟩)) W (Out.refl _ _) rfl trivial (fun b hob => absurd hob id)
          clear hK
          unfold Oper.wp
          go_simp
          exact hk
        · intro a v W hd hb hw K hK
          obtain ⟨h55, r55⟩ := hd.done_ 10 _ 55 (by kernel_rfl) rfl rfl (by kernel_rfl)
          have r55 : v 10 = .pointer (some ⟨M, 5, none⟩) := r55
          rw [r55] at h55
          obtain ⟨h54, r54⟩ := hd.done_ 9 _ 54 (by kernel_rfl) rfl rfl (by kernel_rfl)
          obtain ⟨g, cap, y, e31, ho31, ht31⟩ := r54
          rw [e31] at h54 ho31
          have ho31 : W.ownsRow w8.heap.size 37 2 (.slice (some ⟨g, 0, none⟩) (k + 1) cap) (k + 1) (lnsC ls xs ++ [.int .u64 (e : Int), y]) := ho31
          have ht31 : TX (fun W => RefQ A n c bs W q (lineS st).2) w8.heap.size t y W := ht31
          have hbm := HMz.out.kept (hw 11 M (.inl rfl) (.inr (.inr ⟨rfl, rfl⟩)))
          have kk : W.cell? ⟨M, 5, none⟩ = some (.slice Ar k cr) := hbm.cell 5
          have kf : W.frozen? ⟨M, 5, none⟩ = false := hbm.frozen 5
          have hoo : Out (fun b => b = M) W (W.setCell ⟨M, 5, none⟩ (.slice (some ⟨g, 0, none⟩) (k + 1) cap)) := Out.setCell (X := fun b => b = M) W (p := ⟨M, 5, none⟩) rfl _
          have hnb : Bk (W.setCell ⟨M, 5, none⟩ (.slice (some ⟨g, 0, none⟩) (k + 1) cap)) M 25 ([Value.int .u8 ((said bs).kind : Int), .int .u64 ((said bs).epoch : Int), .int .u64 ((said bs).current : Int), .int .i64 (said bs).at_, .int .i64 (said bs).commit] ++ [Value.slice (some ⟨g, 0, none⟩) (k + 1) cap]).toArray := by
            have z := hbm.set 5 (.slice (some ⟨g, 0, none⟩) (k + 1) cap)
            simpa [mgC] using z
          have hrw := RowT.out (keeps_refQ A n c bs q _) HCS.out (W := W) (W' := W.setCell ⟨M, 5, none⟩ (.slice (some ⟨g, 0, none⟩) (k + 1) cap)) (Z := fun b => b = M) ⟨g, cap, y, rfl, ho31, ht31⟩ hoo (fun b hq hz => by have := HAQ.out b hq; have := HMQ.out; omega) (fun b hob hz => by
            have hMl := HMB.out
            rcases hob with hob | ⟨g', cap', e1, hob⟩
            · exact HRM2.out (hz.symm.trans hob)
            · injection e1 with e1 _ e3
              injection e1 with e1
              injection e1 with e1
              subst e1
              subst e3
              have hcl := rowT_cell ho31 HCS.out
              rcases hob with hob | ⟨y', h1, h2⟩
              · have := (own_lt ho31 (b := g) rfl).1
                omega
              · rw [hcl] at h1
                injection h1 with h1
                rw [← h1] at h2
                have := (own_lt ht31.1 h2).1
                omega)
          have hk := hK (.slice (some ⟨g, 0, none⟩) (k + 1) cap) _ (hoo.mono fun b hb' => .inl (.inr (.inr (.inr ⟨rfl, hb'⟩)))) ⟨hnb, hrw.1⟩ trivial (fun b hob => by
            rcases hob with hob | hob
            · exact ⟨by rw [hob]; exact hnb.lt, .inr (.inr (.inr (.inr ⟨rfl, hob⟩)))⟩
            · have hob' := hrw.2 b hob
              have hlt' : b < W.heap.size := by
                rcases hob' with hob | ⟨g', cap', e1, hob⟩
                · rw [hob]; exact ht31.2.lt
                · injection e1 with e1 _ e3
                  injection e1 with e1
                  injection e1 with e1
                  subst e1
                  subst e3
                  have hcl := rowT_cell ho31 HCS.out
                  rcases hob with hob | ⟨y', h1, h2⟩
                  · rw [hob]; exact (own_lt ho31 (b := g) rfl).2
                  · rw [hcl] at h1
                    injection h1 with h1
                    rw [← h1] at h2
                    exact (own_lt ht31.1 h2).2
              exact ⟨Nat.lt_of_lt_of_le hlt' hoo.size, .inr (.inl ⟨9, by decide, by rw [e31]; exact hob'⟩)⟩)
          clear hK
          unfold Oper.wp
          go_simp
          exact hk
      case hE =>
        intro v W hb hv hl
        obtain ⟨hb10, g, cap, y, e10, ho10, ht10⟩ := hv 11 (by decide) (fun j _ hc => by
          unfold conR at hc
          repeat' (split at hc)
          all_goals simp at hc)
        rw [e10] at hb10 ho10
        have ho10 : W.ownsRow w8.heap.size 37 2 (.slice (some ⟨g, 0, none⟩) (k + 1) cap) (k + 1) (lnsC ls xs ++ [.int .u64 (e : Int), y]) := ho10
        have ht10 : TX (fun W => RefQ A n c bs W q (lineS st).2) w8.heap.size t y W := ht10
        obtain ⟨Ay, cy, ey, -⟩ := own_slice ht10.1
        subst ey
        have HREL : Hid (RelQ w8 M q A n c bs (.int .i64 ((k : Int) + 1)) W) := by
          have e1 : (linesS (k + 1) (s6 bs)).1 = ls ++ [(lineS st).1] := by rw [HLS.out, HST.out]; rfl
          have e2 : (linesS (k + 1) (s6 bs)).2 = (lineS st).2 := by rw [HST.out]; rfl
          have e3 : (lineS st).1.bytes = t := HT.out.symm
          have e4 : (lineS st).1.epoch = e := HE.out.symm
          refine ⟨k + 1, some ⟨g, 0, none⟩, cap, xs ++ [.slice Ay t.length cy], by omega, rfl, ?_, ?_, ?_, ?_, ?_⟩
          · simpa [mgC] using hb10
          · rw [e1, lnsC_snoc _ _ _ _ (by rw [HLL.out, HXL.out])]
            unfold lnC
            rw [e4]
            exact ho10
          · rw [e1, List.map_append, List.map_cons, List.map_nil, e3]
            refine Fresh.snoc (fresh_out HFz.out hb fun b hg => ?_) ht10.1
            rcases HGB.out b hg with (h | h) | h
            · left; rw [h]; exact HMB.out
            · left; rw [h]; exact HRL.out
            · right
              obtain ⟨c1, f1, q1⟩ := Lib.ownsRow_kind HOz.out b h.2.2
              exact ⟨_, c1, f1, by decide, q1⟩
          · rw [e2]; exact ht10.2
          · refine HUz.out.trans hb fun b hg => ?_
            rcases HGB.out b hg with (h | h) | h
            · exact .inl (.inr h)
            · exact .inl (.inl h)
            · exact .inr h.1
        clear hv hl hb hb10 ho10 ht10 e10
        generalize v 0 = x0
        generalize v 1 = x1
        generalize v 2 = x2
        generalize v 3 = x3
        generalize v 4 = x4
        generalize v 5 = x5
        generalize v 6 = x6
        generalize v 7 = x7
        generalize v 8 = x8
        generalize v 9 = x9
        generalize v 10 = x10
        go_wp2_with fail
        exact ⟨HREL.out, by simp [intOf]; omega⟩
    · have hbw : Below w.heap.size w wr := by
        have z1 := HMQ.out
        have q1 := HO8.out.below HB0.out (fun b hb => by rcases hb with hb | hb <;> omega) HB0.out.size
        exact HU.out.below q1 (fun b hb => by rcases hb with hb | hb <;> omega) q1.size
      have HBW := Lib.hid hbw
      have HZR : Hid (Bk wr w.heap.size 25 zeroC) := HZ8.out.kept (HU.out.block _ HZ8.out.lt (fun h => by have := HMQ.out; rcases h with h | h <;> omega))
      have HLN : Hid (OwnL w8.heap.size wr (.slice Ar k cr) ls) := ⟨xs, by rw [HLL.out]; exact HO.out, HF.out⟩
      have HEND : Hid (st.2 = true → (left bs).2 = true) := fun hb => by
        have z := linesS_bad_le hk (by rw [← HST.out]; exact hb)
        show (linesS (nOf bs) (s6 bs)).2.2 = true
        rw [z, ← HST.out]
        exact hb
      have HEN2 : Hid (st.2 = false → k = nOf bs) := fun hb => by
        rcases Nat.lt_or_ge k (nOf bs) with h | h
        · exact absurd ⟨h, hb⟩ hgo
        · omega
      have HDON := Lib.hid (sDone_any q st wr HD.out.ref)
      have hcase : k = nOf bs ∨ (k < nOf bs ∧ st.2 = true) := by
        cases hb : st.2 with
        | false => exact .inl (HEN2.out hb)
        | true => rcases Nat.lt_or_ge k (nOf bs) with h | h
                  · exact .inr ⟨h, rfl⟩
                  · exact .inl (by omega)
      have HGD : Hid (∀ b : Bool, b = (!st.2 && decide (st.1.length = 0)) → b = true → st.2 = false ∧ st.1 = [] ∧ k = nOf bs) := fun b hb ht => by
        rw [ht] at hb
        have hb := hb.symm
        simp only [Bool.and_eq_true, Bool.not_eq_true', decide_eq_true_eq] at hb
        exact ⟨hb.1, List.eq_nil_of_length_eq_zero hb.2, HEN2.out hb.1⟩
      have HGN : Hid (∀ b : Bool, b = (!st.2 && decide (st.1.length = 0)) → b = false → ¬ getOk bs) := fun b hb ht hg => by
        obtain ⟨g1, g2, -⟩ := hg
        cases hs2 : st.2 with
        | true => rw [HEND.out hs2] at g1; cases g1
        | false =>
          have hkn := HEN2.out hs2
          have e1 : left bs = st := by show (linesS (nOf bs) (s6 bs)).2 = st; rw [← hkn, HST.out]
          rw [e1] at g2
          rw [ht, hs2, g2] at hb
          simp at hb
      obtain ⟨dn, hdn⟩ : ∃ dn, dn = (!st.2 && decide (st.1.length = 0)) := ⟨_, rfl⟩
      rw [← hdn] at HDON
      have HDN := Lib.hid hdn
      clear hbw hgo hdn
      rcases hcase with hkn | ⟨hkn, hb⟩
      · subst hkn
        clear c2
        go_wp2_with fail
        refine HDON.out.mono ?_
        rintro e _ ⟨mq, rfl, rfl⟩
        obtain ⟨wq, hwq⟩ : ∃ wq, wq = wr.drewN mq := ⟨_, rfl⟩
        have hzq : Bk wq w.heap.size 25 zeroC := by rw [hwq]; exact HZR.out
        have hmq : Bk wq M 25 (mgC (said bs) Ar (nOf bs) cr) := by rw [hwq]; exact HM.out
        have hbq : Below w.heap.size w wq := by rw [hwq]; exact below_drewN' HBW.out mq
        have hbq2 : Below wr.heap.size wr wq := by rw [hwq]; exact below_drewN' (Below.refl _ _) mq
        have hlq : OwnL w8.heap.size wq (.slice Ar (nOf bs) cr) ls := by
          obtain ⟨xs', q1, q2⟩ := HLN.out
          exact ⟨xs', q1.kept (grown_of_below hbq2 none) (Classical.em _), q2.below hbq2⟩
        rw [← hwq]
        have HZQ := Lib.hid hzq
        have HMz := Lib.hid hmq
        have HBQ := Lib.hid hbq
        have HLQ := Lib.hid hlq
        clear hzq hmq hbq hbq2 hlq hwq
        have z0 : (wq).cell? ⟨w.heap.size, 0, none⟩ = some (.int .u8 0) := HZQ.out.cell 0
        have z1 : (wq).cell? ⟨w.heap.size, 1, none⟩ = some (.int .u64 0) := HZQ.out.cell 1
        have z2 : (wq).cell? ⟨w.heap.size, 2, none⟩ = some (.int .u64 0) := HZQ.out.cell 2
        have z3 : (wq).cell? ⟨w.heap.size, 3, none⟩ = some (.int .i64 0) := HZQ.out.cell 3
        have z4 : (wq).cell? ⟨w.heap.size, 4, none⟩ = some (.int .i64 0) := HZQ.out.cell 4
        have z5 : (wq).cell? ⟨w.heap.size, 5, none⟩ = some (.slice none 0 0) := HZQ.out.cell 5
        have y0 := HZQ.out.frozen 0
        have y1 := HZQ.out.frozen 1
        have y2 := HZQ.out.frozen 2
        have y3 := HZQ.out.frozen 3
        have y4 := HZQ.out.frozen 4
        have y5 := HZQ.out.frozen 5
        cases dn with
        | false =>
          have HNO : Hid (¬ getOk bs) := HGN.out _ HDN.out rfl
          go_wp2_with fail
          have ho6 := set6_out wq w.heap.size (.int .u8 0) (.int .u64 0) (.int .u64 0) (.int .i64 0) (.int .i64 0) (.slice none 0 0)
          have hb6 := set6_bk HZQ.out (.int .u8 0) (.int .u64 0) (.int .u64 0) (.int .i64 0) (.int .i64 0) (.slice none 0 0)
          have hbe := ho6.below HBQ.out (fun b hb => by rw [hb]; exact Nat.le_refl _) HBQ.out.size
          refine bodyPost_ret (results_cell_row2 rfl _ _ w.heap.size 25 _ (0, 0) _ rfl hb6 Try.underlying25 rfl size_msg) rfl ?_
          have e1 : getM bs = Mg.zero := by unfold getM; rw [if_neg HNO.out]
          have e2 : getE bs = 2 := by unfold getE; rw [if_neg HNO.out]
          unfold GetPost
          rw [e1, e2]
          exact ⟨none, 0, rfl, OwnL.nil_ _ _, hbe⟩
        | true =>
          obtain ⟨hs2, hs1, hkn⟩ := HGD.out _ HDN.out rfl
          have HKN := Lib.hid hkn
          have HS2 : Hid (st.2 = false ∧ st.1 = []) := ⟨hs2, hs1⟩
          clear hs2 hs1 hkn
          have m0 : (wq).cell? ⟨M, 0, none⟩ = some (.int .u8 ((said bs).kind : Int)) := HMz.out.cell 0
          have m1 : (wq).cell? ⟨M, 1, none⟩ = some (.int .u64 ((said bs).epoch : Int)) := HMz.out.cell 1
          have m2 : (wq).cell? ⟨M, 2, none⟩ = some (.int .u64 ((said bs).current : Int)) := HMz.out.cell 2
          have m3 : (wq).cell? ⟨M, 3, none⟩ = some (.int .i64 (said bs).at_) := HMz.out.cell 3
          have m4 : (wq).cell? ⟨M, 4, none⟩ = some (.int .i64 (said bs).commit) := HMz.out.cell 4
          have m5 : (wq).cell? ⟨M, 5, none⟩ = some (.slice Ar (nOf bs) cr) := HMz.out.cell 5
          have HSL : Hid ((said bs).lines = ls) := by
            show (linesS (nOf bs) (s6 bs)).1 = ls
            first | (rw [HLS.out]; done) | rw [← HKN.out, HLS.out]
          have HLF : Hid (st = left bs) := by
            show st = (linesS (nOf bs) (s6 bs)).2
            first | (rw [HST.out]; done) | rw [← HKN.out, HST.out]
          have hmay := rmay_any (P := fun k => w8.heap.size ≤ k ∧ k < wq.heap.size) Ar (nOf bs) cr (said bs) wq (said_good bs (by have := HLEN.out; omega)) (by
            have z := HLQ.out.lns
            rw [HLL.out] at z
            rw [HSL.out]
            exact z)
          have HMAY := Lib.hid hmay
          clear hmay
          unfold mgC at HMAY
          go_wp2_with fail
          refine HMAY.out.mono ?_
          rintro e w9 ⟨rfl, hb9⟩
          have HBW9 := Lib.hid (HBQ.out.trans (hb9.mono HBQ.out.size))
          have HZR9 := Lib.hid (HZQ.out.below hb9)
          have HMz9 := Lib.hid (HMz.out.below hb9)
          have hln9 : OwnL w8.heap.size w9 (.slice Ar (nOf bs) cr) ls := by
            obtain ⟨xs', q1, q2⟩ := HLQ.out
            exact ⟨xs', q1.kept (grown_of_below hb9 none) (Classical.em _), q2.below hb9⟩
          have HLN9 := Lib.hid hln9
          clear z0 z1 z2 z3 z4 z5 y0 y1 y2 y3 y4 y5 m0 m1 m2 m3 m4 m5
          have z0 : (w9).cell? ⟨w.heap.size, 0, none⟩ = some (.int .u8 0) := HZR9.out.cell 0
          have z1 : (w9).cell? ⟨w.heap.size, 1, none⟩ = some (.int .u64 0) := HZR9.out.cell 1
          have z2 : (w9).cell? ⟨w.heap.size, 2, none⟩ = some (.int .u64 0) := HZR9.out.cell 2
          have z3 : (w9).cell? ⟨w.heap.size, 3, none⟩ = some (.int .i64 0) := HZR9.out.cell 3
          have z4 : (w9).cell? ⟨w.heap.size, 4, none⟩ = some (.int .i64 0) := HZR9.out.cell 4
          have z5 : (w9).cell? ⟨w.heap.size, 5, none⟩ = some (.slice none 0 0) := HZR9.out.cell 5
          have y0 := HZR9.out.frozen 0
          have y1 := HZR9.out.frozen 1
          have y2 := HZR9.out.frozen 2
          have y3 := HZR9.out.frozen 3
          have y4 := HZR9.out.frozen 4
          have y5 := HZR9.out.frozen 5
          have m0 : (w9).cell? ⟨M, 0, none⟩ = some (.int .u8 ((said bs).kind : Int)) := HMz9.out.cell 0
          have m1 : (w9).cell? ⟨M, 1, none⟩ = some (.int .u64 ((said bs).epoch : Int)) := HMz9.out.cell 1
          have m2 : (w9).cell? ⟨M, 2, none⟩ = some (.int .u64 ((said bs).current : Int)) := HMz9.out.cell 2
          have m3 : (w9).cell? ⟨M, 3, none⟩ = some (.int .i64 (said bs).at_) := HMz9.out.cell 3
          have m4 : (w9).cell? ⟨M, 4, none⟩ = some (.int .i64 (said bs).commit) := HMz9.out.cell 4
          have m5 : (w9).cell? ⟨M, 5, none⟩ = some (.slice Ar (nOf bs) cr) := HMz9.out.cell 5
          have hlw : w.heap.size ≤ w8.heap.size := Nat.le_trans HB0.out.size HO8.out.size
          have HLW := Lib.hid hlw
          clear hb9 hln9 hlw
          by_cases hmy : (said bs).may
          · have hd : decide (said bs).may = true := by simp [hmy]
            rw [hd]
            have HG : Hid (getOk bs) := ⟨by rw [← HLF.out]; exact HS2.out.1, by rw [← HLF.out]; exact HS2.out.2, hmy⟩
            clear hd hmy
            go_wp2_with fail
            have ho6 := set6_out w9 w.heap.size (.int .u8 ((said bs).kind : Int)) (.int .u64 ((said bs).epoch : Int)) (.int .u64 ((said bs).current : Int)) (.int .i64 (said bs).at_) (.int .i64 (said bs).commit) (.slice Ar (nOf bs) cr)
            have hb6 := set6_bk HZR9.out (.int .u8 ((said bs).kind : Int)) (.int .u64 ((said bs).epoch : Int)) (.int .u64 ((said bs).current : Int)) (.int .i64 (said bs).at_) (.int .i64 (said bs).commit) (.slice Ar (nOf bs) cr)
            have hbe := ho6.below HBW9.out (fun b hb => by rw [hb]; exact Nat.le_refl _) HBW9.out.size
            refine bodyPost_ret (results_cell_row2 rfl _ _ w.heap.size 25 _ (0, 0) _ rfl hb6 Try.underlying25 rfl size_msg) rfl ?_
            have e1 : getM bs = said bs := by unfold getM; rw [if_pos HG.out]
            have e2 : getE bs = 0 := by unfold getE; rw [if_pos HG.out]
            have e3 : (said bs).lines.length = (nOf bs) := by rw [HSL.out, HLL.out]
            unfold GetPost
            rw [e1, e2, e3, HSL.out]
            refine ⟨Ar, cr, rfl, ?_, hbe⟩
            obtain ⟨xs', q1, q2⟩ := HLN9.out
            refine ⟨xs', own_base (own_out q1 ho6 fun b hb hx => ?_) HLW.out, fresh_base (fresh_out q2 ho6 fun b hb => .inl ?_) HLW.out⟩
            · have := (own_lt q1 hb).1
              have := HZ8.out.lt
              omega
            · rw [hb]; exact HZ8.out.lt
          · have hd : decide (said bs).may = false := by simp [hmy]
            rw [hd]
            have HNO : Hid (¬ getOk bs) := fun hg => hmy hg.2.2
            clear hd hmy
            go_wp2_with fail
            have ho6 := set6_out w9 w.heap.size (.int .u8 0) (.int .u64 0) (.int .u64 0) (.int .i64 0) (.int .i64 0) (.slice none 0 0)
            have hb6 := set6_bk HZR9.out (.int .u8 0) (.int .u64 0) (.int .u64 0) (.int .i64 0) (.int .i64 0) (.slice none 0 0)
            have hbe := ho6.below HBW9.out (fun b hb => by rw [hb]; exact Nat.le_refl _) HBW9.out.size
            refine bodyPost_ret (results_cell_row2 rfl _ _ w.heap.size 25 _ (0, 0) _ rfl hb6 Try.underlying25 rfl size_msg) rfl ?_
            have e1 : getM bs = Mg.zero := by unfold getM; rw [if_neg HNO.out]
            have e2 : getE bs = 2 := by unfold getE; rw [if_neg HNO.out]
            unfold GetPost
            rw [e1, e2]
            exact ⟨none, 0, rfl, OwnL.nil_ _ _, hbe⟩
      · rw [hb] at c2
        go_wp2_with fail
        refine HDON.out.mono ?_
        rintro e _ ⟨mq, rfl, rfl⟩
        obtain ⟨wq, hwq⟩ : ∃ wq, wq = wr.drewN mq := ⟨_, rfl⟩
        have hzq : Bk wq w.heap.size 25 zeroC := by rw [hwq]; exact HZR.out
        have hmq : Bk wq M 25 (mgC (said bs) Ar k cr) := by rw [hwq]; exact HM.out
        have hbq : Below w.heap.size w wq := by rw [hwq]; exact below_drewN' HBW.out mq
        have hbq2 : Below wr.heap.size wr wq := by rw [hwq]; exact below_drewN' (Below.refl _ _) mq
        have hlq : OwnL w8.heap.size wq (.slice Ar k cr) ls := by
          obtain ⟨xs', q1, q2⟩ := HLN.out
          exact ⟨xs', q1.kept (grown_of_below hbq2 none) (Classical.em _), q2.below hbq2⟩
        rw [← hwq]
        have HZQ := Lib.hid hzq
        have HMz := Lib.hid hmq
        have HBQ := Lib.hid hbq
        have HLQ := Lib.hid hlq
        clear hzq hmq hbq hbq2 hlq hwq
        have z0 : (wq).cell? ⟨w.heap.size, 0, none⟩ = some (.int .u8 0) := HZQ.out.cell 0
        have z1 : (wq).cell? ⟨w.heap.size, 1, none⟩ = some (.int .u64 0) := HZQ.out.cell 1
        have z2 : (wq).cell? ⟨w.heap.size, 2, none⟩ = some (.int .u64 0) := HZQ.out.cell 2
        have z3 : (wq).cell? ⟨w.heap.size, 3, none⟩ = some (.int .i64 0) := HZQ.out.cell 3
        have z4 : (wq).cell? ⟨w.heap.size, 4, none⟩ = some (.int .i64 0) := HZQ.out.cell 4
        have z5 : (wq).cell? ⟨w.heap.size, 5, none⟩ = some (.slice none 0 0) := HZQ.out.cell 5
        have y0 := HZQ.out.frozen 0
        have y1 := HZQ.out.frozen 1
        have y2 := HZQ.out.frozen 2
        have y3 := HZQ.out.frozen 3
        have y4 := HZQ.out.frozen 4
        have y5 := HZQ.out.frozen 5
        cases dn with
        | false =>
          have HNO : Hid (¬ getOk bs) := HGN.out _ HDN.out rfl
          go_wp2_with fail
          have ho6 := set6_out wq w.heap.size (.int .u8 0) (.int .u64 0) (.int .u64 0) (.int .i64 0) (.int .i64 0) (.slice none 0 0)
          have hb6 := set6_bk HZQ.out (.int .u8 0) (.int .u64 0) (.int .u64 0) (.int .i64 0) (.int .i64 0) (.slice none 0 0)
          have hbe := ho6.below HBQ.out (fun b hb => by rw [hb]; exact Nat.le_refl _) HBQ.out.size
          refine bodyPost_ret (results_cell_row2 rfl _ _ w.heap.size 25 _ (0, 0) _ rfl hb6 Try.underlying25 rfl size_msg) rfl ?_
          have e1 : getM bs = Mg.zero := by unfold getM; rw [if_neg HNO.out]
          have e2 : getE bs = 2 := by unfold getE; rw [if_neg HNO.out]
          unfold GetPost
          rw [e1, e2]
          exact ⟨none, 0, rfl, OwnL.nil_ _ _, hbe⟩
        | true =>
          obtain ⟨hs2, hs1, hkn⟩ := HGD.out _ HDN.out rfl
          have HKN := Lib.hid hkn
          have HS2 : Hid (st.2 = false ∧ st.1 = []) := ⟨hs2, hs1⟩
          clear hs2 hs1 hkn
          have m0 : (wq).cell? ⟨M, 0, none⟩ = some (.int .u8 ((said bs).kind : Int)) := HMz.out.cell 0
          have m1 : (wq).cell? ⟨M, 1, none⟩ = some (.int .u64 ((said bs).epoch : Int)) := HMz.out.cell 1
          have m2 : (wq).cell? ⟨M, 2, none⟩ = some (.int .u64 ((said bs).current : Int)) := HMz.out.cell 2
          have m3 : (wq).cell? ⟨M, 3, none⟩ = some (.int .i64 (said bs).at_) := HMz.out.cell 3
          have m4 : (wq).cell? ⟨M, 4, none⟩ = some (.int .i64 (said bs).commit) := HMz.out.cell 4
          have m5 : (wq).cell? ⟨M, 5, none⟩ = some (.slice Ar k cr) := HMz.out.cell 5
          have HSL : Hid ((said bs).lines = ls) := by
            show (linesS (nOf bs) (s6 bs)).1 = ls
            first | (rw [HLS.out]; done) | rw [← HKN.out, HLS.out]
          have HLF : Hid (st = left bs) := by
            show st = (linesS (nOf bs) (s6 bs)).2
            first | (rw [HST.out]; done) | rw [← HKN.out, HST.out]
          have hmay := rmay_any (P := fun k => w8.heap.size ≤ k ∧ k < wq.heap.size) Ar k cr (said bs) wq (said_good bs (by have := HLEN.out; omega)) (by
            have z := HLQ.out.lns
            rw [HLL.out] at z
            rw [HSL.out]
            exact z)
          have HMAY := Lib.hid hmay
          clear hmay
          unfold mgC at HMAY
          go_wp2_with fail
          refine HMAY.out.mono ?_
          rintro e w9 ⟨rfl, hb9⟩
          have HBW9 := Lib.hid (HBQ.out.trans (hb9.mono HBQ.out.size))
          have HZR9 := Lib.hid (HZQ.out.below hb9)
          have HMz9 := Lib.hid (HMz.out.below hb9)
          have hln9 : OwnL w8.heap.size w9 (.slice Ar k cr) ls := by
            obtain ⟨xs', q1, q2⟩ := HLQ.out
            exact ⟨xs', q1.kept (grown_of_below hb9 none) (Classical.em _), q2.below hb9⟩
          have HLN9 := Lib.hid hln9
          clear z0 z1 z2 z3 z4 z5 y0 y1 y2 y3 y4 y5 m0 m1 m2 m3 m4 m5
          have z0 : (w9).cell? ⟨w.heap.size, 0, none⟩ = some (.int .u8 0) := HZR9.out.cell 0
          have z1 : (w9).cell? ⟨w.heap.size, 1, none⟩ = some (.int .u64 0) := HZR9.out.cell 1
          have z2 : (w9).cell? ⟨w.heap.size, 2, none⟩ = some (.int .u64 0) := HZR9.out.cell 2
          have z3 : (w9).cell? ⟨w.heap.size, 3, none⟩ = some (.int .i64 0) := HZR9.out.cell 3
          have z4 : (w9).cell? ⟨w.heap.size, 4, none⟩ = some (.int .i64 0) := HZR9.out.cell 4
          have z5 : (w9).cell? ⟨w.heap.size, 5, none⟩ = some (.slice none 0 0) := HZR9.out.cell 5
          have y0 := HZR9.out.frozen 0
          have y1 := HZR9.out.frozen 1
          have y2 := HZR9.out.frozen 2
          have y3 := HZR9.out.frozen 3
          have y4 := HZR9.out.frozen 4
          have y5 := HZR9.out.frozen 5
          have m0 : (w9).cell? ⟨M, 0, none⟩ = some (.int .u8 ((said bs).kind : Int)) := HMz9.out.cell 0
          have m1 : (w9).cell? ⟨M, 1, none⟩ = some (.int .u64 ((said bs).epoch : Int)) := HMz9.out.cell 1
          have m2 : (w9).cell? ⟨M, 2, none⟩ = some (.int .u64 ((said bs).current : Int)) := HMz9.out.cell 2
          have m3 : (w9).cell? ⟨M, 3, none⟩ = some (.int .i64 (said bs).at_) := HMz9.out.cell 3
          have m4 : (w9).cell? ⟨M, 4, none⟩ = some (.int .i64 (said bs).commit) := HMz9.out.cell 4
          have m5 : (w9).cell? ⟨M, 5, none⟩ = some (.slice Ar k cr) := HMz9.out.cell 5
          have hlw : w.heap.size ≤ w8.heap.size := Nat.le_trans HB0.out.size HO8.out.size
          have HLW := Lib.hid hlw
          clear hb9 hln9 hlw
          by_cases hmy : (said bs).may
          · have hd : decide (said bs).may = true := by simp [hmy]
            rw [hd]
            have HG : Hid (getOk bs) := ⟨by rw [← HLF.out]; exact HS2.out.1, by rw [← HLF.out]; exact HS2.out.2, hmy⟩
            clear hd hmy
            go_wp2_with fail
            have ho6 := set6_out w9 w.heap.size (.int .u8 ((said bs).kind : Int)) (.int .u64 ((said bs).epoch : Int)) (.int .u64 ((said bs).current : Int)) (.int .i64 (said bs).at_) (.int .i64 (said bs).commit) (.slice Ar k cr)
            have hb6 := set6_bk HZR9.out (.int .u8 ((said bs).kind : Int)) (.int .u64 ((said bs).epoch : Int)) (.int .u64 ((said bs).current : Int)) (.int .i64 (said bs).at_) (.int .i64 (said bs).commit) (.slice Ar k cr)
            have hbe := ho6.below HBW9.out (fun b hb => by rw [hb]; exact Nat.le_refl _) HBW9.out.size
            refine bodyPost_ret (results_cell_row2 rfl _ _ w.heap.size 25 _ (0, 0) _ rfl hb6 Try.underlying25 rfl size_msg) rfl ?_
            have e1 : getM bs = said bs := by unfold getM; rw [if_pos HG.out]
            have e2 : getE bs = 0 := by unfold getE; rw [if_pos HG.out]
            have e3 : (said bs).lines.length = k := by rw [HSL.out, HLL.out]
            unfold GetPost
            rw [e1, e2, e3, HSL.out]
            refine ⟨Ar, cr, rfl, ?_, hbe⟩
            obtain ⟨xs', q1, q2⟩ := HLN9.out
            refine ⟨xs', own_base (own_out q1 ho6 fun b hb hx => ?_) HLW.out, fresh_base (fresh_out q2 ho6 fun b hb => .inl ?_) HLW.out⟩
            · have := (own_lt q1 hb).1
              have := HZ8.out.lt
              omega
            · rw [hb]; exact HZ8.out.lt
          · have hd : decide (said bs).may = false := by simp [hmy]
            rw [hd]
            have HNO : Hid (¬ getOk bs) := fun hg => hmy hg.2.2
            clear hd hmy
            go_wp2_with fail
            have ho6 := set6_out w9 w.heap.size (.int .u8 0) (.int .u64 0) (.int .u64 0) (.int .i64 0) (.int .i64 0) (.slice none 0 0)
            have hb6 := set6_bk HZR9.out (.int .u8 0) (.int .u64 0) (.int .u64 0) (.int .i64 0) (.int .i64 0) (.slice none 0 0)
            have hbe := ho6.below HBW9.out (fun b hb => by rw [hb]; exact Nat.le_refl _) HBW9.out.size
            refine bodyPost_ret (results_cell_row2 rfl _ _ w.heap.size 25 _ (0, 0) _ rfl hb6 Try.underlying25 rfl size_msg) rfl ?_
            have e1 : getM bs = Mg.zero := by unfold getM; rw [if_neg HNO.out]
            have e2 : getE bs = 2 := by unfold getE; rw [if_neg HNO.out]
            unfold GetPost
            rw [e1, e2]
            exact ⟨none, 0, rfl, OwnL.nil_ _ _, hbe⟩
end Go.Proofs.Ytobdkgmlkchggaa.Zm
