/- The law's own example. -/
import Derived.Test.YtjfoihbcieffdaaRDiskSheet
namespace Go.Proofs.YtjfoihbcieffdaaR.Disk
open Go.RowKit

/-- A disk of one's own, since w0. -/
structure St (w0 w : World) (X : Nat → Prop) (g : Nat) (d : DK) : Prop where
  at_ : DkAt w X g d
  below : Below w0.heap.size w0 w
  own : ∀ k, X k → w0.heap.size ≤ k
theorem DkAt.lt {w : World} {X : Nat → Prop} {g : Nat} {d : DK} (h : DkAt w X g d) : ∀ k, X k → k < w.heap.size := by
  obtain ⟨_, _, _, h⟩ := h
  exact h.lt
theorem St.below_ {w0 w w' : World} {X : Nat → Prop} {g : Nat} {d : DK} (h : St w0 w X g d) (hb : Below w.heap.size w w') : St w0 w' X g d :=
  ⟨h.at_.below hb, h.below.trans (hb.mono h.below.size), h.own⟩
theorem St.of {w0 w w' : World} {X X' : Nat → Prop} {g : Nat} {d d' : DK} (h : St w0 w X g d) (h1 : DkAt w' X' g d') (ho : Out X w w') (hx : ∀ k, X' k → X k ∨ w.heap.size ≤ k) : St w0 w' X' g d' :=
  ⟨h1, ho.below h.below h.own h.below.size, fun k hk => (hx k hk).elim (h.own k) (fun h2 => Nat.le_trans h.below.size h2)⟩
/-- A call that turns the disk into d'. -/
def ToPost (v : Value) (w0 : World) (X : Nat → Prop) (g : Nat) (d' : DK) (w : World) (e : Ending) (w' : World) : Prop :=
  e = .returned v ∧ ∃ X', St w0 w' X' g d' ∧ Out X w w' ∧ ∀ k, X' k → X k ∨ w.heap.size ≤ k
theorem write_st {w0 w : World} {X : Nat → Prop} {g : Nat} {d : DK} (h : St w0 w X g d) (k : Int) (A : Option Addr) (n c : Nat) (b : List UInt8) (hr : Rd w A n b) (hx : ∀ a, A = some a → ¬ X a.block) (hnn : n ≤ 1000000) (hn : d.row.length ≤ 1000000) :
    Calls Try.prog 24 #[.pointer (some ⟨g, 0, none⟩), .int .i64 k, .slice A n c] w (ToPost (.int .i64 (d.write k b).1) w0 X g (d.write k b).2 w) :=
  (write_any h.at_ k A n c b hr hx hnn hn).mono fun _ _ ⟨e, X', h1, h2, h3⟩ => ⟨e, X', h.of h1 h2 h3, h2, h3⟩
theorem sync_st {w0 w : World} {X : Nat → Prop} {g : Nat} {d : DK} (h : St w0 w X g d) (hn : d.row.length ≤ 1000000) :
    Calls Try.prog 20 #[.pointer (some ⟨g, 0, none⟩)] w (ToPost (.int .i64 d.sync.1) w0 X g d.sync.2 w) :=
  (sync_any h.at_ hn).mono fun _ _ ⟨e, X', h1, h2, h3⟩ => ⟨e, X', h.of h1 h2 h3, h2, h3⟩
theorem fuse_st {w0 w : World} {X : Nat → Prop} {g : Nat} {d : DK} (h : St w0 w X g d) (n : Int) (h1 : -9223372036854775808 ≤ n) (h2 : n ≤ 9223372036854775807) :
    Calls Try.prog 23 #[.pointer (some ⟨g, 0, none⟩), .int .i64 n] w (ToPost (.tuple #[]) w0 X g (d.fuse n) w) :=
  (fuse_any h.at_ n h1 h2).mono fun _ _ ⟨e, X', h1, h2, h3⟩ => ⟨e, X', h.of h1 h2 h3, h2, h3⟩
theorem kill_st {w0 w : World} {X : Nat → Prop} {g : Nat} {d : DK} (h : St w0 w X g d) :
    Calls Try.prog 21 #[.pointer (some ⟨g, 0, none⟩)] w (ToPost (.tuple #[]) w0 X g d.kill w) :=
  (kill_any h.at_).mono fun _ _ ⟨e, X', h1, h2, h3⟩ => ⟨e, X', h.of h1 h2 h3, h2, h3⟩
theorem restart_st {w0 w : World} {X : Nat → Prop} {g : Nat} {d : DK} (h : St w0 w X g d) (A : Option Addr) (n c : Nat) (zs : List Int) (hr : RdI w A n zs) (hx : 0 < n → ∀ a, A = some a → ¬ X a.block) (hnz : n ≤ 1000000) (hn : d.row.length ≤ 1000000) :
    Calls Try.prog 22 #[.pointer (some ⟨g, 0, none⟩), .slice A n c] w (ToPost (.tuple #[]) w0 X g (d.restart zs) w) :=
  (restart_any h.at_ A n c zs hr hx hnz hn).mono fun _ _ ⟨e, X', h1, h2, h3⟩ => ⟨e, X', h.of h1 h2 h3, h2, h3⟩
def NewSt (n : Nat) (w0 w : World) (e : Ending) (w' : World) : Prop :=
  ∃ g X, e = .returned (.tuple #[.pointer (some ⟨g, 0, none⟩), .int .i64 0]) ∧ St w0 w' X g (DK.new n) ∧ (∀ k, X k → w.heap.size ≤ k) ∧ Below w.heap.size w w'
theorem new_st (n : Nat) (w0 w : World) (h1 : 1 ≤ n) (h2 : n ≤ 4096) (hb : Below w0.heap.size w0 w) : Calls Try.prog 10 #[.int .i64 (n : Int)] w (NewSt n w0 w) :=
  (new_yes n w h1 h2).mono fun _ _ ⟨g, X, e, h3, h4, h5⟩ => ⟨g, X, e, ⟨h3, hb.trans (h5.mono hb.size), fun k hk => Nat.le_trans hb.size (h4 k hk)⟩, h4, h5⟩
/-- A row of bytes that is owned reads as them. -/
theorem Rd.of_own' {w : World} {base : Nat} {e : TypeId} {A : Option Addr} {n m c : Nat} {bs : List UInt8} (h : w.ownsRow base e 1 (.slice A n c) m (bs.map U)) : Rd w A n bs := (Rd.of_own h).1
theorem rdI_lit (w : World) (e : TypeId) (zs : List Int) (hwf : ∀ z ∈ zs, -9223372036854775808 ≤ z ∧ z ≤ 9223372036854775807) : RdI (w.alloc (.cells (zs.map fun z => Value.int .i64 z).toArray e)) (some ⟨w.heap.size, 0, none⟩) zs.length zs :=
  ⟨rfl, fun _ => ⟨_, rfl, fun j z hz => by
    have hadd : ((⟨w.heap.size, 0, none⟩ : Addr).add j) = ⟨w.heap.size, j, none⟩ := by unfold Addr.add; split <;> simp_all
    rw [hadd, cell_of_row _ _ _ _ _ _ (heap_alloc_last w _)]
    simp [hz]⟩, hwf⟩
/-- What a page that was read holds. -/
theorem page_cell {w : World} {h : Nat} {b : List UInt8} {t : TypeId} (hk : Bk w h t (b.map U).toArray) {i : Nat} {x : UInt8} (hx : b[i]? = some x) : w.cell? ⟨h, i, none⟩ = some (U x) := by
  rw [hk.cell]
  simp [hx]
theorem page_rd {w : World} {h : Nat} {b : List UInt8} {t : TypeId} (hk : Bk w h t (b.map U).toArray) {n : Nat} (hn : b.length = n) : Rd w (some ⟨h, 0, none⟩) n b :=
  ⟨hn, fun _ => ⟨_, rfl, fun j x hx => by
    have hadd : ((⟨h, 0, none⟩ : Addr).add j) = ⟨h, j, none⟩ := by unfold Addr.add; split <;> simp_all
    rw [hadd]
    exact page_cell hk hx⟩⟩
theorem read_st {w0 w : World} {X : Nat → Prop} {g : Nat} {d : DK} (h : St w0 w X g d) (k : Nat) (hf : d.faultAt (k : Int) = 0) (hn : d.row.length ≤ 1000000) :
    Calls Try.prog 17 #[.pointer (some ⟨g, 0, none⟩), .int .i64 (k : Int)] w fun e w' => ∃ h, e = .returned (.tuple #[.slice (some ⟨h, 0, none⟩) 512 512, .int .i64 0]) ∧ Bk w' h 63 ((d.seen k).map U).toArray ∧ w.heap.size ≤ h ∧ St w0 w' X g d ∧ Below w.heap.size w w' :=
  (read_yes h.at_ k hf hn).mono fun _ _ ⟨b, e, h1, h2, h3⟩ => ⟨b, e, h1, h2, h.below_ h3, h3⟩
def dA : DK := ((DK.new 2).write 0 (sheet 97 0)).2
def dB : DK := (dA.write 0 (sheet 98 0)).2
def dC : DK := dB.restart [5, 2]
set_option maxRecDepth 100000 in
theorem wakes_facts : ((DK.new 2).write 0 (sheet 97 0)).1 = 0 ∧ (dA.write 0 (sheet 98 0)).1 = 0 ∧ (DK.new 2).row.length = 0 ∧ dA.row.length = 1 ∧ dB.row.length = 2 ∧ dC.row.length = 0 ∧ dC.faultAt 0 = 0 ∧ (dC.seen 0).take 6 = [98, 98, 97, 97, 97, 0] ∧ (dC.seen 0)[511]? = some 0 ∧ (dC.seen 0).length = 512 := by
  refine ⟨?_, ?_, ?_, ?_, ?_, ?_, ?_, ?_, ?_, ?_⟩ <;> kernel_rfl
set_option maxRecDepth 100000 in
set_option maxHeartbeats 1000000 in
theorem wakes_any (w : World) : Calls Try.prog 9 #[] w fun e w' => e = .returned (.bool true) ∧ Below w.heap.size w w' := by
  obtain ⟨fA, fB, r0, r1, r2, r3, ff, ft, f511, fl⟩ := wakes_facts
  have HfA := Lib.hid fA
  have HfB := Lib.hid fB
  have Hr0 := Lib.hid r0
  have Hr1 := Lib.hid r1
  have Hr2 := Lib.hid r2
  have Hr3 := Lib.hid r3
  have Hff := Lib.hid ff
  have Hft := Lib.hid ft
  have Hf5 := Lib.hid f511
  have Hfl := Lib.hid fl
  clear fA fB r0 r1 r2 r3 ff ft f511 fl
  go_enter Try.func9, Try.ntmps9
  go_wp2_with fail
  have cn : Calls Try.prog 10 #[.int .i64 2] w (NewSt 2 w w) := new_st 2 w w (by omega) (by omega) (Below.refl _ _)
  refine cn.mono ?_
  clear cn
  rintro e w1 ⟨g, X, rfl, hs, -, -⟩
  have HS := Lib.hid hs
  clear hs
  go_wp2_with fail
  have cs : Calls Try.prog 19 #[.int .u8 97, .int .u8 0] w1 (SheetPost 97 0 w1) := sheet_any 97 0 w1
  refine cs.mono ?_
  clear cs
  rintro e w2 ⟨g1, c1, rfl, ho, hb, hg, hl⟩
  have HS1 := Lib.hid (HS.out.below_ hb)
  have HR1 := Lib.hid (Rd.of_own' ho)
  have HX1 : Hid (∀ a, (some ⟨g1, 0, none⟩ : Option Addr) = some a → ¬ X a.block) := fun a ha hx => by
    injection ha with ha
    subst ha
    have := HS.out.at_.lt _ hx
    have : g1 < w1.heap.size := this
    omega
  clear ho hb hg hl HS
  go_wp2_with fail
  have cw := write_st HS1.out 0 (some ⟨g1, 0, none⟩) 512 c1 (sheet 97 0) HR1.out HX1.out (by omega) (by rw [Hr0.out]; omega)
  rw [HfA.out] at cw
  refine cw.mono ?_
  clear cw
  rintro e w3 ⟨rfl, X1, hs, ho, hx⟩
  have HS : Hid (St w w3 X1 g dA) := hs
  clear hs ho hx HS1 HR1 HX1
  go_wp2_with fail
  have cs : Calls Try.prog 19 #[.int .u8 98, .int .u8 0] w3 (SheetPost 98 0 w3) := sheet_any 98 0 w3
  refine cs.mono ?_
  clear cs
  rintro e w4 ⟨g2, c2, rfl, ho, hb, hg, hl⟩
  have HS2 := Lib.hid (HS.out.below_ hb)
  have HR2 := Lib.hid (Rd.of_own' ho)
  have HX2 : Hid (∀ a, (some ⟨g2, 0, none⟩ : Option Addr) = some a → ¬ X1 a.block) := fun a ha hx => by
    injection ha with ha
    subst ha
    have := HS.out.at_.lt _ hx
    have : g2 < w3.heap.size := this
    omega
  clear ho hb hg hl HS
  go_wp2_with fail
  have cw := write_st HS2.out 0 (some ⟨g2, 0, none⟩) 512 c2 (sheet 98 0) HR2.out HX2.out (by omega) (by rw [Hr1.out]; omega)
  rw [HfB.out] at cw
  refine cw.mono ?_
  clear cw
  rintro e w5 ⟨rfl, X2, hs, ho, hx⟩
  have HS : Hid (St w w5 X2 g dB) := hs
  clear hs ho hx HS2 HR2 HX2
  go_wp2_with fail
  have cw := waiting_any HS.out.at_
  rw [Hr2.out] at cw
  refine cw.mono ?_
  clear cw
  rintro e w6 ⟨rfl, rfl⟩
  go_wp2_with fail
  have hb5 : Below w5.heap.size w5 (w5.alloc (.cells #[.int .i64 5, .int .i64 2] 3)) := (Below.refl _ _).alloc (Nat.le_refl _) _
  have cw := restart_st (HS.out.below_ hb5) (some ⟨w5.heap.size, 0, none⟩) 2 2 [5, 2] (rdI_lit w5 3 [5, 2] (by simp)) (fun _ a ha hx => by
    injection ha with ha
    subst ha
    have := HS.out.at_.lt _ hx
    have : w5.heap.size < w5.heap.size := this
    omega) (by omega) (by rw [Hr2.out]; omega)
  clear hb5
  refine cw.mono ?_
  clear cw
  rintro e w6 ⟨rfl, X3, hs, ho, hx⟩
  have HS3 : Hid (St w w6 X3 g dC) := hs
  clear hs ho hx HS
  go_wp2_with fail
  have cw : Calls Try.prog 17 #[.pointer (some ⟨g, 0, none⟩), .int .i64 0] w6 _ := read_st HS3.out 0 Hff.out (by rw [Hr3.out]; omega)
  refine cw.mono ?_
  clear cw
  rintro e w7 ⟨h, rfl, hk, -, hs, -⟩
  have HB : Hid (Below w.heap.size w w7) := hs.below
  have hr := page_rd hk Hfl.out
  have hr6 := hr.take (k := 6) (by omega)
  rw [Hft.out] at hr6
  have hcv := conv_string hr6 512
  have hc5 : w7.cell? ⟨h, 511, none⟩ = some (.int .u8 0) := page_cell hk Hf5.out
  have hS : S [98, 98, 97, 97, 97, 0] = ⟨#[98, 98, 97, 97, 97, 0]⟩ := rfl
  rw [hS] at hcv
  clear hs hk hr hr6 hS
  go_wp2_with fail
  go_ret
  exact ⟨rfl, HB.out⟩
end Go.Proofs.YtjfoihbcieffdaaR.Disk
