/- A disk of one's own since a world; what a page that was read holds (the head of DiskWakes, for later layers). -/
import Derived.Test.YtikpedkckijioaaDiskMore
namespace Go.Proofs.Ytikpedkckijioaa.Disk
open Go.RowKit

/-- A disk of one's own, since w0. -/
structure St (w0 w : World) (X : Nat → Prop) (g : Nat) (d : DK) : Prop where
  at_ : DkAt w X g d
  below : Below w0.heap.size w0 w
  own : ∀ k, X k → w0.heap.size ≤ k
theorem DkAt.lt {w : World} {X : Nat → Prop} {g : Nat} {d : DK} (h : DkAt w X g d) : ∀ k, X k → k < w.heap.size := by
  obtain ⟨_, _, _, h⟩ := h
  exact h.lt
theorem St.below_ {w0 w w' : World} {X : Nat → Prop} {g : Nat} {d : DK} (h : St w0 w X g d) (hb : Below w.heap.size w w') : St w0 w' X g d :=
  ⟨h.at_.below hb, h.below.trans (hb.mono h.below.size), h.own⟩
theorem St.of {w0 w w' : World} {X X' : Nat → Prop} {g : Nat} {d d' : DK} (h : St w0 w X g d) (h1 : DkAt w' X' g d') (ho : Out X w w') (hx : ∀ k, X' k → X k ∨ w.heap.size ≤ k) : St w0 w' X' g d' :=
  ⟨h1, ho.below h.below h.own h.below.size, fun k hk => (hx k hk).elim (h.own k) (fun h2 => Nat.le_trans h.below.size h2)⟩
/-- A call that turns the disk into d'. -/
def ToPost (v : Value) (w0 : World) (X : Nat → Prop) (g : Nat) (d' : DK) (w : World) (e : Ending) (w' : World) : Prop :=
  e = .returned v ∧ ∃ X', St w0 w' X' g d' ∧ Out X w w' ∧ ∀ k, X' k → X k ∨ w.heap.size ≤ k
theorem write_st {w0 w : World} {X : Nat → Prop} {g : Nat} {d : DK} (h : St w0 w X g d) (k : Int) (A : Option Addr) (n c : Nat) (b : List UInt8) (hr : Rd w A n b) (hx : ∀ a, A = some a → ¬ X a.block) (hnn : n ≤ 1000000) (hn : d.row.length ≤ 1000000) :
    Calls Try.prog 18 #[.pointer (some ⟨g, 0, none⟩), .int .i64 k, .slice A n c] w (ToPost (.int .i64 (d.write k b).1) w0 X g (d.write k b).2 w) :=
  (write_any h.at_ k A n c b hr hx hnn hn).mono fun _ _ ⟨e, X', h1, h2, h3⟩ => ⟨e, X', h.of h1 h2 h3, h2, h3⟩
theorem sync_st {w0 w : World} {X : Nat → Prop} {g : Nat} {d : DK} (h : St w0 w X g d) (hn : d.row.length ≤ 1000000) :
    Calls Try.prog 62 #[.pointer (some ⟨g, 0, none⟩)] w (ToPost (.int .i64 d.sync.1) w0 X g d.sync.2 w) :=
  (sync_any h.at_ hn).mono fun _ _ ⟨e, X', h1, h2, h3⟩ => ⟨e, X', h.of h1 h2 h3, h2, h3⟩
theorem fuse_st {w0 w : World} {X : Nat → Prop} {g : Nat} {d : DK} (h : St w0 w X g d) (n : Int) (h1 : -9223372036854775808 ≤ n) (h2 : n ≤ 9223372036854775807) :
    Calls Try.prog 22 #[.pointer (some ⟨g, 0, none⟩), .int .i64 n] w (ToPost (.tuple #[]) w0 X g (d.fuse n) w) :=
  (fuse_any h.at_ n h1 h2).mono fun _ _ ⟨e, X', h1, h2, h3⟩ => ⟨e, X', h.of h1 h2 h3, h2, h3⟩
theorem kill_st {w0 w : World} {X : Nat → Prop} {g : Nat} {d : DK} (h : St w0 w X g d) :
    Calls Try.prog 28 #[.pointer (some ⟨g, 0, none⟩)] w (ToPost (.tuple #[]) w0 X g d.kill w) :=
  (kill_any h.at_).mono fun _ _ ⟨e, X', h1, h2, h3⟩ => ⟨e, X', h.of h1 h2 h3, h2, h3⟩
theorem restart_st {w0 w : World} {X : Nat → Prop} {g : Nat} {d : DK} (h : St w0 w X g d) (A : Option Addr) (n c : Nat) (zs : List Int) (hr : RdI w A n zs) (hx : 0 < n → ∀ a, A = some a → ¬ X a.block) (hnz : n ≤ 1000000) (hn : d.row.length ≤ 1000000) :
    Calls Try.prog 24 #[.pointer (some ⟨g, 0, none⟩), .slice A n c] w (ToPost (.tuple #[]) w0 X g (d.restart zs) w) :=
  (restart_any h.at_ A n c zs hr hx hnz hn).mono fun _ _ ⟨e, X', h1, h2, h3⟩ => ⟨e, X', h.of h1 h2 h3, h2, h3⟩
def NewSt (n : Nat) (w0 w : World) (e : Ending) (w' : World) : Prop :=
  ∃ g X, e = .returned (.tuple #[.pointer (some ⟨g, 0, none⟩), .int .i64 0]) ∧ St w0 w' X g (DK.new n) ∧ (∀ k, X k → w.heap.size ≤ k) ∧ Below w.heap.size w w'
theorem new_st (n : Nat) (w0 w : World) (h1 : 1 ≤ n) (h2 : n ≤ 4096) (hb : Below w0.heap.size w0 w) : Calls Try.prog 10 #[.int .i64 (n : Int)] w (NewSt n w0 w) :=
  (new_yes n w h1 h2).mono fun _ _ ⟨g, X, e, h3, h4, h5⟩ => ⟨g, X, e, ⟨h3, hb.trans (h5.mono hb.size), fun k hk => Nat.le_trans hb.size (h4 k hk)⟩, h4, h5⟩
/-- A row of bytes that is owned reads as them. -/
theorem Rd.of_own' {w : World} {base : Nat} {e : TypeId} {A : Option Addr} {n m c : Nat} {bs : List UInt8} (h : w.ownsRow base e 1 (.slice A n c) m (bs.map U)) : Rd w A n bs := (Rd.of_own h).1
theorem rdI_lit (w : World) (e : TypeId) (zs : List Int) (hwf : ∀ z ∈ zs, -9223372036854775808 ≤ z ∧ z ≤ 9223372036854775807) : RdI (w.alloc (.cells (zs.map fun z => Value.int .i64 z).toArray e)) (some ⟨w.heap.size, 0, none⟩) zs.length zs :=
  ⟨rfl, fun _ => ⟨_, rfl, fun j z hz => by
    have hadd : ((⟨w.heap.size, 0, none⟩ : Addr).add j) = ⟨w.heap.size, j, none⟩ := by unfold Addr.add; split <;> simp_all
    rw [hadd, cell_of_row _ _ _ _ _ _ (heap_alloc_last w _)]
    simp [hz]⟩, hwf⟩
/-- What a page that was read holds. -/
theorem page_cell {w : World} {h : Nat} {b : List UInt8} {t : TypeId} (hk : Bk w h t (b.map U).toArray) {i : Nat} {x : UInt8} (hx : b[i]? = some x) : w.cell? ⟨h, i, none⟩ = some (U x) := by
  rw [hk.cell]
  simp [hx]
theorem page_rd {w : World} {h : Nat} {b : List UInt8} {t : TypeId} (hk : Bk w h t (b.map U).toArray) {n : Nat} (hn : b.length = n) : Rd w (some ⟨h, 0, none⟩) n b :=
  ⟨hn, fun _ => ⟨_, rfl, fun j x hx => by
    have hadd : ((⟨h, 0, none⟩ : Addr).add j) = ⟨h, j, none⟩ := by unfold Addr.add; split <;> simp_all
    rw [hadd]
    exact page_cell hk hx⟩⟩
theorem read_st {w0 w : World} {X : Nat → Prop} {g : Nat} {d : DK} (h : St w0 w X g d) (k : Nat) (hf : d.faultAt (k : Int) = 0) (hn : d.row.length ≤ 1000000) :
    Calls Try.prog 30 #[.pointer (some ⟨g, 0, none⟩), .int .i64 (k : Int)] w fun e w' => ∃ h, e = .returned (.tuple #[.slice (some ⟨h, 0, none⟩) 512 512, .int .i64 0]) ∧ Bk w' h 92 ((d.seen k).map U).toArray ∧ w.heap.size ≤ h ∧ St w0 w' X g d ∧ Below w.heap.size w w' :=
  (read_yes h.at_ k hf hn).mono fun _ _ ⟨b, e, h1, h2, h3⟩ => ⟨b, e, h1, h2, h.below_ h3, h3⟩
end Go.Proofs.Ytikpedkckijioaa.Disk
