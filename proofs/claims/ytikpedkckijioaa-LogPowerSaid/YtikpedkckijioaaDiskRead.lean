/- Contracts of Read, Fuse and Kill. -/
import Derived.Test.YtikpedkckijioaaDiskSeen
namespace Go.Proofs.Ytikpedkckijioaa.Disk
open Go.RowKit

theorem read_nil (k : Int) (w : World) : Calls Try.prog 30 #[.pointer none, .int .i64 k] w (Ans (.tuple #[.slice none 0 0, .int .i64 8]) w) := by
  go_enter Try.func30, Try.ntmps30
  go_wp2_with fail
  refine (faultAt_nil k w).mono ?_
  rintro e w1 ⟨rfl, rfl⟩
  go_wp2_with fail
  go_ret2
  exact ⟨rfl, rfl⟩
theorem read_no {w : World} {X : Nat → Prop} {g : Nat} {d : DK} (h : DkAt w X g d) (k : Int) (hf : d.faultAt k ≠ 0) :
    Calls Try.prog 30 #[.pointer (some ⟨g, 0, none⟩), .int .i64 k] w (Ans (.tuple #[.slice none 0 0, .int .i64 (d.faultAt k)]) w) := by
  have cf := fault_any h
  have cf := faultAt_any h k
  generalize d.faultAt k = z at *
  go_enter Try.func30, Try.ntmps30
  go_wp2_with fail
  refine cf.mono ?_
  rintro e w1 ⟨rfl, rfl⟩
  go_wp2_with fail
  go_ret2
  exact ⟨rfl, rfl⟩
def ReadPost (b : List UInt8) (w : World) (e : Ending) (w' : World) : Prop :=
  ∃ h, e = .returned (.tuple #[.slice (some ⟨h, 0, none⟩) 512 512, .int .i64 0]) ∧ Bk w' h 92 (b.map U).toArray ∧ w.heap.size ≤ h ∧ Below w.heap.size w w'
set_option maxRecDepth 100000 in
theorem read_yes {w : World} {X : Nat → Prop} {g : Nat} {d : DK} (h : DkAt w X g d) (k : Nat) (hf : d.faultAt (k : Int) = 0) (hn : d.row.length ≤ 1000000) :
    Calls Try.prog 30 #[.pointer (some ⟨g, 0, none⟩), .int .i64 (k : Int)] w (ReadPost (d.seen k) w) := by
  have cf := faultAt_any h (k : Int)
  rw [hf] at cf
  have hk : k < d.pages.length := by have := (faultAt_zero hf).2.2; omega
  have hlen := Lib.hid (h.ok.seen hk)
  have cs := seen_any h k hk hn
  generalize d.seen k = b at *
  clear hf hk hn h
  go_enter Try.func30, Try.ntmps30
  go_wp2_with fail
  refine cf.mono ?_
  rintro e w1 ⟨rfl, rfl⟩
  go_wp2_with fail
  refine cs.mono ?_
  rintro e w1 ⟨rfl, hb⟩
  have B1 := Lib.hid hb
  have HNEW := Lib.hid (fun cs : Array Value => Bk.new w1 92 cs)
  have HBEL : Hid (∀ cs : Array Value, Below w.heap.size w (w1.alloc (.cells cs 92))) := fun cs => B1.out.alloc B1.out.size _
  clear hb cf cs
  obtain ⟨V, hV⟩ : ∃ V, V = w1.alloc (.cells (zeros.map U).toArray 92) := ⟨_, rfl⟩
  have HVE := Lib.hid hV
  go_wp2_with ((with_reducible refine wpList_alloc_named ?_ 92 ?_ _ zero_page ?_); (exact rfl); (exact rfl))
  refine Lib.hid ?_
  rw [← hV]
  have HSZ := Lib.hid B1.out.size
  generalize hsz : w1.heap.size = N at *
  clear hV
  go_wp2_with ((with_reducible refine wpList_store_new ?_ 92 (.tmp 7) (.tmp 16) ?_ w1 _ _ _ HVE.out ?_ ?_ (size_pageA hlen.out) (by simp [hlen.out, zeros_length]) (one_page _) ?_); (exact rfl); (exact rfl); (show Value.pointer (some ⟨N, 0, none⟩) = _; rw [hsz]); (exact rfl))
  refine Lib.hid ?_
  have hbk := HNEW.out (b.map U).toArray
  have hbe := HBEL.out (b.map U).toArray
  generalize w1.alloc (.cells (b.map U).toArray 92) = W2 at *
  have HBK := Lib.hid hbk
  have HBE := Lib.hid hbe
  clear hbk hbe HNEW HBEL
  go_wp2_with fail
  go_ret2
  exact ⟨N, rfl, HBK.out, HSZ.out, HBE.out⟩
def Done (X : Nat → Prop) (g : Nat) (d' : DK) (w : World) (e : Ending) (w' : World) : Prop :=
  e = .returned (.tuple #[]) ∧ ∃ X', DkAt w' X' g d' ∧ Out X w w' ∧ ∀ k, X' k → X k ∨ w.heap.size ≤ k
theorem fuse_nil (n : Int) (w : World) : Calls Try.prog 22 #[.pointer none, .int .i64 n] w (Ans (.tuple #[]) w) := by
  go_enter Try.func22, Try.ntmps22
  go_wp2_with fail
  refine (fault_nil w).mono ?_
  rintro e w1 ⟨rfl, rfl⟩
  go_wp2_with fail
  go_end0
  exact ⟨rfl, rfl⟩
theorem kill_nil (w : World) : Calls Try.prog 28 #[.pointer none] w (Ans (.tuple #[]) w) := by
  go_enter Try.func28, Try.ntmps28
  go_wp2_with fail
  go_end0
  exact ⟨rfl, rfl⟩
theorem kill_any {w : World} {X : Nat → Prop} {g : Nat} {d : DK} (h : DkAt w X g d) : Calls Try.prog 28 #[.pointer (some ⟨g, 0, none⟩)] w (Done X g d.kill w) := by
  obtain ⟨p, A, c, h⟩ := h
  obtain ⟨-, -, h2, -, hf⟩ := h.cells
  have hx := Lib.hid (Out.setCell (X := X) w (p := ⟨g, 2, none⟩) h.xg (.bool true))
  have H := Lib.hid h
  clear h
  go_enter Try.func28, Try.ntmps28
  go_wp2_with fail
  go_end0
  exact ⟨rfl, X, ⟨p, A, c, H.out.deadTo true⟩, hx.out, fun k hk => .inl hk⟩
theorem fuse_any {w : World} {X : Nat → Prop} {g : Nat} {d : DK} (h : DkAt w X g d) (n : Int) (h1 : -9223372036854775808 ≤ n) (h2 : n ≤ 9223372036854775807) :
    Calls Try.prog 22 #[.pointer (some ⟨g, 0, none⟩), .int .i64 n] w (Done X g (d.fuse n) w) := by
  have cf := fault_any h
  obtain ⟨p, A, c, h⟩ := h
  obtain ⟨-, -, -, h3, hf⟩ := h.cells
  have hx := Lib.hid (Out.setCell (X := X) w (p := ⟨g, 3, none⟩) h.xg (.int .i64 n))
  have H := Lib.hid h
  unfold DK.fault at cf
  unfold DK.fuse
  clear h
  by_cases hd : d.dead = true
  · rw [if_pos hd] at cf
    rw [if_pos hd]
    clear hd
    go_enter Try.func22, Try.ntmps22
    go_wp2_with fail
    refine cf.mono ?_
    rintro e w1 ⟨rfl, rfl⟩
    go_wp2_with fail
    go_end0
    exact ⟨rfl, X, ⟨p, A, c, H.out⟩, Out.refl X w, fun k hk => .inl hk⟩
  · rw [if_neg hd] at cf
    rw [if_neg hd]
    clear hd
    go_enter Try.func22, Try.ntmps22
    go_wp2_with fail
    refine cf.mono ?_
    rintro e w1 ⟨rfl, rfl⟩
    go_wp2_with fail
    go_end0
    exact ⟨rfl, X, ⟨p, A, c, H.out.left n h1 h2⟩, hx.out, fun k hk => .inl hk⟩
end Go.Proofs.Ytikpedkckijioaa.Disk
