/- Contracts of disk's small functions. -/
import Derived.Test.YtikpedkckijioaaDiskBase
namespace Go.Proofs.Ytikpedkckijioaa.Disk
open Go.RowKit

def Ans (v : Value) (w : World) (e : Ending) (w' : World) : Prop := e = .returned v ∧ w = w'
theorem fault_nil (w : World) : Calls Try.prog 44 #[.pointer none] w (Ans (.int .i64 8) w) := by
  go_enter Try.func44, Try.ntmps44
  go_wp2_with fail
  go_ret
  exact ⟨rfl, rfl⟩
theorem fault_any {w : World} {X : Nat → Prop} {g : Nat} {d : DK} (h : DkAt w X g d) : Calls Try.prog 44 #[.pointer (some ⟨g, 0, none⟩)] w (Ans (.int .i64 d.fault) w) := by
  obtain ⟨p, A, c, h⟩ := h
  obtain ⟨-, -, h2, -⟩ := h.cells
  unfold DK.fault
  cases hd : d.dead
  · rw [hd] at h2
    clear h hd
    rw [if_neg (by decide)]
    go_enter Try.func44, Try.ntmps44
    go_wp2_with fail
    go_ret
    exact ⟨rfl, rfl⟩
  · rw [hd] at h2
    clear h hd
    rw [if_pos rfl]
    go_enter Try.func44, Try.ntmps44
    go_wp2_with fail
    go_ret
    exact ⟨rfl, rfl⟩
theorem dead_nil (w : World) : Calls Try.prog 29 #[.pointer none] w (Ans (.bool false) w) := by
  go_enter Try.func29, Try.ntmps29
  go_wp2_with fail
  go_ret
  exact ⟨rfl, rfl⟩
theorem dead_any {w : World} {X : Nat → Prop} {g : Nat} {d : DK} (h : DkAt w X g d) : Calls Try.prog 29 #[.pointer (some ⟨g, 0, none⟩)] w (Ans (.bool d.dead) w) := by
  obtain ⟨p, A, c, h⟩ := h
  obtain ⟨-, -, h0, -⟩ := h.cells
  clear h
  go_enter Try.func29, Try.ntmps29
  go_wp2_with fail
  go_ret
  exact ⟨rfl, rfl⟩
theorem faultAt_nil (k : Int) (w : World) : Calls Try.prog 42 #[.pointer none, .int .i64 k] w (Ans (.int .i64 8) w) := by
  go_enter Try.func42, Try.ntmps42
  go_wp2_with fail
  refine (fault_nil w).mono ?_
  rintro e w1 ⟨rfl, rfl⟩
  go_wp2_with fail
  go_ret
  exact ⟨rfl, rfl⟩
theorem faultAt_any {w : World} {X : Nat → Prop} {g : Nat} {d : DK} (h : DkAt w X g d) (k : Int) : Calls Try.prog 42 #[.pointer (some ⟨g, 0, none⟩), .int .i64 k] w (Ans (.int .i64 (d.faultAt k)) w) := by
  have cf := fault_any h
  obtain ⟨p, A, c, h⟩ := h
  obtain ⟨h0, -⟩ := h.cells
  have hok := h.ok
  have hmany := hok.many
  generalize hn : d.pages.length = n at *
  unfold DK.fault at cf
  unfold DK.faultAt
  rw [hn]
  clear h hok hn
  by_cases hd : d.dead = true
  · rw [if_pos hd] at cf
    rw [if_pos hd]
    clear hd
    go_enter Try.func42, Try.ntmps42
    go_wp2_with fail
    refine cf.mono ?_
    rintro e w1 ⟨rfl, rfl⟩
    go_wp2_with fail
    go_ret
    exact ⟨rfl, rfl⟩
  · rw [if_neg hd] at cf
    rw [if_neg hd]
    clear hd
    by_cases h1 : k < 0
    · rw [if_pos (.inl h1)]
      go_enter Try.func42, Try.ntmps42
      go_wp2_with fail
      refine cf.mono ?_
      rintro e w1 ⟨rfl, rfl⟩
      go_wp2_with fail
      go_ret
      exact ⟨rfl, rfl⟩
    · by_cases h2 : (n : Int) ≤ k
      · rw [if_pos (.inr h2)]
        go_enter Try.func42, Try.ntmps42
        go_wp2_with fail
        refine cf.mono ?_
        rintro e w1 ⟨rfl, rfl⟩
        go_wp2_with fail
        go_ret
        exact ⟨rfl, rfl⟩
      · rw [if_neg (fun h => h.elim h1 h2)]
        go_enter Try.func42, Try.ntmps42
        go_wp2_with fail
        refine cf.mono ?_
        rintro e w1 ⟨rfl, rfl⟩
        go_wp2_with fail
        go_ret
        exact ⟨rfl, rfl⟩

/-- What a call leaves that turns the disk into d'. -/
def Turns (v : Value) (X : Nat → Prop) (g : Nat) (d' : DK) (w : World) (e : Ending) (w' : World) : Prop :=
  e = .returned v ∧ ∃ X', DkAt w' X' g d' ∧ Out X w w' ∧ ∀ k, X' k → X k ∨ w.heap.size ≤ k
theorem At.left {w : World} {X : Nat → Prop} {g p : Nat} {A : Option Addr} {c : Nat} {d : DK} (h : At w X g p A c d) (z : Int) (h1 : -9223372036854775808 ≤ z) (h2 : z ≤ 9223372036854775807) :
    At (w.setCell ⟨g, 3, none⟩ (.int .i64 z)) X g p A c { d with left := z } := by
  have ho := Out.setCell (X := (· = g)) w (p := ⟨g, 3, none⟩) rfl (.int .i64 z)
  refine ⟨h.bk.set 3 _, h.pg.kept (ho.block p h.pg.lt (fun e => h.ne e.symm)), ?_, h.xg, h.xp, h.xr, h.ne, h.ok.set rfl h.ok.pages h.ok.row h1 h2, fun k hk => Nat.lt_of_lt_of_le (h.lt k hk) ho.size⟩
  refine ⟨h.own.1, ?_⟩
  rcases h.own.2 with h1 | ⟨r, cap, cur, h1, h2, h3, h4⟩
  · exact .inl h1
  · refine .inr ⟨r, cap, cur, h1, h2, ?_, h4⟩
    injection h1 with e1
    rw [ho.block r (Array.getElem?_eq_some_iff.1 h3).1 (h.xr ⟨r, 0, none⟩ e1).2.1]
    exact h3
theorem At.deadTo {w : World} {X : Nat → Prop} {g p : Nat} {A : Option Addr} {c : Nat} {d : DK} (h : At w X g p A c d) (b : Bool) :
    At (w.setCell ⟨g, 2, none⟩ (.bool b)) X g p A c { d with dead := b } := by
  have ho := Out.setCell (X := (· = g)) w (p := ⟨g, 2, none⟩) rfl (.bool b)
  refine ⟨h.bk.set 2 _, h.pg.kept (ho.block p h.pg.lt (fun e => h.ne e.symm)), ?_, h.xg, h.xp, h.xr, h.ne, h.ok.set rfl h.ok.pages h.ok.row h.ok.low h.ok.high, fun k hk => Nat.lt_of_lt_of_le (h.lt k hk) ho.size⟩
  refine ⟨h.own.1, ?_⟩
  rcases h.own.2 with h1 | ⟨r, cap, cur, h1, h2, h3, h4⟩
  · exact .inl h1
  · refine .inr ⟨r, cap, cur, h1, h2, ?_, h4⟩
    injection h1 with e1
    rw [ho.block r (Array.getElem?_eq_some_iff.1 h3).1 (h.xr ⟨r, 0, none⟩ e1).2.1]
    exact h3
theorem burn_any {w : World} {X : Nat → Prop} {g : Nat} {d : DK} (h : DkAt w X g d) : Calls Try.prog 43 #[.pointer (some ⟨g, 0, none⟩)] w (Turns (.int .i64 d.burn.1) X g d.burn.2 w) := by
  obtain ⟨p, A, c, h⟩ := h
  obtain ⟨-, -, h2, h3, hf⟩ := h.cells
  have hx := Lib.hid (Out.setCell (X := X) w (p := ⟨g, 2, none⟩) h.xg (.bool true))
  have hy := Lib.hid (Out.setCell (X := X) w (p := ⟨g, 3, none⟩) h.xg (.int .i64 (d.left - 1)))
  have hlow := h.ok.low
  have hhigh := h.ok.high
  have H := Lib.hid h
  unfold DK.burn
  clear h
  by_cases h0 : d.left = 0
  · rw [if_pos h0]
    go_enter Try.func43, Try.ntmps43
    go_wp2_with fail
    go_ret
    exact ⟨rfl, X, ⟨p, A, c, H.out.deadTo true⟩, hx.out, fun k hk => .inl hk⟩
  · rw [if_neg h0]
    by_cases h1 : 0 < d.left
    · rw [if_pos h1]
      have hw : wrap64 (d.left - 1) = d.left - 1 := IntWalk.wrap64_in _ (by omega)
      go_enter Try.func43, Try.ntmps43
      go_wp2_with fail
      go_ret
      exact ⟨rfl, X, ⟨p, A, c, H.out.left (d.left - 1) (by omega) (by omega)⟩, hy.out, fun k hk => .inl hk⟩
    · rw [if_neg h1]
      go_enter Try.func43, Try.ntmps43
      go_wp2_with fail
      go_ret
      exact ⟨rfl, X, ⟨p, A, c, H.out⟩, Out.refl X w, fun k hk => .inl hk⟩
end Go.Proofs.Ytikpedkckijioaa.Disk
