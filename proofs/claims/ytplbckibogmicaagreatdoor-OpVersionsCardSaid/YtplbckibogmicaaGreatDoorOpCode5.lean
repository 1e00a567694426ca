/- check and get. -/
import Derived.Test.YtplbckibogmicaaGreatDoorOpCode4
import Derived.Deep.RegionWith
import Derived.Deep.RegionHeld3
namespace Go.Proofs.YtplbckibogmicaaGreatDoor.Opn
open Go.RowKit Path Tree

/-- What a method leaves: it throws, or it has done its work. -/
def Meth (g : Nat) (tp : Addr) (at_ : Int) (o : O1) (od ops : Value) (who : Who) (x : List Ef × R1) (w : World) (e : Ending) (w' : World) : Prop :=
  (x.2.e ≠ 0 ∧ e = thrown x.2.e ∧ Below w.heap.size w w') ∨
  (x.2.e = 0 ∧ e = .returned (.tuple #[]) ∧ Out (· = g) w w' ∧ ∃ A k c A2 k2 c2 A3 k3 c3, Bk w' g 104 (wkC tp at_ o od ops who (.slice A k c) x.2 (.slice A2 k2 c2) (.slice A3 k3 c3) nilS).toArray ∧ OwnE (fun j => w.heap.size ≤ j) w' (.slice A k c) x.1 ∧ DataS (fun j => w.heap.size ≤ j) w' (.slice A2 k2 c2) x.2.node.data ∧ TextS (fun j => w.heap.size ≤ j) w' (.slice A3 k3 c3) x.2.kids)
/-- The work at its begin. -/
def wk0 (tp : Addr) (at_ : Int) (o : O1) (od ops : Value) (who : Who) : List Value := wkC tp at_ o od ops who nilS (.no 0) nilS nilS nilS
theorem by_the_way {G : Prop} (w : World) (h : G) (_h2 : wpAny Tryz.prog .any #[] (fun _ _ _ => True) 0 #[] { tmps := #[], defers := [] } w) : G := h
set_option maxRecDepth 100000 in
set_option maxHeartbeats 1000000 in
theorem get_throws (g : Nat) (tp : Addr) (at_ : Int) (o : O1) (od ops : Value) (who : Who) (x : Int) (w : World) (h : Bk w g 104 (wk0 tp at_ o od ops who).toArray)
    (c : ∀ W, Below w.heap.size w W → Calls Tryz.prog 117 #[.pointer (some ⟨g, 0, none⟩)] W fun e w' => e = .panicked [{ v := .iface 25 (.int .i64 x), recovered := false }] ∧ Below W.heap.size W w') :
    Calls Tryz.prog 101 #[.pointer (some ⟨g, 0, none⟩)] w fun e w' => e = thrown x ∧ Below w.heap.size w w' := by
  have k3 : w.cell? ⟨g, 3, none⟩ = some (.string (S o.path)) := h.cell 3
  have cn := Lib.hid (c w.drew ((Below.refl _ w).drew))
  have BD : Hid (Below w.heap.size w w.drew) := (Below.refl _ w).drew
  clear h c
  unfold thrown
  go_enter Tryz.func101, Tryz.ntmps101
  go_wp2_with fail
  go_region_with ((go_at_call 117; refine cn.out.mono ?_; rintro e we ⟨rfl, hb⟩; go_wp2; refine by_the_way w ?_ ?_; exact ⟨rfl, rfl, BD.out.trans hb⟩))
  all_goals trivial
set_option maxRecDepth 100000 in
set_option maxHeartbeats 1000000 in
theorem check_throws (g : Nat) (tp : Addr) (at_ : Int) (o : O1) (od ops : Value) (who : Who) (x : Int) (w : World) (h : Bk w g 104 (wk0 tp at_ o od ops who).toArray)
    (c : ∀ W, Below w.heap.size w W → Calls Tryz.prog 116 #[.pointer (some ⟨g, 0, none⟩)] W fun e w' => e = .panicked [{ v := .iface 25 (.int .i64 x), recovered := false }] ∧ Below W.heap.size W w') :
    Calls Tryz.prog 100 #[.pointer (some ⟨g, 0, none⟩)] w fun e w' => e = thrown x ∧ Below w.heap.size w w' := by
  have k3 : w.cell? ⟨g, 3, none⟩ = some (.string (S o.path)) := h.cell 3
  have cn := Lib.hid (c w.drew ((Below.refl _ w).drew))
  have BD : Hid (Below w.heap.size w w.drew) := (Below.refl _ w).drew
  clear h c
  unfold thrown
  go_enter Tryz.func100, Tryz.ntmps100
  go_wp2_with fail
  go_region_with ((go_at_call 116; refine cn.out.mono ?_; rintro e we ⟨rfl, hb⟩; go_wp2; refine by_the_way w ?_ ?_; exact ⟨rfl, rfl, BD.out.trans hb⟩))
  all_goals trivial
set_option maxRecDepth 100000 in
set_option maxHeartbeats 1000000 in
theorem get_does (n : ZN) (g : Nat) (tp : Addr) (at_ : Int) (o : O1) (od ops : Value) (who : Who) (w : World) (h : Bk w g 104 (wk0 tp at_ o od ops who).toArray)
    (c : ∀ W, Below w.heap.size w W → Calls Tryz.prog 117 #[.pointer (some ⟨g, 0, none⟩)] W fun e w' => ∃ d', e = .returned (znV n d') ∧ Below W.heap.size W w' ∧ Copied W.heap.size w' d' n.data) :
    Calls Tryz.prog 101 #[.pointer (some ⟨g, 0, none⟩)] w fun e w' => e = .returned (.tuple #[]) ∧ Out (· = g) w w' ∧ ∃ A k c, Bk w' g 104 (wkC tp at_ o od ops who nilS ⟨0, o.path, n, []⟩ (.slice A k c) nilS nilS).toArray ∧ DataS (fun j => w.heap.size ≤ j) w' (.slice A k c) n.data := by
  have k3 : w.cell? ⟨g, 3, none⟩ = some (.string (S o.path)) := h.cell 3
  have cn := Lib.hid (c w.drew ((Below.refl _ w).drew))
  have BD : Hid (Below w.heap.size w w.drew) := (Below.refl _ w).drew
  have HC : Hid (∀ V, Below w.heap.size w V → V.cell? ⟨g, 3, none⟩ = some (.string (S o.path))) := fun V hV => (h.below hV).cell 3
  have HW : Hid (∀ V, Below w.heap.size w V → Bk V g 104 (wk0 tp at_ o od ops who).toArray) := fun V hV => h.below hV
  have HLT : Hid (g < w.heap.size) := h.lt
  clear h c
  go_enter Tryz.func101, Tryz.ntmps101
  go_wp2_with fail
  go_region_held3 (fun V => V.cell? ⟨g, 3, none⟩ = some (.string (S o.path)))
    (first | (with_reducible assumption) | (with_reducible exact HC.out _ BD.out) | (with_reducible exact HC.out _ BE.out) | (with_reducible exact HA.out))
    (first
      | (go_at_call 117; (with_reducible refine cn.out.mono ?_); rintro e we ⟨d2, rfl, hb2, hc2⟩; have BE : Hid (Below w.heap.size w we) := BD.out.trans hb2; have HC2 := Lib.hid hc2; obtain ⟨A2, k2, c2, rfl, hcx⟩ := hc2; have ca := Lib.hid (answer_any o.path n A2 k2 c2 g tp at_ o od ops who nilS (.no 0) nilS nilS nilS we (HW.out we BE.out)); clear hb2 hcx; dsimp only [znV, znC] at ca ⊢)
      | (go_at_call 113; (with_reducible refine ca.out.mono ?_); rintro e w5 ⟨rfl, hk5, ho5⟩; have HK5 := Lib.hid hk5; have HO5 := Lib.hid ho5; have HA : Hid (w5.cell? ⟨g, 3, none⟩ = some (.string (S o.path))) := hk5.cell 3; clear hk5 ho5))
  all_goals
    go_end0
    refine ⟨rfl, (Out.of_below BE.out).trans HO5.out (fun _ h => .inl h), A2, k2, c2, HK5.out, ?_⟩
    exact HC2.out.dataS.out HO5.out (fun j hj hx => by have := HLT.out; have hx : j = g := hx; have hj : w.drew.heap.size ≤ j := hj; simp at hj; omega)
set_option maxRecDepth 100000 in
set_option maxHeartbeats 1000000 in
theorem check_does (n : ZN) (g : Nat) (tp : Addr) (at_ : Int) (o : O1) (od ops : Value) (who : Who) (w : World) (h : Bk w g 104 (wk0 tp at_ o od ops who).toArray)
    (c : ∀ W, Below w.heap.size w W → Calls Tryz.prog 116 #[.pointer (some ⟨g, 0, none⟩)] W fun e w' => ∃ d', e = .returned (znV n d') ∧ Below W.heap.size W w' ∧ Copied W.heap.size w' d' n.data) :
    Calls Tryz.prog 100 #[.pointer (some ⟨g, 0, none⟩)] w fun e w' => e = .returned (.tuple #[]) ∧ Out (· = g) w w' ∧ ∃ A k c, Bk w' g 104 (wkC tp at_ o od ops who nilS ⟨0, o.path, n, []⟩ (.slice A k c) nilS nilS).toArray ∧ DataS (fun j => w.heap.size ≤ j) w' (.slice A k c) n.data := by
  have k3 : w.cell? ⟨g, 3, none⟩ = some (.string (S o.path)) := h.cell 3
  have cn := Lib.hid (c w.drew ((Below.refl _ w).drew))
  have BD : Hid (Below w.heap.size w w.drew) := (Below.refl _ w).drew
  have HC : Hid (∀ V, Below w.heap.size w V → V.cell? ⟨g, 3, none⟩ = some (.string (S o.path))) := fun V hV => (h.below hV).cell 3
  have HW : Hid (∀ V, Below w.heap.size w V → Bk V g 104 (wk0 tp at_ o od ops who).toArray) := fun V hV => h.below hV
  have HLT : Hid (g < w.heap.size) := h.lt
  clear h c
  go_enter Tryz.func100, Tryz.ntmps100
  go_wp2_with fail
  go_region_held3 (fun V => V.cell? ⟨g, 3, none⟩ = some (.string (S o.path)))
    (first | (with_reducible assumption) | (with_reducible exact HC.out _ BD.out) | (with_reducible exact HC.out _ BE.out) | (with_reducible exact HA.out))
    (first
      | (go_at_call 116; (with_reducible refine cn.out.mono ?_); rintro e we ⟨d2, rfl, hb2, hc2⟩; have BE : Hid (Below w.heap.size w we) := BD.out.trans hb2; have HC2 := Lib.hid hc2; obtain ⟨A2, k2, c2, rfl, hcx⟩ := hc2; have ca := Lib.hid (answer_any o.path n A2 k2 c2 g tp at_ o od ops who nilS (.no 0) nilS nilS nilS we (HW.out we BE.out)); clear hb2 hcx; dsimp only [znV, znC] at ca ⊢)
      | (go_at_call 113; (with_reducible refine ca.out.mono ?_); rintro e w5 ⟨rfl, hk5, ho5⟩; have HK5 := Lib.hid hk5; have HO5 := Lib.hid ho5; have HA : Hid (w5.cell? ⟨g, 3, none⟩ = some (.string (S o.path))) := hk5.cell 3; clear hk5 ho5))
  all_goals
    go_end0
    refine ⟨rfl, (Out.of_below BE.out).trans HO5.out (fun _ h => .inl h), A2, k2, c2, HK5.out, ?_⟩
    exact HC2.out.dataS.out HO5.out (fun j hj hx => by have := HLT.out; have hx : j = g := hx; have hj : w.drew.heap.size ≤ j := hj; simp at hj; omega)
end Go.Proofs.YtplbckibogmicaaGreatDoor.Opn
