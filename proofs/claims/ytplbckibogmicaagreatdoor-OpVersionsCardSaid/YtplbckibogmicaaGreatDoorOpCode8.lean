/- remove. -/
import Derived.Test.YtplbckibogmicaaGreatDoorOpCode7
namespace Go.Proofs.YtplbckibogmicaaGreatDoor.Opn
open Go.RowKit Path Tree

theorem Root_quiet (i : Nat) (a : Addr) (t : TR) (w : World) (L : List (Addr × TR)) (X : Nat → Prop) (hT : Trees w L X) (hi : L[i]? = some (a, t)) : Calls Tryz.prog 46 #[.pointer (some a)] w fun e w' => e = .returned (.string (S t.root)) ∧ w' = w := by
  obtain ⟨D, g, b, rfl, ht⟩ := hT.at_ hi
  exact Root_at w ht
set_option maxRecDepth 100000 in
set_option maxHeartbeats 1000000 in
theorem remove_root (i : Nat) (t : TR) (L : List (Addr × TR)) (X : Nat → Prop) (g : Nat) (tp : Addr) (at_ : Int) (o : O1) (od ops : Value) (who : Who) (w : World) (h : Bk w g 104 (wk0 tp at_ o od ops who).toArray) (hT : Trees w L X) (hi : L[i]? = some (tp, t)) (hr : o.path = t.root) :
    Calls Tryz.prog 98 #[.pointer (some ⟨g, 0, none⟩)] w fun e w' => e = thrown 30 ∧ Below w.heap.size w w' := by
  have k0 : w.cell? ⟨g, 0, none⟩ = some (.pointer (some tp)) := h.cell 0
  have k3 : w.cell? ⟨g, 3, none⟩ = some (.string (S o.path)) := h.cell 3
  have BD : Hid (Below w.heap.size w w.drew) := (Below.refl _ w).drew
  have cr := Lib.hid (Root_quiet i tp t w.drew L X (hT.below BD.out) hi)
  have s1 := S_list o.path
  have s2 := S_list t.root
  have h1 : (o.path == t.root) = true := by simpa using hr
  clear h hT hi hr
  unfold thrown
  go_enter Tryz.func98, Tryz.ntmps98
  go_wp2_with fail
  go_region_with (first
    | (go_at_call 46; (with_reducible refine cr.out.mono ?_); rintro e w1 ⟨rfl, rfl⟩)
    | (go_at_call 77; refine (throw_yes _ _).mono ?_; rintro e we ⟨rfl, rfl⟩; go_wp2; refine by_the_way w ?_ ?_; exact ⟨rfl, rfl, BD.out⟩))
  all_goals trivial
set_option maxRecDepth 100000 in
set_option maxHeartbeats 1000000 in
theorem remove_ver (i : Nat) (t : TR) (L : List (Addr × TR)) (X : Nat → Prop) (g : Nat) (tp : Addr) (at_ : Int) (o : O1) (od ops : Value) (who : Who) (x : Int) (w : World) (h : Bk w g 104 (wk0 tp at_ o od ops who).toArray) (hT : Trees w L X) (hi : L[i]? = some (tp, t)) (hr : o.path ≠ t.root)
    (c : ∀ W, Below w.heap.size w W → Calls Tryz.prog 116 #[.pointer (some ⟨g, 0, none⟩)] W fun e w' => e = .panicked [{ v := .iface 25 (.int .i64 x), recovered := false }] ∧ Below W.heap.size W w') :
    Calls Tryz.prog 98 #[.pointer (some ⟨g, 0, none⟩)] w fun e w' => e = thrown x ∧ Below w.heap.size w w' := by
  have k0 : w.cell? ⟨g, 0, none⟩ = some (.pointer (some tp)) := h.cell 0
  have k3 : w.cell? ⟨g, 3, none⟩ = some (.string (S o.path)) := h.cell 3
  have CR := Lib.hid (fun W (hW : Below w.heap.size w W) => Root_quiet i tp t W L X (hT.below hW) hi)
  have HC := Lib.hid c
  have s1 := S_list o.path
  have s2 := S_list t.root
  have h1 : (o.path == t.root) = false := by simpa using hr
  clear h hT hi hr c
  unfold thrown
  go_enter Tryz.func98, Tryz.ntmps98
  go_wp2_with fail
  go_quiet ((first | (go_at_call 46; exact Calls.quiet_of_same (CR.out _ (below_drewN (Below.refl _ w) _))) | (go_at_call 77; exact Calls.quiet_of_same (throw_nq _ _))))
  have c := HC.out (w.drewN nq) (below_drewN (Below.refl _ w) nq)
  clear s1 s2 h1 k0 k3
  go_wp2_with fail
  refine c.mono ?_
  rintro e we ⟨rfl, hb⟩
  have HB : Hid (Below w.heap.size w we) := (below_drewN (Below.refl _ w) nq).trans hb
  clear hb c
  go_wp2_with fail
  exact ⟨rfl, rfl, HB.out⟩
end Go.Proofs.YtplbckibogmicaaGreatDoor.Opn
