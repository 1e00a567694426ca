/- kids. -/
import Derived.Test.YtplbckibogmicaaGreatDoorOpCode6
namespace Go.Proofs.YtplbckibogmicaaGreatDoor.Opn
open Go.RowKit Path Tree

theorem Kids_fresh (p : List UInt8) (i : Nat) (a : Addr) (t : TR) (w : World) (L : List (Addr × TR)) (X : Nat → Prop) (hT : Trees w L X) (hi : L[i]? = some (a, t)) (hp : p.length ≤ 1000000) (hh : has t.row p = true) :
    Calls Tryz.prog 38 #[.pointer (some a), .string (S p)] w fun e w' => ∃ A c, e = .returned (.slice A (kids t.root t.row p).length c) ∧ Below w.heap.size w w' ∧ TextS (fun j => w.heap.size ≤ j) w' (.slice A (kids t.root t.row p).length c) (kids t.root t.row p) := by
  obtain ⟨D, g, b, rfl, ht⟩ := hT.at_ hi
  exact (Kids_new p w ht hp hh).mono fun _ _ ⟨A, c, he, hb, hr, hf⟩ => ⟨A, c, he, hb, A, _, c, rfl, fun _ => hf, hr⟩
theorem trees_out {w w' : World} {L : List (Addr × TR)} {X Y : Nat → Prop} (h : Trees w L X) (ho : Out Y w w') (hxy : ∀ k, X k → ¬ Y k) : Trees w' L X := h.keep (fun k hk => ho.block k (h.lt k hk) (hxy k hk)) ho.size
set_option maxRecDepth 100000 in
set_option maxHeartbeats 1000000 in
theorem kids_throws (g : Nat) (x : Int) (w : World)
    (c : Calls Tryz.prog 101 #[.pointer (some ⟨g, 0, none⟩)] w fun e w' => e = thrown x ∧ Below w.heap.size w w') :
    Calls Tryz.prog 102 #[.pointer (some ⟨g, 0, none⟩)] w fun e w' => e = thrown x ∧ Below w.heap.size w w' := by
  unfold thrown at c ⊢
  go_enter Tryz.func102, Tryz.ntmps102
  go_wp2_with fail
  refine c.mono ?_
  rintro e we ⟨rfl, hb⟩
  have HB := Lib.hid hb
  clear hb c
  go_wp2_with fail
  exact ⟨rfl, rfl, HB.out⟩
set_option maxRecDepth 100000 in
set_option maxHeartbeats 1000000 in
theorem kids_does (n : ZN) (i : Nat) (t : TR) (L : List (Addr × TR)) (X : Nat → Prop) (g : Nat) (tp : Addr) (at_ : Int) (o : O1) (od ops : Value) (who : Who) (w : World) (hT : Trees w L X) (hi : L[i]? = some (tp, t)) (hX : ¬ X g) (hp : o.path.length ≤ 1000000) (hh : has t.row o.path = true) (hlt : g < w.heap.size)
    (c : Calls Tryz.prog 101 #[.pointer (some ⟨g, 0, none⟩)] w fun e w' => e = .returned (.tuple #[]) ∧ Out (· = g) w w' ∧ ∃ A k c, Bk w' g 104 (wkC tp at_ o od ops who nilS ⟨0, o.path, n, []⟩ (.slice A k c) nilS nilS).toArray ∧ DataS (fun j => w.heap.size ≤ j) w' (.slice A k c) n.data) :
    Calls Tryz.prog 102 #[.pointer (some ⟨g, 0, none⟩)] w fun e w' => e = .returned (.tuple #[]) ∧ Out (· = g) w w' ∧ ∃ A k c A3 k3 c3, Bk w' g 104 (wkC tp at_ o od ops who nilS ⟨0, o.path, n, kids t.root t.row o.path⟩ (.slice A k c) (.slice A3 k3 c3) nilS).toArray ∧ DataS (fun j => w.heap.size ≤ j) w' (.slice A k c) n.data ∧ TextS (fun j => w.heap.size ≤ j) w' (.slice A3 k3 c3) (kids t.root t.row o.path) := by
  have HT := Lib.hid hT
  have HI := Lib.hid hi
  have HX := Lib.hid hX
  have HPL := Lib.hid hp
  have HH := Lib.hid hh
  have HLT := Lib.hid hlt
  clear hT hi hX hp hh hlt
  go_enter Tryz.func102, Tryz.ntmps102
  go_wp2_with fail
  refine c.mono ?_
  rintro e w1 ⟨rfl, ho1, A, k, cp, hk1, hd1⟩
  have HO1 := Lib.hid ho1
  have HK1 := Lib.hid hk1
  have HD1 := Lib.hid hd1
  have BD : Hid (Below w1.heap.size w1 w1.drew) := (Below.refl _ w1).drew
  have ck := Lib.hid (Kids_fresh o.path i tp t w1.drew L X ((trees_out HT.out ho1 (fun j hj e => HX.out (e ▸ hj))).below BD.out) HI.out HPL.out HH.out)
  have k0 : w1.cell? ⟨g, 0, none⟩ = some (.pointer (some tp)) := hk1.cell 0
  have k3 : w1.cell? ⟨g, 3, none⟩ = some (.string (S o.path)) := hk1.cell 3
  have HSD := Lib.hid (And.intro (show w1.drew.cell? ⟨g, 0, none⟩ = some (.pointer (some tp)) from k0) (show w1.drew.cell? ⟨g, 3, none⟩ = some (.string (S o.path)) from k3))
  clear ho1 hk1 hd1 c
  go_wp2_with fail
  go_region_held3 (fun V => V.cell? ⟨g, 0, none⟩ = some (.pointer (some tp)) ∧ V.cell? ⟨g, 3, none⟩ = some (.string (S o.path)))
    (first | (with_reducible assumption) | (with_reducible exact HSD.out) | (with_reducible exact HS5.out) | (with_reducible apply HS6.out))
    (first
      | (go_at_call 38; (with_reducible refine ck.out.mono ?_); rintro e w5 ⟨A5, c5, rfl, hb5, ht5⟩; have BE : Hid (Below w1.heap.size w1 w5) := BD.out.trans hb5; have HTX := Lib.hid ht5; have k5 := Lib.hid (HK1.out.below BE.out); have HS5 := Lib.hid (And.intro (show w5.cell? ⟨g, 0, none⟩ = some (.pointer (some tp)) from k5.out.cell 0) (show w5.cell? ⟨g, 3, none⟩ = some (.string (S o.path)) from k5.out.cell 3)); have f23 : w5.cell? ⟨g, 23, none⟩ = some nilS := k5.out.cell 23; have z23 : w5.frozen? ⟨g, 23, none⟩ = false := k5.out.frozen 23; have HS6 : Hid (∀ v, (w5.setCell ⟨g, 23, none⟩ v).cell? ⟨g, 0, none⟩ = some (.pointer (some tp)) ∧ (w5.setCell ⟨g, 23, none⟩ v).cell? ⟨g, 3, none⟩ = some (.string (S o.path))) := (fun v => ⟨(bk_set k5.out 23 v).cell 0, (bk_set k5.out 23 v).cell 3⟩); clear hb5 ht5))
  all_goals
    go_end0
    have hk6 := bk_set k5.out 23 (.slice A5 (kids t.root t.row o.path).length c5)
    have ho6 := (Out.refl (· = g) w5).set (p := ⟨g, 23, none⟩) rfl (.slice A5 (kids t.root t.row o.path).length c5)
    have hne : ∀ j, w.heap.size ≤ j → ¬ j = g := fun j hj e => by have := HLT.out; omega
    refine ⟨rfl, ((HO1.out.trans (.of_below BE.out) (fun j hj => .inl hj)).trans ho6 (fun j hj => .inl hj)), A, k, cp, A5, (kids t.root t.row o.path).length, c5, hk6, (HD1.out.below BE.out).out ho6 hne, ?_⟩
    exact (HTX.out.mono fun j hj => by have hj : w1.drew.heap.size ≤ j := hj; have := HO1.out.size; simp at hj; omega).out ho6 hne
end Go.Proofs.YtplbckibogmicaaGreatDoor.Opn
