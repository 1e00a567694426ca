/- What the statements of layer 6 themselves run: long, finds. -/
import Derived.Test.YtnmlknhomhonaaaDoorRegCode5
import Derived.WalkSpells
import Derived.Deep.Quiet
namespace Go.Proofs.YtnmlknhomhonaaaDoor.Reg
open Go.RowKit Path

theorem rdv_lit (w : World) (e : TypeId) (vs : List Value) : RdV (w.alloc (.cells vs.toArray e)) (some ⟨w.heap.size, 0, none⟩) vs.length vs :=
  ⟨rfl, fun _ => ⟨_, rfl, fun j b hb => by
    have hh : (w.alloc (.cells vs.toArray e)).heap[w.heap.size]? = some (.cells vs.toArray e (0, 0)) := heap_alloc_new w _
    rw [add_plain, Nat.zero_add]
    unfold World.cell?
    rw [hh]
    simpa using hb⟩⟩
theorem quiet_lit {P : Program} {C : World → Prop} {id : Nat} {Q : Exit → Act → World → Prop} {a : Act} {w : World} {l : List Oper} (hm : P.follows .mixedOrders = true) (hB : Region.lexB .any l.toArray = true) (hC : C { w with drawn := w.drawn + 1 })
    (h : wpQuiet P l.toArray C (fun a' => ∀ w', C w' → Q .normal a' w') l a) : (Code.region id l.toArray true).wp P Q a w := wp_region_quiet hm hB hC (by simpa using h)
theorem quiet_skip {c : Bool} {A B : Prop} (h : c = false) (hb : B) : if c = true then A else B := by rw [if_neg (by rw [h]; exact Bool.false_ne_true)]; exact hb
theorem quiet_want {c : Bool} {A B : Prop} (h : c = true) (ha : A) : if c = true then A else B := by rw [if_pos h]; exact ha
theorem orC_length (o : OR) : (orC o).length = 7 := rfl
theorem flat_get : ∀ (os : List OR) (j : Nat) (hj : j < os.length) (i : Nat) (v : Value), (orC os[j])[i]? = some v → (os.flatMap orC)[7 * j + i]? = some v
  | o :: os, 0, _, i, v, h => by
    have hi : i < 7 := (List.getElem?_eq_some_iff.1 h).1
    rw [List.flatMap_cons, List.getElem?_append_left (by rw [orC_length]; omega)]
    simpa using h
  | o :: os, j + 1, hj, i, v, h => by
    rw [List.flatMap_cons, List.getElem?_append_right (by rw [orC_length]; omega), orC_length, show 7 * (j + 1) + i - 7 = 7 * j + i by omega]
    exact flat_get os j (by simpa using hj) i v h
theorem or_lit (w : World) (os : List OR) : OrS (w.alloc (.cells (os.flatMap orC).toArray 32)) (some ⟨w.heap.size, 0, none⟩) os.length os :=
  ⟨rfl, fun j hj => ⟨_, _, rfl, fun i v hv => by
    have hh : (w.alloc (.cells (os.flatMap orC).toArray 32)).heap[w.heap.size]? = some (.cells (os.flatMap orC).toArray 32 (0, 0)) := heap_alloc_new w _
    unfold World.cell?
    rw [hh]
    simpa using flat_get os j hj i v hv⟩⟩
theorem all_len {ls : List (List UInt8)} (h : (ls.all fun x => decide (x.length ≤ 1000000)) = true) : ∀ x ∈ ls, x.length ≤ 1000000 := fun x hx => of_decide_eq_true (List.all_eq_true.1 h x hx)
theorem of_lit (ls : List (List UInt8)) (p : List UInt8) (A : Option Addr) (n c : Nat) (w : World) (z : Int) (hS : RdV w A n (sv ls)) (hn : n ≤ 1000000) (hp : p.length ≤ 1000000) (hl : (ls.all fun x => decide (x.length ≤ 1000000)) = true) (hz : ofF ls p = z) :
    Calls Tryd.prog 12 #[.slice A n c, .string (S p)] w fun e w' => e = .returned (.int .i64 z) ∧ Below w.heap.size w w' := by
  rw [← hz]
  exact of_any ls p A n c w hS hn hp (all_len hl)
theorem check_lit (ls : List (List UInt8)) (A : Option Addr) (n c : Nat) (w : World) (z : Int) (hS : RdV w A n (sv ls)) (hn : n ≤ 1000000) (hc : n ≤ c) (hl : (ls.all fun x => decide (x.length ≤ 1000000)) = true) (hz : chkF ls = z) :
    Calls Tryd.prog 10 #[.slice A n c] w fun e w' => e = .returned (.int .i64 z) ∧ Below w.heap.size w w' := by
  rw [← hz]
  exact check_any ls A n c w hS hn hc (all_len hl)
theorem all_lit (ls : List (List UInt8)) (y : OR) (os : List OR) (A : Option Addr) (n c : Nat) (w : World) (z e : Int) (hS : RdV w A n (sv ls)) (hn : n ≤ 1000000) (hl : (ls.all fun x => decide (x.length ≤ 1000000)) = true) (hO : OrS w y.pa y.pn os) (hpn : y.pn ≤ 1000000) (hy : y.path.length ≤ 1000000) (hos : (os.all fun o => decide (o.path.length ≤ 1000000)) = true) (hz : allF ls y.path (pathsL os) = (z, e)) :
    Calls Tryd.prog 15 #[.slice A n c, orV y] w fun x w' => x = .returned (.tuple #[.int .i64 z, .int .i64 e]) ∧ Below w.heap.size w w' := by
  have := all_any ls y os A n c w hS hn (all_len hl) hO hpn hy (fun o ho => of_decide_eq_true (List.all_eq_true.1 hos o ho))
  rw [hz] at this
  exact this
def longF (ls : List (List UInt8)) : Bool := decide (20 < ls.length) || ls.any fun x => decide (200 < x.length)
set_option maxRecDepth 100000 in
set_option maxHeartbeats 2000000 in
theorem long_any (ls : List (List UInt8)) (A : Option Addr) (n c : Nat) (w : World) (hS : RdV w A n (sv ls)) :
    Calls Tryd.prog 9 #[.slice A n c] w fun e w' => e = .returned (.bool (longF ls)) ∧ Below w.heap.size w w' := by
  have HS := Lib.hid hS
  have hl : ls.length = n := by rw [← hS.len, sv_length]
  have HL := Lib.hid hl
  have hr0 : longF ls = (decide (20 < n) || ls.any fun x => decide (200 < x.length)) := by unfold longF; rw [hl]
  obtain ⟨r, hr⟩ : ∃ r, r = longF ls := ⟨_, rfl⟩
  rw [← hr] at hr0 ⊢
  have HR := Lib.hid hr0
  clear hS hl hr hr0
  by_cases h20 : 20 < n
  · have hr : r = true := by rw [HR.out, decide_eq_true h20]; rfl
    subst hr
    have i1 : (20 : Int) < (n : Int) := by omega
    clear h20
    go_enter Tryd.func9, Tryd.ntmps9
    go_wp2_with fail
    go_ret
    exact ⟨rfl, Below.refl _ _⟩
  · have i1 : ¬ (20 : Int) < (n : Int) := by omega
    have i2 : decide ((20 : Int) < (n : Int)) = false := decide_eq_false i1
    have HR2 : Hid (r = ls.any fun x => decide (200 < x.length)) := by show _ = _; rw [HR.out, decide_eq_false h20]; rfl
    go_enter Tryd.func9, Tryd.ntmps9
    go_wp2_with fail
    go_loopw [3] (fun i wr => RelAny w ls (fun x => decide (200 < x.length)) n i wr) (fun i _ => n - (intOf i).toNat)
    case atStart => exact ⟨0, Nat.zero_le _, rfl, by simp, Below.refl _ _⟩
    case round =>
      obtain ⟨k, hk, rfl, hall, hb⟩ := hrel
      have HALL := Lib.hid hall
      have HB := Lib.hid hb
      clear hall hb
      by_cases hlt : k < n
      · have hjx : k < ls.length := by rw [HL.out]; exact hlt
        obtain ⟨bb, oo, rfl, hcells⟩ := text_at (HS.out.below HB.out) hjx
        have HAT := Lib.hid (any_take (p := fun x : List UInt8 => decide (200 < x.length)) hjx)
        have HMEM := Lib.hid (List.getElem_mem hjx)
        have q1 := hcells _ (Below.refl _ _) 0
        simp only [World.drewN_zero] at q1
        generalize ls[k] = y at *
        have hsz : ((S y).size : Int) = (y.length : Int) := by rw [S_size]
        have hszn : (S y).size = y.length := S_size y
        generalize S y = Y at *
        clear hcells
        by_cases hq : 200 < y.length
        · have hr : r = true := by rw [HR2.out]; exact List.any_eq_true.2 ⟨y, HMEM.out, decide_eq_true hq⟩
          subst hr
          have j1 : (200 : Int) < (y.length : Int) := by omega
          have vk : (k : Int) < (n : Int) := by omega
          go_wp2_with fail
          go_ret
          exact ⟨rfl, HB.out⟩
        · have HREL : Hid ((ls.take (k + 1)).any (fun x => decide (200 < x.length)) = false) := by
            show _ = _
            rw [HAT.out, HALL.out, decide_eq_false hq]
            rfl
          have j1 : ¬ (200 : Int) < (y.length : Int) := by omega
          have vk : (k : Int) < (n : Int) := by omega
          go_wp2_with fail
          go_roundw
          case rel => exact ⟨k + 1, by omega, by go_num, HREL.out, HB.out⟩
          case measure => simp [intOf]; omega
      · obtain rfl : k = n := by omega
        have hr : r = false := by
          rw [HR2.out, ← HALL.out, List.take_of_length_le (by rw [HL.out]; exact Nat.le_refl _)]
        subst hr
        clear hlt
        have v1 : ¬ (k : Int) < (k : Int) := by omega
        go_wp2_with fail
        go_ret
        exact ⟨rfl, HB.out⟩
theorem long_no {ls : List (List UInt8)} (h : longF ls = false) : ls.length ≤ 20 ∧ ∀ x ∈ ls, x.length ≤ 200 := by
  unfold longF at h
  obtain ⟨h1, h2⟩ := Bool.or_eq_false_iff.1 h
  exact ⟨by have := of_decide_eq_false h1; omega, fun x hx => Nat.le_of_not_lt fun hlt => by
    have : (ls.any fun x => decide (200 < x.length)) = true := List.any_eq_true.2 ⟨x, hx, decide_eq_true hlt⟩
    rw [h2] at this
    cases this⟩
set_option maxRecDepth 100000 in
set_option maxHeartbeats 4000000 in
theorem finds_any (w : World) : Calls Tryd.prog 14 #[] w fun e w' => e = .returned (.bool true) ∧ Below w.heap.size w w' := by
  have Bw := Lib.hid (Below.refl w.heap.size w)
  obtain ⟨W1, hW1⟩ : ∃ x, w.alloc (.cells #[.string ⟨#[47, 97]⟩, .string ⟨#[47, 97, 47, 98]⟩, .string ⟨#[47, 99]⟩] 9) = x := ⟨_, rfl⟩
  have RW1 : Hid (RdV W1 (some ⟨w.heap.size, 0, none⟩) 3 (sv [[47, 97], [47, 97, 47, 98], [47, 99]])) := by show RdV _ _ _ _; rw [← hW1]; exact rdv_lit w 9 (sv [[47, 97], [47, 97, 47, 98], [47, 99]])
  have BW1 : Hid (Below w.heap.size w W1) := by show Below _ _ _; rw [← hW1]; exact (Bw.out).alloc Bw.out.size _
  have CW1 : Hid (Below w.heap.size w W1) := by show Below _ _ _; rw [← hW1]; exact (Below.refl _ _).alloc (Nat.le_refl _) _
  obtain ⟨X2, hX2⟩ : ∃ x, W1.alloc (.cells #[.int .u8 0, .string ⟨#[47, 97, 47, 120]⟩, .slice none 0 0, .int .i64 0, .bool false, .bool false, .slice none 0 0, .int .u8 0, .string ⟨#[47, 97, 47, 121]⟩, .slice none 0 0, .int .i64 0, .bool false, .bool false, .slice none 0 0] 32) = x := ⟨_, rfl⟩
  have OX2 : Hid (OrS X2 (some ⟨W1.heap.size, 0, none⟩) 2 [⟨0, [47, 97, 47, 120], none, 0, 0, 0, false, false, none, 0, 0⟩, ⟨0, [47, 97, 47, 121], none, 0, 0, 0, false, false, none, 0, 0⟩]) := by show OrS _ _ _ _; rw [← hX2]; exact or_lit W1 [⟨0, [47, 97, 47, 120], none, 0, 0, 0, false, false, none, 0, 0⟩, ⟨0, [47, 97, 47, 121], none, 0, 0, 0, false, false, none, 0, 0⟩]
  have BX2 : Hid (Below w.heap.size w X2) := by show Below _ _ _; rw [← hX2]; exact (BW1.out).alloc BW1.out.size _
  have CX2 : Hid (Below W1.heap.size W1 X2) := by show Below _ _ _; rw [← hX2]; exact (Below.refl _ _).alloc (Nat.le_refl _) _
  have RW1 := Lib.hid (RW1.out.below CX2.out)
  go_enter Tryd.func14, Tryd.ntmps14
  have cc := all_lit [[47, 97], [47, 97, 47, 98], [47, 99]] ⟨7, ([] : List UInt8), none, 0, 0, 0, false, false, (some ⟨W1.heap.size, 0, none⟩), 2, 2⟩ [⟨0, [47, 97, 47, 120], none, 0, 0, 0, false, false, none, 0, 0⟩, ⟨0, [47, 97, 47, 121], none, 0, 0, 0, false, false, none, 0, 0⟩] (some ⟨w.heap.size, 0, none⟩) 3 3 X2 (0) (0) RW1.out (by decide) (by decide) OX2.out (show 2 ≤ 1000000 from by decide) (show (([] : List UInt8)).length ≤ 1000000 from by decide) (by decide) (show allF [[47, 97], [47, 97, 47, 98], [47, 99]] ([] : List UInt8) (pathsL [⟨0, [47, 97, 47, 120], none, 0, 0, 0, false, false, none, 0, 0⟩, ⟨0, [47, 97, 47, 121], none, 0, 0, 0, false, false, none, 0, 0⟩]) = (0, 0) from by decide +kernel)
  go_wp2_with fail
  refine cc.mono ?_
  rintro e W3 ⟨rfl, hb⟩
  have BW3 := Lib.hid (BX2.out.trans (hb.mono BX2.out.size))
  have RW1 := Lib.hid (RW1.out.below hb)
  clear hb cc
  obtain ⟨X4, hX4⟩ : ∃ x, W3.alloc (.cells #[.int .u8 0, .string ⟨#[47, 97, 47, 120]⟩, .slice none 0 0, .int .i64 0, .bool false, .bool false, .slice none 0 0, .int .u8 0, .string ⟨#[47, 97, 47, 98]⟩, .slice none 0 0, .int .i64 0, .bool false, .bool false, .slice none 0 0] 32) = x := ⟨_, rfl⟩
  have OX4 : Hid (OrS X4 (some ⟨W3.heap.size, 0, none⟩) 2 [⟨0, [47, 97, 47, 120], none, 0, 0, 0, false, false, none, 0, 0⟩, ⟨0, [47, 97, 47, 98], none, 0, 0, 0, false, false, none, 0, 0⟩]) := by show OrS _ _ _ _; rw [← hX4]; exact or_lit W3 [⟨0, [47, 97, 47, 120], none, 0, 0, 0, false, false, none, 0, 0⟩, ⟨0, [47, 97, 47, 98], none, 0, 0, 0, false, false, none, 0, 0⟩]
  have BX4 : Hid (Below w.heap.size w X4) := by show Below _ _ _; rw [← hX4]; exact (BW3.out).alloc BW3.out.size _
  have CX4 : Hid (Below W3.heap.size W3 X4) := by show Below _ _ _; rw [← hX4]; exact (Below.refl _ _).alloc (Nat.le_refl _) _
  have RW1 := Lib.hid (RW1.out.below CX4.out)
  have cc := all_lit [[47, 97], [47, 97, 47, 98], [47, 99]] ⟨7, ([] : List UInt8), none, 0, 0, 0, false, false, (some ⟨W3.heap.size, 0, none⟩), 2, 2⟩ [⟨0, [47, 97, 47, 120], none, 0, 0, 0, false, false, none, 0, 0⟩, ⟨0, [47, 97, 47, 98], none, 0, 0, 0, false, false, none, 0, 0⟩] (some ⟨w.heap.size, 0, none⟩) 3 3 X4 (0) (60) RW1.out (by decide) (by decide) OX4.out (show 2 ≤ 1000000 from by decide) (show (([] : List UInt8)).length ≤ 1000000 from by decide) (by decide) (show allF [[47, 97], [47, 97, 47, 98], [47, 99]] ([] : List UInt8) (pathsL [⟨0, [47, 97, 47, 120], none, 0, 0, 0, false, false, none, 0, 0⟩, ⟨0, [47, 97, 47, 98], none, 0, 0, 0, false, false, none, 0, 0⟩]) = (0, 60) from by decide +kernel)
  go_wp2_with fail
  refine cc.mono ?_
  rintro e W5 ⟨rfl, hb⟩
  have BW5 := Lib.hid (BX4.out.trans (hb.mono BX4.out.size))
  have RW1 := Lib.hid (RW1.out.below hb)
  clear hb cc
  have cc := of_lit [[47, 97], [47, 97, 47, 98], [47, 99]] [47, 97, 47, 120] (some ⟨w.heap.size, 0, none⟩) 3 3 W5 (0) RW1.out (by decide) (by decide) (by decide) (by decide +kernel)
  go_wp2_with fail
  refine cc.mono ?_
  rintro e W6 ⟨rfl, hb⟩
  have BW6 := Lib.hid (BW5.out.trans (hb.mono BW5.out.size))
  have RW1 := Lib.hid (RW1.out.below hb)
  clear hb cc
  have cc := of_lit [[47, 97], [47, 97, 47, 98], [47, 99]] [47, 97, 47, 98, 47, 120] (some ⟨w.heap.size, 0, none⟩) 3 3 W6 (1) RW1.out (by decide) (by decide) (by decide) (by decide +kernel)
  go_wp2_with fail
  refine cc.mono ?_
  rintro e W7 ⟨rfl, hb⟩
  have BW7 := Lib.hid (BW6.out.trans (hb.mono BW6.out.size))
  have RW1 := Lib.hid (RW1.out.below hb)
  clear hb cc
  have cc := of_lit [[47, 97], [47, 97, 47, 98], [47, 99]] [47, 97, 98] (some ⟨w.heap.size, 0, none⟩) 3 3 W7 (-1) RW1.out (by decide) (by decide) (by decide) (by decide +kernel)
  go_wp2_with fail
  refine cc.mono ?_
  rintro e W8 ⟨rfl, hb⟩
  have BW8 := Lib.hid (BW7.out.trans (hb.mono BW7.out.size))
  have RW1 := Lib.hid (RW1.out.below hb)
  clear hb cc
  have cc := check_lit [[47, 97], [47, 97, 47, 98], [47, 99]] (some ⟨w.heap.size, 0, none⟩) 3 3 W8 (0) RW1.out (by decide) (by decide) (by decide) (by decide +kernel)
  go_wp2_with fail
  refine cc.mono ?_
  rintro e W9 ⟨rfl, hb⟩
  have BW9 := Lib.hid (BW8.out.trans (hb.mono BW8.out.size))
  have RW1 := Lib.hid (RW1.out.below hb)
  clear hb cc
  go_wp2_with fail
  go_ret
  exact ⟨rfl, BW9.out⟩
end Go.Proofs.YtnmlknhomhonaaaDoor.Reg
