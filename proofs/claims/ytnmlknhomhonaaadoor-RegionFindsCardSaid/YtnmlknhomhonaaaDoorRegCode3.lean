/- Layer 6's code: Check. -/
import Derived.Test.YtnmlknhomhonaaaDoorRegCode2
namespace Go.Proofs.YtnmlknhomhonaaaDoor.Reg
open Go.RowKit Path

theorem any_take {α : Type} {l : List α} {p : α → Bool} {k : Nat} (hk : k < l.length) : (l.take (k + 1)).any p = ((l.take k).any p || p l[k]) := by
  rw [List.take_succ_eq_append_getElem hk, List.any_append]
  simp
def RelAny (w : World) (ls : List (List UInt8)) (q : List UInt8 → Bool) (n : Nat) (i : Value) (wr : World) : Prop := ∃ k : Nat, k ≤ n ∧ i = .int .i64 (k : Int) ∧ (ls.take k).any q = false ∧ Below w.heap.size w wr

set_option maxRecDepth 100000 in
set_option maxHeartbeats 2000000 in
theorem indexFunc_noPath (q : List UInt8 → Bool) (ls : List (List UInt8)) (A : Option Addr) (n c : Nat) (w : World) (hS : RdV w A n (sv ls)) (hn : n ≤ 1000000) (hF : ∀ W, Below w.heap.size w W → ∀ s ∈ ls, Calls Tryd.prog 21 #[.string (S s)] W fun e W' => e = .returned (.bool (q s)) ∧ Below W.heap.size W W') :
    Calls Tryd.prog 36 #[.slice A n c, .func (.func 21) #[] #[]] w (IdxPost (ls.any q) w) := by
  have HS := Lib.hid hS
  have hl : ls.length = n := by rw [← hS.len, sv_length]
  have HL := Lib.hid hl
  have HF := Lib.hid hF
  obtain ⟨r, hr⟩ : ∃ r, r = ls.any q := ⟨_, rfl⟩
  rw [← hr]
  have HR := Lib.hid hr
  clear hS hl hF hr
  go_enter Tryd.func36, Tryd.ntmps36
  go_wp2_with fail
  go_loopw [8] (fun i wr => RelAny w ls q n i wr) (fun i _ => n - (intOf i).toNat)
  case atStart => exact ⟨0, Nat.zero_le _, rfl, by simp, Below.refl _ _⟩
  case round =>
    obtain ⟨k, hk, rfl, hall, hb⟩ := hrel
    have HALL := Lib.hid hall
    have HB := Lib.hid hb
    clear hall hb
    by_cases hlt : k < n
    · have hjx : k < ls.length := by rw [HL.out]; exact hlt
      obtain ⟨bb, oo, rfl, hcells⟩ := text_at (HS.out.below HB.out) hjx
      have HAT := Lib.hid (any_take (p := q) hjx)
      have HMEM := Lib.hid (List.getElem_mem hjx)
      have q1 := hcells _ (Below.refl _ _) 0
      simp only [World.drewN_zero] at q1
      have cf := HF.out wr HB.out _ HMEM.out
      generalize ls[k] = y at *
      clear hcells
      cases hq : q y
      · rw [hq] at cf
        have HREL : Hid ((ls.take (k + 1)).any q = false) := by
          show _ = _
          rw [HAT.out, HALL.out, hq]
          rfl
        clear hq
        go_wp2_with fail
        refine cf.mono ?_
        rintro e w3 ⟨rfl, hb3⟩
        have HB3 := Lib.hid (HB.out.trans (hb3.mono HB.out.size))
        clear cf hb3 q1
        go_wp2_with fail
        go_roundw
        case rel => exact ⟨k + 1, by omega, by go_num, HREL.out, HB3.out⟩
        case measure => simp [intOf]; omega
      · rw [hq] at cf
        have HANY : Hid (r = true) := by
          show _ = _
          rw [HR.out]
          exact List.any_eq_true.2 ⟨y, HMEM.out, hq⟩
        clear hq
        go_wp2_with fail
        refine cf.mono ?_
        rintro e w3 ⟨rfl, hb3⟩
        have HB3 := Lib.hid (HB.out.trans (hb3.mono HB.out.size))
        clear cf hb3 q1
        go_wp2_with fail
        go_ret
        exact .inr ⟨HANY.out, k, by omega, rfl, HB3.out⟩
    · obtain rfl : k = n := by omega
      have HNO : Hid (r = false) := by
        show _ = _
        have h1 := HALL.out
        rwa [List.take_of_length_le (by rw [HL.out]; exact Nat.le_refl _), ← HR.out] at h1
      clear hlt
      have v1 : ¬ (k : Int) < (k : Int) := by omega
      go_wp2_with fail
      go_ret
      exact .inl ⟨HNO.out, rfl, HB.out⟩
theorem containsFunc_noPath (q : List UInt8 → Bool) (ls : List (List UInt8)) (A : Option Addr) (n c : Nat) (w : World) (hS : RdV w A n (sv ls)) (hn : n ≤ 1000000) (hF : ∀ W, Below w.heap.size w W → ∀ s ∈ ls, Calls Tryd.prog 21 #[.string (S s)] W fun e W' => e = .returned (.bool (q s)) ∧ Below W.heap.size W W') :
    Calls Tryd.prog 20 #[.slice A n c, .func (.func 21) #[] #[]] w fun e w' => e = .returned (.bool (ls.any q)) ∧ Below w.heap.size w w' := by
  have ci := indexFunc_noPath q ls A n c w hS hn hF
  obtain ⟨r, hr⟩ : ∃ r, r = ls.any q := ⟨_, rfl⟩
  rw [← hr] at ci ⊢
  clear hS hn hF hr
  go_enter Tryd.func20, Tryd.ntmps20
  go_wp2_with fail
  refine ci.mono ?_
  rintro e w1 (⟨rfl, rfl, hb⟩ | ⟨rfl, k, hk, rfl, hb⟩)
  · have HB := Lib.hid hb
    clear hb ci
    go_wp2_with fail
    go_ret
    exact ⟨rfl, HB.out⟩
  · have HB := Lib.hid hb
    have hk0 : (0 : Int) ≤ (k : Int) := by omega
    clear hb ci
    go_wp2_with fail
    go_ret
    exact ⟨rfl, HB.out⟩

set_option maxRecDepth 100000 in
set_option maxHeartbeats 2000000 in
theorem indexFunc_else_ (q : List UInt8 → Bool) (ls : List (List UInt8)) (A : Option Addr) (n c : Nat) (L M : Nat) (w : World) (hS : RdV w A n (sv ls)) (hn : n ≤ 1000000) (hF : ∀ W, Below w.heap.size w W → ∀ s ∈ ls, Calls Tryd.prog 30 #[.string (S s), .pointer (some ⟨L, 0, none⟩), .pointer (some ⟨M, 0, none⟩)] W fun e W' => e = .returned (.bool (q s)) ∧ Below W.heap.size W W') :
    Calls Tryd.prog 36 #[.slice A n c, .func (.func 30) #[] #[.pointer (some ⟨L, 0, none⟩), .pointer (some ⟨M, 0, none⟩)]] w (IdxPost (ls.any q) w) := by
  have HS := Lib.hid hS
  have hl : ls.length = n := by rw [← hS.len, sv_length]
  have HL := Lib.hid hl
  have HF := Lib.hid hF
  obtain ⟨r, hr⟩ : ∃ r, r = ls.any q := ⟨_, rfl⟩
  rw [← hr]
  have HR := Lib.hid hr
  clear hS hl hF hr
  go_enter Tryd.func36, Tryd.ntmps36
  go_wp2_with fail
  go_loopw [8] (fun i wr => RelAny w ls q n i wr) (fun i _ => n - (intOf i).toNat)
  case atStart => exact ⟨0, Nat.zero_le _, rfl, by simp, Below.refl _ _⟩
  case round =>
    obtain ⟨k, hk, rfl, hall, hb⟩ := hrel
    have HALL := Lib.hid hall
    have HB := Lib.hid hb
    clear hall hb
    by_cases hlt : k < n
    · have hjx : k < ls.length := by rw [HL.out]; exact hlt
      obtain ⟨bb, oo, rfl, hcells⟩ := text_at (HS.out.below HB.out) hjx
      have HAT := Lib.hid (any_take (p := q) hjx)
      have HMEM := Lib.hid (List.getElem_mem hjx)
      have q1 := hcells _ (Below.refl _ _) 0
      simp only [World.drewN_zero] at q1
      have cf := HF.out wr HB.out _ HMEM.out
      generalize ls[k] = y at *
      clear hcells
      cases hq : q y
      · rw [hq] at cf
        have HREL : Hid ((ls.take (k + 1)).any q = false) := by
          show _ = _
          rw [HAT.out, HALL.out, hq]
          rfl
        clear hq
        go_wp2_with fail
        refine cf.mono ?_
        rintro e w3 ⟨rfl, hb3⟩
        have HB3 := Lib.hid (HB.out.trans (hb3.mono HB.out.size))
        clear cf hb3 q1
        go_wp2_with fail
        go_roundw
        case rel => exact ⟨k + 1, by omega, by go_num, HREL.out, HB3.out⟩
        case measure => simp [intOf]; omega
      · rw [hq] at cf
        have HANY : Hid (r = true) := by
          show _ = _
          rw [HR.out]
          exact List.any_eq_true.2 ⟨y, HMEM.out, hq⟩
        clear hq
        go_wp2_with fail
        refine cf.mono ?_
        rintro e w3 ⟨rfl, hb3⟩
        have HB3 := Lib.hid (HB.out.trans (hb3.mono HB.out.size))
        clear cf hb3 q1
        go_wp2_with fail
        go_ret
        exact .inr ⟨HANY.out, k, by omega, rfl, HB3.out⟩
    · obtain rfl : k = n := by omega
      have HNO : Hid (r = false) := by
        show _ = _
        have h1 := HALL.out
        rwa [List.take_of_length_le (by rw [HL.out]; exact Nat.le_refl _), ← HR.out] at h1
      clear hlt
      have v1 : ¬ (k : Int) < (k : Int) := by omega
      go_wp2_with fail
      go_ret
      exact .inl ⟨HNO.out, rfl, HB.out⟩
theorem containsFunc_else_ (q : List UInt8 → Bool) (ls : List (List UInt8)) (A : Option Addr) (n c : Nat) (L M : Nat) (w : World) (hS : RdV w A n (sv ls)) (hn : n ≤ 1000000) (hF : ∀ W, Below w.heap.size w W → ∀ s ∈ ls, Calls Tryd.prog 30 #[.string (S s), .pointer (some ⟨L, 0, none⟩), .pointer (some ⟨M, 0, none⟩)] W fun e W' => e = .returned (.bool (q s)) ∧ Below W.heap.size W W') :
    Calls Tryd.prog 20 #[.slice A n c, .func (.func 30) #[] #[.pointer (some ⟨L, 0, none⟩), .pointer (some ⟨M, 0, none⟩)]] w fun e w' => e = .returned (.bool (ls.any q)) ∧ Below w.heap.size w w' := by
  have ci := indexFunc_else_ q ls A n c L M w hS hn hF
  obtain ⟨r, hr⟩ : ∃ r, r = ls.any q := ⟨_, rfl⟩
  rw [← hr] at ci ⊢
  clear hS hn hF hr
  go_enter Tryd.func20, Tryd.ntmps20
  go_wp2_with fail
  refine ci.mono ?_
  rintro e w1 (⟨rfl, rfl, hb⟩ | ⟨rfl, k, hk, rfl, hb⟩)
  · have HB := Lib.hid hb
    clear hb ci
    go_wp2_with fail
    go_ret
    exact ⟨rfl, HB.out⟩
  · have HB := Lib.hid hb
    have hk0 : (0 : Int) ≤ (k : Int) := by omega
    clear hb ci
    go_wp2_with fail
    go_ret
    exact ⟨rfl, HB.out⟩

set_option maxRecDepth 100000 in
set_option maxHeartbeats 2000000 in
theorem check_any (ls : List (List UInt8)) (A : Option Addr) (n c : Nat) (w : World) (hS : RdV w A n (sv ls)) (hn : n ≤ 1000000) (hc : n ≤ c) (hl : ∀ x ∈ ls, x.length ≤ 1000000) :
    Calls Tryd.prog 10 #[.slice A n c] w fun e w' => e = .returned (.int .i64 (chkF ls)) ∧ Below w.heap.size w w' := by
  have hln : ls.length = n := by rw [← hS.len, sv_length]
  have C1 := hasTwice_any ls A n c w hS hn hc
  have C2 := Lib.hid (fun W (hW : Below w.heap.size w W) => containsFunc_noPath (fun p => (partsF p).isNone) ls A n c W (hS.below hW) hn (fun V hV s hs => isNoPath_any s V (hl s hs)))
  have hr0 : chkF ls = if n < 1 ∨ 4 < n ∨ twiceK ls n = true then 1 else if (ls.any fun p => (partsF p).isNone) = true then 30 else 0 := by unfold chkF; rw [hln]
  obtain ⟨r, hr⟩ : ∃ r, r = chkF ls := ⟨_, rfl⟩
  rw [← hr] at hr0 ⊢
  generalize twiceK ls n = b1 at *
  generalize (ls.any fun p => (partsF p).isNone) = b2 at *
  have HR := Lib.hid hr0
  clear hS hl hr hr0 hln
  by_cases h1 : n < 1
  · have i1 : (n : Int) < 1 := by omega
    have hr : r = 1 := by rw [HR.out, if_pos (.inl h1)]
    subst hr
    clear h1 C1 C2
    go_enter Tryd.func10, Tryd.ntmps10
    go_wp2_with fail
    go_ret
    exact ⟨rfl, Below.refl _ _⟩
  · have i1 : ¬ (n : Int) < 1 := by omega
    by_cases h2 : 4 < n
    · have i2 : (4 : Int) < (n : Int) := by omega
      have hr : r = 1 := by rw [HR.out, if_pos (.inr (.inl h2))]
      subst hr
      clear h1 h2 C1 C2
      go_enter Tryd.func10, Tryd.ntmps10
      go_wp2_with fail
      go_ret
      exact ⟨rfl, Below.refl _ _⟩
    · have i2 : ¬ (4 : Int) < (n : Int) := by omega
      have i2' : decide ((4 : Int) < (n : Int)) = false := decide_eq_false i2
      cases b1
      · have HR2 : Hid (r = if b2 = true then 30 else 0) := by
          show _ = _
          rw [HR.out, if_neg]
          rintro (h | h | h)
          · exact h1 h
          · exact h2 h
          · cases h
        clear h1 h2
        go_enter Tryd.func10, Tryd.ntmps10
        go_wp2_with fail
        refine C1.mono ?_
        rintro e w1 ⟨rfl, hb1⟩
        have HB1 := Lib.hid hb1
        have c2 := C2.out w1 hb1
        clear C1 hb1
        go_wp2_with fail
        refine c2.mono ?_
        rintro e w2 ⟨rfl, hb2⟩
        have HB2 := Lib.hid (HB1.out.trans (hb2.mono HB1.out.size))
        clear c2 hb2
        cases b2
        · have hr : r = 0 := HR2.out
          subst hr
          go_wp2_with fail
          go_ret
          exact ⟨rfl, HB2.out⟩
        · have hr : r = 30 := HR2.out
          subst hr
          go_wp2_with fail
          go_ret
          exact ⟨rfl, HB2.out⟩
      · have hr : r = 1 := by rw [HR.out, if_pos (.inr (.inr rfl))]
        subst hr
        clear h1 h2
        go_enter Tryd.func10, Tryd.ntmps10
        go_wp2_with fail
        refine C1.mono ?_
        rintro e w1 ⟨rfl, hb1⟩
        have HB1 := Lib.hid hb1
        clear C1 hb1
        go_wp2_with fail
        go_ret
        exact ⟨rfl, HB1.out⟩
end Go.Proofs.YtnmlknhomhonaaaDoor.Reg
