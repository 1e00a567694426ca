/- Layer 6's code: which root a path belongs to. -/
import Derived.Test.YtnmlknhomhonaaaDoorPathCode
import Derived.Test.YtnmlknhomhonaaaDoorRegPure
namespace Go.Proofs.YtnmlknhomhonaaaDoor.Reg
open Go.RowKit Path

theorem isNaN_any (x : Int) (w : World) : Calls Tryd.prog 39 #[.int .i64 x] w fun e w' => e = .returned (.bool false) ∧ Below w.heap.size w w' := by
  go_enter Tryd.func39, Tryd.ntmps39
  go_wp2_with fail
  go_ret
  exact ⟨rfl, Below.refl _ _⟩
def cmpF (x y : Int) : Int := if x < y then -1 else if y < x then 1 else 0
set_option maxRecDepth 8000 in
theorem cmp_any (x y : Int) (w : World) : Calls Tryd.prog 26 #[.int .i64 x, .int .i64 y] w fun e w' => e = .returned (.int .i64 (cmpF x y)) ∧ Below w.heap.size w w' := by
  obtain ⟨r, hr⟩ : ∃ r, r = cmpF x y := ⟨_, rfl⟩
  rw [← hr]
  unfold cmpF at hr
  go_enter Tryd.func26, Tryd.ntmps26
  go_wp2_with fail
  refine (isNaN_any x w).mono ?_
  rintro e w1 ⟨rfl, hb1⟩
  have HB1 := Lib.hid hb1
  clear hb1
  go_wp2_with fail
  refine (isNaN_any y w1).mono ?_
  rintro e w2 ⟨rfl, hb2⟩
  have HB2 := Lib.hid (HB1.out.trans (hb2.mono HB1.out.size))
  clear hb2
  by_cases h1 : x < y
  · rw [if_pos h1] at hr
    subst hr
    go_wp2_with fail
    go_ret
    exact ⟨rfl, HB2.out⟩
  · rw [if_neg h1] at hr
    by_cases h2 : y < x
    · rw [if_pos h2] at hr
      subst hr
      go_wp2_with fail
      go_ret
      exact ⟨rfl, HB2.out⟩
    · rw [if_neg h2] at hr
      subst hr
      go_wp2_with fail
      go_ret
      exact ⟨rfl, HB2.out⟩
theorem depth_any (l : List UInt8) (w : World) (hl : l.length ≤ 1000000) : Calls Tryd.prog 27 #[.string (S l)] w fun e w' => e = .returned (.int .i64 (depth l : Int)) ∧ Below w.heap.size w w' := by
  have c := Parts_any l w hl
  obtain ⟨n, hn⟩ : ∃ n, n = depth l := ⟨_, rfl⟩
  rw [← hn]
  have e : (partsL l).length = n := hn.symm
  rw [e] at c
  clear hn e
  go_enter Tryd.func27, Tryd.ntmps27
  go_wp2_with fail
  refine c.mono ?_
  rintro e w1 ⟨A, k, rfl, hb, _⟩
  have HB := Lib.hid hb
  clear hb c
  go_wp2_with fail
  go_ret
  exact ⟨rfl, HB.out⟩
theorem isNoPath_any (l : List UInt8) (w : World) (hl : l.length ≤ 1000000) : Calls Tryd.prog 21 #[.string (S l)] w fun e w' => e = .returned (.bool (partsF l).isNone) ∧ Below w.heap.size w w' := by
  have c := Check_any l w hl
  obtain ⟨b, hb⟩ : ∃ b, b = (partsF l).isNone := ⟨_, rfl⟩
  rw [← hb]
  have hc : checkE l = if b = true then 30 else 0 := by
    rw [hb]
    unfold checkE
    cases partsF l <;> rfl
  rw [hc] at c
  clear hb hc
  cases b
  · rw [if_neg (by decide)] at c
    go_enter Tryd.func21, Tryd.ntmps21
    go_wp2_with fail
    refine c.mono ?_
    rintro e w1 ⟨rfl, hb⟩
    have HB := Lib.hid hb
    clear hb c
    go_wp2_with fail
    go_ret
    exact ⟨rfl, HB.out⟩
  · rw [if_pos rfl] at c
    go_enter Tryd.func21, Tryd.ntmps21
    go_wp2_with fail
    refine c.mono ?_
    rintro e w1 ⟨rfl, hb⟩
    have HB := Lib.hid hb
    clear hb c
    go_wp2_with fail
    go_ret
    exact ⟨rfl, HB.out⟩

/-- A text of a row. -/
theorem text_at {w : World} {A : Option Addr} {n k : Nat} {a : List (List UInt8)} (ha : RdV w A n (sv a)) (h1 : k < a.length) : ∃ b o, A = some ⟨b, o, none⟩ ∧ ∀ W, Below w.heap.size w W → ∀ r, (W.drewN r).cell? ⟨b, o + k, none⟩ = some (.string (S a[k])) := by
  have e1 : n = a.length := by rw [← ha.len, sv_length]
  obtain ⟨p, rfl, hc1⟩ := ha.cells (by omega)
  have h0 := hc1 0 _ (sv_get (by omega))
  have hp : p = ⟨p.block, p.off, none⟩ := by
    obtain ⟨b, o, s⟩ := p
    cases s with
    | none => rfl
    | some x =>
      unfold Addr.add World.cell? at h0
      simp at h0
      split at h0
      · simp at h0
      · cases h0
  refine ⟨p.block, p.off, congrArg some hp, fun W hW r => ?_⟩
  obtain ⟨_, x1, hd1⟩ := (ha.below (below_drewN hW r)).cells (by omega)
  injection x1 with x1
  subst x1
  have := hd1 k _ (sv_get h1)
  rw [hp] at this
  unfold Addr.add at this
  split at this
  · next h => subst h; exact this
  · exact this
/-- Index. -/
def RelIdx (w : World) (ls : List (List UInt8)) (x : List UInt8) (n : Nat) (i : Value) (wr : World) : Prop := ∃ k : Nat, k ≤ n ∧ i = .int .i64 (k : Int) ∧ (ls.take k).contains x = false ∧ Below w.heap.size w wr
theorem contains_take {ls : List (List UInt8)} {x : List UInt8} {k : Nat} (hk : k < ls.length) : (ls.take (k + 1)).contains x = ((ls.take k).contains x || x == ls[k]) := by
  rw [List.take_succ_eq_append_getElem hk, List.contains_append]
  by_cases h : x = ls[k]
  · subst h; simp
  · simp [h, beq_eq_false_iff_ne.2 h]
def IdxPost (r : Bool) (w : World) (e : Ending) (w' : World) : Prop := (r = false ∧ e = .returned (.int .i64 (-1)) ∧ Below w.heap.size w w') ∨ (r = true ∧ ∃ k : Nat, k < 1000000 ∧ e = .returned (.int .i64 (k : Int)) ∧ Below w.heap.size w w')
set_option maxRecDepth 100000 in
set_option maxHeartbeats 2000000 in
theorem index_text (ls : List (List UInt8)) (x : List UInt8) (A : Option Addr) (n c : Nat) (w : World) (hS : RdV w A n (sv ls)) (hn : n ≤ 1000000) :
    Calls Tryd.prog 45 #[.slice A n c, .string (S x)] w (IdxPost (ls.contains x) w) := by
  have HS := Lib.hid hS
  have hl : ls.length = n := by rw [← hS.len, sv_length]
  have HL := Lib.hid hl
  have s1 := S_list x
  clear hS hl
  go_enter Tryd.func45, Tryd.ntmps45
  go_wp2_with fail
  go_loopw [8] (fun i wr => RelIdx w ls x n i wr) (fun i _ => n - (intOf i).toNat)
  case atStart => exact ⟨0, Nat.zero_le _, rfl, by simp, Below.refl _ _⟩
  case round =>
    obtain ⟨k, hk, rfl, hall, hb⟩ := hrel
    have HALL := Lib.hid hall
    have HB := Lib.hid hb
    clear hall hb
    by_cases hlt : k < n
    · have hjx : k < ls.length := by rw [HL.out]; exact hlt
      obtain ⟨bb, oo, rfl, hcells⟩ := text_at (HS.out.below HB.out) hjx
      have HAT := Lib.hid (contains_take (x := x) hjx)
      have HMEM := Lib.hid (List.getElem_mem hjx)
      obtain ⟨y, hy⟩ : ∃ y, ls[k] = y := ⟨_, rfl⟩
      rw [hy] at hcells HAT HMEM
      have q0 := hcells _ (Below.refl _ _)
      have q1 := q0 0
      have s2 := S_list y
      clear hcells hy
      simp only [World.drewN_zero] at q1
      by_cases he : x = y
      · have HANY : Hid (ls.contains x = true) := by
          show _ = _
          rw [he]
          exact List.contains_iff_mem.2 HMEM.out
        have hq : ((S x).toList == (S y).toList) = true := by rw [s1, s2, he]; simp
        generalize S x = X at *
        generalize S y = Y at *
        clear s1 s2 he
        go_wp2_with fail
        go_ret
        exact .inr ⟨HANY.out, k, by omega, rfl, HB.out⟩
      · have hq : ((S x).toList == (S y).toList) = false := by rw [s1, s2]; simpa using he
        have HREL : Hid ((ls.take (k + 1)).contains x = false) := by
          show _ = _
          rw [HAT.out, HALL.out, beq_eq_false_iff_ne.2 he]
          rfl
        generalize S x = X at *
        generalize S y = Y at *
        clear s1 s2 he
        go_wp2_with fail
        go_roundw
        case rel => exact ⟨k + 1, by omega, by go_num, HREL.out, HB.out⟩
        case measure => simp [intOf]; omega
    · obtain rfl : k = n := by omega
      have HNO : Hid (ls.contains x = false) := by
        show _ = _
        have h1 := HALL.out
        rwa [List.take_of_length_le (by rw [HL.out]; exact Nat.le_refl _)] at h1
      clear hlt
      have v1 : ¬ (k : Int) < (k : Int) := by omega
      go_wp2_with fail
      go_ret
      exact .inl ⟨by simpa using HNO.out, rfl, HB.out⟩
theorem contains_text (ls : List (List UInt8)) (x : List UInt8) (A : Option Addr) (n c : Nat) (w : World) (hS : RdV w A n (sv ls)) (hn : n ≤ 1000000) :
    Calls Tryd.prog 35 #[.slice A n c, .string (S x)] w fun e w' => e = .returned (.bool (ls.contains x)) ∧ Below w.heap.size w w' := by
  have ci := index_text ls x A n c w hS hn
  obtain ⟨q, hq⟩ : ∃ q, q = ls.contains x := ⟨_, rfl⟩
  rw [← hq] at ci ⊢
  clear hS hq hn
  go_enter Tryd.func35, Tryd.ntmps35
  go_wp2_with fail
  refine ci.mono ?_
  rintro e w1 (⟨rfl, rfl, hb⟩ | ⟨rfl, k, hk, rfl, hb⟩)
  · have HB := Lib.hid hb
    clear hb ci
    go_wp2_with fail
    go_ret
    exact ⟨rfl, HB.out⟩
  · have HB := Lib.hid hb
    have hk0 : (0 : Int) ≤ (k : Int) := by omega
    clear hb ci
    go_wp2_with fail
    go_ret
    exact ⟨rfl, HB.out⟩
/-- hasTwice. -/
def RelTwice (w : World) (ls : List (List UInt8)) (n : Nat) (i : Value) (wr : World) : Prop := ∃ k : Nat, k ≤ n ∧ i = .int .i64 (k : Int) ∧ twiceK ls k = false ∧ Below w.heap.size w wr
theorem RdV.pre {w : World} {A : Option Addr} {n : Nat} {ls : List (List UInt8)} (h : RdV w A n (sv ls)) {k : Nat} (hk : k ≤ n) : RdV w A k (sv (ls.take k)) := by
  have := h.take hk
  rwa [sv_take] at this
set_option maxRecDepth 100000 in
set_option maxHeartbeats 2000000 in
theorem hasTwice_any (ls : List (List UInt8)) (A : Option Addr) (n c : Nat) (w : World) (hS : RdV w A n (sv ls)) (hn : n ≤ 1000000) (hc : n ≤ c) :
    Calls Tryd.prog 19 #[.slice A n c] w fun e w' => e = .returned (.bool (twiceK ls n)) ∧ Below w.heap.size w w' := by
  have HS := Lib.hid hS
  have hl : ls.length = n := by rw [← hS.len, sv_length]
  have HL := Lib.hid hl
  have hci : (n : Int) ≤ (c : Int) := by omega
  obtain ⟨r, hr⟩ : ∃ r, r = twiceK ls n := ⟨_, rfl⟩
  rw [← hr]
  have HR := Lib.hid hr
  clear hS hl hr
  go_enter Tryd.func19, Tryd.ntmps19
  go_wp2_with fail
  go_loopw [7] (fun i wr => RelTwice w ls n i wr) (fun i _ => n - (intOf i).toNat)
  case atStart => exact ⟨0, Nat.zero_le _, rfl, rfl, Below.refl _ _⟩
  case round =>
    obtain ⟨k, hk, rfl, hall, hb⟩ := hrel
    have HALL := Lib.hid hall
    have HB := Lib.hid hb
    clear hall hb
    by_cases hlt : k < n
    · have hjx : k < ls.length := by rw [HL.out]; exact hlt
      have cf := contains_text (ls.take k) ls[k] A k c wr ((RdV.pre HS.out hk).below HB.out) (by omega)
      obtain ⟨bb, oo, rfl, hcells⟩ := text_at (HS.out.below HB.out) hjx
      have HAT := Lib.hid (twiceK_succ ls k)
      have q1 := hcells _ (Below.refl _ _) 0
      have hkc : (k : Int) ≤ (c : Int) := by omega
      simp only [World.drewN_zero] at q1
      rw [getD_at ls [] hjx] at HAT
      obtain ⟨y, hy⟩ : ∃ y, ls[k] = y := ⟨_, rfl⟩
      have HY := Lib.hid hy
      rw [hy] at q1 cf HAT
      clear hcells hy
      cases hq : (ls.take k).contains y
      · rw [hq] at cf
        have HREL : Hid (twiceK ls (k + 1) = false) := by
          show _ = _
          rw [HAT.out, HALL.out, hq]
          rfl
        clear hq
        go_wp2_with fail
        refine cf.mono ?_
        rintro e w3 ⟨rfl, hb3⟩
        have HB3 := Lib.hid (HB.out.trans (hb3.mono HB.out.size))
        clear cf hb3 q1
        go_wp2_with fail
        go_roundw
        case rel => exact ⟨k + 1, by omega, by go_num, HREL.out, HB3.out⟩
        case measure => simp [intOf]; omega
      · rw [hq] at cf
        have hr2 : r = true := by
          rw [HR.out]
          unfold twiceK
          refine List.any_eq_true.2 ⟨k, List.mem_range.2 hlt, ?_⟩
          rw [getD_at ls [] hjx, HY.out]
          exact hq
        subst hr2
        clear hq
        go_wp2_with fail
        refine cf.mono ?_
        rintro e w3 ⟨rfl, hb3⟩
        have HB3 := Lib.hid (HB.out.trans (hb3.mono HB.out.size))
        clear cf hb3 q1
        go_wp2_with fail
        go_ret
        exact ⟨rfl, HB3.out⟩
    · obtain rfl : k = n := by omega
      have hr2 : r = false := by rw [HR.out, HALL.out]
      subst hr2
      clear hlt
      have v1 : ¬ (k : Int) < (k : Int) := by omega
      go_wp2_with fail
      go_ret
      exact ⟨rfl, HB.out⟩

/-! ### rootsAbove, MaxFunc, Of -/
def iv (is : List Nat) : List Value := is.map fun (i : Nat) => Value.int .i64 (i : Int)
theorem iv_length (is : List Nat) : (iv is).length = is.length := by simp [iv]
theorem iv_get {is : List Nat} {j : Nat} (h : j < is.length) : (iv is)[j]? = some (.int .i64 (is[j] : Int)) := by simp [iv, h]
theorem iv_append (a b : List Nat) : iv (a ++ b) = iv a ++ iv b := by simp [iv]
theorem info_int : (Tryd.prog.info? 3).map (fun i => (i.zero, i.size, i.bytes)) = some (some (.int .i64 0), 1, 8) := by kernel_rfl
theorem ty_ints : Tryd.prog.underlying 45 = some (.slice 3) := by kernel_rfl
def RelAbove (w : World) (ls : List (List UInt8)) (p : List UInt8) (n : Nat) (v i : Value) (wr : World) : Prop := ∃ k : Nat, k ≤ n ∧ i = .int .i64 (k : Int) ∧ wr.ownsRow w.heap.size 3 1 v (aboveK ls p k).length (iv (aboveK ls p k)) ∧ Below w.heap.size w wr
set_option maxRecDepth 100000 in
set_option maxHeartbeats 2000000 in
theorem rootsAbove_any (ls : List (List UInt8)) (p : List UInt8) (A : Option Addr) (n c : Nat) (w : World) (hS : RdV w A n (sv ls)) (hn : n ≤ 1000000) (hp : p.length ≤ 1000000) (hl : ∀ x ∈ ls, x.length ≤ 1000000) :
    Calls Tryd.prog 23 #[.slice A n c, .string (S p)] w fun e w' => ∃ B d, e = .returned (.slice B (aboveK ls p n).length d) ∧ Below w.heap.size w w' ∧ w'.ownsRow w.heap.size 3 1 (.slice B (aboveK ls p n).length d) (aboveK ls p n).length (iv (aboveK ls p n)) := by
  have HS := Lib.hid hS
  have hln : ls.length = n := by rw [← hS.len, sv_length]
  have HL := Lib.hid hln
  have HLX := Lib.hid hl
  obtain ⟨i0, hi, hz0, hz1, hz2⟩ := infos info_int
  have HI := Lib.hid hi
  have HZ0 := Lib.hid hz0
  have HZ1 := Lib.hid hz1
  have HZ2 := Lib.hid hz2
  have CU := Lib.hid (fun r (hr : r.length ≤ 1000000) W => Under_any p r W hp hr)
  generalize S p = sp at *
  clear hS hln hl hi hz0 hz1 hz2
  go_enter Tryd.func23, Tryd.ntmps23
  go_wp2_with fail
  go_loopw [5, 10] (fun v i wr => RelAbove w ls p n v i wr) (fun _ i _ => n - (intOf i).toNat)
  case atStart => exact ⟨0, Nat.zero_le _, rfl, own_nil _ _ _, Below.refl _ _⟩
  case round =>
    obtain ⟨k, hk, rfl, hown, hb⟩ := hrel
    obtain ⟨B, d, rfl⟩ := own_slice hown
    have HO := Lib.hid hown
    have HB := Lib.hid hb
    have HLE := Lib.hid (aboveK_le ls p k)
    clear hown hb
    by_cases hlt : k < n
    · have hjx : k < ls.length := by rw [HL.out]; exact hlt
      obtain ⟨bb, oo, rfl, hcells⟩ := text_at (HS.out.below HB.out) hjx
      have q1 := hcells _ (Below.refl _ _) 0
      simp only [World.drewN_zero] at q1
      have HST : Hid (aboveK ls p (k + 1) = if underF p ls[k] = true then aboveK ls p k ++ [k] else aboveK ls p k) := by
        show _ = _
        rw [← getD_at ls [] hjx]
        rfl
      have cf := CU.out ls[k] (HLX.out _ (List.getElem_mem hjx)) wr
      generalize ls[k] = y at *
      obtain ⟨js, has⟩ : ∃ js, js = aboveK ls p k := ⟨_, rfl⟩
      rw [← has] at HO HLE HST ⊢
      clear hcells has
      cases hu : underF p y
      · rw [hu] at cf
        have HREL : Hid (aboveK ls p (k + 1) = js) := by
          show _ = _
          rw [HST.out, hu]
          rfl
        clear hu
        go_wp2_with fail
        refine cf.mono ?_
        rintro e w3 ⟨rfl, hb3⟩
        have HO3 := Lib.hid (own_below HO.out hb3)
        have HB3 := Lib.hid (HB.out.trans (hb3.mono HB.out.size))
        clear cf hb3 q1
        go_wp2_with fail
        go_roundw
        case rel => exact ⟨k + 1, by omega, by go_num, by rw [HREL.out]; exact HO3.out, HB3.out⟩
        case measure => simp [intOf]; omega
      · rw [hu] at cf
        have HREL : Hid (aboveK ls p (k + 1) = js ++ [k]) := by
          show _ = _
          rw [HST.out, hu]
          rfl
        clear hu
        go_wp2_with fail
        refine cf.mono ?_
        rintro e w3 ⟨rfl, hb3⟩
        have HO3 := Lib.hid (own_below HO.out hb3)
        have HB3 := Lib.hid (HB.out.trans (hb3.mono HB.out.size))
        have hle := HLE.out
        clear cf hb3 q1
        go_wp2_with (at_builtin; refine wpList_append_own _ rfl (.tmp 18) (.tmp 20) _ rfl w.heap.size 3 i0 _ 1 8 ty_ints HI.out HZ0.out HZ1.out HZ2.out rfl (by decide) _ js.length _ rfl (HO3.out.alloc _) ⟨w3.heap.size, 0, none⟩ 1 1 _ rfl rfl (one_new _ _ _) (by simp [Value.oneCell']) (by unfold maxLen; omega) (by omega) (by simp; have := HB3.out.size; omega) ?_)
        intro v' w4 hown1 hgr1 _
        have hown2 : w4.ownsRow w.heap.size 3 1 v' (js ++ [k]).length (iv (js ++ [k])) := by
          rw [iv_append]
          simpa [iv] using hown1
        have hb2 : Below w.heap.size w w4 := (HB3.out.alloc HB3.out.size _).grown hgr1 (by simp; have := HB3.out.size; omega) (fun g hg => (HO3.out.lt g hg).1)
        have HO4 := Lib.hid hown2
        have HB4 := Lib.hid hb2
        clear hown1 hgr1 hown2 hb2 hle
        go_wp2_with fail
        go_roundw
        case rel => exact ⟨k + 1, by omega, by go_num, by rw [HREL.out]; exact HO4.out, HB4.out⟩
        case measure => simp [intOf]; omega
    · obtain rfl : k = n := by omega
      clear hlt
      have v1 : ¬ (k : Int) < (k : Int) := by omega
      go_wp2_with fail
      go_ret
      exact ⟨_, _, rfl, HB.out, HO.out⟩
end Go.Proofs.YtnmlknhomhonaaaDoor.Reg
