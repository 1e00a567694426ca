/- Layer 6's code: the deepest root. -/
import Derived.Test.YtnmlknhomhonaaaDoorRegCode
import Derived.Deep.RegionHeld3
import Derived.RangeFuncBox
namespace Go.Proofs.YtnmlknhomhonaaaDoor.Reg
open Go.RowKit Path

theorem below_on {n : Nat} {w W we : World} (h : Hid (Below n w W)) (hn : n ≤ w.heap.size) (hg : Below W.heap.size W we) : Hid (Below n w we) := h.out.trans (hg.mono (Nat.le_trans hn h.out.size))
set_option maxRecDepth 100000 in
set_option maxHeartbeats 2000000 in
theorem ofCmp_any (ls : List (List UInt8)) (A : Option Addr) (n c B a b : Nat) (w : World) (hS : RdV w A n (sv ls)) (hbox : w.cell? ⟨B, 0, none⟩ = some (.slice A n c)) (ha : a < n) (hb : b < n) (hl : ∀ x ∈ ls, x.length ≤ 1000000) :
    Calls Tryd.prog 25 #[.int .i64 (a : Int), .int .i64 (b : Int), .pointer (some ⟨B, 0, none⟩)] w fun e w' => e = .returned (.int .i64 (cmpF (depth (ls.getD a [])) (depth (ls.getD b [])))) ∧ Below w.heap.size w w' := by
  have hln : ls.length = n := by rw [← hS.len, sv_length]
  have hja : a < ls.length := by omega
  have hjb : b < ls.length := by omega
  obtain ⟨bb, oo, rfl, hca⟩ := text_at hS hja
  obtain ⟨bb', oo', e', hcb⟩ := text_at hS hjb
  injection e' with e'
  injection e' with e1 e2
  subst e1 e2
  rw [getD_at ls [] hja, getD_at ls [] hjb]
  have D1 := Lib.hid (fun W => depth_any ls[a] W (hl _ (List.getElem_mem hja)))
  have D2 := Lib.hid (fun W => depth_any ls[b] W (hl _ (List.getElem_mem hjb)))
  generalize ls[a] = x at *
  generalize ls[b] = y at *
  have hai : (a : Int) < (n : Int) := by omega
  have hbi : (b : Int) < (n : Int) := by omega
  have HC : Hid (∀ W, Below w.heap.size w W → W.cell? ⟨B, 0, none⟩ = some (.slice (some ⟨bb, oo, none⟩) n c) ∧ W.cell? ⟨bb, oo + a, none⟩ = some (.string (S x)) ∧ W.cell? ⟨bb, oo + b, none⟩ = some (.string (S y))) :=
    fun W hW => ⟨(hW.cell (p := ⟨B, 0, none⟩) (World.block_lt_of_cell? w _ hbox)).trans hbox, by simpa only [World.drewN_zero] using hca W hW 0, by simpa only [World.drewN_zero] using hcb W hW 0⟩
  have B1 := Lib.hid (Below.refl w.heap.size w).drew
  have HS0 := Lib.hid (HC.out _ B1.out)
  have CC := Lib.hid (fun u v W => cmp_any u v W)
  clear hca hcb hS hl hln hja hjb hbox ha hb
  go_enter Tryd.func25, Tryd.ntmps25
  go_wp2_with fail
  go_region_held3 (fun w' => w'.cell? ⟨B, 0, none⟩ = some (.slice (some ⟨bb, oo, none⟩) n c) ∧ w'.cell? ⟨bb, oo + a, none⟩ = some (.string (S x)) ∧ w'.cell? ⟨bb, oo + b, none⟩ = some (.string (S y)))
    (first | assumption | exact HS0.out | (refine HC.out _ ?_; exact Hid.out (by assumption)))
    (first
      | (go_at_call 27; refine (D1.out _).mono ?_; rintro e we ⟨rfl, hg⟩; have BE := below_on (n := w.heap.size) (w := w) (by assumption) (Nat.le_refl _) hg; clear hg)
      | (go_at_call 27; refine (D2.out _).mono ?_; rintro e we ⟨rfl, hg⟩; have BE := below_on (n := w.heap.size) (w := w) (by assumption) (Nat.le_refl _) hg; clear hg)
      | (go_at_call 26; refine (CC.out _ _ _).mono ?_; rintro e we ⟨rfl, hg⟩; have BE := below_on (n := w.heap.size) (w := w) (by assumption) (Nat.le_refl _) hg; clear hg))
  all_goals (go_wp2_with fail; go_ret; exact ⟨rfl, BE.out⟩)
/-- A number of a row. -/
theorem int_at {w : World} {A : Option Addr} {n k : Nat} {a : List Nat} (ha : RdV w A n (iv a)) (h1 : k < a.length) : ∃ b o, A = some ⟨b, o, none⟩ ∧ ∀ W, Below w.heap.size w W → ∀ j, (h : j < a.length) → W.cell? ⟨b, o + j, none⟩ = some (.int .i64 (a[j] : Int)) := by
  have e1 : n = a.length := by rw [← ha.len, iv_length]
  obtain ⟨p, rfl, hc1⟩ := ha.cells (by omega)
  have h0 := hc1 0 _ (iv_get (by omega))
  have hp : p = ⟨p.block, p.off, none⟩ := by
    obtain ⟨b, o, s⟩ := p
    cases s with
    | none => rfl
    | some x =>
      unfold Addr.add World.cell? at h0
      simp at h0
      split at h0
      · simp at h0
      · cases h0
  refine ⟨p.block, p.off, congrArg some hp, fun W hW j hj => ?_⟩
  obtain ⟨_, x1, hd1⟩ := (ha.below hW).cells (by omega)
  injection x1 with x1
  subst x1
  have := hd1 j _ (iv_get hj)
  rw [hp] at this
  unfold Addr.add at this
  split at this
  · next h => subst h; exact this
  · exact this
def RelMax (w : World) (d : Nat → Nat) (is : List Nat) (m i : Value) (wr : World) : Prop := ∃ k : Nat, 1 ≤ k ∧ k ≤ is.length ∧ i = .int .i64 (k : Int) ∧ m = .int .i64 (deepest d (is.take k) : Int) ∧ Below w.heap.size w wr
theorem cmpF_pos (x y : Nat) : (0 < cmpF (x : Int) (y : Int)) ↔ y < x := by
  unfold cmpF
  split
  · constructor <;> intro h <;> omega
  · split
    · constructor <;> intro h <;> omega
    · constructor <;> intro h <;> omega
theorem deepest_mem (d : Nat → Nat) : ∀ (is : List Nat), is ≠ [] → deepest d is ∈ is := by
  intro is h
  cases is with
  | nil => exact absurd rfl h
  | cons x xs =>
    show xs.foldl (fun m y => if d m < d y then y else m) x ∈ x :: xs
    clear h
    induction xs generalizing x with
    | nil => exact List.mem_singleton.2 rfl
    | cons y ys ih =>
      rw [List.foldl_cons]
      rcases List.mem_cons.1 (ih (if d x < d y then y else x)) with h | h
      · rw [h]
        split
        · simp
        · simp
      · exact List.mem_cons_of_mem _ (List.mem_cons_of_mem _ h)
theorem deepest_take {d : Nat → Nat} {is : List Nat} {k : Nat} (h1 : 1 ≤ k) (hk : k < is.length) : deepest d (is.take (k + 1)) = if d (deepest d (is.take k)) < d is[k] then is[k] else deepest d (is.take k) := by
  rw [List.take_succ_eq_append_getElem hk, deepest_snoc]
  intro h
  have := congrArg List.length h
  simp only [List.length_take, List.length_nil] at this
  omega
set_option maxRecDepth 100000 in
set_option maxHeartbeats 2000000 in
theorem maxFunc_any (ls : List (List UInt8)) (A : Option Addr) (n c B : Nat) (is : List Nat) (I : Option Addr) (ci : Nat) (w : World) (hS : RdV w A n (sv ls)) (hbox : w.cell? ⟨B, 0, none⟩ = some (.slice A n c)) (hI : RdV w I is.length (iv is)) (hne : is ≠ []) (his : ∀ i ∈ is, i < n) (hN : is.length ≤ 1000000) (hl : ∀ x ∈ ls, x.length ≤ 1000000) :
    Calls Tryd.prog 24 #[.slice I is.length ci, .func (.func 25) #[] #[.pointer (some ⟨B, 0, none⟩)]] w fun e w' => e = .returned (.int .i64 (deepest (fun i => depth (ls.getD i [])) is : Int)) ∧ Below w.heap.size w w' := by
  have hpos : 0 < is.length := List.length_pos_iff.2 hne
  obtain ⟨bb, oo, rfl, hcells⟩ := int_at hI hpos
  have HCM := Lib.hid (fun a b W (ha : a < n) (hb : b < n) (hW : Below w.heap.size w W) => ofCmp_any ls A n c B a b W (hS.below hW) ((hW.cell (p := ⟨B, 0, none⟩) (World.block_lt_of_cell? w _ hbox)).trans hbox) ha hb hl)
  have HCL := Lib.hid hcells
  have q0 := hcells w (Below.refl _ _) 0 hpos
  rw [Nat.add_zero] at q0
  have v0 : ¬ (is.length : Int) < 1 := by omega
  have HIS := Lib.hid his
  have HDM : Hid (∀ k, 1 ≤ k → k ≤ is.length → deepest (fun i => depth (ls.getD i [])) (is.take k) < n) := fun k h1 h2 => his _ (List.mem_of_mem_take (deepest_mem _ _ (fun h => by have := congrArg List.length h; simp only [List.length_take, List.length_nil] at this; omega)))
  have HDT : Hid (∀ k, 1 ≤ k → (hk : k < is.length) → deepest (fun i => depth (ls.getD i [])) (is.take (k + 1)) = if depth (ls.getD (deepest (fun i => depth (ls.getD i [])) (is.take k)) []) < depth (ls.getD is[k] []) then is[k] else deepest (fun i => depth (ls.getD i [])) (is.take k)) := fun k h1 h2 => deepest_take h1 h2
  have HD1 : Hid (deepest (fun i => depth (ls.getD i [])) (is.take 1) = is[0]) := by
    show _ = _
    cases is with
    | nil => exact absurd rfl hne
    | cons x xs => rfl
  have HDA : Hid (deepest (fun i => depth (ls.getD i [])) (is.take is.length) = deepest (fun i => depth (ls.getD i [])) is) := by show _ = _; rw [List.take_length]
  clear hcells hS hbox hI hne his hl
  go_enter Tryd.func24, Tryd.ntmps24
  go_wp2_with fail
  clear q0
  go_loopw [5, 6] (fun m i wr => RelMax w (fun i => depth (ls.getD i [])) is m i wr) (fun _ i _ => is.length - (intOf i).toNat)
  case atStart => exact ⟨1, Nat.le_refl _, hpos, rfl, by rw [HD1.out], Below.refl _ _⟩
  case round =>
    obtain ⟨k, h1, hk, rfl, rfl, hb⟩ := hrel
    have HB := Lib.hid hb
    clear hb
    by_cases hlt : k < is.length
    · have q1 := HCL.out wr HB.out k hlt
      have hm := HDM.out k h1 hk
      have HST := Lib.hid (HDT.out k h1 hlt)
      have cf := HCM.out is[k] (deepest (fun i => depth (ls.getD i [])) (is.take k)) wr (HIS.out _ (List.getElem_mem hlt)) hm HB.out
      obtain ⟨x, hx⟩ : ∃ x, is[k] = x := ⟨_, rfl⟩
      rw [hx] at q1 cf HST
      have HX := Lib.hid hx
      clear hx
      obtain ⟨m, hmm⟩ : ∃ m, m = deepest (fun i => depth (ls.getD i [])) (is.take k) := ⟨_, rfl⟩
      rw [← hmm] at cf hm HST ⊢
      have HP := Lib.hid (cmpF_pos (depth (ls.getD x [])) (depth (ls.getD m [])))
      generalize cmpF (depth (ls.getD x []) : Int) (depth (ls.getD m []) : Int) = z at *
      have vk : (k : Int) < (is.length : Int) := by omega
      clear hmm
      by_cases hz : 0 < z
      · have HREL : Hid (deepest (fun i => depth (ls.getD i [])) (is.take (k + 1)) = x) := by
          show _ = _
          rw [HST.out, if_pos (HP.out.1 hz)]
        go_wp2_with fail
        refine cf.mono ?_
        rintro e w3 ⟨rfl, hb3⟩
        have HB3 := Lib.hid (HB.out.trans (hb3.mono HB.out.size))
        have q2 := HCL.out w3 HB3.out k hlt
        rw [HX.out] at q2
        clear cf hb3 q1 hm
        go_wp2_with fail
        go_roundw
        case rel => exact ⟨k + 1, by omega, by omega, by go_num, by rw [HREL.out], HB3.out⟩
        case measure => simp [intOf]; omega
      · have HREL : Hid (deepest (fun i => depth (ls.getD i [])) (is.take (k + 1)) = m) := by
          show _ = _
          rw [HST.out, if_neg (fun h => hz (HP.out.2 h))]
        have hz2 : z ≤ 0 := by omega
        go_wp2_with fail
        refine cf.mono ?_
        rintro e w3 ⟨rfl, hb3⟩
        have HB3 := Lib.hid (HB.out.trans (hb3.mono HB.out.size))
        clear cf hb3 q1 hm
        go_wp2_with fail
        go_roundw
        case rel => exact ⟨k + 1, by omega, by omega, by go_num, by rw [HREL.out], HB3.out⟩
        case measure => simp [intOf]; omega
    · obtain rfl : k = is.length := by omega
      clear hlt
      have v1 : ¬ (is.length : Int) < (is.length : Int) := by omega
      go_wp2_with fail
      go_ret
      exact ⟨rfl, HB.out⟩
/-- Of. -/
theorem RdV.of_ints {w : World} {base : Nat} {e : TypeId} {B : Option Addr} {n d : Nat} {is : List Nat} (h : w.ownsRow base e 1 (.slice B n d) n (iv is)) : RdV w B n (iv is) := (RdV.of_own h).1
set_option maxRecDepth 100000 in
set_option maxHeartbeats 2000000 in
theorem of_any (ls : List (List UInt8)) (p : List UInt8) (A : Option Addr) (n c : Nat) (w : World) (hS : RdV w A n (sv ls)) (hn : n ≤ 1000000) (hp : p.length ≤ 1000000) (hl : ∀ x ∈ ls, x.length ≤ 1000000) :
    Calls Tryd.prog 12 #[.slice A n c, .string (S p)] w fun e w' => e = .returned (.int .i64 (ofF ls p)) ∧ Below w.heap.size w w' := by
  have hln : ls.length = n := by rw [← hS.len, sv_length]
  have HE := Lib.hid (ofF_above ls p)
  rw [hln] at HE
  have hb0 : Below w.heap.size w (w.alloc (.cells #[.slice A n c] 22)) := (Below.refl _ _).alloc (Nat.le_refl _) _
  have KB : Boxed (w.alloc (.cells #[.slice A n c] 22)) w.heap.size 22 (.slice A n c) := Boxed.new _ _ _
  have kc := KB.cell
  have HB0 := Lib.hid hb0
  have hlt0 := KB.lt
  have cr := rootsAbove_any ls p A n c (w.alloc (.cells #[.slice A n c] 22)) (hS.below hb0) hn hp hl
  have HLT := Lib.hid (aboveK_lt ls p n)
  have HLE := Lib.hid (aboveK_le ls p n)
  have CM := Lib.hid (fun (W : World) (hW : Below w.heap.size w W) (hbx : W.cell? ⟨w.heap.size, 0, none⟩ = some (.slice A n c)) I ci (hI : RdV W I (aboveK ls p n).length (iv (aboveK ls p n))) (hne : aboveK ls p n ≠ []) => maxFunc_any ls A n c w.heap.size (aboveK ls p n) I ci W (hS.below hW) hbx hI hne HLT.out (by have := HLE.out; omega) hl)
  generalize S p = sp at *
  generalize aboveK ls p n = js at *
  generalize ofF ls p = r at *
  have HK := Lib.hid KB
  generalize hW0 : w.alloc (.cells #[.slice A n c] 22) = W0 at *
  clear hS hp hl hb0 KB hln
  go_enter Tryd.func12, Tryd.ntmps12
  go_wp2_with fail
  clear hW0
  refine cr.mono ?_
  rintro e w1 ⟨I, d, rfl, hb1, hown⟩
  have HB1 := Lib.hid (HB0.out.trans (hb1.mono HB0.out.size))
  have hbx : w1.cell? ⟨w.heap.size, 0, none⟩ = some (.slice A n c) := (hb1.cell (p := ⟨w.heap.size, 0, none⟩) hlt0).trans kc
  have HO := Lib.hid (RdV.of_ints hown)
  clear hb1 hown cr kc
  by_cases h0 : js = []
  · have hr : r = -1 := by rw [HE.out, if_pos h0]
    subst hr h0
    go_wp2_with fail
    go_ret
    exact ⟨rfl, HB1.out⟩
  · have hr := HE.out
    rw [if_neg h0] at hr
    have cm := CM.out w1 HB1.out hbx I d HO.out h0
    rw [← hr] at cm
    have hz : ((js.length : Int) == 0) = false := beq_eq_false_iff_ne.2 (by have := List.length_pos_iff.2 h0; omega)
    clear hr hbx h0
    go_wp2_with fail
    refine cm.mono ?_
    rintro e w2 ⟨rfl, hb2⟩
    have HB2 := Lib.hid (HB1.out.trans (hb2.mono HB1.out.size))
    clear hb2 cm
    go_wp2_with fail
    go_ret
    exact ⟨rfl, HB2.out⟩
end Go.Proofs.YtnmlknhomhonaaaDoor.Reg
