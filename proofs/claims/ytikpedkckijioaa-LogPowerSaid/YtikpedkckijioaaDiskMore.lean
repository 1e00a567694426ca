/- Contracts of Sync, Restart and New. -/
import Derived.Test.YtikpedkckijioaaDiskSettle
import Derived.Laws.MakeOwn
namespace Go.Proofs.Ytikpedkckijioaa.Disk
open Go.RowKit

/-- The slice reads as these numbers. -/
structure RdI (w : World) (A : Option Addr) (n : Nat) (zs : List Int) : Prop where
  len : zs.length = n
  cells : 0 < n → ∃ ad, A = some ad ∧ ∀ j z, zs[j]? = some z → w.cell? (ad.add j) = some (.int .i64 z)
  wf : ∀ z ∈ zs, -9223372036854775808 ≤ z ∧ z ≤ 9223372036854775807
theorem RdI.nil_ (w : World) (A : Option Addr) : RdI w A 0 [] := ⟨rfl, fun h => absurd h (by omega), fun z hz => (nomatch hz)⟩
theorem RdI.out {X : Nat → Prop} {w w' : World} {A : Option Addr} {n : Nat} {b : List Int} (h : RdI w A n b) (ho : Out X w w') (hx : 0 < n → ∀ a, A = some a → ¬ X a.block) : RdI w' A n b :=
  ⟨h.len, fun hn => by
    obtain ⟨ad, e, hc⟩ := h.cells hn
    refine ⟨ad, e, fun j u hu => ?_⟩
    have h1 := hc j u hu
    rw [World.cell?_of_block (w := w) (by exact ho.block _ (World.block_lt_of_cell? w _ h1) (by rw [addr_add_block]; exact hx hn ad e))]
    exact h1, h.wf⟩
theorem RdI.lt {w : World} {A : Option Addr} {n : Nat} {b : List Int} (h : RdI w A n b) (hn : 0 < n) : ∃ a, A = some a ∧ a.block < w.heap.size := by
  obtain ⟨ad, e, hc⟩ := h.cells hn
  have hl := h.len
  have h1 := hc 0 _ (List.getElem?_eq_getElem (by omega))
  have := World.block_lt_of_cell? w _ h1
  rw [addr_add_block] at this
  exact ⟨ad, e, this⟩
theorem all_any (w : World) : Calls Try.prog 83 #[] w fun e w' => e = .returned (.int .i64 512) ∧ w' = w := by
  go_enter Try.func83, Try.ntmps83
  go_wp2_with fail
  go_ret
  exact ⟨rfl, rfl⟩
theorem all_enter (caps : Array Value) (W : World) : (callFunc 83 caps).run Try.prog W = .ok (.enter 83 caps) W := by kernel_rfl
theorem take_enter (caps : Array Value) (W : World) : (callFunc 71 caps).run Try.prog W = .ok (.enter 71 caps) W := by kernel_rfl
theorem rem_no (z : Int) (h : ¬ z.tmod 513 < 0) : z.tmod 513 = ((z % 513).toNat : Int) := by
  have h1 := Int.emod_nonneg z (b := 513) (by decide)
  rcases Int.lt_or_le z 0 with hz | hz
  · have h2 : z.tmod 513 = -((-z).tmod 513) := by rw [Int.neg_tmod, Int.neg_neg]
    have h3 := Int.tmod_eq_emod_of_nonneg (a := -z) (b := 513) (by omega)
    omega
  · have h3 := Int.tmod_eq_emod_of_nonneg (a := z) (b := 513) hz
    omega
theorem rem_yes (z : Int) (h : z.tmod 513 < 0) : z.tmod 513 + 513 = ((z % 513).toNat : Int) := by
  have h1 := Int.emod_nonneg z (b := 513) (by decide)
  rcases Int.lt_or_le z 0 with hz | hz
  · have h2 : z.tmod 513 = -((-z).tmod 513) := by rw [Int.neg_tmod, Int.neg_neg]
    have h3 := Int.tmod_eq_emod_of_nonneg (a := -z) (b := 513) (by omega)
    omega
  · have h3 := Int.tmod_eq_emod_of_nonneg (a := z) (b := 513) hz
    omega
theorem rem_range (z : Int) : -512 ≤ z.tmod 513 ∧ z.tmod 513 ≤ 512 := by
  rcases Int.lt_or_le z 0 with hz | hz
  · have h2 : z.tmod 513 = -((-z).tmod 513) := by rw [Int.neg_tmod, Int.neg_neg]
    have h3 := Int.tmod_eq_emod_of_nonneg (a := -z) (b := 513) (by omega)
    omega
  · have h3 := Int.tmod_eq_emod_of_nonneg (a := z) (b := 513) hz
    omega
/-- Where the taker stands behind m calls. -/
def TkAt (nx ft : Nat) (A : Option Addr) (n c : Nat) (zs : List Int) (m : Nat) (W : World) : Prop :=
  Bk W nx 3 #[.int .i64 ((min m n : Nat) : Int)] ∧ Bk W ft 50 #[.slice A n c] ∧ RdI W A n zs
set_option maxRecDepth 100000 in
theorem take_any (nx ft : Nat) (A : Option Addr) (n c : Nat) (zs : List Int) (hne : nx ≠ ft) (hA : 0 < n → ∀ a, A = some a → a.block ≠ nx) (hn : n ≤ 1000000) (m : Nat) (W : World) (h : TkAt nx ft A n c zs m W) :
    ∃ W', TkAt nx ft A n c zs (m + 1) W' ∧ Out (· = nx) W W' ∧ Calls Try.prog 71 #[.pointer (some ⟨nx, 0, none⟩), .pointer (some ⟨ft, 0, none⟩)] W (fun e w' => e = .returned (.int .i64 (takes zs m : Int)) ∧ w' = W') := by
  obtain ⟨h1, h2, h3⟩ := h
  have c1 := h1.cell 0
  have c2 := h2.cell 0
  have f1 := h1.frozen 0
  have hl := h3.len
  by_cases hm : m < n
  · have hmin : min m n = m := by omega
    have hmin2 : min (m + 1) n = m + 1 := by omega
    have ho := Out.setCell (X := (· = nx)) W (p := ⟨nx, 0, none⟩) rfl (.int .i64 ((m + 1 : Nat) : Int))
    refine ⟨W.setCell ⟨nx, 0, none⟩ (.int .i64 ((m + 1 : Nat) : Int)), ⟨by rw [hmin2]; exact h1.set 0 _, h2.kept (ho.block ft h2.lt (fun e => hne e.symm)), h3.out ho hA⟩, ho, ?_⟩
    obtain ⟨ad, rfl, hc⟩ := h3.cells (by omega)
    have hcell := hc m _ (List.getElem?_eq_getElem (by omega))
    have hz : takes zs m = (zs[m] % 513).toNat := by unfold takes; rw [List.getElem?_eq_getElem (by omega)]
    have hrr := rem_range zs[m]
    have hno := rem_no zs[m]
    have hyes := rem_yes zs[m]
    rw [hz]
    have hadn := hA (by omega) ad rfl
    have hwf := h3.wf zs[m] (List.getElem_mem (by omega))
    rw [hmin] at c1
    generalize zs[m] = z at *
    have hcell2 : (W.setCell ⟨nx, 0, none⟩ (.int .i64 ((m : Int) + 1))).cell? ⟨nx, 0, none⟩ = some (.int .i64 ((m : Int) + 1)) := World.cell?_setCell_same _ _ _ c1
    have w1 : wrap64 ((m : Int) + 1) = (m : Int) + 1 := IntWalk.wrap64_in _ (by omega)
    have w2 : wrap64 (z.tmod 513) = z.tmod 513 := IntWalk.wrap64_in _ (by omega)
    have w3 : wrap64 (z.tmod 513 + 513) = z.tmod 513 + 513 := IntWalk.wrap64_in _ (by omega)
    by_cases hneg : z.tmod 513 < 0
    · have e := hyes hneg
      rw [← e]
      clear h1 h2 h3 hz hyes hno e hc ho hwf
      go_enter Try.func71, Try.ntmps71
      go_wp2_with fail
      go_ret
      exact ⟨rfl, rfl⟩
    · have e := hno hneg
      rw [← e]
      clear h1 h2 h3 hz hyes hno e hc ho hwf
      go_enter Try.func71, Try.ntmps71
      go_wp2_with fail
      go_ret
      exact ⟨rfl, rfl⟩
  · have hmin : min m n = n := by omega
    have hmin2 : min (m + 1) n = n := by omega
    refine ⟨W, ⟨by rw [hmin2]; rw [hmin] at h1; exact h1, h2, h3⟩, Out.refl _ _, ?_⟩
    have hz : takes zs m = 0 := by unfold takes; rw [List.getElem?_eq_none (by omega)]
    rw [hz]
    rw [hmin] at c1
    clear h1 h2 h3 hz
    go_enter Try.func71, Try.ntmps71
    go_wp2_with fail
    go_ret
    exact ⟨rfl, rfl⟩
def TakerPost (A : Option Addr) (n c : Nat) (zs : List Int) (w : World) (e : Ending) (w' : World) : Prop :=
  ∃ nx ft, e = .returned (.func (.func 71) #[] #[.pointer (some ⟨nx, 0, none⟩), .pointer (some ⟨ft, 0, none⟩)]) ∧ nx ≠ ft ∧ w.heap.size ≤ nx ∧ w.heap.size ≤ ft ∧ TkAt nx ft A n c zs 0 w' ∧ Below w.heap.size w w'
theorem RdI.below {w w' : World} {A : Option Addr} {n : Nat} {b : List Int} (h : RdI w A n b) (hb : Below w.heap.size w w') : RdI w' A n b := h.out (X := fun _ => False) (Out.of_below hb) (fun _ _ _ h => h)
theorem taker_any (A : Option Addr) (n c : Nat) (zs : List Int) (w : World) (h : RdI w A n zs) : Calls Try.prog 46 #[.slice A n c] w (TakerPost A n c zs w) := by
  have hmf : ∀ (fn : Fn) (first cap : Array Value) (w : World), (Instr.makeFunc fn first cap).run Try.prog w = .ok (.func fn first cap) w := fun _ _ _ _ => rfl
  have hb : Below w.heap.size w ((w.alloc (.cells #[.slice A n c] 50)).alloc (.cells #[.int .i64 0] 3)) := ((Below.refl _ _).alloc (Nat.le_refl _) _).alloc (by simp) _
  have hs : (w.alloc (.cells #[.slice A n c] 50)).heap.size = w.heap.size + 1 := size_new _ _
  have k1 := (Bk.new w 50 #[.slice A n c]).alloc (.cells #[.int .i64 0] 3)
  have k2 := Bk.new (w.alloc (.cells #[.slice A n c] 50)) 3 #[.int .i64 0]
  rw [hs] at k2
  have HP : Hid (TakerPost A n c zs w (.returned (.func (.func 71) #[] #[.pointer (some ⟨w.heap.size + 1, 0, none⟩), .pointer (some ⟨w.heap.size, 0, none⟩)])) ((w.alloc (.cells #[.slice A n c] 50)).alloc (.cells #[.int .i64 0] 3))) :=
    ⟨_, _, rfl, by omega, by omega, Nat.le_refl _, ⟨by rw [Nat.zero_min]; exact k2, k1, h.below hb⟩, hb⟩
  clear hb hs k1 k2 h
  go_enter Try.func46, Try.ntmps46
  go_wp2_with fail
  go_ret
  exact HP.out
theorem sync_nil (w : World) : Calls Try.prog 62 #[.pointer none] w (Ans (.int .i64 8) w) := by
  go_enter Try.func62, Try.ntmps62
  go_wp2_with fail
  refine (fault_nil w).mono ?_
  rintro e w1 ⟨rfl, rfl⟩
  go_wp2_with fail
  go_ret
  exact ⟨rfl, rfl⟩
theorem sync_any {w : World} {X : Nat → Prop} {g : Nat} {d : DK} (h : DkAt w X g d) (hn : d.row.length ≤ 1000000) : Calls Try.prog 62 #[.pointer (some ⟨g, 0, none⟩)] w (Turns (.int .i64 d.sync.1) X g d.sync.2 w) := by
  have cf := fault_any h
  obtain ⟨RES, hres⟩ : ∃ RES, RES = d.sync := ⟨_, rfl⟩
  rw [← hres]
  unfold DK.sync at hres
  unfold DK.fault at cf
  by_cases h1 : d.dead = true
  · rw [if_pos h1] at hres cf
    subst hres
    have H := Lib.hid h
    clear h h1
    go_enter Try.func62, Try.ntmps62
    go_wp2_with fail
    refine cf.mono ?_
    rintro e w1 ⟨rfl, rfl⟩
    go_wp2_with fail
    go_ret
    exact ⟨rfl, X, H.out, Out.refl X w, fun k hk => .inl hk⟩
  · rw [if_neg h1] at hres cf
    have cb := burn_any h
    by_cases h3 : d.burn.1 ≠ 0
    · rw [if_pos h3] at hres
      subst hres
      generalize d.burn = z at *
      obtain ⟨z1, z2⟩ := z
      have h3 : z1 ≠ 0 := h3
      dsimp only at cb ⊢
      clear h h1
      go_enter Try.func62, Try.ntmps62
      go_wp2_with fail
      refine cf.mono ?_
      rintro e w1 ⟨rfl, rfl⟩
      go_wp2_with fail
      refine cb.mono ?_
      rintro e w1 ⟨rfl, X1, hd1, ho1, hx1⟩
      have HD := Lib.hid hd1
      have HO := Lib.hid ho1
      have HX := Lib.hid hx1
      clear hd1 ho1 hx1 cb cf
      go_wp2_with fail
      go_ret
      exact ⟨rfl, X1, HD.out, HO.out, HX.out⟩
    · rw [if_neg h3] at hres
      have h3 : d.burn.1 = 0 := by simpa using h3
      rw [h3] at cb
      have HRES := Lib.hid hres
      have HR := Lib.hid (burn_row d)
      have HP := Lib.hid (burn_pages d)
      generalize d.burn.2 = d2 at *
      have HN : Hid (d2.row.length ≤ 1000000) := by show _ ≤ _; rw [HR.out]; exact hn
      clear h h1 h3 hn hres
      go_enter Try.func62, Try.ntmps62
      go_wp2_with fail
      refine cf.mono ?_
      rintro e w1 ⟨rfl, rfl⟩
      go_wp2_with fail
      refine cb.mono ?_
      rintro e w1 ⟨rfl, X1, hd1, ho1, hx1⟩
      have HO := Lib.hid ho1
      have HX := Lib.hid hx1
      have cs := settle_any 83 #[] (fun _ => 512) (fun _ _ => True) (fun _ => False) hd1 HN.out (all_enter #[]) (fun _ => Nat.le_refl _) (fun _ _ h => h) (fun _ h => h.elim) (fun _ _ _ _ _ => trivial) trivial (fun m W _ => ⟨W, trivial, Out.refl _ _, all_any W⟩)
      clear hd1 ho1 hx1 cb cf
      go_wp2_with fail
      refine cs.mono ?_
      rintro e w2 ⟨rfl, hd2, ho2, -⟩
      have HD2 := Lib.hid hd2
      have HO2 := Lib.hid ho2
      clear hd2 ho2 cs
      go_wp2_with fail
      go_ret
      exact ⟨by rw [HRES.out]; rfl, X1, by rw [HRES.out, ← HP.out, ← HR.out]; exact HD2.out, HO.out.trans HO2.out (fun k hk => hk.elim (HX.out k) False.elim), HX.out⟩
set_option maxRecDepth 100000 in
theorem restart_nil (A : Option Addr) (n c : Nat) (w : World) : Calls Try.prog 24 #[.pointer none, .slice A n c] w (Ans (.tuple #[]) w) := by
  go_enter Try.func24, Try.ntmps24
  go_wp2_with fail
  go_end0
  exact ⟨rfl, rfl⟩
set_option maxRecDepth 100000 in
theorem restart_any {w : World} {X : Nat → Prop} {g : Nat} {d : DK} (h : DkAt w X g d) (A : Option Addr) (n c : Nat) (zs : List Int) (hr : RdI w A n zs) (hx : 0 < n → ∀ a, A = some a → ¬ X a.block) (hnz : n ≤ 1000000) (hn : d.row.length ≤ 1000000) :
    Calls Try.prog 24 #[.pointer (some ⟨g, 0, none⟩), .slice A n c] w (Done X g (d.restart zs) w) := by
  have ct := taker_any A n c zs w hr
  have H := Lib.hid h
  have HR := Lib.hid hr
  have HX := Lib.hid hx
  clear h hr hx
  go_enter Try.func24, Try.ntmps24
  go_wp2_with fail
  refine ct.mono ?_
  rintro e w1 ⟨nx, ft, rfl, hne, hnx, hft, htk, hb⟩
  have HB := Lib.hid hb
  have hxl : ∀ k, X k → k < w.heap.size := by
    obtain ⟨_, _, _, h⟩ := H.out
    exact h.lt
  have hAl : ∀ a, A = some a → 0 < n → a.block < w.heap.size := fun a ha hn0 => by
    obtain ⟨a', e, hl⟩ := HR.out.lt hn0
    rw [ha] at e
    injection e with e
    exact e ▸ hl
  have cs := settle_any 71 #[.pointer (some ⟨nx, 0, none⟩), .pointer (some ⟨ft, 0, none⟩)] (takes zs) (TkAt nx ft A n c zs) (· = nx) (H.out.below hb) hn (take_enter _) (takes_le zs) (fun k hk e => by have := hxl k hk; omega) (fun k e => by subst e; exact htk.1.lt)
    (fun m W W' h ho => ⟨h.1.kept (ho.block _ h.1.lt (fun hX => by have := hxl _ hX; omega)), h.2.1.kept (ho.block _ h.2.1.lt (fun hX => by have := hxl _ hX; omega)), h.2.2.out ho HX.out⟩) htk
    (fun m W h => take_any nx ft A n c zs hne (fun hA0 a ha => by have := hAl a ha hA0; omega) hnz m W h)
  clear htk hb ct hAl
  go_wp2_with fail
  refine cs.mono ?_
  rintro e w2 ⟨rfl, ⟨p2, A2, c2, hd2⟩, ho2, -⟩
  have HO : Hid (Out X w w2) := (Out.of_below HB.out).trans ho2 (fun k hk => hk.elim .inl (fun e => .inr (by omega)))
  have h2 := hd2.deadTo false
  have h3 := h2.left (-1) (by omega) (by omega)
  have HD := Lib.hid h3
  have HX3 := Lib.hid hd2.xg
  have hxg := hd2.xg
  obtain ⟨-, -, k2, k3, kf⟩ := hd2.cells
  obtain ⟨-, -, -, k3', kf'⟩ := h2.cells
  clear cs hd2 ho2 h2 h3
  go_wp2_with fail
  go_end0
  exact ⟨rfl, X, ⟨p2, _, _, HD.out⟩, (HO.out.trans (Out.setCell (X := X) w2 (p := ⟨g, 2, none⟩) hxg (.bool false)) (fun k hk => .inl hk)).trans (Out.setCell (X := X) _ (p := ⟨g, 3, none⟩) hxg (.int .i64 (-1))) (fun k hk => .inl hk), fun k hk => .inl hk⟩
set_option maxRecDepth 100000 in
theorem ty_pages : Try.prog.underlying 68 = some (.slice 92) := by kernel_rfl
set_option maxRecDepth 100000 in
theorem info_page : (Try.prog.info? 92).map (fun i => (i.zero, i.size, i.bytes)) = some (some (.agg (zeros.map U).toArray), 512, 512) := by rw [zeros_U]; kernel_rfl
set_option maxRecDepth 100000 in
theorem new_no (n : Int) (w : World) (h : n < 1 ∨ 4096 < n) : Calls Try.prog 10 #[.int .i64 n] w (Ans (.tuple #[.pointer none, .int .i64 1]) w) := by
  by_cases h1 : n < 1
  · clear h
    go_enter Try.func10, Try.ntmps10
    go_wp2_with fail
    go_ret2
    exact ⟨rfl, rfl⟩
  · have h2 : 4096 < n := h.resolve_left h1
    clear h
    go_enter Try.func10, Try.ntmps10
    go_wp2_with fail
    go_ret2
    exact ⟨rfl, rfl⟩
def NewPost (n : Nat) (w : World) (e : Ending) (w' : World) : Prop :=
  ∃ g X, e = .returned (.tuple #[.pointer (some ⟨g, 0, none⟩), .int .i64 0]) ∧ DkAt w' X g (DK.new n) ∧ (∀ k, X k → w.heap.size ≤ k) ∧ Below w.heap.size w w'
set_option maxRecDepth 100000 in
theorem get_bang (A : Array Value) (i : Nat) (v : Value) (h : A[i]? = some v) : A[i]! = v := by
  rw [getElem!_def, h]
set_option maxRecDepth 100000 in
theorem made_get (n j : Nat) (hj : j < n * 512) : (madeCells (zeros.map U).toArray (n * 512))[j]? = some (U 0) := by
  have e : (zeros.map U) = List.replicate 512 (U 0) := by unfold zeros; rw [List.map_replicate]
  have hs : (zeros.map U).toArray.size = 512 := by simp [zeros_length]
  generalize zeros.map U = Zs at *
  have h2 : Zs.toArray[j % Zs.toArray.size]? = some (U 0) := by
    rw [List.getElem?_toArray, hs, e, List.getElem?_replicate, if_pos (Nat.mod_lt _ (by decide))]
  unfold madeCells
  rw [Array.getElem?_map, Array.getElem?_range, if_pos hj, Option.map_some, get_bang _ _ _ h2]
set_option maxRecDepth 100000 in
theorem Pg.new {w : World} {p n : Nat} (h : Bk w p 92 (madeCells (zeros.map U).toArray (n * 512))) : Pg w p (DK.new n).pages := by
  have hl : (DK.new n).pages.length = n := List.length_replicate
  refine ⟨⟨_, h, by rw [size_madeCells, hl]⟩, fun k b hk j v hv => ?_⟩
  have hkn : k < n := by have := (List.getElem?_eq_some_iff.1 hk).1; rwa [hl] at this
  have hb : b = List.replicate 512 0 := (List.mem_replicate.1 (List.mem_of_getElem? hk)).2
  subst hb
  rw [List.map_replicate] at hv
  have hj : j < 512 := by have := (List.getElem?_eq_some_iff.1 hv).1; rwa [List.length_replicate] at this
  rw [List.getElem?_replicate, if_pos hj] at hv
  injection hv with hv
  subst hv
  rw [h.cell, made_get n (k * 512 + j) (by omega)]
set_option maxRecDepth 100000 in
theorem new_yes (n : Nat) (w : World) (h1 : 1 ≤ n) (h2 : n ≤ 4096) : Calls Try.prog 10 #[.int .i64 (n : Int)] w (NewPost n w) := by
  obtain ⟨i0, hi0, hi1, hi2, hi3⟩ := info_three info_page
  have hmk := run_make (P := Try.prog) w 68 92 i0 _ ty_pages hi0 hi1 .i64 .i64 n n (by omega) (Int.le_refl _) (by rw [hi3]; omega) (by omega)
  rw [Int.toNat_natCast, hi2] at hmk
  have hvc : (Value.agg (zeros.map U).toArray).cells = (zeros.map U).toArray := rfl
  rw [hvc] at hmk
  have hs : (w.alloc (.cells (madeCells (zeros.map U).toArray (n * 512)) 92)).heap.size = w.heap.size + 1 := size_new _ _
  have hb : Below w.heap.size w ((w.alloc (.cells (madeCells (zeros.map U).toArray (n * 512)) 92)).alloc (.cells #[.slice (some ⟨w.heap.size, 0, none⟩) n n, .slice none 0 0, .bool false, .int .i64 (-1)] 71)) := ((Below.refl _ _).alloc (Nat.le_refl _) _).alloc (by rw [hs]; omega) _
  have k1 := (Bk.new w 92 (madeCells (zeros.map U).toArray (n * 512))).alloc (.cells #[.slice (some ⟨w.heap.size, 0, none⟩) n n, .slice none 0 0, .bool false, .int .i64 (-1)] 71)
  have k2 := Bk.new (w.alloc (.cells (madeCells (zeros.map U).toArray (n * 512)) 92)) 71 #[.slice (some ⟨w.heap.size, 0, none⟩) n n, .slice none 0 0, .bool false, .int .i64 (-1)]
  rw [hs] at k2
  have hl : (DK.new n).pages.length = n := List.length_replicate
  have HP : Hid (NewPost n w (.returned (.tuple #[.pointer (some ⟨w.heap.size + 1, 0, none⟩), .int .i64 0])) ((w.alloc (.cells (madeCells (zeros.map U).toArray (n * 512)) 92)).alloc (.cells #[.slice (some ⟨w.heap.size, 0, none⟩) n n, .slice none 0 0, .bool false, .int .i64 (-1)] 71))) :=
    ⟨w.heap.size + 1, fun k => k = w.heap.size ∨ k = w.heap.size + 1, rfl, ⟨w.heap.size, none, 0, ⟨by rw [hl]; exact k2, Pg.new k1, World.ownsRow_nil _ _ _ _, .inr rfl, .inl rfl, fun a ha => (nomatch ha), by omega, Ok.new h1 h2, fun k hk => by have := k2.lt; omega⟩⟩, fun k hk => by omega, hb⟩
  clear hs hb k1 k2 hl hi0 hi1 hi2 hi3 hvc
  generalize madeCells (zeros.map U).toArray (n * 512) = M at *
  go_enter Try.func10, Try.ntmps10
  go_wp2_with fail
  go_ret2
  exact HP.out
end Go.Proofs.Ytikpedkckijioaa.Disk
