/- The contract of Write. -/
import Derived.Test.YtikpedkckijioaaDiskRead
import Derived.Test.YtikpedkckijioaaPhaseLine
import Derived.Great.BuildSlice
import Derived.Deep.AppendLies
namespace Go.Proofs.Ytikpedkckijioaa.Disk
open Go.RowKit Phase Great

theorem zero_write_run (w : World) : (zeroValue 94).run Try.prog w = .ok (.agg (wrC (0, zeros)).toArray) w := by
  have h := zero_write
  cases hq : Try.prog.info? 94 with
  | none => rw [hq] at h; cases h
  | some i =>
    have hzz : i.zero = some (.agg (wrC (0, zeros)).toArray) := by simpa [hq] using h
    simp [zeroValue, typeInfo, hq, hzz]
theorem zero_write_some : ¬ (wrC (0, zeros)).toArray = #[] := by simp [wrC]
theorem zero_write_set (k : Int) : (wrC (0, zeros)).toArray.setIfInBounds 0 (.int .i64 k) = (.int .i64 k :: zeros.map U).toArray := by simp [wrC]
theorem setCells_new (w : World) (t : TypeId) : ∀ (vs pre zs : List Value), zs.length = vs.length → (w.alloc (.cells (pre ++ zs).toArray t)).setCells w.heap.size pre.length vs = w.alloc (.cells (pre ++ vs).toArray t)
  | [], pre, zs, h => by
    have : zs = [] := List.eq_nil_of_length_eq_zero h
    subst this
    rfl
  | v :: vs, pre, [], h => by simp at h
  | v :: vs, pre, z :: zs, h => by
    rw [World.setCells, World.setCell_alloc_at _ _ _ _ _ rfl]
    have e1 : ((pre ++ z :: zs).toArray.setIfInBounds pre.length v) = ((pre ++ [v]) ++ zs).toArray := by simp
    rw [e1]
    have h2 := setCells_new w t vs (pre ++ [v]) zs (by simpa using h)
    rw [List.length_append, List.length_cons, List.length_nil] at h2
    rw [h2]
    simp
/-- 'copy' out of a text of a page's length into a write's bytes. -/
theorem copy_write {w : World} {A : Option Addr} {c : Nat} {b : List UInt8} (h : Rd w A 512 b) (k : Int) (ty : TypeId) :
    (Builtin.copy_ #[32, 32] ty #[.slice (some ⟨w.heap.size, 1, none⟩) 512 512, .slice A 512 c]).run Try.prog (w.alloc (.cells (.int .i64 k :: zeros.map U).toArray 94)) = .ok (.int .i64 512) (w.alloc (.cells (.int .i64 k :: b.map U).toArray 94)) := by
  obtain ⟨ad, rfl, hc⟩ := h.cells (by omega)
  have hl := h.len
  have hbk := Bk.new w 94 (.int .i64 k :: zeros.map U).toArray
  have hz := zeros_length
  have := run_copy_cells (P := Try.prog) (w.alloc (.cells (.int .i64 k :: zeros.map U).toArray 94)) 32 32 ty 5 w.heap.size 1 512 512 ad 512 c (b.map U) ty_bytes (by kernel_rfl) (by rw [List.length_map, hl]; rfl)
    (fun j v hj => by
      rw [List.getElem?_map] at hj
      cases hb : b[j]? with
      | none => rw [hb] at hj; cases hj
      | some x =>
        rw [hb] at hj
        injection hj with hj
        subst hj
        have hx := hc j x hb
        rw [World.cell?_alloc_lt _ _ _ (World.block_lt_of_cell? w _ hx)]
        exact hx)
    (fun j hj => by
      rw [List.length_map, hl] at hj
      rw [hbk.cell, List.getElem?_toArray, List.getElem?_eq_getElem (by rw [List.length_cons, List.length_map, hz]; omega)]
      rfl)
    (fun j _ => hbk.frozen _) (U_all b)
  rw [this, List.length_map, hl]
  have e := setCells_new w 94 (b.map U) [.int .i64 k] (zeros.map U) (by rw [List.length_map, List.length_map, hl, hz])
  rw [List.length_cons, List.length_nil] at e
  have e2 : [Value.int .i64 k] ++ zeros.map U = .int .i64 k :: zeros.map U := rfl
  have e3 : [Value.int .i64 k] ++ b.map U = .int .i64 k :: b.map U := rfl
  rw [e2, e3] at e
  rw [e]
  rfl
theorem Rd.out {X : Nat → Prop} {w w' : World} {A : Option Addr} {n : Nat} {b : List UInt8} (h : Rd w A n b) (ho : Out X w w') (hx : ∀ a, A = some a → ¬ X a.block) : Rd w' A n b :=
  ⟨h.len, fun hn => by
    obtain ⟨ad, e, hc⟩ := h.cells hn
    refine ⟨ad, e, fun j u hu => ?_⟩
    have h1 := hc j u hu
    rw [World.cell?_of_block (w := w) (by exact ho.block _ (World.block_lt_of_cell? w _ h1) (by rw [addr_add_block]; exact hx ad e))]
    exact h1⟩
theorem info_write : (Try.prog.info? 94).map (fun i => (i.zero, i.size, i.bytes)) = some (some (.agg (wrC (0, zeros)).toArray), 513, 520) := by unfold wrC; dsimp only; rw [zeros_U]; kernel_rfl
theorem info_three {P : Program} {t : TypeId} {z : Value} {a b : Nat} (h : (P.info? t).map (fun i => (i.zero, i.size, i.bytes)) = some (some z, a, b)) : ∃ i, P.info? t = some i ∧ i.zero = some z ∧ i.size = a ∧ i.bytes = b := by
  cases hi : P.info? t with
  | none => rw [hi] at h; cases h
  | some i =>
    rw [hi] at h
    simp at h
    exact ⟨i, rfl, h⟩
theorem ty_writes : Try.prog.underlying 69 = some (.slice 94) := by kernel_rfl
theorem size_new (w : World) (o : Obj) : (w.alloc o).heap.size = w.heap.size + 1 := by simp
open Phase in
/-- A step of an operation that leaves the world as it is. -/
theorem step_stay {P : Program} {Q : Exit → Act → World → Prop} {l : List Oper} {v : Nat → Value} {a0 : Act} {wr : List Nat} {Ws : Nat → World} {f i : Nat} {o : Oper} (hw : wr.contains i = false)
    (h : ∀ (a : Act) (s : Nat), s ≤ wr.length → DepL l v a0 o a → (∀ k x : Nat, wr[k]? = some x → reachB l f x i = true → s ≤ k) → (∀ k x : Nat, wr[k]? = some x → reachB l f i x = true → k < s) → ∀ K : Act → World → Prop, K (a.put o.dst (v i)) (Ws s) → o.wp P a (Ws s) K Q) : StepAt P Q l v a0 wr Ws f i o := by
  intro a s hs hd _ h2 h3 K hK
  have hno : ∀ k : Nat, wr[k]? ≠ some i := fun k hk => by
    have := List.mem_of_getElem? hk
    rw [List.contains_iff_mem.2 this] at hw
    cases hw
  exact h a s hs hd h2 h3 K (hK s (fun _ => rfl) (fun k hk => absurd hk (hno k)))
theorem out_grown {w w' : World} {row : Option Nat} (h : w.grownBy w' row) : Out (fun k => row = some k) w w' := ⟨h.os, h.tape, h.output, h.size, fun k hk hne => h.block k hk (fun e => hne e.symm)⟩
/-- Behind the append. -/
theorem At.append {w w' w4 : World} {X : Nat → Prop} {g p : Nat} {A : Option Addr} {c : Nat} {d : DK} (h : At w X g p A c d) (hb : Below w.heap.size w w') (k : Nat) (b : List UInt8) (hk : k < d.pages.length) (hbl : b.length = 512) {G cap n : Nat} (hn : n = d.row.length)
    (h4 : w4.ownsRow 0 94 513 (.slice (some ⟨G, 0, none⟩) (n + 1) cap) (n + 1) (rowV d.row ++ wrC (k, b))) (hg : w'.grownBy w4 (Value.slice A n c).ownBlock) (hl : (Value.slice A n c).ownBlock = some G ∨ G = w'.heap.size) (hlt : G < w4.heap.size) :
    ∃ X', At (w4.setCell ⟨g, 1, none⟩ (.slice (some ⟨G, 0, none⟩) (n + 1) cap)) X' g p (some ⟨G, 0, none⟩) cap { d with row := d.row ++ [(k, b)] } ∧ Out X w (w4.setCell ⟨g, 1, none⟩ (.slice (some ⟨G, 0, none⟩) (n + 1) cap)) ∧ ∀ j, X' j → X j ∨ w.heap.size ≤ j := by
  subst hn
  have hob : ∀ j, (Value.slice A d.row.length c).ownBlock = some j → X j ∧ j ≠ g ∧ j ≠ p := fun j hj => by
    cases A with
    | none => cases hj
    | some a =>
      have e : a.block = j := by simpa [Value.ownBlock] using hj
      subst e
      exact h.xr a rfl
  have hG : (X G ∨ w.heap.size ≤ G) ∧ G ≠ g ∧ G ≠ p := by
    rcases hl with hl | hl
    · exact ⟨.inl (hob G hl).1, (hob G hl).2⟩
    · have := hb.size
      have h1 := h.lt g h.xg
      have h2 := h.lt p h.xp
      exact ⟨.inr (by omega), by omega, by omega⟩
  have o1 : Out X w w' := Out.of_below hb
  have o2 : Out X w w4 := o1.trans (out_grown hg) (fun j hj => .inl (hob j hj).1)
  have o3 := Out.setCell (X := (· = g)) w4 (p := ⟨g, 1, none⟩) rfl (.slice (some ⟨G, 0, none⟩) (d.row.length + 1) cap)
  have hgw := h.lt g h.xg
  have hpw := h.lt p h.xp
  have hg4 : w4.heap[g]? = w.heap[g]? := ((out_grown hg).block g (Nat.lt_of_lt_of_le hgw hb.size) (fun e => (hob g e).2.1 rfl)).trans (hb.block g hgw)
  have hp4 : w4.heap[p]? = w.heap[p]? := ((out_grown hg).block p (Nat.lt_of_lt_of_le hpw hb.size) (fun e => (hob p e).2.2 rfl)).trans (hb.block p hpw)
  refine ⟨fun j => (X j ∨ j = G) ∧ j < w4.heap.size, ⟨?_, (h.pg.kept hp4).kept (o3.block p (Nat.lt_of_lt_of_le hpw o2.size) (fun e => h.ne e.symm)), ?_, ⟨.inl h.xg, Nat.lt_of_lt_of_le hgw o2.size⟩, ⟨.inl h.xp, Nat.lt_of_lt_of_le hpw o2.size⟩, ?_, h.ne, ?_, fun j hj => Nat.lt_of_lt_of_le hj.2 o3.size⟩, o2.trans o3 (fun j hj => .inl (hj ▸ h.xg)), ?_⟩
  · have := (h.bk.kept hg4).set 1 (.slice (some ⟨G, 0, none⟩) (d.row.length + 1) cap)
    have e : (d.row ++ [(k, b)]).length = d.row.length + 1 := by simp
    rw [e]
    exact this
  · have e : (d.row ++ [(k, b)]).length = d.row.length + 1 := by simp
    rw [e]
    dsimp only
    rw [rowV_snoc]
    refine ⟨h4.1, ?_⟩
    rcases h4.2 with ⟨h5, _⟩ | ⟨r, cp, cur, h5, h6, h7, h8⟩
    · cases h5
    · refine .inr ⟨r, cp, cur, h5, h6, ?_, h8⟩
      injection h5 with e1
      injection e1 with e1
      injection e1 with e1
      subst e1
      rw [o3.block G hlt hG.2.1]
      exact h7
  · intro a ha
    injection ha with ha
    subst ha
    exact ⟨⟨.inr rfl, hlt⟩, hG.2⟩
  · refine h.ok.set rfl h.ok.pages ?_ h.ok.low h.ok.high
    intro x hx
    rcases List.mem_append.1 hx with hx | hx
    · exact h.ok.row x hx
    · obtain rfl := List.mem_singleton.1 hx
      exact ⟨hk, hbl⟩
  · intro j hj
    rcases hj.1 with hj | rfl
    · exact .inl hj
    · exact hG.1
set_option maxRecDepth 100000 in
set_option maxHeartbeats 1000000 in
theorem write_any {w : World} {X : Nat → Prop} {g : Nat} {d : DK} (h : DkAt w X g d) (k : Int) (A : Option Addr) (n c : Nat) (b : List UInt8) (hr : Rd w A n b) (hx : ∀ a, A = some a → ¬ X a.block) (hnn : n ≤ 1000000) (hn : d.row.length ≤ 1000000) :
    Calls Try.prog 18 #[.pointer (some ⟨g, 0, none⟩), .int .i64 k, .slice A n c] w (Turns (.int .i64 (d.write k b).1) X g (d.write k b).2 w) := by
  have cf := faultAt_any h k
  have hl := hr.len
  obtain ⟨RES, hres⟩ : ∃ RES, RES = d.write k b := ⟨_, rfl⟩
  rw [← hres]
  unfold DK.write at hres
  by_cases h1 : d.faultAt k ≠ 0
  · rw [if_pos h1] at hres
    subst hres
    generalize d.faultAt k = z at *
    have H := Lib.hid h
    clear h hr
    go_enter Try.func18, Try.ntmps18
    go_wp2_with fail
    refine cf.mono ?_
    rintro e w1 ⟨rfl, rfl⟩
    go_wp2_with fail
    go_ret
    exact ⟨rfl, X, H.out, Out.refl X w, fun k hk => .inl hk⟩
  · rw [if_neg h1] at hres
    have h1 : d.faultAt k = 0 := by simpa using h1
    rw [h1] at cf
    by_cases h2 : b.length ≠ 512
    · rw [if_pos h2] at hres
      subst hres
      have H := Lib.hid h
      have h2n : ¬ ((n : Int) = 512) := by omega
      clear h hr
      go_enter Try.func18, Try.ntmps18
      go_wp2_with fail
      refine cf.mono ?_
      rintro e w1 ⟨rfl, rfl⟩
      go_wp2_with fail
      go_ret
      exact ⟨rfl, X, H.out, Out.refl X w, fun k hk => .inl hk⟩
    · rw [if_neg h2] at hres
      have h2 : b.length = 512 := by simpa using h2
      have hn2 : n = 512 := by omega
      subst hn2
      have cb := burn_any h
      by_cases h3 : d.burn.1 ≠ 0
      · rw [if_pos h3] at hres
        subst hres
        generalize d.burn = z at *
        obtain ⟨z1, z2⟩ := z
        have h3 : z1 ≠ 0 := h3
        dsimp only at cb ⊢
        clear h hr
        go_enter Try.func18, Try.ntmps18
        go_wp2_with fail
        refine cf.mono ?_
        rintro e w1 ⟨rfl, rfl⟩
        go_wp2_with fail
        refine cb.mono ?_
        rintro e w1 ⟨rfl, X1, hd1, ho1, hx1⟩
        have HD := Lib.hid hd1
        have HO := Lib.hid ho1
        have HX := Lib.hid hx1
        clear hd1 ho1 hx1 cb cf
        go_wp2_with fail
        go_ret
        exact ⟨rfl, X1, HD.out, HO.out, HX.out⟩
      · rw [if_neg h3] at hres
        have h3 : d.burn.1 = 0 := by simpa using h3
        rw [h3] at cb
        have hrow := burn_row d
        have hpgs := burn_pages d
        generalize d.burn.2 = d2 at *
        have HR := Lib.hid hr
        have HX0 := Lib.hid hx
        have HPG : Hid (d2.pages.length = d.pages.length) := by show _ = _; rw [hpgs]
        have HN : Hid (d2.row.length ≤ 1000000) := by show _ ≤ _; rw [hrow]; exact hn
        have HRES := Lib.hid hres
        have HB := Lib.hid h2
        have hf := faultAt_zero h1
        have HK : Hid (0 ≤ k ∧ k < d.pages.length) := hf.2
        clear h hr hx hres hl hpgs hrow hn hf h1 h3 h2 hnn
        go_enter Try.func18, Try.ntmps18
        go_wp2_with fail
        refine cf.mono ?_
        rintro e w1 ⟨rfl, rfl⟩
        go_wp2_with fail
        refine cb.mono ?_
        rintro e w1 ⟨rfl, X1, ⟨p, A1, c1, hd1⟩, ho1, hx1⟩
        have HD := Lib.hid hd1
        have HO := Lib.hid ho1
        have HX := Lib.hid hx1
        have HR1 := Lib.hid (Rd.out HR.out HO.out HX0.out)
        clear hd1 ho1 hx1 cb cf
        have hz0 := zero_write_run
        have hz1 := zero_write_some
        have hz2 := zero_write_set k
        have HCP := Lib.hid (copy_write (w := w1) (c := c) HR1.out k)
        have HZ0 : Hid ((Try.prog.info? 94).map (·.size) = some (Value.int .i64 k :: zeros.map U).toArray.size) := by show _ = _; rw [size_write]; simp [zeros_length]
        have HZ1 : Hid ((wrC (0, zeros)).toArray.size = (Value.int .i64 k :: zeros.map U).toArray.size) := by show _ = _; simp [wrC]
        have HZ2 : Hid ((Value.int .i64 k :: zeros.map U).toArray.all (·.oneCell') = true) := all_oneCell_toArray fun v hv => by
          rcases List.mem_cons.1 hv with rfl | hv
          · rfl
          · exact U_all _ v hv
        have HNB := Lib.hid (Bk.new w1 94 (Value.int .i64 k :: b.map U).toArray)
        have HNBB : Hid (Below w1.heap.size w1 (w1.alloc (.cells (Value.int .i64 k :: b.map U).toArray 94))) := (Below.refl _ _).alloc (Nat.le_refl _) _
        generalize hZ : (wrC (0, zeros)).toArray = Z at *
        generalize hZ2 : (Value.int .i64 k :: zeros.map U).toArray = Z2 at *
        generalize hZ3 : (Value.int .i64 k :: b.map U).toArray = Z3 at *
        have HE3 := Lib.hid hZ3
        clear hZ hZ2 hZ3
        go_wp2_with ((with_reducible refine wpList_store_new ?_ 94 (.tmp 9) (.tmp 25) ?_ w1 Z Z2 94 ?_ ?_ ?_ HZ0.out HZ1.out HZ2.out ?_); (exact rfl); (exact rfl); (exact rfl); (exact rfl); (exact rfl))
        refine Lib.hid ?_
        clear hz0 hz1 hz2
        have hcp := HCP.out
        go_wp2_with fail
        clear hcp HCP HZ0 HZ1 HZ2 HR1 HR
        have HAR := Lib.hid (HD.out.below HNBB.out)
        obtain ⟨kn, hkn⟩ : ∃ kn : Nat, k = (kn : Int) := ⟨k.toNat, by have := HK.out.1; omega⟩
        have hZ3 : Z3 = (wrC (kn, b)).toArray := by rw [← HE3.out, hkn]; rfl
        have HL3 : Hid (Z3.size = 513) := by show _ = _; rw [hZ3]; simp [wrC, HB.out]
        have hZl : Z3.toList = wrC (kn, b) := by rw [hZ3]
        have hoz : ∀ u ∈ Z3.toList, u.oneCell' = true := by rw [hZl]; exact wrC_one (kn, b)
        obtain ⟨i0, hi0, hi1, hi2, hi3⟩ := info_three info_write
        have HWB : Hid (Below w1.heap.size w1 (w1.alloc (.cells Z3 94))) := HNBB.out
        generalize hWr : w1.alloc (.cells Z3 94) = Wr at *
        have hszr : Wr.heap.size = w1.heap.size + 1 := by rw [← hWr]; exact size_new _ _
        generalize hN : w1.heap.size = N at *
        obtain ⟨V0, hV0⟩ : ∃ V0 : World, V0 = { Wr with drawn := Wr.drawn + 1 } := ⟨_, rfl⟩
        obtain ⟨V1, hV1⟩ : ∃ V1 : World, V1 = V0.alloc (.cells Z3 94) := ⟨_, rfl⟩
        have hb0 : Below w1.heap.size w1 V0 := by rw [hV0, hN]; exact HWB.out.drew
        have hb1 : Below w1.heap.size w1 V1 := by rw [hV1]; exact hb0.alloc hb0.size _
        have hs0 : V0.heap.size = N + 1 := by rw [hV0]; exact hszr
        have hs1 : V1.heap.size = N + 1 + 1 := by rw [hV1, size_new, hs0]
        have hnew : V1.heap[N + 1]? = some (.cells Z3 94 (0, 0)) := by rw [hV1, ← hs0]; exact heap_alloc_last _ _
        have hbN0 : V0.heap[N]? = some (.cells Z3 94 (0, 0)) := by rw [hV0]; exact HNB.out
        have hA1 := HD.out.below hb1
        obtain ⟨G, cap, V2, hrun, hown2, hgr2, hloc2, hlt2⟩ := run_append_lies (P := Try.prog) V1 69 69 0 94 i0 (.agg (wrC (0, zeros)).toArray) 513 520 ty_writes hi0 hi1 hi2 hi3 (by simp [Value.cells, wrC, zeros_length]) (by decide)
          (.slice A1 d2.row.length c1) d2.row.length (rowV d2.row) hA1.own ⟨N + 1, 0, none⟩ 1 1 Z3.toList (by rw [Array.length_toList, HL3.out]) (World.news_of_block hnew) hoz (by decide) (by have := HN.out; unfold maxLen; omega) (by have := HN.out; omega) (Nat.zero_le _) (N + 1 + 1) hs1
        have hpk : kn < d2.pages.length := by
          have h1 := HK.out.2
          have h2 := HPG.out
          rw [h2]
          omega
        obtain ⟨X4, hA4, hO4, hX4⟩ := HD.out.append hb1 kn b hpk HB.out rfl (by rw [hZl] at hown2; exact hown2) hgr2 (by rw [hs1]; exact hloc2) hlt2
        have hg1 : V2.heap[g]? = w1.heap[g]? := by
          have hgn : (Value.slice A1 d2.row.length c1).ownBlock ≠ some g := fun e => by
            cases A1 with
            | none => cases e
            | some a =>
              have e : a.block = g := by simpa [Value.ownBlock] using e
              exact (HD.out.xr a rfl).2.1 e
          rw [hgr2.block g (Nat.lt_of_lt_of_le HD.out.bk.lt hb1.size) (fun e => hgn e.symm)]
          exact hb1.block g HD.out.bk.lt
        have hN2 : V2.heap[N]? = V1.heap[N]? := by
          refine hgr2.block N (by omega) fun e => ?_
          cases A1 with
          | none => cases e
          | some a =>
            have e : a.block = N := by simpa [Value.ownBlock] using e.symm
            have := HD.out.lt _ (HD.out.xr a rfl).1
            omega
        have hN1 : V1.heap[N]? = V0.heap[N]? := by rw [hV1]; exact Below.heap_alloc _ _ _ (by omega)
        obtain ⟨V3, hV3⟩ : ∃ V3 : World, V3 = V2.setCell ⟨g, 1, none⟩ (.slice (some ⟨G, 0, none⟩) (d2.row.length + 1) cap) := ⟨_, rfl⟩
        rw [← hV3] at hA4 hO4
        have hbk2 := HD.out.bk.kept hg1
        have HFZ : Hid (V2.frozen? ⟨g, 1, none⟩ = false) := hbk2.frozen 1
        obtain ⟨Ws, hWs⟩ : ∃ Ws : Nat → World, Ws = fun s => match s with | 0 => V0 | 1 => V1 | 2 => V2 | _ => V3 := ⟨_, rfl⟩
        have E0 : Hid (Ws 0 = V0) := congrFun hWs 0
        have E1 : Hid (Ws 1 = V0.alloc (.cells Z3 94)) := (congrFun hWs 1).trans hV1
        have E2 : Hid (Ws 2 = V2) := congrFun hWs 2
        have E11 : Ws 1 = V1 := congrFun hWs 1
        have E3 : Hid (Ws 3 = V2.setCell ⟨g, 1, none⟩ (.slice (some ⟨G, 0, none⟩) (d2.row.length + 1) cap)) := (congrFun hWs 3).trans hV3
        have HV0 := Lib.hid hV0
        have HV3 := Lib.hid hV3
        have HRUN : Hid ((Builtin.append_ #[69, 69] 69 #[.slice A1 d2.row.length c1, .slice (some ⟨N + 1, 0, none⟩) 1 1]).run Try.prog (Ws 1) = .ok (.slice (some ⟨G, 0, none⟩) (d2.row.length + 1) cap) (Ws 2)) := by show _ = _; rw [E11, E2.out]; exact hrun
        have HC1 : Hid (∀ s, s ≤ 2 → (Ws s).cell? ⟨g, 1, none⟩ = some (.slice A1 d2.row.length c1)) := by
          intro s hs
          match s, hs with
          | 0, _ => rw [E0.out]; exact (HD.out.bk.below hb0).cell 1
          | 1, _ => rw [E11]; exact (HD.out.bk.below hb1).cell 1
          | 2, _ => rw [E2.out]; exact hbk2.cell 1
        have HC2 : Hid (∀ s, s ≤ 2 → (Ws s).rangeAt N 0 Z3.toList) := by
          have hh : ∀ W : World, W.heap[N]? = some (.cells Z3 94 (0, 0)) → W.rangeAt N 0 Z3.toList := fun W hW j v hv => by
            rw [cell_of_row W N _ _ _ _ hW, Nat.zero_add]
            simpa using hv
          intro s hs
          match s, hs with
          | 0, _ => rw [E0.out]; exact hh V0 hbN0
          | 1, _ => rw [E11]; exact hh V1 (hN1.trans hbN0)
          | 2, _ => rw [E2.out]; exact hh V2 (hN2.trans (hN1.trans hbN0))
        have HS0 := Lib.hid hs0
        have HI0 := Lib.hid hi0
        have HI1 := Lib.hid hi1
        have HI2 := Lib.hid hi2
        have HFZ2 : Hid ((Ws 2).frozen? ⟨g, 1, none⟩ = false) := by show _ = _; rw [E2.out]; exact HFZ.out
        have H4 := Lib.hid hA4
        have H5 := Lib.hid hO4
        have H6 := Lib.hid hX4
        clear hA4 hO4 hX4 hgr2 hown2 hloc2 hlt2 hA1 hg1 hN2 hN1 hbk2 hnew hbN0 hWr hszr hb0 hb1 hs1 hoz hWs hV0 hV1 hV3 hrun E11 hi0 hi1 hi2 hi3 hs0 hZ3 hZl HFZ
        refine wp_region_line (fun k => ([.pointer (some ⟨g, 0, none⟩), .pointer (some ⟨g, 0, none⟩), .pointer (some ⟨g, 0, none⟩), .pointer (some ⟨g, 1, none⟩), .slice A1 d2.row.length c1, .agg Z3, .slice (some ⟨N + 1, 0, none⟩) 1 1, .slice (some ⟨G, 0, none⟩) (d2.row.length + 1) cap, .pointer (some ⟨g, 0, none⟩), .pointer (some ⟨g, 1, none⟩), undef] : List Value).getD k undef) [6, 7, 10] Ws 12 (by kernel_rfl) (by kernel_rfl) (E0.out.trans HV0.out) (fun k x hk => ?_) (fun k x y hx hy => ?_) ?_ { tmps := #[.pointer (some ⟨g, 0, none⟩), .int .i64 k, .slice A 512 c, undef, undef, undef, .int .i64 0, .int .i64 0, .int .i64 0, .pointer (some ⟨N, 0, none⟩), .pointer (some ⟨g, 0, none⟩), .int .i64 k, .int .i64 0, .int .i64 0, .bool false, undef, .slice A 512 c, .int .i64 512, .bool false, .pointer (some ⟨g, 0, none⟩), .int .i64 0, .int .i64 0, .bool false, undef, .int .i64 k, .agg Z2, .pointer (some ⟨N, 1, none⟩), .slice (some ⟨N, 1, none⟩) 512 512, .slice A 512 c, .int .i64 512, .pointer (some ⟨g, 0, none⟩), .pointer (some ⟨g, 0, none⟩), .pointer (some ⟨g, 0, none⟩), .pointer (some ⟨g, 1, none⟩), .slice A1 d2.row.length c1, .agg Z3, .slice (some ⟨N + 1, 0, none⟩) 1 1, .slice (some ⟨G, 0, none⟩) (d2.row.length + 1) cap, .pointer (some ⟨g, 0, none⟩), .pointer (some ⟨g, 1, none⟩)], defers := [] } (by kernel_rfl) ?_
        · match k, hk with
          | 0, hk => injection hk with hk; subst hk; decide
          | 1, hk => injection hk with hk; subst hk; decide
          | 2, hk => injection hk with hk; subst hk; decide
          | _ + 3, hk => cases hk
        · match k, hx, hy with
          | 0, hx, hy => injection hx with hx; injection hy with hy; subst hx hy; show reachB _ _ _ _ = true; kernel_rfl
          | 1, hx, hy => injection hx with hx; injection hy with hy; subst hx hy; show reachB _ _ _ _ = true; kernel_rfl
          | 2, _, hy => cases hy
          | _ + 3, hx, _ => cases hx
        · refine stepsL_cons ?_ (stepsL_cons ?_ (stepsL_cons ?_ (stepsL_cons ?_ (stepsL_cons ?_ (stepsL_cons ?_ (stepsL_cons ?_ (stepsL_cons ?_ (stepsL_cons ?_ (stepsL_cons ?_ (stepsL_cons ?_ (stepsL_nil)))))))))))
          · refine step_stay (by decide) fun a s hs hd h2 h3 K hK => ?_
            have h0 : a.tmps.getD 0 undef = .pointer (some ⟨g, 0, none⟩) := hd.kept 0 (by kernel_rfl)
            unfold Oper.wp
            go_simp
            exact hK
          · refine step_stay (by decide) fun a s hs hd h2 h3 K hK => ?_
            have h0 : a.tmps.getD 0 undef = .pointer (some ⟨g, 0, none⟩) := hd.kept 0 (by kernel_rfl)
            unfold Oper.wp
            go_simp
            exact hK
          · refine step_stay (by decide) fun a s hs hd h2 h3 K hK => ?_
            have h31 : a.tmps.getD 31 undef = .pointer (some ⟨g, 0, none⟩) := hd.done_ 1 _ 31 (by kernel_rfl) rfl rfl
            unfold Oper.wp
            go_simp
            exact hK
          · refine step_stay (by decide) fun a s hs hd h2 h3 K hK => ?_
            have h32 : a.tmps.getD 32 undef = .pointer (some ⟨g, 0, none⟩) := hd.done_ 2 _ 32 (by kernel_rfl) rfl rfl
            unfold Oper.wp
            go_simp
            exact hK
          · refine step_stay (by decide) fun a s hs hd h2 h3 K hK => ?_
            have h33 : a.tmps.getD 33 undef = .pointer (some ⟨g, 1, none⟩) := hd.done_ 3 _ 33 (by kernel_rfl) rfl rfl
            have hc := HC1.out s (h2 2 10 rfl (by kernel_rfl))
            unfold Oper.wp
            go_simp
            exact hK
          · refine step_stay (by decide) fun a s hs hd h2 h3 K hK => ?_
            have h9 : a.tmps.getD 9 undef = .pointer (some ⟨N, 0, none⟩) := hd.kept 9 (by kernel_rfl)
            exact wp_load_mid 94 (.tmp 9) rfl N 0 h9 Z3.toList _ (HC2.out s (h2 2 10 rfl (by kernel_rfl))) Try.underlying94 rfl (by rw [size_write, Array.length_toList, HL3.out]) (by rw [Array.toArray_toList]; exact hK)
          · intro a s hs hd h1 h2 h3 K hK
            obtain rfl := h1 0 rfl
            have h35 : a.tmps.getD 35 undef = .agg Z3 := hd.done_ 5 _ 35 (by kernel_rfl) rfl rfl
            refine wp_buildSlice 69 94 1 #[(0, .tmp 35)] rfl Z3 i0 (.agg (wrC (0, zeros)).toArray) ty_writes HI0.out HI1.out (by rw [HI2.out]; decide) (by rw [HI2.out]; decide) ?_ ?_
            · have := fill_whole (s := 513) (by decide) [.agg Z3] ((Array.range 513).map ((Value.agg (wrC (0, zeros)).toArray).cells[· % (Value.agg (wrC (0, zeros)).toArray).cells.size]!)) (fun v hv => by obtain rfl := List.mem_singleton.1 hv; exact HL3.out) (by simp)
              rw [HI2.out]
              have e : Act.eval a (.tmp 35) = .agg Z3 := h35
              simp only [List.map_toArray, List.map_cons, List.map_nil, e]
              rw [show 1 * 513 = 513 from rfl]
              refine this.trans ?_
              simp [Value.cells]
            · have hk := hK 1 (fun h => absurd rfl (h 0)) (fun k hk => by rfl)
              rw [E1.out] at hk
              rw [E0.out, HS0.out]
              exact hk
          · intro a s hs hd h1 h2 h3 K hK
            obtain rfl := h1 1 rfl
            have h34 : a.tmps.getD 34 undef = .slice A1 d2.row.length c1 := hd.done_ 4 _ 34 (by kernel_rfl) rfl rfl
            have h36 : a.tmps.getD 36 undef = .slice (some ⟨N + 1, 0, none⟩) 1 1 := hd.done_ 6 _ 36 (by kernel_rfl) rfl rfl
            have hk := hK 2 (fun h => absurd rfl (h 1)) (fun k hk => by have := h1 k hk; omega)
            have e1 : Act.eval a (.tmp 34) = .slice A1 d2.row.length c1 := h34
            have e2 : Act.eval a (.tmp 36) = .slice (some ⟨N + 1, 0, none⟩) 1 1 := h36
            unfold Oper.wp execOp
            simp only [resolve, invoke, builtin, Sem.run_bind, Sem.run_pure, Result.andThen_ok, List.map_toArray, List.map_cons, List.map_nil, e1, e2]
            have hru := HRUN.out
            rw [hru]
            exact hk
          · refine step_stay (by decide) fun a s hs hd h2 h3 K hK => ?_
            have h30 : a.tmps.getD 30 undef = .pointer (some ⟨g, 0, none⟩) := hd.done_ 0 _ 30 (by kernel_rfl) rfl rfl
            unfold Oper.wp
            go_simp
            exact hK
          · refine step_stay (by decide) fun a s hs hd h2 h3 K hK => ?_
            have h38 : a.tmps.getD 38 undef = .pointer (some ⟨g, 0, none⟩) := hd.done_ 8 _ 38 (by kernel_rfl) rfl rfl
            unfold Oper.wp
            go_simp
            exact hK
          · intro a s hs hd h1 h2 h3 K hK
            obtain rfl := h1 2 rfl
            have h37 : a.tmps.getD 37 undef = .slice (some ⟨G, 0, none⟩) (d2.row.length + 1) cap := hd.done_ 7 _ 37 (by kernel_rfl) rfl rfl
            have h39 : a.tmps.getD 39 undef = .pointer (some ⟨g, 1, none⟩) := hd.done_ 9 _ 39 (by kernel_rfl) rfl rfl
            have hk := hK 3 (fun h => absurd rfl (h 2)) (fun k hk => by have := h1 k hk; omega)
            have hc := HC1.out 2 (Nat.le_refl _)
            have hfz := HFZ2.out
            rw [E3.out] at hk
            rw [E2.out] at hc hfz ⊢
            unfold Oper.wp
            go_simp
            exact hk
        · have hkt : k.toNat = kn := by omega
          have hend : Ws [6, 7, 10].length = V3 := E3.out.trans HV3.out.symm
          rw [hend]
          dsimp only
          go_wp2_with fail
          go_ret
          exact ⟨by rw [HRES.out]; rfl, X4, ⟨p, _, _, by rw [HRES.out, hkt]; exact H4.out⟩, HO.out.trans H5.out HX.out, fun j hj => (H6.out j hj).elim (fun h => HX.out j h) (fun h => .inr (Nat.le_trans HO.out.size (by omega)))⟩
end Go.Proofs.Ytikpedkckijioaa.Disk
