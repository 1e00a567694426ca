/- What is left of the row comes to lie on the disk. -/
import Derived.Test.YtikpedkckijioaaDiskWrite
namespace Go.Proofs.Ytikpedkckijioaa.Disk
open Go.RowKit Phase

theorem bk_some {g : Nat} {t : TypeId} : ∀ (vs : List Value) (o : Nat) {w : World} {C : Array Value}, Bk w g t C → ∃ C', Bk (w.setCells g o vs) g t C' ∧ C'.size = C.size
  | [], _, _, C, h => ⟨C, h, rfl⟩
  | v :: r, o, w, C, h => by
    obtain ⟨C', h1, h2⟩ := bk_some r (o + 1) (h.set o v)
    exact ⟨C', h1, by rw [h2]; simp⟩
theorem Pg.splice {w : World} {p : Nat} {ps : List (List UInt8)} (h : Pg w p ps) (hok : OkP ps) {x : Nat × List UInt8} (hx : x.1 < ps.length) (hb : x.2.length = 512) {n : Nat} (hn : n ≤ 512) :
    Pg (w.setCells p (x.1 * 512) ((x.2.take n).map U)) p (lay1 ps x n) := by
  obtain ⟨C, hC, hs⟩ := h.block
  obtain ⟨C', hC', hs'⟩ := bk_some ((x.2.take n).map U) (x.1 * 512) hC
  have hlen : ((x.2.take n).map U).length = n := by rw [List.length_map, List.length_take]; omega
  refine ⟨⟨C', hC', by rw [hs', hs, lay1_length]⟩, fun k b hk j v hv => ?_⟩
  have hkl : k < ps.length := by
    have := (List.getElem?_eq_some_iff.1 hk).1
    rwa [lay1_length] at this
  unfold lay1 at hk
  by_cases hkx : x.1 = k
  · subst hkx
    rw [List.getElem?_set_self hkl] at hk
    injection hk with hk
    subst hk
    rw [List.map_append] at hv
    by_cases hj : j < n
    · rw [List.getElem?_append_left (by omega)] at hv
      have hj2 : j < ((x.2.take n).map U).length := by omega
      rw [World.cell?_setCells_in p _ (x.1 * 512) w (fun i hi => ((h.there (o := x.1 * 512) (n := 512) (by omega)) i (by omega)).1) j hj2]
      rw [List.getElem?_eq_getElem hj2] at hv
      exact hv
    · rw [List.getElem?_append_right (by omega), hlen, List.map_drop, List.getElem?_drop] at hv
      rw [World.cell?_setCells_out p _ (x.1 * 512) w _ (fun _ _ => .inr (by show x.1 * 512 + _ ≤ x.1 * 512 + j; omega))]
      have e : n + (j - n) = j := by omega
      rw [e] at hv
      exact h.cells x.1 _ (by rw [List.getD_eq_getElem?_getD, List.getElem?_eq_getElem hkl]; rfl) j v hv
  · rw [List.getElem?_set_ne hkx] at hk
    have hbl : b.length = 512 := hok b (List.mem_of_getElem? hk)
    have hj : j < 512 := by
      have := (List.getElem?_eq_some_iff.1 hv).1
      rw [List.length_map] at this
      omega
    rw [World.cell?_setCells_out p _ (x.1 * 512) w _ (fun _ _ => by
      show k * 512 + j < x.1 * 512 ∨ x.1 * 512 + _ ≤ k * 512 + j
      rw [hlen]
      rcases Nat.lt_or_gt_of_ne hkx with h1 | h1
      · right; omega
      · left; omega)]
    exact h.cells k b hk j v hv
theorem At.splice {w : World} {X : Nat → Prop} {g p : Nat} {A : Option Addr} {c : Nat} {d : DK} (h : At w X g p A c d) {x : Nat × List UInt8} (hx : x.1 < d.pages.length) (hb : x.2.length = 512) {n : Nat} (hn : n ≤ 512) :
    At (w.setCells p (x.1 * 512) ((x.2.take n).map U)) X g p A c { d with pages := lay1 d.pages x n } ∧ Out (· = p) w (w.setCells p (x.1 * 512) ((x.2.take n).map U)) := by
  have ho : Out (· = p) w (w.setCells p (x.1 * 512) ((x.2.take n).map U)) := Out.setCells (X := (· = p)) rfl _ _ _
  refine ⟨⟨?_, h.pg.splice h.ok.pages hx hb hn, ?_, h.xg, h.xp, h.xr, h.ne, ?_, fun k hk => Nat.lt_of_lt_of_le (h.lt k hk) ho.size⟩, ho⟩
  · show Bk _ g _ #[.slice (some ⟨p, 0, none⟩) (lay1 d.pages x n).length (lay1 d.pages x n).length, _, _, _]
    rw [lay1_length]
    exact h.bk.kept (ho.block g h.bk.lt h.ne)
  · refine ⟨h.own.1, ?_⟩
    rcases h.own.2 with h1 | ⟨r, cap, cur, h1, h2, h3, h4⟩
    · exact .inl h1
    · refine .inr ⟨r, cap, cur, h1, h2, ?_, h4⟩
      injection h1 with e1
      rw [ho.block r (Array.getElem?_eq_some_iff.1 h3).1 (h.xr ⟨r, 0, none⟩ e1).2.2]
      exact h3
  · refine h.ok.set (lay1_length _ _ _) (h.ok.pages.lay1 hx hb n hn) ?_ h.ok.low h.ok.high
    exact h.ok.row
theorem lay_snoc (k : Nat → Nat) (r : List (Nat × List UInt8)) (x : Nat × List UInt8) (ps : List (List UInt8)) : lay k 0 ps (r ++ [x]) = lay1 (lay k 0 ps r) x (k r.length) := by
  rw [lay_append]
  simp [lay]

theorem At.rowNone {w : World} {X : Nat → Prop} {g p : Nat} {A : Option Addr} {c : Nat} {d : DK} (h : At w X g p A c d) : At (w.setCell ⟨g, 1, none⟩ (.slice none 0 0)) X g p none 0 { d with row := [] } := by
  have ho := Out.setCell (X := (· = g)) w (p := ⟨g, 1, none⟩) rfl (.slice none 0 0)
  refine ⟨h.bk.set 1 _, h.pg.kept (ho.block p h.pg.lt (fun e => h.ne e.symm)), World.ownsRow_nil _ _ _ _, h.xg, h.xp, fun a ha => (nomatch ha), h.ne, h.ok.set rfl h.ok.pages (fun x hx => (nomatch hx)) h.ok.low h.ok.high, fun k hk => Nat.lt_of_lt_of_le (h.lt k hk) ho.size⟩
def RelSet (X : Nat → Prop) (g p : Nat) (A : Option Addr) (c : Nat) (d : DK) (kf : Nat → Nat) (I : Nat → World → Prop) (Z : Nat → Prop) (w : World) (i : Value) (wr : World) : Prop :=
  ∃ m : Nat, m ≤ d.row.length ∧ i = .int .i64 (m : Int) ∧ At wr X g p A c { d with pages := lay kf 0 d.pages (d.row.take m) } ∧ I m wr ∧ Out Z w wr
set_option maxRecDepth 100000 in
set_option maxHeartbeats 1000000 in
theorem settle_any (F : FuncId) (caps : Array Value) (kf : Nat → Nat) (I : Nat → World → Prop) (Y : Nat → Prop) {w : World} {X : Nat → Prop} {g : Nat} {d : DK} (h : DkAt w X g d) (hn : d.row.length ≤ 1000000)
    (hcf : ∀ W, (callFunc F caps).run Try.prog W = .ok (.enter F caps) W) (hkf : ∀ m, kf m ≤ 512) (hXY : ∀ k, X k → ¬ Y k) (hY : ∀ k, Y k → k < w.heap.size) (hI : ∀ m W W', I m W → Out X W W' → I m W') (h0 : I 0 w)
    (hcall : ∀ m W, I m W → ∃ W', I (m + 1) W' ∧ Out Y W W' ∧ Calls Try.prog F caps W (fun e w' => e = .returned (.int .i64 (kf m : Int)) ∧ w' = W')) :
    Calls Try.prog 45 #[.pointer (some ⟨g, 0, none⟩), .func (.func F) #[] caps] w (fun e w' => e = .returned (.tuple #[]) ∧ DkAt w' X g { d with pages := lay kf 0 d.pages d.row, row := [] } ∧ Out (fun k => X k ∨ Y k) w w' ∧ I d.row.length w') := by
  obtain ⟨p, A, c, h⟩ := h
  have H := Lib.hid h
  have HN := Lib.hid hn
  have HKF := Lib.hid hkf
  have HCF := Lib.hid hcf
  have HXY := Lib.hid hXY
  have HY := Lib.hid hY
  have HI := Lib.hid hI
  have HCALL := Lib.hid hcall
  have H0 := Lib.hid h0
  obtain ⟨-, h1, -, -, -⟩ := h.cells
  clear h hcf hkf hXY hY hI hcall h0
  generalize hL : d.row.length = L at *
  go_enter Try.func45, Try.ntmps45
  go_wp2_with fail
  go_loopw [11] (fun i wr => RelSet X g p A c d kf I (fun k => X k ∨ Y k) w i wr) (fun i _ => L - (intOf i).toNat)
  case atStart => exact ⟨0, Nat.zero_le _, rfl, by simpa [lay] using H.out, H0.out, Out.refl _ _⟩
  case round =>
    obtain ⟨m, hm, rfl, hat, hi, ho⟩ := hrel
    rw [hL] at hm
    by_cases hlt : m < L
    · obtain ⟨x, hx⟩ : ∃ x, d.row[m]? = some x := ⟨_, List.getElem?_eq_getElem (by omega)⟩
      obtain ⟨r, rfl, hxr, hrg, hrp, hrange, hLc⟩ := hat.row_at hx
      have hxr2 := hat.ok.row x (List.mem_of_getElem? hx)
      have HX1 := Lib.hid hxr2.1
      have HX2 := Lib.hid hxr2.2
      have HRA := Lib.hid hrange
      rw [hL] at hLc
      have HAT := Lib.hid hat
      have HIM := Lib.hid hi
      have HOO := Lib.hid ho
      have HXM := Lib.hid hx
      have hz0 := zero_write_run
      have HZ0 : Hid ((Try.prog.info? 94).map (·.size) = some (wrC x).toArray.size) := by show _ = _; rw [size_write]; simp [wrC, HX2.out]
      have HZ1 : Hid ((wrC (0, zeros)).toArray.size = (wrC x).toArray.size) := by show _ = _; simp [wrC, HX2.out, zeros_length]
      have HZ2 : Hid ((wrC x).toArray.all (·.oneCell') = true) := all_oneCell_toArray (wrC_one x)
      have HNB := Lib.hid (Bk.new wr 94 (wrC x).toArray)
      have HNBB : Hid (Below wr.heap.size wr (wr.alloc (.cells (wrC x).toArray 94))) := (Below.refl _ _).alloc (Nat.le_refl _) _
      have HLEN : Hid ((Try.prog.info? 94).map (·.size) = some (wrC x).length) := by show _ = _; rw [size_write, wrC_length HX2.out]
      clear hrange hat hi ho hx hxr2
      generalize hZ : (wrC (0, zeros)).toArray = Z at *
      generalize hC : wrC x = C at *
      have HCE := Lib.hid hC
      clear hZ hC
      go_wp2_with (first
        | ((with_reducible refine wpList_load_named ?_ 94 (.tmp 13) ?_ r (m * 513) ?_ C _ ?_ Try.underlying94 rfl HLEN.out ?_); (exact rfl); (exact rfl); (exact rfl); (exact HRA.out))
        | ((with_reducible refine wpList_store_new ?_ 94 (.tmp 5) (.tmp 14) ?_ wr Z C.toArray 94 ?_ ?_ ?_ HZ0.out HZ1.out HZ2.out ?_); (exact rfl); (exact rfl); (exact rfl); (exact rfl); (exact rfl)))
      refine Lib.hid ?_
      clear hz0
      go_wp2_with fail
      have HRN : Hid ((wr.alloc (.cells C.toArray 94)).rangeAt wr.heap.size 0 C) := fun j v hv => by
        rw [HNB.out.cell, Nat.zero_add]
        simpa using hv
      generalize hWr : wr.alloc (.cells C.toArray 94) = Wr at *
      have HPL : Hid ((lay kf 0 d.pages (d.row.take m)).length = d.pages.length) := lay_length _ _ _ _
      obtain ⟨PL, hPL⟩ : ∃ PL, PL = d.pages.length := ⟨_, rfl⟩
      have HX1 : Hid (x.1 < PL) := by show _ < _; rw [hPL, ← HPL.out]; exact HX1.out
      have HPM : Hid (PL ≤ 4096) := by show _ ≤ _; rw [hPL]; exact H.out.ok.many
      obtain ⟨W0, hW0⟩ : ∃ W0 : World, W0 = { Wr with drawn := Wr.drawn + 1 } := ⟨_, rfl⟩
      have hb0 : Below wr.heap.size wr W0 := by rw [hW0]; exact HNBB.out.drew
      have hI0 : I m W0 := HI.out m wr W0 HIM.out (Out.of_below hb0)
      obtain ⟨W1, hI1, hO1, hcl⟩ := HCALL.out m W0 hI0
      have HN5 : Hid (kf m ≤ 512) := HKF.out m
      generalize hn5 : kf m = n at *
      have hA0 := HAT.out.below hb0
      have hA1 := hA0.out hO1 HXY.out
      have hsp := hA1.splice (x := x) (by show _ < (lay kf 0 d.pages (d.row.take m)).length; rw [HPL.out, ← hPL]; exact HX1.out) HX2.out HN5.out
      obtain ⟨W2, hW2⟩ : ∃ W2, W2 = W1.setCells p (x.1 * 512) ((x.2.take n).map U) := ⟨_, rfl⟩
      rw [← hW2] at hsp
      have hwN : w.heap.size ≤ wr.heap.size := HOO.out.size
      have hN0 : W0.heap.size = wr.heap.size + 1 := by rw [hW0, ← hWr]; exact size_new _ _
      have hr0 : W0.rangeAt wr.heap.size 0 C := by rw [hW0]; exact HRN.out
      have hr1 : W1.rangeAt wr.heap.size 0 C := fun j v hv => by
        rw [hO1.cell (by show wr.heap.size < _; omega) (fun hy => by have := HY.out _ hy; have : wr.heap.size < w.heap.size := this; omega)]
        exact hr0 j v hv
      have hfz : W1.there p (x.1 * 512) n := hA1.pg.there (by show _ ≤ (lay kf 0 d.pages (d.row.take m)).length * 512; rw [HPL.out, ← hPL]; have := HX1.out; have := HN5.out; omega)
      have hl2 : ((x.2.take n).map U).length = n := by rw [List.length_map, List.length_take, HX2.out]; have := HN5.out; omega
      have hrun := run_copy_cells (P := Try.prog) W1 32 32 3 5 p (x.1 * 512) n 512 ⟨wr.heap.size, 1, none⟩ 512 512 ((x.2.take n).map U) ty_bytes (by kernel_rfl) (by rw [hl2]; have := HN5.out; exact (Nat.min_eq_right this).symm)
        (fun j v hj => by
          have hadd : (⟨wr.heap.size, 1, none⟩ : Addr).add j = ⟨wr.heap.size, 0 + (j + 1), none⟩ := by
            unfold Addr.add
            split
            · next h => subst h; rfl
            · simp [Nat.add_comm]
          rw [hadd]
          refine hr1 (j + 1) v ?_
          rw [← HCE.out]
          unfold wrC
          rw [List.getElem?_cons_succ]
          rw [List.map_take, List.getElem?_take] at hj
          split at hj
          · exact hj
          · cases hj)
        (fun j hj => (hfz j (by omega)).1) (fun j hj => (hfz j (by omega)).2) (U_all _)
      rw [hl2, ← hW2] at hrun
      obtain ⟨Ws, hWs⟩ : ∃ Ws : Nat → World, Ws = fun s => match s with | 0 => W0 | 1 => W1 | _ => W2 := ⟨_, rfl⟩
      have E0 : Hid (Ws 0 = W0) := congrFun hWs 0
      have E1 : Hid (Ws 1 = W1) := congrFun hWs 1
      have E2 : Hid (Ws 2 = W2) := congrFun hWs 2
      have HW0 := Lib.hid hW0
      have HCG : Hid (∀ s, s ≤ 1 → (Ws s).cell? ⟨g, 0, none⟩ = some (.slice (some ⟨p, 0, none⟩) PL PL)) := by
        intro s hs
        match s, hs with
        | 0, _ => rw [E0.out, hPL, ← HPL.out]; exact hA0.bk.cell 0
        | 1, _ => rw [E1.out, hPL, ← HPL.out]; exact hA1.bk.cell 0
      have HCN : Hid (∀ s, s ≤ 1 → (Ws s).cell? ⟨wr.heap.size, 0, none⟩ = some (.int .i64 (x.1 : Int))) := by
        intro s hs
        match s, hs with
        | 0, _ => rw [E0.out]; exact hr0 0 _ (by rw [← HCE.out]; rfl)
        | 1, _ => rw [E1.out]; exact hr1 0 _ (by rw [← HCE.out]; rfl)
      have HCL : Hid (Calls Try.prog F caps (Ws 0) (fun e w' => e = .returned (.int .i64 (n : Int)) ∧ w' = W1)) := by show Calls _ _ _ _ _; rw [E0.out]; exact hcl
      have HRUN : Hid ((Builtin.copy_ #[32, 32] 3 #[.slice (some ⟨p, x.1 * 512, none⟩) n 512, .slice (some ⟨wr.heap.size, 1, none⟩) 512 512]).run Try.prog (Ws 1) = .ok (.int .i64 (n : Int)) (Ws 2)) := by show _ = _; rw [E1.out, E2.out]; exact hrun
      have S1 := Lib.hid hsp.1
      have S2 : Hid (Out (fun k => X k ∨ Y k) w W2) := ((HOO.out.trans (Out.of_below (X := X) hb0) (fun k hk => .inl (.inl hk))).trans hO1 (fun k hk => .inl (.inr hk))).trans hsp.2 (fun k hk => .inl (.inl (hk ▸ HAT.out.xp)))
      have S3 : Hid (I (m + 1) W2) := HI.out _ W1 W2 hI1 (hsp.2.mono fun k hk => .inl (hk ▸ HAT.out.xp))
      have S4 : Hid (lay kf 0 d.pages (d.row.take (m + 1)) = lay1 (lay kf 0 d.pages (d.row.take m)) x n) := by
        show _ = _
        have e : d.row.take (m + 1) = d.row.take m ++ [x] := by
          obtain ⟨hlt', hx'⟩ := List.getElem?_eq_some_iff.1 HXM.out
          rw [← List.take_append_getElem hlt', hx']
        rw [e, lay_snoc, List.length_take, Nat.min_eq_left (by omega), hn5]
      generalize hNN : wr.heap.size = N at *
      clear hPL hWr hb0 hI0 hI1 hO1 hcl hA0 hA1 hsp hwN hN0 hr0 hr1 hfz hl2 hrun hWs hW0 hW2
      refine wp_region_line (fun k => ([.pointer (some ⟨g, 0, none⟩), .pointer (some ⟨g, 0, none⟩), .pointer (some ⟨g, 0, none⟩), .slice (some ⟨p, 0, none⟩) PL PL, .pointer (some ⟨N, 0, none⟩), .int .i64 (x.1 : Int), .pointer (some ⟨p, x.1 * 512, none⟩), .func (.func F) #[] caps, .int .i64 (n : Int), .slice (some ⟨p, x.1 * 512, none⟩) n 512, .pointer (some ⟨N, 1, none⟩), .slice (some ⟨N, 1, none⟩) 512 512, .int .i64 (n : Int)] : List Value).getD k undef) [8, 12] Ws 14 (by kernel_rfl) (by kernel_rfl) (E0.out.trans HW0.out) (fun k y hk => ?_) (fun k y z hy hz => ?_) ?_ { tmps := #[.pointer (some ⟨g, 0, none⟩), .func (.func F) #[] caps, undef, undef, undef, .pointer (some ⟨N, 0, none⟩), .pointer (some ⟨g, 0, none⟩), .pointer (some ⟨g, 0, none⟩), .pointer (some ⟨g, 1, none⟩), .slice (some ⟨r, 0, none⟩) L c, .int .i64 (L : Int), .int .i64 (m : Int), .bool true, .pointer (some ⟨r, m * 513, none⟩), .agg C.toArray, .pointer (some ⟨g, 0, none⟩), .pointer (some ⟨g, 0, none⟩), .pointer (some ⟨g, 0, none⟩), .slice (some ⟨p, 0, none⟩) PL PL, .pointer (some ⟨N, 0, none⟩), .int .i64 (x.1 : Int), .pointer (some ⟨p, x.1 * 512, none⟩), .func (.func F) #[] caps, .int .i64 (n : Int), .slice (some ⟨p, x.1 * 512, none⟩) n 512, .pointer (some ⟨N, 1, none⟩), .slice (some ⟨N, 1, none⟩) 512 512, .int .i64 (n : Int), u28, undef, undef, undef], defers := [] } (by kernel_rfl) ?_
      · match k, hk with
        | 0, hk => injection hk with hk; subst hk; decide
        | 1, hk => injection hk with hk; subst hk; decide
        | _ + 2, hk => cases hk
      · match k, hy, hz with
        | 0, hy, hz => injection hy with hy; injection hz with hz; subst hy hz; show reachB _ _ _ _ = true; kernel_rfl
        | 1, _, hz => cases hz
        | _ + 2, hy, _ => cases hy
      · refine stepsL_cons ?_ (stepsL_cons ?_ (stepsL_cons ?_ (stepsL_cons ?_ (stepsL_cons ?_ (stepsL_cons ?_ (stepsL_cons ?_ (stepsL_cons ?_ (stepsL_cons ?_ (stepsL_cons ?_ (stepsL_cons ?_ (stepsL_cons ?_ (stepsL_cons ?_ (stepsL_nil)))))))))))))
        · refine step_stay (by decide) fun a s hs hd h2 h3 K hK => ?_
          have h0 : a.tmps.getD 0 undef = .pointer (some ⟨g, 0, none⟩) := hd.kept 0 (by kernel_rfl)
          unfold Oper.wp
          go_simp
          exact hK
        · refine step_stay (by decide) fun a s hs hd h2 h3 K hK => ?_
          have h15 : a.tmps.getD 15 undef = .pointer (some ⟨g, 0, none⟩) := hd.done_ 0 _ 15 (by kernel_rfl) rfl rfl
          unfold Oper.wp
          go_simp
          exact hK
        · refine step_stay (by decide) fun a s hs hd h2 h3 K hK => ?_
          have h16 : a.tmps.getD 16 undef = .pointer (some ⟨g, 0, none⟩) := hd.done_ 1 _ 16 (by kernel_rfl) rfl rfl
          unfold Oper.wp
          go_simp
          exact hK
        · refine step_stay (by decide) fun a s hs hd h2 h3 K hK => ?_
          have h17 : a.tmps.getD 17 undef = .pointer (some ⟨g, 0, none⟩) := hd.done_ 2 _ 17 (by kernel_rfl) rfl rfl
          have hc := HCG.out s (h2 1 12 rfl (by kernel_rfl))
          unfold Oper.wp
          go_simp
          exact hK
        · refine step_stay (by decide) fun a s hs hd h2 h3 K hK => ?_
          have h5 : a.tmps.getD 5 undef = .pointer (some ⟨N, 0, none⟩) := hd.kept 5 (by kernel_rfl)
          unfold Oper.wp
          go_simp
          exact hK
        · refine step_stay (by decide) fun a s hs hd h2 h3 K hK => ?_
          have h19 : a.tmps.getD 19 undef = .pointer (some ⟨N, 0, none⟩) := hd.done_ 4 _ 19 (by kernel_rfl) rfl rfl
          have hc := HCN.out s (h2 1 12 rfl (by kernel_rfl))
          unfold Oper.wp
          go_simp
          exact hK
        · refine step_stay (by decide) fun a s hs hd h2 h3 K hK => ?_
          have h18 : a.tmps.getD 18 undef = .slice (some ⟨p, 0, none⟩) PL PL := hd.done_ 3 _ 18 (by kernel_rfl) rfl rfl
          have h20 : a.tmps.getD 20 undef = .int .i64 (x.1 : Int) := hd.done_ 5 _ 20 (by kernel_rfl) rfl rfl
          have hx1 := HX1.out
          have hpm := HPM.out
          unfold Oper.wp
          go_simp
          exact hK
        · refine step_stay (by decide) fun a s hs hd h2 h3 K hK => ?_
          have h1 : a.tmps.getD 1 undef = .func (.func F) #[] caps := hd.kept 1 (by kernel_rfl)
          unfold Oper.wp
          go_simp
          exact hK
        · intro a s hs hd h1 h2 h3 K hK
          obtain rfl := h1 0 rfl
          have h22 : a.tmps.getD 22 undef = .func (.func F) #[] caps := hd.done_ 7 _ 22 (by kernel_rfl) rfl rfl
          have hk := hK 1 (fun h => absurd rfl (h 0)) (fun k hk => by have := h1 k hk; omega)
          have hcf := HCF.out
          unfold Oper.wp
          go_simp
          refine HCL.out.mono ?_
          rintro e w' ⟨rfl, rfl⟩
          rw [E1.out] at hk
          exact hk
        · refine step_stay (by decide) fun a s hs hd h2 h3 K hK => ?_
          have h21 : a.tmps.getD 21 undef = .pointer (some ⟨p, x.1 * 512, none⟩) := hd.done_ 6 _ 21 (by kernel_rfl) rfl rfl
          have h23 : a.tmps.getD 23 undef = .int .i64 (n : Int) := hd.done_ 8 _ 23 (by kernel_rfl) rfl rfl
          have hn5 := HN5.out
          have hn6 : (n : Int) ≤ 512 := by omega
          unfold Oper.wp
          go_simp
          exact hK
        · refine step_stay (by decide) fun a s hs hd h2 h3 K hK => ?_
          have h5 : a.tmps.getD 5 undef = .pointer (some ⟨N, 0, none⟩) := hd.kept 5 (by kernel_rfl)
          unfold Oper.wp
          go_simp
          exact hK
        · refine step_stay (by decide) fun a s hs hd h2 h3 K hK => ?_
          have h25 : a.tmps.getD 25 undef = .pointer (some ⟨N, 1, none⟩) := hd.done_ 10 _ 25 (by kernel_rfl) rfl rfl
          unfold Oper.wp
          go_simp
          exact hK
        · intro a s hs hd h1 h2 h3 K hK
          obtain rfl := h1 1 rfl
          have h24 : a.tmps.getD 24 undef = .slice (some ⟨p, x.1 * 512, none⟩) n 512 := hd.done_ 9 _ 24 (by kernel_rfl) rfl rfl
          have h26 : a.tmps.getD 26 undef = .slice (some ⟨N, 1, none⟩) 512 512 := hd.done_ 11 _ 26 (by kernel_rfl) rfl rfl
          have hk := hK 2 (fun h => absurd rfl (h 1)) (fun k hk => by have := h1 k hk; omega)
          have e1 : Act.eval a (.tmp 24) = .slice (some ⟨p, x.1 * 512, none⟩) n 512 := h24
          have e2 : Act.eval a (.tmp 26) = .slice (some ⟨N, 1, none⟩) 512 512 := h26
          unfold Oper.wp execOp
          simp only [resolve, invoke, builtin, Sem.run_bind, Sem.run_pure, Result.andThen_ok, List.map_toArray, List.map_cons, List.map_nil, e1, e2]
          have hru := HRUN.out
          rw [hru]
          exact hk
      · have hend : Ws [8, 12].length = W2 := E2.out
        rw [hend]
        have w1 : wrap64 ((m : Int) + 1) = (m : Int) + 1 := IntWalk.wrap64_in _ (by omega)
        go_wp2_with fail
        exact ⟨⟨m + 1, by omega, rfl, by rw [S4.out]; exact S1.out, S3.out, S2.out⟩, by simp [intOf]; omega⟩
    · obtain rfl : m = L := by omega
      obtain ⟨-, -, -, -, hfz⟩ := hat.cells
      have h1' := hat.bk.cell 1
      have HAT := Lib.hid hat.rowNone
      have HOO := Lib.hid (ho.trans (Out.setCell (X := fun k => X k ∨ Y k) wr (p := ⟨g, 1, none⟩) (.inl hat.xg) (.slice none 0 0)) (fun k hk => .inl hk))
      have HII := Lib.hid (HI.out m wr _ hi (Out.setCell (X := X) wr (p := ⟨g, 1, none⟩) hat.xg (.slice none 0 0)))
      have hlay : lay kf 0 d.pages (d.row.take m) = lay kf 0 d.pages d.row := by rw [List.take_of_length_le (by omega)]
      clear hat
      rw [hlay] at HAT
      dsimp only at h1'
      go_wp2_with fail
      go_end0
      exact ⟨rfl, ⟨p, _, _, HAT.out⟩, HOO.out, HII.out⟩
end Go.Proofs.Ytikpedkckijioaa.Disk
