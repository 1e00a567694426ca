/- Lemmas, part 6: DiskSettle, DiskMore, DiskSt, CrcRef, CrcSum -/
import Derived.Test.YtiijclibcfgnpaaGreatBase5
import Derived.Laws.MakeOwn
import Derived.Test.YtiijclibcfgnpaaGreatChecked
import Derived.Test.YtiijclibcfgnpaaGreatBase1
import Derived.Test.YtiijclibcfgnpaaGreatBase2
import Derived.KernelRfl
import Derived.Laws.Tables
import Derived.Laws.CopyOwn
import Derived.RegionTactic
namespace Go.Proofs.YtiijclibcfgnpaaGreat.Disk
open Go.RowKit Phase

theorem bk_some {g : Nat} {t : TypeId} : ∀ (vs : List Value) (o : Nat) {w : World} {C : Array Value}, Bk w g t C → ∃ C', Bk (w.setCells g o vs) g t C' ∧ C'.size = C.size
  | [], _, _, C, h => ⟨C, h, rfl⟩
  | v :: r, o, w, C, h => by
    obtain ⟨C', h1, h2⟩ := bk_some r (o + 1) (h.set o v)
    exact ⟨C', h1, by rw [h2]; simp⟩
theorem Pg.splice {w : World} {p : Nat} {ps : List (List UInt8)} (h : Pg w p ps) (hok : OkP ps) {x : Nat × List UInt8} (hx : x.1 < ps.length) (hb : x.2.length = 512) {n : Nat} (hn : n ≤ 512) :
    Pg (w.setCells p (x.1 * 512) ((x.2.take n).map U)) p (lay1 ps x n) := by
  obtain ⟨C, hC, hs⟩ := h.block
  obtain ⟨C', hC', hs'⟩ := bk_some ((x.2.take n).map U) (x.1 * 512) hC
  have hlen : ((x.2.take n).map U).length = n := by rw [List.length_map, List.length_take]; omega
  refine ⟨⟨C', hC', by rw [hs', hs, lay1_length]⟩, fun k b hk j v hv => ?_⟩
  have hkl : k < ps.length := by
    have := (List.getElem?_eq_some_iff.1 hk).1
    rwa [lay1_length] at this
  unfold lay1 at hk
  by_cases hkx : x.1 = k
  · subst hkx
    rw [List.getElem?_set_self hkl] at hk
    injection hk with hk
    subst hk
    rw [List.map_append] at hv
    by_cases hj : j < n
    · rw [List.getElem?_append_left (by omega)] at hv
      have hj2 : j < ((x.2.take n).map U).length := by omega
      rw [World.cell?_setCells_in p _ (x.1 * 512) w (fun i hi => ((h.there (o := x.1 * 512) (n := 512) (by omega)) i (by omega)).1) j hj2]
      rw [List.getElem?_eq_getElem hj2] at hv
      exact hv
    · rw [List.getElem?_append_right (by omega), hlen, List.map_drop, List.getElem?_drop] at hv
      rw [World.cell?_setCells_out p _ (x.1 * 512) w _ (fun _ _ => .inr (by show x.1 * 512 + _ ≤ x.1 * 512 + j; omega))]
      have e : n + (j - n) = j := by omega
      rw [e] at hv
      exact h.cells x.1 _ (by rw [List.getD_eq_getElem?_getD, List.getElem?_eq_getElem hkl]; rfl) j v hv
  · rw [List.getElem?_set_ne hkx] at hk
    have hbl : b.length = 512 := hok b (List.mem_of_getElem? hk)
    have hj : j < 512 := by
      have := (List.getElem?_eq_some_iff.1 hv).1
      rw [List.length_map] at this
      omega
    rw [World.cell?_setCells_out p _ (x.1 * 512) w _ (fun _ _ => by
      show k * 512 + j < x.1 * 512 ∨ x.1 * 512 + _ ≤ k * 512 + j
      rw [hlen]
      rcases Nat.lt_or_gt_of_ne hkx with h1 | h1
      · right; omega
      · left; omega)]
    exact h.cells k b hk j v hv
theorem At.splice {w : World} {X : Nat → Prop} {g p : Nat} {A : Option Addr} {c : Nat} {d : DK} (h : At w X g p A c d) {x : Nat × List UInt8} (hx : x.1 < d.pages.length) (hb : x.2.length = 512) {n : Nat} (hn : n ≤ 512) :
    At (w.setCells p (x.1 * 512) ((x.2.take n).map U)) X g p A c { d with pages := lay1 d.pages x n } ∧ Out (· = p) w (w.setCells p (x.1 * 512) ((x.2.take n).map U)) := by
  have ho : Out (· = p) w (w.setCells p (x.1 * 512) ((x.2.take n).map U)) := Out.setCells (X := (· = p)) rfl _ _ _
  refine ⟨⟨?_, h.pg.splice h.ok.pages hx hb hn, ?_, h.xg, h.xp, h.xr, h.ne, ?_, fun k hk => Nat.lt_of_lt_of_le (h.lt k hk) ho.size⟩, ho⟩
  · show Bk _ g _ #[.slice (some ⟨p, 0, none⟩) (lay1 d.pages x n).length (lay1 d.pages x n).length, _, _, _]
    rw [lay1_length]
    exact h.bk.kept (ho.block g h.bk.lt h.ne)
  · refine ⟨h.own.1, ?_⟩
    rcases h.own.2 with h1 | ⟨r, cap, cur, h1, h2, h3, h4⟩
    · exact .inl h1
    · refine .inr ⟨r, cap, cur, h1, h2, ?_, h4⟩
      injection h1 with e1
      rw [ho.block r (Array.getElem?_eq_some_iff.1 h3).1 (h.xr ⟨r, 0, none⟩ e1).2.2]
      exact h3
  · refine h.ok.set (lay1_length _ _ _) (h.ok.pages.lay1 hx hb n hn) ?_ h.ok.low h.ok.high
    exact h.ok.row
theorem lay_snoc (k : Nat → Nat) (r : List (Nat × List UInt8)) (x : Nat × List UInt8) (ps : List (List UInt8)) : lay k 0 ps (r ++ [x]) = lay1 (lay k 0 ps r) x (k r.length) := by
  rw [lay_append]
  simp [lay]

theorem At.rowNone {w : World} {X : Nat → Prop} {g p : Nat} {A : Option Addr} {c : Nat} {d : DK} (h : At w X g p A c d) : At (w.setCell ⟨g, 1, none⟩ (.slice none 0 0)) X g p none 0 { d with row := [] } := by
  have ho := Out.setCell (X := (· = g)) w (p := ⟨g, 1, none⟩) rfl (.slice none 0 0)
  refine ⟨h.bk.set 1 _, h.pg.kept (ho.block p h.pg.lt (fun e => h.ne e.symm)), World.ownsRow_nil _ _ _ _, h.xg, h.xp, fun a ha => (nomatch ha), h.ne, h.ok.set rfl h.ok.pages (fun x hx => (nomatch hx)) h.ok.low h.ok.high, fun k hk => Nat.lt_of_lt_of_le (h.lt k hk) ho.size⟩
def RelSet (X : Nat → Prop) (g p : Nat) (A : Option Addr) (c : Nat) (d : DK) (kf : Nat → Nat) (I : Nat → World → Prop) (Z : Nat → Prop) (w : World) (i : Value) (wr : World) : Prop :=
  ∃ m : Nat, m ≤ d.row.length ∧ i = .int .i64 (m : Int) ∧ At wr X g p A c { d with pages := lay kf 0 d.pages (d.row.take m) } ∧ I m wr ∧ Out Z w wr
set_option maxRecDepth 100000 in
set_option maxHeartbeats 1000000 in
theorem settle_any (F : FuncId) (caps : Array Value) (kf : Nat → Nat) (I : Nat → World → Prop) (Y : Nat → Prop) {w : World} {X : Nat → Prop} {g : Nat} {d : DK} (h : DkAt w X g d) (hn : d.row.length ≤ 1000000)
    (hcf : ∀ W, (callFunc F caps).run Tryz.prog W = .ok (.enter F caps) W) (hkf : ∀ m, kf m ≤ 512) (hXY : ∀ k, X k → ¬ Y k) (hY : ∀ k, Y k → k < w.heap.size) (hI : ∀ m W W', I m W → Out X W W' → I m W') (h0 : I 0 w)
    (hcall : ∀ m W, I m W → ∃ W', I (m + 1) W' ∧ Out Y W W' ∧ Calls Tryz.prog F caps W (fun e w' => e = .returned (.int .i64 (kf m : Int)) ∧ w' = W')) :
    Calls Tryz.prog 78 #[.pointer (some ⟨g, 0, none⟩), .func (.func F) #[] caps] w (fun e w' => e = .returned (.tuple #[]) ∧ DkAt w' X g { d with pages := lay kf 0 d.pages d.row, row := [] } ∧ Out (fun k => X k ∨ Y k) w w' ∧ I d.row.length w') := by
  obtain ⟨p, A, c, h⟩ := h
  have H := Lib.hid h
  have HN := Lib.hid hn
  have HKF := Lib.hid hkf
  have HCF := Lib.hid hcf
  have HXY := Lib.hid hXY
  have HY := Lib.hid hY
  have HI := Lib.hid hI
  have HCALL := Lib.hid hcall
  have H0 := Lib.hid h0
  obtain ⟨-, h1, -, -, -⟩ := h.cells
  clear h hcf hkf hXY hY hI hcall h0
  generalize hL : d.row.length = L at *
  go_enter Tryz.func78, Tryz.ntmps78
  go_wp2_with fail
  go_loopw [11] (fun i wr => RelSet X g p A c d kf I (fun k => X k ∨ Y k) w i wr) (fun i _ => L - (intOf i).toNat)
  case atStart => exact ⟨0, Nat.zero_le _, rfl, by simpa [lay] using H.out, H0.out, Out.refl _ _⟩
  case round =>
    obtain ⟨m, hm, rfl, hat, hi, ho⟩ := hrel
    rw [hL] at hm
    by_cases hlt : m < L
    · obtain ⟨x, hx⟩ : ∃ x, d.row[m]? = some x := ⟨_, List.getElem?_eq_getElem (by omega)⟩
      obtain ⟨r, rfl, hxr, hrg, hrp, hrange, hLc⟩ := hat.row_at hx
      have hxr2 := hat.ok.row x (List.mem_of_getElem? hx)
      have HX1 := Lib.hid hxr2.1
      have HX2 := Lib.hid hxr2.2
      have HRA := Lib.hid hrange
      rw [hL] at hLc
      have HAT := Lib.hid hat
      have HIM := Lib.hid hi
      have HOO := Lib.hid ho
      have HXM := Lib.hid hx
      have hz0 := zero_write_run
      have HZ0 : Hid ((Tryz.prog.info? 189).map (·.size) = some (wrC x).toArray.size) := by show _ = _; rw [size_write]; simp [wrC, HX2.out]
      have HZ1 : Hid ((wrC (0, zeros)).toArray.size = (wrC x).toArray.size) := by show _ = _; simp [wrC, HX2.out, zeros_length]
      have HZ2 : Hid ((wrC x).toArray.all (·.oneCell') = true) := all_oneCell_toArray (wrC_one x)
      have HNB := Lib.hid (Bk.new wr 189 (wrC x).toArray)
      have HNBB : Hid (Below wr.heap.size wr (wr.alloc (.cells (wrC x).toArray 189))) := (Below.refl _ _).alloc (Nat.le_refl _) _
      have HLEN : Hid ((Tryz.prog.info? 189).map (·.size) = some (wrC x).length) := by show _ = _; rw [size_write, wrC_length HX2.out]
      clear hrange hat hi ho hx hxr2
      generalize hZ : (wrC (0, zeros)).toArray = Z at *
      generalize hC : wrC x = C at *
      have HCE := Lib.hid hC
      clear hZ hC
      go_wp2_with (first
        | ((with_reducible refine wpList_load_named ?_ 189 (.tmp 13) ?_ r (m * 513) ?_ C _ ?_ Tryz.underlying189 rfl HLEN.out ?_); (exact rfl); (exact rfl); (exact rfl); (exact HRA.out))
        | ((with_reducible refine wpList_store_new ?_ 189 (.tmp 5) (.tmp 14) ?_ wr Z C.toArray 189 ?_ ?_ ?_ HZ0.out HZ1.out HZ2.out ?_); (exact rfl); (exact rfl); (exact rfl); (exact rfl); (exact rfl)))
      refine Lib.hid ?_
      clear hz0
      go_wp2_with fail
      have HRN : Hid ((wr.alloc (.cells C.toArray 189)).rangeAt wr.heap.size 0 C) := fun j v hv => by
        rw [HNB.out.cell, Nat.zero_add]
        simpa using hv
      generalize hWr : wr.alloc (.cells C.toArray 189) = Wr at *
      have HPL : Hid ((lay kf 0 d.pages (d.row.take m)).length = d.pages.length) := lay_length _ _ _ _
      obtain ⟨PL, hPL⟩ : ∃ PL, PL = d.pages.length := ⟨_, rfl⟩
      have HX1 : Hid (x.1 < PL) := by show _ < _; rw [hPL, ← HPL.out]; exact HX1.out
      have HPM : Hid (PL ≤ 4096) := by show _ ≤ _; rw [hPL]; exact H.out.ok.many
      obtain ⟨W0, hW0⟩ : ∃ W0 : World, W0 = { Wr with drawn := Wr.drawn + 1 } := ⟨_, rfl⟩
      have hb0 : Below wr.heap.size wr W0 := by rw [hW0]; exact HNBB.out.drew
      have hI0 : I m W0 := HI.out m wr W0 HIM.out (Out.of_below hb0)
      obtain ⟨W1, hI1, hO1, hcl⟩ := HCALL.out m W0 hI0
      have HN5 : Hid (kf m ≤ 512) := HKF.out m
      generalize hn5 : kf m = n at *
      have hA0 := HAT.out.below hb0
      have hA1 := hA0.out hO1 HXY.out
      have hsp := hA1.splice (x := x) (by show _ < (lay kf 0 d.pages (d.row.take m)).length; rw [HPL.out, ← hPL]; exact HX1.out) HX2.out HN5.out
      obtain ⟨W2, hW2⟩ : ∃ W2, W2 = W1.setCells p (x.1 * 512) ((x.2.take n).map U) := ⟨_, rfl⟩
      rw [← hW2] at hsp
      have hwN : w.heap.size ≤ wr.heap.size := HOO.out.size
      have hN0 : W0.heap.size = wr.heap.size + 1 := by rw [hW0, ← hWr]; exact size_new _ _
      have hr0 : W0.rangeAt wr.heap.size 0 C := by rw [hW0]; exact HRN.out
      have hr1 : W1.rangeAt wr.heap.size 0 C := fun j v hv => by
        rw [hO1.cell (by show wr.heap.size < _; omega) (fun hy => by have := HY.out _ hy; have : wr.heap.size < w.heap.size := this; omega)]
        exact hr0 j v hv
      have hfz : W1.there p (x.1 * 512) n := hA1.pg.there (by show _ ≤ (lay kf 0 d.pages (d.row.take m)).length * 512; rw [HPL.out, ← hPL]; have := HX1.out; have := HN5.out; omega)
      have hl2 : ((x.2.take n).map U).length = n := by rw [List.length_map, List.length_take, HX2.out]; have := HN5.out; omega
      have hrun := run_copy_cells (P := Tryz.prog) W1 54 54 3 5 p (x.1 * 512) n 512 ⟨wr.heap.size, 1, none⟩ 512 512 ((x.2.take n).map U) ty_bytes (by kernel_rfl) (by rw [hl2]; have := HN5.out; exact (Nat.min_eq_right this).symm)
        (fun j v hj => by
          have hadd : (⟨wr.heap.size, 1, none⟩ : Addr).add j = ⟨wr.heap.size, 0 + (j + 1), none⟩ := by
            unfold Addr.add
            split
            · next h => subst h; rfl
            · simp [Nat.add_comm]
          rw [hadd]
          refine hr1 (j + 1) v ?_
          rw [← HCE.out]
          unfold wrC
          rw [List.getElem?_cons_succ]
          rw [List.map_take, List.getElem?_take] at hj
          split at hj
          · exact hj
          · cases hj)
        (fun j hj => (hfz j (by omega)).1) (fun j hj => (hfz j (by omega)).2) (U_all _)
      rw [hl2, ← hW2] at hrun
      obtain ⟨Ws, hWs⟩ : ∃ Ws : Nat → World, Ws = fun s => match s with | 0 => W0 | 1 => W1 | _ => W2 := ⟨_, rfl⟩
      have E0 : Hid (Ws 0 = W0) := congrFun hWs 0
      have E1 : Hid (Ws 1 = W1) := congrFun hWs 1
      have E2 : Hid (Ws 2 = W2) := congrFun hWs 2
      have HW0 := Lib.hid hW0
      have HCG : Hid (∀ s, s ≤ 1 → (Ws s).cell? ⟨g, 0, none⟩ = some (.slice (some ⟨p, 0, none⟩) PL PL)) := by
        intro s hs
        match s, hs with
        | 0, _ => rw [E0.out, hPL, ← HPL.out]; exact hA0.bk.cell 0
        | 1, _ => rw [E1.out, hPL, ← HPL.out]; exact hA1.bk.cell 0
      have HCN : Hid (∀ s, s ≤ 1 → (Ws s).cell? ⟨wr.heap.size, 0, none⟩ = some (.int .i64 (x.1 : Int))) := by
        intro s hs
        match s, hs with
        | 0, _ => rw [E0.out]; exact hr0 0 _ (by rw [← HCE.out]; rfl)
        | 1, _ => rw [E1.out]; exact hr1 0 _ (by rw [← HCE.out]; rfl)
      have HCL : Hid (Calls Tryz.prog F caps (Ws 0) (fun e w' => e = .returned (.int .i64 (n : Int)) ∧ w' = W1)) := by show Calls _ _ _ _ _; rw [E0.out]; exact hcl
      have HRUN : Hid ((Builtin.copy_ #[54, 54] 3 #[.slice (some ⟨p, x.1 * 512, none⟩) n 512, .slice (some ⟨wr.heap.size, 1, none⟩) 512 512]).run Tryz.prog (Ws 1) = .ok (.int .i64 (n : Int)) (Ws 2)) := by show _ = _; rw [E1.out, E2.out]; exact hrun
      have S1 := Lib.hid hsp.1
      have S2 : Hid (Out (fun k => X k ∨ Y k) w W2) := ((HOO.out.trans (Out.of_below (X := X) hb0) (fun k hk => .inl (.inl hk))).trans hO1 (fun k hk => .inl (.inr hk))).trans hsp.2 (fun k hk => .inl (.inl (hk ▸ HAT.out.xp)))
      have S3 : Hid (I (m + 1) W2) := HI.out _ W1 W2 hI1 (hsp.2.mono fun k hk => .inl (hk ▸ HAT.out.xp))
      have S4 : Hid (lay kf 0 d.pages (d.row.take (m + 1)) = lay1 (lay kf 0 d.pages (d.row.take m)) x n) := by
        show _ = _
        have e : d.row.take (m + 1) = d.row.take m ++ [x] := by
          obtain ⟨hlt', hx'⟩ := List.getElem?_eq_some_iff.1 HXM.out
          rw [← List.take_append_getElem hlt', hx']
        rw [e, lay_snoc, List.length_take, Nat.min_eq_left (by omega), hn5]
      generalize hNN : wr.heap.size = N at *
      clear hPL hWr hb0 hI0 hI1 hO1 hcl hA0 hA1 hsp hwN hN0 hr0 hr1 hfz hl2 hrun hWs hW0 hW2
      refine wp_region_line (fun k => ([.pointer (some ⟨g, 0, none⟩), .pointer (some ⟨g, 0, none⟩), .pointer (some ⟨g, 0, none⟩), .slice (some ⟨p, 0, none⟩) PL PL, .pointer (some ⟨N, 0, none⟩), .int .i64 (x.1 : Int), .pointer (some ⟨p, x.1 * 512, none⟩), .func (.func F) #[] caps, .int .i64 (n : Int), .slice (some ⟨p, x.1 * 512, none⟩) n 512, .pointer (some ⟨N, 1, none⟩), .slice (some ⟨N, 1, none⟩) 512 512, .int .i64 (n : Int)] : List Value).getD k undef) [8, 12] Ws 14 (by kernel_rfl) (by kernel_rfl) (E0.out.trans HW0.out) (fun k y hk => ?_) (fun k y z hy hz => ?_) ?_ { tmps := #[.pointer (some ⟨g, 0, none⟩), .func (.func F) #[] caps, undef, undef, undef, .pointer (some ⟨N, 0, none⟩), .pointer (some ⟨g, 0, none⟩), .pointer (some ⟨g, 0, none⟩), .pointer (some ⟨g, 1, none⟩), .slice (some ⟨r, 0, none⟩) L c, .int .i64 (L : Int), .int .i64 (m : Int), .bool true, .pointer (some ⟨r, m * 513, none⟩), .agg C.toArray, .pointer (some ⟨g, 0, none⟩), .pointer (some ⟨g, 0, none⟩), .pointer (some ⟨g, 0, none⟩), .slice (some ⟨p, 0, none⟩) PL PL, .pointer (some ⟨N, 0, none⟩), .int .i64 (x.1 : Int), .pointer (some ⟨p, x.1 * 512, none⟩), .func (.func F) #[] caps, .int .i64 (n : Int), .slice (some ⟨p, x.1 * 512, none⟩) n 512, .pointer (some ⟨N, 1, none⟩), .slice (some ⟨N, 1, none⟩) 512 512, .int .i64 (n : Int), u28, undef, undef, undef], defers := [] } (by kernel_rfl) ?_
      · match k, hk with
        | 0, hk => injection hk with hk; subst hk; decide
        | 1, hk => injection hk with hk; subst hk; decide
        | _ + 2, hk => cases hk
      · match k, hy, hz with
        | 0, hy, hz => injection hy with hy; injection hz with hz; subst hy hz; show reachB _ _ _ _ = true; kernel_rfl
        | 1, _, hz => cases hz
        | _ + 2, hy, _ => cases hy
      · refine stepsL_cons ?_ (stepsL_cons ?_ (stepsL_cons ?_ (stepsL_cons ?_ (stepsL_cons ?_ (stepsL_cons ?_ (stepsL_cons ?_ (stepsL_cons ?_ (stepsL_cons ?_ (stepsL_cons ?_ (stepsL_cons ?_ (stepsL_cons ?_ (stepsL_cons ?_ (stepsL_nil)))))))))))))
        · refine step_stay (by decide) fun a s hs hd h2 h3 K hK => ?_
          have h0 : a.tmps.getD 0 undef = .pointer (some ⟨g, 0, none⟩) := hd.kept 0 (by kernel_rfl)
          unfold Oper.wp
          go_simp
          exact hK
        · refine step_stay (by decide) fun a s hs hd h2 h3 K hK => ?_
          have h15 : a.tmps.getD 15 undef = .pointer (some ⟨g, 0, none⟩) := hd.done_ 0 _ 15 (by kernel_rfl) rfl rfl
          unfold Oper.wp
          go_simp
          exact hK
        · refine step_stay (by decide) fun a s hs hd h2 h3 K hK => ?_
          have h16 : a.tmps.getD 16 undef = .pointer (some ⟨g, 0, none⟩) := hd.done_ 1 _ 16 (by kernel_rfl) rfl rfl
          unfold Oper.wp
          go_simp
          exact hK
        · refine step_stay (by decide) fun a s hs hd h2 h3 K hK => ?_
          have h17 : a.tmps.getD 17 undef = .pointer (some ⟨g, 0, none⟩) := hd.done_ 2 _ 17 (by kernel_rfl) rfl rfl
          have hc := HCG.out s (h2 1 12 rfl (by kernel_rfl))
          unfold Oper.wp
          go_simp
          exact hK
        · refine step_stay (by decide) fun a s hs hd h2 h3 K hK => ?_
          have h5 : a.tmps.getD 5 undef = .pointer (some ⟨N, 0, none⟩) := hd.kept 5 (by kernel_rfl)
          unfold Oper.wp
          go_simp
          exact hK
        · refine step_stay (by decide) fun a s hs hd h2 h3 K hK => ?_
          have h19 : a.tmps.getD 19 undef = .pointer (some ⟨N, 0, none⟩) := hd.done_ 4 _ 19 (by kernel_rfl) rfl rfl
          have hc := HCN.out s (h2 1 12 rfl (by kernel_rfl))
          unfold Oper.wp
          go_simp
          exact hK
        · refine step_stay (by decide) fun a s hs hd h2 h3 K hK => ?_
          have h18 : a.tmps.getD 18 undef = .slice (some ⟨p, 0, none⟩) PL PL := hd.done_ 3 _ 18 (by kernel_rfl) rfl rfl
          have h20 : a.tmps.getD 20 undef = .int .i64 (x.1 : Int) := hd.done_ 5 _ 20 (by kernel_rfl) rfl rfl
          have hx1 := HX1.out
          have hpm := HPM.out
          unfold Oper.wp
          go_simp
          exact hK
        · refine step_stay (by decide) fun a s hs hd h2 h3 K hK => ?_
          have h1 : a.tmps.getD 1 undef = .func (.func F) #[] caps := hd.kept 1 (by kernel_rfl)
          unfold Oper.wp
          go_simp
          exact hK
        · intro a s hs hd h1 h2 h3 K hK
          obtain rfl := h1 0 rfl
          have h22 : a.tmps.getD 22 undef = .func (.func F) #[] caps := hd.done_ 7 _ 22 (by kernel_rfl) rfl rfl
          have hk := hK 1 (fun h => absurd rfl (h 0)) (fun k hk => by have := h1 k hk; omega)
          have hcf := HCF.out
          unfold Oper.wp
          go_simp
          refine HCL.out.mono ?_
          rintro e w' ⟨rfl, rfl⟩
          rw [E1.out] at hk
          exact hk
        · refine step_stay (by decide) fun a s hs hd h2 h3 K hK => ?_
          have h21 : a.tmps.getD 21 undef = .pointer (some ⟨p, x.1 * 512, none⟩) := hd.done_ 6 _ 21 (by kernel_rfl) rfl rfl
          have h23 : a.tmps.getD 23 undef = .int .i64 (n : Int) := hd.done_ 8 _ 23 (by kernel_rfl) rfl rfl
          have hn5 := HN5.out
          have hn6 : (n : Int) ≤ 512 := by omega
          unfold Oper.wp
          go_simp
          exact hK
        · refine step_stay (by decide) fun a s hs hd h2 h3 K hK => ?_
          have h5 : a.tmps.getD 5 undef = .pointer (some ⟨N, 0, none⟩) := hd.kept 5 (by kernel_rfl)
          unfold Oper.wp
          go_simp
          exact hK
        · refine step_stay (by decide) fun a s hs hd h2 h3 K hK => ?_
          have h25 : a.tmps.getD 25 undef = .pointer (some ⟨N, 1, none⟩) := hd.done_ 10 _ 25 (by kernel_rfl) rfl rfl
          unfold Oper.wp
          go_simp
          exact hK
        · intro a s hs hd h1 h2 h3 K hK
          obtain rfl := h1 1 rfl
          have h24 : a.tmps.getD 24 undef = .slice (some ⟨p, x.1 * 512, none⟩) n 512 := hd.done_ 9 _ 24 (by kernel_rfl) rfl rfl
          have h26 : a.tmps.getD 26 undef = .slice (some ⟨N, 1, none⟩) 512 512 := hd.done_ 11 _ 26 (by kernel_rfl) rfl rfl
          have hk := hK 2 (fun h => absurd rfl (h 1)) (fun k hk => by have := h1 k hk; omega)
          have e1 : Act.eval a (.tmp 24) = .slice (some ⟨p, x.1 * 512, none⟩) n 512 := h24
          have e2 : Act.eval a (.tmp 26) = .slice (some ⟨N, 1, none⟩) 512 512 := h26
          unfold Oper.wp execOp
          simp only [resolve, invoke, builtin, Sem.run_bind, Sem.run_pure, Result.andThen_ok, List.map_toArray, List.map_cons, List.map_nil, e1, e2]
          have hru := HRUN.out
          rw [hru]
          exact hk
      · have hend : Ws [8, 12].length = W2 := E2.out
        rw [hend]
        have w1 : wrap64 ((m : Int) + 1) = (m : Int) + 1 := IntWalk.wrap64_in _ (by omega)
        go_wp2_with fail
        exact ⟨⟨m + 1, by omega, rfl, by rw [S4.out]; exact S1.out, S3.out, S2.out⟩, by simp [intOf]; omega⟩
    · obtain rfl : m = L := by omega
      obtain ⟨-, -, -, -, hfz⟩ := hat.cells
      have h1' := hat.bk.cell 1
      have HAT := Lib.hid hat.rowNone
      have HOO := Lib.hid (ho.trans (Out.setCell (X := fun k => X k ∨ Y k) wr (p := ⟨g, 1, none⟩) (.inl hat.xg) (.slice none 0 0)) (fun k hk => .inl hk))
      have HII := Lib.hid (HI.out m wr _ hi (Out.setCell (X := X) wr (p := ⟨g, 1, none⟩) hat.xg (.slice none 0 0)))
      have hlay : lay kf 0 d.pages (d.row.take m) = lay kf 0 d.pages d.row := by rw [List.take_of_length_le (by omega)]
      clear hat
      rw [hlay] at HAT
      dsimp only at h1'
      go_wp2_with fail
      go_end0
      exact ⟨rfl, ⟨p, _, _, HAT.out⟩, HOO.out, HII.out⟩
end Go.Proofs.YtiijclibcfgnpaaGreat.Disk

namespace Go.Proofs.YtiijclibcfgnpaaGreat.Disk
open Go.RowKit

structure RdI (w : World) (A : Option Addr) (n : Nat) (zs : List Int) : Prop where
  len : zs.length = n
  cells : 0 < n → ∃ ad, A = some ad ∧ ∀ j z, zs[j]? = some z → w.cell? (ad.add j) = some (.int .i64 z)
  wf : ∀ z ∈ zs, -9223372036854775808 ≤ z ∧ z ≤ 9223372036854775807
theorem RdI.nil_ (w : World) (A : Option Addr) : RdI w A 0 [] := ⟨rfl, fun h => absurd h (by omega), fun z hz => (nomatch hz)⟩
theorem RdI.out {X : Nat → Prop} {w w' : World} {A : Option Addr} {n : Nat} {b : List Int} (h : RdI w A n b) (ho : Out X w w') (hx : 0 < n → ∀ a, A = some a → ¬ X a.block) : RdI w' A n b :=
  ⟨h.len, fun hn => by
    obtain ⟨ad, e, hc⟩ := h.cells hn
    refine ⟨ad, e, fun j u hu => ?_⟩
    have h1 := hc j u hu
    rw [World.cell?_of_block (w := w) (by exact ho.block _ (World.block_lt_of_cell? w _ h1) (by rw [addr_add_block]; exact hx hn ad e))]
    exact h1, h.wf⟩
theorem RdI.lt {w : World} {A : Option Addr} {n : Nat} {b : List Int} (h : RdI w A n b) (hn : 0 < n) : ∃ a, A = some a ∧ a.block < w.heap.size := by
  obtain ⟨ad, e, hc⟩ := h.cells hn
  have hl := h.len
  have h1 := hc 0 _ (List.getElem?_eq_getElem (by omega))
  have := World.block_lt_of_cell? w _ h1
  rw [addr_add_block] at this
  exact ⟨ad, e, this⟩
theorem all_any (w : World) : Calls Tryz.prog 251 #[] w fun e w' => e = .returned (.int .i64 512) ∧ w' = w := by
  go_enter Tryz.func251, Tryz.ntmps251
  go_wp2_with fail
  go_ret
  exact ⟨rfl, rfl⟩
theorem all_enter (caps : Array Value) (W : World) : (callFunc 251 caps).run Tryz.prog W = .ok (.enter 251 caps) W := by kernel_rfl
theorem take_enter (caps : Array Value) (W : World) : (callFunc 128 caps).run Tryz.prog W = .ok (.enter 128 caps) W := by kernel_rfl
theorem rem_no (z : Int) (h : ¬ z.tmod 513 < 0) : z.tmod 513 = ((z % 513).toNat : Int) := by
  have h1 := Int.emod_nonneg z (b := 513) (by decide)
  rcases Int.lt_or_le z 0 with hz | hz
  · have h2 : z.tmod 513 = -((-z).tmod 513) := by rw [Int.neg_tmod, Int.neg_neg]
    have h3 := Int.tmod_eq_emod_of_nonneg (a := -z) (b := 513) (by omega)
    omega
  · have h3 := Int.tmod_eq_emod_of_nonneg (a := z) (b := 513) hz
    omega
theorem rem_yes (z : Int) (h : z.tmod 513 < 0) : z.tmod 513 + 513 = ((z % 513).toNat : Int) := by
  have h1 := Int.emod_nonneg z (b := 513) (by decide)
  rcases Int.lt_or_le z 0 with hz | hz
  · have h2 : z.tmod 513 = -((-z).tmod 513) := by rw [Int.neg_tmod, Int.neg_neg]
    have h3 := Int.tmod_eq_emod_of_nonneg (a := -z) (b := 513) (by omega)
    omega
  · have h3 := Int.tmod_eq_emod_of_nonneg (a := z) (b := 513) hz
    omega
theorem rem_range (z : Int) : -512 ≤ z.tmod 513 ∧ z.tmod 513 ≤ 512 := by
  rcases Int.lt_or_le z 0 with hz | hz
  · have h2 : z.tmod 513 = -((-z).tmod 513) := by rw [Int.neg_tmod, Int.neg_neg]
    have h3 := Int.tmod_eq_emod_of_nonneg (a := -z) (b := 513) (by omega)
    omega
  · have h3 := Int.tmod_eq_emod_of_nonneg (a := z) (b := 513) hz
    omega
def TkAt (nx ft : Nat) (A : Option Addr) (n c : Nat) (zs : List Int) (m : Nat) (W : World) : Prop :=
  Bk W nx 3 #[.int .i64 ((min m n : Nat) : Int)] ∧ Bk W ft 112 #[.slice A n c] ∧ RdI W A n zs
set_option maxRecDepth 100000 in
theorem take_any (nx ft : Nat) (A : Option Addr) (n c : Nat) (zs : List Int) (hne : nx ≠ ft) (hA : 0 < n → ∀ a, A = some a → a.block ≠ nx) (hn : n ≤ 1000000) (m : Nat) (W : World) (h : TkAt nx ft A n c zs m W) :
    ∃ W', TkAt nx ft A n c zs (m + 1) W' ∧ Out (· = nx) W W' ∧ Calls Tryz.prog 128 #[.pointer (some ⟨nx, 0, none⟩), .pointer (some ⟨ft, 0, none⟩)] W (fun e w' => e = .returned (.int .i64 (takes zs m : Int)) ∧ w' = W') := by
  obtain ⟨h1, h2, h3⟩ := h
  have c1 := h1.cell 0
  have c2 := h2.cell 0
  have f1 := h1.frozen 0
  have hl := h3.len
  by_cases hm : m < n
  · have hmin : min m n = m := by omega
    have hmin2 : min (m + 1) n = m + 1 := by omega
    have ho := Out.setCell (X := (· = nx)) W (p := ⟨nx, 0, none⟩) rfl (.int .i64 ((m + 1 : Nat) : Int))
    refine ⟨W.setCell ⟨nx, 0, none⟩ (.int .i64 ((m + 1 : Nat) : Int)), ⟨by rw [hmin2]; exact h1.set 0 _, h2.kept (ho.block ft h2.lt (fun e => hne e.symm)), h3.out ho hA⟩, ho, ?_⟩
    obtain ⟨ad, rfl, hc⟩ := h3.cells (by omega)
    have hcell := hc m _ (List.getElem?_eq_getElem (by omega))
    have hz : takes zs m = (zs[m] % 513).toNat := by unfold takes; rw [List.getElem?_eq_getElem (by omega)]
    have hrr := rem_range zs[m]
    have hno := rem_no zs[m]
    have hyes := rem_yes zs[m]
    rw [hz]
    have hadn := hA (by omega) ad rfl
    have hwf := h3.wf zs[m] (List.getElem_mem (by omega))
    rw [hmin] at c1
    generalize zs[m] = z at *
    have hcell2 : (W.setCell ⟨nx, 0, none⟩ (.int .i64 ((m : Int) + 1))).cell? ⟨nx, 0, none⟩ = some (.int .i64 ((m : Int) + 1)) := World.cell?_setCell_same _ _ _ c1
    have w1 : wrap64 ((m : Int) + 1) = (m : Int) + 1 := IntWalk.wrap64_in _ (by omega)
    have w2 : wrap64 (z.tmod 513) = z.tmod 513 := IntWalk.wrap64_in _ (by omega)
    have w3 : wrap64 (z.tmod 513 + 513) = z.tmod 513 + 513 := IntWalk.wrap64_in _ (by omega)
    by_cases hneg : z.tmod 513 < 0
    · have e := hyes hneg
      rw [← e]
      clear h1 h2 h3 hz hyes hno e hc ho hwf
      go_enter Tryz.func128, Tryz.ntmps128
      go_wp2_with fail
      go_ret
      exact ⟨rfl, rfl⟩
    · have e := hno hneg
      rw [← e]
      clear h1 h2 h3 hz hyes hno e hc ho hwf
      go_enter Tryz.func128, Tryz.ntmps128
      go_wp2_with fail
      go_ret
      exact ⟨rfl, rfl⟩
  · have hmin : min m n = n := by omega
    have hmin2 : min (m + 1) n = n := by omega
    refine ⟨W, ⟨by rw [hmin2]; rw [hmin] at h1; exact h1, h2, h3⟩, Out.refl _ _, ?_⟩
    have hz : takes zs m = 0 := by unfold takes; rw [List.getElem?_eq_none (by omega)]
    rw [hz]
    rw [hmin] at c1
    clear h1 h2 h3 hz
    go_enter Tryz.func128, Tryz.ntmps128
    go_wp2_with fail
    go_ret
    exact ⟨rfl, rfl⟩
def TakerPost (A : Option Addr) (n c : Nat) (zs : List Int) (w : World) (e : Ending) (w' : World) : Prop :=
  ∃ nx ft, e = .returned (.func (.func 128) #[] #[.pointer (some ⟨nx, 0, none⟩), .pointer (some ⟨ft, 0, none⟩)]) ∧ nx ≠ ft ∧ w.heap.size ≤ nx ∧ w.heap.size ≤ ft ∧ TkAt nx ft A n c zs 0 w' ∧ Below w.heap.size w w'
theorem RdI.below {w w' : World} {A : Option Addr} {n : Nat} {b : List Int} (h : RdI w A n b) (hb : Below w.heap.size w w') : RdI w' A n b := h.out (X := fun _ => False) (Out.of_below hb) (fun _ _ _ h => h)
theorem taker_any (A : Option Addr) (n c : Nat) (zs : List Int) (w : World) (h : RdI w A n zs) : Calls Tryz.prog 79 #[.slice A n c] w (TakerPost A n c zs w) := by
  have hmf : ∀ (fn : Fn) (first cap : Array Value) (w : World), (Instr.makeFunc fn first cap).run Tryz.prog w = .ok (.func fn first cap) w := fun _ _ _ _ => rfl
  have hb : Below w.heap.size w ((w.alloc (.cells #[.slice A n c] 112)).alloc (.cells #[.int .i64 0] 3)) := ((Below.refl _ _).alloc (Nat.le_refl _) _).alloc (by simp) _
  have hs : (w.alloc (.cells #[.slice A n c] 112)).heap.size = w.heap.size + 1 := size_new _ _
  have k1 := (Bk.new w 112 #[.slice A n c]).alloc (.cells #[.int .i64 0] 3)
  have k2 := Bk.new (w.alloc (.cells #[.slice A n c] 112)) 3 #[.int .i64 0]
  rw [hs] at k2
  have HP : Hid (TakerPost A n c zs w (.returned (.func (.func 128) #[] #[.pointer (some ⟨w.heap.size + 1, 0, none⟩), .pointer (some ⟨w.heap.size, 0, none⟩)])) ((w.alloc (.cells #[.slice A n c] 112)).alloc (.cells #[.int .i64 0] 3))) :=
    ⟨_, _, rfl, by omega, by omega, Nat.le_refl _, ⟨by rw [Nat.zero_min]; exact k2, k1, h.below hb⟩, hb⟩
  clear hb hs k1 k2 h
  go_enter Tryz.func79, Tryz.ntmps79
  go_wp2_with fail
  go_ret
  exact HP.out
theorem sync_any {w : World} {X : Nat → Prop} {g : Nat} {d : DK} (h : DkAt w X g d) (hn : d.row.length ≤ 1000000) : Calls Tryz.prog 227 #[.pointer (some ⟨g, 0, none⟩)] w (Turns (.int .i64 d.sync.1) X g d.sync.2 w) := by
  have cf := fault_any h
  obtain ⟨RES, hres⟩ : ∃ RES, RES = d.sync := ⟨_, rfl⟩
  rw [← hres]
  unfold DK.sync at hres
  unfold DK.fault at cf
  by_cases h1 : d.dead = true
  · rw [if_pos h1] at hres cf
    subst hres
    have H := Lib.hid h
    clear h h1
    go_enter Tryz.func227, Tryz.ntmps227
    go_wp2_with fail
    refine cf.mono ?_
    rintro e w1 ⟨rfl, rfl⟩
    go_wp2_with fail
    go_ret
    exact ⟨rfl, X, H.out, Out.refl X w, fun k hk => .inl hk⟩
  · rw [if_neg h1] at hres cf
    have cb := burn_any h
    by_cases h3 : d.burn.1 ≠ 0
    · rw [if_pos h3] at hres
      subst hres
      generalize d.burn = z at *
      obtain ⟨z1, z2⟩ := z
      have h3 : z1 ≠ 0 := h3
      dsimp only at cb ⊢
      clear h h1
      go_enter Tryz.func227, Tryz.ntmps227
      go_wp2_with fail
      refine cf.mono ?_
      rintro e w1 ⟨rfl, rfl⟩
      go_wp2_with fail
      refine cb.mono ?_
      rintro e w1 ⟨rfl, X1, hd1, ho1, hx1⟩
      have HD := Lib.hid hd1
      have HO := Lib.hid ho1
      have HX := Lib.hid hx1
      clear hd1 ho1 hx1 cb cf
      go_wp2_with fail
      go_ret
      exact ⟨rfl, X1, HD.out, HO.out, HX.out⟩
    · rw [if_neg h3] at hres
      have h3 : d.burn.1 = 0 := by simpa using h3
      rw [h3] at cb
      have HRES := Lib.hid hres
      have HR := Lib.hid (burn_row d)
      have HP := Lib.hid (burn_pages d)
      generalize d.burn.2 = d2 at *
      have HN : Hid (d2.row.length ≤ 1000000) := by show _ ≤ _; rw [HR.out]; exact hn
      clear h h1 h3 hn hres
      go_enter Tryz.func227, Tryz.ntmps227
      go_wp2_with fail
      refine cf.mono ?_
      rintro e w1 ⟨rfl, rfl⟩
      go_wp2_with fail
      refine cb.mono ?_
      rintro e w1 ⟨rfl, X1, hd1, ho1, hx1⟩
      have HO := Lib.hid ho1
      have HX := Lib.hid hx1
      have cs := settle_any 251 #[] (fun _ => 512) (fun _ _ => True) (fun _ => False) hd1 HN.out (all_enter #[]) (fun _ => Nat.le_refl _) (fun _ _ h => h) (fun _ h => h.elim) (fun _ _ _ _ _ => trivial) trivial (fun m W _ => ⟨W, trivial, Out.refl _ _, all_any W⟩)
      clear hd1 ho1 hx1 cb cf
      go_wp2_with fail
      refine cs.mono ?_
      rintro e w2 ⟨rfl, hd2, ho2, -⟩
      have HD2 := Lib.hid hd2
      have HO2 := Lib.hid ho2
      clear hd2 ho2 cs
      go_wp2_with fail
      go_ret
      exact ⟨by rw [HRES.out]; rfl, X1, by rw [HRES.out, ← HP.out, ← HR.out]; exact HD2.out, HO.out.trans HO2.out (fun k hk => hk.elim (HX.out k) False.elim), HX.out⟩
set_option maxRecDepth 100000 in
theorem restart_any {w : World} {X : Nat → Prop} {g : Nat} {d : DK} (h : DkAt w X g d) (A : Option Addr) (n c : Nat) (zs : List Int) (hr : RdI w A n zs) (hx : 0 < n → ∀ a, A = some a → ¬ X a.block) (hnz : n ≤ 1000000) (hn : d.row.length ≤ 1000000) :
    Calls Tryz.prog 35 #[.pointer (some ⟨g, 0, none⟩), .slice A n c] w (Done X g (d.restart zs) w) := by
  have ct := taker_any A n c zs w hr
  have H := Lib.hid h
  have HR := Lib.hid hr
  have HX := Lib.hid hx
  clear h hr hx
  go_enter Tryz.func35, Tryz.ntmps35
  go_wp2_with fail
  refine ct.mono ?_
  rintro e w1 ⟨nx, ft, rfl, hne, hnx, hft, htk, hb⟩
  have HB := Lib.hid hb
  have hxl : ∀ k, X k → k < w.heap.size := by
    obtain ⟨_, _, _, h⟩ := H.out
    exact h.lt
  have hAl : ∀ a, A = some a → 0 < n → a.block < w.heap.size := fun a ha hn0 => by
    obtain ⟨a', e, hl⟩ := HR.out.lt hn0
    rw [ha] at e
    injection e with e
    exact e ▸ hl
  have cs := settle_any 128 #[.pointer (some ⟨nx, 0, none⟩), .pointer (some ⟨ft, 0, none⟩)] (takes zs) (TkAt nx ft A n c zs) (· = nx) (H.out.below hb) hn (take_enter _) (takes_le zs) (fun k hk e => by have := hxl k hk; omega) (fun k e => by subst e; exact htk.1.lt)
    (fun m W W' h ho => ⟨h.1.kept (ho.block _ h.1.lt (fun hX => by have := hxl _ hX; omega)), h.2.1.kept (ho.block _ h.2.1.lt (fun hX => by have := hxl _ hX; omega)), h.2.2.out ho HX.out⟩) htk
    (fun m W h => take_any nx ft A n c zs hne (fun hA0 a ha => by have := hAl a ha hA0; omega) hnz m W h)
  clear htk hb ct hAl
  go_wp2_with fail
  refine cs.mono ?_
  rintro e w2 ⟨rfl, ⟨p2, A2, c2, hd2⟩, ho2, -⟩
  have HO : Hid (Out X w w2) := (Out.of_below HB.out).trans ho2 (fun k hk => hk.elim .inl (fun e => .inr (by omega)))
  have h2 := hd2.deadTo false
  have h3 := h2.left (-1) (by omega) (by omega)
  have HD := Lib.hid h3
  have HX3 := Lib.hid hd2.xg
  have hxg := hd2.xg
  obtain ⟨-, -, k2, k3, kf⟩ := hd2.cells
  obtain ⟨-, -, -, k3', kf'⟩ := h2.cells
  clear cs hd2 ho2 h2 h3
  go_wp2_with fail
  go_end0
  exact ⟨rfl, X, ⟨p2, _, _, HD.out⟩, (HO.out.trans (Out.setCell (X := X) w2 (p := ⟨g, 2, none⟩) hxg (.bool false)) (fun k hk => .inl hk)).trans (Out.setCell (X := X) _ (p := ⟨g, 3, none⟩) hxg (.int .i64 (-1))) (fun k hk => .inl hk), fun k hk => .inl hk⟩
set_option maxRecDepth 100000 in
theorem ty_pages : Tryz.prog.underlying 93 = some (.slice 187) := by kernel_rfl
set_option maxRecDepth 100000 in
theorem info_page : (Tryz.prog.info? 187).map (fun i => (i.zero, i.size, i.bytes)) = some (some (.agg (zeros.map U).toArray), 512, 512) := by rw [zeros_U]; kernel_rfl
def NewPost (n : Nat) (w : World) (e : Ending) (w' : World) : Prop :=
  ∃ g X, e = .returned (.tuple #[.pointer (some ⟨g, 0, none⟩), .int .i64 0]) ∧ DkAt w' X g (DK.new n) ∧ (∀ k, X k → w.heap.size ≤ k) ∧ Below w.heap.size w w'
set_option maxRecDepth 100000 in
theorem get_bang (A : Array Value) (i : Nat) (v : Value) (h : A[i]? = some v) : A[i]! = v := by
  rw [getElem!_def, h]
set_option maxRecDepth 100000 in
theorem made_get (n j : Nat) (hj : j < n * 512) : (madeCells (zeros.map U).toArray (n * 512))[j]? = some (U 0) := by
  have e : (zeros.map U) = List.replicate 512 (U 0) := by unfold zeros; rw [List.map_replicate]
  have hs : (zeros.map U).toArray.size = 512 := by simp [zeros_length]
  generalize zeros.map U = Zs at *
  have h2 : Zs.toArray[j % Zs.toArray.size]? = some (U 0) := by
    rw [List.getElem?_toArray, hs, e, List.getElem?_replicate, if_pos (Nat.mod_lt _ (by decide))]
  unfold madeCells
  rw [Array.getElem?_map, Array.getElem?_range, if_pos hj, Option.map_some, get_bang _ _ _ h2]
set_option maxRecDepth 100000 in
theorem Pg.new {w : World} {p n : Nat} (h : Bk w p 187 (madeCells (zeros.map U).toArray (n * 512))) : Pg w p (DK.new n).pages := by
  have hl : (DK.new n).pages.length = n := List.length_replicate
  refine ⟨⟨_, h, by rw [size_madeCells, hl]⟩, fun k b hk j v hv => ?_⟩
  have hkn : k < n := by have := (List.getElem?_eq_some_iff.1 hk).1; rwa [hl] at this
  have hb : b = List.replicate 512 0 := (List.mem_replicate.1 (List.mem_of_getElem? hk)).2
  subst hb
  rw [List.map_replicate] at hv
  have hj : j < 512 := by have := (List.getElem?_eq_some_iff.1 hv).1; rwa [List.length_replicate] at this
  rw [List.getElem?_replicate, if_pos hj] at hv
  injection hv with hv
  subst hv
  rw [h.cell, made_get n (k * 512 + j) (by omega)]
set_option maxRecDepth 100000 in
theorem new_yes (n : Nat) (w : World) (h1 : 1 ≤ n) (h2 : n ≤ 4096) : Calls Tryz.prog 12 #[.int .i64 (n : Int)] w (NewPost n w) := by
  obtain ⟨i0, hi0, hi1, hi2, hi3⟩ := info_three info_page
  have hmk := run_make (P := Tryz.prog) w 93 187 i0 _ ty_pages hi0 hi1 .i64 .i64 n n (by omega) (Int.le_refl _) (by rw [hi3]; omega) (by omega)
  rw [Int.toNat_natCast, hi2] at hmk
  have hvc : (Value.agg (zeros.map U).toArray).cells = (zeros.map U).toArray := rfl
  rw [hvc] at hmk
  have hs : (w.alloc (.cells (madeCells (zeros.map U).toArray (n * 512)) 187)).heap.size = w.heap.size + 1 := size_new _ _
  have hb : Below w.heap.size w ((w.alloc (.cells (madeCells (zeros.map U).toArray (n * 512)) 187)).alloc (.cells #[.slice (some ⟨w.heap.size, 0, none⟩) n n, .slice none 0 0, .bool false, .int .i64 (-1)] 96)) := ((Below.refl _ _).alloc (Nat.le_refl _) _).alloc (by rw [hs]; omega) _
  have k1 := (Bk.new w 187 (madeCells (zeros.map U).toArray (n * 512))).alloc (.cells #[.slice (some ⟨w.heap.size, 0, none⟩) n n, .slice none 0 0, .bool false, .int .i64 (-1)] 96)
  have k2 := Bk.new (w.alloc (.cells (madeCells (zeros.map U).toArray (n * 512)) 187)) 96 #[.slice (some ⟨w.heap.size, 0, none⟩) n n, .slice none 0 0, .bool false, .int .i64 (-1)]
  rw [hs] at k2
  have hl : (DK.new n).pages.length = n := List.length_replicate
  have HP : Hid (NewPost n w (.returned (.tuple #[.pointer (some ⟨w.heap.size + 1, 0, none⟩), .int .i64 0])) ((w.alloc (.cells (madeCells (zeros.map U).toArray (n * 512)) 187)).alloc (.cells #[.slice (some ⟨w.heap.size, 0, none⟩) n n, .slice none 0 0, .bool false, .int .i64 (-1)] 96))) :=
    ⟨w.heap.size + 1, fun k => k = w.heap.size ∨ k = w.heap.size + 1, rfl, ⟨w.heap.size, none, 0, ⟨by rw [hl]; exact k2, Pg.new k1, World.ownsRow_nil _ _ _ _, .inr rfl, .inl rfl, fun a ha => (nomatch ha), by omega, Ok.new h1 h2, fun k hk => by have := k2.lt; omega⟩⟩, fun k hk => by omega, hb⟩
  clear hs hb k1 k2 hl hi0 hi1 hi2 hi3 hvc
  generalize madeCells (zeros.map U).toArray (n * 512) = M at *
  go_enter Tryz.func12, Tryz.ntmps12
  go_wp2_with fail
  go_ret2
  exact HP.out
end Go.Proofs.YtiijclibcfgnpaaGreat.Disk

namespace Go.Proofs.YtiijclibcfgnpaaGreat.Disk
open Go.RowKit

structure St (w0 w : World) (X : Nat → Prop) (g : Nat) (d : DK) : Prop where
  at_ : DkAt w X g d
  below : Below w0.heap.size w0 w
  own : ∀ k, X k → w0.heap.size ≤ k
theorem DkAt.lt {w : World} {X : Nat → Prop} {g : Nat} {d : DK} (h : DkAt w X g d) : ∀ k, X k → k < w.heap.size := by
  obtain ⟨_, _, _, h⟩ := h
  exact h.lt
theorem St.below_ {w0 w w' : World} {X : Nat → Prop} {g : Nat} {d : DK} (h : St w0 w X g d) (hb : Below w.heap.size w w') : St w0 w' X g d :=
  ⟨h.at_.below hb, h.below.trans (hb.mono h.below.size), h.own⟩
theorem St.of {w0 w w' : World} {X X' : Nat → Prop} {g : Nat} {d d' : DK} (h : St w0 w X g d) (h1 : DkAt w' X' g d') (ho : Out X w w') (hx : ∀ k, X' k → X k ∨ w.heap.size ≤ k) : St w0 w' X' g d' :=
  ⟨h1, ho.below h.below h.own h.below.size, fun k hk => (hx k hk).elim (h.own k) (fun h2 => Nat.le_trans h.below.size h2)⟩
def ToPost (v : Value) (w0 : World) (X : Nat → Prop) (g : Nat) (d' : DK) (w : World) (e : Ending) (w' : World) : Prop :=
  e = .returned v ∧ ∃ X', St w0 w' X' g d' ∧ Out X w w' ∧ ∀ k, X' k → X k ∨ w.heap.size ≤ k
theorem restart_st {w0 w : World} {X : Nat → Prop} {g : Nat} {d : DK} (h : St w0 w X g d) (A : Option Addr) (n c : Nat) (zs : List Int) (hr : RdI w A n zs) (hx : 0 < n → ∀ a, A = some a → ¬ X a.block) (hnz : n ≤ 1000000) (hn : d.row.length ≤ 1000000) :
    Calls Tryz.prog 35 #[.pointer (some ⟨g, 0, none⟩), .slice A n c] w (ToPost (.tuple #[]) w0 X g (d.restart zs) w) :=
  (restart_any h.at_ A n c zs hr hx hnz hn).mono fun _ _ ⟨e, X', h1, h2, h3⟩ => ⟨e, X', h.of h1 h2 h3, h2, h3⟩
def NewSt (n : Nat) (w0 w : World) (e : Ending) (w' : World) : Prop :=
  ∃ g X, e = .returned (.tuple #[.pointer (some ⟨g, 0, none⟩), .int .i64 0]) ∧ St w0 w' X g (DK.new n) ∧ (∀ k, X k → w.heap.size ≤ k) ∧ Below w.heap.size w w'
theorem new_st (n : Nat) (w0 w : World) (h1 : 1 ≤ n) (h2 : n ≤ 4096) (hb : Below w0.heap.size w0 w) : Calls Tryz.prog 12 #[.int .i64 (n : Int)] w (NewSt n w0 w) :=
  (new_yes n w h1 h2).mono fun _ _ ⟨g, X, e, h3, h4, h5⟩ => ⟨g, X, e, ⟨h3, hb.trans (h5.mono hb.size), fun k hk => Nat.le_trans hb.size (h4 k hk)⟩, h4, h5⟩
theorem page_cell {w : World} {h : Nat} {b : List UInt8} {t : TypeId} (hk : Bk w h t (b.map U).toArray) {i : Nat} {x : UInt8} (hx : b[i]? = some x) : w.cell? ⟨h, i, none⟩ = some (U x) := by
  rw [hk.cell]
  simp [hx]
theorem page_rd {w : World} {h : Nat} {b : List UInt8} {t : TypeId} (hk : Bk w h t (b.map U).toArray) {n : Nat} (hn : b.length = n) : Rd w (some ⟨h, 0, none⟩) n b :=
  ⟨hn, fun _ => ⟨_, rfl, fun j x hx => by
    have hadd : ((⟨h, 0, none⟩ : Addr).add j) = ⟨h, j, none⟩ := by unfold Addr.add; split <;> simp_all
    rw [hadd]
    exact page_cell hk hx⟩⟩
end Go.Proofs.YtiijclibcfgnpaaGreat.Disk

namespace Go.Proofs.YtiijclibcfgnpaaGreat.Crc
open Go.RowKit

def ad (s k : Nat) : Nat → Bool := fun i => if i < k then ((s / 2).testBit i ^^ poly.testBit i) else (s / 2).testBit i

def mix (s b k : Nat) : Nat → Bool := fun i => if i < k then (s.testBit i ^^ b.testBit i) else s.testBit i
theorem run_snoc (s : Nat) (bs : List UInt8) (b : UInt8) : run s (bs ++ [b]) = byteS (run s bs) b.toNat := by simp [run]
theorem steps_snoc (k s : Nat) : steps (k + 1) s = step (steps k s) := by rw [steps_add k 1 s]; rfl
end Go.Proofs.YtiijclibcfgnpaaGreat.Crc

namespace Go.Proofs.YtiijclibcfgnpaaGreat.Crc
open Go.RowKit

theorem step_yes (s : Nat) (h1 : s % 2 = 1) (hs : s < 2 ^ 64) : bits .xor .u64 ((s : Int) / 2) 14514072000185962306 = (step s : Int) := by
  have h := u64_xor_nat (s / 2) poly (by omega) (by decide)
  have e1 : ((s / 2 : Nat) : Int) = (s : Int) / 2 := by omega
  have e2 : ((poly : Nat) : Int) = 14514072000185962306 := rfl
  rw [e1, e2] at h
  rw [h]
  unfold step
  rw [if_pos h1]
theorem step_no (s : Nat) (h1 : ¬ s % 2 = 1) : (s : Int) / 2 = (step s : Int) := by
  unfold step
  rw [if_neg h1]
  omega
theorem low_bit (s : Nat) (hs : s < 2 ^ 64) : bits .and .u64 (s : Int) 1 = ((s % 2 : Nat) : Int) := by
  have h := u64_and_nat s 1 (by omega) (by omega)
  have e : ((1 : Nat) : Int) = 1 := rfl
  rw [e] at h
  rw [h, Nat.and_one_is_mod]

theorem not_all (s : Nat) (hs : s < 2 ^ 64) : bits .xor .u64 IntKind.u64.max (s : Int) = ((s ^^^ ones : Nat) : Int) := by
  have h := u64_xor_nat ones s (by decide) (by omega)
  have e : ((ones : Nat) : Int) = IntKind.u64.max := by decide
  rw [e] at h
  rw [h, Nat.xor_comm]

set_option maxHeartbeats 1000000 in
theorem shift_same (x : Nat) (w : World) (HX : Hid (x < 2 ^ 64)) :
    Calls Tryz.prog 253 #[.int .u64 (x : Int)] w fun e w' => e = .returned (.int .u64 (steps 8 x : Int)) ∧ w = w' := by
  go_enter Tryz.func253, Tryz.ntmps253
  go_wp2_with fail
  go_loop [0, 3, 4] (fun v _ i => ∃ m : Nat, m ≤ 8 ∧ i = .int .i64 (m : Int) ∧ v = .int .u64 (steps m x : Int)) (fun _ _ i => 8 - (intOf i).toNat)
  case atStart => exact ⟨0, by omega, rfl, rfl⟩
  case round =>
    obtain ⟨m, hm, rfl, rfl⟩ := hrel
    have HT := Lib.hid (steps_lt m _ HX.out)
    have HSn := Lib.hid (steps_snoc m x)
    have HLast : Hid (m = 8 → steps m x = steps 8 x) := by rintro rfl; rfl
    generalize steps m x = y at *
    by_cases hlt3 : m < 8
    · have hl := low_bit y HT.out
      by_cases hod : y % 2 = 1
      · rw [hod] at hl
        have hst := step_yes y hod HT.out
        clear hod
        go_wp2_with fail
        exact ⟨⟨m + 1, by omega, rfl, by rw [HSn.out]⟩, by simp [intOf]; omega⟩
      · have hz : y % 2 = 0 := by omega
        rw [hz] at hl
        have HST := Lib.hid (step_no y hod)
        clear hod hz
        go_wp2_with fail
        exact ⟨⟨m + 1, by omega, rfl, by rw [HSn.out, ← HST.out]⟩, by simp [intOf]; omega⟩
    · obtain rfl : m = 8 := by omega
      go_wp2_with fail
      go_ret
      exact ⟨congrArg (fun z : Nat => Ending.returned (.int .u64 (z : Int))) (HLast.out trivial), rfl⟩

set_option maxHeartbeats 1000000 in
theorem Sum_same (A : Option Addr) (n c : Nat) (bs : List UInt8) (w : World) (h : Rd w A n bs) (hn : n ≤ 1000000) :
    Calls Tryz.prog 236 #[.slice A n c] w fun e w' => e = .returned (.int .u64 (sum bs : Int)) ∧ w = w' := by
  have H := Lib.hid h
  clear h
  go_enter Tryz.func236, Tryz.ntmps236
  go_wp2_with fail
  go_loop [3, 5, 8] (fun v _ i => ∃ k : Nat, k ≤ n ∧ i = .int .i64 (k : Int) ∧ v = .int .u64 (run ones (bs.take k) : Int)) (fun _ _ i => n - (intOf i).toNat)
  case atStart => exact ⟨0, by omega, rfl, rfl⟩
  case round =>
    obtain ⟨k, hk, rfl, rfl⟩ := hrel
    by_cases hlt : k < n
    · obtain ⟨ad0, rfl, hc⟩ := H.out.cells (by omega)
      have hkl : k < bs.length := by rw [H.out.len]; exact hlt
      have hcell := hc k _ (List.getElem?_eq_getElem hkl)
      unfold U at hcell
      clear hc
      have hbv := (bs[k]).toNat_lt
      have HN : Hid (run ones (bs.take (k + 1)) = steps 8 ((run ones (bs.take k)) ^^^ (bs[k]).toNat)) := by
        show _ = _
        rw [← List.take_append_getElem hkl, run_snoc]
        rfl
      have HS : Hid (run ones (bs.take k) < 2 ^ 64) := run_lt _ _ ones_lt
      generalize run ones (bs.take k) = s at *
      generalize (bs[k]) = bb at *
      have HX : Hid (s ^^^ bb.toNat < 2 ^ 64) := Nat.xor_lt_two_pow HS.out (Nat.lt_of_lt_of_le hbv (by decide))
      have hxx : bits .xor .u64 (s : Int) (bb.toNat : Int) = ((s ^^^ bb.toNat : Nat) : Int) := u64_xor_nat s bb.toNat HS.out (Nat.lt_of_lt_of_le hbv (by decide))
      go_wp2_with fail
      refine (shift_same _ _ HX).mono ?_
      rintro _ _ ⟨rfl, rfl⟩
      go_wp2_with fail
      exact ⟨⟨k + 1, by omega, rfl, by rw [HN.out]⟩, by simp [intOf]; omega⟩
    · obtain rfl : k = n := by omega
      have HL : Hid (bs.take k = bs) := List.take_of_length_le (by rw [H.out.len]; omega)
      have HS : Hid (run ones bs < 2 ^ 64) := run_lt _ _ ones_lt
      rw [HL.out]
      go_wp2_with fail
      go_ret
      exact ⟨congrArg (fun z => Ending.returned (.int .u64 z)) (not_all _ HS.out), rfl⟩

theorem Sum_any (A : Option Addr) (n c : Nat) (bs : List UInt8) (w : World) (h : Rd w A n bs) (hn : n ≤ 1000000) :
    Calls Tryz.prog 236 #[.slice A n c] w fun e w' => e = .returned (.int .u64 (sum bs : Int)) ∧ Below w.heap.size w w' :=
  (Sum_same A n c bs w h hn).mono fun _ _ ⟨he, hw⟩ => ⟨he, hw ▸ Below.refl _ _⟩
end Go.Proofs.YtiijclibcfgnpaaGreat.Crc
