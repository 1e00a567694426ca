/- The document's own disk: Sync, Restart. -/
import Derived.Test.YtjfoihbcieffdaaRDiskRef3
namespace Go.Proofs.YtjfoihbcieffdaaR.Disk
open Go.RowKit Phase

theorem RAt.rowNone {w : World} {X : Nat → Prop} {g p cp : Nat} {A : Option Addr} {c : Nat} {d : DK} (h : RAt w X g p cp A c d) : RAt (w.setCell ⟨g, 1, none⟩ (.slice none 0 0)) X g p cp none 0 { d with row := [] } := by
  have ho := Out.setCell (X := (· = g)) w (p := ⟨g, 1, none⟩) rfl (.slice none 0 0)
  refine ⟨h.bk.set 1 _, own_kept h.pgs (fun a ha hl => ho.block _ hl (fun e => by injection ha with ha; subst ha; exact h.ne e.symm)), World.ownsRow_nil _ _ _ _, h.xg, h.xp, fun a ha => (nomatch ha), h.ne, h.ok.set rfl h.ok.pages (fun x hx => (nomatch hx)) h.ok.low h.ok.high, fun k hk => Nat.lt_of_lt_of_le (h.lt k hk) ho.size⟩
theorem lay1_whole {ps : List (List UInt8)} (hp : OkP ps) {x : Nat × List UInt8} (hx : x.1 < ps.length) (hb : x.2.length = 512) : lay1 ps x 512 = ps.set x.1 x.2 := by
  unfold lay1
  rw [List.take_of_length_le (by omega), List.drop_eq_nil_of_le (by rw [hp.get hx]; exact Nat.le_refl _), List.append_nil]
def RelRY (X : Nat → Prop) (g p cp : Nat) (A : Option Addr) (c : Nat) (d : DK) (kf : Nat → Nat) (w : World) (i : Value) (wr : World) : Prop :=
  ∃ m : Nat, m ≤ d.row.length ∧ i = .int .i64 (m : Int) ∧ RAt wr X g p cp A c { d with pages := lay kf 0 d.pages (d.row.take m) } ∧ Out X w wr
set_option maxRecDepth 100000 in
set_option maxHeartbeats 2000000 in
theorem rsync_any {w : World} {X : Nat → Prop} {g : Nat} {d : DK} (h : RkAt w X g d) (hn : d.row.length ≤ 1000000) :
    Calls Try.prog 26 #[.pointer (some ⟨g, 0, none⟩)] w (RTurns (.int .i64 d.sync.1) X g d.sync.2 w) := by
  have hS := Lib.hid h
  have hRk := h
  obtain ⟨p, cp, A, c, h⟩ := h
  obtain ⟨h0, h1, -, h3, -⟩ := h.cells
  obtain ⟨RES, hres⟩ : ∃ RES, RES = d.sync := ⟨_, rfl⟩
  rw [← hres]
  unfold DK.sync at hres
  by_cases hd : d.dead = true
  · rw [if_pos hd] at hres
    rw [hd] at h3
    subst hres
    clear h hd hRk
    go_enter Try.func26, Try.ntmps26
    go_wp2_with fail
    go_ret
    exact ⟨rfl, X, hS.out, Out.refl X w, fun k hk => .inl hk⟩
  · rw [if_neg hd] at hres
    have hd2 : d.dead = false := by simpa using hd
    rw [hd2] at h3
    have cb := counts_any hRk
    by_cases hb1 : d.burn.1 ≠ 0
    · rw [if_pos hb1] at hres
      have hbd : decide (d.burn.1 = 0) = false := decide_eq_false hb1
      have hb9 : d.burn.1 = 9 := by
        unfold DK.burn at hb1 ⊢
        split
        · rfl
        · next hl => rw [if_neg hl] at hb1; split at hb1 <;> exact absurd rfl hb1
      rw [hbd] at cb
      have HRES := Lib.hid hres
      have HB9 := Lib.hid hb9
      clear h hd hd2 hRk hb1 hres hbd hb9
      go_enter Try.func26, Try.ntmps26
      go_wp2_with fail
      refine cb.mono ?_
      clear cb
      rintro e w1 ⟨rfl, X1, hs, ho, hx⟩
      have HS1 := Lib.hid hs
      have HO1 := Lib.hid ho
      have HX1 := Lib.hid hx
      clear hs ho hx
      go_wp2_with fail
      go_ret
      exact ⟨by rw [HRES.out, HB9.out]; rfl, X1, by rw [HRES.out]; exact HS1.out, HO1.out, HX1.out⟩
    · rw [if_neg hb1] at hres
      have hbd : decide (d.burn.1 = 0) = true := decide_eq_true (by simpa using hb1)
      rw [hbd] at cb
      have HROW := Lib.hid (burn_row d)
      have HPG := Lib.hid (burn_pages d)
      generalize d.burn.2 = d2 at *
      have HRES := Lib.hid hres
      have HN : Hid (d2.row.length ≤ 1000000) := by show _ ≤ _; rw [HROW.out]; exact hn
      clear h hd hd2 hRk hb1 hres hbd
      go_enter Try.func26, Try.ntmps26
      go_wp2_with fail
      refine cb.mono ?_
      clear cb h0 h1 h3
      rintro e w1 ⟨rfl, X1, ⟨p1, cp1, A1, c1, hs⟩, ho, hx⟩
      have HS1 := Lib.hid hs
      have HO1 := Lib.hid ho
      have HX1 := Lib.hid hx
      clear hs ho hx
      go_wp2_with fail
      have hn2 := HN.out
      go_loopw [3] (fun i wr => RelRY X1 g p1 cp1 A1 c1 d2 (fun _ => 512) w1 i wr) (fun i _ => d2.row.length - (intOf i).toNat)
      case atStart => exact ⟨0, Nat.zero_le _, rfl, by simpa [lay] using HS1.out, Out.refl _ _⟩
      case round =>
        obtain ⟨m, hm, rfl, hat, hoo⟩ := hrel
        obtain ⟨k0, k1, -, -, kf⟩ := hat.cells
        have HLL : Hid ((lay (fun _ => 512) 0 d2.pages (d2.row.take m)).length = d2.pages.length) := lay_length _ _ _ _
        by_cases hlt : m < d2.row.length
        · obtain ⟨x, hx⟩ : ∃ x, d2.row[m]? = some x := ⟨_, List.getElem?_eq_getElem hlt⟩
          obtain ⟨r, hA1, -, hrg, hrp, e1, e2, hLc⟩ := hat.row_at hx
          have hgp := hat.ne
          subst hA1
          have hxo := hat.ok.row x (List.mem_of_getElem? hx)
          have hxl : x.1 < d2.pages.length := by
            have h9 : x.1 < (lay (fun _ => 512) 0 d2.pages (d2.row.take m)).length := hxo.1
            rwa [HLL.out] at h9
          obtain ⟨q1, q2, q3⟩ := hat.page hxo.1
          have HSP := Lib.hid (hat.setPage (k := x.1) hxo.2)
          have HOP := Lib.hid (hoo.trans (Out.setCell (X := X1) wr (p := ⟨p1, x.1, none⟩) hat.xp (.string (S x.2))) (fun k hk => .inl hk))
          have HLS : Hid (lay (fun _ => 512) 0 d2.pages (d2.row.take (m + 1)) = (lay (fun _ => 512) 0 d2.pages (d2.row.take m)).set x.1 x.2) := by
            show _ = _
            have e : d2.row.take (m + 1) = d2.row.take m ++ [x] := by
              obtain ⟨hlt', hx'⟩ := List.getElem?_eq_some_iff.1 hx
              rw [← List.take_append_getElem hlt', hx']
            rw [e, lay_snoc, lay1_whole hat.ok.pages hxo.1 hxo.2]
          dsimp only at k0 k1 q1 q3 hLc
          rw [HLL.out] at k0 q3
          clear hat hoo hx hxo
          generalize hL : d2.row.length = L at *
          generalize hPL : d2.pages.length = PL at *
          generalize (lay (fun _ => 512) 0 d2.pages (d2.row.take m)).getD x.1 [] = old at *
          have HEX : Hid (∃ v, wr.cell? ⟨p1, x.1, none⟩ = some v) := ⟨_, q1⟩
          generalize x.2 = xb at *
          generalize x.1 = xk at *
          have v1 : (m : Int) < (L : Int) := by omega
          have v2 : (xk : Int) < (PL : Int) := by omega
          have KS : Hid ((wr.setCell ⟨p1, xk, none⟩ (.string (S xb))).cell? ⟨g, 0, none⟩ = some (.slice (some ⟨p1, 0, none⟩) PL cp1) ∧ (wr.setCell ⟨p1, xk, none⟩ (.string (S xb))).cell? ⟨g, 1, none⟩ = some (.slice (some ⟨r, 0, none⟩) L c1) ∧ (wr.setCell ⟨p1, xk, none⟩ (.string (S xb))).cell? ⟨r, m * 2, none⟩ = some (.int .i64 (xk : Int)) ∧ (wr.setCell ⟨p1, xk, none⟩ (.string (S xb))).cell? ⟨r, m * 2 + 1, none⟩ = some (.string (S xb))) := by
            have hk : ∀ a : Addr, a.block ≠ p1 → (wr.setCell ⟨p1, xk, none⟩ (.string (S xb))).cell? a = wr.cell? a := fun a ha => World.cell?_setCell_other _ _ _ _ (fun e => ha (by rw [← e]))
            exact ⟨(hk _ hgp).trans k0, (hk _ hgp).trans k1, (hk _ hrp).trans e1, (hk _ hrp).trans e2⟩
          go_wp2_with fail
          go_region_held (fun w' => w'.cell? ⟨g, 0, none⟩ = some (.slice (some ⟨p1, 0, none⟩) PL cp1) ∧ w'.cell? ⟨g, 1, none⟩ = some (.slice (some ⟨r, 0, none⟩) L c1) ∧ w'.cell? ⟨r, m * 2, none⟩ = some (.int .i64 (xk : Int)) ∧ w'.cell? ⟨r, m * 2 + 1, none⟩ = some (.string (S xb)))
            (first | exact ⟨k0, k1, e1, e2⟩ | exact KS.out)
            (fail)
          all_goals
            generalize wr.setCell ⟨p1, xk, none⟩ (.string (S xb)) = wf at *
            go_wp2_with fail
            exact ⟨⟨m + 1, by omega, rfl, by rw [HLS.out]; exact HSP.out.kept (fun _ _ => rfl) (Nat.le_refl _), HOP.out.drew⟩, by simp [intOf]; omega⟩
        · obtain rfl : m = d2.row.length := by omega
          have htk : d2.row.take d2.row.length = d2.row := List.take_length
          rw [htk] at hat
          have HAT := Lib.hid hat.rowNone
          have HOF := Lib.hid (hoo.trans (Out.setCell (X := X1) wr (p := ⟨g, 1, none⟩) hat.xg (.slice none 0 0)) (fun k hk => .inl hk))
          dsimp only at k1
          clear hat hoo htk k0
          go_wp2_with fail
          go_ret
          exact ⟨by rw [HRES.out]; rfl, X1, ⟨p1, cp1, _, _, by rw [HRES.out, ← HPG.out, ← HROW.out]; exact HAT.out⟩, HO1.out.trans HOF.out HX1.out, HX1.out⟩
theorem S_take (l : List UInt8) (n : Nat) : (S l).extract 0 n = S (l.take n) := by
  unfold S
  rw [ByteArray.extract_mk]
  simp
theorem S_drop (l : List UInt8) (n : Nat) (hl : l.length = 512) : (S l).extract n 512 = S (l.drop n) := by
  unfold S
  rw [ByteArray.extract_mk]
  simp
  exact List.take_of_length_le (by rw [List.length_drop, hl]; exact Nat.le_refl _)
theorem S_app (l k : List UInt8) : S l ++ S k = S (l ++ k) := by
  unfold S
  rw [ByteArray.mk_append_mk]
set_option maxRecDepth 100000 in
set_option maxHeartbeats 2000000 in
theorem rrestart_any {w : World} {X : Nat → Prop} {g : Nat} {d : DK} (h : RkAt w X g d) (F : Option Addr) (mF cF : Nat) (zs : List Int) (hr : RdI w F mF zs) (hx : 0 < mF → ∀ a, F = some a → ¬ X a.block) (hm : mF ≤ 1000000) (hn : d.row.length ≤ 1000000) :
    Calls Try.prog 28 #[.pointer (some ⟨g, 0, none⟩), .slice F mF cF] w (RDone X g (d.restart zs) w) := by
  have hS := Lib.hid h
  have HRF := Lib.hid hr
  have HXF := Lib.hid hx
  obtain ⟨p, cp, A, c, h⟩ := h
  have HS1 := Lib.hid h
  clear h hr hx
  go_enter Try.func28, Try.ntmps28
  go_wp2_with fail
  go_loopw [4] (fun i wr => RelRY X g p cp A c d (takes zs) w i wr) (fun i _ => d.row.length - (intOf i).toNat)
  case atStart => exact ⟨0, Nat.zero_le _, rfl, by simpa [lay] using HS1.out, Out.refl _ _⟩
  case round =>
    obtain ⟨m, hm', rfl, hat, hoo⟩ := hrel
    obtain ⟨k0, k1, -, -, kf⟩ := hat.cells
    have HLL : Hid ((lay (takes zs) 0 d.pages (d.row.take m)).length = d.pages.length) := lay_length _ _ _ _
    by_cases hlt : m < d.row.length
    · obtain ⟨x, hx⟩ : ∃ x, d.row[m]? = some x := ⟨_, List.getElem?_eq_getElem hlt⟩
      obtain ⟨r, hA1, -, hrg, hrp, e1, e2, hLc⟩ := hat.row_at hx
      have hgp := hat.ne
      subst hA1
      have hxo := hat.ok.row x (List.mem_of_getElem? hx)
      have hxl : x.1 < d.pages.length := by
        have h9 : x.1 < (lay (takes zs) 0 d.pages (d.row.take m)).length := hxo.1
        rwa [HLL.out] at h9
      obtain ⟨q1, q2, q3⟩ := hat.page hxo.1
      obtain ⟨n, hn5, hnz⟩ : ∃ n : Nat, n ≤ 512 ∧ n = takes zs m := ⟨_, takes_le zs m, rfl⟩
      have hol : ((lay (takes zs) 0 d.pages (d.row.take m)).getD x.1 []).length = 512 := hat.ok.pages.get hxo.1
      have HLS : Hid (lay (takes zs) 0 d.pages (d.row.take (m + 1)) = (lay (takes zs) 0 d.pages (d.row.take m)).set x.1 (x.2.take n ++ ((lay (takes zs) 0 d.pages (d.row.take m)).getD x.1 []).drop n)) := by
        show _ = _
        have e : d.row.take (m + 1) = d.row.take m ++ [x] := by
          obtain ⟨hlt', hx'⟩ := List.getElem?_eq_some_iff.1 hx
          rw [← List.take_append_getElem hlt', hx']
        rw [e, lay_snoc, hnz, List.length_take, Nat.min_eq_left (by omega)]
        rfl
      have hnl : (x.2.take n ++ ((lay (takes zs) 0 d.pages (d.row.take m)).getD x.1 []).drop n).length = 512 := by
        have := hxo.2
        rw [List.length_append, List.length_take, List.length_drop]
        omega
      have HSP := Lib.hid (hat.setPage (k := x.1) hnl)
      have HOP := Lib.hid (hoo.trans (Out.setCell (X := X) wr (p := ⟨p, x.1, none⟩) hat.xp (.string (S (x.2.take n ++ ((lay (takes zs) 0 d.pages (d.row.take m)).getD x.1 []).drop n)))) (fun k hk => .inl hk))
      dsimp only at k0 k1 q1 q3 hLc
      rw [HLL.out] at k0 q3
      have HRW := Lib.hid (HRF.out.out hoo HXF.out)
      have HMF := Lib.hid HRF.out.len
      have hxb := hxo.2
      clear hat hoo hx hxo
      generalize hL : d.row.length = L at *
      generalize hPL : d.pages.length = PL at *
      generalize (lay (takes zs) 0 d.pages (d.row.take m)).getD x.1 [] = old at *
      generalize x.2 = xb at *
      generalize x.1 = xk at *
      have v1 : (m : Int) < (L : Int) := by omega
      have v2 : (xk : Int) < (PL : Int) := by omega
      have z1 := S_size' xb
      rw [hxb] at z1
      have z2 := S_size' old
      rw [hol] at z2
      have z3 := S_take xb n
      have z4 := S_drop old n hol
      have z5 := S_app (xb.take n) (old.drop n)
      have KS : Hid ((wr.setCell ⟨p, xk, none⟩ (.string (S (xb.take n ++ old.drop n)))).cell? ⟨g, 0, none⟩ = some (.slice (some ⟨p, 0, none⟩) PL cp) ∧ (wr.setCell ⟨p, xk, none⟩ (.string (S (xb.take n ++ old.drop n)))).cell? ⟨g, 1, none⟩ = some (.slice (some ⟨r, 0, none⟩) L c) ∧ (wr.setCell ⟨p, xk, none⟩ (.string (S (xb.take n ++ old.drop n)))).cell? ⟨r, m * 2 + 1, none⟩ = some (.string (S xb))) := by
        have hk : ∀ a : Addr, a.block ≠ p → (wr.setCell ⟨p, xk, none⟩ (.string (S (xb.take n ++ old.drop n)))).cell? a = wr.cell? a := fun a ha => World.cell?_setCell_other _ _ _ _ (fun e => ha (by rw [← e]))
        exact ⟨(hk _ hgp).trans k0, (hk _ hgp).trans k1, (hk _ hrp).trans e2⟩
      generalize hnw : xb.take n ++ old.drop n = nw at *
      by_cases hmF : m < mF
      · obtain ⟨ad, rfl, hcF⟩ := HRW.out.cells (by omega)
        have hml : m < zs.length := by rw [HMF.out]; exact hmF
        have hcell := hcF m _ (List.getElem?_eq_getElem hml)
        have htz : takes zs m = (zs[m] % 513).toNat := by unfold takes; rw [List.getElem?_eq_getElem hml]
        rw [htz] at hnz
        have hrr := rem_range zs[m]
        have hno := rem_no zs[m]
        have hyes := rem_yes zs[m]
        rw [← hnz] at hno hyes
        generalize zs[m] = z at *
        have w2 : wrap64 (z.tmod 513) = z.tmod 513 := IntWalk.wrap64_in _ (by omega)
        have w3 : wrap64 (z.tmod 513 + 513) = z.tmod 513 + 513 := IntWalk.wrap64_in _ (by omega)
        have HHN := Lib.hid hnw
        clear hcF hnz htz hnw
        by_cases hneg : z.tmod 513 < 0
        · have e9 := hyes hneg
          clear hyes hno
          go_wp2_with fail
          obtain ⟨W0, hW0⟩ : ∃ W0 : World, W0 = { wr with drawn := wr.drawn + 1 } := ⟨_, rfl⟩
          obtain ⟨W1, hW1⟩ : ∃ W1 : World, W1 = W0.setCell ⟨p, xk, none⟩ (.string (S nw)) := ⟨_, rfl⟩
          have HATF : Hid (RAt W1 X g p cp (some ⟨r, 0, none⟩) c { d with pages := lay (takes zs) 0 d.pages (d.row.take (m + 1)) }) := by
            show RAt _ _ _ _ _ _ _ _
            rw [HLS.out, hW1, hW0]
            exact HSP.out.kept (fun _ _ => rfl) (Nat.le_refl _)
          have HOPF : Hid (Out X w W1) := by
            show Out _ _ _
            rw [hW1, hW0]
            exact HOP.out.drew
          obtain ⟨Ws, hWs⟩ : ∃ Ws : Nat → World, Ws = fun s => match s with | 0 => W0 | _ => W1 := ⟨_, rfl⟩
          have E0 : Hid (Ws 0 = W0) := congrFun hWs 0
          have E1 : Hid (Ws 1 = W0.setCell ⟨p, xk, none⟩ (.string (S nw))) := (congrFun hWs 1).trans hW1
          have E1' : Hid (Ws 1 = W1) := congrFun hWs 1
          have HW0 := Lib.hid hW0
          have c0 : W0.cell? ⟨g, 0, none⟩ = some (.slice (some ⟨p, 0, none⟩) PL cp) := by rw [hW0]; exact k0
          have c1' : W0.cell? ⟨g, 1, none⟩ = some (.slice (some ⟨r, 0, none⟩) L c) := by rw [hW0]; exact k1
          have c2 : W0.cell? ⟨r, m * 2 + 1, none⟩ = some (.string (S xb)) := by rw [hW0]; exact e2
          have c3 : W0.cell? ⟨p, xk, none⟩ = some (.string (S old)) := by rw [hW0]; exact q1
          have c4 : W0.frozen? ⟨p, xk, none⟩ = false := by rw [hW0]; exact q2
          clear hWs hW0 hW1 k0 k1 e2 q1 q2 e1 HSP HOP KS
          have n6 : (n : Int) ≤ 512 := by omega
          have z6 : ¬ 9223372036854775807 < (S (xb.take n)).size + (S (old.drop n)).size := by
            rw [S_size', S_size', List.length_take, List.length_drop]
            omega
          refine wp_region_line (fun k => ([.pointer (some ⟨g, 0, none⟩), .pointer (some ⟨g, 0, none⟩), .pointer (some ⟨g, 0, none⟩), .slice (some ⟨p, 0, none⟩) PL cp, .int .i64 (xk : Int), .pointer (some ⟨g, 0, none⟩), .pointer (some ⟨g, 0, none⟩), .pointer (some ⟨g, 1, none⟩), .slice (some ⟨r, 0, none⟩) L c, .int .i64 (m : Int), .pointer (some ⟨r, m * 2, none⟩), .pointer (some ⟨r, m * 2 + 1, none⟩), .string (S xb), .int .i64 (n : Int), .string (S (xb.take n)), .pointer (some ⟨g, 0, none⟩), .pointer (some ⟨g, 0, none⟩), .pointer (some ⟨g, 0, none⟩), .slice (some ⟨p, 0, none⟩) PL cp, .int .i64 (xk : Int), .pointer (some ⟨p, xk, none⟩), .string (S old), .int .i64 (n : Int), .string (S (old.drop n)), .string (S nw), .pointer (some ⟨p, xk, none⟩), undef] : List Value).getD k undef) [26] Ws 30 (by kernel_rfl) (by kernel_rfl) (E0.out.trans HW0.out) (fun k y hk => ?_) (fun k y z' hy hz => ?_) ?_ { tmps := #[.pointer (some ⟨g, 0, none⟩), .slice (some ad) mF cF, undef, undef, .int .i64 (m : Int), .int .i64 (n : Int), .int .i64 (xk : Int), .int .i64 (m : Int), .pointer (some ⟨g, 0, none⟩), .pointer (some ⟨g, 0, none⟩), .pointer (some ⟨g, 1, none⟩), .slice (some ⟨r, 0, none⟩) L c, .int .i64 (L : Int), .bool true, u14, u15, .int .i64 (m : Int), .slice (some ad) mF cF, .int .i64 (mF : Int), .bool true, .slice (some ad) mF cF, .int .i64 (m : Int), .pointer (some (ad.add m)), .int .i64 z, .int .i64 (z.tmod 513), .int .i64 (z.tmod 513), .bool true, .int .i64 (z.tmod 513), .int .i64 (n : Int), .pointer (some ⟨g, 0, none⟩), .pointer (some ⟨g, 0, none⟩), .pointer (some ⟨g, 1, none⟩), .slice (some ⟨r, 0, none⟩) L c, .int .i64 (m : Int), .pointer (some ⟨r, m * 2, none⟩), .pointer (some ⟨r, m * 2, none⟩), .int .i64 (xk : Int), .pointer (some ⟨g, 0, none⟩), .pointer (some ⟨g, 0, none⟩), .pointer (some ⟨g, 0, none⟩), .slice (some ⟨p, 0, none⟩) PL cp, .int .i64 (xk : Int), .pointer (some ⟨g, 0, none⟩), .pointer (some ⟨g, 0, none⟩), .pointer (some ⟨g, 1, none⟩), .slice (some ⟨r, 0, none⟩) L c, .int .i64 (m : Int), .pointer (some ⟨r, m * 2, none⟩), .pointer (some ⟨r, m * 2 + 1, none⟩), .string (S xb), .int .i64 (n : Int), .string (S (xb.take n)), .pointer (some ⟨g, 0, none⟩), .pointer (some ⟨g, 0, none⟩), .pointer (some ⟨g, 0, none⟩), .slice (some ⟨p, 0, none⟩) PL cp, .int .i64 (xk : Int), .pointer (some ⟨p, xk, none⟩), .string (S old), .int .i64 (n : Int), .string (S (old.drop n)), .string (S nw), .pointer (some ⟨p, xk, none⟩), undef, undef, undef, undef, undef, undef, undef, undef, undef], defers := [] } (by kernel_rfl) ?_
          · match k, hk with
            | 0, hk => injection hk with hk; subst hk; decide
            | _ + 1, hk => cases hk
          · match k, hy, hz with
            | 0, _, hz => cases hz
            | _ + 1, hy, _ => cases hy
          · refine stepsL_cons ?_ (stepsL_cons ?_ (stepsL_cons ?_ (stepsL_cons ?_ (stepsL_cons ?_ (stepsL_cons ?_ (stepsL_cons ?_ (stepsL_cons ?_ (stepsL_cons ?_ (stepsL_cons ?_ (stepsL_cons ?_ (stepsL_cons ?_ (stepsL_cons ?_ (stepsL_cons ?_ (stepsL_cons ?_ (stepsL_cons ?_ (stepsL_cons ?_ (stepsL_cons ?_ (stepsL_cons ?_ (stepsL_cons ?_ (stepsL_cons ?_ (stepsL_cons ?_ (stepsL_cons ?_ (stepsL_cons ?_ (stepsL_cons ?_ (stepsL_cons ?_ (stepsL_cons ?_ (stepsL_nil)))))))))))))))))))))))))))
            · refine step_stay (by decide) fun a s hs hd h2 h3 K hK => ?_
              have h0 : a.tmps.getD 0 undef = .pointer (some ⟨g, 0, none⟩) := hd.kept 0 (by kernel_rfl)
              unfold Oper.wp
              go_simp
              exact hK
            · refine step_stay (by decide) fun a s hs hd h2 h3 K hK => ?_
              have h37 : a.tmps.getD 37 undef = .pointer (some ⟨g, 0, none⟩) := hd.done_ 0 _ 37 (by kernel_rfl) rfl rfl
              unfold Oper.wp
              go_simp
              exact hK
            · refine step_stay (by decide) fun a s hs hd h2 h3 K hK => ?_
              have h38 : a.tmps.getD 38 undef = .pointer (some ⟨g, 0, none⟩) := hd.done_ 1 _ 38 (by kernel_rfl) rfl rfl
              unfold Oper.wp
              go_simp
              exact hK
            · refine step_stay (by decide) fun a s hs hd h2 h3 K hK => ?_
              have h39 : a.tmps.getD 39 undef = .pointer (some ⟨g, 0, none⟩) := hd.done_ 2 _ 39 (by kernel_rfl) rfl rfl
              obtain rfl : s = 0 := Nat.le_zero.1 (h2 0 26 rfl (by kernel_rfl))
              rw [E0.out] at hK ⊢
              unfold Oper.wp
              go_simp
              exact hK
            · refine step_stay (by decide) fun a s hs hd h2 h3 K hK => ?_
              have h6 : a.tmps.getD 6 undef = .int .i64 (xk : Int) := hd.kept 6 (by kernel_rfl)
              unfold Oper.wp
              go_simp
              exact hK
            · refine step_stay (by decide) fun a s hs hd h2 h3 K hK => ?_
              have h0 : a.tmps.getD 0 undef = .pointer (some ⟨g, 0, none⟩) := hd.kept 0 (by kernel_rfl)
              unfold Oper.wp
              go_simp
              exact hK
            · refine step_stay (by decide) fun a s hs hd h2 h3 K hK => ?_
              have h42 : a.tmps.getD 42 undef = .pointer (some ⟨g, 0, none⟩) := hd.done_ 5 _ 42 (by kernel_rfl) rfl rfl
              unfold Oper.wp
              go_simp
              exact hK
            · refine step_stay (by decide) fun a s hs hd h2 h3 K hK => ?_
              have h43 : a.tmps.getD 43 undef = .pointer (some ⟨g, 0, none⟩) := hd.done_ 6 _ 43 (by kernel_rfl) rfl rfl
              unfold Oper.wp
              go_simp
              exact hK
            · refine step_stay (by decide) fun a s hs hd h2 h3 K hK => ?_
              have h44 : a.tmps.getD 44 undef = .pointer (some ⟨g, 1, none⟩) := hd.done_ 7 _ 44 (by kernel_rfl) rfl rfl
              obtain rfl : s = 0 := Nat.le_zero.1 (h2 0 26 rfl (by kernel_rfl))
              rw [E0.out] at hK ⊢
              unfold Oper.wp
              go_simp
              exact hK
            · refine step_stay (by decide) fun a s hs hd h2 h3 K hK => ?_
              have h4 : a.tmps.getD 4 undef = .int .i64 (m : Int) := hd.kept 4 (by kernel_rfl)
              unfold Oper.wp
              go_simp
              exact hK
            · refine step_stay (by decide) fun a s hs hd h2 h3 K hK => ?_
              have h45 : a.tmps.getD 45 undef = .slice (some ⟨r, 0, none⟩) L c := hd.done_ 8 _ 45 (by kernel_rfl) rfl rfl
              have h46 : a.tmps.getD 46 undef = .int .i64 (m : Int) := hd.done_ 9 _ 46 (by kernel_rfl) rfl rfl
              unfold Oper.wp
              go_simp
              exact hK
            · refine step_stay (by decide) fun a s hs hd h2 h3 K hK => ?_
              have h47 : a.tmps.getD 47 undef = .pointer (some ⟨r, m * 2, none⟩) := hd.done_ 10 _ 47 (by kernel_rfl) rfl rfl
              unfold Oper.wp
              go_simp
              exact hK
            · refine step_stay (by decide) fun a s hs hd h2 h3 K hK => ?_
              have h48 : a.tmps.getD 48 undef = .pointer (some ⟨r, m * 2 + 1, none⟩) := hd.done_ 11 _ 48 (by kernel_rfl) rfl rfl
              obtain rfl : s = 0 := Nat.le_zero.1 (h2 0 26 rfl (by kernel_rfl))
              rw [E0.out] at hK ⊢
              unfold Oper.wp
              go_simp
              exact hK
            · refine step_stay (by decide) fun a s hs hd h2 h3 K hK => ?_
              have h5 : a.tmps.getD 5 undef = .int .i64 (n : Int) := hd.kept 5 (by kernel_rfl)
              unfold Oper.wp
              go_simp
              exact hK
            · refine step_stay (by decide) fun a s hs hd h2 h3 K hK => ?_
              have h49 : a.tmps.getD 49 undef = .string (S xb) := hd.done_ 12 _ 49 (by kernel_rfl) rfl rfl
              have h50 : a.tmps.getD 50 undef = .int .i64 (n : Int) := hd.done_ 13 _ 50 (by kernel_rfl) rfl rfl
              unfold Oper.wp
              go_simp
              exact hK
            · refine step_stay (by decide) fun a s hs hd h2 h3 K hK => ?_
              have h0 : a.tmps.getD 0 undef = .pointer (some ⟨g, 0, none⟩) := hd.kept 0 (by kernel_rfl)
              unfold Oper.wp
              go_simp
              exact hK
            · refine step_stay (by decide) fun a s hs hd h2 h3 K hK => ?_
              have h52 : a.tmps.getD 52 undef = .pointer (some ⟨g, 0, none⟩) := hd.done_ 15 _ 52 (by kernel_rfl) rfl rfl
              unfold Oper.wp
              go_simp
              exact hK
            · refine step_stay (by decide) fun a s hs hd h2 h3 K hK => ?_
              have h53 : a.tmps.getD 53 undef = .pointer (some ⟨g, 0, none⟩) := hd.done_ 16 _ 53 (by kernel_rfl) rfl rfl
              unfold Oper.wp
              go_simp
              exact hK
            · refine step_stay (by decide) fun a s hs hd h2 h3 K hK => ?_
              have h54 : a.tmps.getD 54 undef = .pointer (some ⟨g, 0, none⟩) := hd.done_ 17 _ 54 (by kernel_rfl) rfl rfl
              obtain rfl : s = 0 := Nat.le_zero.1 (h2 0 26 rfl (by kernel_rfl))
              rw [E0.out] at hK ⊢
              unfold Oper.wp
              go_simp
              exact hK
            · refine step_stay (by decide) fun a s hs hd h2 h3 K hK => ?_
              have h6 : a.tmps.getD 6 undef = .int .i64 (xk : Int) := hd.kept 6 (by kernel_rfl)
              unfold Oper.wp
              go_simp
              exact hK
            · refine step_stay (by decide) fun a s hs hd h2 h3 K hK => ?_
              have h55 : a.tmps.getD 55 undef = .slice (some ⟨p, 0, none⟩) PL cp := hd.done_ 18 _ 55 (by kernel_rfl) rfl rfl
              have h56 : a.tmps.getD 56 undef = .int .i64 (xk : Int) := hd.done_ 19 _ 56 (by kernel_rfl) rfl rfl
              unfold Oper.wp
              go_simp
              exact hK
            · refine step_stay (by decide) fun a s hs hd h2 h3 K hK => ?_
              have h57 : a.tmps.getD 57 undef = .pointer (some ⟨p, xk, none⟩) := hd.done_ 20 _ 57 (by kernel_rfl) rfl rfl
              obtain rfl : s = 0 := Nat.le_zero.1 (h2 0 26 rfl (by kernel_rfl))
              rw [E0.out] at hK ⊢
              unfold Oper.wp
              go_simp
              exact hK
            · refine step_stay (by decide) fun a s hs hd h2 h3 K hK => ?_
              have h5 : a.tmps.getD 5 undef = .int .i64 (n : Int) := hd.kept 5 (by kernel_rfl)
              unfold Oper.wp
              go_simp
              exact hK
            · refine step_stay (by decide) fun a s hs hd h2 h3 K hK => ?_
              have h58 : a.tmps.getD 58 undef = .string (S old) := hd.done_ 21 _ 58 (by kernel_rfl) rfl rfl
              have h59 : a.tmps.getD 59 undef = .int .i64 (n : Int) := hd.done_ 22 _ 59 (by kernel_rfl) rfl rfl
              unfold Oper.wp
              go_simp
              exact hK
            · refine step_stay (by decide) fun a s hs hd h2 h3 K hK => ?_
              have h51 : a.tmps.getD 51 undef = .string (S (xb.take n)) := hd.done_ 14 _ 51 (by kernel_rfl) rfl rfl
              have h60 : a.tmps.getD 60 undef = .string (S (old.drop n)) := hd.done_ 23 _ 60 (by kernel_rfl) rfl rfl
              unfold Oper.wp
              go_simp
              exact hK
            · refine step_stay (by decide) fun a s hs hd h2 h3 K hK => ?_
              have h40 : a.tmps.getD 40 undef = .slice (some ⟨p, 0, none⟩) PL cp := hd.done_ 3 _ 40 (by kernel_rfl) rfl rfl
              have h41 : a.tmps.getD 41 undef = .int .i64 (xk : Int) := hd.done_ 4 _ 41 (by kernel_rfl) rfl rfl
              unfold Oper.wp
              go_simp
              exact hK
            · intro a s hs hd h1 h2 h3 K hK
              obtain rfl := h1 0 rfl
              have h61 : a.tmps.getD 61 undef = .string (S nw) := hd.done_ 24 _ 61 (by kernel_rfl) rfl rfl
              have h62 : a.tmps.getD 62 undef = .pointer (some ⟨p, xk, none⟩) := hd.done_ 25 _ 62 (by kernel_rfl) rfl rfl
              have hk := hK 1 (fun h => absurd rfl (h 0)) (fun k hk => by have := h1 k hk; omega)
              rw [E1.out] at hk
              rw [E0.out]
              unfold Oper.wp
              go_simp
              exact hk
          · have hend : Ws [26].length = W1 := E1'.out
            rw [hend]
            go_wp2_with fail
            exact ⟨⟨m + 1, by omega, rfl, HATF.out, HOPF.out⟩, by simp [intOf]; omega⟩
        · have e9 := hno hneg
          clear hyes hno
          go_wp2_with fail
          obtain ⟨W0, hW0⟩ : ∃ W0 : World, W0 = { wr with drawn := wr.drawn + 1 } := ⟨_, rfl⟩
          obtain ⟨W1, hW1⟩ : ∃ W1 : World, W1 = W0.setCell ⟨p, xk, none⟩ (.string (S nw)) := ⟨_, rfl⟩
          have HATF : Hid (RAt W1 X g p cp (some ⟨r, 0, none⟩) c { d with pages := lay (takes zs) 0 d.pages (d.row.take (m + 1)) }) := by
            show RAt _ _ _ _ _ _ _ _
            rw [HLS.out, hW1, hW0]
            exact HSP.out.kept (fun _ _ => rfl) (Nat.le_refl _)
          have HOPF : Hid (Out X w W1) := by
            show Out _ _ _
            rw [hW1, hW0]
            exact HOP.out.drew
          obtain ⟨Ws, hWs⟩ : ∃ Ws : Nat → World, Ws = fun s => match s with | 0 => W0 | _ => W1 := ⟨_, rfl⟩
          have E0 : Hid (Ws 0 = W0) := congrFun hWs 0
          have E1 : Hid (Ws 1 = W0.setCell ⟨p, xk, none⟩ (.string (S nw))) := (congrFun hWs 1).trans hW1
          have E1' : Hid (Ws 1 = W1) := congrFun hWs 1
          have HW0 := Lib.hid hW0
          have c0 : W0.cell? ⟨g, 0, none⟩ = some (.slice (some ⟨p, 0, none⟩) PL cp) := by rw [hW0]; exact k0
          have c1' : W0.cell? ⟨g, 1, none⟩ = some (.slice (some ⟨r, 0, none⟩) L c) := by rw [hW0]; exact k1
          have c2 : W0.cell? ⟨r, m * 2 + 1, none⟩ = some (.string (S xb)) := by rw [hW0]; exact e2
          have c3 : W0.cell? ⟨p, xk, none⟩ = some (.string (S old)) := by rw [hW0]; exact q1
          have c4 : W0.frozen? ⟨p, xk, none⟩ = false := by rw [hW0]; exact q2
          clear hWs hW0 hW1 k0 k1 e2 q1 q2 e1 HSP HOP KS
          have n6 : (n : Int) ≤ 512 := by omega
          have z6 : ¬ 9223372036854775807 < (S (xb.take n)).size + (S (old.drop n)).size := by
            rw [S_size', S_size', List.length_take, List.length_drop]
            omega
          refine wp_region_line (fun k => ([.pointer (some ⟨g, 0, none⟩), .pointer (some ⟨g, 0, none⟩), .pointer (some ⟨g, 0, none⟩), .slice (some ⟨p, 0, none⟩) PL cp, .int .i64 (xk : Int), .pointer (some ⟨g, 0, none⟩), .pointer (some ⟨g, 0, none⟩), .pointer (some ⟨g, 1, none⟩), .slice (some ⟨r, 0, none⟩) L c, .int .i64 (m : Int), .pointer (some ⟨r, m * 2, none⟩), .pointer (some ⟨r, m * 2 + 1, none⟩), .string (S xb), .int .i64 (n : Int), .string (S (xb.take n)), .pointer (some ⟨g, 0, none⟩), .pointer (some ⟨g, 0, none⟩), .pointer (some ⟨g, 0, none⟩), .slice (some ⟨p, 0, none⟩) PL cp, .int .i64 (xk : Int), .pointer (some ⟨p, xk, none⟩), .string (S old), .int .i64 (n : Int), .string (S (old.drop n)), .string (S nw), .pointer (some ⟨p, xk, none⟩), undef] : List Value).getD k undef) [26] Ws 30 (by kernel_rfl) (by kernel_rfl) (E0.out.trans HW0.out) (fun k y hk => ?_) (fun k y z' hy hz => ?_) ?_ { tmps := #[.pointer (some ⟨g, 0, none⟩), .slice (some ad) mF cF, undef, undef, .int .i64 (m : Int), .int .i64 (n : Int), .int .i64 (xk : Int), .int .i64 (m : Int), .pointer (some ⟨g, 0, none⟩), .pointer (some ⟨g, 0, none⟩), .pointer (some ⟨g, 1, none⟩), .slice (some ⟨r, 0, none⟩) L c, .int .i64 (L : Int), .bool true, u14, u15, .int .i64 (m : Int), .slice (some ad) mF cF, .int .i64 (mF : Int), .bool true, .slice (some ad) mF cF, .int .i64 (m : Int), .pointer (some (ad.add m)), .int .i64 z, .int .i64 (n : Int), .int .i64 (n : Int), .bool (decide ((n : Int) < 0)), u27, u28, .pointer (some ⟨g, 0, none⟩), .pointer (some ⟨g, 0, none⟩), .pointer (some ⟨g, 1, none⟩), .slice (some ⟨r, 0, none⟩) L c, .int .i64 (m : Int), .pointer (some ⟨r, m * 2, none⟩), .pointer (some ⟨r, m * 2, none⟩), .int .i64 (xk : Int), .pointer (some ⟨g, 0, none⟩), .pointer (some ⟨g, 0, none⟩), .pointer (some ⟨g, 0, none⟩), .slice (some ⟨p, 0, none⟩) PL cp, .int .i64 (xk : Int), .pointer (some ⟨g, 0, none⟩), .pointer (some ⟨g, 0, none⟩), .pointer (some ⟨g, 1, none⟩), .slice (some ⟨r, 0, none⟩) L c, .int .i64 (m : Int), .pointer (some ⟨r, m * 2, none⟩), .pointer (some ⟨r, m * 2 + 1, none⟩), .string (S xb), .int .i64 (n : Int), .string (S (xb.take n)), .pointer (some ⟨g, 0, none⟩), .pointer (some ⟨g, 0, none⟩), .pointer (some ⟨g, 0, none⟩), .slice (some ⟨p, 0, none⟩) PL cp, .int .i64 (xk : Int), .pointer (some ⟨p, xk, none⟩), .string (S old), .int .i64 (n : Int), .string (S (old.drop n)), .string (S nw), .pointer (some ⟨p, xk, none⟩), undef, undef, undef, undef, undef, undef, undef, undef, undef], defers := [] } (by kernel_rfl) ?_
          · match k, hk with
            | 0, hk => injection hk with hk; subst hk; decide
            | _ + 1, hk => cases hk
          · match k, hy, hz with
            | 0, _, hz => cases hz
            | _ + 1, hy, _ => cases hy
          · refine stepsL_cons ?_ (stepsL_cons ?_ (stepsL_cons ?_ (stepsL_cons ?_ (stepsL_cons ?_ (stepsL_cons ?_ (stepsL_cons ?_ (stepsL_cons ?_ (stepsL_cons ?_ (stepsL_cons ?_ (stepsL_cons ?_ (stepsL_cons ?_ (stepsL_cons ?_ (stepsL_cons ?_ (stepsL_cons ?_ (stepsL_cons ?_ (stepsL_cons ?_ (stepsL_cons ?_ (stepsL_cons ?_ (stepsL_cons ?_ (stepsL_cons ?_ (stepsL_cons ?_ (stepsL_cons ?_ (stepsL_cons ?_ (stepsL_cons ?_ (stepsL_cons ?_ (stepsL_cons ?_ (stepsL_nil)))))))))))))))))))))))))))
            · refine step_stay (by decide) fun a s hs hd h2 h3 K hK => ?_
              have h0 : a.tmps.getD 0 undef = .pointer (some ⟨g, 0, none⟩) := hd.kept 0 (by kernel_rfl)
              unfold Oper.wp
              go_simp
              exact hK
            · refine step_stay (by decide) fun a s hs hd h2 h3 K hK => ?_
              have h37 : a.tmps.getD 37 undef = .pointer (some ⟨g, 0, none⟩) := hd.done_ 0 _ 37 (by kernel_rfl) rfl rfl
              unfold Oper.wp
              go_simp
              exact hK
            · refine step_stay (by decide) fun a s hs hd h2 h3 K hK => ?_
              have h38 : a.tmps.getD 38 undef = .pointer (some ⟨g, 0, none⟩) := hd.done_ 1 _ 38 (by kernel_rfl) rfl rfl
              unfold Oper.wp
              go_simp
              exact hK
            · refine step_stay (by decide) fun a s hs hd h2 h3 K hK => ?_
              have h39 : a.tmps.getD 39 undef = .pointer (some ⟨g, 0, none⟩) := hd.done_ 2 _ 39 (by kernel_rfl) rfl rfl
              obtain rfl : s = 0 := Nat.le_zero.1 (h2 0 26 rfl (by kernel_rfl))
              rw [E0.out] at hK ⊢
              unfold Oper.wp
              go_simp
              exact hK
            · refine step_stay (by decide) fun a s hs hd h2 h3 K hK => ?_
              have h6 : a.tmps.getD 6 undef = .int .i64 (xk : Int) := hd.kept 6 (by kernel_rfl)
              unfold Oper.wp
              go_simp
              exact hK
            · refine step_stay (by decide) fun a s hs hd h2 h3 K hK => ?_
              have h0 : a.tmps.getD 0 undef = .pointer (some ⟨g, 0, none⟩) := hd.kept 0 (by kernel_rfl)
              unfold Oper.wp
              go_simp
              exact hK
            · refine step_stay (by decide) fun a s hs hd h2 h3 K hK => ?_
              have h42 : a.tmps.getD 42 undef = .pointer (some ⟨g, 0, none⟩) := hd.done_ 5 _ 42 (by kernel_rfl) rfl rfl
              unfold Oper.wp
              go_simp
              exact hK
            · refine step_stay (by decide) fun a s hs hd h2 h3 K hK => ?_
              have h43 : a.tmps.getD 43 undef = .pointer (some ⟨g, 0, none⟩) := hd.done_ 6 _ 43 (by kernel_rfl) rfl rfl
              unfold Oper.wp
              go_simp
              exact hK
            · refine step_stay (by decide) fun a s hs hd h2 h3 K hK => ?_
              have h44 : a.tmps.getD 44 undef = .pointer (some ⟨g, 1, none⟩) := hd.done_ 7 _ 44 (by kernel_rfl) rfl rfl
              obtain rfl : s = 0 := Nat.le_zero.1 (h2 0 26 rfl (by kernel_rfl))
              rw [E0.out] at hK ⊢
              unfold Oper.wp
              go_simp
              exact hK
            · refine step_stay (by decide) fun a s hs hd h2 h3 K hK => ?_
              have h4 : a.tmps.getD 4 undef = .int .i64 (m : Int) := hd.kept 4 (by kernel_rfl)
              unfold Oper.wp
              go_simp
              exact hK
            · refine step_stay (by decide) fun a s hs hd h2 h3 K hK => ?_
              have h45 : a.tmps.getD 45 undef = .slice (some ⟨r, 0, none⟩) L c := hd.done_ 8 _ 45 (by kernel_rfl) rfl rfl
              have h46 : a.tmps.getD 46 undef = .int .i64 (m : Int) := hd.done_ 9 _ 46 (by kernel_rfl) rfl rfl
              unfold Oper.wp
              go_simp
              exact hK
            · refine step_stay (by decide) fun a s hs hd h2 h3 K hK => ?_
              have h47 : a.tmps.getD 47 undef = .pointer (some ⟨r, m * 2, none⟩) := hd.done_ 10 _ 47 (by kernel_rfl) rfl rfl
              unfold Oper.wp
              go_simp
              exact hK
            · refine step_stay (by decide) fun a s hs hd h2 h3 K hK => ?_
              have h48 : a.tmps.getD 48 undef = .pointer (some ⟨r, m * 2 + 1, none⟩) := hd.done_ 11 _ 48 (by kernel_rfl) rfl rfl
              obtain rfl : s = 0 := Nat.le_zero.1 (h2 0 26 rfl (by kernel_rfl))
              rw [E0.out] at hK ⊢
              unfold Oper.wp
              go_simp
              exact hK
            · refine step_stay (by decide) fun a s hs hd h2 h3 K hK => ?_
              have h5 : a.tmps.getD 5 undef = .int .i64 (n : Int) := hd.kept 5 (by kernel_rfl)
              unfold Oper.wp
              go_simp
              exact hK
            · refine step_stay (by decide) fun a s hs hd h2 h3 K hK => ?_
              have h49 : a.tmps.getD 49 undef = .string (S xb) := hd.done_ 12 _ 49 (by kernel_rfl) rfl rfl
              have h50 : a.tmps.getD 50 undef = .int .i64 (n : Int) := hd.done_ 13 _ 50 (by kernel_rfl) rfl rfl
              unfold Oper.wp
              go_simp
              exact hK
            · refine step_stay (by decide) fun a s hs hd h2 h3 K hK => ?_
              have h0 : a.tmps.getD 0 undef = .pointer (some ⟨g, 0, none⟩) := hd.kept 0 (by kernel_rfl)
              unfold Oper.wp
              go_simp
              exact hK
            · refine step_stay (by decide) fun a s hs hd h2 h3 K hK => ?_
              have h52 : a.tmps.getD 52 undef = .pointer (some ⟨g, 0, none⟩) := hd.done_ 15 _ 52 (by kernel_rfl) rfl rfl
              unfold Oper.wp
              go_simp
              exact hK
            · refine step_stay (by decide) fun a s hs hd h2 h3 K hK => ?_
              have h53 : a.tmps.getD 53 undef = .pointer (some ⟨g, 0, none⟩) := hd.done_ 16 _ 53 (by kernel_rfl) rfl rfl
              unfold Oper.wp
              go_simp
              exact hK
            · refine step_stay (by decide) fun a s hs hd h2 h3 K hK => ?_
              have h54 : a.tmps.getD 54 undef = .pointer (some ⟨g, 0, none⟩) := hd.done_ 17 _ 54 (by kernel_rfl) rfl rfl
              obtain rfl : s = 0 := Nat.le_zero.1 (h2 0 26 rfl (by kernel_rfl))
              rw [E0.out] at hK ⊢
              unfold Oper.wp
              go_simp
              exact hK
            · refine step_stay (by decide) fun a s hs hd h2 h3 K hK => ?_
              have h6 : a.tmps.getD 6 undef = .int .i64 (xk : Int) := hd.kept 6 (by kernel_rfl)
              unfold Oper.wp
              go_simp
              exact hK
            · refine step_stay (by decide) fun a s hs hd h2 h3 K hK => ?_
              have h55 : a.tmps.getD 55 undef = .slice (some ⟨p, 0, none⟩) PL cp := hd.done_ 18 _ 55 (by kernel_rfl) rfl rfl
              have h56 : a.tmps.getD 56 undef = .int .i64 (xk : Int) := hd.done_ 19 _ 56 (by kernel_rfl) rfl rfl
              unfold Oper.wp
              go_simp
              exact hK
            · refine step_stay (by decide) fun a s hs hd h2 h3 K hK => ?_
              have h57 : a.tmps.getD 57 undef = .pointer (some ⟨p, xk, none⟩) := hd.done_ 20 _ 57 (by kernel_rfl) rfl rfl
              obtain rfl : s = 0 := Nat.le_zero.1 (h2 0 26 rfl (by kernel_rfl))
              rw [E0.out] at hK ⊢
              unfold Oper.wp
              go_simp
              exact hK
            · refine step_stay (by decide) fun a s hs hd h2 h3 K hK => ?_
              have h5 : a.tmps.getD 5 undef = .int .i64 (n : Int) := hd.kept 5 (by kernel_rfl)
              unfold Oper.wp
              go_simp
              exact hK
            · refine step_stay (by decide) fun a s hs hd h2 h3 K hK => ?_
              have h58 : a.tmps.getD 58 undef = .string (S old) := hd.done_ 21 _ 58 (by kernel_rfl) rfl rfl
              have h59 : a.tmps.getD 59 undef = .int .i64 (n : Int) := hd.done_ 22 _ 59 (by kernel_rfl) rfl rfl
              unfold Oper.wp
              go_simp
              exact hK
            · refine step_stay (by decide) fun a s hs hd h2 h3 K hK => ?_
              have h51 : a.tmps.getD 51 undef = .string (S (xb.take n)) := hd.done_ 14 _ 51 (by kernel_rfl) rfl rfl
              have h60 : a.tmps.getD 60 undef = .string (S (old.drop n)) := hd.done_ 23 _ 60 (by kernel_rfl) rfl rfl
              unfold Oper.wp
              go_simp
              exact hK
            · refine step_stay (by decide) fun a s hs hd h2 h3 K hK => ?_
              have h40 : a.tmps.getD 40 undef = .slice (some ⟨p, 0, none⟩) PL cp := hd.done_ 3 _ 40 (by kernel_rfl) rfl rfl
              have h41 : a.tmps.getD 41 undef = .int .i64 (xk : Int) := hd.done_ 4 _ 41 (by kernel_rfl) rfl rfl
              unfold Oper.wp
              go_simp
              exact hK
            · intro a s hs hd h1 h2 h3 K hK
              obtain rfl := h1 0 rfl
              have h61 : a.tmps.getD 61 undef = .string (S nw) := hd.done_ 24 _ 61 (by kernel_rfl) rfl rfl
              have h62 : a.tmps.getD 62 undef = .pointer (some ⟨p, xk, none⟩) := hd.done_ 25 _ 62 (by kernel_rfl) rfl rfl
              have hk := hK 1 (fun h => absurd rfl (h 0)) (fun k hk => by have := h1 k hk; omega)
              rw [E1.out] at hk
              rw [E0.out]
              unfold Oper.wp
              go_simp
              exact hk
          · have hend : Ws [26].length = W1 := E1'.out
            rw [hend]
            go_wp2_with fail
            exact ⟨⟨m + 1, by omega, rfl, HATF.out, HOPF.out⟩, by simp [intOf]; omega⟩
      · have htz : takes zs m = 0 := by unfold takes; rw [List.getElem?_eq_none (by rw [HMF.out]; omega)]
        rw [htz] at hnz
        subst hnz
        have HHN := Lib.hid hnw
        clear htz hnw
        go_wp2_with fail
        obtain ⟨W0, hW0⟩ : ∃ W0 : World, W0 = { wr with drawn := wr.drawn + 1 } := ⟨_, rfl⟩
        obtain ⟨W1, hW1⟩ : ∃ W1 : World, W1 = W0.setCell ⟨p, xk, none⟩ (.string (S nw)) := ⟨_, rfl⟩
        have HATF : Hid (RAt W1 X g p cp (some ⟨r, 0, none⟩) c { d with pages := lay (takes zs) 0 d.pages (d.row.take (m + 1)) }) := by
          show RAt _ _ _ _ _ _ _ _
          rw [HLS.out, hW1, hW0]
          exact HSP.out.kept (fun _ _ => rfl) (Nat.le_refl _)
        have HOPF : Hid (Out X w W1) := by
          show Out _ _ _
          rw [hW1, hW0]
          exact HOP.out.drew
        obtain ⟨Ws, hWs⟩ : ∃ Ws : Nat → World, Ws = fun s => match s with | 0 => W0 | _ => W1 := ⟨_, rfl⟩
        have E0 : Hid (Ws 0 = W0) := congrFun hWs 0
        have E1 : Hid (Ws 1 = W0.setCell ⟨p, xk, none⟩ (.string (S nw))) := (congrFun hWs 1).trans hW1
        have E1' : Hid (Ws 1 = W1) := congrFun hWs 1
        have HW0 := Lib.hid hW0
        have c0 : W0.cell? ⟨g, 0, none⟩ = some (.slice (some ⟨p, 0, none⟩) PL cp) := by rw [hW0]; exact k0
        have c1' : W0.cell? ⟨g, 1, none⟩ = some (.slice (some ⟨r, 0, none⟩) L c) := by rw [hW0]; exact k1
        have c2 : W0.cell? ⟨r, m * 2 + 1, none⟩ = some (.string (S xb)) := by rw [hW0]; exact e2
        have c3 : W0.cell? ⟨p, xk, none⟩ = some (.string (S old)) := by rw [hW0]; exact q1
        have c4 : W0.frozen? ⟨p, xk, none⟩ = false := by rw [hW0]; exact q2
        clear hWs hW0 hW1 k0 k1 e2 q1 q2 e1 HSP HOP KS
        have n6 : 0 ≤ 512 := by omega
        have z6 : ¬ 9223372036854775807 < (S (xb.take 0)).size + (S (old.drop 0)).size := by
          rw [S_size', S_size', List.length_take, List.length_drop]
          omega
        have z7 : S [] ++ S old = S nw := z5
        have z8 : (S []).size = 0 := rfl
        refine wp_region_line (fun k => ([.pointer (some ⟨g, 0, none⟩), .pointer (some ⟨g, 0, none⟩), .pointer (some ⟨g, 0, none⟩), .slice (some ⟨p, 0, none⟩) PL cp, .int .i64 (xk : Int), .pointer (some ⟨g, 0, none⟩), .pointer (some ⟨g, 0, none⟩), .pointer (some ⟨g, 1, none⟩), .slice (some ⟨r, 0, none⟩) L c, .int .i64 (m : Int), .pointer (some ⟨r, m * 2, none⟩), .pointer (some ⟨r, m * 2 + 1, none⟩), .string (S xb), .int .i64 0, .string (S (xb.take 0)), .pointer (some ⟨g, 0, none⟩), .pointer (some ⟨g, 0, none⟩), .pointer (some ⟨g, 0, none⟩), .slice (some ⟨p, 0, none⟩) PL cp, .int .i64 (xk : Int), .pointer (some ⟨p, xk, none⟩), .string (S old), .int .i64 0, .string (S (old.drop 0)), .string (S nw), .pointer (some ⟨p, xk, none⟩), undef] : List Value).getD k undef) [26] Ws 30 (by kernel_rfl) (by kernel_rfl) (E0.out.trans HW0.out) (fun k y hk => ?_) (fun k y z' hy hz => ?_) ?_ { tmps := #[.pointer (some ⟨g, 0, none⟩), .slice F mF cF, undef, undef, .int .i64 (m : Int), .int .i64 0, .int .i64 (xk : Int), .int .i64 (m : Int), .pointer (some ⟨g, 0, none⟩), .pointer (some ⟨g, 0, none⟩), .pointer (some ⟨g, 1, none⟩), .slice (some ⟨r, 0, none⟩) L c, .int .i64 (L : Int), .bool true, u14, u15, .int .i64 (m : Int), .slice F mF cF, .int .i64 (mF : Int), .bool false, u20, u21, u22, u23, u24, u25, u26, u27, u28, .pointer (some ⟨g, 0, none⟩), .pointer (some ⟨g, 0, none⟩), .pointer (some ⟨g, 1, none⟩), .slice (some ⟨r, 0, none⟩) L c, .int .i64 (m : Int), .pointer (some ⟨r, m * 2, none⟩), .pointer (some ⟨r, m * 2, none⟩), .int .i64 (xk : Int), .pointer (some ⟨g, 0, none⟩), .pointer (some ⟨g, 0, none⟩), .pointer (some ⟨g, 0, none⟩), .slice (some ⟨p, 0, none⟩) PL cp, .int .i64 (xk : Int), .pointer (some ⟨g, 0, none⟩), .pointer (some ⟨g, 0, none⟩), .pointer (some ⟨g, 1, none⟩), .slice (some ⟨r, 0, none⟩) L c, .int .i64 (m : Int), .pointer (some ⟨r, m * 2, none⟩), .pointer (some ⟨r, m * 2 + 1, none⟩), .string (S xb), .int .i64 0, .string (S (xb.take 0)), .pointer (some ⟨g, 0, none⟩), .pointer (some ⟨g, 0, none⟩), .pointer (some ⟨g, 0, none⟩), .slice (some ⟨p, 0, none⟩) PL cp, .int .i64 (xk : Int), .pointer (some ⟨p, xk, none⟩), .string (S old), .int .i64 0, .string (S (old.drop 0)), .string (S nw), .pointer (some ⟨p, xk, none⟩), undef, undef, undef, undef, undef, undef, undef, undef, undef], defers := [] } (by kernel_rfl) ?_
        · match k, hk with
          | 0, hk => injection hk with hk; subst hk; decide
          | _ + 1, hk => cases hk
        · match k, hy, hz with
          | 0, _, hz => cases hz
          | _ + 1, hy, _ => cases hy
        · refine stepsL_cons ?_ (stepsL_cons ?_ (stepsL_cons ?_ (stepsL_cons ?_ (stepsL_cons ?_ (stepsL_cons ?_ (stepsL_cons ?_ (stepsL_cons ?_ (stepsL_cons ?_ (stepsL_cons ?_ (stepsL_cons ?_ (stepsL_cons ?_ (stepsL_cons ?_ (stepsL_cons ?_ (stepsL_cons ?_ (stepsL_cons ?_ (stepsL_cons ?_ (stepsL_cons ?_ (stepsL_cons ?_ (stepsL_cons ?_ (stepsL_cons ?_ (stepsL_cons ?_ (stepsL_cons ?_ (stepsL_cons ?_ (stepsL_cons ?_ (stepsL_cons ?_ (stepsL_cons ?_ (stepsL_nil)))))))))))))))))))))))))))
          · refine step_stay (by decide) fun a s hs hd h2 h3 K hK => ?_
            have h0 : a.tmps.getD 0 undef = .pointer (some ⟨g, 0, none⟩) := hd.kept 0 (by kernel_rfl)
            unfold Oper.wp
            go_simp
            exact hK
          · refine step_stay (by decide) fun a s hs hd h2 h3 K hK => ?_
            have h37 : a.tmps.getD 37 undef = .pointer (some ⟨g, 0, none⟩) := hd.done_ 0 _ 37 (by kernel_rfl) rfl rfl
            unfold Oper.wp
            go_simp
            exact hK
          · refine step_stay (by decide) fun a s hs hd h2 h3 K hK => ?_
            have h38 : a.tmps.getD 38 undef = .pointer (some ⟨g, 0, none⟩) := hd.done_ 1 _ 38 (by kernel_rfl) rfl rfl
            unfold Oper.wp
            go_simp
            exact hK
          · refine step_stay (by decide) fun a s hs hd h2 h3 K hK => ?_
            have h39 : a.tmps.getD 39 undef = .pointer (some ⟨g, 0, none⟩) := hd.done_ 2 _ 39 (by kernel_rfl) rfl rfl
            obtain rfl : s = 0 := Nat.le_zero.1 (h2 0 26 rfl (by kernel_rfl))
            rw [E0.out] at hK ⊢
            unfold Oper.wp
            go_simp
            exact hK
          · refine step_stay (by decide) fun a s hs hd h2 h3 K hK => ?_
            have h6 : a.tmps.getD 6 undef = .int .i64 (xk : Int) := hd.kept 6 (by kernel_rfl)
            unfold Oper.wp
            go_simp
            exact hK
          · refine step_stay (by decide) fun a s hs hd h2 h3 K hK => ?_
            have h0 : a.tmps.getD 0 undef = .pointer (some ⟨g, 0, none⟩) := hd.kept 0 (by kernel_rfl)
            unfold Oper.wp
            go_simp
            exact hK
          · refine step_stay (by decide) fun a s hs hd h2 h3 K hK => ?_
            have h42 : a.tmps.getD 42 undef = .pointer (some ⟨g, 0, none⟩) := hd.done_ 5 _ 42 (by kernel_rfl) rfl rfl
            unfold Oper.wp
            go_simp
            exact hK
          · refine step_stay (by decide) fun a s hs hd h2 h3 K hK => ?_
            have h43 : a.tmps.getD 43 undef = .pointer (some ⟨g, 0, none⟩) := hd.done_ 6 _ 43 (by kernel_rfl) rfl rfl
            unfold Oper.wp
            go_simp
            exact hK
          · refine step_stay (by decide) fun a s hs hd h2 h3 K hK => ?_
            have h44 : a.tmps.getD 44 undef = .pointer (some ⟨g, 1, none⟩) := hd.done_ 7 _ 44 (by kernel_rfl) rfl rfl
            obtain rfl : s = 0 := Nat.le_zero.1 (h2 0 26 rfl (by kernel_rfl))
            rw [E0.out] at hK ⊢
            unfold Oper.wp
            go_simp
            exact hK
          · refine step_stay (by decide) fun a s hs hd h2 h3 K hK => ?_
            have h4 : a.tmps.getD 4 undef = .int .i64 (m : Int) := hd.kept 4 (by kernel_rfl)
            unfold Oper.wp
            go_simp
            exact hK
          · refine step_stay (by decide) fun a s hs hd h2 h3 K hK => ?_
            have h45 : a.tmps.getD 45 undef = .slice (some ⟨r, 0, none⟩) L c := hd.done_ 8 _ 45 (by kernel_rfl) rfl rfl
            have h46 : a.tmps.getD 46 undef = .int .i64 (m : Int) := hd.done_ 9 _ 46 (by kernel_rfl) rfl rfl
            unfold Oper.wp
            go_simp
            exact hK
          · refine step_stay (by decide) fun a s hs hd h2 h3 K hK => ?_
            have h47 : a.tmps.getD 47 undef = .pointer (some ⟨r, m * 2, none⟩) := hd.done_ 10 _ 47 (by kernel_rfl) rfl rfl
            unfold Oper.wp
            go_simp
            exact hK
          · refine step_stay (by decide) fun a s hs hd h2 h3 K hK => ?_
            have h48 : a.tmps.getD 48 undef = .pointer (some ⟨r, m * 2 + 1, none⟩) := hd.done_ 11 _ 48 (by kernel_rfl) rfl rfl
            obtain rfl : s = 0 := Nat.le_zero.1 (h2 0 26 rfl (by kernel_rfl))
            rw [E0.out] at hK ⊢
            unfold Oper.wp
            go_simp
            exact hK
          · refine step_stay (by decide) fun a s hs hd h2 h3 K hK => ?_
            have h5 : a.tmps.getD 5 undef = .int .i64 0 := hd.kept 5 (by kernel_rfl)
            unfold Oper.wp
            go_simp
            exact hK
          · refine step_stay (by decide) fun a s hs hd h2 h3 K hK => ?_
            have h49 : a.tmps.getD 49 undef = .string (S xb) := hd.done_ 12 _ 49 (by kernel_rfl) rfl rfl
            have h50 : a.tmps.getD 50 undef = .int .i64 0 := hd.done_ 13 _ 50 (by kernel_rfl) rfl rfl
            unfold Oper.wp
            go_simp
            exact hK
          · refine step_stay (by decide) fun a s hs hd h2 h3 K hK => ?_
            have h0 : a.tmps.getD 0 undef = .pointer (some ⟨g, 0, none⟩) := hd.kept 0 (by kernel_rfl)
            unfold Oper.wp
            go_simp
            exact hK
          · refine step_stay (by decide) fun a s hs hd h2 h3 K hK => ?_
            have h52 : a.tmps.getD 52 undef = .pointer (some ⟨g, 0, none⟩) := hd.done_ 15 _ 52 (by kernel_rfl) rfl rfl
            unfold Oper.wp
            go_simp
            exact hK
          · refine step_stay (by decide) fun a s hs hd h2 h3 K hK => ?_
            have h53 : a.tmps.getD 53 undef = .pointer (some ⟨g, 0, none⟩) := hd.done_ 16 _ 53 (by kernel_rfl) rfl rfl
            unfold Oper.wp
            go_simp
            exact hK
          · refine step_stay (by decide) fun a s hs hd h2 h3 K hK => ?_
            have h54 : a.tmps.getD 54 undef = .pointer (some ⟨g, 0, none⟩) := hd.done_ 17 _ 54 (by kernel_rfl) rfl rfl
            obtain rfl : s = 0 := Nat.le_zero.1 (h2 0 26 rfl (by kernel_rfl))
            rw [E0.out] at hK ⊢
            unfold Oper.wp
            go_simp
            exact hK
          · refine step_stay (by decide) fun a s hs hd h2 h3 K hK => ?_
            have h6 : a.tmps.getD 6 undef = .int .i64 (xk : Int) := hd.kept 6 (by kernel_rfl)
            unfold Oper.wp
            go_simp
            exact hK
          · refine step_stay (by decide) fun a s hs hd h2 h3 K hK => ?_
            have h55 : a.tmps.getD 55 undef = .slice (some ⟨p, 0, none⟩) PL cp := hd.done_ 18 _ 55 (by kernel_rfl) rfl rfl
            have h56 : a.tmps.getD 56 undef = .int .i64 (xk : Int) := hd.done_ 19 _ 56 (by kernel_rfl) rfl rfl
            unfold Oper.wp
            go_simp
            exact hK
          · refine step_stay (by decide) fun a s hs hd h2 h3 K hK => ?_
            have h57 : a.tmps.getD 57 undef = .pointer (some ⟨p, xk, none⟩) := hd.done_ 20 _ 57 (by kernel_rfl) rfl rfl
            obtain rfl : s = 0 := Nat.le_zero.1 (h2 0 26 rfl (by kernel_rfl))
            rw [E0.out] at hK ⊢
            unfold Oper.wp
            go_simp
            exact hK
          · refine step_stay (by decide) fun a s hs hd h2 h3 K hK => ?_
            have h5 : a.tmps.getD 5 undef = .int .i64 0 := hd.kept 5 (by kernel_rfl)
            unfold Oper.wp
            go_simp
            exact hK
          · refine step_stay (by decide) fun a s hs hd h2 h3 K hK => ?_
            have h58 : a.tmps.getD 58 undef = .string (S old) := hd.done_ 21 _ 58 (by kernel_rfl) rfl rfl
            have h59 : a.tmps.getD 59 undef = .int .i64 0 := hd.done_ 22 _ 59 (by kernel_rfl) rfl rfl
            unfold Oper.wp
            go_simp
            exact hK
          · refine step_stay (by decide) fun a s hs hd h2 h3 K hK => ?_
            have h51 : a.tmps.getD 51 undef = .string (S (xb.take 0)) := hd.done_ 14 _ 51 (by kernel_rfl) rfl rfl
            have h60 : a.tmps.getD 60 undef = .string (S (old.drop 0)) := hd.done_ 23 _ 60 (by kernel_rfl) rfl rfl
            unfold Oper.wp
            go_simp
            exact hK
          · refine step_stay (by decide) fun a s hs hd h2 h3 K hK => ?_
            have h40 : a.tmps.getD 40 undef = .slice (some ⟨p, 0, none⟩) PL cp := hd.done_ 3 _ 40 (by kernel_rfl) rfl rfl
            have h41 : a.tmps.getD 41 undef = .int .i64 (xk : Int) := hd.done_ 4 _ 41 (by kernel_rfl) rfl rfl
            unfold Oper.wp
            go_simp
            exact hK
          · intro a s hs hd h1 h2 h3 K hK
            obtain rfl := h1 0 rfl
            have h61 : a.tmps.getD 61 undef = .string (S nw) := hd.done_ 24 _ 61 (by kernel_rfl) rfl rfl
            have h62 : a.tmps.getD 62 undef = .pointer (some ⟨p, xk, none⟩) := hd.done_ 25 _ 62 (by kernel_rfl) rfl rfl
            have hk := hK 1 (fun h => absurd rfl (h 0)) (fun k hk => by have := h1 k hk; omega)
            rw [E1.out] at hk
            rw [E0.out]
            unfold Oper.wp
            go_simp
            exact hk
        · have hend : Ws [26].length = W1 := E1'.out
          rw [hend]
          go_wp2_with fail
          exact ⟨⟨m + 1, by omega, rfl, HATF.out, HOPF.out⟩, by simp [intOf]; omega⟩
    · obtain rfl : m = d.row.length := by omega
      have htk : d.row.take d.row.length = d.row := List.take_length
      rw [htk] at hat
      have h1 := hat.rowNone
      have h2 := h1.set 3 (.bool false) (d' := { pages := lay (takes zs) 0 d.pages d.row, row := [], dead := false, left := d.left }) rfl rfl rfl (h1.ok.set rfl h1.ok.pages h1.ok.row h1.ok.low h1.ok.high)
      have h3 := h2.set 2 (.int .i64 (-1)) (d' := d.restart zs) rfl rfl rfl (h2.ok.set rfl h2.ok.pages h2.ok.row (by show -9223372036854775808 ≤ (-1 : Int); omega) (by show (-1 : Int) ≤ 9223372036854775807; omega))
      have HOF := Lib.hid (((hoo.trans (Out.setCell (X := X) wr (p := ⟨g, 1, none⟩) hat.xg (.slice none 0 0)) (fun k hk => .inl hk)).trans (Out.setCell (X := X) _ (p := ⟨g, 3, none⟩) hat.xg (.bool false)) (fun k hk => .inl hk)).trans (Out.setCell (X := X) _ (p := ⟨g, 2, none⟩) hat.xg (.int .i64 (-1))) (fun k hk => .inl hk))
      have HAT := Lib.hid h3
      obtain ⟨-, -, -, s3, sf⟩ := h1.cells
      obtain ⟨-, -, t2, -, tf⟩ := h2.cells
      dsimp only at k1
      clear hat hoo htk k0 h1 h2 h3
      go_wp2_with fail
      go_end0
      exact ⟨rfl, X, ⟨p, cp, _, _, HAT.out⟩, HOF.out, fun k hk => .inl hk⟩
end Go.Proofs.YtjfoihbcieffdaaR.Disk
