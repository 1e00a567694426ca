/- The law's own: an act upon the document's own disk. -/
import Derived.Test.YtjfoihbcieffdaaRDiskRef5
import Derived.Deep.RegionHeld3
namespace Go.Proofs.YtjfoihbcieffdaaR.Disk
open Go.RowKit

def DK.ract (d : DK) (a : Act1) : Int × DK :=
  if a.do_ % 6 = 0 then d.write a.at_ (sheet a.b a.step) else if a.do_ % 6 = 1 then d.sync else if a.do_ % 6 = 2 then (0, d.rfuse a.at_) else if a.do_ % 6 = 3 then (0, d.kill) else if a.do_ % 6 = 4 then (0, d.restart a.fates) else d.write a.at_ (List.replicate a.b.toNat 0)
/-- The reference's disk of one's own, since w0. -/
structure RSt (w0 w : World) (X : Nat → Prop) (g : Nat) (d : DK) : Prop where
  at_ : RkAt w X g d
  below : Below w0.heap.size w0 w
  own : ∀ k, X k → w0.heap.size ≤ k
theorem RSt.below_ {w0 w w' : World} {X : Nat → Prop} {g : Nat} {d : DK} (h : RSt w0 w X g d) (hb : Below w.heap.size w w') : RSt w0 w' X g d :=
  ⟨h.at_.below hb, h.below.trans (hb.mono h.below.size), h.own⟩
theorem RSt.of {w0 w w' : World} {X X' : Nat → Prop} {g : Nat} {d d' : DK} (h : RSt w0 w X g d) (h1 : RkAt w' X' g d') (ho : Out X w w') (hx : ∀ k, X' k → X k ∨ w.heap.size ≤ k) : RSt w0 w' X' g d' :=
  ⟨h1, ho.below h.below h.own h.below.size, fun k hk => (hx k hk).elim (h.own k) (fun h2 => Nat.le_trans h.below.size h2)⟩
def RToPost (v : Value) (w0 : World) (X : Nat → Prop) (g : Nat) (d' : DK) (w : World) (e : Ending) (w' : World) : Prop :=
  e = .returned v ∧ ∃ X', RSt w0 w' X' g d' ∧ Out X w w' ∧ ∀ k, X' k → X k ∨ w.heap.size ≤ k
theorem RToPost.into {v : Value} {w0 w w' w1 : World} {X : Nat → Prop} {g : Nat} {d' : DK} {e : Ending} (hb : Below w.heap.size w w1) (h : RToPost v w0 X g d' w1 e w') : RToPost v w0 X g d' w e w' := by
  obtain ⟨h1, X', h2, h3, h4⟩ := h
  exact ⟨h1, X', h2, (Out.of_below hb).trans h3 (fun k hk => .inl hk), fun k hk => (h4 k hk).elim .inl (fun h => .inr (Nat.le_trans hb.size h))⟩
theorem rturns_st {v : Value} {w0 w : World} {X : Nat → Prop} {g : Nat} {d d' : DK} (h : RSt w0 w X g d) {e : Ending} {w' : World} (hp : RTurns v X g d' w e w') : RToPost v w0 X g d' w e w' := by
  obtain ⟨e, X', h1, h2, h3⟩ := hp
  exact ⟨e, X', h.of h1 h2 h3, h2, h3⟩
theorem rwrite_st {w0 w : World} {X : Nat → Prop} {g : Nat} {d : DK} (h : RSt w0 w X g d) (k : Int) (b : List UInt8) (hn : d.row.length ≤ 1000000) :
    Calls Try.prog 25 #[.pointer (some ⟨g, 0, none⟩), .int .i64 k, .string (S b)] w (RToPost (.int .i64 (d.write k b).1) w0 X g (d.write k b).2 w) := (rwrite_any h.at_ k b hn).mono fun _ _ hp => rturns_st h hp
theorem rsync_st {w0 w : World} {X : Nat → Prop} {g : Nat} {d : DK} (h : RSt w0 w X g d) (hn : d.row.length ≤ 1000000) :
    Calls Try.prog 26 #[.pointer (some ⟨g, 0, none⟩)] w (RToPost (.int .i64 d.sync.1) w0 X g d.sync.2 w) := (rsync_any h.at_ hn).mono fun _ _ hp => rturns_st h hp
theorem rfuse_st {w0 w : World} {X : Nat → Prop} {g : Nat} {d : DK} (h : RSt w0 w X g d) (n : Int) (h1 : -9223372036854775808 ≤ n) (h2 : n ≤ 9223372036854775807) :
    Calls Try.prog 27 #[.pointer (some ⟨g, 0, none⟩), .int .i64 n] w (RToPost (.tuple #[]) w0 X g (d.rfuse n) w) := (rfuse_any h.at_ n h1 h2).mono fun _ _ hp => rturns_st h hp
theorem rrestart_st {w0 w : World} {X : Nat → Prop} {g : Nat} {d : DK} (h : RSt w0 w X g d) (A : Option Addr) (n c : Nat) (zs : List Int) (hr : RdI w A n zs) (hx : 0 < n → ∀ a, A = some a → ¬ X a.block) (hnz : n ≤ 1000000) (hn : d.row.length ≤ 1000000) :
    Calls Try.prog 28 #[.pointer (some ⟨g, 0, none⟩), .slice A n c] w (RToPost (.tuple #[]) w0 X g (d.restart zs) w) := (rrestart_any h.at_ A n c zs hr hx hnz hn).mono fun _ _ hp => rturns_st h hp
set_option maxRecDepth 100000 in
set_option maxHeartbeats 2000000 in
theorem told_any {w0 w : World} {X : Nat → Prop} {g : Nat} {d : DK} (h : RSt w0 w X g d) (a : Act1) (A : Option Addr) (n c : Nat) (ha : a.Ok) (hr : RdI w A n a.fates) (hx : 0 < n → ∀ p, A = some p → ¬ X p.block) (hnz : n ≤ 1000000) (hn : d.row.length ≤ 1000000) :
    Calls Try.prog 14 #[.pointer (some ⟨g, 0, none⟩), .agg (actC a (.slice A n c)).toArray] w (RToPost (.int .i64 (d.ract a).1) w0 X g (d.ract a).2 w) := by
  obtain ⟨RES, hres⟩ : ∃ RES, RES = d.ract a := ⟨_, rfl⟩
  rw [← hres]
  unfold DK.ract at hres
  have hlt := ha.do_
  obtain ⟨V, hV⟩ : ∃ V, V = w.alloc (.cells #[.int .u8 (a.do_ : Int), .int .i64 a.at_, .int .u8 (a.b.toNat : Int), .int .u8 (a.step.toNat : Int), .slice A n c] 35) := ⟨_, rfl⟩
  have hbv : Below w.heap.size w V := by rw [hV]; exact (Below.refl _ _).alloc (Nat.le_refl _) _
  have hkv : Bk V w.heap.size 35 #[.int .u8 (a.do_ : Int), .int .i64 a.at_, .int .u8 (a.b.toNat : Int), .int .u8 (a.step.toNat : Int), .slice A n c] := by rw [hV]; exact Bk.new _ _ _
  have HV := Lib.hid hV
  have HBV := Lib.hid hbv
  have HS := Lib.hid (h.below_ hbv)
  have HR := Lib.hid (hr.below hbv)
  have HX := Lib.hid hx
  have HKV := Lib.hid hkv
  have HXL : Hid (∀ k, X k → k < w.heap.size) := h.at_.lt
  have HA := Lib.hid ha
  unfold actC U
  clear h hr hx hbv hkv ha HV
  obtain ⟨r, hrr⟩ : ∃ r, r = a.do_ % 6 := ⟨_, rfl⟩
  have hr6 : r < 6 := by omega
  have hrem := act_rem a.do_ r hrr.symm
  rw [← hrr] at hres
  match r, hr6 with
  | 1, _ =>
    rw [if_neg (by decide), if_pos rfl] at hres
    have cw := rsync_st HS.out hn
    rw [← hres] at cw
    clear hres
    have hrm : (a.do_ : Int) % 6 = 1 := hrem
    clear hrem hrr hlt hr6
    subst hV
    go_enter Try.func14, Try.ntmps14
    go_wp2_with fail
    refine cw.mono ?_
    rintro e w1 ⟨rfl, X1, hs, ho, hx⟩
    have HS1 := Lib.hid hs
    have HO1 := Lib.hid ho
    have HX1 := Lib.hid hx
    clear cw hs ho hx
    go_wp2_with fail
    go_ret
    exact RToPost.into HBV.out ⟨rfl, X1, HS1.out, HO1.out, HX1.out⟩
  | 2, _ =>
    rw [if_neg (by decide), if_neg (by decide), if_pos rfl] at hres
    have cw := rfuse_st HS.out a.at_ HA.out.low HA.out.high
    have hr1 : RES.1 = 0 := by rw [hres]
    have hr2 : RES.2 = d.rfuse a.at_ := by rw [hres]
    rw [← hr2] at cw
    rw [hr1]
    clear hr1 hr2 hres
    have hrm : (a.do_ : Int) % 6 = 2 := hrem
    clear hrem hrr hlt hr6
    subst hV
    go_enter Try.func14, Try.ntmps14
    go_wp2_with fail
    refine cw.mono ?_
    rintro e w1 ⟨rfl, X1, hs, ho, hx⟩
    have HS1 := Lib.hid hs
    have HO1 := Lib.hid ho
    have HX1 := Lib.hid hx
    clear cw hs ho hx
    go_wp2_with fail
    go_ret
    exact RToPost.into HBV.out ⟨rfl, X1, HS1.out, HO1.out, HX1.out⟩
  | 3, _ =>
    rw [if_neg (by decide), if_neg (by decide), if_neg (by decide), if_pos rfl] at hres
    have hr1 : RES.1 = 0 := by rw [hres]
    have hr2 : RES.2 = d.kill := by rw [hres]
    rw [hr1, hr2]
    obtain ⟨p, cp, A2, c2, hat⟩ := HS.out.at_
    obtain ⟨-, -, -, k3, kf⟩ := hat.cells
    have HK := Lib.hid (hat.set 3 (.bool true) (d' := d.kill) rfl rfl rfl hat.ok.kill)
    have HO := Lib.hid (Out.setCell (X := X) V (p := ⟨g, 3, none⟩) hat.xg (.bool true))
    clear hr1 hr2 hres hat
    have hrm : (a.do_ : Int) % 6 = 3 := hrem
    clear hrem hrr hlt hr6
    subst hV
    go_enter Try.func14, Try.ntmps14
    go_wp2_with fail
    go_ret
    exact RToPost.into HBV.out ⟨rfl, X, HS.out.of ⟨p, cp, A2, c2, HK.out⟩ HO.out (fun k hk => .inl hk), HO.out, fun k hk => .inl hk⟩
  | 4, _ =>
    rw [if_neg (by decide), if_neg (by decide), if_neg (by decide), if_neg (by decide), if_pos rfl] at hres
    have cw := rrestart_st HS.out A n c a.fates HR.out HX.out hnz hn
    have hr1 : RES.1 = 0 := by rw [hres]
    have hr2 : RES.2 = d.restart a.fates := by rw [hres]
    rw [← hr2] at cw
    rw [hr1]
    clear hr1 hr2 hres
    have hrm : (a.do_ : Int) % 6 = 4 := hrem
    clear hrem hrr hlt hr6
    subst hV
    go_enter Try.func14, Try.ntmps14
    go_wp2_with fail
    refine cw.mono ?_
    rintro e w1 ⟨rfl, X1, hs, ho, hx⟩
    have HS1 := Lib.hid hs
    have HO1 := Lib.hid ho
    have HX1 := Lib.hid hx
    clear cw hs ho hx
    go_wp2_with fail
    go_ret
    exact RToPost.into HBV.out ⟨rfl, X1, HS1.out, HO1.out, HX1.out⟩
  | 0, _ =>
    rw [if_pos rfl] at hres
    have hrm : (a.do_ : Int) % 6 = 0 := hrem
    have HRES := Lib.hid hres
    have HVE := Lib.hid hV
    clear hrem hrr hlt hr6 hres
    subst hV
    go_enter Try.func14, Try.ntmps14
    go_wp2_with fail
    have k1 := HKV.out.cell 1
    have k2 := HKV.out.cell 2
    have k3 := HKV.out.cell 3
    have hcs : ∀ W, Calls Try.prog 19 #[.int .u8 (a.b.toNat : Int), .int .u8 (a.step.toNat : Int)] W (SheetPost a.b a.step W) := fun W => sheet_any a.b a.step W
    have HCS := Lib.hid hcs
    have B1 := Lib.hid HBV.out.drew
    have S1 : Hid (RSt w0 (w.alloc (.cells #[.int .u8 (a.do_ : Int), .int .i64 a.at_, .int .u8 (a.b.toNat : Int), .int .u8 (a.step.toNat : Int), .slice A n c] 35)).drew X g d) := HS.out.below_ (Below.refl _ _).drew
    clear hcs
    have KS := Lib.hid (And.intro k1 (And.intro k2 k3))
    generalize hWr : (w.alloc (.cells #[.int .u8 (a.do_ : Int), .int .i64 a.at_, .int .u8 (a.b.toNat : Int), .int .u8 (a.step.toNat : Int), .slice A n c] 35)) = Wr at *
    have KS2 : Hid (∀ W, Below Wr.heap.size Wr W → W.cell? ⟨w.heap.size, 1, none⟩ = some (.int .i64 a.at_) ∧ W.cell? ⟨w.heap.size, 2, none⟩ = some (.int .u8 (a.b.toNat : Int)) ∧ W.cell? ⟨w.heap.size, 3, none⟩ = some (.int .u8 (a.step.toNat : Int))) := fun W hW => ⟨(HKV.out.below hW).cell 1, (HKV.out.below hW).cell 2, (HKV.out.below hW).cell 3⟩
    have BD : Hid (Below Wr.heap.size Wr Wr.drew) := (Below.refl _ _).drew
    clear k1 k2 k3 HVE
    have KS3 : Hid (∀ W W', Below Wr.heap.size Wr W → Out X W W' → W'.cell? ⟨w.heap.size, 1, none⟩ = some (.int .i64 a.at_) ∧ W'.cell? ⟨w.heap.size, 2, none⟩ = some (.int .u8 (a.b.toNat : Int)) ∧ W'.cell? ⟨w.heap.size, 3, none⟩ = some (.int .u8 (a.step.toNat : Int))) := fun W W' hW hO => by
      have hk := (HKV.out.below hW).kept (hO.block w.heap.size (HKV.out.below hW).lt (fun hX => by have := HXL.out _ hX; omega))
      exact ⟨hk.cell 1, hk.cell 2, hk.cell 3⟩
    have HN := Lib.hid hn
    go_region_held (fun w' => w'.cell? ⟨w.heap.size, 1, none⟩ = some (.int .i64 a.at_) ∧ w'.cell? ⟨w.heap.size, 2, none⟩ = some (.int .u8 (a.b.toNat : Int)) ∧ w'.cell? ⟨w.heap.size, 3, none⟩ = some (.int .u8 (a.step.toNat : Int)))
      (first | exact KS2.out _ BD.out | exact KS2.out _ BE.out | exact KS3.out _ _ BE.out HOF.out)
      (first
        | (go_at_call 19; refine (HCS.out _).mono ?_; rintro e we ⟨gs, cs, rfl, ho, hb, hg, hl⟩; have BE : Hid (Below Wr.heap.size Wr we) := BD.out.trans (hb.mono BD.out.size); have hcv := conv_string (Rd.of_own' ho) cs; clear ho hb hg hl)
        | (go_at_call 25; refine (rwrite_st (HS.out.below_ BE.out) a.at_ (sheet a.b a.step) HN.out).mono ?_; rintro e wf ⟨rfl, X1, hs, ho, hx⟩; have HSF := Lib.hid hs; have HOF := Lib.hid ho; have HXF := Lib.hid hx; clear hs ho hx)
        | fail)
    all_goals
      go_wp2_with fail
      go_ret
      refine RToPost.into (HBV.out.trans (BE.out.mono HBV.out.size)) ⟨by rw [HRES.out]; rfl, X1, by rw [HRES.out]; exact HSF.out, HOF.out, HXF.out⟩
  | 5, _ =>
    rw [if_neg (by decide), if_neg (by decide), if_neg (by decide), if_neg (by decide), if_neg (by decide)] at hres
    have hrm : (a.do_ : Int) % 6 = 5 := hrem
    have HRES := Lib.hid hres
    have HVE := Lib.hid hV
    clear hrem hrr hlt hr6 hres
    subst hV
    go_enter Try.func14, Try.ntmps14
    go_wp2_with fail
    have k1 := HKV.out.cell 1
    have k2 := HKV.out.cell 2
    have k3 := HKV.out.cell 3
    obtain ⟨M, hM⟩ : ∃ M, M = ((List.replicate a.b.toNat (0 : UInt8)).map U).toArray := ⟨_, rfl⟩
    have hmk : ∀ W : World, (Instr.makeSlice 41 (.int .u8 (a.b.toNat : Int)) (.int .u8 (a.b.toNat : Int))).run Try.prog W = .ok (.slice (some ⟨W.heap.size, 0, none⟩) a.b.toNat a.b.toNat) (W.alloc (.cells M 5)) := by rw [hM]; exact make_u8 a.b
    have HM := Lib.hid hM
    clear hM
    have B1 := Lib.hid HBV.out.drew
    have S1 : Hid (RSt w0 (w.alloc (.cells #[.int .u8 (a.do_ : Int), .int .i64 a.at_, .int .u8 (a.b.toNat : Int), .int .u8 (a.step.toNat : Int), .slice A n c] 35)).drew X g d) := HS.out.below_ (Below.refl _ _).drew
    have KS := Lib.hid (And.intro k1 (And.intro k2 k3))
    generalize hWr : (w.alloc (.cells #[.int .u8 (a.do_ : Int), .int .i64 a.at_, .int .u8 (a.b.toNat : Int), .int .u8 (a.step.toNat : Int), .slice A n c] 35)) = Wr at *
    have KS2 : Hid (∀ W, Below Wr.heap.size Wr W → W.cell? ⟨w.heap.size, 1, none⟩ = some (.int .i64 a.at_) ∧ W.cell? ⟨w.heap.size, 2, none⟩ = some (.int .u8 (a.b.toNat : Int)) ∧ W.cell? ⟨w.heap.size, 3, none⟩ = some (.int .u8 (a.step.toNat : Int))) := fun W hW => ⟨(HKV.out.below hW).cell 1, (HKV.out.below hW).cell 2, (HKV.out.below hW).cell 3⟩
    have BD : Hid (Below Wr.heap.size Wr Wr.drew) := (Below.refl _ _).drew
    clear k1 k2 k3 HVE
    have KS3 : Hid (∀ W W', Below Wr.heap.size Wr W → Out X W W' → W'.cell? ⟨w.heap.size, 1, none⟩ = some (.int .i64 a.at_) ∧ W'.cell? ⟨w.heap.size, 2, none⟩ = some (.int .u8 (a.b.toNat : Int)) ∧ W'.cell? ⟨w.heap.size, 3, none⟩ = some (.int .u8 (a.step.toNat : Int))) := fun W W' hW hO => by
      have hk := (HKV.out.below hW).kept (hO.block w.heap.size (HKV.out.below hW).lt (fun hX => by have := HXL.out _ hX; omega))
      exact ⟨hk.cell 1, hk.cell 2, hk.cell 3⟩
    have HN := Lib.hid hn
    have HBB : Hid (a.b.toNat ≤ 1000000) := by show _ ≤ _; have := a.b.toNat_lt; omega
    have BE : Hid (Below Wr.heap.size Wr (Wr.alloc (.cells M 5)).drew) := BD.out.alloc BD.out.size _
    have HRS : Hid (Rd (Wr.alloc (.cells M 5)).drew (some ⟨Wr.heap.size, 0, none⟩) a.b.toNat (List.replicate a.b.toNat 0)) := by
      have := rd_lit Wr.drew 5 (0, 0) (List.replicate a.b.toNat 0)
      rw [List.length_replicate, ← HM.out] at this
      exact this
    have hcv := conv_string HRS.out a.b.toNat
    go_region_held (fun w' => w'.cell? ⟨w.heap.size, 1, none⟩ = some (.int .i64 a.at_) ∧ w'.cell? ⟨w.heap.size, 2, none⟩ = some (.int .u8 (a.b.toNat : Int)) ∧ w'.cell? ⟨w.heap.size, 3, none⟩ = some (.int .u8 (a.step.toNat : Int)))
      (first | exact KS2.out _ BD.out | exact KS2.out _ BE.out | exact KS3.out _ _ BE.out HOF.out)
      (first
        | (go_at_call 25; refine (rwrite_st (HS.out.below_ BE.out) a.at_ (List.replicate a.b.toNat 0) HN.out).mono ?_; rintro e wf ⟨rfl, X1, hs, ho, hx⟩; have HSF := Lib.hid hs; have HOF := Lib.hid ho; have HXF := Lib.hid hx; clear hs ho hx)
        | fail)
    all_goals
      go_wp2_with fail
      go_ret
      refine RToPost.into (HBV.out.trans (BE.out.mono HBV.out.size)) ⟨by rw [HRES.out]; rfl, X1, by rw [HRES.out]; exact HSF.out, HOF.out, HXF.out⟩
end Go.Proofs.YtjfoihbcieffdaaR.Disk
