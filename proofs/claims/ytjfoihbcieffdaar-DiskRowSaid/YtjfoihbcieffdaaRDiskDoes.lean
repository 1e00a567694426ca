/- The law's own: an act. -/
import Derived.Test.YtjfoihbcieffdaaRDiskWakes
import Derived.Deep.RegionHeld3
namespace Go.Proofs.YtjfoihbcieffdaaR.Disk
open Go.RowKit

structure Act1 where
  do_ : Nat
  at_ : Int
  b : UInt8
  step : UInt8
  fates : List Int
def DK.act (d : DK) (a : Act1) : Int × DK :=
  if a.do_ % 6 = 0 then d.write a.at_ (sheet a.b a.step) else if a.do_ % 6 = 1 then d.sync else if a.do_ % 6 = 2 then (0, d.fuse a.at_) else if a.do_ % 6 = 3 then (0, d.kill) else if a.do_ % 6 = 4 then (0, d.restart a.fates) else d.write a.at_ (List.replicate a.b.toNat 0)
structure Act1.Ok (a : Act1) : Prop where
  do_ : a.do_ < 256
  low : -9223372036854775808 ≤ a.at_
  high : a.at_ ≤ 9223372036854775807
def actC (a : Act1) (F : Value) : List Value := [.int .u8 (a.do_ : Int), .int .i64 a.at_, U a.b, U a.step, F]
theorem act_rem (n k : Nat) (h : n % 6 = k) : ((n : Int) % 6) = (k : Int) := by omega
theorem make_u8 (b : UInt8) (W : World) : (Instr.makeSlice 41 (.int .u8 (b.toNat : Int)) (.int .u8 (b.toNat : Int))).run Try.prog W = .ok (.slice (some ⟨W.heap.size, 0, none⟩) b.toNat b.toNat) (W.alloc (.cells ((List.replicate b.toNat (0 : UInt8)).map U).toArray 5)) := by
  obtain ⟨i0, hi0, hi1, hi2, hi3⟩ := info_three info_byte
  have hb := b.toNat_lt
  have hmk := run_make (P := Try.prog) W 41 5 i0 _ ty_bytes hi0 hi1 .u8 .u8 b.toNat b.toNat (by omega) (Int.le_refl _) (by rw [hi3]; omega) (by omega)
  rw [Int.toNat_natCast, hi2, Nat.mul_one] at hmk
  rw [hmk]
  congr 3
  apply Array.ext_getElem?
  intro j
  unfold madeCells
  rw [Array.getElem?_map, Array.getElem?_range, List.getElem?_toArray, List.getElem?_map, List.getElem?_replicate]
  split
  · rw [Option.map_some, Option.map_some]
    congr 1
    refine get_bang _ _ _ ?_
    have e : (Value.int .u8 0).cells = #[.int .u8 0] := rfl
    rw [e]
    have e2 : j % (#[Value.int .u8 0] : Array Value).size = 0 := Nat.mod_one j
    rw [e2]
    rfl
  · rfl
theorem ToPost.into {v : Value} {w0 w w' w1 : World} {X : Nat → Prop} {g : Nat} {d' : DK} {e : Ending} (hb : Below w.heap.size w w1) (h : ToPost v w0 X g d' w1 e w') : ToPost v w0 X g d' w e w' := by
  obtain ⟨h1, X', h2, h3, h4⟩ := h
  exact ⟨h1, X', h2, (Out.of_below hb).trans h3 (fun k hk => .inl hk), fun k hk => (h4 k hk).elim .inl (fun h => .inr (Nat.le_trans hb.size h))⟩
set_option maxRecDepth 100000 in
set_option maxHeartbeats 2000000 in
theorem does_any {w0 w : World} {X : Nat → Prop} {g : Nat} {d : DK} (h : St w0 w X g d) (a : Act1) (A : Option Addr) (n c : Nat) (ha : a.Ok) (hr : RdI w A n a.fates) (hx : 0 < n → ∀ p, A = some p → ¬ X p.block) (hnz : n ≤ 1000000) (hn : d.row.length ≤ 1000000) :
    Calls Try.prog 13 #[.pointer (some ⟨g, 0, none⟩), .agg (actC a (.slice A n c)).toArray] w (ToPost (.int .i64 (d.act a).1) w0 X g (d.act a).2 w) := by
  obtain ⟨RES, hres⟩ : ∃ RES, RES = d.act a := ⟨_, rfl⟩
  rw [← hres]
  unfold DK.act at hres
  have hlt := ha.do_
  obtain ⟨V, hV⟩ : ∃ V, V = w.alloc (.cells #[.int .u8 (a.do_ : Int), .int .i64 a.at_, .int .u8 (a.b.toNat : Int), .int .u8 (a.step.toNat : Int), .slice A n c] 35) := ⟨_, rfl⟩
  have hbv : Below w.heap.size w V := by rw [hV]; exact (Below.refl _ _).alloc (Nat.le_refl _) _
  have hkv : Bk V w.heap.size 35 #[.int .u8 (a.do_ : Int), .int .i64 a.at_, .int .u8 (a.b.toNat : Int), .int .u8 (a.step.toNat : Int), .slice A n c] := by rw [hV]; exact Bk.new _ _ _
  have HV := Lib.hid hV
  have HBV := Lib.hid hbv
  have HS := Lib.hid (h.below_ hbv)
  have HR := Lib.hid (hr.below hbv)
  have HX := Lib.hid hx
  have HKV := Lib.hid hkv
  have HXL : Hid (∀ k, X k → k < w.heap.size) := h.at_.lt
  have HA := Lib.hid ha
  unfold actC U
  clear h hr hx hbv hkv ha HV
  obtain ⟨r, hrr⟩ : ∃ r, r = a.do_ % 6 := ⟨_, rfl⟩
  have hr6 : r < 6 := by omega
  have hrem := act_rem a.do_ r hrr.symm
  rw [← hrr] at hres
  match r, hr6 with
  | 1, _ =>
    rw [if_neg (by decide), if_pos rfl] at hres
    have cw := sync_st HS.out hn
    rw [← hres] at cw
    clear hres
    have hrm : (a.do_ : Int) % 6 = 1 := hrem
    clear hrem hrr hlt hr6
    subst hV
    go_enter Try.func13, Try.ntmps13
    go_wp2_with fail
    refine cw.mono ?_
    rintro e w1 ⟨rfl, X1, hs, ho, hx⟩
    have HS1 := Lib.hid hs
    have HO1 := Lib.hid ho
    have HX1 := Lib.hid hx
    clear cw hs ho hx
    go_wp2_with fail
    go_ret
    exact ToPost.into HBV.out ⟨rfl, X1, HS1.out, HO1.out, HX1.out⟩
  | 2, _ =>
    rw [if_neg (by decide), if_neg (by decide), if_pos rfl] at hres
    have cw := fuse_st HS.out a.at_ HA.out.low HA.out.high
    have hr1 : RES.1 = 0 := by rw [hres]
    have hr2 : RES.2 = d.fuse a.at_ := by rw [hres]
    rw [← hr2] at cw
    rw [hr1]
    clear hr1 hr2 hres
    have hrm : (a.do_ : Int) % 6 = 2 := hrem
    clear hrem hrr hlt hr6
    subst hV
    go_enter Try.func13, Try.ntmps13
    go_wp2_with fail
    refine cw.mono ?_
    rintro e w1 ⟨rfl, X1, hs, ho, hx⟩
    have HS1 := Lib.hid hs
    have HO1 := Lib.hid ho
    have HX1 := Lib.hid hx
    clear cw hs ho hx
    go_wp2_with fail
    go_ret
    exact ToPost.into HBV.out ⟨rfl, X1, HS1.out, HO1.out, HX1.out⟩
  | 3, _ =>
    rw [if_neg (by decide), if_neg (by decide), if_neg (by decide), if_pos rfl] at hres
    have cw := kill_st HS.out
    have hr1 : RES.1 = 0 := by rw [hres]
    have hr2 : RES.2 = d.kill := by rw [hres]
    rw [← hr2] at cw
    rw [hr1]
    clear hr1 hr2 hres
    have hrm : (a.do_ : Int) % 6 = 3 := hrem
    clear hrem hrr hlt hr6
    subst hV
    go_enter Try.func13, Try.ntmps13
    go_wp2_with fail
    refine cw.mono ?_
    rintro e w1 ⟨rfl, X1, hs, ho, hx⟩
    have HS1 := Lib.hid hs
    have HO1 := Lib.hid ho
    have HX1 := Lib.hid hx
    clear cw hs ho hx
    go_wp2_with fail
    go_ret
    exact ToPost.into HBV.out ⟨rfl, X1, HS1.out, HO1.out, HX1.out⟩
  | 4, _ =>
    rw [if_neg (by decide), if_neg (by decide), if_neg (by decide), if_neg (by decide), if_pos rfl] at hres
    have cw := restart_st HS.out A n c a.fates HR.out HX.out hnz hn
    have hr1 : RES.1 = 0 := by rw [hres]
    have hr2 : RES.2 = d.restart a.fates := by rw [hres]
    rw [← hr2] at cw
    rw [hr1]
    clear hr1 hr2 hres
    have hrm : (a.do_ : Int) % 6 = 4 := hrem
    clear hrem hrr hlt hr6
    subst hV
    go_enter Try.func13, Try.ntmps13
    go_wp2_with fail
    refine cw.mono ?_
    rintro e w1 ⟨rfl, X1, hs, ho, hx⟩
    have HS1 := Lib.hid hs
    have HO1 := Lib.hid ho
    have HX1 := Lib.hid hx
    clear cw hs ho hx
    go_wp2_with fail
    go_ret
    exact ToPost.into HBV.out ⟨rfl, X1, HS1.out, HO1.out, HX1.out⟩
  | 0, _ =>
    rw [if_pos rfl] at hres
    have hrm : (a.do_ : Int) % 6 = 0 := hrem
    have HRES := Lib.hid hres
    have HVE := Lib.hid hV
    clear hrem hrr hlt hr6 hres
    subst hV
    go_enter Try.func13, Try.ntmps13
    go_wp2_with fail
    have k1 := HKV.out.cell 1
    have k2 := HKV.out.cell 2
    have k3 := HKV.out.cell 3
    have hcs : ∀ W, Calls Try.prog 19 #[.int .u8 (a.b.toNat : Int), .int .u8 (a.step.toNat : Int)] W (SheetPost a.b a.step W) := fun W => sheet_any a.b a.step W
    have HCS := Lib.hid hcs
    have B1 := Lib.hid HBV.out.drew
    have S1 : Hid (St w0 (w.alloc (.cells #[.int .u8 (a.do_ : Int), .int .i64 a.at_, .int .u8 (a.b.toNat : Int), .int .u8 (a.step.toNat : Int), .slice A n c] 35)).drew X g d) := HS.out.below_ (Below.refl _ _).drew
    clear hcs
    have KS := Lib.hid (And.intro k1 (And.intro k2 k3))
    generalize hWr : (w.alloc (.cells #[.int .u8 (a.do_ : Int), .int .i64 a.at_, .int .u8 (a.b.toNat : Int), .int .u8 (a.step.toNat : Int), .slice A n c] 35)) = Wr at *
    have KS2 : Hid (∀ W, Below Wr.heap.size Wr W → W.cell? ⟨w.heap.size, 1, none⟩ = some (.int .i64 a.at_) ∧ W.cell? ⟨w.heap.size, 2, none⟩ = some (.int .u8 (a.b.toNat : Int)) ∧ W.cell? ⟨w.heap.size, 3, none⟩ = some (.int .u8 (a.step.toNat : Int))) := fun W hW => ⟨(HKV.out.below hW).cell 1, (HKV.out.below hW).cell 2, (HKV.out.below hW).cell 3⟩
    have BD : Hid (Below Wr.heap.size Wr Wr.drew) := (Below.refl _ _).drew
    clear k1 k2 k3 HVE
    have KS3 : Hid (∀ W W', Below Wr.heap.size Wr W → Out X W W' → W'.cell? ⟨w.heap.size, 1, none⟩ = some (.int .i64 a.at_) ∧ W'.cell? ⟨w.heap.size, 2, none⟩ = some (.int .u8 (a.b.toNat : Int)) ∧ W'.cell? ⟨w.heap.size, 3, none⟩ = some (.int .u8 (a.step.toNat : Int))) := fun W W' hW hO => by
      have hk := (HKV.out.below hW).kept (hO.block w.heap.size (HKV.out.below hW).lt (fun hX => by have := HXL.out _ hX; omega))
      exact ⟨hk.cell 1, hk.cell 2, hk.cell 3⟩
    have HN := Lib.hid hn
    go_region_held (fun w' => w'.cell? ⟨w.heap.size, 1, none⟩ = some (.int .i64 a.at_) ∧ w'.cell? ⟨w.heap.size, 2, none⟩ = some (.int .u8 (a.b.toNat : Int)) ∧ w'.cell? ⟨w.heap.size, 3, none⟩ = some (.int .u8 (a.step.toNat : Int)))
      (first | exact KS2.out _ BD.out | exact KS2.out _ BE.out | exact KS3.out _ _ BE.out HOF.out)
      (first
        | (go_at_call 19; refine (HCS.out _).mono ?_; rintro e we ⟨gs, cs, rfl, ho, hb, hg, hl⟩; have BE : Hid (Below Wr.heap.size Wr we) := BD.out.trans (hb.mono BD.out.size); have HRS := Lib.hid (Rd.of_own' ho); have HGS : Hid (Wr.heap.size ≤ gs) := (Nat.le_trans BD.out.size hg); clear ho hb hg hl)
        | (go_at_call 24; refine (write_st (HS.out.below_ BE.out) a.at_ (some ⟨gs, 0, none⟩) 512 cs (sheet a.b a.step) HRS.out (fun p hp hX => by injection hp with hp; subst hp; have h1 := HXL.out _ hX; have h2 := HGS.out; have h3 := HBV.out.size; have h1 : gs < w.heap.size := h1; omega) (by omega) HN.out).mono ?_; rintro e wf ⟨rfl, X1, hs, ho, hx⟩; have HSF := Lib.hid hs; have HOF := Lib.hid ho; have HXF := Lib.hid hx; clear hs ho hx)
        | fail)
    all_goals
      go_wp2_with fail
      go_ret
      refine ToPost.into (HBV.out.trans (BE.out.mono HBV.out.size)) ⟨by rw [HRES.out]; rfl, X1, by rw [HRES.out]; exact HSF.out, HOF.out, HXF.out⟩
  | 5, _ =>
    rw [if_neg (by decide), if_neg (by decide), if_neg (by decide), if_neg (by decide), if_neg (by decide)] at hres
    have hrm : (a.do_ : Int) % 6 = 5 := hrem
    have HRES := Lib.hid hres
    have HVE := Lib.hid hV
    clear hrem hrr hlt hr6 hres
    subst hV
    go_enter Try.func13, Try.ntmps13
    go_wp2_with fail
    have k1 := HKV.out.cell 1
    have k2 := HKV.out.cell 2
    have k3 := HKV.out.cell 3
    obtain ⟨M, hM⟩ : ∃ M, M = ((List.replicate a.b.toNat (0 : UInt8)).map U).toArray := ⟨_, rfl⟩
    have hmk : ∀ W : World, (Instr.makeSlice 41 (.int .u8 (a.b.toNat : Int)) (.int .u8 (a.b.toNat : Int))).run Try.prog W = .ok (.slice (some ⟨W.heap.size, 0, none⟩) a.b.toNat a.b.toNat) (W.alloc (.cells M 5)) := by rw [hM]; exact make_u8 a.b
    have HM := Lib.hid hM
    clear hM
    have B1 := Lib.hid HBV.out.drew
    have S1 : Hid (St w0 (w.alloc (.cells #[.int .u8 (a.do_ : Int), .int .i64 a.at_, .int .u8 (a.b.toNat : Int), .int .u8 (a.step.toNat : Int), .slice A n c] 35)).drew X g d) := HS.out.below_ (Below.refl _ _).drew
    have KS := Lib.hid (And.intro k1 (And.intro k2 k3))
    generalize hWr : (w.alloc (.cells #[.int .u8 (a.do_ : Int), .int .i64 a.at_, .int .u8 (a.b.toNat : Int), .int .u8 (a.step.toNat : Int), .slice A n c] 35)) = Wr at *
    have KS2 : Hid (∀ W, Below Wr.heap.size Wr W → W.cell? ⟨w.heap.size, 1, none⟩ = some (.int .i64 a.at_) ∧ W.cell? ⟨w.heap.size, 2, none⟩ = some (.int .u8 (a.b.toNat : Int)) ∧ W.cell? ⟨w.heap.size, 3, none⟩ = some (.int .u8 (a.step.toNat : Int))) := fun W hW => ⟨(HKV.out.below hW).cell 1, (HKV.out.below hW).cell 2, (HKV.out.below hW).cell 3⟩
    have BD : Hid (Below Wr.heap.size Wr Wr.drew) := (Below.refl _ _).drew
    clear k1 k2 k3 HVE
    have KS3 : Hid (∀ W W', Below Wr.heap.size Wr W → Out X W W' → W'.cell? ⟨w.heap.size, 1, none⟩ = some (.int .i64 a.at_) ∧ W'.cell? ⟨w.heap.size, 2, none⟩ = some (.int .u8 (a.b.toNat : Int)) ∧ W'.cell? ⟨w.heap.size, 3, none⟩ = some (.int .u8 (a.step.toNat : Int))) := fun W W' hW hO => by
      have hk := (HKV.out.below hW).kept (hO.block w.heap.size (HKV.out.below hW).lt (fun hX => by have := HXL.out _ hX; omega))
      exact ⟨hk.cell 1, hk.cell 2, hk.cell 3⟩
    have HN := Lib.hid hn
    have HBB : Hid (a.b.toNat ≤ 1000000) := by show _ ≤ _; have := a.b.toNat_lt; omega
    have BE : Hid (Below Wr.heap.size Wr (Wr.alloc (.cells M 5)).drew) := BD.out.alloc BD.out.size _
    have HRS : Hid (Rd (Wr.alloc (.cells M 5)).drew (some ⟨Wr.heap.size, 0, none⟩) a.b.toNat (List.replicate a.b.toNat 0)) := by
      have := rd_lit Wr.drew 5 (0, 0) (List.replicate a.b.toNat 0)
      rw [List.length_replicate, ← HM.out] at this
      exact this
    go_region_held (fun w' => w'.cell? ⟨w.heap.size, 1, none⟩ = some (.int .i64 a.at_) ∧ w'.cell? ⟨w.heap.size, 2, none⟩ = some (.int .u8 (a.b.toNat : Int)) ∧ w'.cell? ⟨w.heap.size, 3, none⟩ = some (.int .u8 (a.step.toNat : Int)))
      (first | exact KS2.out _ BD.out | exact KS2.out _ BE.out | exact KS3.out _ _ BE.out HOF.out)
      (first
        | (go_at_call 24; refine (write_st (HS.out.below_ BE.out) a.at_ (some ⟨Wr.heap.size, 0, none⟩) a.b.toNat a.b.toNat (List.replicate a.b.toNat 0) HRS.out (fun p hp hX => by injection hp with hp; subst hp; have h1 := HXL.out _ hX; have h3 := HBV.out.size; have h1 : Wr.heap.size < w.heap.size := h1; omega) HBB.out HN.out).mono ?_; rintro e wf ⟨rfl, X1, hs, ho, hx⟩; have HSF := Lib.hid hs; have HOF := Lib.hid ho; have HXF := Lib.hid hx; clear hs ho hx)
        | fail)
    all_goals
      go_wp2_with fail
      go_ret
      refine ToPost.into (HBV.out.trans (BE.out.mono HBV.out.size)) ⟨by rw [HRES.out]; rfl, X1, by rw [HRES.out]; exact HSF.out, HOF.out, HXF.out⟩
end Go.Proofs.YtjfoihbcieffdaaR.Disk
