/- put: one effect more. -/
import Derived.Test.YtplbckibogmicaaGreatDoorOpCode1
import Derived.Deep.RegionLaw
import Derived.Deep.AppendLies
namespace Go.Proofs.YtplbckibogmicaaGreatDoor.Opn
open Go.RowKit Path Tree

theorem out_grown {w w' : World} {row : Option Nat} (h : w.grownBy w' row) : Out (fun k => row = some k) w w' := ⟨h.os, h.tape, h.output, h.size, fun k hk hne => h.block k hk (fun e => hne e.symm)⟩
theorem copied_keep {B : Nat} {w w' : World} {d : Value} {bs : List UInt8} (h : Copied B w d bs) (hk : ∀ k, B ≤ k → k < w.heap.size → w'.heap[k]? = w.heap[k]?) : Copied B w' d bs := by
  have h2 := h.dataS.lt
  obtain ⟨A, n, c, rfl, hc, hr, hf⟩ := h
  obtain ⟨A', n', c', e, _, hP, _⟩ := h2
  injection e with e1 e2 e3
  subst e1
  subst e2
  have hb : ∀ ad, 0 < n → A = some ad → w'.heap[ad.block]? = w.heap[ad.block]? := fun ad h0 e => hk _ (hP h0 ad e).1 (hP h0 ad e).2
  refine ⟨A, n, c, rfl, hc, ⟨hr.len, fun h0 => ?_⟩, fun h0 => ?_⟩
  · obtain ⟨ad, e, hcell⟩ := hr.cells h0
    exact ⟨ad, e, fun j b hj => (World.cell?_of_block (w := w) (by rw [add_block]; exact hb ad h0 e)).trans (hcell j b hj)⟩
  · obtain ⟨g, e, hB, hfr⟩ := hf h0
    exact ⟨g, e, hB, fun j hj => (show w'.frozen? ⟨g, j, none⟩ = w.frozen? ⟨g, j, none⟩ from World.frozen?_of_block (hb ⟨g, 0, none⟩ h0 e)).trans (hfr j hj)⟩
theorem own_alloc {w : World} {base : Nat} {e : TypeId} {v : Value} {n : Nat} {xs : List Value} (h : w.ownsRow base e 11 v n xs) (o : Obj) : (w.alloc o).ownsRow base e 11 v n xs := own_keep h ((Below.refl _ _).alloc (Nat.le_refl _) o)
/-- What put leaves. -/
structure PutPost (p : List UInt8) (n : ZN) (g : Nat) (tp : Addr) (at_ : Int) (o : O1) (od ops : Value) (who : Who) (fx : Value) (r : R1) (rd rk rp : Value) (Q : Nat → Prop) (xs : List Ef) (w : World) (d' : Value) (w' : World) : Prop where
  wk : ∃ G c, Bk w' g 104 (wkC tp at_ o od ops who (.slice (some ⟨G, 0, none⟩) (xs.length + 1) c) r rd rk rp).toArray ∧ OwnE (fun j => (Q j ∧ j < w.heap.size) ∨ w.heap.size ≤ j) w' (.slice (some ⟨G, 0, none⟩) (xs.length + 1) c) (xs ++ [⟨p, false, n⟩]) ∧ (fx.ownBlock = some G ∨ w.heap.size ≤ G)
  data : Copied w.heap.size w' d' n.data
  out : Out (fun k => k = g ∨ fx.ownBlock = some k) w w'
set_option maxRecDepth 100000 in
set_option maxHeartbeats 2000000 in
theorem put_any {P : Nat → Prop} (p : List UInt8) (n : ZN) (A : Option Addr) (k c : Nat) (g : Nat) (tp : Addr) (at_ : Int) (o : O1) (od ops : Value) (who : Who) (fx : Value) (r : R1) (rd rk rp : Value) (Q : Nat → Prop) (xs : List Ef) (w : World)
    (h : Bk w g 104 (wkC tp at_ o od ops who fx r rd rk rp).toArray) (hE : OwnE Q w fx xs) (hQ : ∀ j, Q j → j ≠ g) (hd : DataS P w (.slice A k c) n.data) (hP : ∀ j, P j → j ≠ g ∧ fx.ownBlock ≠ some j) (hlen : n.data.length ≤ 1000000) (hxs : xs.length ≤ 1000) :
    Calls Tryz.prog 114 #[.pointer (some ⟨g, 0, none⟩), .string (S p), znV n (.slice A k c)] w fun e w' => ∃ d', e = .returned (znV n d') ∧ PutPost p n g tp at_ o od ops who fx r rd rk rp Q xs w d' w' := by
  obtain ⟨i0, hi0, hz0, hz1, hz2⟩ := infos info_ef
  have HI := Lib.hid hi0
  have HZ0 := Lib.hid hz0
  have HZ1 := Lib.hid hz1
  have HZ2 := Lib.hid hz2
  clear hi0 hz0 hz1 hz2
  have hlt := h.lt
  have hbA : Below w.heap.size w ((w.alloc (.cells (znC n (.slice A k c)).toArray 39)).alloc (.cells (znC ZN.zero (.slice none 0 0)).toArray 39)) := ((Below.refl _ _).alloc (Nat.le_refl _) _).alloc (by simp) _
  have K1 := h.below hbA
  have K2 : Bk ((w.alloc (.cells (znC n (.slice A k c)).toArray 39)).alloc (.cells (znC ZN.zero (.slice none 0 0)).toArray 39)) w.heap.size 39 (znC n (.slice A k c)).toArray := (Bk.new _ _ _).alloc _
  have K3 : Bk ((w.alloc (.cells (znC n (.slice A k c)).toArray 39)).alloc (.cells (znC ZN.zero (.slice none 0 0)).toArray 39)) (w.heap.size + 1) 39 (znC ZN.zero (.slice none 0 0)).toArray := by
    have := Bk.new (w.alloc (.cells (znC n (.slice A k c)).toArray 39)) 39 (znC ZN.zero (.slice none 0 0)).toArray
    simpa using this
  have HBA := Lib.hid hbA
  have HE := Lib.hid (hE.lt.below hbA)
  have HD := Lib.hid ((hd.lt).below hbA)
  have HFB := Lib.hid (hE.blk)
  have HP := Lib.hid hP
  have HL := Lib.hid hlen
  have HXS := Lib.hid hxs
  have HQ := Lib.hid hQ
  have hsz2 : ((w.alloc (.cells (znC n (.slice A k c)).toArray 39)).alloc (.cells (znC ZN.zero (.slice none 0 0)).toArray 39)).heap.size = w.heap.size + 2 := by simp
  have HSZ := Lib.hid hsz2
  clear h hbA hE hd hP hlen hxs hQ hsz2
  unfold znV
  dsimp only [znC, ZN.zero] at K1 K2 K3 HBA HE HD HSZ ⊢
  go_enter Tryz.func114, Tryz.ntmps114
  go_wp2_with fail
  obtain ⟨W, hW⟩ : ∃ W, W = (w.alloc (.cells #[.slice A k c, .int .u32 n.ver, .int .u32 n.kin, .int .u32 n.next, .int .i64 n.site, .int .u32 n.own, .int .u64 n.made, .int .u64 n.chg, .int .u64 n.tch] 39)).alloc (.cells #[.slice none 0 0, .int .u32 0, .int .u32 0, .int .u32 0, .int .i64 0, .int .u32 0, .int .u64 0, .int .u64 0, .int .u64 0] 39) := ⟨_, rfl⟩
  rw [← hW] at K1 K2 K3 HBA HE HD HSZ ⊢
  clear hW
  obtain ⟨b, hb⟩ : ∃ b, b = w.heap.size := ⟨_, rfl⟩
  have HWZ : Hid (W.heap.size = b + 2) := by
    show _ = _
    rw [HSZ.out, hb]
  have HBS := Lib.hid hb
  rw [← hb] at K2 K3 hlt ⊢
  clear hb
  have K1h := Lib.hid K1
  have K2h := Lib.hid K2
  have K3h := Lib.hid K3
  have hne : ¬ g = b := by omega
  have hne' : ¬ b = g := by omega
  have HLT := Lib.hid hlt
  have BD : Hid (Below W.heap.size W W.drew) := (Below.refl _ _).drew
  have CC := Lib.hid (fun V (hV : Below W.heap.size W V) => copy_any n (.slice A k c) V (HD.out.below hV) HL.out)
  dsimp only [znV, znC] at CC
  obtain ⟨xds, hxd, hown, hqq, hdd⟩ := HE.out
  have HQQ := Lib.hid hqq
  have HXD := Lib.hid hxd
  have HOWN := Lib.hid hown
  have HDD := Lib.hid hdd
  have g11 : W.cell? ⟨g, 11, none⟩ = some fx := K1.cell 11
  have bc := K2.cell
  have KG : Hid (∀ V, Below W.heap.size W V → V.cell? ⟨g, 11, none⟩ = some fx) := fun V hV => (K1.below hV).cell 11
  have KF4 : Hid (∀ V V', Below W.heap.size W V → V.grownBy V' fx.ownBlock → V'.cell? ⟨g, 11, none⟩ = some fx ∧ V'.frozen? ⟨g, 11, none⟩ = false) := fun V V' hV hG => by
    have hgf : some g ≠ fx.ownBlock := fun e => HQ.out g (HFB.out g e.symm).1 rfl
    have k1 := ((K1.below hV).kept (hG.block g (K1.below hV).lt hgf))
    exact ⟨k1.cell 11, k1.frozen 11⟩
  clear K1 K2 K3 hlt hxd hown hqq hdd
  go_region_law (first
      | (go_simp; go_at_call 127; refine (CC.out _ BD.out).mono ?_; rintro e we ⟨d', rfl, hb2, hc2⟩; have BE : Hid (Below W.heap.size W we) := BD.out.trans (hb2.mono (by simp)); have BA : Hid (∀ o, Below W.heap.size W (we.alloc o)) := (fun o => BE.out.alloc BE.out.size o); have HC2 := Lib.hid hc2; obtain ⟨A2, k2, c2, rfl, hc3⟩ := hc2; have ge := KG.out we BE.out; have ga := (fun o => KG.out (we.alloc o) (BA.out o)); clear hb2 hc3)
      | (refine step_append_lies _ (by rfl) (.tmp 11) (.tmp 16) _ (by rfl) 0 41 i0 (.agg efZ) 11 104 ty_effs HI.out HZ0.out HZ1.out HZ2.out rfl (by decide) fx xs.length _ (by rfl) (own_alloc (own_keep HOWN.out BE.out) _) ⟨we.heap.size, 0, none⟩ 1 1 (efC ⟨p, false, n⟩ (.slice A2 k2 c2)) (by rfl) (by rfl) (ef_new we ⟨p, false, n⟩ (.slice A2 k2 c2) 41) (ef_one ⟨p, false, n⟩ A2 k2 c2) (by omega) (by have := HXS.out; unfold maxLen; omega) (by have := HXS.out; omega) (Nat.zero_le _) (we.heap.size + 1) (by simp) ?_; intro G cap w4 hown4 hg4 hat4 hlt4; obtain ⟨f4, z4⟩ := KF4.out _ w4 (BA.out _) hg4; have HO4 := Lib.hid hown4; have HG4 := Lib.hid hg4; have HA4 := Lib.hid hat4; have HL4 := Lib.hid hlt4; clear hown4 hg4 hat4 hlt4))
  all_goals
    have hgf : some g ≠ fx.ownBlock := fun e => HQ.out g (HFB.out g e.symm).1 rfl
    have hbf : some b ≠ fx.ownBlock := fun e => by have := (HFB.out b e.symm).2; have := HBS.out; omega
    have hb1f : some (b + 1) ≠ fx.ownBlock := fun e => by have := (HFB.out (b + 1) e.symm).2; have := HBS.out; omega
    have HO := Lib.hid (((Out.of_below (X := fun j => j = g ∨ fx.ownBlock = some j) (HBA.out.trans ((BA.out _).mono HBA.out.size))).trans (out_grown HG4.out) (fun j hj => .inl (.inr hj))).set (p := ⟨g, 11, none⟩) (.inl rfl) (.slice (some ⟨G, 0, none⟩) (xs.length + 1) cap))
    have q1 := ((K1h.out.below (BA.out _)).kept (HG4.out.block g (K1h.out.below (BA.out _)).lt hgf))
    have q2 := ((K2h.out.below (BA.out _)).kept (HG4.out.block b (K2h.out.below (BA.out _)).lt hbf)).kept (heap_setCell_ne w4 g 11 b (.slice (some ⟨G, 0, none⟩) (xs.length + 1) cap) hne')
    have q3 := ((K3h.out.below (BA.out _)).kept (HG4.out.block (b + 1) (K3h.out.below (BA.out _)).lt hb1f)).kept (heap_setCell_ne w4 g 11 (b + 1) (.slice (some ⟨G, 0, none⟩) (xs.length + 1) cap) (by have := HLT.out; omega))
    have q1x := bk_set q1 11 (.slice (some ⟨G, 0, none⟩) (xs.length + 1) cap)
    have e1 : (wkC tp at_ o od ops who fx r rd rk rp).set 11 (.slice (some ⟨G, 0, none⟩) (xs.length + 1) cap) = wkC tp at_ o od ops who (.slice (some ⟨G, 0, none⟩) (xs.length + 1) cap) r rd rk rp := rfl
    rw [e1] at q1x
    have HK1 := Lib.hid q1x
    have HK2 := Lib.hid q2
    have HK3 := Lib.hid q3
    have HD5 : Hid (DataS (fun j => P j ∧ j < w.heap.size) (w4.setCell ⟨g, 11, none⟩ (.slice (some ⟨G, 0, none⟩) (xs.length + 1) cap)) (.slice A k c) n.data) := HD.out.out (X := fun j => j = g ∨ fx.ownBlock = some j) (((Out.of_below (BA.out _)).trans (out_grown HG4.out) (fun j hj => .inl (.inr hj))).set (p := ⟨g, 11, none⟩) (.inl rfl) _) (fun j hj hx => hx.elim (HP.out j hj.1).1 (HP.out j hj.1).2)
    have HOE : Hid (OwnE (fun j => (Q j ∧ j < w.heap.size) ∨ b + 2 ≤ j) (w4.setCell ⟨g, 11, none⟩ (.slice (some ⟨G, 0, none⟩) (xs.length + 1) cap)) (.slice (some ⟨G, 0, none⟩) (xs.length + 1) cap) (xs ++ [⟨p, false, n⟩])) := by
      have hl : xds.length = xs.length := by rw [← HXD.out, List.length_map]
      have hwe := BE.out.size
      have hwz := HWZ.out
      have hs := OwnE.snoc (w := we.alloc (.cells (efC ⟨p, false, n⟩ (.slice A2 k2 c2)).toArray 41)) (fx := fx) (fx' := .slice (some ⟨G, 0, none⟩) (xs.length + 1) cap) (xds := xds) (x := ⟨p, false, n⟩) (d := .slice A2 k2 c2) (Q := fun j => (Q j ∧ j < w.heap.size) ∨ b + 2 ≤ j)
        (fun q hq => .inl (HQQ.out q hq)) (fun y hy => ((HDD.out y hy).below (BA.out _)).mono fun j hj => ⟨.inl hj.1, hj.2⟩)
        ((HC2.out.dataS.below ((Below.refl _ _).alloc (Nat.le_refl _) _)).mono fun j hj => ⟨.inr (by have h : W.heap.size ≤ j := hj; omega), fun e => by have h : W.heap.size ≤ j := hj; have := (HFB.out j e).2; have := HBS.out; omega⟩)
        (by rw [hl, List.flatMap_append]; simpa using HO4.out) HG4.out (by
          rcases HA4.out with e | e
          · exact .inl e.symm
          · exact .inr (by rw [e]; simp [Value.ownBlock]))
      rw [HXD.out] at hs
      refine (hs.mono fun j hj => ?_).out ((Out.refl (· = g) _).set (p := ⟨g, 11, none⟩) rfl _) (fun j hj hx => ?_)
      · rcases hj with hj | hj
        · exact hj
        · exact .inr (by rw [hj]; simp; omega)
      · have hx : j = g := hx
        rcases hj with hj | hj
        · exact HQ.out j hj.1 hx
        · have := HLT.out; omega
    have HGA : Hid (fx.ownBlock = some G ∨ w.heap.size ≤ G) := by
      rcases HA4.out with e | e
      · exact .inl e
      · exact .inr (by have := BE.out.size; have := HWZ.out; have := HBS.out; omega)
    have kc := q2.cell
    have hl4 : b + 2 ≤ (w4.setCell ⟨g, 11, none⟩ (.slice (some ⟨G, 0, none⟩) (xs.length + 1) cap)).heap.size := by
      have h1 := (BA.out (.cells #[] 0)).size
      have h2 := q3.lt
      have h3 := HG4.out.size
      have h4 := BE.out.size
      have h5 := HWZ.out
      simp at h3 ⊢
      omega
    have HL4' := Lib.hid hl4
    obtain ⟨w5, hw5⟩ : ∃ w5, w5 = w4.setCell ⟨g, 11, none⟩ (.slice (some ⟨G, 0, none⟩) (xs.length + 1) cap) := ⟨_, rfl⟩
    rw [← hw5] at HO HK1 HK2 HK3 HD5 HOE kc HL4' ⊢
    clear hgf hbf hb1f q1 q2 q3 q1x e1 g11 bc ge ga f4 z4 hl4 hw5
    have c2' := copy_any n (.slice A k c) w5 HD5.out HL.out
    dsimp only [znV, znC] at c2' kc
    go_wp2_with fail
    refine c2'.mono ?_
    rintro e w6 ⟨d6, rfl, hb6, hc6⟩
    have HB6 := Lib.hid hb6
    have HC6 := Lib.hid hc6
    obtain ⟨A6, k6, c6, rfl, hcx⟩ := hc6
    have q3 := HK3.out.below hb6
    have kc3 := q3.cell
    have kf3 := q3.frozen
    have HK36 := Lib.hid q3
    clear hb6 hcx c2' kc q3
    go_wp2_with fail
    have hh := set9 HK36.out (.slice A6 k6 c6) (.int .u32 n.ver) (.int .u32 n.kin) (.int .u32 n.next) (.int .i64 n.site) (.int .u32 n.own) (.int .u64 n.made) (.int .u64 n.chg) (.int .u64 n.tch)
    refine bodyPost_ret (results_cell_row rfl _ _ (b + 1) 39 _ (0, 0) _ rfl hh Tryz.underlying39 rfl size_znode) rfl ?_
    have h9 := (((((((((Out.refl (· = b + 1) w6).set (p := ⟨b + 1, 0, none⟩) rfl (.slice A6 k6 c6)).set (p := ⟨b + 1, 1, none⟩) rfl (.int .u32 n.ver)).set (p := ⟨b + 1, 2, none⟩) rfl (.int .u32 n.kin)).set (p := ⟨b + 1, 3, none⟩) rfl (.int .u32 n.next)).set (p := ⟨b + 1, 4, none⟩) rfl (.int .i64 n.site)).set (p := ⟨b + 1, 5, none⟩) rfl (.int .u32 n.own)).set (p := ⟨b + 1, 6, none⟩) rfl (.int .u64 n.made)).set (p := ⟨b + 1, 7, none⟩) rfl (.int .u64 n.chg)).set (p := ⟨b + 1, 8, none⟩) rfl (.int .u64 n.tch)
    have hlt := HLT.out
    have hbs := HBS.out
    have hl5 := HL4'.out
    refine ⟨.slice A6 k6 c6, rfl, ⟨G, cap, ?_, ?_, HGA.out⟩, ?_, ?_⟩
    · exact (HK1.out.below HB6.out).kept (h9.block g (HK1.out.below HB6.out).lt (by omega))
    · refine ((HOE.out.below HB6.out).out h9 (fun j hj hx => ?_)).mono (fun j hj => ?_)
      · have hx : j = b + 1 := hx
        rcases hj with hj | hj
        · have := hj.2; omega
        · omega
      · rcases hj with hj | hj
        · exact .inl hj
        · exact .inr (by omega)
    · exact (copied_keep HC6.out fun j hj hz => h9.block j hz (by omega)).mono (by omega)
    · exact (HO.out.trans (X' := fun _ => False) (.of_below HB6.out) (fun _ h => h.elim)).trans h9 (fun j hj => .inr (by have hj : j = b + 1 := hj; omega))
end Go.Proofs.YtplbckibogmicaaGreatDoor.Opn
