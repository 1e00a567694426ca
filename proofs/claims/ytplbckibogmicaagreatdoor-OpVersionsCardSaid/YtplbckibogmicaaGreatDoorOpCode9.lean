/- remove, when it goes well so far. -/
import Derived.Test.YtplbckibogmicaaGreatDoorOpCode8
namespace Go.Proofs.YtplbckibogmicaaGreatDoor.Opn
open Go.RowKit Path Tree

set_option maxRecDepth 100000 in
set_option maxHeartbeats 1000000 in
theorem remove_kids (i : Nat) (t : TR) (L : List (Addr × TR)) (X : Nat → Prop) (g : Nat) (tp : Addr) (at_ : Int) (o : O1) (od ops : Value) (who : Who) (n : ZN) (w : World) (h : Bk w g 104 (wk0 tp at_ o od ops who).toArray) (hT : Trees w L X) (hi : L[i]? = some (tp, t)) (hr : o.path ≠ t.root) (hp : o.path.length ≤ 1000000) (hh : has t.row o.path = true) (hk : kids t.root t.row o.path ≠ [])
    (c : ∀ W, Below w.heap.size w W → Calls Tryz.prog 116 #[.pointer (some ⟨g, 0, none⟩)] W fun e w' => ∃ d', e = .returned (znV n d') ∧ Below W.heap.size W w' ∧ Copied W.heap.size w' d' n.data) :
    Calls Tryz.prog 98 #[.pointer (some ⟨g, 0, none⟩)] w fun e w' => e = thrown 33 ∧ Below w.heap.size w w' := by
  have k0 : w.cell? ⟨g, 0, none⟩ = some (.pointer (some tp)) := h.cell 0
  have k3 : w.cell? ⟨g, 3, none⟩ = some (.string (S o.path)) := h.cell 3
  have CR := Lib.hid (fun W (hW : Below w.heap.size w W) => Root_quiet i tp t W L X (hT.below hW) hi)
  have CK := Lib.hid (fun W (hW : Below w.heap.size w W) => Kids_fresh o.path i tp t W L X (hT.below hW) hi hp hh)
  have HCN := Lib.hid c
  have HW := Lib.hid h
  have s1 := S_list o.path
  have s2 := S_list t.root
  have h1 : (o.path == t.root) = false := by simpa using hr
  have hq : 0 < (kids t.root t.row o.path).length := List.length_pos_iff.2 hk
  obtain ⟨q, hqe⟩ : ∃ q, q = (kids t.root t.row o.path).length := ⟨_, rfl⟩
  rw [← hqe] at CK hq
  clear h hT hi hr c hp hh hk hqe
  unfold thrown
  go_enter Tryz.func98, Tryz.ntmps98
  go_wp2_with fail
  go_quiet ((first | (go_at_call 46; exact Calls.quiet_of_same (CR.out _ (below_drewN (Below.refl _ w) _))) | (go_at_call 77; exact Calls.quiet_of_same (throw_nq _ _))))
  have c := HCN.out (w.drewN nq) (below_drewN (Below.refl _ w) nq)
  clear s1 s2 h1 k0 k3
  go_wp2_with fail
  refine c.mono ?_
  rintro e w1 ⟨d1, rfl, hb, _⟩
  have HB : Hid (Below w.heap.size w w1) := (below_drewN (Below.refl _ w) nq).trans hb
  have k0 : w1.cell? ⟨g, 0, none⟩ = some (.pointer (some tp)) := (HW.out.below HB.out).cell 0
  have k3 : w1.cell? ⟨g, 3, none⟩ = some (.string (S o.path)) := (HW.out.below HB.out).cell 3
  have BD : Hid (Below w1.heap.size w1 w1.drew) := (Below.refl _ w1).drew
  have ck := Lib.hid (CK.out w1.drew (HB.out.trans (BD.out.mono HB.out.size)))
  have hq1 : (0 : Int) < (q : Int) := by omega
  clear hb c
  go_wp2_with fail
  go_region_with (first
    | (go_at_call 38; (with_reducible refine ck.out.mono ?_); rintro e w5 ⟨A5, c5, rfl, hb5, _⟩; have BE : Hid (Below w.heap.size w w5) := HB.out.trans ((BD.out.trans hb5).mono HB.out.size); have k05 : w5.cell? ⟨g, 0, none⟩ = some (.pointer (some tp)) := (HW.out.below BE.out).cell 0; have k35 : w5.cell? ⟨g, 3, none⟩ = some (.string (S o.path)) := (HW.out.below BE.out).cell 3; clear hb5)
    | (go_at_call 77; refine (throw_yes _ _).mono ?_; rintro e we ⟨rfl, rfl⟩; go_wp2; refine by_the_way w ?_ ?_; exact ⟨rfl, rfl, BE.out⟩))
  all_goals trivial
set_option maxRecDepth 100000 in
set_option maxHeartbeats 2000000 in
theorem remove_does (i : Nat) (t : TR) (L : List (Addr × TR)) (X : Nat → Prop) (g : Nat) (tp : Addr) (at_ : Int) (o : O1) (od ops : Value) (who : Who) (n : ZN) (w : World) (h : Bk w g 104 (wk0 tp at_ o od ops who).toArray) (hT : Trees w L X) (hi : L[i]? = some (tp, t)) (hX : ¬ X g) (hr : o.path ≠ t.root) (hp : o.path.length ≤ 1000000) (hh : has t.row o.path = true) (hk : kids t.root t.row o.path = []) (hs : (nodeAt t (parentF o.path)).data.length ≤ 1000000)
    (c : ∀ W, Below w.heap.size w W → Calls Tryz.prog 116 #[.pointer (some ⟨g, 0, none⟩)] W fun e w' => ∃ d', e = .returned (znV n d') ∧ Below W.heap.size W w' ∧ Copied W.heap.size w' d' n.data) :
    Calls Tryz.prog 98 #[.pointer (some ⟨g, 0, none⟩)] w fun e w' => e = .returned (.tuple #[]) ∧ Out (· = g) w w' ∧ ∃ A k c, Bk w' g 104 (wkC tp at_ o od ops who (.slice A k c) ⟨0, o.path, ZN.zero, []⟩ nilS nilS nilS).toArray ∧ OwnE (fun j => w.heap.size ≤ j) w' (.slice A k c) [⟨o.path, true, ZN.zero⟩, ⟨parentF o.path, false, touched (nodeAt t (parentF o.path)) at_⟩] := by
  have k0 : w.cell? ⟨g, 0, none⟩ = some (.pointer (some tp)) := h.cell 0
  have k3 : w.cell? ⟨g, 3, none⟩ = some (.string (S o.path)) := h.cell 3
  have CR := Lib.hid (fun W (hW : Below w.heap.size w W) => Root_quiet i tp t W L X (hT.below hW) hi)
  have CK := Lib.hid (fun W (hW : Below w.heap.size w W) => Kids_fresh o.path i tp t W L X (hT.below hW) hi hp hh)
  have HCN := Lib.hid c
  have HW := Lib.hid h
  have HT := Lib.hid hT
  have HI := Lib.hid hi
  have HX := Lib.hid hX
  have HP := Lib.hid hp
  have HSM := Lib.hid hs
  have s1 := S_list o.path
  have s2 := S_list t.root
  have h1 : (o.path == t.root) = false := by simpa using hr
  rw [hk] at CK
  clear h hT hi hr c hp hh hk hX hs
  obtain ⟨i0, hi0, hz0, hz1, hz2⟩ := infos info_ef
  have HI0 := Lib.hid hi0
  have HZ0 := Lib.hid hz0
  have HZ1 := Lib.hid hz1
  have HZ2 := Lib.hid hz2
  clear hi0 hz0 hz1 hz2
  go_enter Tryz.func98, Tryz.ntmps98
  go_wp2_with fail
  go_quiet ((first | (go_at_call 46; exact Calls.quiet_of_same (CR.out _ (below_drewN (Below.refl _ w) _))) | (go_at_call 77; exact Calls.quiet_of_same (throw_nq _ _))))
  have c := HCN.out (w.drewN nq) (below_drewN (Below.refl _ w) nq)
  clear s1 s2 h1 k0 k3
  go_wp2_with fail
  refine c.mono ?_
  rintro e w1 ⟨d1, rfl, hb, _⟩
  have HB : Hid (Below w.heap.size w w1) := (below_drewN (Below.refl _ w) nq).trans hb
  have k0 : w1.cell? ⟨g, 0, none⟩ = some (.pointer (some tp)) := (HW.out.below HB.out).cell 0
  have k3 : w1.cell? ⟨g, 3, none⟩ = some (.string (S o.path)) := (HW.out.below HB.out).cell 3
  have BD : Hid (Below w1.heap.size w1 w1.drew) := (Below.refl _ w1).drew
  have ck := Lib.hid (CK.out w1.drew (HB.out.trans (BD.out.mono HB.out.size)))
  have HSD := Lib.hid (And.intro (show w1.drew.cell? ⟨g, 0, none⟩ = some (.pointer (some tp)) from k0) (show w1.drew.cell? ⟨g, 3, none⟩ = some (.string (S o.path)) from k3))
  clear hb c
  go_wp2_with fail
  go_region_held3 (fun V => V.cell? ⟨g, 0, none⟩ = some (.pointer (some tp)) ∧ V.cell? ⟨g, 3, none⟩ = some (.string (S o.path)))
    (first | (with_reducible assumption) | (with_reducible exact HSD.out) | (with_reducible exact HS5.out))
    (first
      | (go_at_call 38; (with_reducible refine ck.out.mono ?_); rintro e w5 ⟨A5, c5, rfl, hb5, _⟩; have BE : Hid (Below w.heap.size w w5) := HB.out.trans ((BD.out.trans hb5).mono HB.out.size); have HS5 := Lib.hid (And.intro (show w5.cell? ⟨g, 0, none⟩ = some (.pointer (some tp)) from (HW.out.below BE.out).cell 0) (show w5.cell? ⟨g, 3, none⟩ = some (.string (S o.path)) from (HW.out.below BE.out).cell 3)); clear hb5)
      | (go_at_call 77; refine (throw_no _ _).mono ?_; rintro e we ⟨rfl, rfl⟩))
  clear k0 k3 HSD HS5 ck
  go_wp2_with fail
  have k5 := HW.out.below BE.out
  have k3 : w5.cell? ⟨g, 3, none⟩ = some (.string (S o.path)) := k5.cell 3
  have k11 : w5.cell? ⟨g, 11, none⟩ = some (.slice none 0 0) := k5.cell 11
  have ga : ∀ ob, (w5.alloc ob).cell? ⟨g, 11, none⟩ = some (.slice none 0 0) := fun ob => (k5.alloc ob).cell 11
  have ga3 : ∀ ob, (w5.alloc ob).cell? ⟨g, 3, none⟩ = some (.string (S o.path)) := fun ob => (k5.alloc ob).cell 3
  have HK5 := Lib.hid k5
  clear k5
  go_region_law (refine step_append_lies _ (by rfl) (.tmp 36) (.tmp 43) _ (by rfl) 0 41 i0 (.agg efZ) 11 104 ty_effs HI0.out HZ0.out HZ1.out HZ2.out rfl (by decide) (.slice none 0 0) 0 [] (by rfl) ⟨rfl, .inl ⟨rfl, rfl⟩⟩ ⟨w5.heap.size, 0, none⟩ 1 1 (efC ⟨o.path, true, ZN.zero⟩ (.slice none 0 0)) (by rfl) (by rfl) (ef_new w5 ⟨o.path, true, ZN.zero⟩ (.slice none 0 0) 41) (ef_one ⟨o.path, true, ZN.zero⟩ none 0 0) (by omega) (by unfold maxLen; omega) (by omega) (Nat.zero_le _) (w5.heap.size + 1) (by simp) ?_; intro G cap w4 hown4 hg4 hat4 hlt4; have k4 := HK5.out.kept ((hg4.block g (by simp; exact Nat.lt_succ_of_lt HK5.out.lt) (by simp [Value.ownBlock])).trans (Below.heap_alloc _ _ _ HK5.out.lt)); have f4 : w4.cell? ⟨g, 11, none⟩ = some (.slice none 0 0) := k4.cell 11; have z4 : w4.frozen? ⟨g, 11, none⟩ = false := k4.frozen 11; have HK4 := Lib.hid k4; have HO4 := Lib.hid hown4; have HG4 := Lib.hid hg4; have HA4 := Lib.hid hat4; clear hown4 hg4 hat4 hlt4 k4)
  all_goals
    have hgl : g < w5.heap.size := HK5.out.lt
    have k6 := bk_set (l := wk0 tp at_ o od ops who) HK4.out 11 (.slice (some ⟨G, 0, none⟩) 1 cap)
    have e1 : (wk0 tp at_ o od ops who).set 11 (.slice (some ⟨G, 0, none⟩) 1 cap) = wkC tp at_ o od ops who (.slice (some ⟨G, 0, none⟩) 1 cap) (.no 0) nilS nilS nilS := rfl
    rw [e1] at k6
    have ho6 := (((Out.of_below (X := (· = g)) BE.out).alloc _).drew.trans (out_grown HG4.out) (fun j hj => by cases hj)).set (p := ⟨g, 11, none⟩) rfl (.slice (some ⟨G, 0, none⟩) 1 cap)
    have hoe : OwnE (fun j => w5.heap.size ≤ j) (w4.setCell ⟨g, 11, none⟩ (.slice (some ⟨G, 0, none⟩) 1 cap)) (.slice (some ⟨G, 0, none⟩) 1 cap) [⟨o.path, true, ZN.zero⟩] := by
      have hs := OwnE.snoc (Q := fun j => w5.heap.size ≤ j) (fx := .slice none 0 0) (fx' := .slice (some ⟨G, 0, none⟩) 1 cap) (xds := []) (x := ⟨o.path, true, ZN.zero⟩) (d := .slice none 0 0) (fun q hq => by cases hq) (fun y hy => by cases hy) (DataS.nil_ _ _) (by simpa using HO4.out) HG4.out (by
        rcases HA4.out with e | e
        · cases e
        · exact .inr (by rw [e]; simp [Value.ownBlock]))
      refine (hs.mono fun j hj => ?_).out ((Out.refl (· = g) w4).set (p := ⟨g, 11, none⟩) rfl (.slice (some ⟨G, 0, none⟩) 1 cap)) (fun j hj hx => by have hx : j = g := hx; omega)
      rcases hj with hj | hj
      · exact hj
      · rw [hj]; simp
    obtain ⟨w6, hw6⟩ : ∃ w6, w6 = w4.setCell ⟨g, 11, none⟩ (.slice (some ⟨G, 0, none⟩) 1 cap) := ⟨_, rfl⟩
    rw [← hw6] at k6 ho6 hoe ⊢
    have k63 : w6.cell? ⟨g, 3, none⟩ = some (.string (S o.path)) := k6.cell 3
    have HK6 := Lib.hid k6
    have HO6 := Lib.hid ho6
    have HOE6 := Lib.hid hoe
    have HGL := Lib.hid hgl
    clear k3 k11 ga ga3 f4 z4 hgl k6 ho6 hoe e1 hw6
    have cpar := Parent_any o.path w6 HP.out
    go_wp2_with fail
    refine cpar.mono ?_
    rintro e w7 ⟨rfl, hb7⟩
    have HK7 := Lib.hid (HK6.out.below hb7)
    have HB7 := Lib.hid hb7
    have k70 : w7.cell? ⟨g, 0, none⟩ = some (.pointer (some tp)) := HK7.out.cell 0
    have ho7 : Hid (Out (· = g) w w7) := HO6.out.trans (.of_below hb7) (fun j hj => .inl hj)
    have HO7 := ho7
    have cget := get_copied (parentF o.path) i tp t w7 L X (trees_out HT.out HO7.out (fun j hj e => HX.out (e ▸ hj))) HI.out (parentF_len _ HP.out)
    have HL7 : Hid (w5.heap.size ≤ w7.heap.size) := by
      show _ ≤ _
      have h1 := HG4.out.size
      have h2 := HK6.out.lt
      have h3 := hb7.size
      have h4 := (HOE6.out.blk G rfl)
      omega
    clear k63 cpar hb7 ho7
    go_wp2_with fail
    refine cget.mono ?_
    rintro e w8 ⟨A8, k8, c8, rfl, hb8, hc8⟩
    obtain ⟨n8, hn8⟩ : ∃ n8, n8 = nodeAt t (parentF o.path) := ⟨_, rfl⟩
    rw [← hn8] at hc8 ⊢
    have HSM8 : Hid (n8.data.length ≤ 1000000) := by
      show _ ≤ _
      rw [hn8]
      exact HSM.out
    have HN8 := Lib.hid hn8
    have hbA8 : Below w7.heap.size w7 (w8.alloc (.cells (znC n8 (.slice A8 k8 c8)).toArray 39)) := hb8.alloc hb8.size _
    have ct := touch_any (P := fun j => w7.heap.size ≤ j) (parentF o.path) n8 A8 k8 c8 g tp at_ o od ops who (.slice (some ⟨G, 0, none⟩) 1 cap) (.no 0) nilS nilS nilS (fun j => w5.heap.size ≤ j ∧ j < w7.heap.size) [⟨o.path, true, ZN.zero⟩] _ (HK7.out.below hbA8) ((((HOE6.out.below HB7.out).lt).below hbA8)) (fun j hj => by have := HGL.out; have := hj.1; omega) ((hc8.dataS).below ((Below.refl _ _).alloc (Nat.le_refl _) _)) (fun j hj => ⟨by have := HGL.out; have := HL7.out; omega, fun e => by have h1 := ((HOE6.out.below HB7.out).blk j e).2; omega⟩) HSM8.out (by simp)
    have HB8 := Lib.hid hbA8
    clear hb8 hc8 hbA8 cget k70 hn8
    dsimp only [znV, znC] at ct HB8 ⊢
    go_wp2_with fail
    refine ct.mono ?_
    rintro e w10 ⟨rfl, d10, ⟨⟨G2, c2, hk10, hoe10, _⟩, _, ho10⟩⟩
    have k103 : w10.cell? ⟨g, 3, none⟩ = some (.string (S o.path)) := hk10.cell 3
    have k1013 : w10.cell? ⟨g, 13, none⟩ = some (.string (S [])) := hk10.cell 13
    have z1013 : w10.frozen? ⟨g, 13, none⟩ = false := hk10.frozen 13
    have HK10 := Lib.hid hk10
    have HOE10 := Lib.hid hoe10
    have HO10 := Lib.hid ho10
    clear ct hk10 hoe10 ho10
    go_wp2_with fail
    go_end0
    have k12 := bk_set HK10.out 13 (.string (S o.path))
    have hsw5 := BE.out.size
    have hgw := HW.out.lt
    have ho12 := (Out.refl (· = g) w10).set (p := ⟨g, 13, none⟩) rfl (.string (S o.path))
    refine ⟨rfl, ?_, _, _, _, k12, ?_⟩
    · refine ((HO7.out.trans (.of_below HB8.out) (fun j hj => .inl hj)).trans HO10.out (fun j hj => ?_)).trans ho12 (fun j hj => .inl hj)
      rcases hj with hj | hj
      · exact .inl hj
      · have h1 : j = G := (Option.some.inj hj).symm
        have h2 := (HOE6.out.blk G rfl).1
        exact .inr (by rw [h1]; omega)
    · rw [← HN8.out]
      refine (HOE10.out.mono fun j hj => ?_).out ho12 (fun j hj hx => by have hx : j = g := hx; omega)
      rcases hj with hj | hj
      · exact Nat.le_trans hsw5 hj.1.1
      · have := HB8.out.size
        have := HO7.out.size
        omega
end Go.Proofs.YtplbckibogmicaaGreatDoor.Opn
