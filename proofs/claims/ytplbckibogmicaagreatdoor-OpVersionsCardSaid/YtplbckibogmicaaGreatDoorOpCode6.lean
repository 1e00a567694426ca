/- set. -/
import Derived.Test.YtplbckibogmicaaGreatDoorOpCode5
namespace Go.Proofs.YtplbckibogmicaaGreatDoor.Opn
open Go.RowKit Path Tree

theorem zn_cells {V : World} {b : Nat} {t : TypeId} {v0 v1 v2 v3 v4 v5 v6 v7 v8 : Value} (h : Bk V b t #[v0, v1, v2, v3, v4, v5, v6, v7, v8]) : V.cell? ⟨b, 0, none⟩ = some v0 ∧ V.cell? ⟨b, 1, none⟩ = some v1 ∧ V.cell? ⟨b, 2, none⟩ = some v2 ∧ V.cell? ⟨b, 3, none⟩ = some v3 ∧ V.cell? ⟨b, 4, none⟩ = some v4 ∧ V.cell? ⟨b, 5, none⟩ = some v5 ∧ V.cell? ⟨b, 6, none⟩ = some v6 ∧ V.cell? ⟨b, 7, none⟩ = some v7 ∧ V.cell? ⟨b, 8, none⟩ = some v8 :=
  ⟨h.cell 0, h.cell 1, h.cell 2, h.cell 3, h.cell 4, h.cell 5, h.cell 6, h.cell 7, h.cell 8⟩
theorem bk_out {w w' : World} {b : Nat} {t : TypeId} {cs : Array Value} {X : Nat → Prop} (h : Bk w b t cs) (ho : Out X w w') (hX : ¬ X b) : Bk w' b t cs := h.kept (ho.block b h.lt hX)
set_option maxRecDepth 100000 in
set_option maxHeartbeats 1000000 in
theorem set_throws (g : Nat) (x : Int) (w : World)
    (c : Calls Tryz.prog 116 #[.pointer (some ⟨g, 0, none⟩)] w fun e w' => e = .panicked [{ v := .iface 25 (.int .i64 x), recovered := false }] ∧ Below w.heap.size w w') :
    Calls Tryz.prog 99 #[.pointer (some ⟨g, 0, none⟩)] w fun e w' => e = thrown x ∧ Below w.heap.size w w' := by
  unfold thrown
  go_enter Tryz.func99, Tryz.ntmps99
  go_wp2_with fail
  refine c.mono ?_
  rintro e we ⟨rfl, hb⟩
  have HB := Lib.hid hb
  clear hb c
  go_wp2_with fail
  exact ⟨rfl, rfl, HB.out⟩
set_option maxRecDepth 100000 in
set_option maxHeartbeats 2000000 in
theorem set_does {P : Nat → Prop} (n : ZN) (g : Nat) (tp : Addr) (at_ : Int) (o : O1) (Ao : Option Addr) (ko co : Nat) (ops : Value) (who : Who) (w : World) (h : Bk w g 104 (wk0 tp at_ o (.slice Ao ko co) ops who).toArray)
    (hd : DataS P w (.slice Ao ko co) o.data) (hP : ∀ j, P j → j ≠ g) (hlen : o.data.length ≤ 1000000)
    (c : Calls Tryz.prog 116 #[.pointer (some ⟨g, 0, none⟩)] w fun e w' => ∃ d', e = .returned (znV n d') ∧ Below w.heap.size w w' ∧ Copied w.heap.size w' d' n.data) :
    Calls Tryz.prog 99 #[.pointer (some ⟨g, 0, none⟩)] w fun e w' => e = .returned (.tuple #[]) ∧ Out (· = g) w w' ∧ ∃ A k c A2 k2 c2, Bk w' g 104 (wkC tp at_ o (.slice Ao ko co) ops who (.slice A k c) ⟨0, o.path, setted n o at_, []⟩ (.slice A2 k2 c2) nilS nilS).toArray ∧ OwnE (fun j => w.heap.size ≤ j) w' (.slice A k c) [⟨o.path, false, setted n o at_⟩] ∧ DataS (fun j => w.heap.size ≤ j) w' (.slice A2 k2 c2) o.data := by
  have HH := Lib.hid h
  have HD := Lib.hid hd
  have HP := Lib.hid hP
  have HL := Lib.hid hlen
  have hlt := h.lt
  have hw := up_wrap n.ver
  clear h hd hP hlen
  go_enter Tryz.func99, Tryz.ntmps99
  go_wp2_with fail
  refine c.mono ?_
  rintro e w1 ⟨d1, rfl, hb1, hc1⟩
  obtain ⟨A1, k1, c1, rfl, hcx⟩ := hc1
  have K1 := HH.out.below hb1
  have g4 : w1.cell? ⟨g, 4, none⟩ = some (.slice Ao ko co) := K1.cell 4
  have g1 : w1.cell? ⟨g, 1, none⟩ = some (.int .u64 at_) := K1.cell 1
  have hlt1 := K1.lt
  have hbA : Below w1.heap.size w1 (w1.alloc (.cells (znC (setted n o at_) (.slice Ao ko co)).toArray 39)) := (Below.refl _ _).alloc (Nat.le_refl _) _
  have HBW := Lib.hid (hb1.trans (hbA.mono hb1.size))
  have HK := Lib.hid (K1.below hbA)
  have HN : Hid (Bk (w1.alloc (.cells (znC (setted n o at_) (.slice Ao ko co)).toArray 39)) w1.heap.size 39 (znC (setted n o at_) (.slice Ao ko co)).toArray) := Bk.new _ _ _
  have HB1 := Lib.hid hb1
  clear hcx c K1 hbA hb1
  dsimp only [znV, znC, setted] at HBW HK HN ⊢
  go_wp2_with fail
  obtain ⟨W, hW⟩ : ∃ W, W = w1.alloc (.cells #[.slice Ao ko co, .int .u32 (up32 n.ver), .int .u32 n.kin, .int .u32 n.next, .int .i64 n.site, .int .u32 n.own, .int .u64 n.made, .int .u64 at_, .int .u64 n.tch] 39) := ⟨_, rfl⟩
  rw [← hW] at HBW HK HN ⊢
  obtain ⟨b, hb⟩ : ∃ b, b = w1.heap.size := ⟨_, rfl⟩
  rw [← hb] at HN ⊢
  have hgb : ¬ g = b := by omega
  have HBS : Hid (w.heap.size ≤ b) := by
    show _ ≤ _
    rw [hb]
    exact HB1.out.size
  have HC : Hid (∀ V, Below W.heap.size W V → V.cell? ⟨g, 3, none⟩ = some (.string (S o.path)) ∧ V.cell? ⟨b, 0, none⟩ = some (.slice Ao ko co) ∧ V.cell? ⟨b, 1, none⟩ = some (.int .u32 (up32 n.ver)) ∧ V.cell? ⟨b, 2, none⟩ = some (.int .u32 n.kin) ∧ V.cell? ⟨b, 3, none⟩ = some (.int .u32 n.next) ∧ V.cell? ⟨b, 4, none⟩ = some (.int .i64 n.site) ∧ V.cell? ⟨b, 5, none⟩ = some (.int .u32 n.own) ∧ V.cell? ⟨b, 6, none⟩ = some (.int .u64 n.made) ∧ V.cell? ⟨b, 7, none⟩ = some (.int .u64 at_) ∧ V.cell? ⟨b, 8, none⟩ = some (.int .u64 n.tch)) := fun V hV => by
    have k2 := (HN.out.below hV).cell
    exact ⟨(HK.out.below hV).cell 3, k2 0, k2 1, k2 2, k2 3, k2 4, k2 5, k2 6, k2 7, k2 8⟩
  have BD : Hid (Below W.heap.size W W.drew) := (Below.refl _ W).drew
  have cp := Lib.hid (put_any (P := P) o.path (setted n o at_) Ao ko co g tp at_ o (.slice Ao ko co) ops who nilS (.no 0) nilS nilS nilS (fun _ => False) [] W.drew (HK.out.below BD.out) (OwnE.nil_ _ _) (fun j hj => hj.elim) ((HD.out.below HBW.out).below BD.out) (fun j hj => ⟨HP.out j hj, fun e => by cases e⟩) HL.out (by simp))
  dsimp only [znV, znC, setted] at cp
  clear hb hW hlt hlt1 g4 g1 hw
  go_region_held3 (fun V => V.cell? ⟨g, 3, none⟩ = some (.string (S o.path)) ∧ V.cell? ⟨b, 0, none⟩ = some (.slice Ao ko co) ∧ V.cell? ⟨b, 1, none⟩ = some (.int .u32 (up32 n.ver)) ∧ V.cell? ⟨b, 2, none⟩ = some (.int .u32 n.kin) ∧ V.cell? ⟨b, 3, none⟩ = some (.int .u32 n.next) ∧ V.cell? ⟨b, 4, none⟩ = some (.int .i64 n.site) ∧ V.cell? ⟨b, 5, none⟩ = some (.int .u32 n.own) ∧ V.cell? ⟨b, 6, none⟩ = some (.int .u64 n.made) ∧ V.cell? ⟨b, 7, none⟩ = some (.int .u64 at_) ∧ V.cell? ⟨b, 8, none⟩ = some (.int .u64 n.tch))
    (first | (with_reducible assumption) | (with_reducible exact HC.out _ BD.out) | (with_reducible exact HS5.out) | (with_reducible exact HS6.out))
    (first
      | (go_at_call 114; (with_reducible refine cp.out.mono ?_); rintro e w5 ⟨d5, rfl, ⟨G, cc, hk5, ho5, hg5⟩, hc5, hu5⟩; have HK5 := Lib.hid hk5; have HO5 := Lib.hid ho5; have HC5 := Lib.hid hc5; have HU5 := Lib.hid hu5; have HN5 := Lib.hid (bk_out (bk_drew HN.out) HU5.out (fun hx => hx.elim (fun e => hgb e.symm) (fun e => by cases e))); have HS5 := Lib.hid (And.intro (show w5.cell? ⟨g, 3, none⟩ = some (.string (S o.path)) from HK5.out.cell 3) (zn_cells HN5.out)); obtain ⟨A5, k5, c5, rfl, hcx⟩ := hc5; have ca := Lib.hid (answer_any o.path (setted n o at_) A5 k5 c5 g tp at_ o (.slice Ao ko co) ops who (.slice (some ⟨G, 0, none⟩) (([] : List Ef).length + 1) cc) (.no 0) nilS nilS nilS w5 hk5); clear hk5 ho5 hu5 hcx hg5; dsimp only [znV, znC, setted] at ca ⊢)
      | (go_at_call 113; (with_reducible refine ca.out.mono ?_); rintro e w6 ⟨rfl, hk6, ho6⟩; have HK6 := Lib.hid hk6; have HO6 := Lib.hid ho6; have HS6 := Lib.hid (And.intro (show w6.cell? ⟨g, 3, none⟩ = some (.string (S o.path)) from HK6.out.cell 3) (zn_cells (bk_out HN5.out HO6.out (fun e => hgb e.symm)))); clear hk6 ho6))
  all_goals
    go_end0
    have hsw := HBW.out.size
    have hlt := HH.out.lt
    refine ⟨rfl, ((Out.of_below (X := (· = g)) (HBW.out.trans (BD.out.mono HBW.out.size))).trans HU5.out (fun j hj => .inl (hj.elim id (fun e => by cases e)))).trans HO6.out (fun j hj => .inl hj), _, _, _, _, _, _, HK6.out, ?_, ?_⟩
    · refine (HO5.out.mono fun j hj => ?_).out HO6.out (fun j hj hx => by have hx : j = g := hx; omega)
      rcases hj with hj | hj
      · exact hj.1.elim
      · have hj : W.heap.size ≤ j := hj
        omega
    · exact ((HC5.out.dataS).mono fun j hj => by have hj : W.heap.size ≤ j := hj; omega).out HO6.out (fun j hj hx => by have hx : j = g := hx; omega)
end Go.Proofs.YtplbckibogmicaaGreatDoor.Opn
