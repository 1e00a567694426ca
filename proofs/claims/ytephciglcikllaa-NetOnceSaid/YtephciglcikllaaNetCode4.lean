/- net: a copy of a letter. -/
import Derived.Test.YtephciglcikllaaNetCode3
import Derived.Test.YtephciglcikllaaBClone
namespace Go.Proofs.Ytephciglcikllaa.Net
open Go.RowKit Disk Zab

/-- A letter that is answered: its bytes are new. -/
def LtP (l : Lt) (w : World) (e : Ending) (w' : World) : Prop := ∃ B m k, e = .returned (ltV l (.slice B m k)) ∧ m ≤ k ∧ Rd w' B m l.bs ∧ (∀ a, B = some a → w.heap.size ≤ a.block) ∧ Below w.heap.size w w' ∧ w'.ownsRow w.heap.size 5 1 (.slice B m k) m (l.bs.map U)
def ltZ : Array Value := #[.int .i64 0, .int .i64 0, .int .i64 0, .int .i64 0, .slice none 0 0]
theorem cell_set {V : World} {p : Addr} {v : Value} (h : V.cell? p = some v) {g : Nat} (hne : p.block ≠ g) (i : Nat) (u : Value) : (V.setCell ⟨g, i, none⟩ u).cell? p = some v := (World.cell?_of_block (Below.heap_setCell V ⟨g, i, none⟩ u p.block hne)).trans h
def set5 (V : World) (g : Nat) (u0 u1 u2 u3 u4 : Value) : World := ((((V.setCell ⟨g, 0, none⟩ u0).setCell ⟨g, 1, none⟩ u1).setCell ⟨g, 2, none⟩ u2).setCell ⟨g, 3, none⟩ u3).setCell ⟨g, 4, none⟩ u4
theorem cell_set5 {V : World} {p : Addr} {v : Value} (h : V.cell? p = some v) {g : Nat} (hne : p.block ≠ g) (u0 u1 u2 u3 u4 : Value) : (set5 V g u0 u1 u2 u3 u4).cell? p = some v := cell_set (cell_set (cell_set (cell_set (cell_set h hne _ _) hne _ _) hne _ _) hne _ _) hne _ _
theorem bk_set5 {V : World} {g : Nat} {t : TypeId} {a0 a1 a2 a3 a4 : Value} (h : Bk V g t #[a0, a1, a2, a3, a4]) (b0 b1 b2 b3 b4 : Value) : Bk (set5 V g b0 b1 b2 b3 b4) g t #[b0, b1, b2, b3, b4] := by
  unfold set5
  simpa using ((((h.set 0 b0).set 1 b1).set 2 b2).set 3 b3).set 4 b4
theorem below_set5 {B : Nat} {w V : World} (h : Below B w V) {g : Nat} (hg : B ≤ g) (b0 b1 b2 b3 b4 : Value) : Below B w (set5 V g b0 b1 b2 b3 b4) := ((((h.setCell (by simpa using hg) _).setCell (by simpa using hg) _).setCell (by simpa using hg) _).setCell (by simpa using hg) _).setCell (by simpa using hg) _
theorem out_set5 (V : World) (g : Nat) (b0 b1 b2 b3 b4 : Value) : Out (fun k => k = g) V (set5 V g b0 b1 b2 b3 b4) := by
  have e := fun (W : World) (i : Nat) (u : Value) => Out.setCell (X := fun k => k = g) W (p := ⟨g, i, none⟩) rfl u
  exact ((((e _ 0 _).trans (e _ 1 _) fun _ h => .inl h).trans (e _ 2 _) fun _ h => .inl h).trans (e _ 3 _) fun _ h => .inl h).trans (e _ 4 _) fun _ h => .inl h
theorem own_out {w w' : World} {base : Nat} {e : TypeId} {size : Nat} {v : Value} {n : Nat} {xs : List Value} {X : Nat → Prop} (h : w.ownsRow base e size v n xs) (ho : Out X w w') (hx : ∀ b, v.ownBlock = some b → ¬ X b) : w'.ownsRow base e size v n xs ∧ True := by
  refine ⟨⟨h.1, h.2.imp id ?_⟩, trivial⟩
  rintro ⟨g, cap, cur, rfl, h1, h2, h3⟩
  exact ⟨g, cap, cur, rfl, h1, (ho.block g (Array.getElem?_eq_some_iff.1 h2).1 (hx g rfl)).trans h2, h3⟩
theorem own_mono {w : World} {base base' : Nat} {e : TypeId} {size : Nat} {v : Value} {n : Nat} {xs : List Value} (h : w.ownsRow base e size v n xs) (hb : base' ≤ base) : w.ownsRow base' e size v n xs := by
  refine ⟨h.1, h.2.imp id ?_⟩
  rintro ⟨g, cap, cur, rfl, h1, h2⟩
  exact ⟨g, cap, cur, rfl, Nat.le_trans hb h1, h2⟩
set_option maxRecDepth 8000 in
set_option maxHeartbeats 1000000 in
theorem copyOf_any {w : World} {F : Nat → Prop} {p : Nat} {l : Lt} (h : LtAt w F p l) (hl : l.bs.length ≤ 2097152) : Calls Try.prog 35 #[P1 p] w (LtP l w) := by
  obtain ⟨B, m, c, hbk, hmc, hrd, -⟩ := h
  have hm : m ≤ 140737488355328 := by have := hrd.len; omega
  have hB : Below w.heap.size w (w.alloc (.cells ltZ 37)) := (Below.refl _ _).alloc (Nat.le_refl _) _
  have HC : Hid (∀ V, Below (w.alloc (.cells ltZ 37)).heap.size (w.alloc (.cells ltZ 37)) V → (V.cell? ⟨p, 0, none⟩ = some (.int .i64 l.fr.g) ∧ V.cell? ⟨p, 1, none⟩ = some (.int .i64 l.fr.n) ∧ V.cell? ⟨p, 2, none⟩ = some (.int .i64 l.to.g) ∧ V.cell? ⟨p, 3, none⟩ = some (.int .i64 l.to.n) ∧ V.cell? ⟨p, 4, none⟩ = some (.slice B m c)) ∧ Bk V w.heap.size 37 ltZ) := fun V hV =>
    ⟨⟨((hbk.below hB).below hV).cell 0, ((hbk.below hB).below hV).cell 1, ((hbk.below hB).below hV).cell 2, ((hbk.below hB).below hV).cell 3, ((hbk.below hB).below hV).cell 4⟩, (Bk.new w 37 ltZ).below hV⟩
  have CC := Lib.hid (fun V (hV : Below (w.alloc (.cells ltZ 37)).heap.size (w.alloc (.cells ltZ 37)) V) => clone_bytes B m c l.bs V ((hrd.below hB).below hV) hm)
  have HB := Lib.hid hB
  have hpn : p ≠ w.heap.size := by have := hbk.lt; omega
  have HST : Hid (∀ (V : World) (u0 u1 u2 u3 u4 : Value), (V.cell? ⟨p, 0, none⟩ = some (.int .i64 l.fr.g) ∧ V.cell? ⟨p, 1, none⟩ = some (.int .i64 l.fr.n) ∧ V.cell? ⟨p, 2, none⟩ = some (.int .i64 l.to.g) ∧ V.cell? ⟨p, 3, none⟩ = some (.int .i64 l.to.n) ∧ V.cell? ⟨p, 4, none⟩ = some (.slice B m c)) → ((((((V.setCell ⟨w.heap.size, 0, none⟩ u0).setCell ⟨w.heap.size, 1, none⟩ u1).setCell ⟨w.heap.size, 2, none⟩ u2).setCell ⟨w.heap.size, 3, none⟩ u3).setCell ⟨w.heap.size, 4, none⟩ u4).cell? ⟨p, 0, none⟩ = some (.int .i64 l.fr.g) ∧ (((((V.setCell ⟨w.heap.size, 0, none⟩ u0).setCell ⟨w.heap.size, 1, none⟩ u1).setCell ⟨w.heap.size, 2, none⟩ u2).setCell ⟨w.heap.size, 3, none⟩ u3).setCell ⟨w.heap.size, 4, none⟩ u4).cell? ⟨p, 1, none⟩ = some (.int .i64 l.fr.n) ∧ (((((V.setCell ⟨w.heap.size, 0, none⟩ u0).setCell ⟨w.heap.size, 1, none⟩ u1).setCell ⟨w.heap.size, 2, none⟩ u2).setCell ⟨w.heap.size, 3, none⟩ u3).setCell ⟨w.heap.size, 4, none⟩ u4).cell? ⟨p, 2, none⟩ = some (.int .i64 l.to.g) ∧ (((((V.setCell ⟨w.heap.size, 0, none⟩ u0).setCell ⟨w.heap.size, 1, none⟩ u1).setCell ⟨w.heap.size, 2, none⟩ u2).setCell ⟨w.heap.size, 3, none⟩ u3).setCell ⟨w.heap.size, 4, none⟩ u4).cell? ⟨p, 3, none⟩ = some (.int .i64 l.to.n) ∧ (((((V.setCell ⟨w.heap.size, 0, none⟩ u0).setCell ⟨w.heap.size, 1, none⟩ u1).setCell ⟨w.heap.size, 2, none⟩ u2).setCell ⟨w.heap.size, 3, none⟩ u3).setCell ⟨w.heap.size, 4, none⟩ u4).cell? ⟨p, 4, none⟩ = some (.slice B m c))) := fun V u0 u1 u2 u3 u4 ⟨q0, q1, q2, q3, q4⟩ =>
    ⟨cell_set5 q0 hpn _ _ _ _ _, cell_set5 q1 hpn _ _ _ _ _, cell_set5 q2 hpn _ _ _ _ _, cell_set5 q3 hpn _ _ _ _ _, cell_set5 q4 hpn _ _ _ _ _⟩
  clear hbk hrd hB
  unfold P1
  generalize hw : w.alloc (.cells ltZ 37) = W at *
  unfold ltZ at hw
  have BD := Lib.hid (below_drewN (Below.refl W.heap.size W) 1)
  have HSD := Lib.hid (HC.out W.drew BD.out).1
  obtain ⟨k0, k1, k2, k3, k4⟩ := (HC.out W (Below.refl _ _)).1
  have CC1 := Lib.hid (CC.out W.drew BD.out)
  go_enter Try.func35, Try.ntmps35
  go_wp2_with fail
  go_region_held3 (fun V => V.cell? ⟨p, 0, none⟩ = some (.int .i64 l.fr.g) ∧ V.cell? ⟨p, 1, none⟩ = some (.int .i64 l.fr.n) ∧ V.cell? ⟨p, 2, none⟩ = some (.int .i64 l.to.g) ∧ V.cell? ⟨p, 3, none⟩ = some (.int .i64 l.to.n) ∧ V.cell? ⟨p, 4, none⟩ = some (.slice B m c))
    (first | (with_reducible assumption) | (with_reducible exact HSD.out) | (with_reducible exact HS1.out) | (with_reducible exact HST.out _ _ _ _ _ _ HS1.out))
    (first | (go_at_call 43; (with_reducible refine CC1.out.mono ?_); rintro e w1 ⟨B1, m1, c1, rfl, hm1, hr1, hn1, hb1, ho1⟩; have HO1 := Lib.hid ho1; have HB1 := Lib.hid (BD.out.trans hb1); have HR1 := Lib.hid hr1; have HN1 := Lib.hid hn1; have HM1 := Lib.hid hm1; have HS1 := Lib.hid (HC.out w1 HB1.out).1; have KB := (HC.out w1 HB1.out).2; have kf0 := KB.frozen 0; have kf1 := KB.frozen 1; have kf2 := KB.frozen 2; have kf3 := KB.frozen 3; have kf4 := KB.frozen 4; have kc0 : w1.cell? ⟨w.heap.size, 0, none⟩ = some (.int .i64 0) := KB.cell 0; have kc1 : w1.cell? ⟨w.heap.size, 1, none⟩ = some (.int .i64 0) := KB.cell 1; have kc2 : w1.cell? ⟨w.heap.size, 2, none⟩ = some (.int .i64 0) := KB.cell 2; have kc3 : w1.cell? ⟨w.heap.size, 3, none⟩ = some (.int .i64 0) := KB.cell 3; have kc4 : w1.cell? ⟨w.heap.size, 4, none⟩ = some (.slice none 0 0) := KB.cell 4; have HKB := Lib.hid KB; clear KB hb1 hr1 hn1 hm1 ho1))
  have hb5 := bk_set5 HKB.out (.int .i64 l.fr.g) (.int .i64 l.fr.n) (.int .i64 l.to.g) (.int .i64 l.to.n) (.slice B1 m1 c1)
  go_wp2_with fail
  refine bodyPost_ret (results_cell_row rfl _ _ w.heap.size 37 _ (0, 0) _ rfl hb5 Try.underlying37 rfl size_letter) rfl ⟨B1, m1, c1, rfl, HM1.out, rd_out HR1.out (out_set5 _ _ _ _ _ _ _) (fun a ha h0 => ?_), fun a ha => ?_, ?_, ?_⟩
  · have h1 := HN1.out a ha
    have h2 := (HC.out W (Below.refl _ _)).2.lt
    show a.block ≠ _
    have : W.drew.heap.size = W.heap.size := rfl
    omega
  · have h1 := HN1.out a ha
    have h2 := HB.out.size
    have : W.drew.heap.size = W.heap.size := rfl
    omega
  · exact below_set5 (HB.out.trans (HB1.out.mono HB.out.size)) (Nat.le_refl _) _ _ _ _ _
  · refine own_mono (own_out HO1.out (out_set5 _ _ _ _ _ _ _) fun b hb e => ?_).1 (by have := HB.out.size; have e2 : W.drew.heap.size = W.heap.size := rfl; omega)
    have h1 := (HO1.out.lt b hb).1
    have h2 := (HC.out W (Below.refl _ _)).2.lt
    have e2 : W.drew.heap.size = W.heap.size := rfl
    omega
end Go.Proofs.Ytephciglcikllaa.Net
