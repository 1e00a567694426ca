/- The laws' own: does. -/
import Derived.Test.YtephciglcikllaaNetGoes
import Derived.Test.YtephciglcikllaaNetArgs
namespace Go.Proofs.Ytephciglcikllaa.Net
open Go.RowKit Disk Zab Sto

/-- An act as a value. -/
def actA (x : A1) (v : Value) : Array Value := #[.int .u8 (x.do_ : Int), .int .i64 x.i, .int .i64 x.l.fr.g, .int .i64 x.l.fr.n, .int .i64 x.l.to.g, .int .i64 x.l.to.n, v]
section
variable {w0 w W w2 : World} {O O' : Nat → Prop} {gz : Nat} {z : Nt} {N : Nat}
theorem Sn.set5 (h : Sn w0 w O gz z N) {g : Nat} (hg : ¬ O g) (hl : w0.heap.size ≤ g) (a b c d e : Value) : Sn w0 (set5 w g a b c d e) O gz z N :=
  ⟨h.nt.out (out_set5 _ _ _ _ _ _ _) fun _ hb e => hg (e ▸ hb), below_set5 h.bl hl _ _ _ _ _⟩
theorem Go_.wrap (hW : Below w.heap.size w W) (hg : Go_ O O' W w2) {g : Nat} (hl : w.heap.size ≤ g) (a b c d e : Value) : Go_ O O' w (Net.set5 w2 g a b c d e) :=
  ⟨((Out.of_below hW).trans hg.1 fun b hb => .inl hb).trans (out_set5 _ _ _ _ _ _ _) fun b hb => .inr (by subst hb; exact hl), fun b hb => (hg.2 b hb).imp id fun q => Nat.le_trans hW.size q⟩
theorem act_0 {x : A1} (h : x.do_ % 7 = 0) : z.act x = ((z.send x.l).1, lt0, (z.send x.l).2) := by unfold Nt.act; simp [h]
theorem act_1 {x : A1} (h : x.do_ % 7 = 1) : z.act x = z.take x.i := by unfold Nt.act; simp [h]
theorem act_2 {x : A1} (h : x.do_ % 7 = 2) : z.act x = ((z.drop x.i).1, lt0, (z.drop x.i).2) := by unfold Nt.act; simp [h]
theorem act_3 {x : A1} (h : x.do_ % 7 = 3) : z.act x = ((z.double x.i).1, lt0, (z.double x.i).2) := by unfold Nt.act; simp [h]
theorem act_4 {x : A1} (h : x.do_ % 7 = 4) : z.act x = ((z.hold x.i).1, lt0, (z.hold x.i).2) := by unfold Nt.act; simp [h]
theorem act_5 {x : A1} (h : x.do_ % 7 = 5) : z.act x = ((z.turn x.l.fr x.l.to true).1, lt0, (z.turn x.l.fr x.l.to true).2) := by unfold Nt.act; simp [h]
theorem act_6 {x : A1} (h : x.do_ % 7 = 6) : z.act x = ((z.turn x.l.fr x.l.to false).1, lt0, (z.turn x.l.fr x.l.to false).2) := by unfold Nt.act; simp [h]
set_option maxRecDepth 100000 in
set_option maxHeartbeats 4000000 in
theorem does_any (h : Sn w0 w O gz z N) (hN : N < 1000000) {x : A1} (hx : x.Ok) {B : Option Addr} {m c : Nat} (hr : Rd w B m x.l.bs) (hmc : m ≤ c) (hm : m ≤ 140737488355328) : Calls Try.prog 12 #[.pointer (some ⟨gz, 0, none⟩), .agg (actA x (.slice B m c))] w (TookS w0 O gz (z.act x) (N + 1) w) := by
  have hB : Below w.heap.size w ((w.alloc (.cells (actA x (.slice B m c)) 39)).alloc (.cells ltZ 37)) := ((Below.refl _ _).alloc (Nat.le_refl _) _).alloc (by simp) _
  have B1 := (Bk.new w 39 (actA x (.slice B m c))).alloc (.cells ltZ 37)
  have B2 : Bk ((w.alloc (.cells (actA x (.slice B m c)) 39)).alloc (.cells ltZ 37)) (w.heap.size + 1) 37 ltZ := by simpa using Bk.new (w.alloc (.cells (actA x (.slice B m c)) 39)) 37 ltZ
  have hs := h.later hB
  have hr1 := hr.below hB
  have k0 := B1.cell 0
  have k1 := B1.cell 1
  have k2 := B1.cell 2
  have k3 := B1.cell 3
  have k4 := B1.cell 4
  have k5 := B1.cell 5
  have k6 := B1.cell 6
  have HB := Lib.hid hB
  have HSN := Lib.hid hs
  have HR := Lib.hid hr1
  have HB2 := Lib.hid B2
  have HLOW : Hid (∀ b, O b → b < w.heap.size) := fun b hb => (h.nt.low b hb).2
  have HL0 : Hid (w0.heap.size ≤ w.heap.size) := h.bl.size
  have HE : Hid (∀ (O' : Nat → Prop) (w2 : World) (r : Nt × Lt × Int), Sn w0 w2 O' gz r.1 (N + 1) → Go_ O O' ((w.alloc (.cells (actA x (.slice B m c)) 39)).alloc (.cells ltZ 37)) w2 → ∀ B' m' k', m' ≤ k' → Rd w2 B' m' r.2.1.bs → (∀ a, B' = some a → w.heap.size + 2 ≤ a.block ∧ ¬ O' a.block) → TookS w0 O gz r (N + 1) w (.returned (.tuple #[ltV r.2.1 (.slice B' m' k'), .int .i64 r.2.2])) (Net.set5 w2 (w.heap.size + 1) (.int .i64 r.2.1.fr.g) (.int .i64 r.2.1.fr.n) (.int .i64 r.2.1.to.g) (.int .i64 r.2.1.to.n) (.slice B' m' k'))) := fun O' w2 r q1 q2 B' m' k' q3 q4 q5 => by
    have hsz : ((w.alloc (.cells (actA x (.slice B m c)) 39)).alloc (.cells ltZ 37)).heap.size = w.heap.size + 2 := by simp
    have hno : ¬ O' (w.heap.size + 1) := fun hq => by
      rcases q2.2 _ hq with hq | hq
      · have := HLOW.out _ hq; omega
      · omega
    exact ⟨O', B', m', k', rfl, q3, rd_out q4 (out_set5 _ _ _ _ _ _ _) (fun a ha h0 => by have := (q5 a ha).1; show a.block ≠ _; omega), fun a ha => ⟨by have := (q5 a ha).1; omega, (q5 a ha).2⟩, q1.set5 hno (by have := HL0.out; omega) _ _ _ _ _, Go_.wrap HB.out q2 (by omega) _ _ _ _ _⟩
  have HK : Hid (∀ (O' : Nat → Prop) (w2 : World), Go_ O O' ((w.alloc (.cells (actA x (.slice B m c)) 39)).alloc (.cells ltZ 37)) w2 → Bk w2 (w.heap.size + 1) 37 ltZ) := fun O' w2 q => HB2.out.kept (q.1.block _ HB2.out.lt fun hq => by have := HLOW.out _ hq; omega)
  have hd := hx.d
  have hd0 : (0 : Int) ≤ (x.do_ : Int) := by omega
  have hd1 : (x.do_ : Int) < 256 := by omega
  have HMC := Lib.hid hmc
  clear hB B1 B2 hs hr1 h hr hmc
  generalize hw : (w.alloc (.cells (actA x (.slice B m c)) 39)).alloc (.cells ltZ 37) = W at *
  have hW : W.heap.size = w.heap.size + 2 := by rw [← hw]; simp
  have HW := Lib.hid hW
  clear hW
  unfold actA ltZ at hw
  unfold actA at k0 k1 k2 k3 k4 k5 k6 ⊢
  obtain ⟨d, hdd⟩ : ∃ d, d = x.do_ % 7 := ⟨_, rfl⟩
  have hd7 : d < 7 := by omega
  match d, hd7, hdd with
  | 0, hd7, hdd =>
    have ha := act_0 (z := z) hdd.symm
    have hq : (x.do_ : Int) % 7 = 0 := by omega
    obtain ⟨R, hR⟩ : ∃ R, R = z.act x := ⟨_, rfl⟩
    rw [← hR] at ha ⊢
    have HA := Lib.hid ha
    clear ha hR hdd hd7
    have CC := Lib.hid (HSN.out.send (l := x.l) HR.out HMC.out hm)
    unfold ltV ltA at CC
    go_enter Try.func12, Try.ntmps12
    go_wp2_with fail
    refine CC.out.mono ?_
    rintro e w3 ⟨O', rfl, q1, q2⟩
    have HBK := Lib.hid (HK.out O' w3 q2)
    have HX : Hid (TookS w0 O gz R (N + 1) w (.returned (.tuple #[ltV lt0 (.slice none 0 0), .int .i64 (z.send x.l).2])) (Net.set5 w3 (w.heap.size + 1) (.int .i64 0) (.int .i64 0) (.int .i64 0) (.int .i64 0) (.slice none 0 0))) := by
      rw [HA.out]
      exact HE.out O' w3 ((z.send x.l).1, lt0, (z.send x.l).2) (q1.mono (Nat.le_succ _)) q2 none 0 0 (Nat.le_refl _) (Rd.nil_ _ _) (fun a ha => by cases ha)
    clear q1 q2 CC HE HK
    obtain ⟨c0, c1, c2, c3, c4⟩ := bk_cells5 HBK.out
    have kb := HBK.out.frozen
    have kf0 := kb 0
    have kf1 := kb 1
    have kf2 := kb 2
    have kf3 := kb 3
    have kf4 := kb 4
    clear kb
    go_wp2_with fail
    have hb5 := bk_set5 HBK.out (.int .i64 0) (.int .i64 0) (.int .i64 0) (.int .i64 0) (.slice none 0 0)
    refine bodyPost_ret (v := .tuple #[.agg #[.int .i64 0, .int .i64 0, .int .i64 0, .int .i64 0, .slice none 0 0], .int .i64 (z.send x.l).2]) ?_ rfl HX.out
    have k0 := hb5.cell 0
    have k1 := hb5.cell 1
    have k2 := hb5.cell 2
    have k3 := hb5.cell 3
    have k4 := hb5.cell 4
    unfold Net.set5 at k0 k1 k2 k3 k4
    simp [results, Try.results12, go_sem, k0, k1, k2, k3, k4]
  | 1, hd7, hdd =>
    have ha := act_1 (z := z) hdd.symm
    have hq : (x.do_ : Int) % 7 = 1 := by omega
    obtain ⟨R, hR⟩ : ∃ R, R = z.act x := ⟨_, rfl⟩
    rw [← hR] at ha ⊢
    have HA := Lib.hid ha
    clear ha hR hdd hd7
    have CC := Lib.hid (HSN.out.take x.i)
    go_enter Try.func12, Try.ntmps12
    go_wp2_with fail
    refine CC.out.mono ?_
    rintro e w3 ⟨O', B', m', k', rfl, q3, q4, q5, q1, q2⟩
    have HBK := Lib.hid (HK.out O' w3 q2)
    obtain ⟨r, hr0⟩ : ∃ r, r = z.take x.i := ⟨_, rfl⟩
    rw [← hr0] at q1 q4
    rw [← hr0]
    have HX : Hid (TookS w0 O gz R (N + 1) w (.returned (.tuple #[ltV r.2.1 (.slice B' m' k'), .int .i64 r.2.2])) (Net.set5 w3 (w.heap.size + 1) (.int .i64 r.2.1.fr.g) (.int .i64 r.2.1.fr.n) (.int .i64 r.2.1.to.g) (.int .i64 r.2.1.to.n) (.slice B' m' k'))) := by
      rw [HA.out, ← hr0]
      exact HE.out O' w3 r (q1.mono (Nat.le_succ _)) q2 B' m' k' q3 q4 (fun a ha => ⟨by rw [← HW.out]; exact (q5 a ha).1, (q5 a ha).2⟩)
    clear q1 q2 q3 q4 q5 CC HE HK hr0
    obtain ⟨c0, c1, c2, c3, c4⟩ := bk_cells5 HBK.out
    have kb := HBK.out.frozen
    have kf0 := kb 0
    have kf1 := kb 1
    have kf2 := kb 2
    have kf3 := kb 3
    have kf4 := kb 4
    clear kb
    unfold ltV ltA
    go_wp2_with fail
    have hb5 := bk_set5 HBK.out (.int .i64 r.2.1.fr.g) (.int .i64 r.2.1.fr.n) (.int .i64 r.2.1.to.g) (.int .i64 r.2.1.to.n) (.slice B' m' k')
    refine bodyPost_ret (v := .tuple #[.agg #[.int .i64 r.2.1.fr.g, .int .i64 r.2.1.fr.n, .int .i64 r.2.1.to.g, .int .i64 r.2.1.to.n, .slice B' m' k'], .int .i64 r.2.2]) ?_ rfl HX.out
    have k0 := hb5.cell 0
    have k1 := hb5.cell 1
    have k2 := hb5.cell 2
    have k3 := hb5.cell 3
    have k4 := hb5.cell 4
    unfold Net.set5 at k0 k1 k2 k3 k4
    simp [results, Try.results12, go_sem, k0, k1, k2, k3, k4]
  | 2, hd7, hdd =>
    have ha := act_2 (z := z) hdd.symm
    have hq : (x.do_ : Int) % 7 = 2 := by omega
    obtain ⟨R, hR⟩ : ∃ R, R = z.act x := ⟨_, rfl⟩
    rw [← hR] at ha ⊢
    have HA := Lib.hid ha
    clear ha hR hdd hd7
    have CC := Lib.hid (HSN.out.drop x.i)
    go_enter Try.func12, Try.ntmps12
    go_wp2_with fail
    refine CC.out.mono ?_
    rintro e w3 ⟨O', rfl, q1, q2⟩
    have HBK := Lib.hid (HK.out O' w3 q2)
    have HX : Hid (TookS w0 O gz R (N + 1) w (.returned (.tuple #[ltV lt0 (.slice none 0 0), .int .i64 (z.drop x.i).2])) (Net.set5 w3 (w.heap.size + 1) (.int .i64 0) (.int .i64 0) (.int .i64 0) (.int .i64 0) (.slice none 0 0))) := by
      rw [HA.out]
      exact HE.out O' w3 ((z.drop x.i).1, lt0, (z.drop x.i).2) (q1.mono (Nat.le_succ _)) q2 none 0 0 (Nat.le_refl _) (Rd.nil_ _ _) (fun a ha => by cases ha)
    clear q1 q2 CC HE HK
    obtain ⟨c0, c1, c2, c3, c4⟩ := bk_cells5 HBK.out
    have kb := HBK.out.frozen
    have kf0 := kb 0
    have kf1 := kb 1
    have kf2 := kb 2
    have kf3 := kb 3
    have kf4 := kb 4
    clear kb
    go_wp2_with fail
    have hb5 := bk_set5 HBK.out (.int .i64 0) (.int .i64 0) (.int .i64 0) (.int .i64 0) (.slice none 0 0)
    refine bodyPost_ret (v := .tuple #[.agg #[.int .i64 0, .int .i64 0, .int .i64 0, .int .i64 0, .slice none 0 0], .int .i64 (z.drop x.i).2]) ?_ rfl HX.out
    have k0 := hb5.cell 0
    have k1 := hb5.cell 1
    have k2 := hb5.cell 2
    have k3 := hb5.cell 3
    have k4 := hb5.cell 4
    unfold Net.set5 at k0 k1 k2 k3 k4
    simp [results, Try.results12, go_sem, k0, k1, k2, k3, k4]
  | 3, hd7, hdd =>
    have ha := act_3 (z := z) hdd.symm
    have hq : (x.do_ : Int) % 7 = 3 := by omega
    obtain ⟨R, hR⟩ : ∃ R, R = z.act x := ⟨_, rfl⟩
    rw [← hR] at ha ⊢
    have HA := Lib.hid ha
    clear ha hR hdd hd7
    have CC := Lib.hid (HSN.out.double x.i)
    go_enter Try.func12, Try.ntmps12
    go_wp2_with fail
    refine CC.out.mono ?_
    rintro e w3 ⟨O', rfl, q1, q2⟩
    have HBK := Lib.hid (HK.out O' w3 q2)
    have HX : Hid (TookS w0 O gz R (N + 1) w (.returned (.tuple #[ltV lt0 (.slice none 0 0), .int .i64 (z.double x.i).2])) (Net.set5 w3 (w.heap.size + 1) (.int .i64 0) (.int .i64 0) (.int .i64 0) (.int .i64 0) (.slice none 0 0))) := by
      rw [HA.out]
      exact HE.out O' w3 ((z.double x.i).1, lt0, (z.double x.i).2) (q1.mono (Nat.le_succ _)) q2 none 0 0 (Nat.le_refl _) (Rd.nil_ _ _) (fun a ha => by cases ha)
    clear q1 q2 CC HE HK
    obtain ⟨c0, c1, c2, c3, c4⟩ := bk_cells5 HBK.out
    have kb := HBK.out.frozen
    have kf0 := kb 0
    have kf1 := kb 1
    have kf2 := kb 2
    have kf3 := kb 3
    have kf4 := kb 4
    clear kb
    go_wp2_with fail
    have hb5 := bk_set5 HBK.out (.int .i64 0) (.int .i64 0) (.int .i64 0) (.int .i64 0) (.slice none 0 0)
    refine bodyPost_ret (v := .tuple #[.agg #[.int .i64 0, .int .i64 0, .int .i64 0, .int .i64 0, .slice none 0 0], .int .i64 (z.double x.i).2]) ?_ rfl HX.out
    have k0 := hb5.cell 0
    have k1 := hb5.cell 1
    have k2 := hb5.cell 2
    have k3 := hb5.cell 3
    have k4 := hb5.cell 4
    unfold Net.set5 at k0 k1 k2 k3 k4
    simp [results, Try.results12, go_sem, k0, k1, k2, k3, k4]
  | 4, hd7, hdd =>
    have ha := act_4 (z := z) hdd.symm
    have hq : (x.do_ : Int) % 7 = 4 := by omega
    obtain ⟨R, hR⟩ : ∃ R, R = z.act x := ⟨_, rfl⟩
    rw [← hR] at ha ⊢
    have HA := Lib.hid ha
    clear ha hR hdd hd7
    have CC := Lib.hid (HSN.out.hold x.i)
    go_enter Try.func12, Try.ntmps12
    go_wp2_with fail
    refine CC.out.mono ?_
    rintro e w3 ⟨O', rfl, q1, q2⟩
    have HBK := Lib.hid (HK.out O' w3 q2)
    have HX : Hid (TookS w0 O gz R (N + 1) w (.returned (.tuple #[ltV lt0 (.slice none 0 0), .int .i64 (z.hold x.i).2])) (Net.set5 w3 (w.heap.size + 1) (.int .i64 0) (.int .i64 0) (.int .i64 0) (.int .i64 0) (.slice none 0 0))) := by
      rw [HA.out]
      exact HE.out O' w3 ((z.hold x.i).1, lt0, (z.hold x.i).2) (q1.mono (Nat.le_succ _)) q2 none 0 0 (Nat.le_refl _) (Rd.nil_ _ _) (fun a ha => by cases ha)
    clear q1 q2 CC HE HK
    obtain ⟨c0, c1, c2, c3, c4⟩ := bk_cells5 HBK.out
    have kb := HBK.out.frozen
    have kf0 := kb 0
    have kf1 := kb 1
    have kf2 := kb 2
    have kf3 := kb 3
    have kf4 := kb 4
    clear kb
    go_wp2_with fail
    have hb5 := bk_set5 HBK.out (.int .i64 0) (.int .i64 0) (.int .i64 0) (.int .i64 0) (.slice none 0 0)
    refine bodyPost_ret (v := .tuple #[.agg #[.int .i64 0, .int .i64 0, .int .i64 0, .int .i64 0, .slice none 0 0], .int .i64 (z.hold x.i).2]) ?_ rfl HX.out
    have k0 := hb5.cell 0
    have k1 := hb5.cell 1
    have k2 := hb5.cell 2
    have k3 := hb5.cell 3
    have k4 := hb5.cell 4
    unfold Net.set5 at k0 k1 k2 k3 k4
    simp [results, Try.results12, go_sem, k0, k1, k2, k3, k4]
  | 5, hd7, hdd =>
    have ha := act_5 (z := z) hdd.symm
    have hq : (x.do_ : Int) % 7 = 5 := by omega
    obtain ⟨R, hR⟩ : ∃ R, R = z.act x := ⟨_, rfl⟩
    rw [← hR] at ha ⊢
    have HA := Lib.hid ha
    clear ha hR hdd hd7
    have CC := Lib.hid (HSN.out.cut hN x.l.fr x.l.to)
    unfold adV at CC
    go_enter Try.func12, Try.ntmps12
    go_wp2_with fail
    refine CC.out.mono ?_
    rintro e w3 ⟨O', rfl, q1, q2⟩
    have HBK := Lib.hid (HK.out O' w3 q2)
    have HX : Hid (TookS w0 O gz R (N + 1) w (.returned (.tuple #[ltV lt0 (.slice none 0 0), .int .i64 (z.turn x.l.fr x.l.to true).2])) (Net.set5 w3 (w.heap.size + 1) (.int .i64 0) (.int .i64 0) (.int .i64 0) (.int .i64 0) (.slice none 0 0))) := by
      rw [HA.out]
      exact HE.out O' w3 ((z.turn x.l.fr x.l.to true).1, lt0, (z.turn x.l.fr x.l.to true).2) q1 q2 none 0 0 (Nat.le_refl _) (Rd.nil_ _ _) (fun a ha => by cases ha)
    clear q1 q2 CC HE HK
    obtain ⟨c0, c1, c2, c3, c4⟩ := bk_cells5 HBK.out
    have kb := HBK.out.frozen
    have kf0 := kb 0
    have kf1 := kb 1
    have kf2 := kb 2
    have kf3 := kb 3
    have kf4 := kb 4
    clear kb
    go_wp2_with fail
    have hb5 := bk_set5 HBK.out (.int .i64 0) (.int .i64 0) (.int .i64 0) (.int .i64 0) (.slice none 0 0)
    refine bodyPost_ret (v := .tuple #[.agg #[.int .i64 0, .int .i64 0, .int .i64 0, .int .i64 0, .slice none 0 0], .int .i64 (z.turn x.l.fr x.l.to true).2]) ?_ rfl HX.out
    have k0 := hb5.cell 0
    have k1 := hb5.cell 1
    have k2 := hb5.cell 2
    have k3 := hb5.cell 3
    have k4 := hb5.cell 4
    unfold Net.set5 at k0 k1 k2 k3 k4
    simp [results, Try.results12, go_sem, k0, k1, k2, k3, k4]
  | 6, hd7, hdd =>
    have ha := act_6 (z := z) hdd.symm
    have hq : (x.do_ : Int) % 7 = 6 := by omega
    obtain ⟨R, hR⟩ : ∃ R, R = z.act x := ⟨_, rfl⟩
    rw [← hR] at ha ⊢
    have HA := Lib.hid ha
    clear ha hR hdd hd7
    have CC := Lib.hid (HSN.out.heal hN x.l.fr x.l.to)
    unfold adV at CC
    go_enter Try.func12, Try.ntmps12
    go_wp2_with fail
    refine CC.out.mono ?_
    rintro e w3 ⟨O', rfl, q1, q2⟩
    have HBK := Lib.hid (HK.out O' w3 q2)
    have HX : Hid (TookS w0 O gz R (N + 1) w (.returned (.tuple #[ltV lt0 (.slice none 0 0), .int .i64 (z.turn x.l.fr x.l.to false).2])) (Net.set5 w3 (w.heap.size + 1) (.int .i64 0) (.int .i64 0) (.int .i64 0) (.int .i64 0) (.slice none 0 0))) := by
      rw [HA.out]
      exact HE.out O' w3 ((z.turn x.l.fr x.l.to false).1, lt0, (z.turn x.l.fr x.l.to false).2) q1 q2 none 0 0 (Nat.le_refl _) (Rd.nil_ _ _) (fun a ha => by cases ha)
    clear q1 q2 CC HE HK
    obtain ⟨c0, c1, c2, c3, c4⟩ := bk_cells5 HBK.out
    have kb := HBK.out.frozen
    have kf0 := kb 0
    have kf1 := kb 1
    have kf2 := kb 2
    have kf3 := kb 3
    have kf4 := kb 4
    clear kb
    go_wp2_with fail
    have hb5 := bk_set5 HBK.out (.int .i64 0) (.int .i64 0) (.int .i64 0) (.int .i64 0) (.slice none 0 0)
    refine bodyPost_ret (v := .tuple #[.agg #[.int .i64 0, .int .i64 0, .int .i64 0, .int .i64 0, .slice none 0 0], .int .i64 (z.turn x.l.fr x.l.to false).2]) ?_ rfl HX.out
    have k0 := hb5.cell 0
    have k1 := hb5.cell 1
    have k2 := hb5.cell 2
    have k3 := hb5.cell 3
    have k4 := hb5.cell 4
    unfold Net.set5 at k0 k1 k2 k3 k4
    simp [results, Try.results12, go_sem, k0, k1, k2, k3, k4]
end
end Go.Proofs.Ytephciglcikllaa.Net
