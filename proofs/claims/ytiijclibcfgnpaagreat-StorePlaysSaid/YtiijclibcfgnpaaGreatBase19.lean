/- Lemmas, part 19: StoBecome, StoRecs, StoDeedOf, StoForeign -/
import Derived.Test.YtiijclibcfgnpaaGreatBase18
import Derived.Test.YtiijclibcfgnpaaGreatBase17
namespace Go.Proofs.YtiijclibcfgnpaaGreat.Sto
open Go.RowKit Disk Log

theorem fine_small {k : Kp} (h : Fine k) : Small k.lines := ⟨by have := h.many; omega, fun x hx => by have := (lineB_iff.1 (h.each x hx).1).2.2.2; omega⟩
theorem KpAt.mono {P Q : Nat → Prop} {w : World} {g : Nat} {k : Kp} (h : KpAt P w g k) (hq : ∀ b, P b → Q b) : KpAt Q w g k := by
  obtain ⟨A, c, h1, h2, h3⟩ := h.at_
  exact ⟨A, c, h1, h2.mono hq, h3⟩
theorem KpAt.lt {P : Nat → Prop} {w : World} {g : Nat} {k : Kp} (h : KpAt P w g k) : g < w.heap.size := by
  obtain ⟨A, c, h1, _⟩ := h.at_
  exact h1.lt
theorem KpAt.out {P X : Nat → Prop} {w w' : World} {g : Nat} {k : Kp} (h : KpAt P w g k) (ho : Out X w w') (hg : ¬ X g) (hx : ∀ b, P b → ¬ X b) : KpAt P w' g k := by
  obtain ⟨A, c, h1, h2, h3⟩ := h.at_
  exact ⟨A, c, bk_out' h1 ho hg, h2.out ho hx, h3⟩
theorem KpAt.below {P : Nat → Prop} {w w' : World} {g : Nat} {k : Kp} (h : KpAt P w g k) (hb : Below w.heap.size w w') : KpAt P w' g k :=
  h.out (X := fun _ => False) (Out.of_below hb) (fun q => q) fun _ _ q => q
def BecomePost (Q : Nat → Prop) (g : Nat) (a : Kp) (w : World) (e : Ending) (w' : World) : Prop :=
  e = .returned (.tuple #[]) ∧ KpAt (fun b => Q b ∨ w.heap.size ≤ b) w' g a ∧ Out (· = g) w w'
set_option maxRecDepth 8000 in
set_option maxHeartbeats 2000000 in
theorem become_run (P Q : Nat → Prop) (g b : Nat) (a : Kp) (A : Option Addr) (c : Nat) (w : World) (hk : KpAt Q w g Kp.zero) (hb : Bk w b 83 #[.int .u64 (a.promised : Int), .int .u64 (a.current : Int), .slice A a.lines.length c]) (hl : LnS P w A a.lines.length a.lines) (ha : Fine a) (hp : 0 < a.promised) (hgb : b ≠ g) (hgp : ¬ P g) (hgq : ¬ Q g) :
    Calls Tryz.prog 254 #[.pointer (some ⟨g, 0, none⟩), .pointer (some ⟨b, 0, none⟩)] w (BecomePost Q g a w) := by
  have HK := Lib.hid hk
  have HB := Lib.hid hb
  have HL := Lib.hid hl
  have HFA := Lib.hid ha
  have HP : Hid (0 < a.promised) := hp
  have HC : Hid (∀ V, Below w.heap.size w V → V.cell? ⟨b, 0, none⟩ = some (.int .u64 (a.promised : Int)) ∧ V.cell? ⟨b, 1, none⟩ = some (.int .u64 (a.current : Int)) ∧ V.cell? ⟨b, 2, none⟩ = some (.slice A a.lines.length c)) := fun V hV => ⟨(hb.below hV).cell 0, (hb.below hV).cell 1, (hb.below hV).cell 2⟩
  have HCO : Hid (∀ V, Out (· = g) w V → V.cell? ⟨b, 0, none⟩ = some (.int .u64 (a.promised : Int)) ∧ V.cell? ⟨b, 1, none⟩ = some (.int .u64 (a.current : Int)) ∧ V.cell? ⟨b, 2, none⟩ = some (.slice A a.lines.length c)) := fun V hV => ⟨(bk_out' hb hV hgb).cell 0, (bk_out' hb hV hgb).cell 1, (bk_out' hb hV hgb).cell 2⟩
  obtain ⟨k0, k1, k2⟩ := HC.out w (Below.refl _ _)
  have kg : w.cell? ⟨g, 0, none⟩ = some (.int .u64 0) := by
    obtain ⟨A0, c0, hg, _⟩ := hk.at_
    exact hg.cell 0
  have HGL : Hid (g < w.heap.size) := hk.lt
  have CM := Lib.hid (adopt_make P a.current a.lines A c w hl)
  have CR : Hid (∀ W v, Below w.heap.size w W → DeedV (fun b => P b ∨ w.heap.size ≤ b) W v (.deed (.adopt a.current a.lines)) → ∃ b1 b2, v = .func (.func 145) #[] #[.pointer (some ⟨b1, 0, none⟩), .pointer (some ⟨b2, 0, none⟩)] ∧ Calls Tryz.prog 145 #[.pointer (some ⟨g, 0, none⟩), .pointer (some ⟨b1, 0, none⟩), .pointer (some ⟨b2, 0, none⟩)] W (RanPost Q g Kp.zero (.adopt a.current a.lines) W)) := fun W v hW hv => by
    obtain ⟨b1, b2, A1, c1, rfl, q2, q3, q4, q5, q6⟩ := hv
    have hne : ∀ j, (P j ∨ w.heap.size ≤ j) → j ≠ g := fun j hj e => by
      rcases hj with hj | hj
      · exact hgp (e ▸ hj)
      · have := HGL.out; omega
    exact ⟨b1, b2, rfl, adopt_run _ Q g b1 b2 a.current a.lines A1 c1 Kp.zero W (HK.out.below hW) q2 q3 q4 (fine_small HFA.out) (hne _ q5) (hne _ q6)⟩
  have HMA : Hid (0 < a.current ∨ 0 < a.lines.length → (Deed.adopt a.current a.lines).may Kp.zero = true) := fun h => by
    have h1 := ha.cur
    have h2 := ha.prom
    have h3 := ha.many
    refine may_adopt.2 ⟨Nat.zero_le _, ?_, Nat.le_trans h1 h2, h3, ha.each⟩
    show 0 < a.current
    rcases h with h | h
    · exact h
    · have := ha.each _ (List.getElem_mem h)
      have := (lineB_iff.1 this.1).1
      omega
  have HEND : Hid (∀ k : Kp, k.current = a.current → k.lines = a.lines → k.promised = a.promised → k = a) := fun k h1 h2 h3 => by
    cases k; cases a; simp_all
  obtain ⟨n, hn⟩ : ∃ n, n = a.lines.length := ⟨_, rfl⟩
  have HN := Lib.hid hn
  rw [← hn] at k2 CM HMA HCO
  have hpb : ((a.promised : Int) == 0) = false := beq_eq_false_iff_ne.2 (by omega)
  clear hk hb hl ha hp hn
  go_enter Tryz.func254, Tryz.ntmps254
  by_cases hc : 0 < a.current ∨ 0 < n
  · have HT := Lib.hid (HMA.out hc)
    have hcc : (0 : Int) < (a.current : Int) := by
      have := (may_adopt.1 (HMA.out hc)).2.1
      have : 0 < a.current := this
      omega
    clear hc
    go_wp2_with (go_at_call 91; (with_reducible refine (throw_no _ _).mono ?_); rintro e _ ⟨rfl, rfl⟩)
    refine CM.out.mono ?_
    rintro e w1 ⟨v, rfl, hv, hb1⟩
    obtain ⟨b1, b2, rfl, cr⟩ := CR.out w1 v hb1 hv
    have HB1 := Lib.hid hb1
    have CRR := Lib.hid cr
    clear cr hv hb1 k0 k1 k2 kg
    go_wp2_with fail
    refine CRR.out.mono ?_
    rintro e w2 (⟨-, rfl, hk2, ho2⟩ | ⟨hf, -, -⟩)
    · have HK2 : Hid (KpAt (fun j => Q j ∨ w.heap.size ≤ j) w2 g ⟨a.current, a.current, a.lines⟩) := hk2.mono fun j hj => hj.imp id fun q => Nat.le_trans HB1.out.size q
      have HO2 : Hid (Out (· = g) w w2) := (Out.of_below HB1.out).trans ho2 fun _ h => .inl h
      clear hk2 ho2 CRR
      obtain ⟨k0, k1, k2⟩ := HCO.out _ HO2.out
      by_cases heq : a.promised = a.current
      · have e1 : ((a.promised : Int) != (a.current : Int)) = false := by rw [heq]; simp
        have e2 : ((a.promised : Int) == (a.current : Int)) = true := by rw [heq]; simp
        have e3 : (a.promised != a.current) = false := by rw [heq]; simp
        have HFIN : Hid (KpAt (fun j => Q j ∨ w.heap.size ≤ j) w2 g a) := by
          have := HEND.out ⟨a.current, a.current, a.lines⟩ rfl rfl heq.symm
          rw [← this]
          exact HK2.out
        clear heq
        go_wp2_with (go_at_call 91; (with_reducible refine (throw_no _ _).mono ?_); rintro e _ ⟨rfl, rfl⟩)
        go_end0
        exact ⟨rfl, HFIN.out, HO2.out⟩
      · have e1 : ((a.promised : Int) != (a.current : Int)) = true := by simpa using (by omega : ¬ (a.promised : Int) = (a.current : Int))
        have e2 : ((a.promised : Int) == (a.current : Int)) = false := beq_eq_false_iff_ne.2 (by omega)
        have e3 : (a.promised != a.current) = true := by simpa using heq
        have HMP : Hid ((Deed.prom a.promised).may ⟨a.current, a.current, a.lines⟩ = true) := may_prom.2 ⟨by have := HFA.out.cur; show a.current < a.promised; omega, HFA.out.prom⟩
        have HEN : Hid ((Deed.prom a.promised).run ⟨a.current, a.current, a.lines⟩ = a) := HEND.out _ rfl rfl rfl
        clear heq
        go_wp2_with (first
          | (go_at_call 91; (with_reducible refine (throw_no _ _).mono ?_); rintro e _ ⟨rfl, rfl⟩)
          | (go_at_call 84; (with_reducible refine (prom_make (fun _ => False) _ _).mono ?_); rintro e w3 ⟨v3, rfl, ⟨b3, rfl, q2, q3⟩, hb3⟩; have HB3 := Lib.hid hb3; have CP := Lib.hid (prom_run _ g b3 a.promised ⟨a.current, a.current, a.lines⟩ w3 (HK2.out.below hb3) q2 (fun h => h.elim hgq (fun q => by have := HGL.out; omega))); clear q2 q3 hb3))
        refine CP.out.mono ?_
        rintro e w4 (⟨-, rfl, hk4, ho4⟩ | ⟨hf, -, -⟩)
        · have HFIN : Hid (KpAt (fun j => Q j ∨ w.heap.size ≤ j) w4 g a) := by
            have h5 : KpAt _ w4 g ((Deed.prom a.promised).run ⟨a.current, a.current, a.lines⟩) := hk4
            rw [HEN.out] at h5
            exact h5.mono fun j hj => hj.elim id fun q => .inr (Nat.le_trans HO2.out.size (Nat.le_trans HB3.out.size q))
          have HO4 : Hid (Out (· = g) w w4) := (HO2.out.trans (Out.of_below (X := (· = g)) HB3.out) fun _ h => .inl h).trans ho4 fun _ h => .inl h
          clear hk4 ho4
          go_wp2_with fail
          go_end0
          exact ⟨rfl, HFIN.out, HO4.out⟩
        · have hf : (Deed.prom a.promised).may ⟨a.current, a.current, a.lines⟩ = false := hf
          rw [HMP.out] at hf
          cases hf
    · have hf : (Deed.adopt a.current a.lines).may Kp.zero = false := hf
      rw [HT.out] at hf
      cases hf
  · have hc1 : a.current = 0 := by omega
    have hc2 : n = 0 := by omega
    have HK2 : Hid (KpAt (fun j => Q j ∨ w.heap.size ≤ j) w g ⟨a.current, a.current, a.lines⟩) := by
      have hz : a.lines = [] := List.eq_nil_of_length_eq_zero (by rw [← HN.out]; exact hc2)
      rw [hc1, hz]
      exact HK.out.mono fun j hj => .inl hj
    have HO2 : Hid (Out (· = g) w w) := Out.refl _ w
    have hcd : ((0 : Int) < (a.current : Int)) = False := eq_false (by omega)
    have hnd : ((0 : Int) < (n : Int)) = False := eq_false (by omega)
    have hcd2 : (0 < a.current) = False := eq_false (by omega)
    have hnd2 : (0 < n) = False := eq_false (by omega)
    clear hc hc1 hc2
    have HXX : True := trivial
    by_cases heq : a.promised = a.current
    · have e1 : ((a.promised : Int) != (a.current : Int)) = false := by rw [heq]; simp
      have e2 : ((a.promised : Int) == (a.current : Int)) = true := by rw [heq]; simp
      have e3 : (a.promised != a.current) = false := by rw [heq]; simp
      have HFIN : Hid (KpAt (fun j => Q j ∨ w.heap.size ≤ j) w g a) := by
        have := HEND.out ⟨a.current, a.current, a.lines⟩ rfl rfl heq.symm
        rw [← this]
        exact HK2.out
      clear heq
      go_wp2_with (go_at_call 91; (with_reducible refine (throw_no _ _).mono ?_); rintro e _ ⟨rfl, rfl⟩)
      go_end0
      exact ⟨rfl, HFIN.out, HO2.out⟩
    · have e1 : ((a.promised : Int) != (a.current : Int)) = true := by simpa using (by omega : ¬ (a.promised : Int) = (a.current : Int))
      have e2 : ((a.promised : Int) == (a.current : Int)) = false := beq_eq_false_iff_ne.2 (by omega)
      have e3 : (a.promised != a.current) = true := by simpa using heq
      have HMP : Hid ((Deed.prom a.promised).may ⟨a.current, a.current, a.lines⟩ = true) := may_prom.2 ⟨by have := HFA.out.cur; show a.current < a.promised; omega, HFA.out.prom⟩
      have HEN : Hid ((Deed.prom a.promised).run ⟨a.current, a.current, a.lines⟩ = a) := HEND.out _ rfl rfl rfl
      clear heq
      go_wp2_with (first
        | (go_at_call 91; (with_reducible refine (throw_no _ _).mono ?_); rintro e _ ⟨rfl, rfl⟩)
        | (go_at_call 84; (with_reducible refine (prom_make (fun _ => False) _ _).mono ?_); rintro e w3 ⟨v3, rfl, ⟨b3, rfl, q2, q3⟩, hb3⟩; have HB3 := Lib.hid hb3; have CP := Lib.hid (prom_run _ g b3 a.promised ⟨a.current, a.current, a.lines⟩ w3 (HK2.out.below hb3) q2 (fun h => h.elim hgq (fun q => by have := HGL.out; omega))); clear q2 q3 hb3))
      refine CP.out.mono ?_
      rintro e w4 (⟨-, rfl, hk4, ho4⟩ | ⟨hf, -, -⟩)
      · have HFIN : Hid (KpAt (fun j => Q j ∨ w.heap.size ≤ j) w4 g a) := by
          have h5 : KpAt _ w4 g ((Deed.prom a.promised).run ⟨a.current, a.current, a.lines⟩) := hk4
          rw [HEN.out] at h5
          exact h5.mono fun j hj => hj.elim id fun q => .inr (Nat.le_trans HO2.out.size (Nat.le_trans HB3.out.size q))
        have HO4 : Hid (Out (· = g) w w4) := (HO2.out.trans (Out.of_below (X := (· = g)) HB3.out) fun _ h => .inl h).trans ho4 fun _ h => .inl h
        clear hk4 ho4
        go_wp2_with fail
        go_end0
        exact ⟨rfl, HFIN.out, HO4.out⟩
      · have hf : (Deed.prom a.promised).may ⟨a.current, a.current, a.lines⟩ = false := hf
        rw [HMP.out] at hf
        cases hf
def CallPost (Q : Nat → Prop) (g : Nat) (k : Kp) : Rec → World → Ending → World → Prop
  | .deed D, V => RanPost Q g k D V
  | .whole a, V => BecomePost Q g a V
def SmallR : Rec → Prop
  | .deed (.prom _) => True
  | .deed (.adopt _ l) => Small l
  | .deed (.add l) => Small l
  | .whole _ => True
theorem deed_fn (r : Rec) (P : Nat → Prop) (w : World) (v : Value) (h : DeedV P w v r) : ∃ F caps, v = .func (.func F) #[] caps ∧ (∀ args w, (callFunc F args).run Tryz.prog w = .ok (.enter F args) w) ∧
    ∀ (P2 Q : Nat → Prop) (V : World) (g : Nat) (k : Kp), DeedV P2 V v r → KpAt Q V g k → ¬ P2 g → ¬ Q g → k.lines.length ≤ 256 → SmallR r → (∀ a, r = .whole a → k = Kp.zero ∧ Fine a ∧ 0 < a.promised) →
      Calls Tryz.prog F (#[.pointer (some ⟨g, 0, none⟩)] ++ caps) V (CallPost Q g k r V) := by
  cases r with
  | deed D =>
    cases D with
    | prom e =>
      obtain ⟨b, h1, h2, h3⟩ := h
      refine ⟨_, _, h1, by intro args w; kernel_rfl, fun P2 Q V g k hv hk hp hq hl hs ha => ?_⟩
      obtain ⟨b', e1, q2, q3⟩ := hv
      rw [h1] at e1
      injection e1 with _ _ e1
      rw [e1]
      exact prom_run Q g b' e k V hk q2 hq
    | adopt e l =>
      obtain ⟨b, b2, A, c, h1, h2, h3, h4, h5, h6⟩ := h
      refine ⟨_, _, h1, by intro args w; kernel_rfl, fun P2 Q V g k hv hk hp hq hl hs ha => ?_⟩
      obtain ⟨b', b2', A', c', e1, q2, q3, q4, q5, q6⟩ := hv
      rw [h1] at e1
      injection e1 with _ _ e1
      rw [e1]
      exact adopt_run P2 Q g b' b2' e l A' c' k V hk q2 q3 q4 hs (fun e => hp (e ▸ q5)) (fun e => hp (e ▸ q6))
    | add l =>
      obtain ⟨b2, A, c, h1, h3, h4, h6⟩ := h
      refine ⟨_, _, h1, by intro args w; kernel_rfl, fun P2 Q V g k hv hk hp hq hl hs ha => ?_⟩
      obtain ⟨b2', A', c', e1, q3, q4, q6⟩ := hv
      rw [h1] at e1
      injection e1 with _ _ e1
      rw [e1]
      exact append_run P2 Q g b2' l A' c' k V hk hl q3 q4 hs hq
  | whole a =>
    obtain ⟨b, A, c, h1, h3, h4, h6⟩ := h
    refine ⟨_, _, h1, by intro args w; kernel_rfl, fun P2 Q V g k hv hk hp hq hl hs ha => ?_⟩
    obtain ⟨b', A', c', e1, q3, q4, q6⟩ := hv
    rw [h1] at e1
    injection e1 with _ _ e1
    rw [e1]
    obtain ⟨rfl, a2, a3⟩ := ha a rfl
    exact become_run P2 Q g b' a A' c' V hk q3 q4 a2 a3 (fun e => hp (e ▸ q6)) hp hq
end Go.Proofs.YtiijclibcfgnpaaGreat.Sto

namespace Go.Proofs.YtiijclibcfgnpaaGreat.Sto
open Go.RowKit Disk Log

def RdPost (Q : Nat → Prop) (r : Rec) (rd : Nat) (rest : List UInt8) (w : World) (e : Ending) (w' : World) : Prop :=
  ∃ v, e = .returned v ∧ DeedV (fun b => w.heap.size ≤ b) w' v r ∧ RdrQ Q w' rd (rest, false) ∧ Out (· = rd) w w'
theorem RdPost.of {Q P : Nat → Prop} {r : Rec} {rd : Nat} {rest : List UInt8} {w w1 w2 : World} {e : Ending} (hm : MakePost P r w1 e w2) (hP : ∀ b, P b → w.heap.size ≤ b) (ho : Out (· = rd) w w1) (hr : RdrQ Q w1 rd (rest, false)) : RdPost Q r rd rest w e w2 := by
  obtain ⟨v, h1, h2, h3⟩ := hm
  exact ⟨v, h1, h2.mono fun b hb => hb.elim (hP b) fun q => Nat.le_trans ho.size q, hr.below h3, ho.trans (Out.of_below (X := (· = rd)) h3) fun _ h => .inl h⟩
set_option maxRecDepth 8000 in
set_option maxHeartbeats 1000000 in
theorem read_promise (Q : Nat → Prop) (rd e : Nat) (rest : List UInt8) (w : World) (h : RdrQ Q w rd (be 8 e ++ rest, false)) (he : e < 18446744073709551616) :
    Calls Tryz.prog 208 #[.agg #[.pointer (some ⟨rd, 0, none⟩)]] w (RdPost Q (.deed (.prom e)) rd rest w) := by
  have hwb : Below w.heap.size w (w.alloc (.cells #[.pointer (some ⟨rd, 0, none⟩)] 250)) := (Below.refl _ _).alloc (Nat.le_refl _) _
  have CU := Lib.hid (uint_of rd e rest _ (h.below hwb) he)
  have HWB := Lib.hid hwb
  clear hwb h
  go_enter Tryz.func208, Tryz.ntmps208
  go_wp2_with fail
  refine CU.out.mono ?_
  rintro r w1 ⟨rfl, hr1, hg1⟩
  have HR1 := Lib.hid hr1
  have HO1 : Hid (Out (· = rd) w w1) := (Out.of_below HWB.out).trans (grown_out hg1) fun _ h => .inl h
  clear hr1 hg1 CU
  go_wp2_with fail
  refine (prom_make (fun _ => False) e w1).mono ?_
  intro r w2 hm
  have HF := Lib.hid (RdPost.of hm (fun _ q => q.elim) HO1.out HR1.out)
  obtain ⟨v, rfl, -⟩ := hm
  go_wp2_with fail
  go_ret
  exact HF.out
set_option maxRecDepth 8000 in
set_option maxHeartbeats 1000000 in
theorem read_added (Q : Nat → Prop) (rd : Nat) (l : List Ln) (rest : List UInt8) (w : World) (h : RdrQ Q w rd (linesT l ++ rest, false)) (ht : Told l) (hQ : ∀ b, Q b → b < w.heap.size ∧ b ≠ rd) :
    Calls Tryz.prog 210 #[.agg #[.pointer (some ⟨rd, 0, none⟩)]] w (RdPost Q (.deed (.add l)) rd rest w) := by
  have hwb : Below w.heap.size w (w.alloc (.cells #[.pointer (some ⟨rd, 0, none⟩)] 250)) := (Below.refl _ _).alloc (Nat.le_refl _) _
  have CL := Lib.hid (lines_any Q rd l rest _ (h.below hwb) ht (fun b hb => ⟨Nat.lt_of_lt_of_le (hQ b hb).1 hwb.size, (hQ b hb).2⟩))
  have HWB := Lib.hid hwb
  clear hwb h hQ
  go_enter Tryz.func210, Tryz.ntmps210
  go_wp2_with fail
  refine CL.out.mono ?_
  rintro r w1 ⟨A, c, rfl, hl1, hr1, ho1⟩
  have HR1 := Lib.hid hr1
  have HO1 : Hid (Out (· = rd) w w1) := (Out.of_below HWB.out).trans ho1 fun _ h => .inl h
  have CM := Lib.hid (add_make (fun b => w.heap.size ≤ b) l A c w1 (hl1.lns.mono fun b hb => Nat.le_trans HWB.out.size hb.1))
  clear hr1 ho1 hl1 CL
  go_wp2_with fail
  refine CM.out.mono ?_
  intro r w2 hm
  have HF := Lib.hid (RdPost.of hm (fun _ q => q) HO1.out HR1.out)
  obtain ⟨v, rfl, -⟩ := hm
  go_wp2_with fail
  go_ret
  exact HF.out
set_option maxRecDepth 8000 in
set_option maxHeartbeats 2000000 in
theorem read_adopt (Q : Nat → Prop) (rd e : Nat) (l : List Ln) (rest : List UInt8) (w : World) (h : RdrQ Q w rd (be 8 e ++ (linesT l ++ rest), false)) (he : e < 18446744073709551616) (ht : Told l) (hQ : ∀ b, Q b → b < w.heap.size ∧ b ≠ rd) :
    Calls Tryz.prog 209 #[.agg #[.pointer (some ⟨rd, 0, none⟩)]] w (RdPost Q (.deed (.adopt e l)) rd rest w) := by
  obtain ⟨W, hW⟩ : ∃ W, W = w.alloc (.cells #[.pointer (some ⟨rd, 0, none⟩)] 250) := ⟨_, rfl⟩
  have hwb : Below w.heap.size w W := by rw [hW]; exact (Below.refl _ _).alloc (Nat.le_refl _) _
  have hbk : Bk W w.heap.size 250 #[.pointer (some ⟨rd, 0, none⟩)] := by rw [hW]; exact Bk.new w _ _
  have HRL : Hid (rd < w.heap.size) := h.lt
  have HWE := Lib.hid hW
  have HWB := Lib.hid hwb
  have HBK := Lib.hid hbk
  have BD : Hid (Below W.heap.size W W.drew) := (Below.refl _ W).drew
  have CU := Lib.hid (uint_of rd e _ W.drew ((h.below hwb).below BD.out) he)
  have CL : Hid (∀ V, W.heap.size ≤ V.heap.size → RdrQ Q V rd (linesT l ++ rest, false) → Calls Tryz.prog 238 #[.agg #[.pointer (some ⟨rd, 0, none⟩)]] V (LinesPost Q V rd l rest)) := fun V hV hr => lines_any Q rd l rest V hr ht (fun b hb => ⟨Nat.lt_of_lt_of_le (hQ b hb).1 (Nat.le_trans hwb.size hV), (hQ b hb).2⟩)
  have HC : Hid (∀ V, Out (· = rd) W V → V.cell? ⟨w.heap.size, 0, none⟩ = some (.pointer (some ⟨rd, 0, none⟩))) := fun V hV => (bk_out' HBK.out hV (by have := HRL.out; omega)).cell 0
  have k0 := HC.out W (Out.refl _ _)
  have HSD := Lib.hid (HC.out _ (Out.of_below BD.out))
  clear hW hwb hbk h hQ
  go_enter Tryz.func209, Tryz.ntmps209
  go_wp2_with fail
  rw [← HWE.out]
  go_region_held3 (fun V => V.cell? ⟨w.heap.size, 0, none⟩ = some (.pointer (some ⟨rd, 0, none⟩)))
    (first | (with_reducible assumption) | (with_reducible exact HSD.out) | (with_reducible exact HS1.out) | (with_reducible exact HS2.out) | (with_reducible exact HS3.out))
    (first
      | (go_at_call 106; (with_reducible refine CU.out.mono ?_); rintro r w1 ⟨rfl, hr1, hg1⟩; have HO1 : Hid (Out (· = rd) W w1) := (Out.of_below BD.out).trans (grown_out hg1) (fun _ h => .inl h); have HS1 := Lib.hid (HC.out _ HO1.out); have CL2 := Lib.hid (CL.out w1 HO1.out.size hr1); clear hr1 hg1)
      | (go_at_call 238; (with_reducible refine CL2.out.mono ?_); rintro r w2 ⟨A, c, rfl, hl2, hr2, ho2⟩; have HR2 := Lib.hid hr2; have HO2 : Hid (Out (· = rd) W w2) := HO1.out.trans ho2 (fun _ h => .inl h); have HS2 := Lib.hid (HC.out _ HO2.out); have CM := Lib.hid (adopt_make (fun b => w.heap.size ≤ b) e l A c w2 (hl2.lns.mono (fun b hb => Nat.le_trans HWB.out.size (Nat.le_trans HO1.out.size hb.1)))); clear hr2 ho2 hl2)
      | (go_at_call 92; (with_reducible refine CM.out.mono ?_); intro r w3 hm; have HF := Lib.hid (RdPost.of (w := w) hm (fun _ q => q) ((Out.of_below HWB.out).trans HO2.out (fun _ h => .inl h)) HR2.out); have HS3 : Hid (w3.cell? ⟨w.heap.size, 0, none⟩ = some (.pointer (some ⟨rd, 0, none⟩))) := HC.out w3 (HO2.out.trans (Out.of_below (X := (· = rd)) (by obtain ⟨_, _, _, q⟩ := hm; exact q)) (fun _ h => .inl h)); obtain ⟨v, rfl, -⟩ := hm))
  go_wp2_with fail
  go_ret
  exact HF.out
set_option maxRecDepth 8000 in
set_option maxHeartbeats 2000000 in
theorem read_whole (Q : Nat → Prop) (rd : Nat) (a : Kp) (rest : List UInt8) (w : World) (h : RdrQ Q w rd (be 8 a.promised ++ (be 8 a.current ++ (linesT a.lines ++ rest)), false)) (hp : a.promised < 18446744073709551616) (hc : a.current < 18446744073709551616) (ht : Told a.lines) (hQ : ∀ b, Q b → b < w.heap.size ∧ b ≠ rd) :
    Calls Tryz.prog 207 #[.agg #[.pointer (some ⟨rd, 0, none⟩)]] w (RdPost Q (.whole a) rd rest w) := by
  obtain ⟨W, hW⟩ : ∃ W, W = w.alloc (.cells #[.pointer (some ⟨rd, 0, none⟩)] 250) := ⟨_, rfl⟩
  have hwb : Below w.heap.size w W := by rw [hW]; exact (Below.refl _ _).alloc (Nat.le_refl _) _
  have hbk : Bk W w.heap.size 250 #[.pointer (some ⟨rd, 0, none⟩)] := by rw [hW]; exact Bk.new w _ _
  have HRL : Hid (rd < w.heap.size) := h.lt
  have HWE := Lib.hid hW
  have HWB := Lib.hid hwb
  have HBK := Lib.hid hbk
  have BD : Hid (Below W.heap.size W W.drew) := (Below.refl _ W).drew
  have CU := Lib.hid (uint_of rd a.promised _ W.drew ((h.below hwb).below BD.out) hp)
  have CU2 : Hid (∀ V, RdrQ Q V rd (be 8 a.current ++ (linesT a.lines ++ rest), false) → Calls Tryz.prog 106 #[.pointer (some ⟨rd, 0, none⟩)] V fun e w' => e = .returned (.int .u64 (a.current : Int)) ∧ RdrQ Q w' rd (linesT a.lines ++ rest, false) ∧ V.grownBy w' (some rd)) := fun V hr => uint_of rd a.current _ V hr hc
  have CL : Hid (∀ V, W.heap.size ≤ V.heap.size → RdrQ Q V rd (linesT a.lines ++ rest, false) → Calls Tryz.prog 238 #[.agg #[.pointer (some ⟨rd, 0, none⟩)]] V (LinesPost Q V rd a.lines rest)) := fun V hV hr => lines_any Q rd a.lines rest V hr ht (fun b hb => ⟨Nat.lt_of_lt_of_le (hQ b hb).1 (Nat.le_trans hwb.size hV), (hQ b hb).2⟩)
  have HC : Hid (∀ V, Out (· = rd) W V → V.cell? ⟨w.heap.size, 0, none⟩ = some (.pointer (some ⟨rd, 0, none⟩))) := fun V hV => (bk_out' HBK.out hV (by have := HRL.out; omega)).cell 0
  have k0 := HC.out W (Out.refl _ _)
  have HSD := Lib.hid (HC.out _ (Out.of_below BD.out))
  clear hW hwb hbk h hQ
  go_enter Tryz.func207, Tryz.ntmps207
  go_wp2_with fail
  rw [← HWE.out]
  go_region_held3 (fun V => V.cell? ⟨w.heap.size, 0, none⟩ = some (.pointer (some ⟨rd, 0, none⟩)))
    (first | (with_reducible assumption) | (with_reducible exact HSD.out) | (with_reducible exact HS0.out) | (with_reducible exact HS1.out) | (with_reducible exact HS2.out) | (with_reducible exact HS3.out))
    (first
      | (go_at_call 106; (with_reducible refine CU.out.mono ?_); rintro r w0 ⟨rfl, hr0, hg0⟩; have HO0 : Hid (Out (· = rd) W w0) := (Out.of_below BD.out).trans (grown_out hg0) (fun _ h => .inl h); have HS0 := Lib.hid (HC.out _ HO0.out); have CU3 := Lib.hid (CU2.out w0 hr0); clear hr0 hg0 CU)
      | (go_at_call 106; (with_reducible refine CU3.out.mono ?_); rintro r w1 ⟨rfl, hr1, hg1⟩; have HO1 : Hid (Out (· = rd) W w1) := HO0.out.trans (grown_out hg1) (fun _ h => .inl h); have HS1 := Lib.hid (HC.out _ HO1.out); have CL2 := Lib.hid (CL.out w1 HO1.out.size hr1); clear hr1 hg1)
      | (go_at_call 238; (with_reducible refine CL2.out.mono ?_); rintro r w2 ⟨A, c, rfl, hl2, hr2, ho2⟩; have HR2 := Lib.hid hr2; have HO2 : Hid (Out (· = rd) W w2) := HO1.out.trans ho2 (fun _ h => .inl h); have HS2 := Lib.hid (HC.out _ HO2.out); have CM := Lib.hid (become_make (fun b => w.heap.size ≤ b) a A c w2 (hl2.lns.mono (fun b hb => Nat.le_trans HWB.out.size (Nat.le_trans HO1.out.size hb.1)))); unfold kpV at CM; clear hr2 ho2 hl2)
      | (go_at_call 237; (with_reducible refine CM.out.mono ?_); intro r w3 hm; have HF := Lib.hid (RdPost.of (w := w) hm (fun _ q => q) ((Out.of_below HWB.out).trans HO2.out (fun _ h => .inl h)) HR2.out); have HS3 : Hid (w3.cell? ⟨w.heap.size, 0, none⟩ = some (.pointer (some ⟨rd, 0, none⟩))) := HC.out w3 (HO2.out.trans (Out.of_below (X := (· = rd)) (by obtain ⟨_, _, _, q⟩ := hm; exact q)) (fun _ h => .inl h)); obtain ⟨v, rfl, -⟩ := hm))
  go_wp2_with fail
  go_ret
  exact HF.out
end Go.Proofs.YtiijclibcfgnpaaGreat.Sto

namespace Go.Proofs.YtiijclibcfgnpaaGreat.Sto
open Go.RowKit Disk Log

set_option maxHeartbeats 400000 in
theorem new_q (A : Option Addr) (n c : Nat) (bs : List UInt8) (w : World) (h : Rd w A n bs) (hn : n ≤ 1000000000000) :
    Calls Tryz.prog 104 #[.slice A n c] w (fun e w' => ∃ r, e = .returned (.pointer (some ⟨r, 0, none⟩)) ∧ w.heap.size < r ∧ RdrQ (· = w.heap.size) w' r (bs, false) ∧ Below w.heap.size w w') := by
  have H := Lib.hid h
  clear h
  go_enter Tryz.func104, Tryz.ntmps104
  go_wp2_with fail
  refine (withRoom_own A n c 0 bs w H.out (by omega) (by omega)).mono ?_
  rintro e w1 ⟨rfl, hown1, hb1⟩
  have HO1 := Lib.hid hown1
  have HB1 := Lib.hid hb1
  have HLT : Hid (w.heap.size < w1.heap.size) := (hown1.lt w.heap.size rfl).2
  clear hown1 hb1
  go_wp2_with fail
  go_ret
  have hr1 := Rd.of_own HO1.out
  exact ⟨w1.heap.size, rfl, HLT.out, ⟨_, n, n, Bk.new w1 _ _, Nat.le_refl _, hn, hr1.1.below ((Below.refl _ _).alloc (Nat.le_refl _) _), fun a ha => by injection ha with ha; subst ha; rfl⟩, HB1.out.alloc HB1.out.size _⟩
def OfPost (r : Rec) (w : World) (e : Ending) (w' : World) : Prop :=
  ∃ v, e = .returned v ∧ DeedV (fun b => w.heap.size ≤ b) w' v r ∧ Below w.heap.size w w'
theorem byte_of {Q : Nat → Prop} (rd kd : Nat) (rest : List UInt8) (V : World) (h : RdrQ Q V rd (be 1 kd ++ rest, false)) (hk : kd < 256) :
    Calls Tryz.prog 105 #[.pointer (some ⟨rd, 0, none⟩)] V fun e w' => e = .returned (.int .u8 (kd : Int)) ∧ RdrQ Q w' rd (rest, false) ∧ V.grownBy w' (some rd) := by
  have h1 : takeS 1 (be 1 kd ++ rest, false) = (be 1 kd, (rest, false)) := takeS_app' _ _ (be_length 1 kd)
  have h2 : val (be 1 kd) = kd := by rw [val_be', Nat.mod_eq_of_lt (by omega)]
  exact (rByte_anyQ rd _ V h).mono fun e w' ⟨q1, q2, q3⟩ => ⟨by rw [q1, h1, h2], by rw [h1] at q2; exact q2, q3⟩
theorem reads1_grown {b rd : Nat} {w w' : World} {Q : Nat → Prop} {s : List UInt8 × Bool} (h : Reads1 b w) (hr : RdrQ Q w rd s) (hg : w.grownBy w' (some rd)) : Reads1 b w' := by
  refine World.ownsMap.kept h hg fun e => ?_
  injection e with e
  subst e
  obtain ⟨es, clock, hb, _⟩ := h
  obtain ⟨_, _, _, hk, _⟩ := hr
  unfold Bk at hk
  rw [hb] at hk
  injection hk with hk
  cases hk
set_option maxRecDepth 8000 in
set_option maxHeartbeats 4000000 in
theorem deedOf_gen (r : Rec) (kd F : Nat) (body : List UInt8) (A : Option Addr) (n c : Nat) (w : World) (ht : r.text = be 1 kd ++ body) (hk : kd < 256) (hF : F ≠ 0) (hd : readersD.atKey (.int .u8 (kd : Int)) (.held 0) = .held F) (hE : ∀ args w, (callFunc F args).run Tryz.prog w = .ok (.enter F args) w)
    (hrd : ∀ V rd Q, RdrQ Q V rd (body, false) → (∀ b, Q b → b < V.heap.size ∧ b ≠ rd) → Calls Tryz.prog F #[.agg #[.pointer (some ⟨rd, 0, none⟩)]] V (RdPost Q r rd [] V)) (h : Rd w A n r.text) (hn : n ≤ 1000000000) :
    Calls Tryz.prog 142 #[.slice A n c] w (OfPost r w) := by
  rw [ht] at h
  have CN := Lib.hid (new_q A n c _ w h (by omega))
  have HD := Lib.hid hd
  have HRD := Lib.hid hrd
  clear h hd hrd ht
  go_enter Tryz.func142, Tryz.ntmps142
  go_wp2_with fail
  refine CN.out.mono ?_
  rintro e w1 ⟨rd, rfl, hlt, hr, hb⟩
  have HLT := Lib.hid hlt
  have HR := Lib.hid hr
  have HB := Lib.hid hb
  clear hlt hr hb CN
  go_wp2_with fail
  obtain ⟨W, hW⟩ : ∃ W, W = w1.alloc (.cells #[.pointer (some ⟨rd, 0, none⟩)] 250) := ⟨_, rfl⟩
  have hwb : Below w1.heap.size w1 W := by rw [hW]; exact (Below.refl _ _).alloc (Nat.le_refl _) _
  have hbk : Bk W w1.heap.size 250 #[.pointer (some ⟨rd, 0, none⟩)] := by rw [hW]; exact Bk.new w1 _ _
  rw [← hW]
  have HRL : Hid (rd < w1.heap.size) := HR.out.lt
  have HWB := Lib.hid hwb
  have HBK := Lib.hid hbk
  have BD : Hid (Below W.heap.size W W.drew) := (Below.refl _ W).drew
  have HRW := Lib.hid (HR.out.below hwb)
  have CR := Lib.hid (readers_own W.drew)
  have HC : Hid (∀ V, Out (· = rd) W V → V.cell? ⟨w1.heap.size, 0, none⟩ = some (.pointer (some ⟨rd, 0, none⟩))) := fun V hV => (bk_out' HBK.out hV (by have := HRL.out; omega)).cell 0
  have k0 := HC.out W (Out.refl _ _)
  have HSD := Lib.hid (HC.out _ (Out.of_below BD.out))
  clear hW hwb hbk
  go_region_held3 (fun V => V.cell? ⟨w1.heap.size, 0, none⟩ = some (.pointer (some ⟨rd, 0, none⟩)))
    (first | (with_reducible assumption) | (with_reducible exact HSD.out) | (with_reducible exact HS1.out) | (with_reducible exact HS2.out))
    (first
      | (go_at_call 181; (with_reducible refine CR.out.mono ?_); rintro e w2 ⟨mb, rfl, hb2, hm2⟩; have HB2 := Lib.hid (BD.out.trans hb2); have HS1 := Lib.hid (HC.out _ (Out.of_below HB2.out)); have HR2 := Lib.hid (HRW.out.below HB2.out); have HM2 : Hid (Reads1 mb w2) := hm2; have CB := Lib.hid (byte_of rd kd body w2 HR2.out hk); clear hb2 hm2)
      | (go_at_call 105; (with_reducible refine CB.out.mono ?_); rintro e w3 ⟨rfl, hr3, hg3⟩; have HR3 := Lib.hid hr3; have HO3 : Hid (Out (· = rd) W w3) := (Out.of_below HB2.out).trans (grown_out hg3) (fun _ h => .inl h); have HS2 := Lib.hid (HC.out _ HO3.out); have hlk := reads1_look (reads1_grown HM2.out HR2.out hg3) kd F hk hF HD.out; clear hr3 hg3))
  clear hlk
  have k3 : w3.cell? ⟨w1.heap.size, 0, none⟩ = some (.pointer (some ⟨rd, 0, none⟩)) := HS2.out
  have CF := Lib.hid (HRD.out w3 rd _ HR3.out (fun b hb => by
    have hb : b = w.heap.size := hb
    have := HLT.out
    have h1 := HRL.out
    have h2 := HWB.out.size
    have h3 := HO3.out.size
    exact ⟨by omega, by omega⟩))
  go_wp2_with (first
    | (go_at_call 91; (with_reducible refine (throw_no _ _).mono ?_); rintro e _ ⟨rfl, rfl⟩)
    | (go_at_fn F; (with_reducible refine CF.out.mono ?_)))
  rintro e w4 ⟨v, rfl, hv4, hr4, ho4⟩
  have HV4 := Lib.hid hv4
  have HO4 : Hid (Out (· = rd) W w4) := HO3.out.trans ho4 fun _ h => .inl h
  have k4 : w4.cell? ⟨w1.heap.size, 0, none⟩ = some (.pointer (some ⟨rd, 0, none⟩)) := HC.out _ HO4.out
  have CDN := Lib.hid (rDone_any rd _ w4 hr4.rdr)
  clear hv4 hr4 ho4 k3 k0
  go_wp2_with (first
    | (go_at_call 109; (with_reducible refine CDN.out.mono ?_); rintro e _ ⟨rfl, rfl⟩)
    | (go_at_call 91; (with_reducible refine (throw_no _ _).mono ?_); rintro e _ ⟨rfl, rfl⟩))
  go_ret
  have hsz : w.heap.size ≤ w3.heap.size := Nat.le_trans HB.out.size (Nat.le_trans HWB.out.size HO3.out.size)
  have hbl : Below w.heap.size w W := HB.out.trans (HWB.out.mono HB.out.size)
  exact ⟨v, rfl, HV4.out.mono fun b hb => Nat.le_trans hsz hb, HO4.out.below hbl (fun k hk => by rw [hk]; exact Nat.le_of_lt HLT.out) hbl.size⟩
def RecOk : Rec → Prop
  | .deed (.prom e) => e < 18446744073709551616
  | .deed (.adopt e l) => e < 18446744073709551616 ∧ Told l
  | .deed (.add l) => Told l
  | .whole a => a.promised < 18446744073709551616 ∧ a.current < 18446744073709551616 ∧ Told a.lines
theorem told_of {ls : List Ln} (h1 : ls.length ≤ 256) (h2 : ∀ x ∈ ls, lineB x = true) : Told ls := ⟨h1, fun x hx => by
  have := lineB_iff.1 (h2 x hx)
  unfold top at this
  omega⟩
theorem RecOk.of {r : Rec} {k : Kp} (h : r.may k) : RecOk r := by
  cases r with
  | deed D =>
    cases D with
    | prom e =>
      have := (may_prom.1 h).2
      unfold top at this
      show e < _
      omega
    | adopt e l =>
      obtain ⟨_, _, h3, h4, h5⟩ := may_adopt.1 h
      unfold top at h3
      exact ⟨by omega, told_of h4 fun x hx => (h5 x hx).1⟩
    | add l =>
      obtain ⟨_, h4, h5⟩ := may_add.1 h
      exact told_of (by omega) fun x hx => (h5 x hx).1
  | whole a =>
    obtain ⟨_, h2, _⟩ := h
    have h3 := h2.prom
    have h4 := h2.cur
    unfold top at h3
    exact ⟨by omega, by omega, told_of h2.many fun x hx => (h2.each x hx).1⟩
theorem deedOf_any (r : Rec) (A : Option Addr) (n c : Nat) (w : World) (hr : RecOk r) (h : Rd w A n r.text) (hn : n ≤ 1000000000) :
    Calls Tryz.prog 142 #[.slice A n c] w (OfPost r w) := by
  cases r with
  | deed D =>
    cases D with
    | prom e => exact deedOf_gen _ 2 _ (be 8 e ++ []) A n c w (by rw [List.append_nil]; rfl) (by omega) (by decide) readers_promise (by intro args w; kernel_rfl) (fun V rd Q hq hQ => read_promise Q rd e [] V hq hr) h hn
    | adopt e l => exact deedOf_gen _ 3 _ (be 8 e ++ (linesT l ++ [])) A n c w (by rw [List.append_nil]; rfl) (by omega) (by decide) readers_adopt (by intro args w; kernel_rfl) (fun V rd Q hq hQ => read_adopt Q rd e l [] V hq hr.1 hr.2 hQ) h hn
    | add l => exact deedOf_gen _ 4 _ (linesT l ++ []) A n c w (by rw [List.append_nil]; rfl) (by omega) (by decide) readers_added (by intro args w; kernel_rfl) (fun V rd Q hq hQ => read_added Q rd l [] V hq hr hQ) h hn
  | whole a =>
    have ht : (Rec.whole a).text = be 1 1 ++ (be 8 a.promised ++ (be 8 a.current ++ (linesT a.lines ++ []))) := by
      rw [List.append_nil]
      show wholeT a = _
      unfold wholeT
      simp only [List.cons_append, List.append_assoc]
      rfl
    exact deedOf_gen _ 1 _ _ A n c w ht (by omega) (by decide) readers_whole (by intro args w; kernel_rfl) (fun V rd Q hq hQ => read_whole Q rd a [] V hq hr.1 hr.2.1 hr.2.2 hQ) h hn
end Go.Proofs.YtiijclibcfgnpaaGreat.Sto

namespace Go.Proofs.YtiijclibcfgnpaaGreat.Sto
open Go.RowKit Disk Log

theorem four_bytes {p : List UInt8} (hp : p.length = 512) : (p.drop 12).take 4 = [p.getD 12 0, p.getD 13 0, p.getD 14 0, p.getD 15 0] := by
  apply List.ext_getElem?
  intro i
  have hg : ∀ j, j < 4 → ((p.drop 12).take 4)[j]? = some (p.getD (12 + j) 0) := fun j hj => by
    rw [List.getElem?_take, if_pos hj, List.getElem?_drop, List.getD_eq_getElem?_getD, List.getElem?_eq_getElem (by omega)]
    rfl
  match i with
  | 0 => exact hg 0 (by omega)
  | 1 => exact hg 1 (by omega)
  | 2 => exact hg 2 (by omega)
  | 3 => exact hg 3 (by omega)
  | i + 4 =>
    rw [List.getElem?_eq_none (by rw [List.length_take]; omega)]
    rfl
theorem few_small {p : List UInt8} (hp : p.length = 512) (h : Few p) : num ((p.drop 8).take 8) % 4294967296 < 512 := by
  obtain ⟨h1, h2, h3⟩ := h
  have hs := num_split ((p.drop 8).take 8) 4
  have e : ((p.drop 8).take 8).drop 4 = (p.drop 12).take 4 := by
    rw [List.drop_take, List.drop_drop]
  have hl : ((p.drop 12).take 4).length = 4 := by rw [List.length_take, List.length_drop, hp]; rfl
  rw [e, hl, four_bytes hp, h1, h2] at hs
  have h15 := (p.getD 15 0).toNat_lt
  have hn : num [0, 0, p.getD 14 0, p.getD 15 0] = (p.getD 14 0).toNat * 256 + (p.getD 15 0).toNat := by
    simp [num]
  rw [hn] at hs
  omega
set_option maxRecDepth 100000 in
set_option maxHeartbeats 2000000 in
theorem foreign_no (h : Nat) (p : List UInt8) (w : World) (hr : Rd w (some ⟨h, 0, none⟩) 512 p) (ht : Tame p) (h1 : first8 p < 72057594037927936) (h2 : last8 p < 72057594037927936) :
    Calls Tryz.prog 139 #[.slice (some ⟨h, 0, none⟩) 512 512] w fun e w' => e = .returned (.bool false) ∧ Below w.heap.size w w' := by
  obtain ⟨i0, hi, hz0, hz1, hz2⟩ := info_parts info_byte
  have hp := hr.len
  have hfew := few_small hp ht.2
  have hmk : (Instr.makeSlice 54 (.int .i64 512) (.int .i64 512)).run Tryz.prog w = .ok (.slice (some ⟨w.heap.size, 0, none⟩) 512 512) (w.alloc (.cells ((List.replicate 512 (0 : UInt8)).map U).toArray 5 (0, 0))) := by
    rw [List.map_replicate]
    exact run_make_bytes (P := Tryz.prog) ty_bytes hi hz0 hz1 hz2 .i64 .i64 512 512 (by decide) (by omega) w
  obtain ⟨W, hW⟩ : ∃ W, W = w.alloc (.cells ((List.replicate 512 (0 : UInt8)).map U).toArray 5 (0, 0)) := ⟨_, rfl⟩
  have hwb : Below w.heap.size w W := by rw [hW]; exact (Below.refl _ _).alloc (Nat.le_refl _) _
  have hrz : Rd W (some ⟨w.heap.size, 0, none⟩) 512 (List.replicate 512 0) := by
    have := rd_lit w 5 (0, 0) (List.replicate 512 0)
    rw [List.length_replicate] at this
    rw [hW]; exact this
  rw [← hW] at hmk
  have HMK := Lib.hid hmk
  have HWB := Lib.hid hwb
  have HR := Lib.hid hr
  have HP : Hid (p.length = 512) := hp
  have CE := Lib.hid (equal_bytes (some ⟨h, 0, none⟩) (some ⟨w.heap.size, 0, none⟩) 512 512 512 512 p (List.replicate 512 0) W (hr.below hwb) hrz)
  have HT := Lib.hid ht
  clear hi hz0 hz1 hz2 hr hrz hwb hW hmk
  go_enter Tryz.func139, Tryz.ntmps139
  have hmk := HMK.out
  by_cases hz : p = List.replicate 512 0
  · rw [decide_eq_true hz] at CE
    clear hz
    go_wp2_with fail
    refine CE.out.mono ?_
    rintro e _ ⟨rfl, rfl⟩
    clear hmk
    go_wp2_with fail
    go_ret
    exact ⟨rfl, HWB.out⟩
  · rw [decide_eq_false hz] at CE
    have hf0 : first8 p ≠ 0 := fun h => hz (HT.out.1 h)
    obtain ⟨s, hs⟩ : ∃ s, s = first8 p := ⟨_, rfl⟩
    obtain ⟨t, ht⟩ : ∃ t, t = last8 p := ⟨_, rfl⟩
    obtain ⟨z, hzz⟩ : ∃ z, z = num ((p.drop 8).take 8) := ⟨_, rfl⟩
    have HSS := Lib.hid hs
    have HTT := Lib.hid ht
    have HZZ := Lib.hid hzz
    rw [← hs] at h1 hf0
    rw [← ht] at h2
    rw [← hzz] at hfew
    have hcz : IntKind.u32.wrap (z : Int) = ((z % 4294967296 : Nat) : Int) := by
      rw [IntKind.wrap_u32]; omega
    generalize hy : z % 4294967296 = y at *
    have HY := Lib.hid hy
    clear hs ht hzz hz hp hy
    have CN1 := Lib.hid (new_q (some ⟨h, 0, none⟩) 512 512 p W (HR.out.below HWB.out) (by omega))
    go_wp2_with fail
    refine CE.out.mono ?_
    rintro e _ ⟨rfl, rfl⟩
    clear hmk
    go_wp2_with fail
    refine CN1.out.mono ?_
    rintro e w1 ⟨rd, rfl, hlt, hrr, hb⟩
    have HB1 := Lib.hid hb
    have CU1 : Hid (Calls Tryz.prog 106 #[.pointer (some ⟨rd, 0, none⟩)] w1 fun e w' => e = .returned (.int .u64 (s : Int)) ∧ Rdr w' rd (p.drop 8, false) ∧ w1.grownBy w' (some rd)) :=
      (rUint_any rd _ w1 hrr.rdr).mono fun e w' ⟨q1, q2, q3⟩ => by
        rw [takeS_yes (by rw [HP.out]; omega)] at q1 q2
        exact ⟨by rw [q1, HSS.out]; rfl, q2, q3⟩
    have HLT : Hid (W.heap.size < rd) := hlt
    clear hlt hrr hb CN1
    go_wp2_with fail
    refine CU1.out.mono ?_
    rintro e w2 ⟨rfl, hr2, hg2⟩
    have HO2 : Hid (Out (· = rd) W w2) := (Out.of_below HB1.out).trans (grown_out hg2) fun _ h => .inl h
    have CU2 : Hid (Calls Tryz.prog 106 #[.pointer (some ⟨rd, 0, none⟩)] w2 fun e w' => e = .returned (.int .u64 (z : Int)) ∧ w2.grownBy w' (some rd)) :=
      (rUint_any rd _ w2 hr2).mono fun e w' ⟨q1, q2, q3⟩ => by
        rw [takeS_yes (by rw [List.length_drop, HP.out]; omega)] at q1
        exact ⟨by rw [q1, HZZ.out]; rfl, q3⟩
    clear hr2 hg2 CU1
    go_wp2_with fail
    refine CU2.out.mono ?_
    rintro e w3 ⟨rfl, hg3⟩
    have HO3 : Hid (Out (· = rd) W w3) := HO2.out.trans (grown_out hg3) fun _ h => .inl h
    have HB3 : Hid (Below w.heap.size w w3) := HO3.out.below HWB.out (fun k hk => by rw [hk]; have := HLT.out; have := HWB.out.size; omega) HWB.out.size
    have hd : Rd w3 (some ⟨h, 504, none⟩) 8 (p.drop 504) := by
      have := Rd.drop (HR.out.below HB3.out) (k := 504) (c := 512) (by omega) (by omega)
      rw [if_neg (by omega)] at this
      exact this
    have CN3 := Lib.hid (new_q (some ⟨h, 504, none⟩) 8 8 _ w3 hd (by omega))
    clear hg3 CU2 hd
    go_wp2_with fail
    refine CN3.out.mono ?_
    rintro e w4 ⟨rd2, rfl, hlt4, hr4, hb4⟩
    have CU4 : Hid (Calls Tryz.prog 106 #[.pointer (some ⟨rd2, 0, none⟩)] w4 fun e w' => e = .returned (.int .u64 (t : Int)) ∧ w4.grownBy w' (some rd2)) :=
      (rUint_any rd2 _ w4 hr4.rdr).mono fun e w' ⟨q1, q2, q3⟩ => by
        have hl : (p.drop 504).length = 8 := by rw [List.length_drop, HP.out]
        rw [takeS_yes (by rw [hl]; omega), List.take_of_length_le (by rw [hl]; omega)] at q1
        exact ⟨by rw [q1, HTT.out]; rfl, q3⟩
    have HLT4 : Hid (w3.heap.size < rd2) := hlt4
    have HB4 := Lib.hid hb4
    clear hlt4 hr4 hb4 CN3
    go_wp2_with fail
    refine CU4.out.mono ?_
    rintro e w5 ⟨rfl, hg5⟩
    have HO5 : Hid (Out (· = rd2) w3 w5) := (Out.of_below HB4.out).trans (grown_out hg5) fun _ h => .inl h
    have HB5 : Hid (Below w.heap.size w w5) := HO5.out.below HB3.out (fun k hk => by rw [hk]; have := HLT4.out; have := HB3.out.size; omega) HB3.out.size
    clear hg5 CU4
    have e0 : ((s : Int) == 0) = false := beq_eq_false_iff_ne.2 (by omega)
    have H1 : Hid (s < 72057594037927936) := h1
    have H2 : Hid (t < 72057594037927936) := h2
    have hle : ((72057594037927936 : Int) ≤ max (s : Int) (t : Int)) = False := eq_false (by omega)
    have hy1 : ((512 : Int) ≤ (y : Int)) = False := eq_false (by omega)
    clear h1 h2 hfew
    go_wp2_with fail
    go_ret
    exact ⟨rfl, HB5.out⟩
end Go.Proofs.YtiijclibcfgnpaaGreat.Sto
