/- Lemmas, part 3: NetLts, StoStill, NetSame, NetCode1, NetCode2, NetCode3, BClone, NetCode4 -/
import Derived.Test.YtmjipeagbogpmaaBase2
import Derived.Deep.AppendSrc
import Derived.Deep.AppendLies
import Derived.StillTailTactics
import Derived.KernelRfl
import Derived.WalkLawsBesides
import Derived.Deep.RegionHeld3
import Derived.BigQuiet
import Derived.Deep.QuietTactic
import Derived.Lib.SliceRun
import Derived.Test.YtmjipeagbogpmaaBase1
import Derived.Lib.Hide
namespace Go.Proofs.Ytmjipeagbogpmaa.Net
open Go.RowKit Disk Zab

def ltC (l : Lt) (v : Value) : List Value := [.int .i64 l.fr.g, .int .i64 l.fr.n, .int .i64 l.to.g, .int .i64 l.to.n, v]
def ltsC : List Lt → List Value → List Value
  | x :: ls, v :: vs => ltC x v ++ ltsC ls vs
  | _, _ => []
theorem ltsC_length : ∀ (ls : List Lt) (vs : List Value), ls.length = vs.length → (ltsC ls vs).length = 5 * ls.length
  | [], [], _ => rfl
  | x :: ls, v :: vs, h => by
    have := ltsC_length ls vs (by simpa using h)
    rw [ltsC, List.length_append, this, List.length_cons]
    show 5 + _ = _
    omega
theorem ltsC_append : ∀ (ls : List Lt) (vs : List Value) (ms : List Lt) (us : List Value), ls.length = vs.length → ltsC (ls ++ ms) (vs ++ us) = ltsC ls vs ++ ltsC ms us
  | [], [], ms, us, _ => rfl
  | x :: ls, v :: vs, ms, us, h => by
    rw [List.cons_append, List.cons_append, ltsC, ltsC_append ls vs ms us (by simpa using h), ltsC, List.append_assoc]
theorem ltsC_snoc (ls : List Lt) (vs : List Value) (x : Lt) (v : Value) (h : ls.length = vs.length) : ltsC (ls ++ [x]) (vs ++ [v]) = ltsC ls vs ++ ltC x v := by
  rw [ltsC_append ls vs [x] [v] h]
  show _ ++ (ltC x v ++ []) = _
  rw [List.append_nil]
theorem ltsC_get : ∀ (ls : List Lt) (vs : List Value) (j i : Nat) (x : Lt) (v : Value), ls[j]? = some x → vs[j]? = some v → i < 5 → (ltsC ls vs)[5 * j + i]? = (ltC x v)[i]?
  | [], _, j, i, x, v, h, _, _ => by simp at h
  | _ :: _, [], j, i, x, v, _, h, _ => by simp at h
  | y :: ls, u :: vs, 0, i, x, v, h1, h2, hi => by
    simp at h1 h2
    subst h1 h2
    rw [ltsC, Nat.mul_zero, Nat.zero_add, List.getElem?_append_left (by exact hi)]
  | y :: ls, u :: vs, j + 1, i, x, v, h1, h2, hi => by
    rw [ltsC, List.getElem?_append_right (by show 5 ≤ _; omega)]
    have : 5 * (j + 1) + i - (ltC y u).length = 5 * j + i := by show 5 * (j + 1) + i - 5 = _; omega
    rw [this]
    exact ltsC_get ls vs j i x v (by simpa using h1) (by simpa using h2) hi
theorem ltC_one (x : Lt) {v : Value} (h : v.oneCell' = true) : ∀ u ∈ ltC x v, u.oneCell' = true := by
  intro u hu
  simp only [ltC, List.mem_cons, List.not_mem_nil, or_false] at hu
  rcases hu with rfl | rfl | rfl | rfl | rfl
  · rfl
  · rfl
  · rfl
  · rfl
  · exact h
structure LtB (P : Nat → Prop) (w : World) (vs : List Value) (ls : List Lt) : Prop where
  len : vs.length = ls.length
  at_ : ∀ (j : Nat) (x : Lt), ls[j]? = some x → ∃ B m c, vs[j]? = some (.slice B m c) ∧ m ≤ c ∧ Rd w B m x.bs ∧ ∀ b, B = some b → 1 ≤ m → P b.block
theorem LtB.nil_ (P : Nat → Prop) (w : World) : LtB P w [] [] := ⟨rfl, fun j x hj => by simp at hj⟩
theorem LtB.out {P X : Nat → Prop} {w w' : World} {vs : List Value} {ls : List Lt} (h : LtB P w vs ls) (ho : Out X w w') (hx : ∀ k, P k → ¬ X k) : LtB P w' vs ls :=
  ⟨h.len, fun j x hj => by
    obtain ⟨B, m, c, h1, h2, h3, h4⟩ := h.at_ j x hj
    exact ⟨B, m, c, h1, h2, rd_out h3 ho (fun a ha h0 => hx _ (h4 a ha h0)), h4⟩⟩
theorem LtB.below {P : Nat → Prop} {w w' : World} {vs : List Value} {ls : List Lt} (h : LtB P w vs ls) (hb : Below w.heap.size w w') : LtB P w' vs ls := h.out (X := fun _ => False) (Out.of_below hb) fun _ _ q => q
theorem LtB.mono {P Q : Nat → Prop} {w : World} {vs : List Value} {ls : List Lt} (h : LtB P w vs ls) (hq : ∀ k, P k → Q k) : LtB Q w vs ls :=
  ⟨h.len, fun j x hj => by
    obtain ⟨B, m, c, h1, h2, h3, h4⟩ := h.at_ j x hj
    exact ⟨B, m, c, h1, h2, h3, fun b hb h0 => hq _ (h4 b hb h0)⟩⟩
theorem LtB.snoc {P : Nat → Prop} {w : World} {vs : List Value} {ls : List Lt} (h : LtB P w vs ls) {x : Lt} {B : Option Addr} {m c : Nat} (h1 : m ≤ c) (h2 : Rd w B m x.bs) (h3 : ∀ b, B = some b → 1 ≤ m → P b.block) : LtB P w (vs ++ [.slice B m c]) (ls ++ [x]) :=
  ⟨by rw [List.length_append, List.length_append, h.len]; rfl, fun j y hj => by
    rcases Nat.lt_or_ge j ls.length with hl | hl
    · rw [List.getElem?_append_left hl] at hj
      rw [List.getElem?_append_left (by rw [h.len]; exact hl)]
      exact h.at_ j y hj
    · have hlt : j < (ls ++ [x]).length := (List.getElem?_eq_some_iff.1 hj).1
      rw [List.length_append, List.length_singleton] at hlt
      have e : j = ls.length := by omega
      subst e
      rw [List.getElem?_append_right (Nat.le_refl _), Nat.sub_self] at hj
      simp at hj
      subst hj
      exact ⟨B, m, c, by rw [← h.len, List.getElem?_append_right (Nat.le_refl _), Nat.sub_self]; rfl, h1, h2, h3⟩⟩
theorem LtB.one {P : Nat → Prop} {w : World} {vs : List Value} {ls : List Lt} (h : LtB P w vs ls) : ∀ u ∈ ltsC ls vs, u.oneCell' = true := by
  suffices hh : ∀ (ls : List Lt) (vs : List Value), (∀ v ∈ vs, v.oneCell' = true) → ∀ u ∈ ltsC ls vs, u.oneCell' = true by
    refine hh ls vs fun v hv => ?_
    obtain ⟨j, hj, rfl⟩ := List.mem_iff_getElem.1 hv
    obtain ⟨B, m, c, h1, _⟩ := h.at_ j (ls[j]'(by rw [← h.len]; exact hj)) (List.getElem?_eq_getElem _)
    rw [List.getElem?_eq_getElem hj] at h1
    injection h1 with h1
    rw [h1]; rfl
  intro ls
  induction ls with
  | nil => intro vs _ u hu; cases hu
  | cons x ls ih =>
    intro vs hv u hu
    cases vs with
    | nil => cases hu
    | cons v vs =>
      rw [ltsC] at hu
      rcases List.mem_append.1 hu with q | q
      · exact ltC_one x (hv v List.mem_cons_self) u q
      · exact ih vs (fun v hv2 => hv v (List.mem_cons_of_mem _ hv2)) u q
structure LtS (P : Nat → Prop) (w : World) (A : Option Addr) (n : Nat) (ls : List Lt) : Prop where
  len : ls.length = n
  at_ : ∀ (j : Nat) (x : Lt), ls[j]? = some x → ∃ b o B m c, A = some ⟨b, o, none⟩ ∧ P b ∧ (∀ i v, (ltC x (.slice B m c))[i]? = some v → w.cell? ⟨b, o + j * 5 + i, none⟩ = some v) ∧ m ≤ c ∧ Rd w B m x.bs ∧ ∀ b, B = some b → 1 ≤ m → P b.block
theorem LtS.nil_ (P : Nat → Prop) (w : World) (A : Option Addr) : LtS P w A 0 [] := ⟨rfl, fun j x hj => by simp at hj⟩
theorem LtS.out {P X : Nat → Prop} {w w' : World} {A : Option Addr} {n : Nat} {ls : List Lt} (h : LtS P w A n ls) (ho : Out X w w') (hx : ∀ k, P k → ¬ X k) : LtS P w' A n ls :=
  ⟨h.len, fun j x hj => by
    obtain ⟨b, o, B, m, c, h1, h2, h3, h4, h5, h6⟩ := h.at_ j x hj
    exact ⟨b, o, B, m, c, h1, h2, fun i v hv => (ho.cell (World.block_lt_of_cell? w _ (h3 i v hv)) (hx _ h2)).trans (h3 i v hv), h4, rd_out h5 ho (fun a ha h0 => hx _ (h6 a ha h0)), h6⟩⟩
theorem LtS.below {P : Nat → Prop} {w w' : World} {A : Option Addr} {n : Nat} {ls : List Lt} (h : LtS P w A n ls) (hb : Below w.heap.size w w') : LtS P w' A n ls := h.out (X := fun _ => False) (Out.of_below hb) fun _ _ q => q
theorem LtS.mono {P Q : Nat → Prop} {w : World} {A : Option Addr} {n : Nat} {ls : List Lt} (h : LtS P w A n ls) (hq : ∀ k, P k → Q k) : LtS Q w A n ls :=
  ⟨h.len, fun j x hj => by
    obtain ⟨b, o, B, m, c, h1, h2, h3, h4, h5, h6⟩ := h.at_ j x hj
    exact ⟨b, o, B, m, c, h1, hq _ h2, h3, h4, h5, fun b hb h0 => hq _ (h6 b hb h0)⟩⟩
theorem LtS.get {P : Nat → Prop} {w : World} {A : Option Addr} {n : Nat} {ls : List Lt} (h : LtS P w A n ls) {j : Nat} {x : Lt} (hj : ls[j]? = some x) : ∃ b o B m c, A = some ⟨b, o, none⟩ ∧ P b ∧ w.cell? ⟨b, o + j * 5, none⟩ = some (.int .i64 x.fr.g) ∧ w.cell? ⟨b, o + j * 5 + 1, none⟩ = some (.int .i64 x.fr.n) ∧ w.cell? ⟨b, o + j * 5 + 2, none⟩ = some (.int .i64 x.to.g) ∧ w.cell? ⟨b, o + j * 5 + 3, none⟩ = some (.int .i64 x.to.n) ∧ w.cell? ⟨b, o + j * 5 + 4, none⟩ = some (.slice B m c) ∧ m ≤ c ∧ Rd w B m x.bs ∧ ∀ b, B = some b → 1 ≤ m → P b.block := by
  obtain ⟨b, o, B, m, c, h1, h2, h3, h4, h5, h6⟩ := h.at_ j x hj
  exact ⟨b, o, B, m, c, h1, h2, h3 0 _ rfl, h3 1 _ rfl, h3 2 _ rfl, h3 3 _ rfl, h3 4 _ rfl, h4, h5, h6⟩
theorem LtS.take {P : Nat → Prop} {w : World} {A : Option Addr} {n : Nat} {ls : List Lt} (h : LtS P w A n ls) {k : Nat} (hk : k ≤ n) : LtS P w A k (ls.take k) :=
  ⟨by rw [List.length_take, h.len]; omega, fun j x hj => h.at_ j x (by
    rw [List.getElem?_take] at hj
    split at hj
    · exact hj
    · cases hj)⟩
theorem LtS.drop {P : Nat → Prop} {w : World} {b o n : Nat} {ls : List Lt} (h : LtS P w (some ⟨b, o, none⟩) n ls) (k : Nat) : LtS P w (some ⟨b, o + k * 5, none⟩) (n - k) (ls.drop k) :=
  ⟨by rw [List.length_drop, h.len], fun j x hj => by
    rw [List.getElem?_drop] at hj
    obtain ⟨b', o', B, m, c, h1, h2, h3, h4⟩ := h.at_ _ x hj
    injection h1 with h1
    injection h1 with h1 h1'
    subst h1 h1'
    exact ⟨b, o + k * 5, B, m, c, rfl, h2, fun i v hv => by
      have := h3 i v hv
      rwa [show o + (k + j) * 5 + i = o + k * 5 + j * 5 + i from by omega] at this, h4⟩⟩
theorem lts_of_row {P : Nat → Prop} {w : World} {base : Nat} {A : Option Addr} {n c : Nat} {ls : List Lt} {vs : List Value} (h : w.ownsRow base 37 5 (.slice A n c) n (ltsC ls vs)) (hn : ls.length = n) (hv : LtB P w vs ls) : LtS (fun b => P b ∨ base ≤ b) w A n ls := by
  refine ⟨hn, fun j x hj => ?_⟩
  obtain ⟨B, m, c2, h1, h2, h3, h4⟩ := hv.at_ j x hj
  have hjl := (List.getElem?_eq_some_iff.1 hj).1
  rcases h.2 with ⟨_, h0⟩ | ⟨g, cap, cur, e, hg, hh, _⟩
  · omega
  · injection e with e
    subst e
    refine ⟨g, 0, B, m, c2, rfl, .inr hg, fun i v hi => ?_, h2, h3, fun b hb h0 => .inl (h4 b hb h0)⟩
    have hi5 : i < 5 := (List.getElem?_eq_some_iff.1 hi).1
    have := h.cells (g := g) rfl _ v ((ltsC_get ls vs j i x _ hj h1 hi5).trans hi)
    rw [plus_add] at this
    rw [show 0 + j * 5 + i = 5 * j + i from by omega]
    exact this
theorem lts_one {P : Nat → Prop} {w : World} {g : Nat} {l : Lt} {B : Option Addr} {m c : Nat} (hb : Bk w g 37 (ltA l (.slice B m c))) (hg : P g) (hm : m ≤ c) (hr : Rd w B m l.bs) (hP : ∀ b, B = some b → 1 ≤ m → P b.block) : LtS P w (some ⟨g, 0, none⟩) 1 [l] :=
  ⟨rfl, fun j x hj => by
    have hj0 : j = 0 := by have := (List.getElem?_eq_some_iff.1 hj).1; simpa using this
    subst hj0
    simp at hj
    subst hj
    exact ⟨g, 0, B, m, c, rfl, hg, fun i v hv => by
      have := hb.cell i
      rw [show 0 + 0 * 5 + i = i from by omega, this]
      have e : (ltA l (.slice B m c))[i]? = (ltC l (.slice B m c))[i]? := by unfold ltA ltC; simp
      rw [e, hv], hm, hr, hP⟩⟩
theorem info_letter : (Try.prog.info? 37).map (fun i => (i.zero, i.size, i.bytes)) = some (some (.agg #[.int .i64 0, .int .i64 0, .int .i64 0, .int .i64 0, .slice none 0 0]), 5, 56) := by kernel_rfl
theorem ty_letters : Try.prog.underlying 46 = some (.slice 37) := by kernel_rfl
end Go.Proofs.Ytmjipeagbogpmaa.Net

namespace Go.Proofs.Ytmjipeagbogpmaa.Sto

def StillAt (P : Program) (o : Oper) (a : Act) (w : World) (v : Value) : Prop := (execOp a.eval o).run P w = .ok (.value v) w
structure WS (P : Program) (ops : Array Oper) (w : World) (Q : Act → Prop) (l : List Oper) (a : Act) : Prop where
  out : wpStill P ops w Q l a
section
variable {P : Program} {ops : Array Oper} {w : World} {Q : Act → Prop} {a : Act} {o : Oper} {rest : List Oper}
theorem ws_nil (h : Q a) : WS P ops w Q [] a := ⟨wpStill_nil h⟩
theorem ws_skip (h : Region.wanted o (yielded ops a.tmps) = false) (hb : WS P ops w Q rest (a.put o.dst undef)) : WS P ops w Q (o :: rest) a :=
  ⟨wpStill_step fun _ hK => by rw [if_neg (by rw [h]; exact Bool.false_ne_true)]; exact hK _ hb.out⟩
theorem ws_want (h : Region.wanted o (yielded ops a.tmps) = true) (hx : ∃ v, StillAt P o a w v ∧ WS P ops w Q rest (a.put o.dst v)) : WS P ops w Q (o :: rest) a :=
  ⟨wpStill_step fun _ hK => by
    obtain ⟨v, h1, h2⟩ := hx
    rw [if_pos h]
    unfold Oper.still
    rw [h1]
    exact ⟨rfl, hK _ h2.out⟩⟩
end
theorem ws_tail {P : Program} {id : Nat} {Q : Exit → Act → World → Prop} {a : Act} {w : World} {l : List Oper} (n : Nat) (hm : P.follows .mixedOrders = true) (hB : Region.lexTailB .any l.toArray n = true)
    (h : WS P l.toArray { w with drawn := w.drawn + 1 } (fun a' => wpList P l.toArray Q (l.drop n) a' { w with drawn := w.drawn + 1 }) (l.take n) a) : (Code.region id l.toArray true).wp P Q a w := wp_region_still_tail n hm hB h.out
end Go.Proofs.Ytmjipeagbogpmaa.Sto

namespace Go.Proofs.Ytmjipeagbogpmaa.Net
open Go.RowKit Disk Zab Sto

theorem S_list (l : List UInt8) : (S l).toList = l := ByteArray.toList_mk l
theorem S_eq (a b : List UInt8) : ((S a).toList == (S b).toList) = (a == b) := by rw [S_list, S_list]
def SameP (b : Bool) (w : World) (e : Ending) (w' : World) : Prop := e = .returned (.bool b) ∧ Below w.heap.size w w'
def RelSame (w : World) (ls ks : List Lt) (n : Nat) (i : Value) (wr : World) : Prop := ∃ k : Nat, k ≤ n ∧ i = .int .i64 (k : Int) ∧ ls.take k = ks.take k ∧ Below w.heap.size w wr
theorem take_next {ls ks : List Lt} {k : Nat} {x : Lt} (h : ls.take k = ks.take k) (hx : ls[k]? = some x) (hy : ks[k]? = some x) : ls.take (k + 1) = ks.take (k + 1) := by
  obtain ⟨h1, e1⟩ := List.getElem?_eq_some_iff.1 hx
  obtain ⟨h2, e2⟩ := List.getElem?_eq_some_iff.1 hy
  rw [List.take_succ_eq_append_getElem h1, List.take_succ_eq_append_getElem h2, h, e1, e2]
set_option maxRecDepth 100000 in
set_option maxHeartbeats 4000000 in
theorem Same_any {P Q : Nat → Prop} {w : World} {A B : Option Addr} {n m : Nat} {ls ks : List Lt} (h1 : LtS P w A n ls) (h2 : LtS Q w B m ks) (c d : Nat) (hn : n ≤ 1000000) (hm : m ≤ 1000000) : Calls Try.prog 12 #[.slice A n c, .slice B m d] w (SameP (decide (ls = ks)) w) := by
  obtain ⟨r, hr⟩ : ∃ r, r = decide (ls = ks) := ⟨_, rfl⟩
  rw [← hr]
  have HR := Lib.hid hr
  by_cases hnm : n = m
  · subst hnm
    have H1 := Lib.hid h1
    have H2 := Lib.hid h2
    clear h1 h2 hr
    go_enter Try.func12, Try.ntmps12
    go_wp2_with fail
    go_loopw [5] (fun i wr => RelSame w ls ks n i wr) (fun i _ => n - (intOf i).toNat)
    case atStart => exact ⟨0, Nat.zero_le _, rfl, rfl, Below.refl _ _⟩
    case round =>
      obtain ⟨k, hk, rfl, htk, hb⟩ := hrel
      by_cases hlt : k < n
      · have hk1 : k < ls.length := by rw [H1.out.len]; exact hlt
        have hk2 : k < ks.length := by rw [H2.out.len]; exact hlt
        have hx := List.getElem?_eq_getElem hk1
        have hy := List.getElem?_eq_getElem hk2
        generalize ls[k] = x at hx
        generalize ks[k] = y at hy
        have hbd : Below w.heap.size w wr.drew := below_drewN hb 1
        obtain ⟨b, o, X, mx, cx, rfl, -, x0, x1, x2, x3, x4, -, xr, -⟩ := (H1.out.below hbd).get hx
        obtain ⟨b', o', Y, my, cy, rfl, -, y0, y1, y2, y3, y4, -, yr, -⟩ := (H2.out.below hbd).get hy
        have cx' := conv_string xr cx
        have cy' := conv_string yr cy
        have HX := Lib.hid hx
        have HY := Lib.hid hy
        have HTK := Lib.hid htk
        have HBD := Lib.hid hbd
        have hi0 : (0 : Int) ≤ (k : Int) := by omega
        have hi1 : (k : Int) < (n : Int) := by omega
        obtain ⟨⟨xg, xn⟩, ⟨xh, xo⟩, xb⟩ := x
        obtain ⟨⟨yg, yn⟩, ⟨yh, yo⟩, yb⟩ := y
        dsimp only at *
        obtain ⟨sx, hsx⟩ : ∃ sx, sx = S xb := ⟨_, rfl⟩
        obtain ⟨sy, hsy⟩ : ∃ sy, sy = S yb := ⟨_, rfl⟩
        rw [← hsx] at cx'
        rw [← hsy] at cy'
        have HSX := Lib.hid hsx
        have HSY := Lib.hid hsy
        have HNE : Hid ((⟨⟨xg, xn⟩, ⟨xh, xo⟩, xb⟩ : Lt) ≠ ⟨⟨yg, yn⟩, ⟨yh, yo⟩, yb⟩ → r = false) := fun hne => by
          rw [HR.out]
          refine decide_eq_false fun e => hne ?_
          have := HX.out
          rw [e, HY.out] at this
          exact (Option.some.inj this).symm
        clear hx hy xr yr htk hb hbd hk1 hk2 hsx hsy
        by_cases q1 : xg = yg
        · subst q1
          by_cases q2 : xn = yn
          · subst q2
            by_cases q3 : xh = yh
            · subst q3
              by_cases q4 : xo = yo
              · subst q4
                by_cases q5 : xb = yb
                · have e5 : Hid (sx = sy) := by show _ = _; rw [HSX.out, HSY.out, q5]
                  have HREL : Hid (RelSame w ls ks n (.int .i64 ((k + 1 : Nat) : Int)) wr.drew) := ⟨k + 1, by omega, rfl, take_next HTK.out HX.out (by rw [HY.out, q5]), HBD.out⟩
                  obtain rfl : sx = sy := e5.out
                  clear HNE e5 q5
                  go_wp2_with fail
                  refine ws_tail 38 (by kernel_rfl) (by kernel_rfl) ?_
                  simp only [List.take_succ_cons, List.take_zero, List.drop_succ_cons, List.drop_zero]
                  iterate 38
                    refine ws_want (by kernel_rfl) ?_
                    apply Exists.intro
                    refine And.intro ?_ ?_
                    · unfold StillAt
                      first
                        | (go_simp; done)
                        | (go_simp; exact rfl)
                    try simp only [Act.put, List.setIfInBounds_toArray, List.set_cons_zero, List.set_cons_succ]
                  refine ws_nil ?_
                  change wpList _ _ _ _ _ wr.drew
                  go_wp2_with fail
                  exact ⟨HREL.out, by simp [intOf]; omega⟩
                · have HNO : Hid (r = false) := HNE.out fun e => q5 (by injection e)
                  have hq : (sx.toList == sy.toList) = false := by rw [HSX.out, HSY.out, S_eq]; exact beq_eq_false_iff_ne.2 q5
                  clear HNE q5
                  go_wp2_with fail
                  refine ws_tail 38 (by kernel_rfl) (by kernel_rfl) ?_
                  simp only [List.take_succ_cons, List.take_zero, List.drop_succ_cons, List.drop_zero]
                  iterate 38
                    refine ws_want (by kernel_rfl) ?_
                    apply Exists.intro
                    refine And.intro ?_ ?_
                    · unfold StillAt
                      first
                        | (go_simp; done)
                        | (go_simp; exact rfl)
                    try simp only [Act.put, List.setIfInBounds_toArray, List.set_cons_zero, List.set_cons_succ]
                  refine ws_nil ?_
                  change wpList _ _ _ _ _ wr.drew
                  go_wp2_with fail
                  go_ret
                  exact ⟨by rw [HNO.out]; exact rfl, HBD.out⟩
              · have HNO : Hid (r = false) := HNE.out fun e => q4 (by injection e with e1 e2 e3; injection e2)
                have hq : (xo == yo) = false := beq_eq_false_iff_ne.2 q4
                clear q4
                go_wp2_with fail
                refine ws_tail 38 (by kernel_rfl) (by kernel_rfl) ?_
                simp only [List.take_succ_cons, List.take_zero, List.drop_succ_cons, List.drop_zero]
                iterate 25
                  refine ws_want (by kernel_rfl) ?_
                  apply Exists.intro
                  refine And.intro ?_ ?_
                  · unfold StillAt
                    first
                      | (go_simp; done)
                      | (go_simp; exact rfl)
                  try simp only [Act.put, List.setIfInBounds_toArray, List.set_cons_zero, List.set_cons_succ]
                iterate 13
                  refine ws_skip (by kernel_rfl) ?_
                  try simp only [Act.put, List.setIfInBounds_toArray, List.set_cons_zero, List.set_cons_succ]
                refine ws_nil ?_
                change wpList _ _ _ _ _ wr.drew
                go_wp2_with fail
                go_ret
                exact ⟨by rw [HNO.out]; exact rfl, HBD.out⟩
            · have HNO : Hid (r = false) := HNE.out fun e => q3 (by injection e with e1 e2 e3; injection e2)
              have hq : (xh == yh) = false := beq_eq_false_iff_ne.2 q3
              clear q3
              go_wp2_with fail
              refine ws_tail 38 (by kernel_rfl) (by kernel_rfl) ?_
              simp only [List.take_succ_cons, List.take_zero, List.drop_succ_cons, List.drop_zero]
              iterate 25
                refine ws_want (by kernel_rfl) ?_
                apply Exists.intro
                refine And.intro ?_ ?_
                · unfold StillAt
                  first
                    | (go_simp; done)
                    | (go_simp; exact rfl)
                try simp only [Act.put, List.setIfInBounds_toArray, List.set_cons_zero, List.set_cons_succ]
              iterate 13
                refine ws_skip (by kernel_rfl) ?_
                try simp only [Act.put, List.setIfInBounds_toArray, List.set_cons_zero, List.set_cons_succ]
              refine ws_nil ?_
              change wpList _ _ _ _ _ wr.drew
              go_wp2_with fail
              go_ret
              exact ⟨by rw [HNO.out]; exact rfl, HBD.out⟩
          · have HNO : Hid (r = false) := HNE.out fun e => q2 (by injection e with e1 e2 e3; injection e1)
            have hq : (xn == yn) = false := beq_eq_false_iff_ne.2 q2
            clear q2
            go_wp2_with fail
            refine ws_tail 38 (by kernel_rfl) (by kernel_rfl) ?_
            simp only [List.take_succ_cons, List.take_zero, List.drop_succ_cons, List.drop_zero]
            iterate 12
              refine ws_want (by kernel_rfl) ?_
              apply Exists.intro
              refine And.intro ?_ ?_
              · unfold StillAt
                first
                  | (go_simp; done)
                  | (go_simp; exact rfl)
              try simp only [Act.put, List.setIfInBounds_toArray, List.set_cons_zero, List.set_cons_succ]
            iterate 11
              refine ws_skip (by kernel_rfl) ?_
              try simp only [Act.put, List.setIfInBounds_toArray, List.set_cons_zero, List.set_cons_succ]
            iterate 2
              refine ws_want (by kernel_rfl) ?_
              apply Exists.intro
              refine And.intro ?_ ?_
              · unfold StillAt
                first
                  | (go_simp; done)
                  | (go_simp; exact rfl)
              try simp only [Act.put, List.setIfInBounds_toArray, List.set_cons_zero, List.set_cons_succ]
            iterate 13
              refine ws_skip (by kernel_rfl) ?_
              try simp only [Act.put, List.setIfInBounds_toArray, List.set_cons_zero, List.set_cons_succ]
            refine ws_nil ?_
            change wpList _ _ _ _ _ wr.drew
            go_wp2_with fail
            go_ret
            exact ⟨by rw [HNO.out]; exact rfl, HBD.out⟩
        · have HNO : Hid (r = false) := HNE.out fun e => q1 (by injection e with e1 e2 e3; injection e1)
          have hq : (xg == yg) = false := beq_eq_false_iff_ne.2 q1
          clear q1
          go_wp2_with fail
          refine ws_tail 38 (by kernel_rfl) (by kernel_rfl) ?_
          simp only [List.take_succ_cons, List.take_zero, List.drop_succ_cons, List.drop_zero]
          iterate 12
            refine ws_want (by kernel_rfl) ?_
            apply Exists.intro
            refine And.intro ?_ ?_
            · unfold StillAt
              first
                | (go_simp; done)
                | (go_simp; exact rfl)
            try simp only [Act.put, List.setIfInBounds_toArray, List.set_cons_zero, List.set_cons_succ]
          iterate 11
            refine ws_skip (by kernel_rfl) ?_
            try simp only [Act.put, List.setIfInBounds_toArray, List.set_cons_zero, List.set_cons_succ]
          iterate 2
            refine ws_want (by kernel_rfl) ?_
            apply Exists.intro
            refine And.intro ?_ ?_
            · unfold StillAt
              first
                | (go_simp; done)
                | (go_simp; exact rfl)
            try simp only [Act.put, List.setIfInBounds_toArray, List.set_cons_zero, List.set_cons_succ]
          iterate 13
            refine ws_skip (by kernel_rfl) ?_
            try simp only [Act.put, List.setIfInBounds_toArray, List.set_cons_zero, List.set_cons_succ]
          refine ws_nil ?_
          change wpList _ _ _ _ _ wr.drew
          go_wp2_with fail
          go_ret
          exact ⟨by rw [HNO.out]; exact rfl, HBD.out⟩
      · obtain rfl : k = n := by omega
        have HYES : Hid (r = true) := by
          show _ = _
          rw [HR.out]
          refine decide_eq_true ?_
          have e1 := List.take_of_length_le (l := ls) (i := k) (by rw [H1.out.len]; exact Nat.le_refl _)
          have e2 := List.take_of_length_le (l := ks) (i := k) (by rw [H2.out.len]; exact Nat.le_refl _)
          rw [← e1, ← e2]
          exact htk
        have HB := Lib.hid hb
        have v1 : ¬ (k : Int) < (k : Int) := by omega
        clear hlt htk hb
        go_wp2_with fail
        go_ret
        exact ⟨by rw [HYES.out]; exact rfl, HB.out⟩
  · have HNO : Hid (r = false) := by
      show _ = _
      rw [hr]
      refine decide_eq_false fun e => hnm ?_
      rw [← h1.len, ← h2.len, e]
    have hq : ((n : Int) == (m : Int)) = false := beq_eq_false_iff_ne.2 (by omega)
    clear hr h1 h2 hnm
    go_enter Try.func12, Try.ntmps12
    go_wp2_with fail
    go_ret
    exact ⟨by rw [HNO.out]; exact rfl, Below.refl _ _⟩
end Go.Proofs.Ytmjipeagbogpmaa.Net

namespace Go.Proofs.Ytmjipeagbogpmaa.Net
open Go.RowKit Disk Zab

theorem size_letter : (Try.prog.info? 37).map (·.size) = some 5 := by kernel_rfl
set_option maxRecDepth 8000 in
theorem linkOf_any (a b : Ad) (w : World) : Calls Try.prog 31 #[adV a, adV b] w fun e w' => e = .returned (lkV (linkOf a b)) ∧ Below w.heap.size w w' := by
  obtain ⟨ag, an⟩ := a
  obtain ⟨bg, bn⟩ := b
  unfold linkOf
  dsimp only [adV]
  have HB : Hid (∀ x0 x1 y0 y1 z0 z1 z2 z3 : Value, Below w.heap.size w (((w.alloc (.cells #[x0, x1] 34)).alloc (.cells #[y0, y1] 34)).alloc (.cells #[z0, z1, z2, z3] 71))) := fun _ _ _ _ _ _ _ _ => (((Below.refl _ _).alloc (Nat.le_refl _) _).alloc (by simp) _).alloc (by simp; omega) _
  by_cases h1 : bg < ag
  · rw [if_pos (.inl h1)]
    go_enter Try.func31, Try.ntmps31
    go_wp2_with fail
    refine bodyPost_ret (v := lkV (⟨bg, bn⟩, ⟨ag, an⟩)) (by simp [results, Try.results31, go_sem, lkV]) rfl ⟨rfl, HB.out _ _ _ _ _ _ _ _⟩
  · by_cases h2 : bg = ag
    · subst h2
      by_cases h3 : bn < an
      · rw [if_pos (.inr ⟨rfl, h3⟩)]
        go_enter Try.func31, Try.ntmps31
        go_wp2_with fail
        refine bodyPost_ret (v := lkV (⟨bg, bn⟩, ⟨bg, an⟩)) (by simp [results, Try.results31, go_sem, lkV]) rfl ⟨rfl, HB.out _ _ _ _ _ _ _ _⟩
      · rw [if_neg (by omega)]
        go_enter Try.func31, Try.ntmps31
        go_wp2_with fail
        refine bodyPost_ret (v := lkV (⟨bg, an⟩, ⟨bg, bn⟩)) (by simp [results, Try.results31, go_sem, lkV]) rfl ⟨rfl, HB.out _ _ _ _ _ _ _ _⟩
    · rw [if_neg (by omega)]
      have h2' : (bg == ag) = false := beq_eq_false_iff_ne.2 h2
      clear h2
      go_enter Try.func31, Try.ntmps31
      go_wp2_with fail
      refine bodyPost_ret (v := lkV (⟨ag, an⟩, ⟨bg, bn⟩)) (by simp [results, Try.results31, go_sem, lkV]) rfl ⟨rfl, HB.out _ _ _ _ _ _ _ _⟩
section
variable {w0 w : World} {O F : Nat → Prop} {gz : Nat} {As : Option Addr} {cs : Nat} {Ar : Option Addr} {cr gm : Nat} {D : DataW Value} {ps : List Nat} {z : Nt} {N : Nat}
theorem NtM.cells (h : NtM w O F gz As cs Ar cr gm D ps z N) : w.cell? ⟨gz, 0, none⟩ = some (.slice As z.sizes.length cs) ∧ w.cell? ⟨gz, 1, none⟩ = some (.slice Ar z.row.length cr) ∧ w.cell? ⟨gz, 2, none⟩ = some (.map (some gm)) ∧ ∀ i, w.frozen? ⟨gz, i, none⟩ = false := ⟨h.bk.cell 0, h.bk.cell 1, h.bk.cell 2, h.bk.frozen⟩
theorem NtM.below (h : NtM w O F gz As cs Ar cr gm D ps z N) {W : World} (hb : Below w.heap.size w W) : NtM W O F gz As cs Ar cr gm D ps z N := h.out (X := fun _ => False) (Out.of_below hb) fun _ _ q => q
theorem sizes_get (hz : sizesOk z.sizes = true) {g : Int} (h0 : 0 ≤ g) (h1 : g < (z.sizes.length : Int)) : (iv z.sizes)[g.toNat]? = some (.int .i64 (z.sizes.getD g.toNat 0)) ∧ 1 ≤ z.sizes.getD g.toNat 0 ∧ z.sizes.getD g.toNat 0 ≤ 3 := by
  have hl : g.toNat < z.sizes.length := by omega
  have := (sizesOk_iff.1 hz).2.2 _ (List.getElem_mem hl)
  unfold iv
  rw [List.getElem?_map, List.getD_eq_getElem?_getD, List.getElem?_eq_getElem hl]
  exact ⟨rfl, this.1, this.2⟩
set_option maxRecDepth 8000 in
theorem has_any (h : NtM w O F gz As cs Ar cr gm D ps z N) (hz : sizesOk z.sizes = true) (a : Ad) : Calls Try.prog 39 #[.pointer (some ⟨gz, 0, none⟩), adV a] w fun e w' => e = .returned (.bool (z.has a)) ∧ Below w.heap.size w w' := by
  obtain ⟨g, n⟩ := a
  have hl4 : (z.sizes.length : Int) ≤ 4 := by have := (sizesOk_iff.1 hz).2.1; omega
  have hB : Below w.heap.size w (w.alloc (.cells #[.int .i64 g, .int .i64 n] 34)) := (Below.refl _ _).alloc (Nat.le_refl _) _
  obtain ⟨c0, -, -, -⟩ := (h.below hB).cells
  have hbx := Bk.new w 34 #[.int .i64 g, .int .i64 n]
  have b0 := hbx.cell 0
  have b1 := hbx.cell 1
  have hrd := (h.below hB).sz
  obtain ⟨r, hr⟩ : ∃ r, r = z.has ⟨g, n⟩ := ⟨_, rfl⟩
  rw [← hr]
  unfold Nt.has at hr
  dsimp only [adV] at *
  have HB := Lib.hid hB
  have HR := Lib.hid hr
  have HRD := Lib.hid hrd
  clear hB hr hrd hbx
  generalize hw : w.alloc (.cells #[.int .i64 g, .int .i64 n] 34) = W at *
  by_cases h1 : 0 ≤ g
  · by_cases h2 : g < (z.sizes.length : Int)
    · have d2 : decide (g < (z.sizes.length : Int)) = true := decide_eq_true h2
      by_cases h3 : 0 ≤ n
      · obtain ⟨hg1, hg2, hg3⟩ := sizes_get hz h1 h2
        obtain ⟨ad, rfl, hc⟩ := HRD.out.cells (by omega)
        have hcell := hc _ _ hg1
        have HE : Hid (r = decide (n < z.sizes.getD g.toNat 0)) := by
          show _ = _
          rw [HR.out]
          simp [h1, h2, h3]
        clear hc hg1 HRD h hz
        generalize z.sizes.getD g.toNat 0 = s at *
        obtain ⟨k, rfl⟩ : ∃ k : Nat, g = (k : Int) := ⟨g.toNat, by omega⟩
        simp only [Int.toNat_natCast] at hcell
        by_cases h4 : n < s
        · have e : r = true := by rw [HE.out]; simp [h4]
          subst e
          clear HE HR
          go_enter Try.func39, Try.ntmps39
          go_wp2_with fail
          go_quiet (fail)
          go_wp2_with fail
          go_ret
          exact ⟨rfl, below_drewN HB.out _⟩
        · have e : r = false := by rw [HE.out]; simp [h4]
          subst e
          have d4 : decide (n < s) = false := decide_eq_false h4
          clear HE HR
          go_enter Try.func39, Try.ntmps39
          go_wp2_with fail
          go_quiet (fail)
          go_wp2_with fail
          go_ret
          exact ⟨rfl, below_drewN HB.out _⟩
      · have e : r = false := by rw [HR.out]; simp [h3]
        subst e
        have d3 : decide (0 ≤ n) = false := decide_eq_false h3
        clear HR
        go_enter Try.func39, Try.ntmps39
        go_wp2_with fail
        go_quiet (fail)
        go_wp2_with fail
        go_ret
        exact ⟨rfl, below_drewN HB.out _⟩
    · have e : r = false := by rw [HR.out]; simp [h2]
      subst e
      have d2 : decide (g < (z.sizes.length : Int)) = false := decide_eq_false h2
      clear HR
      go_enter Try.func39, Try.ntmps39
      go_wp2_with fail
      go_quiet (fail)
      go_wp2_with fail
      go_ret
      exact ⟨rfl, below_drewN HB.out _⟩
  · have e : r = false := by rw [HR.out]; simp [h1]
    subst e
    have d1 : decide (0 ≤ g) = false := decide_eq_false h1
    clear HR
    go_enter Try.func39, Try.ntmps39
    go_wp2_with fail
    go_quiet (fail)
    go_wp2_with fail
    go_ret
    exact ⟨rfl, below_drewN HB.out _⟩
end
end Go.Proofs.Ytmjipeagbogpmaa.Net

namespace Go.Proofs.Ytmjipeagbogpmaa.Net
open Go.RowKit Disk Zab

def okC (b : Bool) : Int := cond b 0 1
section
variable {w0 w : World} {O F : Nat → Prop} {gz : Nat} {As : Option Addr} {cs : Nat} {Ar : Option Addr} {cr gm : Nat} {D : DataW Value} {ps : List Nat} {z : Nt} {N : Nat}
set_option maxRecDepth 8000 in
theorem faultAt_any (h : NtAt w0 w O gz z N) (i : Int) : Calls Try.prog 35 #[.pointer (some ⟨gz, 0, none⟩), .int .i64 i] w fun e w' => e = .returned (.int .i64 (okC (z.okAt i))) ∧ w' = w := by
  obtain ⟨hok, _, _, F, As, cs, Ar, cr, gm, D, ps, hm⟩ := h
  obtain ⟨-, c1, -, -⟩ := hm.cells
  have hl : z.row.length ≤ 4096 := hok.few
  obtain ⟨r, hr⟩ : ∃ r, r = z.okAt i := ⟨_, rfl⟩
  rw [← hr]
  unfold Nt.okAt at hr
  have HR := Lib.hid hr
  clear hm hok hr
  generalize z.row.length = n at *
  by_cases h1 : i < 0
  · have e : r = false := by rw [HR.out, decide_eq_false (by omega)]; rfl
    subst e
    clear HR
    go_enter Try.func35, Try.ntmps35
    go_wp2_with fail
    go_ret
    exact ⟨rfl, rfl⟩
  by_cases h2 : i < (n : Int)
  · have e : r = true := by rw [HR.out, decide_eq_true (by omega), decide_eq_true h2]; rfl
    subst e
    have h2' : ¬ (n : Int) ≤ i := by omega
    clear HR
    go_enter Try.func35, Try.ntmps35
    go_wp2_with fail
    go_ret
    exact ⟨rfl, rfl⟩
  · have e : r = false := by rw [HR.out, decide_eq_false h2, Bool.and_false]
    subst e
    have h2' : (n : Int) ≤ i := by omega
    clear HR
    go_enter Try.func35, Try.ntmps35
    go_wp2_with fail
    go_ret
    exact ⟨rfl, rfl⟩
set_option maxRecDepth 8000 in
theorem faultOf_any (h : NtAt w0 w O gz z N) (a b : Ad) : Calls Try.prog 33 #[.pointer (some ⟨gz, 0, none⟩), adV a, adV b] w fun e w' => e = .returned (.int .i64 (okC (z.link a b))) ∧ Below w.heap.size w w' := by
  obtain ⟨hok, _, _, F, As, cs, Ar, cr, gm, D, ps, hm⟩ := h
  have hB : Below w.heap.size w ((w.alloc (.cells #[.int .i64 a.g, .int .i64 a.n] 34)).alloc (.cells #[.int .i64 b.g, .int .i64 b.n] 34)) := ((Below.refl _ _).alloc (Nat.le_refl _) _).alloc (by simp) _
  have CH := Lib.hid (fun W (hW : Below w.heap.size w W) (x : Ad) => has_any (hm.below hW) hok.sizes x)
  have HB := Lib.hid hB
  obtain ⟨r, hr⟩ : ∃ r, r = z.link a b := ⟨_, rfl⟩
  rw [← hr]
  unfold Nt.link at hr
  have HR := Lib.hid hr
  have hs : w.heap.size + 1 < ((w.alloc (.cells #[.int .i64 a.g, .int .i64 a.n] 34)).alloc (.cells #[.int .i64 b.g, .int .i64 b.n] 34)).heap.size := by simp
  have B1 := (Bk.new w 34 #[.int .i64 a.g, .int .i64 a.n]).alloc (.cells #[.int .i64 b.g, .int .i64 b.n] 34)
  have B2 : Bk ((w.alloc (.cells #[.int .i64 a.g, .int .i64 a.n] 34)).alloc (.cells #[.int .i64 b.g, .int .i64 b.n] 34)) (w.heap.size + 1) 34 #[.int .i64 b.g, .int .i64 b.n] := by simpa using Bk.new (w.alloc (.cells #[.int .i64 a.g, .int .i64 a.n] 34)) 34 #[.int .i64 b.g, .int .i64 b.n]
  clear hm hok hB hr hs
  obtain ⟨ag, an⟩ := a
  obtain ⟨bg, bn⟩ := b
  unfold adV at CH ⊢
  dsimp only at *
  have h10 := B1.cell 0
  have h11 := B1.cell 1
  have h20 := B2.cell 0
  have h21 := B2.cell 1
  have HB2 := Lib.hid B2
  clear B1 B2
  generalize hw : (w.alloc (.cells #[.int .i64 ag, .int .i64 an] 34)).alloc (.cells #[.int .i64 bg, .int .i64 bn] 34) = W at *
  by_cases h1 : ag = bg
  · subst h1
    by_cases h2 : an = bn
    · subst h2
      have e : r = false := by rw [HR.out]; simp
      subst e
      clear HR
      go_enter Try.func33, Try.ntmps33
      go_wp2_with fail
      go_ret
      exact ⟨rfl, HB.out⟩
    · have hne : decide ((⟨ag, an⟩ : Ad) = ⟨ag, bn⟩) = false := decide_eq_false fun e => h2 (by injection e)
      have h2' : (an == bn) = false := beq_eq_false_iff_ne.2 h2
      clear h2
      have CH1 := CH.out W HB.out ⟨ag, an⟩
      dsimp only at CH1
      have HRa := Lib.hid HR.out
      obtain ⟨ra, hra⟩ : ∃ ra, ra = z.has ⟨ag, an⟩ := ⟨_, rfl⟩
      rw [← hra] at CH1
      have HRA := Lib.hid hra
      clear hra HR
      cases ra
      · have e : r = false := by rw [HRa.out, ← HRA.out]; simp
        subst e
        clear HRa
        go_enter Try.func33, Try.ntmps33
        go_wp2_with fail
        refine CH1.mono ?_
        rintro e w1 ⟨rfl, hb1⟩
        have HB1 := Lib.hid (HB.out.trans (hb1.mono HB.out.size))
        clear CH1 hb1
        go_wp2_with fail
        go_ret
        exact ⟨rfl, HB1.out⟩
      · have e : r = z.has ⟨ag, bn⟩ := by rw [HRa.out, ← HRA.out, hne]; rfl
        have HRb := Lib.hid e
        clear HRa e
        go_enter Try.func33, Try.ntmps33
        go_wp2_with fail
        refine CH1.mono ?_
        rintro e w1 ⟨rfl, hb1⟩
        have HB1 := Lib.hid (HB.out.trans (hb1.mono HB.out.size))
        have h20' := (HB2.out.below hb1).cell 0
        have h21' := (HB2.out.below hb1).cell 1
        have CH2 := CH.out w1 HB1.out ⟨ag, bn⟩
        rw [← HRb.out] at CH2
        clear CH1 hb1 HRb
        go_wp2_with fail
        refine CH2.mono ?_
        rintro e w2 ⟨rfl, hb2⟩
        have HB3 := Lib.hid (HB1.out.trans (hb2.mono HB1.out.size))
        clear CH2 hb2
        cases r
        · go_wp2_with fail
          go_ret
          exact ⟨rfl, HB3.out⟩
        · go_wp2_with fail
          go_ret
          exact ⟨rfl, HB3.out⟩
  · have hne : decide ((⟨ag, an⟩ : Ad) = ⟨bg, bn⟩) = false := decide_eq_false fun e => h1 (by injection e)
    have h1' : (ag == bg) = false := beq_eq_false_iff_ne.2 h1
    clear h1
    have CH1 := CH.out W HB.out ⟨ag, an⟩
    dsimp only at CH1
    have HRa := Lib.hid HR.out
    obtain ⟨ra, hra⟩ : ∃ ra, ra = z.has ⟨ag, an⟩ := ⟨_, rfl⟩
    rw [← hra] at CH1
    have HRA := Lib.hid hra
    clear hra HR
    cases ra
    · have e : r = false := by rw [HRa.out, ← HRA.out]; simp
      subst e
      clear HRa
      go_enter Try.func33, Try.ntmps33
      go_wp2_with fail
      refine CH1.mono ?_
      rintro e w1 ⟨rfl, hb1⟩
      have HB1 := Lib.hid (HB.out.trans (hb1.mono HB.out.size))
      clear CH1 hb1
      go_wp2_with fail
      go_ret
      exact ⟨rfl, HB1.out⟩
    · have e : r = z.has ⟨bg, bn⟩ := by rw [HRa.out, ← HRA.out, hne]; rfl
      have HRb := Lib.hid e
      clear HRa e
      go_enter Try.func33, Try.ntmps33
      go_wp2_with fail
      refine CH1.mono ?_
      rintro e w1 ⟨rfl, hb1⟩
      have HB1 := Lib.hid (HB.out.trans (hb1.mono HB.out.size))
      have h20' := (HB2.out.below hb1).cell 0
      have h21' := (HB2.out.below hb1).cell 1
      have CH2 := CH.out w1 HB1.out ⟨bg, bn⟩
      rw [← HRb.out] at CH2
      clear CH1 hb1 HRb
      go_wp2_with fail
      refine CH2.mono ?_
      rintro e w2 ⟨rfl, hb2⟩
      have HB3 := Lib.hid (HB1.out.trans (hb2.mono HB1.out.size))
      clear CH2 hb2
      cases r
      · go_wp2_with fail
        go_ret
        exact ⟨rfl, HB3.out⟩
      · go_wp2_with fail
        go_ret
        exact ⟨rfl, HB3.out⟩
set_option maxRecDepth 8000 in
theorem Len_any (h : NtAt w0 w O gz z N) : Calls Try.prog 14 #[.pointer (some ⟨gz, 0, none⟩)] w fun e w' => e = .returned (.int .i64 (z.row.length : Int)) ∧ w' = w := by
  obtain ⟨hok, _, _, F, As, cs, Ar, cr, gm, D, ps, hm⟩ := h
  obtain ⟨-, c1, -, -⟩ := hm.cells
  have hl : z.row.length ≤ 4096 := hok.few
  clear hm hok
  generalize z.row.length = n at *
  go_enter Try.func14, Try.ntmps14
  go_wp2_with fail
  go_ret
  exact ⟨rfl, rfl⟩
end
end Go.Proofs.Ytmjipeagbogpmaa.Net

namespace Go.Proofs.Ytmjipeagbogpmaa.Net
open Go.RowKit Disk Zab

theorem ty_cuts : Try.prog.underlying 57 = some (.map 71 4) := by kernel_rfl
theorem zero_bool (w : World) : (zeroValue 4).run Try.prog w = .ok (.bool false) w := by kernel_rfl
section
variable {w0 w : World} {O F : Nat → Prop} {gz : Nat} {As : Option Addr} {cs : Nat} {Ar : Option Addr} {cr gm : Nat} {D : DataW Value} {ps : List Nat} {z : Nt} {N : Nat}
theorem NtM.look (h : NtM w O F gz As cs Ar cr gm D ps z N) {a b : Ad} (ha : a.Wf) (hb : b.Wf) : (Instr.lookup 57 (.map (some gm)) (lkV (linkOf a b)) false).run Try.prog w = .ok (.bool (z.cuts a b)) w := by
  have := (h.map.look ty_cuts (zero_bool w) (linkOf a b) (linkOf_wf ha hb)).1
  rw [cutV_get] at this
  exact this
def S4 (gz gm b1 b2 : Nat) (a b : Ad) (v : Bool) (V : World) : Prop := V.cell? ⟨gz, 2, none⟩ = some (.map (some gm)) ∧ V.cell? ⟨b1, 0, none⟩ = some (.int .i64 a.g) ∧ V.cell? ⟨b1, 1, none⟩ = some (.int .i64 a.n) ∧ V.cell? ⟨b2, 0, none⟩ = some (.int .i64 b.g) ∧ V.cell? ⟨b2, 1, none⟩ = some (.int .i64 b.n) ∧ (Instr.lookup 57 (.map (some gm)) (lkV (linkOf a b)) false).run Try.prog V = .ok (.bool v) V
set_option maxRecDepth 8000 in
set_option maxHeartbeats 1000000 in
theorem Cuts_any (h : NtAt w0 w O gz z N) {a b : Ad} (ha : a.Wf) (hb : b.Wf) : Calls Try.prog 15 #[.pointer (some ⟨gz, 0, none⟩), adV a, adV b] w fun e w' => e = .returned (.bool (z.cuts a b)) ∧ Below w.heap.size w w' := by
  obtain ⟨hok, _, _, F, As, cs, Ar, cr, gm, D, ps, hm⟩ := h
  have hB : Below w.heap.size w ((w.alloc (.cells #[.int .i64 a.g, .int .i64 a.n] 34)).alloc (.cells #[.int .i64 b.g, .int .i64 b.n] 34)) := ((Below.refl _ _).alloc (Nat.le_refl _) _).alloc (by simp) _
  have B1 := (Bk.new w 34 #[.int .i64 a.g, .int .i64 a.n]).alloc (.cells #[.int .i64 b.g, .int .i64 b.n] 34)
  have B2 : Bk ((w.alloc (.cells #[.int .i64 a.g, .int .i64 a.n] 34)).alloc (.cells #[.int .i64 b.g, .int .i64 b.n] 34)) (w.heap.size + 1) 34 #[.int .i64 b.g, .int .i64 b.n] := by simpa using Bk.new (w.alloc (.cells #[.int .i64 a.g, .int .i64 a.n] 34)) 34 #[.int .i64 b.g, .int .i64 b.n]
  have CL := Lib.hid (linkOf_any a b)
  have HB := Lib.hid hB
  have HM := Lib.hid (hm.below hB)
  clear hB hm
  obtain ⟨v, hv⟩ : ∃ v, v = z.cuts a b := ⟨_, rfl⟩
  rw [← hv]
  unfold adV at CL ⊢
  have HC : Hid (∀ V, Below ((w.alloc (.cells #[.int .i64 a.g, .int .i64 a.n] 34)).alloc (.cells #[.int .i64 b.g, .int .i64 b.n] 34)).heap.size ((w.alloc (.cells #[.int .i64 a.g, .int .i64 a.n] 34)).alloc (.cells #[.int .i64 b.g, .int .i64 b.n] 34)) V → S4 gz gm w.heap.size (w.heap.size + 1) a b v V) := fun V hV =>
    ⟨(HM.out.below hV).cells.2.2.1, (B1.below hV).cell 0, (B1.below hV).cell 1, (B2.below hV).cell 0, (B2.below hV).cell 1, by rw [hv]; exact (HM.out.below hV).look ha hb⟩
  clear HM B1 B2 hv hok
  generalize hw : (w.alloc (.cells #[.int .i64 a.g, .int .i64 a.n] 34)).alloc (.cells #[.int .i64 b.g, .int .i64 b.n] 34) = W at *
  have HSD := Lib.hid (HC.out W.drew (below_drewN (Below.refl _ W) 1))
  have HSW := Lib.hid (HC.out W (Below.refl _ W))
  obtain ⟨k1, k2, k3, k4, k5, -⟩ := HSW.out
  unfold S4 at HC HSD
  go_enter Try.func15, Try.ntmps15
  go_wp2_with fail
  go_region_held3 (fun V => V.cell? ⟨gz, 2, none⟩ = some (.map (some gm)) ∧ V.cell? ⟨w.heap.size, 0, none⟩ = some (.int .i64 a.g) ∧ V.cell? ⟨w.heap.size, 1, none⟩ = some (.int .i64 a.n) ∧ V.cell? ⟨w.heap.size + 1, 0, none⟩ = some (.int .i64 b.g) ∧ V.cell? ⟨w.heap.size + 1, 1, none⟩ = some (.int .i64 b.n) ∧ (Instr.lookup 57 (.map (some gm)) (lkV (linkOf a b)) false).run Try.prog V = .ok (.bool v) V)
    (first | (with_reducible assumption) | (with_reducible exact HSD.out) | (with_reducible exact HS1.out))
    (first | (go_at_call 31; (with_reducible refine (CL.out _).mono ?_); rintro e w1 ⟨rfl, hb1⟩; have HB1 := Lib.hid ((below_drewN (Below.refl _ W) 1).trans (hb1.mono (Nat.le_refl _))); have HS1 := Lib.hid (HC.out w1 HB1.out); clear hb1))
  go_wp2_with fail
  go_ret
  exact ⟨rfl, HB.out.trans (HB1.out.mono HB.out.size)⟩
end
end Go.Proofs.Ytmjipeagbogpmaa.Net

namespace Go.Proofs.Ytmjipeagbogpmaa
open Go.RowKit

theorem own_lit1 (w : World) (e : TypeId) : (w.alloc (.cells #[] e)).ownsRow w.heap.size e 1 (.slice (some ⟨w.heap.size, 0, none⟩) 0 0) 0 ([] : List Value) :=
  ⟨rfl, .inr ⟨w.heap.size, 0, #[], rfl, Nat.le_refl _, heap_alloc_new w _, Nat.le_refl _, by unfold maxLen; omega, rfl, rfl⟩⟩
def CopyP (bs : List UInt8) (w : World) (e : Ending) (w' : World) : Prop := ∃ B m k, e = .returned (.slice B m k) ∧ m ≤ k ∧ Rd w' B m bs ∧ (∀ a, B = some a → w.heap.size ≤ a.block) ∧ Below w.heap.size w w' ∧ w'.ownsRow w.heap.size 5 1 (.slice B m k) m (bs.map U)
set_option maxRecDepth 8000 in
theorem clone_bytes (A : Option Addr) (n c : Nat) (bs : List UInt8) (w : World) (hr : Rd w A n bs) (hle : n ≤ 140737488355328) :
    Calls Try.prog 38 #[.slice A n c] w (CopyP bs w) := by
  have H := Lib.hid hr
  cases A with
  | none =>
    have h0 : n = 0 := by
      rcases Nat.eq_zero_or_pos n with h | h
      · exact h
      · obtain ⟨_, e', _⟩ := hr.cells h
        cases e'
    subst h0
    have hb0 : bs = [] := List.eq_nil_of_length_eq_zero hr.len
    subst hb0
    clear hr
    have heq := Lib.run_eql_slice_nil (P := Try.prog) w 35 5 none 0 c 0 0 ty_bytes
    go_enter Try.func38, Try.ntmps38
    go_wp2_with fail
    go_ret
    exact ⟨none, 0, 0, rfl, Nat.le_refl _, Rd.nil_ _ _, (fun a h => by cases h), Below.refl _ _, ⟨rfl, .inl ⟨rfl, rfl⟩⟩⟩
  | some ad =>
    clear hr
    obtain ⟨i, hi, hz0, hz1, hz2⟩ := infos info_byte
    have HI := Lib.hid hi
    have HZ0 := Lib.hid hz0
    have HZ1 := Lib.hid hz1
    have HZ2 := Lib.hid hz2
    clear hi hz0 hz1 hz2
    have heq := Lib.run_eql_slice_nil (P := Try.prog) w 35 5 (some ad) n c 0 0 ty_bytes
    go_enter Try.func38, Try.ntmps38
    have HBa := Lib.hid ((Below.refl w.heap.size w).alloc (Nat.le_refl _) (.cells #[] 5))
    go_wp2_with (at_builtin; refine wpList_append_Rd rfl (.tmp 5) (.tmp 6) _ rfl ty_bytes HI.out HZ0.out HZ1.out HZ2.out rfl rfl (own_lit1 w 5) rfl (H.out.below HBa.out) (by omega) (by simp) ?_)
    intro v' w3 hown3 hgr3
    have HO3 := Lib.hid hown3
    have HB3 := Lib.hid (HBa.out.grown hgr3 HBa.out.size (fun g hg => ((own_lit1 w 5).lt g hg).1))
    clear hown3 hgr3
    go_wp2_with fail
    go_ret
    obtain ⟨B, k, e1⟩ := own_slice HO3.out
    have ho := HO3.out
    rw [e1] at ho ⊢
    have hle2 : n ≤ k := by
      rcases ho.2 with ⟨e2, e3⟩ | ⟨g, cap, cur, e2, _, _, h4, _⟩
      · omega
      · injection e2 with _ _ e2; omega
    exact ⟨B, n, k, rfl, hle2, (Rd.of_own ho).1, fun a ha => (ho.lt a.block (by rw [ha]; rfl)).1, HB3.out, ho⟩
end Go.Proofs.Ytmjipeagbogpmaa

namespace Go.Proofs.Ytmjipeagbogpmaa.Net
open Go.RowKit Disk Zab

def LtP (l : Lt) (w : World) (e : Ending) (w' : World) : Prop := ∃ B m k, e = .returned (ltV l (.slice B m k)) ∧ m ≤ k ∧ Rd w' B m l.bs ∧ (∀ a, B = some a → w.heap.size ≤ a.block) ∧ Below w.heap.size w w' ∧ w'.ownsRow w.heap.size 5 1 (.slice B m k) m (l.bs.map U)
def ltZ : Array Value := #[.int .i64 0, .int .i64 0, .int .i64 0, .int .i64 0, .slice none 0 0]
theorem cell_set {V : World} {p : Addr} {v : Value} (h : V.cell? p = some v) {g : Nat} (hne : p.block ≠ g) (i : Nat) (u : Value) : (V.setCell ⟨g, i, none⟩ u).cell? p = some v := (World.cell?_of_block (Below.heap_setCell V ⟨g, i, none⟩ u p.block hne)).trans h
def set5 (V : World) (g : Nat) (u0 u1 u2 u3 u4 : Value) : World := ((((V.setCell ⟨g, 0, none⟩ u0).setCell ⟨g, 1, none⟩ u1).setCell ⟨g, 2, none⟩ u2).setCell ⟨g, 3, none⟩ u3).setCell ⟨g, 4, none⟩ u4
theorem cell_set5 {V : World} {p : Addr} {v : Value} (h : V.cell? p = some v) {g : Nat} (hne : p.block ≠ g) (u0 u1 u2 u3 u4 : Value) : (set5 V g u0 u1 u2 u3 u4).cell? p = some v := cell_set (cell_set (cell_set (cell_set (cell_set h hne _ _) hne _ _) hne _ _) hne _ _) hne _ _
theorem bk_set5 {V : World} {g : Nat} {t : TypeId} {a0 a1 a2 a3 a4 : Value} (h : Bk V g t #[a0, a1, a2, a3, a4]) (b0 b1 b2 b3 b4 : Value) : Bk (set5 V g b0 b1 b2 b3 b4) g t #[b0, b1, b2, b3, b4] := by
  unfold set5
  simpa using ((((h.set 0 b0).set 1 b1).set 2 b2).set 3 b3).set 4 b4
theorem below_set5 {B : Nat} {w V : World} (h : Below B w V) {g : Nat} (hg : B ≤ g) (b0 b1 b2 b3 b4 : Value) : Below B w (set5 V g b0 b1 b2 b3 b4) := ((((h.setCell (by simpa using hg) _).setCell (by simpa using hg) _).setCell (by simpa using hg) _).setCell (by simpa using hg) _).setCell (by simpa using hg) _
theorem out_set5 (V : World) (g : Nat) (b0 b1 b2 b3 b4 : Value) : Out (fun k => k = g) V (set5 V g b0 b1 b2 b3 b4) := by
  have e := fun (W : World) (i : Nat) (u : Value) => Out.setCell (X := fun k => k = g) W (p := ⟨g, i, none⟩) rfl u
  exact ((((e _ 0 _).trans (e _ 1 _) fun _ h => .inl h).trans (e _ 2 _) fun _ h => .inl h).trans (e _ 3 _) fun _ h => .inl h).trans (e _ 4 _) fun _ h => .inl h
theorem own_out {w w' : World} {base : Nat} {e : TypeId} {size : Nat} {v : Value} {n : Nat} {xs : List Value} {X : Nat → Prop} (h : w.ownsRow base e size v n xs) (ho : Out X w w') (hx : ∀ b, v.ownBlock = some b → ¬ X b) : w'.ownsRow base e size v n xs ∧ True := by
  refine ⟨⟨h.1, h.2.imp id ?_⟩, trivial⟩
  rintro ⟨g, cap, cur, rfl, h1, h2, h3⟩
  exact ⟨g, cap, cur, rfl, h1, (ho.block g (Array.getElem?_eq_some_iff.1 h2).1 (hx g rfl)).trans h2, h3⟩
theorem own_mono {w : World} {base base' : Nat} {e : TypeId} {size : Nat} {v : Value} {n : Nat} {xs : List Value} (h : w.ownsRow base e size v n xs) (hb : base' ≤ base) : w.ownsRow base' e size v n xs := by
  refine ⟨h.1, h.2.imp id ?_⟩
  rintro ⟨g, cap, cur, rfl, h1, h2⟩
  exact ⟨g, cap, cur, rfl, Nat.le_trans hb h1, h2⟩
set_option maxRecDepth 8000 in
set_option maxHeartbeats 1000000 in
theorem copyOf_any {w : World} {F : Nat → Prop} {p : Nat} {l : Lt} (h : LtAt w F p l) (hl : l.bs.length ≤ 2097152) : Calls Try.prog 30 #[P1 p] w (LtP l w) := by
  obtain ⟨B, m, c, hbk, hmc, hrd, -⟩ := h
  have hm : m ≤ 140737488355328 := by have := hrd.len; omega
  have hB : Below w.heap.size w (w.alloc (.cells ltZ 37)) := (Below.refl _ _).alloc (Nat.le_refl _) _
  have HC : Hid (∀ V, Below (w.alloc (.cells ltZ 37)).heap.size (w.alloc (.cells ltZ 37)) V → (V.cell? ⟨p, 0, none⟩ = some (.int .i64 l.fr.g) ∧ V.cell? ⟨p, 1, none⟩ = some (.int .i64 l.fr.n) ∧ V.cell? ⟨p, 2, none⟩ = some (.int .i64 l.to.g) ∧ V.cell? ⟨p, 3, none⟩ = some (.int .i64 l.to.n) ∧ V.cell? ⟨p, 4, none⟩ = some (.slice B m c)) ∧ Bk V w.heap.size 37 ltZ) := fun V hV =>
    ⟨⟨((hbk.below hB).below hV).cell 0, ((hbk.below hB).below hV).cell 1, ((hbk.below hB).below hV).cell 2, ((hbk.below hB).below hV).cell 3, ((hbk.below hB).below hV).cell 4⟩, (Bk.new w 37 ltZ).below hV⟩
  have CC := Lib.hid (fun V (hV : Below (w.alloc (.cells ltZ 37)).heap.size (w.alloc (.cells ltZ 37)) V) => clone_bytes B m c l.bs V ((hrd.below hB).below hV) hm)
  have HB := Lib.hid hB
  have hpn : p ≠ w.heap.size := by have := hbk.lt; omega
  have HST : Hid (∀ (V : World) (u0 u1 u2 u3 u4 : Value), (V.cell? ⟨p, 0, none⟩ = some (.int .i64 l.fr.g) ∧ V.cell? ⟨p, 1, none⟩ = some (.int .i64 l.fr.n) ∧ V.cell? ⟨p, 2, none⟩ = some (.int .i64 l.to.g) ∧ V.cell? ⟨p, 3, none⟩ = some (.int .i64 l.to.n) ∧ V.cell? ⟨p, 4, none⟩ = some (.slice B m c)) → ((((((V.setCell ⟨w.heap.size, 0, none⟩ u0).setCell ⟨w.heap.size, 1, none⟩ u1).setCell ⟨w.heap.size, 2, none⟩ u2).setCell ⟨w.heap.size, 3, none⟩ u3).setCell ⟨w.heap.size, 4, none⟩ u4).cell? ⟨p, 0, none⟩ = some (.int .i64 l.fr.g) ∧ (((((V.setCell ⟨w.heap.size, 0, none⟩ u0).setCell ⟨w.heap.size, 1, none⟩ u1).setCell ⟨w.heap.size, 2, none⟩ u2).setCell ⟨w.heap.size, 3, none⟩ u3).setCell ⟨w.heap.size, 4, none⟩ u4).cell? ⟨p, 1, none⟩ = some (.int .i64 l.fr.n) ∧ (((((V.setCell ⟨w.heap.size, 0, none⟩ u0).setCell ⟨w.heap.size, 1, none⟩ u1).setCell ⟨w.heap.size, 2, none⟩ u2).setCell ⟨w.heap.size, 3, none⟩ u3).setCell ⟨w.heap.size, 4, none⟩ u4).cell? ⟨p, 2, none⟩ = some (.int .i64 l.to.g) ∧ (((((V.setCell ⟨w.heap.size, 0, none⟩ u0).setCell ⟨w.heap.size, 1, none⟩ u1).setCell ⟨w.heap.size, 2, none⟩ u2).setCell ⟨w.heap.size, 3, none⟩ u3).setCell ⟨w.heap.size, 4, none⟩ u4).cell? ⟨p, 3, none⟩ = some (.int .i64 l.to.n) ∧ (((((V.setCell ⟨w.heap.size, 0, none⟩ u0).setCell ⟨w.heap.size, 1, none⟩ u1).setCell ⟨w.heap.size, 2, none⟩ u2).setCell ⟨w.heap.size, 3, none⟩ u3).setCell ⟨w.heap.size, 4, none⟩ u4).cell? ⟨p, 4, none⟩ = some (.slice B m c))) := fun V u0 u1 u2 u3 u4 ⟨q0, q1, q2, q3, q4⟩ =>
    ⟨cell_set5 q0 hpn _ _ _ _ _, cell_set5 q1 hpn _ _ _ _ _, cell_set5 q2 hpn _ _ _ _ _, cell_set5 q3 hpn _ _ _ _ _, cell_set5 q4 hpn _ _ _ _ _⟩
  clear hbk hrd hB
  unfold P1
  generalize hw : w.alloc (.cells ltZ 37) = W at *
  unfold ltZ at hw
  have BD := Lib.hid (below_drewN (Below.refl W.heap.size W) 1)
  have HSD := Lib.hid (HC.out W.drew BD.out).1
  obtain ⟨k0, k1, k2, k3, k4⟩ := (HC.out W (Below.refl _ _)).1
  have CC1 := Lib.hid (CC.out W.drew BD.out)
  go_enter Try.func30, Try.ntmps30
  go_wp2_with fail
  go_region_held3 (fun V => V.cell? ⟨p, 0, none⟩ = some (.int .i64 l.fr.g) ∧ V.cell? ⟨p, 1, none⟩ = some (.int .i64 l.fr.n) ∧ V.cell? ⟨p, 2, none⟩ = some (.int .i64 l.to.g) ∧ V.cell? ⟨p, 3, none⟩ = some (.int .i64 l.to.n) ∧ V.cell? ⟨p, 4, none⟩ = some (.slice B m c))
    (first | (with_reducible assumption) | (with_reducible exact HSD.out) | (with_reducible exact HS1.out) | (with_reducible exact HST.out _ _ _ _ _ _ HS1.out))
    (first | (go_at_call 38; (with_reducible refine CC1.out.mono ?_); rintro e w1 ⟨B1, m1, c1, rfl, hm1, hr1, hn1, hb1, ho1⟩; have HO1 := Lib.hid ho1; have HB1 := Lib.hid (BD.out.trans hb1); have HR1 := Lib.hid hr1; have HN1 := Lib.hid hn1; have HM1 := Lib.hid hm1; have HS1 := Lib.hid (HC.out w1 HB1.out).1; have KB := (HC.out w1 HB1.out).2; have kf0 := KB.frozen 0; have kf1 := KB.frozen 1; have kf2 := KB.frozen 2; have kf3 := KB.frozen 3; have kf4 := KB.frozen 4; have kc0 : w1.cell? ⟨w.heap.size, 0, none⟩ = some (.int .i64 0) := KB.cell 0; have kc1 : w1.cell? ⟨w.heap.size, 1, none⟩ = some (.int .i64 0) := KB.cell 1; have kc2 : w1.cell? ⟨w.heap.size, 2, none⟩ = some (.int .i64 0) := KB.cell 2; have kc3 : w1.cell? ⟨w.heap.size, 3, none⟩ = some (.int .i64 0) := KB.cell 3; have kc4 : w1.cell? ⟨w.heap.size, 4, none⟩ = some (.slice none 0 0) := KB.cell 4; have HKB := Lib.hid KB; clear KB hb1 hr1 hn1 hm1 ho1))
  have hb5 := bk_set5 HKB.out (.int .i64 l.fr.g) (.int .i64 l.fr.n) (.int .i64 l.to.g) (.int .i64 l.to.n) (.slice B1 m1 c1)
  go_wp2_with fail
  refine bodyPost_ret (results_cell_row rfl _ _ w.heap.size 37 _ (0, 0) _ rfl hb5 Try.underlying37 rfl size_letter) rfl ⟨B1, m1, c1, rfl, HM1.out, rd_out HR1.out (out_set5 _ _ _ _ _ _ _) (fun a ha h0 => ?_), fun a ha => ?_, ?_, ?_⟩
  · have h1 := HN1.out a ha
    have h2 := (HC.out W (Below.refl _ _)).2.lt
    show a.block ≠ _
    have : W.drew.heap.size = W.heap.size := rfl
    omega
  · have h1 := HN1.out a ha
    have h2 := HB.out.size
    have : W.drew.heap.size = W.heap.size := rfl
    omega
  · exact below_set5 (HB.out.trans (HB1.out.mono HB.out.size)) (Nat.le_refl _) _ _ _ _ _
  · refine own_mono (own_out HO1.out (out_set5 _ _ _ _ _ _ _) fun b hb e => ?_).1 (by have := HB.out.size; have e2 : W.drew.heap.size = W.heap.size := rfl; omega)
    have h1 := (HO1.out.lt b hb).1
    have h2 := (HC.out W (Below.refl _ _)).2.lt
    have e2 : W.drew.heap.size = W.heap.size := rfl
    omega
end Go.Proofs.Ytmjipeagbogpmaa.Net
