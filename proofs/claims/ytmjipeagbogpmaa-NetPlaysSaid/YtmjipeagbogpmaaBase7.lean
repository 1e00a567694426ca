/- Lemmas, part 7: NetGreat, NetWant, NetTwo, NetEq, NetRef1, NetRef2, NetCutRow -/
import Derived.Test.YtmjipeagbogpmaaBase6
import Derived.Test.YtmjipeagbogpmaaBase3
import Derived.Maps.AppendAt
import Derived.Deep.LoopGhost
namespace Go.Proofs.Ytmjipeagbogpmaa.Net
open Go.RowKit Disk Zab Sto

def bigA (x : A1) : Bool := decide (200 < x.l.bs.length)
def greatF (xs : List A1) : Bool := decide (60 < xs.length) || xs.any bigA
theorem great_no {xs : List A1} (h : greatF xs = false) : xs.length ≤ 60 ∧ ∀ x ∈ xs, x.l.bs.length ≤ 200 := by
  unfold greatF at h
  rw [Bool.or_eq_false_iff] at h
  refine ⟨by have := of_decide_eq_false h.1; omega, fun x hx => ?_⟩
  have := List.any_eq_false.1 h.2 x hx
  unfold bigA at this
  simp at this
  omega
def RelG (xs : List A1) (n : Nat) (i : Value) : Prop := ∃ k : Nat, k ≤ n ∧ i = .int .i64 (k : Int) ∧ (xs.take k).any bigA = false
theorem any_takes {α : Type} {l : List α} {p : α → Bool} {k : Nat} {x : α} (hk : l[k]? = some x) : (l.take (k + 1)).any p = ((l.take k).any p || p x) := by
  obtain ⟨h, e⟩ := List.getElem?_eq_some_iff.1 hk
  rw [List.take_succ_eq_append_getElem h, List.any_append, e]
  simp
set_option maxRecDepth 100000 in
set_option maxHeartbeats 2000000 in
theorem great_any {P : Nat → Prop} {w : World} {A : Option Addr} {n : Nat} {xs : List A1} (h : ActS P w A n xs) (c : Nat) (hn : n ≤ 140737488355328) (hy : ∀ x ∈ xs, x.l.bs.length ≤ 140737488355328) : Calls Try.prog 4 #[.slice A n c] w fun e w' => e = .returned (.bool (greatF xs)) ∧ w' = w := by
  obtain ⟨r, hr⟩ : ∃ r, r = greatF xs := ⟨_, rfl⟩
  rw [← hr]
  have hl := h.len
  by_cases h60 : 60 < n
  · have e : r = true := by rw [hr]; unfold greatF; rw [decide_eq_true (by omega)]; rfl
    subst e
    have hi : (60 : Int) < (n : Int) := by omega
    clear hr h hl hy
    go_enter Try.func4, Try.ntmps4
    go_wp2_with fail
    go_ret
    exact ⟨rfl, rfl⟩
  · have HR : Hid (r = xs.any bigA) := by
      show _ = _
      rw [hr]; unfold greatF; rw [decide_eq_false (by omega)]; rfl
    have HL := Lib.hid hl
    have HS := Lib.hid h
    have HY := Lib.hid hy
    have hi : ¬ (60 : Int) < (n : Int) := by omega
    clear hr h hl hy
    go_enter Try.func4, Try.ntmps4
    go_wp2_with fail
    go_loop [3] (fun i => RelG xs n i) (fun i => n - (intOf i).toNat)
    case atStart => exact ⟨0, Nat.zero_le _, rfl, by simp⟩
    case round =>
      obtain ⟨k, hk, rfl, hall⟩ := hrel
      have HALL := Lib.hid hall
      clear hall
      by_cases hlt : k < n
      · have hk1 : k < xs.length := by rw [HL.out]; exact hlt
        have hx := List.getElem?_eq_getElem hk1
        generalize xs[k] = x at hx
        obtain ⟨b, o, X, m, c2, rfl, -, -, -, -, -, -, -, c6, -, hrd, -, -⟩ := HS.out.get hx
        have hm := hrd.len
        have HM : Hid (x.l.bs.length = m) := hm
        have hm2 := HY.out x (List.mem_of_getElem? hx)
        have hm3 : m ≤ 140737488355328 := by omega
        have HAT := Lib.hid (any_takes (p := bigA) hx)
        have HIN := Lib.hid (List.mem_of_getElem? hx)
        clear hx hrd hm hm2 hk1
        by_cases hb : 200 < m
        · have HANY : Hid (r = true) := by
            show _ = _
            rw [HR.out]
            exact List.any_eq_true.2 ⟨x, HIN.out, by unfold bigA; rw [HM.out]; exact decide_eq_true hb⟩
          have hb' : (200 : Int) < (m : Int) := by omega
          go_wp2_with fail
          go_ret
          exact ⟨by rw [HANY.out]; exact rfl, rfl⟩
        · have HREL : Hid ((xs.take (k + 1)).any bigA = false) := by
            show _ = _
            rw [HAT.out, HALL.out]
            unfold bigA
            rw [HM.out, decide_eq_false hb]
            rfl
          have hb' : ¬ (200 : Int) < (m : Int) := by omega
          go_wp2_with fail
          go_round
          case rel => exact ⟨k + 1, by omega, by go_num, HREL.out⟩
          case measure => simp [intOf]; omega
      · obtain rfl : k = n := by omega
        have HNO : Hid (r = false) := by
          show _ = _
          have h1 := HALL.out
          rwa [List.take_of_length_le (by rw [HL.out]; exact Nat.le_refl _), ← HR.out] at h1
        clear hlt
        have v1 : ¬ (k : Int) < (k : Int) := by omega
        go_wp2_with fail
        go_ret
        exact ⟨by rw [HNO.out]; exact rfl, rfl⟩
end Go.Proofs.Ytmjipeagbogpmaa.Net

namespace Go.Proofs.Ytmjipeagbogpmaa.Net
open Go.RowKit Disk Zab Sto

theorem out_grown {w w' : World} {row : Option Nat} (hg : w.grownBy w' row) : Out (fun b => row = some b) w w' := ⟨hg.os, hg.tape, hg.output, hg.size, fun k hk hn => hg.block k hk (fun e => hn e.symm)⟩
theorem Sn.out {w0 w w' : World} {O X : Nat → Prop} {gz : Nat} {z : Nt} {N : Nat} (h : Sn w0 w O gz z N) (ho : Out X w w') (hx : ∀ b, X b → ¬ O b ∧ w0.heap.size ≤ b) : Sn w0 w' O gz z N :=
  ⟨h.nt.out ho fun _ hb hq => (hx _ hq).1 hb, ho.below h.bl (fun b hb => (hx b hb).2) h.bl.size⟩
theorem app_letters {base : Nat} {W : World} {v : Value} {n : Nat} {xs : List Value} (hown : W.ownsRow base 37 5 v n xs) (ad : Addr) (m c : Nat) {news : List Value} (hl : news.length = m * 5) (hnews : ∀ j u, news[j]? = some u → W.cell? (ad.add j) = some u) (h1 : ∀ u ∈ news, u.oneCell' = true) (hm : n + m ≤ 1000000) (hbase : base ≤ W.heap.size) :
    ∃ v' W', (Builtin.append_ #[46, 46] 46 #[v, .slice (some ad) m c]).run Try.prog W = .ok v' W' ∧ W'.ownsRow base 37 5 v' (n + m) (xs ++ news) ∧ W.grownBy W' v.ownBlock ∧ (v'.ownBlock = v.ownBlock ∨ v'.ownBlock = some W.heap.size) := by
  obtain ⟨i0, hi, hz0, hz1, hz2⟩ := info_parts info_letter
  obtain ⟨v', W', q1, q2, q3, q4, q5⟩ := run_append_own_at (P := Try.prog) W base 46 46 37 i0 _ 5 56 ty_letters hi hz0 hz1 hz2 rfl (by decide) v n xs hown ad m c news hl hnews h1 (by unfold maxLen; omega) (by omega) hbase
  exact ⟨v', W', q1, q2, q3, by first | exact q5 | exact q4⟩
def LtW (P : Nat → Prop) (base : Nat) (w : World) (v : Value) (ls : List Lt) : Prop := ∃ vs, w.ownsRow base 37 5 v ls.length (ltsC ls vs) ∧ LtB P w vs ls
theorem LtW.nil_ (P : Nat → Prop) (base : Nat) (w : World) : LtW P base w (.slice none 0 0) [] := ⟨[], ⟨rfl, .inl ⟨rfl, rfl⟩⟩, LtB.nil_ _ _⟩
theorem LtW.out {P X : Nat → Prop} {base : Nat} {w w' : World} {v : Value} {ls : List Lt} (h : LtW P base w v ls) (ho : Out X w w') (hp : ∀ b, P b → ¬ X b) (hv : ∀ b, v.ownBlock = some b → ¬ X b) : LtW P base w' v ls := by
  obtain ⟨vs, h1, h2⟩ := h
  exact ⟨vs, (own_out h1 ho hv).1, h2.out ho hp⟩
theorem LtW.below {P : Nat → Prop} {base : Nat} {w w' : World} {v : Value} {ls : List Lt} (h : LtW P base w v ls) (hb : Below w.heap.size w w') : LtW P base w' v ls := h.out (X := fun _ => False) (Out.of_below hb) (fun _ _ q => q) fun _ _ q => q
theorem LtW.form {P : Nat → Prop} {base : Nat} {w : World} {v : Value} {ls : List Lt} (h : LtW P base w v ls) : ∃ A c, v = .slice A ls.length c ∧ ls.length ≤ c ∧ LtS (fun b => P b ∨ base ≤ b) w A ls.length ls ∧ (∀ a, A = some a → a = ⟨a.block, 0, none⟩ ∧ base ≤ a.block ∧ a.block < w.heap.size) ∧ (A = none → ls = []) := by
  obtain ⟨vs, h1, h2⟩ := h
  rcases h1.2 with ⟨rfl, h0⟩ | ⟨g, cap, cur, rfl, hg, hh, hnc, _⟩
  · have : ls = [] := List.eq_nil_of_length_eq_zero h0
    subst this
    exact ⟨none, 0, rfl, Nat.le_refl _, LtS.nil_ _ _ _, (fun a ha => by cases ha), fun _ => rfl⟩
  · exact ⟨_, _, rfl, hnc, lts_of_row h1 rfl h2, fun a ha => by injection ha with ha; subst ha; exact ⟨rfl, hg, (Array.getElem?_eq_some_iff.1 hh).1⟩, fun e => by cases e⟩
theorem LtW.lt {P : Nat → Prop} {base : Nat} {w : World} {v : Value} {ls : List Lt} (h : LtW P base w v ls) : ∀ b, v.ownBlock = some b → base ≤ b ∧ b < w.heap.size := by
  obtain ⟨vs, h1, _⟩ := h
  exact h1.lt
theorem LtW.snoc {P : Nat → Prop} {base : Nat} {w : World} {v : Value} {ls : List Lt} (h : LtW P base w v ls) {x : Lt} {B : Option Addr} {m c : Nat} (hm : m ≤ c) (hr : Rd w B m x.bs) (hP : ∀ b, B = some b → 1 ≤ m → P b.block) (hPl : ∀ b, P b → b < base) (hlen : ls.length ≤ 100000) (hbase : base ≤ w.heap.size) {W : World} (hW : W = w.alloc (.cells (ltA x (.slice B m c)) 37)) :
    ∃ v' W', (Builtin.append_ #[46, 46] 46 #[v, .slice (some ⟨w.heap.size, 0, none⟩) 1 1]).run Try.prog W = .ok v' W' ∧ LtW P base W' v' (ls ++ [x]) ∧ Out (fun b => v.ownBlock = some b) w W' ∧ ∀ b, v'.ownBlock = some b → v.ownBlock = some b ∨ w.heap.size ≤ b := by
  have hb : Below w.heap.size w W := by rw [hW]; exact (Below.refl _ _).alloc (Nat.le_refl _) _
  have h1 := h.below hb
  obtain ⟨vs, hown, hlb⟩ := h1
  have hbk : Bk W w.heap.size 37 (ltA x (.slice B m c)) := by rw [hW]; exact Bk.new _ _ _
  obtain ⟨v', W', q1, q2, q3, q4⟩ := app_letters hown ⟨w.heap.size, 0, none⟩ 1 1 (news := ltC x (.slice B m c)) rfl (fun j u hj => by
    rw [plus_add, hbk.cell]
    have e : (ltA x (.slice B m c))[j]? = (ltC x (.slice B m c))[j]? := by unfold ltA ltC; simp
    rw [e, hj]) (ltC_one x rfl) (by omega) (Nat.le_trans hbase hb.size)
  have hgr := out_grown q3
  have hlb' : LtB P W' vs ls := hlb.out hgr fun b hP2 hq => by
    have := (hown.lt b hq).1
    have := hPl b hP2
    omega
  have hr' : Rd W' B m x.bs := rd_out (hr.below hb) hgr fun a ha h0 hq => by
    have := (hown.lt _ hq).1
    have := hPl _ (hP a ha h0)
    omega
  have hsz : W.heap.size = w.heap.size + 1 := by rw [hW]; simp
  refine ⟨v', W', q1, ⟨vs ++ [.slice B m c], ?_, hlb'.snoc hm hr' hP⟩, (Out.of_below hb).trans hgr fun b hb => .inl hb, fun b hb2 => ?_⟩
  · rw [ltsC_snoc ls vs x _ hlb.len.symm, List.length_append]
    exact q2
  · rcases q4 with q4 | q4
    · rw [q4] at hb2; exact .inl hb2
    · rw [q4] at hb2; injection hb2 with hb2; exact .inr (by omega)
end Go.Proofs.Ytmjipeagbogpmaa.Net

namespace Go.Proofs.Ytmjipeagbogpmaa.Net
open Go.RowKit Disk Zab Sto

theorem NtAt.base {w0 w1 w : World} {O : Nat → Prop} {gz : Nat} {z : Nt} {N : Nat} (h : NtAt w0 w O gz z N) (hw : w1.heap.size ≤ w0.heap.size) : NtAt w1 w O gz z N :=
  ⟨h.ok, h.gz_, fun b hb => ⟨Nat.le_trans hw (h.low b hb).1, (h.low b hb).2⟩, h.mem⟩
section
variable {w wr w' : World} {A B A' B' : Nat → Prop} {ga gb : Nat} {za zb y : Nt} {Na Nb M : Nat}
end
theorem take_next' {ls : List Lt} {k : Nat} {x : Lt} (h : ls[k]? = some x) : ls.take (k + 1) = ls.take k ++ [x] ∧ ls.drop k = x :: ls.drop (k + 1) := by
  obtain ⟨h1, e⟩ := List.getElem?_eq_some_iff.1 h
  exact ⟨by rw [List.take_succ_eq_append_getElem h1, e], by rw [List.drop_eq_getElem_cons h1, e]⟩
end Go.Proofs.Ytmjipeagbogpmaa.Net

namespace Go.Proofs.Ytmjipeagbogpmaa.Net
open Go.ChangeShapes Go.WideShapes Go.ChangeAt Go.RowKit Disk Zab Sto Net
theorem eq_addr (g n : Int) (a : Ad) (V : World) : (binOp .eql 34 (.agg #[.int .i64 g, .int .i64 n]) (.agg #[.int .i64 a.g, .int .i64 a.n])).run Try.prog V = .ok (.bool (decide ((⟨g, n⟩ : Ad) = a))) V := by
  obtain ⟨ag, an⟩ := a
  have he := fun (x y : Int) => run_equalIn_int (P := Try.prog) V 9998 3 .i64 .i64 x y (by rfl)
  rw [run_eql_struct]
  show ((Op.equalIn (9999 + 1) _ _ _).run _ _).andThen _ = _
  rw [run_equalIn_agg V 9999 34 _ _ (by rfl) (by kernel_rfl)]
  have hf : (Program.fieldsOf Try.prog 34).toList.map (fun f => (decide (f.name ≠ "_"), f.type, f.offset)) = [(true, 3, 0), (true, 3, 1)] := by decide
  generalize (Program.fieldsOf Try.prog 34).toList = fs at hf
  obtain ⟨f1, f2, rfl⟩ : ∃ f1 f2, fs = [f1, f2] := by
    have hl := congrArg List.length hf
    simp only [List.length_map, List.length_cons, List.length_nil] at hl
    match fs, hl with | [f1, f2], _ => exact ⟨f1, f2, rfl⟩
  simp only [List.map_cons, List.map_nil, List.cons.injEq, Prod.mk.injEq, and_true, decide_eq_true_eq] at hf
  obtain ⟨⟨a1, a2, a3⟩, b1, b2, b3⟩ := hf
  have p0 : ∀ (x y : Int), (part 3 #[Value.int .i64 x, Value.int .i64 y] 0).run Try.prog V = .ok (.int .i64 x) V := fun x y => by rfl
  have p1 : ∀ (x y : Int), (part 3 #[Value.int .i64 x, Value.int .i64 y] 1).run Try.prog V = .ok (.int .i64 y) V := fun x y => by rfl
  rw [Op.eqFields, if_pos a1, a2, a3, Op.eqFields, if_pos b1, b2, b3, Op.eqFields]
  by_cases h1 : g = ag <;> by_cases h2 : n = an <;> simp [p0, p1, he, h1, h2]
end Go.Proofs.Ytmjipeagbogpmaa.Net

namespace Go.Proofs.Ytmjipeagbogpmaa.Net
open Go.RowKit Disk Zab Sto

def prC (x : Ad × Ad) : List Value := [.int .i64 x.1.g, .int .i64 x.1.n, .int .i64 x.2.g, .int .i64 x.2.n]
def prsC (l : List (Ad × Ad)) : List Value := l.flatMap prC
theorem prsC_get : ∀ (l : List (Ad × Ad)) (j i : Nat) (x : Ad × Ad), l[j]? = some x → i < 4 → (prsC l)[j * 4 + i]? = (prC x)[i]?
  | [], _, _, _, h, _ => by simp at h
  | y :: l, 0, i, x, h, hi => by
    simp at h
    subst h
    rw [prsC, List.flatMap_cons, Nat.zero_mul, Nat.zero_add, List.getElem?_append_left (by exact hi)]
  | y :: l, j + 1, i, x, h, hi => by
    rw [prsC, List.flatMap_cons, List.getElem?_append_right (by show 4 ≤ _; omega)]
    have : (j + 1) * 4 + i - (prC y).length = j * 4 + i := by show (j + 1) * 4 + i - 4 = _; omega
    rw [this]
    exact prsC_get l j i x (by simpa using h) hi
def cutOf (prs : List (Ad × Ad)) : Ad × Ad → Bool := fun l => prs.any fun p => decide (linkOf p.1 p.2 = l)
structure RfM (w : World) (base gf : Nat) (As : Option Addr) (cs : Nat) (vL vC : Value) (z : Nt) (prs : List (Ad × Ad)) (P : Nat → Prop) : Prop where
  bk : Bk w gf 50 #[.slice As z.sizes.length cs, vL, vC]
  sz : RdV w As z.sizes.length (iv z.sizes)
  sb : ∀ a, As = some a → 1 ≤ z.sizes.length → a.block < base
  row : LtW P base w vL z.row
  pr : w.ownsRow base 66 4 vC prs.length (prsC prs)
  cut : z.cut = cutOf prs
  pl : ∀ b, P b → base ≤ b ∧ b < w.heap.size ∧ b ≠ gf ∧ vL.ownBlock ≠ some b ∧ vC.ownBlock ≠ some b
  gl : base ≤ gf ∧ vL.ownBlock ≠ some gf ∧ vC.ownBlock ≠ some gf
  lc : ∀ b, vL.ownBlock = some b → vC.ownBlock ≠ some b
def RfM.wr (gf : Nat) (vL vC : Value) : Nat → Prop := fun b => b = gf ∨ vL.ownBlock = some b ∨ vC.ownBlock = some b
section
variable {w W : World} {base gf : Nat} {As : Option Addr} {cs : Nat} {vL vC : Value} {z : Nt} {prs : List (Ad × Ad)} {P : Nat → Prop}
theorem RfM.out {X : Nat → Prop} (h : RfM w base gf As cs vL vC z prs P) (ho : Out X w W) (hx : ∀ b, X b → base ≤ b) (hw : ∀ b, RfM.wr gf vL vC b → ¬ X b) (hp : ∀ b, P b → ¬ X b) : RfM W base gf As cs vL vC z prs P := by
  obtain ⟨h1, h2, h3, h4, h5, h6, h7, h8, h9⟩ := h
  exact ⟨h1.kept (ho.block _ h1.lt (hw _ (.inl rfl))), rdv_out h2 ho fun a ha h0 hq => by have := hx _ hq; have := h3 a ha h0; omega, h3, h4.out ho hp fun b hb => hw b (.inr (.inl hb)), (own_out h5 ho fun b hb => hw b (.inr (.inr hb))).1, h6, fun b hb => ⟨(h7 b hb).1, Nat.lt_of_lt_of_le (h7 b hb).2.1 ho.size, (h7 b hb).2.2⟩, h8, h9⟩
theorem RfM.below (h : RfM w base gf As cs vL vC z prs P) (hb : Below w.heap.size w W) : RfM W base gf As cs vL vC z prs P := by
  obtain ⟨h1, h2, h3, h4, h5, h6, h7, h8, h9⟩ := h
  have ho : Out (fun _ => False) w W := Out.of_below hb
  exact ⟨h1.below hb, rdv_out h2 ho fun _ _ _ q => q, h3, h4.below hb, (own_out h5 ho fun _ _ q => q).1, h6, fun b hb => ⟨(h7 b hb).1, Nat.lt_of_lt_of_le (h7 b hb).2.1 ho.size, (h7 b hb).2.2⟩, h8, h9⟩
set_option maxRecDepth 8000 in
theorem rhas_any (h : RfM w base gf As cs vL vC z prs P) (hz : sizesOk z.sizes = true) (a : Ad) : Calls Try.prog 37 #[.pointer (some ⟨gf, 0, none⟩), adV a] w fun e w' => e = .returned (.bool (z.has a)) ∧ Below w.heap.size w w' := by
  obtain ⟨g, n⟩ := a
  have hl4 : (z.sizes.length : Int) ≤ 4 := by have := (sizesOk_iff.1 hz).2.1; omega
  have hB : Below w.heap.size w (w.alloc (.cells #[.int .i64 g, .int .i64 n] 34)) := (Below.refl _ _).alloc (Nat.le_refl _) _
  have c0 := (h.below hB).bk.cell 0
  have hbx := Bk.new w 34 #[.int .i64 g, .int .i64 n]
  have b0 := hbx.cell 0
  have b1 := hbx.cell 1
  have hrd := (h.below hB).sz
  obtain ⟨r, hr⟩ : ∃ r, r = z.has ⟨g, n⟩ := ⟨_, rfl⟩
  rw [← hr]
  unfold Nt.has at hr
  dsimp only [adV] at *
  have HB := Lib.hid hB
  have HR := Lib.hid hr
  have HRD := Lib.hid hrd
  clear hB hr hrd hbx
  generalize hw : w.alloc (.cells #[.int .i64 g, .int .i64 n] 34) = W at *
  by_cases h1 : 0 ≤ g
  · by_cases h2 : g < (z.sizes.length : Int)
    · have d2 : decide (g < (z.sizes.length : Int)) = true := decide_eq_true h2
      by_cases h3 : 0 ≤ n
      · obtain ⟨hg1, hg2, hg3⟩ := sizes_get hz h1 h2
        obtain ⟨ad, rfl, hc⟩ := HRD.out.cells (by omega)
        have hcell := hc _ _ hg1
        have HE : Hid (r = decide (n < z.sizes.getD g.toNat 0)) := by
          show _ = _
          rw [HR.out]
          simp [h1, h2, h3]
        clear hc hg1 HRD h hz
        generalize z.sizes.getD g.toNat 0 = s at *
        obtain ⟨k, rfl⟩ : ∃ k : Nat, g = (k : Int) := ⟨g.toNat, by omega⟩
        simp only [Int.toNat_natCast] at hcell
        by_cases h4 : n < s
        · have e : r = true := by rw [HE.out]; simp [h4]
          subst e
          clear HE HR
          go_enter Try.func37, Try.ntmps37
          go_wp2_with fail
          go_quiet (fail)
          go_wp2_with fail
          go_ret
          exact ⟨rfl, below_drewN HB.out _⟩
        · have e : r = false := by rw [HE.out]; simp [h4]
          subst e
          have d4 : decide (n < s) = false := decide_eq_false h4
          clear HE HR
          go_enter Try.func37, Try.ntmps37
          go_wp2_with fail
          go_quiet (fail)
          go_wp2_with fail
          go_ret
          exact ⟨rfl, below_drewN HB.out _⟩
      · have e : r = false := by rw [HR.out]; simp [h3]
        subst e
        have d3 : decide (0 ≤ n) = false := decide_eq_false h3
        clear HR
        go_enter Try.func37, Try.ntmps37
        go_wp2_with fail
        go_quiet (fail)
        go_wp2_with fail
        go_ret
        exact ⟨rfl, below_drewN HB.out _⟩
    · have e : r = false := by rw [HR.out]; simp [h2]
      subst e
      have d2 : decide (g < (z.sizes.length : Int)) = false := decide_eq_false h2
      clear HR
      go_enter Try.func37, Try.ntmps37
      go_wp2_with fail
      go_quiet (fail)
      go_wp2_with fail
      go_ret
      exact ⟨rfl, below_drewN HB.out _⟩
  · have e : r = false := by rw [HR.out]; simp [h1]
    subst e
    have d1 : decide (0 ≤ g) = false := decide_eq_false h1
    clear HR
    go_enter Try.func37, Try.ntmps37
    go_wp2_with fail
    go_quiet (fail)
    go_wp2_with fail
    go_ret
    exact ⟨rfl, below_drewN HB.out _⟩

end
end Go.Proofs.Ytmjipeagbogpmaa.Net

namespace Go.Proofs.Ytmjipeagbogpmaa.Net
open Go.RowKit Disk Zab Sto

theorem neq_addr (g n : Int) (a : Ad) (V : World) : (binOp .neq 34 (.agg #[.int .i64 g, .int .i64 n]) (.agg #[.int .i64 a.g, .int .i64 a.n])).run Try.prog V = .ok (.bool (!decide ((⟨g, n⟩ : Ad) = a))) V := by
  have h := eq_addr g n a V
  rw [run_eql_struct] at h
  rw [run_neq_struct]
  revert h
  generalize (Op.equalIn 10000 _ _ _).run _ _ = r
  cases r with
  | ok x W => intro h; simp only [Result.andThen_ok, Result.ok.injEq, Value.bool.injEq] at h ⊢; rw [h.1, h.2]; exact ⟨rfl, rfl⟩
  | halt x W => intro h; cases h
section
variable {w : World} {base gf : Nat} {As : Option Addr} {cs : Nat} {vL vC : Value} {z : Nt} {prs : List (Ad × Ad)} {P : Nat → Prop}
set_option maxRecDepth 8000 in
theorem rlink_any (h : RfM w base gf As cs vL vC z prs P) (hz : sizesOk z.sizes = true) (a b : Ad) : Calls Try.prog 28 #[.pointer (some ⟨gf, 0, none⟩), adV a, adV b] w fun e w' => e = .returned (.bool (z.link a b)) ∧ Below w.heap.size w w' := by
  have hB : Below w.heap.size w ((w.alloc (.cells #[.int .i64 a.g, .int .i64 a.n] 34)).alloc (.cells #[.int .i64 b.g, .int .i64 b.n] 34)) := ((Below.refl _ _).alloc (Nat.le_refl _) _).alloc (by simp) _
  have B2 : Bk ((w.alloc (.cells #[.int .i64 a.g, .int .i64 a.n] 34)).alloc (.cells #[.int .i64 b.g, .int .i64 b.n] 34)) (w.heap.size + 1) 34 #[.int .i64 b.g, .int .i64 b.n] := by simpa using Bk.new (w.alloc (.cells #[.int .i64 a.g, .int .i64 a.n] 34)) 34 #[.int .i64 b.g, .int .i64 b.n]
  have B1 := (Bk.new w 34 #[.int .i64 a.g, .int .i64 a.n]).alloc (.cells #[.int .i64 b.g, .int .i64 b.n] 34)
  have HM := Lib.hid (h.below hB)
  have C1 := Lib.hid (rhas_any HM.out hz a)
  have HZ := Lib.hid hz
  have p0 := B1.cell 0
  have p1 := B1.cell 1
  have HB := Lib.hid hB
  have HB1 := Lib.hid B1
  have HB2 := Lib.hid B2
  obtain ⟨r, hr⟩ : ∃ r, r = z.link a b := ⟨_, rfl⟩
  rw [← hr]
  unfold Nt.link at hr
  have HR := Lib.hid hr
  obtain ⟨ha, hha⟩ : ∃ x, x = z.has a := ⟨_, rfl⟩
  rw [← hha] at C1
  have HHA := Lib.hid hha
  unfold adV at C1 ⊢
  clear hB B1 B2 h hr hz hha
  generalize hw : (w.alloc (.cells #[.int .i64 a.g, .int .i64 a.n] 34)).alloc (.cells #[.int .i64 b.g, .int .i64 b.n] 34) = W at *
  cases ha
  · have e : r = false := by rw [HR.out, ← HHA.out]; simp
    subst e
    clear HR
    go_enter Try.func28, Try.ntmps28
    go_wp2_with fail
    refine C1.out.mono ?_
    rintro e w2 ⟨rfl, hb2⟩
    have HB3 := Lib.hid (HB.out.trans (hb2.mono HB.out.size))
    clear hb2 C1
    go_wp2_with fail
    go_ret
    exact ⟨rfl, HB3.out⟩
  · go_enter Try.func28, Try.ntmps28
    go_wp2_with fail
    refine C1.out.mono ?_
    rintro e w2 ⟨rfl, hb2⟩
    have HB3 := Lib.hid (HB.out.trans (hb2.mono HB.out.size))
    have K1 := HB1.out.below hb2
    have K2 := HB2.out.below hb2
    have C20 := rhas_any (HM.out.below hb2) HZ.out b
    obtain ⟨hbb, hhb⟩ : ∃ x, x = z.has b := ⟨_, rfl⟩
    rw [← hhb] at C20
    have HHB := Lib.hid hhb
    have C2 := Lib.hid C20
    unfold adV at C2
    clear p0 p1 hw
    have p0 := K1.cell 0
    have p1 := K1.cell 1
    have p2 := K2.cell 0
    have p3 := K2.cell 1
    have HK1 := Lib.hid K1
    have HK2 := Lib.hid K2
    clear hb2 C1 C20 K1 K2 hhb
    cases hbb
    · have e : r = false := by rw [HR.out, ← HHB.out]; simp
      subst e
      clear HR
      go_wp2_with fail
      refine C2.out.mono ?_
      rintro e w4 ⟨rfl, hb4⟩
      have HB4 := Lib.hid (HB3.out.trans (hb4.mono HB3.out.size))
      clear hb4 C2
      go_wp2_with fail
      go_ret
      exact ⟨rfl, HB4.out⟩
    · have e : r = !decide (a = b) := by rw [HR.out, ← HHB.out, ← HHA.out]; simp
      clear HR
      go_wp2_with fail
      refine C2.out.mono ?_
      rintro e w4 ⟨rfl, hb4⟩
      have HB4 := Lib.hid (HB3.out.trans (hb4.mono HB3.out.size))
      have K1 := HK1.out.below hb4
      have K2 := HK2.out.below hb4
      clear p0 p1 p2 p3
      have p0 := K1.cell 0
      have p1 := K1.cell 1
      have p2 := K2.cell 0
      have p3 := K2.cell 1
      have q1 := neq_addr a.g a.n b
      have e2 : (⟨a.g, a.n⟩ : Ad) = a := rfl
      rw [e2, ← e] at q1
      clear hb4 C2 K1 K2 e2 e
      go_wp2_with fail
      go_ret
      exact ⟨rfl, HB4.out⟩
def RelC (W : World) (prs : List (Ad × Ad)) (l : Ad × Ad) (n : Nat) (i : Value) (wr : World) : Prop := ∃ k : Nat, k ≤ n ∧ i = .int .i64 (k : Int) ∧ (∀ (j : Nat) p, j < k → prs[j]? = some p → ¬ linkOf p.1 p.2 = l) ∧ Below W.heap.size W wr
theorem pairs_get {n : Nat} (h : w.ownsRow base 66 4 vC n (prsC prs)) (hn : prs.length = n) : ∃ A c, vC = .slice A n c ∧ n ≤ c ∧ ∀ (j : Nat) p, prs[j]? = some p → ∃ g, A = some ⟨g, 0, none⟩ ∧ base ≤ g ∧ g < w.heap.size ∧ w.cell? ⟨g, j * 4, none⟩ = some (.int .i64 p.1.g) ∧ w.cell? ⟨g, j * 4 + 1, none⟩ = some (.int .i64 p.1.n) ∧ w.cell? ⟨g, j * 4 + 2, none⟩ = some (.int .i64 p.2.g) ∧ w.cell? ⟨g, j * 4 + 3, none⟩ = some (.int .i64 p.2.n) := by
  rcases h.2 with ⟨rfl, h0⟩ | ⟨g, cap, cur, rfl, hg, hh, hnc, hcm, hcs, htk⟩
  · have : prs = [] := List.eq_nil_of_length_eq_zero (by omega)
    subst this
    subst h0
    exact ⟨none, 0, rfl, Nat.le_refl _, fun j p hj => by simp at hj⟩
  · refine ⟨_, _, rfl, hnc, fun j p hj => ⟨g, rfl, hg, (Array.getElem?_eq_some_iff.1 hh).1, ?_⟩⟩
    have hjl : j < prs.length := (List.getElem?_eq_some_iff.1 hj).1
    have hc : ∀ i, i < 4 → w.cell? ⟨g, j * 4 + i, none⟩ = (prC p)[i]? := fun i hi => by
      have e1 : w.cell? ⟨g, j * 4 + i, none⟩ = cur[j * 4 + i]? := by simp [World.cell?, hh]
      rw [e1, ← prsC_get prs j i p hj hi, ← htk, List.getElem?_take, if_pos (by omega)]
      simp
    exact ⟨hc 0 (by omega), hc 1 (by omega), hc 2 (by omega), hc 3 (by omega)⟩
set_option maxRecDepth 100000 in
set_option maxHeartbeats 4000000 in
theorem rcuts_any (h : RfM w base gf As cs vL vC z prs P) (hn : prs.length ≤ 1000000) (a b : Ad) : Calls Try.prog 16 #[.pointer (some ⟨gf, 0, none⟩), adV a, adV b] w fun e w' => e = .returned (.bool (z.cuts a b)) ∧ Below w.heap.size w w' := by
  have hB : Below w.heap.size w ((w.alloc (.cells #[.int .i64 a.g, .int .i64 a.n] 34)).alloc (.cells #[.int .i64 b.g, .int .i64 b.n] 34)) := ((Below.refl _ _).alloc (Nat.le_refl _) _).alloc (by simp) _
  have B2 : Bk ((w.alloc (.cells #[.int .i64 a.g, .int .i64 a.n] 34)).alloc (.cells #[.int .i64 b.g, .int .i64 b.n] 34)) (w.heap.size + 1) 34 #[.int .i64 b.g, .int .i64 b.n] := by simpa using Bk.new (w.alloc (.cells #[.int .i64 a.g, .int .i64 a.n] 34)) 34 #[.int .i64 b.g, .int .i64 b.n]
  have B1 := (Bk.new w 34 #[.int .i64 a.g, .int .i64 a.n]).alloc (.cells #[.int .i64 b.g, .int .i64 b.n] 34)
  have HM := Lib.hid (h.below hB)
  obtain ⟨n, hnn⟩ : ∃ n, n = prs.length := ⟨_, rfl⟩
  obtain ⟨A, c, rfl, hnc, -⟩ := pairs_get h.pr rfl
  rw [← hnn] at HM hn hnc
  have HB := Lib.hid hB
  have HB1 := Lib.hid B1
  have HB2 := Lib.hid B2
  have HN := Lib.hid hnn
  obtain ⟨r, hr⟩ : ∃ r, r = z.cuts a b := ⟨_, rfl⟩
  rw [← hr]
  have HR : Hid (r = cutOf prs (linkOf a b)) := by rw [hr]; unfold Nt.cuts; rw [h.cut]; exact rfl
  unfold adV
  clear hB B1 B2 h hr hnn
  generalize hw : (w.alloc (.cells #[.int .i64 a.g, .int .i64 a.n] 34)).alloc (.cells #[.int .i64 b.g, .int .i64 b.n] 34) = W at *
  go_enter Try.func16, Try.ntmps16
  go_wp2_with fail
  go_loopw [7] (fun i wr => RelC W prs (linkOf a b) n i wr) (fun i _ => n - (intOf i).toNat)
  case atStart => exact ⟨0, Nat.zero_le _, rfl, fun j p hj => absurd hj (Nat.not_lt_zero _), Below.refl _ _⟩
  case round =>
    obtain ⟨k, hk, rfl, hall, hbw⟩ := hrel
    have HMR := Lib.hid (HM.out.below hbw)
    have c2 := HMR.out.bk.cell 2
    have HBW := Lib.hid hbw
    have HALL := Lib.hid hall
    clear hbw hall hw
    by_cases hlt : k < n
    · obtain ⟨A', c', e0, -, hget⟩ := pairs_get HMR.out.pr rfl
      injection e0 with e0 _ e1
      subst e0 e1
      obtain ⟨p, hp⟩ : ∃ p, prs[k]? = some p := ⟨_, List.getElem?_eq_getElem (by rw [← HN.out]; exact hlt)⟩
      obtain ⟨g, rfl, -, -, x0, x1, x2, x3⟩ := hget k p hp
      have K1 := HB1.out.below HBW.out
      have K2 := HB2.out.below HBW.out
      have p0 := K1.cell 0
      have p1 := K1.cell 1
      have p2 := K2.cell 0
      have p3 := K2.cell 1
      have HP := Lib.hid hp
      have i0 : (0 : Int) ≤ (k : Int) := by omega
      have i1 : (k : Int) < (n : Int) := by omega
      clear K1 K2 hp hget
      obtain ⟨⟨fg, fn⟩, ⟨tg, tn⟩⟩ := p
      dsimp only at *
      go_wp2_with fail
      obtain ⟨e1, he1⟩ : ∃ e1, e1 = decide ((⟨fg, fn⟩ : Ad) = a) := ⟨_, rfl⟩
      obtain ⟨e2, he2⟩ : ∃ e2, e2 = decide ((⟨tg, tn⟩ : Ad) = b) := ⟨_, rfl⟩
      obtain ⟨e3, he3⟩ : ∃ e3, e3 = decide ((⟨fg, fn⟩ : Ad) = b) := ⟨_, rfl⟩
      obtain ⟨e4, he4⟩ : ∃ e4, e4 = decide ((⟨tg, tn⟩ : Ad) = a) := ⟨_, rfl⟩
      have q1 := eq_addr fg fn a
      have q2 := eq_addr tg tn b
      have q3 := eq_addr fg fn b
      have q4 := eq_addr tg tn a
      rw [← he1] at q1
      rw [← he2] at q2
      rw [← he3] at q3
      rw [← he4] at q4
      have HE := Lib.hid (And.intro he1 (And.intro he2 (And.intro he3 he4)))
      clear he1 he2 he3 he4
      have HON : Hid (decide (linkOf (⟨fg, fn⟩ : Ad) ⟨tg, tn⟩ = linkOf a b) = ((e1 && e2) || (e3 && e4))) := by
        rw [HE.out.1, HE.out.2.1, HE.out.2.2.1, HE.out.2.2.2]
        show _ = _
        rw [Bool.eq_iff_iff]
        simp only [decide_eq_true_eq, Bool.or_eq_true, Bool.and_eq_true]
        exact linkOf_eq _ _ _ _
      clear HE
      cases e1
      · skip
        cases e3
        · skip
          refine ws_tail 45 (by kernel_rfl) (by kernel_rfl) ?_
          simp only [List.take_succ_cons, List.take_zero, List.drop_succ_cons, List.drop_zero]
          iterate 11
            refine ws_want (by kernel_rfl) ?_
            apply Exists.intro
            refine And.intro ?_ ?_
            · unfold StillAt
              first
                | (go_simp; done)
                | (go_simp; exact rfl)
            try simp only [Act.put, List.setIfInBounds_toArray, List.set_cons_zero, List.set_cons_succ]
          iterate 10
            refine ws_skip (by kernel_rfl) ?_
            try simp only [Act.put, List.setIfInBounds_toArray, List.set_cons_zero, List.set_cons_succ]
          iterate 13
            refine ws_want (by kernel_rfl) ?_
            apply Exists.intro
            refine And.intro ?_ ?_
            · unfold StillAt
              first
                | (go_simp; done)
                | (go_simp; exact rfl)
            try simp only [Act.put, List.setIfInBounds_toArray, List.set_cons_zero, List.set_cons_succ]
          iterate 10
            refine ws_skip (by kernel_rfl) ?_
            try simp only [Act.put, List.setIfInBounds_toArray, List.set_cons_zero, List.set_cons_succ]
          refine ws_want (by kernel_rfl) ?_
          apply Exists.intro
          refine And.intro ?_ ?_
          · unfold StillAt
            first
              | (go_simp; done)
              | (go_simp; exact rfl)
          try simp only [Act.put, List.setIfInBounds_toArray, List.set_cons_zero, List.set_cons_succ]
          refine ws_nil ?_

          change wpList _ _ _ _ _ wr.drew
          have HREL : Hid (RelC W prs (linkOf a b) n (.int .i64 ((k + 1 : Nat) : Int)) wr.drew) := ⟨k + 1, by omega, rfl, fun j p hj hp => by
            rcases Nat.lt_or_ge j k with q | q
            · exact HALL.out j p q hp
            · obtain rfl : j = k := by omega
              rw [HP.out] at hp
              injection hp with hp
              subst hp
              exact of_decide_eq_false (by rw [HON.out]; first | rfl | simp), below_drewN HBW.out 1⟩
          clear q1 q2 q3 q4 HON
          go_wp2_with fail
          exact ⟨HREL.out, by simp [intOf]; omega⟩
        · cases e4
          · skip
            refine ws_tail 45 (by kernel_rfl) (by kernel_rfl) ?_
            simp only [List.take_succ_cons, List.take_zero, List.drop_succ_cons, List.drop_zero]
            iterate 11
              refine ws_want (by kernel_rfl) ?_
              apply Exists.intro
              refine And.intro ?_ ?_
              · unfold StillAt
                first
                  | (go_simp; done)
                  | (go_simp; exact rfl)
              try simp only [Act.put, List.setIfInBounds_toArray, List.set_cons_zero, List.set_cons_succ]
            iterate 10
              refine ws_skip (by kernel_rfl) ?_
              try simp only [Act.put, List.setIfInBounds_toArray, List.set_cons_zero, List.set_cons_succ]
            iterate 24
              refine ws_want (by kernel_rfl) ?_
              apply Exists.intro
              refine And.intro ?_ ?_
              · unfold StillAt
                first
                  | (go_simp; done)
                  | (go_simp; exact rfl)
              try simp only [Act.put, List.setIfInBounds_toArray, List.set_cons_zero, List.set_cons_succ]
            refine ws_nil ?_

            change wpList _ _ _ _ _ wr.drew
            have HREL : Hid (RelC W prs (linkOf a b) n (.int .i64 ((k + 1 : Nat) : Int)) wr.drew) := ⟨k + 1, by omega, rfl, fun j p hj hp => by
              rcases Nat.lt_or_ge j k with q | q
              · exact HALL.out j p q hp
              · obtain rfl : j = k := by omega
                rw [HP.out] at hp
                injection hp with hp
                subst hp
                exact of_decide_eq_false (by rw [HON.out]; first | rfl | simp), below_drewN HBW.out 1⟩
            clear q1 q2 q3 q4 HON
            go_wp2_with fail
            exact ⟨HREL.out, by simp [intOf]; omega⟩
          · skip
            refine ws_tail 45 (by kernel_rfl) (by kernel_rfl) ?_
            simp only [List.take_succ_cons, List.take_zero, List.drop_succ_cons, List.drop_zero]
            iterate 11
              refine ws_want (by kernel_rfl) ?_
              apply Exists.intro
              refine And.intro ?_ ?_
              · unfold StillAt
                first
                  | (go_simp; done)
                  | (go_simp; exact rfl)
              try simp only [Act.put, List.setIfInBounds_toArray, List.set_cons_zero, List.set_cons_succ]
            iterate 10
              refine ws_skip (by kernel_rfl) ?_
              try simp only [Act.put, List.setIfInBounds_toArray, List.set_cons_zero, List.set_cons_succ]
            iterate 24
              refine ws_want (by kernel_rfl) ?_
              apply Exists.intro
              refine And.intro ?_ ?_
              · unfold StillAt
                first
                  | (go_simp; done)
                  | (go_simp; exact rfl)
              try simp only [Act.put, List.setIfInBounds_toArray, List.set_cons_zero, List.set_cons_succ]
            refine ws_nil ?_

            change wpList _ _ _ _ _ wr.drew
            have e : r = true := by
              rw [HR.out]
              have h1 : linkOf (⟨fg, fn⟩ : Ad) ⟨tg, tn⟩ = linkOf a b := of_decide_eq_true (by rw [HON.out]; first | rfl | simp)
              exact List.any_eq_true.2 ⟨_, List.mem_of_getElem? HP.out, decide_eq_true h1⟩
            subst e
            clear q1 q2 q3 q4 HR HON
            have HF := Lib.hid (below_drewN (HB.out.trans (HBW.out.mono HB.out.size)) 1)
            go_wp2_with fail
            go_ret
            exact ⟨rfl, HF.out⟩
      · cases e2
        · skip
          cases e3
          · skip
            refine ws_tail 45 (by kernel_rfl) (by kernel_rfl) ?_
            simp only [List.take_succ_cons, List.take_zero, List.drop_succ_cons, List.drop_zero]
            iterate 34
              refine ws_want (by kernel_rfl) ?_
              apply Exists.intro
              refine And.intro ?_ ?_
              · unfold StillAt
                first
                  | (go_simp; done)
                  | (go_simp; exact rfl)
              try simp only [Act.put, List.setIfInBounds_toArray, List.set_cons_zero, List.set_cons_succ]
            iterate 10
              refine ws_skip (by kernel_rfl) ?_
              try simp only [Act.put, List.setIfInBounds_toArray, List.set_cons_zero, List.set_cons_succ]
            refine ws_want (by kernel_rfl) ?_
            apply Exists.intro
            refine And.intro ?_ ?_
            · unfold StillAt
              first
                | (go_simp; done)
                | (go_simp; exact rfl)
            try simp only [Act.put, List.setIfInBounds_toArray, List.set_cons_zero, List.set_cons_succ]
            refine ws_nil ?_

            change wpList _ _ _ _ _ wr.drew
            have HREL : Hid (RelC W prs (linkOf a b) n (.int .i64 ((k + 1 : Nat) : Int)) wr.drew) := ⟨k + 1, by omega, rfl, fun j p hj hp => by
              rcases Nat.lt_or_ge j k with q | q
              · exact HALL.out j p q hp
              · obtain rfl : j = k := by omega
                rw [HP.out] at hp
                injection hp with hp
                subst hp
                exact of_decide_eq_false (by rw [HON.out]; rfl), below_drewN HBW.out 1⟩
            clear q1 q2 q3 q4 HON
            go_wp2_with fail
            exact ⟨HREL.out, by simp [intOf]; omega⟩
          · cases e4
            · skip
              refine ws_tail 45 (by kernel_rfl) (by kernel_rfl) ?_
              simp only [List.take_succ_cons, List.take_zero, List.drop_succ_cons, List.drop_zero]
              iterate 45
                refine ws_want (by kernel_rfl) ?_
                apply Exists.intro
                refine And.intro ?_ ?_
                · unfold StillAt
                  first
                    | (go_simp; done)
                    | (go_simp; exact rfl)
                try simp only [Act.put, List.setIfInBounds_toArray, List.set_cons_zero, List.set_cons_succ]
              refine ws_nil ?_

              change wpList _ _ _ _ _ wr.drew
              have HREL : Hid (RelC W prs (linkOf a b) n (.int .i64 ((k + 1 : Nat) : Int)) wr.drew) := ⟨k + 1, by omega, rfl, fun j p hj hp => by
                rcases Nat.lt_or_ge j k with q | q
                · exact HALL.out j p q hp
                · obtain rfl : j = k := by omega
                  rw [HP.out] at hp
                  injection hp with hp
                  subst hp
                  exact of_decide_eq_false (by rw [HON.out]; rfl), below_drewN HBW.out 1⟩
              clear q1 q2 q3 q4 HON
              go_wp2_with fail
              exact ⟨HREL.out, by simp [intOf]; omega⟩
            · skip
              refine ws_tail 45 (by kernel_rfl) (by kernel_rfl) ?_
              simp only [List.take_succ_cons, List.take_zero, List.drop_succ_cons, List.drop_zero]
              iterate 45
                refine ws_want (by kernel_rfl) ?_
                apply Exists.intro
                refine And.intro ?_ ?_
                · unfold StillAt
                  first
                    | (go_simp; done)
                    | (go_simp; exact rfl)
                try simp only [Act.put, List.setIfInBounds_toArray, List.set_cons_zero, List.set_cons_succ]
              refine ws_nil ?_

              change wpList _ _ _ _ _ wr.drew
              have e : r = true := by
                rw [HR.out]
                have h1 : linkOf (⟨fg, fn⟩ : Ad) ⟨tg, tn⟩ = linkOf a b := of_decide_eq_true (by rw [HON.out]; rfl)
                exact List.any_eq_true.2 ⟨_, List.mem_of_getElem? HP.out, decide_eq_true h1⟩
              subst e
              clear q1 q2 q3 q4 HR HON
              have HF := Lib.hid (below_drewN (HB.out.trans (HBW.out.mono HB.out.size)) 1)
              go_wp2_with fail
              go_ret
              exact ⟨rfl, HF.out⟩
        · skip
          refine ws_tail 45 (by kernel_rfl) (by kernel_rfl) ?_
          simp only [List.take_succ_cons, List.take_zero, List.drop_succ_cons, List.drop_zero]
          iterate 23
            refine ws_want (by kernel_rfl) ?_
            apply Exists.intro
            refine And.intro ?_ ?_
            · unfold StillAt
              first
                | (go_simp; done)
                | (go_simp; exact rfl)
            try simp only [Act.put, List.setIfInBounds_toArray, List.set_cons_zero, List.set_cons_succ]
          iterate 22
            refine ws_skip (by kernel_rfl) ?_
            try simp only [Act.put, List.setIfInBounds_toArray, List.set_cons_zero, List.set_cons_succ]
          refine ws_nil ?_

          change wpList _ _ _ _ _ wr.drew
          have e : r = true := by
            rw [HR.out]
            have h1 : linkOf (⟨fg, fn⟩ : Ad) ⟨tg, tn⟩ = linkOf a b := of_decide_eq_true (by rw [HON.out]; rfl)
            exact List.any_eq_true.2 ⟨_, List.mem_of_getElem? HP.out, decide_eq_true h1⟩
          subst e
          clear q1 q2 q3 q4 HR HON
          have HF := Lib.hid (below_drewN (HB.out.trans (HBW.out.mono HB.out.size)) 1)
          go_wp2_with fail
          go_ret
          exact ⟨rfl, HF.out⟩
    · have v1 : ¬ (k : Int) < (n : Int) := by omega
      have e : r = false := by
        rw [HR.out]
        unfold cutOf
        rw [List.any_eq_false]
        intro p hp hd
        obtain ⟨j, hj, rfl⟩ := List.mem_iff_getElem.1 hp
        exact HALL.out j _ (by have := HN.out; omega) (List.getElem?_eq_getElem hj) (of_decide_eq_true hd)
      subst e
      have HF := Lib.hid (HB.out.trans (HBW.out.mono HB.out.size))
      clear HR
      go_wp2_with fail
      go_ret
      exact ⟨rfl, HF.out⟩
end
end Go.Proofs.Ytmjipeagbogpmaa.Net

namespace Go.Proofs.Ytmjipeagbogpmaa.Net
open Go.RowKit Disk Zab Sto

theorem ltsC_take : ∀ (ls : List Lt) (vs : List Value) (k : Nat), ls.length = vs.length → k ≤ ls.length → (ltsC ls vs).take (5 * k) = ltsC (ls.take k) (vs.take k)
  | ls, vs, 0, _, _ => by cases ls <;> cases vs <;> simp [ltsC]
  | [], [], k + 1, _, h => by simp at h
  | x :: ls, v :: vs, k + 1, h, hk => by
    have := ltsC_take ls vs k (by simpa using h) (by simpa using hk)
    rw [List.take_succ_cons, List.take_succ_cons, ltsC, ltsC, List.take_append]
    have e : (ltC x v).length = 5 := rfl
    rw [e, show 5 * (k + 1) - 5 = 5 * k from by omega, this, List.take_of_length_le (by rw [e]; omega)]
theorem ltsC_drop : ∀ (ls : List Lt) (vs : List Value) (k : Nat), ls.length = vs.length → k ≤ ls.length → (ltsC ls vs).drop (5 * k) = ltsC (ls.drop k) (vs.drop k)
  | ls, vs, 0, _, _ => by simp
  | [], [], k + 1, _, h => by simp at h
  | x :: ls, v :: vs, k + 1, h, hk => by
    have := ltsC_drop ls vs k (by simpa using h) (by simpa using hk)
    rw [List.drop_succ_cons, List.drop_succ_cons, ltsC, List.drop_append]
    have e : (ltC x v).length = 5 := rfl
    rw [e, show 5 * (k + 1) - 5 = 5 * k from by omega, this, List.drop_eq_nil_of_le (by rw [e]; omega), List.nil_append]
theorem own_lit5 (w : World) (B : Nat) (hB : B ≤ w.heap.size) : (w.alloc (.cells #[] 37)).ownsRow B 37 5 (.slice (some ⟨w.heap.size, 0, none⟩) 0 0) 0 ([] : List Value) :=
  ⟨rfl, .inr ⟨w.heap.size, 0, #[], rfl, hB, heap_alloc_new w _, Nat.le_refl _, by unfold maxLen; omega, rfl, rfl⟩⟩
theorem LtB.part {P : Nat → Prop} {w : World} {vs : List Value} {ls : List Lt} (h : LtB P w vs ls) (k : Nat) : LtB P w (vs.eraseIdx k) (ls.eraseIdx k) := by
  refine ⟨by rw [List.length_eraseIdx, List.length_eraseIdx, h.len], fun j x hj => ?_⟩
  rw [List.getElem?_eraseIdx] at hj
  split at hj
  · obtain ⟨B, m, c, q1, q2⟩ := h.at_ j x hj
    exact ⟨B, m, c, by rw [List.getElem?_eraseIdx, if_pos ‹_›]; exact q1, q2⟩
  · obtain ⟨B, m, c, q1, q2⟩ := h.at_ (j + 1) x hj
    exact ⟨B, m, c, by rw [List.getElem?_eraseIdx, if_neg ‹_›]; exact q1, q2⟩
theorem LtW.get {P : Nat → Prop} {base : Nat} {w : World} {V : Option Addr} {r d : Nat} {ls : List Lt} (h : LtW P base w (.slice V r d) ls) {j : Nat} {x : Lt} (hj : ls[j]? = some x) : ∃ b B m c, V = some ⟨b, 0, none⟩ ∧ base ≤ b ∧ b < w.heap.size ∧ r ≤ d ∧ w.cell? ⟨b, j * 5, none⟩ = some (.int .i64 x.fr.g) ∧ w.cell? ⟨b, j * 5 + 1, none⟩ = some (.int .i64 x.fr.n) ∧ w.cell? ⟨b, j * 5 + 2, none⟩ = some (.int .i64 x.to.g) ∧ w.cell? ⟨b, j * 5 + 3, none⟩ = some (.int .i64 x.to.n) ∧ w.cell? ⟨b, j * 5 + 4, none⟩ = some (.slice B m c) ∧ m ≤ c ∧ Rd w B m x.bs ∧ ∀ b, B = some b → 1 ≤ m → P b.block := by
  obtain ⟨vs, hown, hlb⟩ := h
  have hjl := (List.getElem?_eq_some_iff.1 hj).1
  obtain ⟨B, m, c, q1, q2, q3, q4⟩ := hlb.at_ j x hj
  rcases hown.2 with ⟨_, h0⟩ | ⟨g, cap, cur, e, hg, hh, hnc, _⟩
  · omega
  · injection e with e1 e2 e3
    subst e1 e2 e3
    have hc : ∀ i v, i < 5 → (ltC x (.slice B m c))[i]? = some v → w.cell? ⟨g, j * 5 + i, none⟩ = some v := fun i v hi hv => by
      have := hown.cells (g := g) rfl _ v ((ltsC_get ls vs j i x _ hj q1 hi).trans hv)
      rw [plus_add] at this
      rw [show j * 5 + i = 5 * j + i from by omega]
      exact this
    exact ⟨g, B, m, c, rfl, hg, (Array.getElem?_eq_some_iff.1 hh).1, hnc, hc 0 _ (by omega) rfl, hc 1 _ (by omega) rfl, hc 2 _ (by omega) rfl, hc 3 _ (by omega) rfl, hc 4 _ (by omega) rfl, q2, q3, q4⟩
theorem LtW.cuts {P : Nat → Prop} {base : Nat} {w : World} {V : Option Addr} {r dv : Nat} {ls : List Lt} (h : LtW P base w (.slice V r dv) ls) (hr : r = ls.length) {k : Nat} (hk : k < r) (hr6 : r ≤ 100000) (hbase : base ≤ w.heap.size) {W1 : World} (hW1 : W1 = (w.alloc (.cells #[] 37)).drew) :
    ∃ a2 v5 W5 v6 W6, (if dv = k + 1 then V else V.map (·.add ((k + 1) * 5))) = some a2 ∧ (Builtin.append_ #[46, 46] 46 #[.slice (some ⟨w.heap.size, 0, none⟩) 0 0, .slice V k dv]).run Try.prog W1 = .ok v5 W5 ∧ (Builtin.append_ #[46, 46] 46 #[v5, .slice (some a2) (r - (k + 1)) (dv - (k + 1))]).run Try.prog W5 = .ok v6 W6 ∧ LtW P base W6 v6 (ls.eraseIdx k) ∧ Below w.heap.size w W6 ∧ ∀ b, v6.ownBlock = some b → w.heap.size ≤ b := by
  obtain ⟨vs, hown, hlb⟩ := h
  have hvl := hlb.len
  rcases hown.2 with ⟨_, h0⟩ | ⟨g, cap, cur, e, hg, hh, hnc, _⟩
  · omega
  injection e with e1 e2 e3
  subst e1
  subst hr
  have hglt := (Array.getElem?_eq_some_iff.1 hh).1
  have hb1 : Below w.heap.size w W1 := by rw [hW1]; exact below_drewN ((Below.refl _ _).alloc (Nat.le_refl _) _) 1
  have hcell : ∀ j u, (ltsC ls vs)[j]? = some u → w.cell? ⟨g, j, none⟩ = some u := fun j u hj => by
    have := hown.cells (g := g) rfl j u hj
    rwa [plus_add] at this
  have hkl : k ≤ ls.length := by omega
  have hlt := ltsC_length ls vs hvl.symm
  -- the first part
  have hown0 : W1.ownsRow w.heap.size 37 5 (.slice (some ⟨w.heap.size, 0, none⟩) 0 0) 0 ([] : List Value) := by
    have := own_lit5 w w.heap.size (Nat.le_refl _)
    rw [hW1]
    exact this
  have hl1 : (ltsC (ls.take k) (vs.take k)).length = k * 5 := by
    rw [ltsC_length _ _ (by rw [List.length_take, List.length_take, hvl]), List.length_take]; omega
  obtain ⟨v5, W5, q1, q2, q3, q4⟩ := app_letters hown0 ⟨g, 0, none⟩ k dv (news := ltsC (ls.take k) (vs.take k)) hl1 (fun j u hj => by
    rw [plus_add, hb1.cell (p := ⟨g, j, none⟩) hglt]
    refine hcell j u ?_
    rw [← ltsC_take ls vs k hvl.symm hkl, List.getElem?_take] at hj
    split at hj
    · exact hj
    · cases hj) (fun u hu => by
      rw [← ltsC_take ls vs k hvl.symm hkl] at hu
      exact hlb.one u (List.mem_of_mem_take hu)) (by omega) (by rw [hW1]; simp)
  rw [Nat.zero_add, List.nil_append] at q2
  have hb5 : Below w.heap.size w W5 := by
    refine hb1.trans ⟨q3.os, q3.tape, q3.output, q3.size, fun i hi => q3.block i (Nat.lt_of_lt_of_le hi hb1.size) fun e => ?_⟩
    have e : some i = some w.heap.size := e
    injection e with e
    omega
  have ha2 : ∃ a2 : Addr, (if dv = k + 1 then (some ⟨g, 0, none⟩ : Option Addr) else (some (⟨g, 0, none⟩ : Addr)).map (·.add ((k + 1) * 5))) = some a2 ∧ ∀ j u, (ltsC (ls.drop (k + 1)) (vs.drop (k + 1)))[j]? = some u → w.cell? (a2.add j) = some u := by
    by_cases hd : dv = k + 1
    · rw [if_pos hd]
      refine ⟨_, rfl, fun j u hj => ?_⟩
      have : ls.drop (k + 1) = [] := List.drop_eq_nil_of_le (by omega)
      rw [this] at hj
      cases hv : vs.drop (k + 1) <;> rw [hv] at hj <;> simp [ltsC] at hj
    · rw [if_neg hd]
      refine ⟨⟨g, (k + 1) * 5, none⟩, by rw [Option.map_some, plus_add], fun j u hj => ?_⟩
      have e : ((⟨g, (k + 1) * 5, none⟩ : Addr).add j) = ⟨g, (k + 1) * 5 + j, none⟩ := by unfold Addr.add; split <;> simp_all
      rw [e]
      refine hcell _ u ?_
      rw [← ltsC_drop ls vs (k + 1) hvl.symm (by omega), List.getElem?_drop] at hj
      rw [show (k + 1) * 5 + j = 5 * (k + 1) + j from by omega]
      exact hj
  obtain ⟨a2, e2, hc2⟩ := ha2
  have hl2 : (ltsC (ls.drop (k + 1)) (vs.drop (k + 1))).length = (ls.length - (k + 1)) * 5 := by
    rw [ltsC_length _ _ (by rw [List.length_drop, List.length_drop, hvl]), List.length_drop]; omega
  obtain ⟨v6, W6, p1, p2, p3, p4⟩ := app_letters q2 a2 (ls.length - (k + 1)) (dv - (k + 1)) hl2 (fun j u hj => by
    have := hc2 j u hj
    rw [hb5.cell (p := a2.add j) (World.block_lt_of_cell? w _ this)]
    exact this) (fun u hu => by
      rw [← ltsC_drop ls vs (k + 1) hvl.symm (by omega)] at hu
      exact hlb.one u (List.mem_of_mem_drop hu)) (by omega) hb5.size
  have hb6 : Below w.heap.size w W6 := by
    refine hb5.trans ⟨p3.os, p3.tape, p3.output, p3.size, fun i hi => p3.block i (Nat.lt_of_lt_of_le hi hb5.size) fun e => ?_⟩
    have := (q2.lt i e.symm).1
    omega
  refine ⟨a2, v5, W5, v6, W6, e2, q1, p1, ⟨vs.eraseIdx k, ?_, (hlb.below hb6).part k⟩, hb6, fun b hb => (p2.lt b hb).1⟩
  have e7 : (ls.eraseIdx k).length = k + (ls.length - (k + 1)) := by rw [List.length_eraseIdx_of_lt hk]; omega
  rw [e7, eraseIdx_parts, eraseIdx_parts, ltsC_append _ _ _ _ (by rw [List.length_take, List.length_take, hvl])]
  exact own_mono p2 hbase
end Go.Proofs.Ytmjipeagbogpmaa.Net
