/- A law's own row of letters. -/
import Derived.Test.YtephciglcikllaaNetSame
import Derived.Test.YtephciglcikllaaNetGoes2
import Derived.Test.YtephciglcikllaaNetGreat
import Derived.Maps.AppendAt
namespace Go.Proofs.Ytephciglcikllaa.Net
open Go.RowKit Disk Zab Sto

theorem out_grown {w w' : World} {row : Option Nat} (hg : w.grownBy w' row) : Out (fun b => row = some b) w w' := ⟨hg.os, hg.tape, hg.output, hg.size, fun k hk hn => hg.block k hk (fun e => hn e.symm)⟩
theorem Sn.out {w0 w w' : World} {O X : Nat → Prop} {gz : Nat} {z : Nt} {N : Nat} (h : Sn w0 w O gz z N) (ho : Out X w w') (hx : ∀ b, X b → ¬ O b ∧ w0.heap.size ≤ b) : Sn w0 w' O gz z N :=
  ⟨h.nt.out ho fun _ hb hq => (hx _ hq).1 hb, ho.below h.bl (fun b hb => (hx b hb).2) h.bl.size⟩
theorem lt_of_O {w0 w : World} {O : Nat → Prop} {gz : Nat} {z : Nt} {N : Nat} (h : Sn w0 w O gz z N) : ∀ b, O b → b < w.heap.size := fun b hb => (h.nt.low b hb).2
/-- Letters behind letters of one's own. -/
theorem app_letters {base : Nat} {W : World} {v : Value} {n : Nat} {xs : List Value} (hown : W.ownsRow base 37 5 v n xs) (ad : Addr) (m c : Nat) {news : List Value} (hl : news.length = m * 5) (hnews : ∀ j u, news[j]? = some u → W.cell? (ad.add j) = some u) (h1 : ∀ u ∈ news, u.oneCell' = true) (hm : n + m ≤ 1000000) (hbase : base ≤ W.heap.size) :
    ∃ v' W', (Builtin.append_ #[46, 46] 46 #[v, .slice (some ad) m c]).run Try.prog W = .ok v' W' ∧ W'.ownsRow base 37 5 v' (n + m) (xs ++ news) ∧ W.grownBy W' v.ownBlock ∧ (v'.ownBlock = v.ownBlock ∨ v'.ownBlock = some W.heap.size) := by
  obtain ⟨i0, hi, hz0, hz1, hz2⟩ := info_parts info_letter
  obtain ⟨v', W', q1, q2, q3, q4, q5⟩ := run_append_own_at (P := Try.prog) W base 46 46 37 i0 _ 5 56 ty_letters hi hz0 hz1 hz2 rfl (by decide) v n xs hown ad m c news hl hnews h1 (by unfold maxLen; omega) (by omega) hbase
  exact ⟨v', W', q1, q2, q3, by first | exact q5 | exact q4⟩
/-- A row of letters of one's own, the bytes in blocks of P. -/
def LtW (P : Nat → Prop) (base : Nat) (w : World) (v : Value) (ls : List Lt) : Prop := ∃ vs, w.ownsRow base 37 5 v ls.length (ltsC ls vs) ∧ LtB P w vs ls
theorem LtW.nil_ (P : Nat → Prop) (base : Nat) (w : World) : LtW P base w (.slice none 0 0) [] := ⟨[], ⟨rfl, .inl ⟨rfl, rfl⟩⟩, LtB.nil_ _ _⟩
theorem LtW.out {P X : Nat → Prop} {base : Nat} {w w' : World} {v : Value} {ls : List Lt} (h : LtW P base w v ls) (ho : Out X w w') (hp : ∀ b, P b → ¬ X b) (hv : ∀ b, v.ownBlock = some b → ¬ X b) : LtW P base w' v ls := by
  obtain ⟨vs, h1, h2⟩ := h
  exact ⟨vs, (own_out h1 ho hv).1, h2.out ho hp⟩
theorem LtW.below {P : Nat → Prop} {base : Nat} {w w' : World} {v : Value} {ls : List Lt} (h : LtW P base w v ls) (hb : Below w.heap.size w w') : LtW P base w' v ls := h.out (X := fun _ => False) (Out.of_below hb) (fun _ _ q => q) fun _ _ q => q
theorem LtW.form {P : Nat → Prop} {base : Nat} {w : World} {v : Value} {ls : List Lt} (h : LtW P base w v ls) : ∃ A c, v = .slice A ls.length c ∧ ls.length ≤ c ∧ LtS (fun b => P b ∨ base ≤ b) w A ls.length ls ∧ (∀ a, A = some a → a = ⟨a.block, 0, none⟩ ∧ base ≤ a.block ∧ a.block < w.heap.size) ∧ (A = none → ls = []) := by
  obtain ⟨vs, h1, h2⟩ := h
  rcases h1.2 with ⟨rfl, h0⟩ | ⟨g, cap, cur, rfl, hg, hh, hnc, _⟩
  · have : ls = [] := List.eq_nil_of_length_eq_zero h0
    subst this
    exact ⟨none, 0, rfl, Nat.le_refl _, LtS.nil_ _ _ _, (fun a ha => by cases ha), fun _ => rfl⟩
  · exact ⟨_, _, rfl, hnc, lts_of_row h1 rfl h2, fun a ha => by injection ha with ha; subst ha; exact ⟨rfl, hg, (Array.getElem?_eq_some_iff.1 hh).1⟩, fun e => by cases e⟩
theorem LtW.lt {P : Nat → Prop} {base : Nat} {w : World} {v : Value} {ls : List Lt} (h : LtW P base w v ls) : ∀ b, v.ownBlock = some b → base ≤ b ∧ b < w.heap.size := by
  obtain ⟨vs, h1, _⟩ := h
  exact h1.lt
/-- 'append(want, l)', l boxed by a literal. -/
theorem LtW.snoc {P : Nat → Prop} {base : Nat} {w : World} {v : Value} {ls : List Lt} (h : LtW P base w v ls) {x : Lt} {B : Option Addr} {m c : Nat} (hm : m ≤ c) (hr : Rd w B m x.bs) (hP : ∀ b, B = some b → 1 ≤ m → P b.block) (hPl : ∀ b, P b → b < base) (hlen : ls.length ≤ 100000) (hbase : base ≤ w.heap.size) {W : World} (hW : W = w.alloc (.cells (ltA x (.slice B m c)) 37)) :
    ∃ v' W', (Builtin.append_ #[46, 46] 46 #[v, .slice (some ⟨w.heap.size, 0, none⟩) 1 1]).run Try.prog W = .ok v' W' ∧ LtW P base W' v' (ls ++ [x]) ∧ Out (fun b => v.ownBlock = some b) w W' ∧ ∀ b, v'.ownBlock = some b → v.ownBlock = some b ∨ w.heap.size ≤ b := by
  have hb : Below w.heap.size w W := by rw [hW]; exact (Below.refl _ _).alloc (Nat.le_refl _) _
  have h1 := h.below hb
  obtain ⟨vs, hown, hlb⟩ := h1
  have hbk : Bk W w.heap.size 37 (ltA x (.slice B m c)) := by rw [hW]; exact Bk.new _ _ _
  obtain ⟨v', W', q1, q2, q3, q4⟩ := app_letters hown ⟨w.heap.size, 0, none⟩ 1 1 (news := ltC x (.slice B m c)) rfl (fun j u hj => by
    rw [plus_add, hbk.cell]
    have e : (ltA x (.slice B m c))[j]? = (ltC x (.slice B m c))[j]? := by unfold ltA ltC; simp
    rw [e, hj]) (ltC_one x rfl) (by omega) (Nat.le_trans hbase hb.size)
  have hgr := out_grown q3
  have hlb' : LtB P W' vs ls := hlb.out hgr fun b hP2 hq => by
    have := (hown.lt b hq).1
    have := hPl b hP2
    omega
  have hr' : Rd W' B m x.bs := rd_out (hr.below hb) hgr fun a ha h0 hq => by
    have := (hown.lt _ hq).1
    have := hPl _ (hP a ha h0)
    omega
  have hsz : W.heap.size = w.heap.size + 1 := by rw [hW]; simp
  refine ⟨v', W', q1, ⟨vs ++ [.slice B m c], ?_, hlb'.snoc hm hr' hP⟩, (Out.of_below hb).trans hgr fun b hb => .inl hb, fun b hb2 => ?_⟩
  · rw [ltsC_snoc ls vs x _ hlb.len.symm, List.length_append]
    exact q2
  · rcases q4 with q4 | q4
    · rw [q4] at hb2; exact .inl hb2
    · rw [q4] at hb2; injection hb2 with hb2; exact .inr (by omega)
theorem send_cases (z : Nt) (l : Lt) : ((z.send l).2 = 0 ∧ (z.send l).1 = { z with row := z.row ++ [l] }) ∨ ((z.send l).2 ≠ 0 ∧ (z.send l).1 = z) := by
  unfold Nt.send Nt.add
  split
  · exact .inr ⟨(by decide : (1 : Int) ≠ 0), rfl⟩
  · split
    · exact .inr ⟨(by decide : (1 : Int) ≠ 0), rfl⟩
    · split
      · exact .inr ⟨(by decide : (4 : Int) ≠ 0), rfl⟩
      · exact .inl ⟨rfl, rfl⟩
end Go.Proofs.Ytephciglcikllaa.Net
