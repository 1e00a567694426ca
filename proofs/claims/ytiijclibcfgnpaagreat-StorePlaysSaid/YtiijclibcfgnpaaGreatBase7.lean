/- Lemmas, part 7: PathPure, PathBase, PathTexts, LogMem, LogRev, LogSmall -/
import GoSem.Core.Utf8
import Derived.Test.YtiijclibcfgnpaaGreatChecked
import Derived.Test.YtiijclibcfgnpaaGreatBase1
import Derived.KernelRfl
import Derived.Lib.Strings
import Derived.BigQuiet
import Derived.Test.YtiijclibcfgnpaaGreatBase6
import Derived.Test.YtiijclibcfgnpaaGreatBase2
import Derived.Test.YtiijclibcfgnpaaGreatBase3
import Derived.Laws.BitsAllLaws
namespace Go.Proofs.YtiijclibcfgnpaaGreat.Path

/-! ### The rune at the head of a list -/
def at0 (l : List UInt8) (k : Nat) : Nat := (l.getD k 0).toNat
def cont (l : List UInt8) (k : Nat) : Bool := decide (k < l.length) && at0 l k / 64 == 2
def dec (l : List UInt8) : Nat × Nat :=
  if at0 l 0 < 0x80 then (at0 l 0, 1)
  else if at0 l 0 / 32 == 6 && cont l 1 then
    if (at0 l 0 % 32) * 64 + at0 l 1 % 64 ≥ 0x80 then ((at0 l 0 % 32) * 64 + at0 l 1 % 64, 2) else (0xFFFD, 1)
  else if at0 l 0 / 16 == 14 && cont l 1 && cont l 2 then
    if (at0 l 0 % 16) * 4096 + (at0 l 1 % 64) * 64 + at0 l 2 % 64 ≥ 0x800 && Utf8.valid ((at0 l 0 % 16) * 4096 + (at0 l 1 % 64) * 64 + at0 l 2 % 64 : Nat) then ((at0 l 0 % 16) * 4096 + (at0 l 1 % 64) * 64 + at0 l 2 % 64, 3) else (0xFFFD, 1)
  else if at0 l 0 / 8 == 30 && cont l 1 && cont l 2 && cont l 3 then
    if (at0 l 0 % 8) * 262144 + (at0 l 1 % 64) * 4096 + (at0 l 2 % 64) * 64 + at0 l 3 % 64 ≥ 0x10000 && Utf8.valid ((at0 l 0 % 8) * 262144 + (at0 l 1 % 64) * 4096 + (at0 l 2 % 64) * 64 + at0 l 3 % 64 : Nat) then ((at0 l 0 % 8) * 262144 + (at0 l 1 % 64) * 4096 + (at0 l 2 % 64) * 64 + at0 l 3 % 64, 4) else (0xFFFD, 1)
  else (0xFFFD, 1)

inductive Head (l : List UInt8) : Prop
  | bad (h : dec l = (0xFFFD, 1))
  | one (h : dec l = (at0 l 0, 1)) (h0 : at0 l 0 < 128)
  | two (h : (dec l).2 = 2) (h0 : at0 l 0 / 32 = 6) (h1 : cont l 1 = true)
  | three (h : (dec l).2 = 3) (h0 : at0 l 0 / 16 = 14) (h1 : cont l 1 = true) (h2 : cont l 2 = true)
  | four (h : (dec l).2 = 4) (h0 : at0 l 0 / 8 = 30) (h1 : cont l 1 = true) (h2 : cont l 2 = true) (h3 : cont l 3 = true)

theorem head (l : List UInt8) : Head l := by
  by_cases a1 : at0 l 0 < 0x80
  · exact .one (by unfold dec; rw [if_pos a1]) a1
  · by_cases a2 : (at0 l 0 / 32 == 6 && cont l 1) = true
    · by_cases b : (at0 l 0 % 32) * 64 + at0 l 1 % 64 ≥ 0x80
      · simp at a2
        exact .two (by unfold dec; rw [if_neg a1, if_pos (by simpa using a2), if_pos b]) a2.1 a2.2
      · exact .bad (by unfold dec; rw [if_neg a1, if_pos a2, if_neg b])
    · by_cases a3 : (at0 l 0 / 16 == 14 && cont l 1 && cont l 2) = true
      · have a3' := a3
        simp at a3
        rcases Bool.eq_false_or_eq_true (decide ((at0 l 0 % 16) * 4096 + (at0 l 1 % 64) * 64 + at0 l 2 % 64 ≥ 0x800) && Utf8.valid ((at0 l 0 % 16) * 4096 + (at0 l 1 % 64) * 64 + at0 l 2 % 64 : Nat)) with b | b
        · exact .three (by unfold dec; rw [if_neg a1, if_neg a2, if_pos a3', if_pos b]) a3.1.1 a3.1.2 a3.2
        · exact .bad (by unfold dec; rw [if_neg a1, if_neg a2, if_pos a3', if_neg (by rw [b]; exact Bool.false_ne_true)])
      · by_cases a4 : (at0 l 0 / 8 == 30 && cont l 1 && cont l 2 && cont l 3) = true
        · have a4' := a4
          simp at a4
          rcases Bool.eq_false_or_eq_true (decide ((at0 l 0 % 8) * 262144 + (at0 l 1 % 64) * 4096 + (at0 l 2 % 64) * 64 + at0 l 3 % 64 ≥ 0x10000) && Utf8.valid ((at0 l 0 % 8) * 262144 + (at0 l 1 % 64) * 4096 + (at0 l 2 % 64) * 64 + at0 l 3 % 64 : Nat)) with b | b
          · exact .four (by unfold dec; rw [if_neg a1, if_neg a2, if_neg a3, if_pos a4', if_pos b]) a4.1.1.1 a4.1.1.2 a4.1.2 a4.2
          · exact .bad (by unfold dec; rw [if_neg a1, if_neg a2, if_neg a3, if_pos a4', if_neg (by rw [b]; exact Bool.false_ne_true)])
        · exact .bad (by unfold dec; rw [if_neg a1, if_neg a2, if_neg a3, if_neg a4])

/-! ### Names -/
def okR (r : Nat) : Bool := r != 47 && decide (32 ≤ r) && r != 127 && r != 0xFFFD
def runesF : Nat → List UInt8 → Bool
  | 0, l => l.isEmpty
  | f + 1, l => l.isEmpty || (okR (dec l).1 && runesF f (l.drop (dec l).2))
def runes (l : List UInt8) : Bool := runesF l.length l

def name (l : List UInt8) : Bool := !l.isEmpty && l != [46] && l != [46, 46] && runes l

/-! ### Paths -/
end Go.Proofs.YtiijclibcfgnpaaGreat.Path

namespace Go.Proofs.YtiijclibcfgnpaaGreat.Path
open Go.RowKit

theorem ty_string : Tryz.prog.underlying 9 = some .string := by kernel_rfl
theorem S_append (a b : List UInt8) : S a ++ S b = S (a ++ b) := by
  apply ByteArray.ext
  simp [S]
theorem below_drewN {B : Nat} {w w' : World} (h : Below B w w') (m : Nat) : Below B w (w'.drewN m) := ⟨h.os, h.tape, h.output, h.size, h.block⟩
end Go.Proofs.YtiijclibcfgnpaaGreat.Path

namespace Go.Proofs.YtiijclibcfgnpaaGreat
open Go.RowKit

structure RdV (w : World) (A : Option Addr) (n : Nat) (vs : List Value) : Prop where
  len : vs.length = n
  cells : 0 < n → ∃ ad, A = some ad ∧ ∀ j v, vs[j]? = some v → w.cell? (ad.add j) = some v

theorem RdV.nil_ (w : World) (A : Option Addr) : RdV w A 0 [] := ⟨rfl, fun h => absurd h (by omega)⟩
theorem RdV.keep {w w' : World} {A : Option Addr} {n : Nat} {vs : List Value} (h : RdV w A n vs) (hk : ∀ (p : Addr) (v : Value), w.cell? p = some v → w'.cell? p = some v) : RdV w' A n vs :=
  ⟨h.len, fun hn => by
    obtain ⟨ad, e, hc⟩ := h.cells hn
    exact ⟨ad, e, fun j b hb => hk _ _ (hc j b hb)⟩⟩
theorem RdV.below {w w' : World} {A : Option Addr} {n : Nat} {vs : List Value} (h : RdV w A n vs) (hb : Below w.heap.size w w') : RdV w' A n vs :=
  h.keep fun p _ hp => (hb.cell (World.block_lt_of_cell? w p hp)).trans hp
theorem RdV.take {w : World} {A : Option Addr} {n : Nat} {vs : List Value} (h : RdV w A n vs) {k : Nat} (hk : k ≤ n) : RdV w A k (vs.take k) :=
  ⟨by rw [List.length_take, h.len]; omega, fun h0 => by
    obtain ⟨ad, e, hc⟩ := h.cells (by omega)
    refine ⟨ad, e, fun j b hb => hc j b ?_⟩
    rw [List.getElem?_take] at hb
    split at hb
    · exact hb
    · cases hb⟩
theorem RdV.of_own {w : World} {base : Nat} {e : TypeId} {A : Option Addr} {n m c : Nat} {vs : List Value} (h : w.ownsRow base e 1 (.slice A n c) m vs) : RdV w A n vs ∧ n = m := by
  have hl := h.1
  rw [Nat.mul_one] at hl
  rcases h.2 with ⟨e1, rfl⟩ | ⟨g, cap, cur, e1, _, hh, hnc, _, hs, ht⟩
  · injection e1 with e1 e2 e3
    subst e2
    exact ⟨⟨hl, fun h0 => absurd h0 (by omega)⟩, rfl⟩
  · injection e1 with e1 e2 e3
    subst e1 e2 e3
    refine ⟨⟨hl, fun _ => ⟨_, rfl, fun j b hb => ?_⟩⟩, rfl⟩
    have hj : j < n := by
      have := (List.getElem?_eq_some_iff.1 hb).1
      omega
    have : w.cell? ⟨g, 0 + j, none⟩ = some b := by
      simp only [World.cell?, hh]
      rw [Nat.mul_one] at ht
      have h2 : (cur.toList.take n)[j]? = some b := by rw [ht, hb]
      rw [List.getElem?_take, if_pos hj] at h2
      simpa using h2
    unfold Addr.add
    by_cases hj0 : j = 0
    · subst hj0; simpa using this
    · simpa [hj0] using this
theorem own_slice {w : World} {base : Nat} {e : TypeId} {v : Value} {n : Nat} {xs : List Value} (h : w.ownsRow base e 1 v n xs) : ∃ A c, v = .slice A n c := by
  rcases h.2 with ⟨h0, h1⟩ | ⟨g, cap, cur, h0, _⟩
  · exact ⟨none, 0, by rw [h0, h1]⟩
  · exact ⟨_, _, h0⟩
theorem own_nil (w : World) (base : Nat) (e : TypeId) : w.ownsRow base e 1 (.slice none 0 0) 0 [] := ⟨rfl, .inl ⟨rfl, rfl⟩⟩

theorem run_append_RdV {P : Program} {w : World} {t ty e : TypeId} {i : TypeInfo} {z : Value} {bytes : Nat} (ht : P.underlying t = some (.slice e)) (hi : P.info? e = some i) (hz : i.zero = some z) (hs : i.size = 1) (hb : i.bytes = bytes) (hzs : z.cells.size = 1)
    {base : Nat} {v : Value} {n : Nat} {xs : List Value} (hown : w.ownsRow base e 1 v n xs) {A : Option Addr} {m : Nat} {vs : List Value} (h : RdV w A m vs) (h1 : ∀ u ∈ vs, u.oneCell' = true) (c : Nat) (h63 : n + m ≤ maxLen) (hm : (n + m) * bytes ≤ 140737488355328) (hbase : base ≤ w.heap.size) :
    ∃ v' w', (Builtin.append_ #[t, t] ty #[v, .slice A m c]).run P w = .ok v' w' ∧ w'.ownsRow base e 1 v' (n + m) (xs ++ vs) ∧ w.grownBy w' v.ownBlock := by
  have hl := h.len
  cases A with
  | some ad =>
    have hcells : ∀ j u, vs[j]? = some u → w.cell? (ad.add j) = some u := by
      intro j u hu
      have h0 : 0 < m := by
        have := (List.getElem?_eq_some_iff.1 hu).1
        omega
      obtain ⟨ad', e', hc⟩ := h.cells h0
      injection e' with e'
      subst e'
      exact hc j u hu
    obtain ⟨v', w', h1, h2, h3, _⟩ := run_append_own (P := P) w base t ty e i z 1 bytes ht hi hz hs hb hzs (by decide) v n xs hown ad m c vs (by simp [hl]) hcells h1 h63 hm hbase
    exact ⟨v', w', h1, h2, h3⟩
  | none =>
    have hm0 : m = 0 := by
      rcases Nat.eq_zero_or_pos m with h0 | h0
      · exact h0
      · obtain ⟨_, e', _⟩ := h.cells h0
        cases e'
    subst hm0
    have hb0 : vs = [] := List.eq_nil_of_length_eq_zero hl
    subst hb0
    refine ⟨v, w, ?_, by simpa using hown, ⟨rfl, rfl, rfl, Nat.le_refl _, fun _ _ _ => rfl⟩⟩
    rcases hown.2 with ⟨rfl, rfl⟩ | ⟨g, cap, cur, rfl, _, _, hnc, _⟩
    · simp [Builtin.append_, run_underlying ht, sizeOf, typeInfo, hi, Builtin.lenOf, Builtin.firstCells]
    · simp [Builtin.append_, run_underlying ht, sizeOf, typeInfo, hi, Builtin.lenOf, Builtin.firstCells, hnc, storeCells]

theorem wpList_append_RdV {P : Program} {w : World} {ops : Array Oper} {rest : List Oper} {o : Oper} {a : Act} {Q : Exit → Act → World → Prop} (hgd : o.guard = none) (s x : Operand) (t : TypeId)
    (ho : o.op = .call { callee := .builtin .append, args := #[s, x], argTypes := #[t, t] }) {e : TypeId} {i : TypeInfo} {z : Value} {bytes : Nat} (ht : P.underlying t = some (.slice e)) (hi : P.info? e = some i) (hz : i.zero = some z) (hsz : i.size = 1) (hb : i.bytes = bytes) (hzs : z.cells.size = 1)
    {base : Nat} {v : Value} {n : Nat} {xs : List Value} (hs : a.eval s = v) (hown : w.ownsRow base e 1 v n xs) {A : Option Addr} {m c : Nat} {vs : List Value} (hx : a.eval x = .slice A m c) (h : RdV w A m vs) (h1 : ∀ u ∈ vs, u.oneCell' = true) (h63 : n + m ≤ maxLen) (hm : (n + m) * bytes ≤ 140737488355328) (hbase : base ≤ w.heap.size)
    (hK : ∀ v' w', w'.ownsRow base e 1 v' (n + m) (xs ++ vs) → w.grownBy w' v.ownBlock → wpList P ops Q rest (a.put o.dst v') w') : wpList P ops Q (o :: rest) a w := by
  obtain ⟨v', w', h1, h2, h3⟩ := run_append_RdV (ty := o.type) ht hi hz hsz hb hzs hown h h1 c h63 hm hbase
  refine wpList_plain hgd fun K hK' => ?_
  unfold Oper.wp execOp
  simp only [ho, resolve, invoke, builtin, Sem.run_bind, Sem.run_pure, Result.andThen_ok, List.map_toArray, List.map_cons, List.map_nil, hs, hx, h1]
  exact hK' _ _ (hK v' w' h2 h3)

theorem infos {P : Program} {t : TypeId} {z : Value} {a b : Nat} (h : (P.info? t).map (fun i => (i.zero, i.size, i.bytes)) = some (some z, a, b)) : ∃ i, P.info? t = some i ∧ i.zero = some z ∧ i.size = a ∧ i.bytes = b := by
  cases hi : P.info? t with
  | none => rw [hi] at h; cases h
  | some i =>
    rw [hi] at h
    simp at h
    exact ⟨i, rfl, h⟩
namespace Path
end Path
end Go.Proofs.YtiijclibcfgnpaaGreat

namespace Go.Proofs.YtiijclibcfgnpaaGreat.Log
open Go.RowKit Disk

structure Many (w : World) (vs : List Value) (bs : List (List UInt8)) : Prop where
  len : vs.length = bs.length
  at_ : ∀ (j : Nat) (b : List UInt8), bs[j]? = some b → ∃ A n c, vs[j]? = some (.slice A n c) ∧ n ≤ c ∧ Rd w A n b
theorem Many.below {w w' : World} {vs : List Value} {bs : List (List UInt8)} (h : Many w vs bs) (hb : Below w.heap.size w w') : Many w' vs bs :=
  ⟨h.len, fun j b hj => by
    obtain ⟨A, n, c, h1, h2, h3⟩ := h.at_ j b hj
    exact ⟨A, n, c, h1, h2, h3.below hb⟩⟩
theorem Many.nil_ (w : World) : Many w [] [] := ⟨rfl, fun j b hj => by simp at hj⟩
theorem Many.cons_ {w : World} {A : Option Addr} {n c : Nat} {b : List UInt8} {vs : List Value} {bs : List (List UInt8)} (h1 : Rd w A n b) (h2 : n ≤ c) (h : Many w vs bs) : Many w (.slice A n c :: vs) (b :: bs) :=
  ⟨by simp [h.len], fun j x hj => by
    cases j with
    | zero => simp at hj; subst hj; exact ⟨A, n, c, rfl, h2, h1⟩
    | succ j => exact h.at_ j x (by simpa using hj)⟩
theorem Many.snoc {w : World} {A : Option Addr} {n c : Nat} {b : List UInt8} {vs : List Value} {bs : List (List UInt8)} (h : Many w vs bs) (h1 : Rd w A n b) (h2 : n ≤ c) : Many w (vs ++ [.slice A n c]) (bs ++ [b]) :=
  ⟨by simp [h.len], fun j x hj => by
    rcases Nat.lt_or_ge j bs.length with hl | hl
    · rw [List.getElem?_append_left hl] at hj
      rw [List.getElem?_append_left (by rw [h.len]; exact hl)]
      exact h.at_ j x hj
    · rw [List.getElem?_append_right hl] at hj
      rw [List.getElem?_append_right (by rw [h.len]; exact hl), h.len]
      have : j - bs.length = 0 := by
        have := (List.getElem?_eq_some_iff.1 hj).1
        simp at this
        omega
      rw [this] at hj ⊢
      simp at hj
      subst hj
      exact ⟨A, n, c, rfl, h2, h1⟩⟩
theorem Many.one {w : World} {vs : List Value} {bs : List (List UInt8)} (h : Many w vs bs) : ∀ u ∈ vs, u.oneCell' = true := by
  intro u hu
  obtain ⟨j, hj, rfl⟩ := List.mem_iff_getElem.1 hu
  obtain ⟨A, n, c, h1, _⟩ := h.at_ j (bs[j]'(by rw [← h.len]; exact hj)) (List.getElem?_eq_getElem _)
  rw [List.getElem?_eq_getElem hj] at h1
  injection h1 with h1
  rw [h1]
  rfl

theorem info_row : (Tryz.prog.info? 54).map (fun i => (i.zero, i.size, i.bytes)) = some (some (.slice none 0 0), 1, 24) := by kernel_rfl
theorem ty_rows : Tryz.prog.underlying 73 = some (.slice 54) := by kernel_rfl

def flatK (bs : List (List UInt8)) (k : Nat) : List UInt8 := (bs.take k).flatten
theorem flat_take (bs : List (List UInt8)) (k : Nat) (h : k < bs.length) : flatK bs (k + 1) = flatK bs k ++ bs[k] := by
  unfold flatK
  rw [← List.take_append_getElem h, List.flatten_append]
  simp
theorem flat_le (bs : List (List UInt8)) (k : Nat) : (flatK bs k).length ≤ bs.flatten.length := by
  unfold flatK
  have : bs.flatten = (bs.take k).flatten ++ (bs.drop k).flatten := by rw [← List.flatten_append, List.take_append_drop]
  rw [this, List.length_append]
  omega
theorem flat_all (bs : List (List UInt8)) (k : Nat) (h : bs.length ≤ k) : flatK bs k = bs.flatten := by unfold flatK; rw [List.take_of_length_le h]
def RelTog (w : World) (bs : List (List UInt8)) (n : Nat) (v i : Value) (wr : World) : Prop :=
  ∃ k : Nat, k ≤ n ∧ i = .int .i64 (k : Int) ∧ wr.ownsRow w.heap.size 5 1 v (flatK bs k).length ((flatK bs k).map U) ∧ Below w.heap.size w wr
set_option maxRecDepth 100000 in
set_option maxHeartbeats 400000 in
theorem together_any (A : Option Addr) (n c : Nat) (vs : List Value) (bs : List (List UInt8)) (w : World) (h : RdV w A n vs) (hm : Many w vs bs) (hl : bs.flatten.length ≤ 100000000) (hn : n ≤ 1000000) :
    Calls Tryz.prog 233 #[.slice A n c] w (Put w bs.flatten) := by
  obtain ⟨i0, hi, hz0, hz1, hz2⟩ := info_parts info_byte
  have HI := Lib.hid hi
  have HZ0 := Lib.hid hz0
  have HZ1 := Lib.hid hz1
  have HZ2 := Lib.hid hz2
  clear hi hz0 hz1 hz2
  have HN : Hid (n = bs.length) := by show _ = _; rw [← h.len, hm.len]
  have H := Lib.hid h
  have HM := Lib.hid hm
  have HL := Lib.hid hl
  clear h hm hl
  go_enter Tryz.func233, Tryz.ntmps233
  go_wp2_with fail
  go_loopw [3, 5, 8] (fun v _ i wr => RelTog w bs n v i wr) (fun _ _ i _ => n - (intOf i).toNat)
  case atStart => exact ⟨0, by omega, rfl, own_nil _ _ _, Below.refl _ _⟩
  case round =>
    obtain ⟨k, hk, rfl, hown, hbel⟩ := hrel
    have HO := Lib.hid hown
    have HB := Lib.hid hbel
    clear hown hbel
    by_cases hlt : k < n
    · have hkl : k < bs.length := by have := HN.out; omega
      obtain ⟨A1, n1, c1, hv1, _, hr1⟩ := HM.out.at_ k _ (List.getElem?_eq_getElem hkl)
      obtain ⟨ad, rfl, hc⟩ := (H.out.below HB.out).cells (by omega)
      have hcell := hc k _ hv1
      have HR1 := Lib.hid (hr1.below HB.out)
      have hle := flat_le bs (k + 1)
      have hft := flat_take bs k hkl
      rw [hft, List.length_append] at hle
      have hn1 := hr1.len
      have HF := Lib.hid hft
      have HN1 := Lib.hid hn1
      have HLE : Hid ((flatK bs k).length + n1 ≤ 100000000) := by
        have := HL.out
        show _ ≤ _
        omega
      clear hc hv1 hr1 hle hft hn1
      go_wp2_with (at_builtin; refine wpList_append_Rd rfl (.tmp 12) (.tmp 13) _ rfl ty_bytes HI.out HZ0.out HZ1.out HZ2.out rfl rfl HO.out rfl HR1.out (by have := HLE.out; omega) HB.out.size ?_)
      intro v' w3 hown3 hgr3
      have HO3 : Hid (w3.ownsRow w.heap.size 5 1 v' (flatK bs (k + 1)).length ((flatK bs (k + 1)).map U)) := by
        show World.ownsRow _ _ _ _ _ _ _
        rw [HF.out, List.length_append, HN1.out, List.map_append]
        exact hown3
      have HB3 := Lib.hid (HB.out.grown hgr3 HB.out.size (fun g hg => (HO.out.lt g hg).1))
      clear hown3 hgr3
      go_wp2_with fail
      exact ⟨⟨k + 1, by omega, rfl, HO3.out, HB3.out⟩, by simp [intOf]; omega⟩
    · obtain rfl : k = n := by omega
      have HO3 := HO.out
      rw [flat_all bs k (by have := HN.out; omega)] at HO3
      have HO4 := Lib.hid HO3
      clear HO3
      go_wp2_with fail
      go_ret
      exact Put.of HO4.out HB.out
end Go.Proofs.YtiijclibcfgnpaaGreat.Log

namespace Go.Proofs.YtiijclibcfgnpaaGreat.Log
open Go.RowKit

def m3 : Nat := 71777214294589695
def m4 : Nat := 281470681808895
def rev1 (x : Nat) : Nat := (x / 256 &&& m3) ||| (x &&& m3) * 256
def rev2 (x : Nat) : Nat := (x / 65536 &&& m4) ||| (x &&& m4) * 65536
def rev3 (x : Nat) : Nat := x / 4294967296 ||| x * 4294967296 % 18446744073709551616
def rev (x : Nat) : Nat := rev3 (rev2 (rev1 x))
theorem m3_bit : ∀ j, j < 64 → m3.testBit j = decide (j / 8 % 2 = 0) := by decide
theorem m4_bit : ∀ j, j < 64 → m4.testBit j = decide (j / 16 % 2 = 0) := by decide
theorem bit_mul (x k j : Nat) : (x * 2 ^ k).testBit j = (decide (k ≤ j) && x.testBit (j - k)) := by
  rw [← Nat.shiftLeft_eq, Nat.testBit_shiftLeft]
theorem rev1_bit (x j : Nat) (hj : j < 64) : (rev1 x).testBit j = x.testBit (if j / 8 % 2 = 0 then j + 8 else j - 8) := by
  have e : (rev1 x) = (x / 2 ^ 8 &&& m3) ||| (x &&& m3) * 2 ^ 8 := rfl
  rw [e, Nat.testBit_or, Nat.testBit_and, bit_mul, Nat.testBit_and, Nat.testBit_div_two_pow, m3_bit j hj]
  split
  · next h =>
    have h8 : (decide (8 ≤ j) && (x.testBit (j - 8) && m3.testBit (j - 8))) = false := by
      by_cases h1 : 8 ≤ j
      · rw [m3_bit (j - 8) (by omega), decide_eq_false (p := (j - 8) / 8 % 2 = 0) (by omega), Bool.and_false, Bool.and_false]
      · rw [decide_eq_false h1, Bool.false_and]
    rw [h8, decide_eq_true h, Bool.and_true, Bool.or_false]
  · next h =>
    rw [m3_bit (j - 8) (by omega), decide_eq_false h, Bool.and_false, Bool.false_or, decide_eq_true (p := 8 ≤ j) (by omega), Bool.true_and, decide_eq_true (p := (j - 8) / 8 % 2 = 0) (by omega), Bool.and_true]
theorem rev2_bit (x j : Nat) (hj : j < 64) : (rev2 x).testBit j = x.testBit (if j / 16 % 2 = 0 then j + 16 else j - 16) := by
  have e : (rev2 x) = (x / 2 ^ 16 &&& m4) ||| (x &&& m4) * 2 ^ 16 := rfl
  rw [e, Nat.testBit_or, Nat.testBit_and, bit_mul, Nat.testBit_and, Nat.testBit_div_two_pow, m4_bit j hj]
  split
  · next h =>
    have h8 : (decide (16 ≤ j) && (x.testBit (j - 16) && m4.testBit (j - 16))) = false := by
      by_cases h1 : 16 ≤ j
      · rw [m4_bit (j - 16) (by omega), decide_eq_false (p := (j - 16) / 16 % 2 = 0) (by omega), Bool.and_false, Bool.and_false]
      · rw [decide_eq_false h1, Bool.false_and]
    rw [h8, decide_eq_true h, Bool.and_true, Bool.or_false]
  · next h =>
    rw [m4_bit (j - 16) (by omega), decide_eq_false h, Bool.and_false, Bool.false_or, decide_eq_true (p := 16 ≤ j) (by omega), Bool.true_and, decide_eq_true (p := (j - 16) / 16 % 2 = 0) (by omega), Bool.and_true]
theorem rev3_bit (x j : Nat) (hx : x < 18446744073709551616) (hj : j < 64) : (rev3 x).testBit j = x.testBit (if j < 32 then j + 32 else j - 32) := by
  have e : (rev3 x) = x / 2 ^ 32 ||| x * 2 ^ 32 % 2 ^ 64 := rfl
  rw [e, Nat.testBit_or, Nat.testBit_mod_two_pow, bit_mul, Nat.testBit_div_two_pow, decide_eq_true hj, Bool.true_and]
  split
  · next h => rw [decide_eq_false (p := 32 ≤ j) (by omega), Bool.false_and, Bool.or_false]
  · next h =>
    rw [decide_eq_true (p := 32 ≤ j) (by omega), Bool.true_and, Nat.testBit_lt_two_pow (x := x) (i := j + 32), Bool.false_or]
    exact Nat.lt_of_lt_of_le hx (show 2 ^ 64 ≤ 2 ^ (j + 32) from Nat.pow_le_pow_right (by decide) (by omega))
theorem rev1_lt {x : Nat} (hx : x < 18446744073709551616) : rev1 x < 18446744073709551616 := by
  have h1 : x / 256 &&& m3 < 2 ^ 64 := Nat.lt_of_le_of_lt Nat.and_le_left (by omega)
  have h2 : (x &&& m3) * 256 < 2 ^ 64 := by
    have : x &&& m3 ≤ m3 := Nat.and_le_right
    unfold m3 at this ⊢
    omega
  exact Nat.or_lt_two_pow h1 h2
theorem rev2_lt {x : Nat} (hx : x < 18446744073709551616) : rev2 x < 18446744073709551616 := by
  have h1 : x / 65536 &&& m4 < 2 ^ 64 := Nat.lt_of_le_of_lt Nat.and_le_left (by omega)
  have h2 : (x &&& m4) * 65536 < 2 ^ 64 := by
    have : x &&& m4 ≤ m4 := Nat.and_le_right
    unfold m4 at this ⊢
    omega
  exact Nat.or_lt_two_pow h1 h2
theorem rev3_lt {x : Nat} (hx : x < 18446744073709551616) : rev3 x < 18446744073709551616 :=
  Nat.or_lt_two_pow (n := 64) (by omega) (Nat.mod_lt _ (by decide))
theorem rev_lt {x : Nat} (hx : x < 18446744073709551616) : rev x < 18446744073709551616 := rev3_lt (rev2_lt (rev1_lt hx))
theorem rev_bit (x j : Nat) (hx : x < 18446744073709551616) (hj : j < 64) : (rev x).testBit j = x.testBit (56 - 8 * (j / 8) + j % 8) := by
  unfold rev
  rw [rev3_bit _ j (rev2_lt (rev1_lt hx)) hj, rev2_bit _ _ (by split <;> omega), rev1_bit _ _ (by split <;> split <;> omega)]
  congr 1
  split <;> split <;> split <;> omega
theorem rev_byte (x i : Nat) (hx : x < 18446744073709551616) (hi : i < 8) : rev x / 256 ^ i % 256 = x / 256 ^ (7 - i) % 256 := by
  have p : ∀ k, 256 ^ k = 2 ^ (8 * k) := fun k => by rw [Nat.pow_mul]
  refine Nat.eq_of_testBit_eq fun k => ?_
  rw [p, p, show (256 : Nat) = 2 ^ 8 from rfl, Nat.testBit_mod_two_pow, Nat.testBit_mod_two_pow, Nat.testBit_div_two_pow, Nat.testBit_div_two_pow]
  by_cases hk : k < 8
  · rw [rev_bit x _ hx (by omega)]
    congr 2
    omega
  · rw [decide_eq_false hk, Bool.false_and, Bool.false_and]
theorem be_rev {x : Nat} (hx : x < 18446744073709551616) : be 8 (rev x) = (be 8 x).reverse := by
  have h : ∀ i, i < 8 → UInt8.ofNat (rev x / 256 ^ i) = UInt8.ofNat (x / 256 ^ (7 - i)) := fun i hi => by
    apply UInt8.toNat_inj.1
    rw [UInt8.toNat_ofNat', UInt8.toNat_ofNat']
    exact rev_byte x i hx hi
  simp only [be]
  rw [h 7 (by decide), h 6 (by decide), h 5 (by decide), h 4 (by decide), h 3 (by decide), h 2 (by decide), h 1 (by decide), h 0 (by decide)]
  rfl
end Go.Proofs.YtiijclibcfgnpaaGreat.Log

namespace Go.Proofs.YtiijclibcfgnpaaGreat.Log
open Go.RowKit Disk

theorem rev_steps (x : Nat) (hx : x < 18446744073709551616) : ∃ a b c y a2 b2 c2 y2 c3 z : Nat,
    bits .and .u64 ((x : Int) / 256) 71777214294589695 = (a : Int) ∧ bits .and .u64 (x : Int) 71777214294589695 = (b : Int) ∧ IntKind.u64.wrap ((b : Int) * 256) = (c : Int) ∧ bits .or .u64 (a : Int) (c : Int) = (y : Int) ∧
    bits .and .u64 ((y : Int) / 65536) 281470681808895 = (a2 : Int) ∧ bits .and .u64 (y : Int) 281470681808895 = (b2 : Int) ∧ IntKind.u64.wrap ((b2 : Int) * 65536) = (c2 : Int) ∧ bits .or .u64 (a2 : Int) (c2 : Int) = (y2 : Int) ∧
    IntKind.u64.wrap ((y2 : Int) * 4294967296) = (c3 : Int) ∧ bits .or .u64 ((y2 : Int) / 4294967296) (c3 : Int) = (z : Int) ∧ z = rev x := by
  have h1 := rev1_lt hx
  have h2 := rev2_lt h1
  have l1 : x &&& m3 ≤ 71777214294589695 := Nat.and_le_right
  have l2 : rev1 x &&& m4 ≤ 281470681808895 := Nat.and_le_right
  have d1 : ((x / 256 : Nat) : Int) = (x : Int) / 256 := by omega
  have d2 : ((rev1 x / 65536 : Nat) : Int) = (rev1 x : Int) / 65536 := by omega
  have d3 : ((rev2 (rev1 x) / 4294967296 : Nat) : Int) = (rev2 (rev1 x) : Int) / 4294967296 := by omega
  refine ⟨x / 256 &&& m3, x &&& m3, (x &&& m3) * 256, rev1 x, rev1 x / 65536 &&& m4, rev1 x &&& m4, (rev1 x &&& m4) * 65536, rev2 (rev1 x), rev2 (rev1 x) * 4294967296 % 18446744073709551616, rev x, ?_, ?_, ?_, ?_, ?_, ?_, ?_, ?_, ?_, ?_, rfl⟩
  · rw [← d1]; exact u64_and_nat _ m3 (by omega) (by decide)
  · exact u64_and_nat _ m3 (by omega) (by decide)
  · rw [IntKind.wrap_u64]; omega
  · exact u64_or_nat _ _ (by have : x / 256 &&& m3 ≤ x / 256 := Nat.and_le_left; omega) (by omega)
  · rw [← d2]; exact u64_and_nat _ m4 (by omega) (by decide)
  · exact u64_and_nat _ m4 (by omega) (by decide)
  · rw [IntKind.wrap_u64]; omega
  · exact u64_or_nat _ _ (by have : rev1 x / 65536 &&& m4 ≤ rev1 x / 65536 := Nat.and_le_left; omega) (by omega)
  · rw [IntKind.wrap_u64]; omega
  · rw [← d3]; exact u64_or_nat _ _ (by omega) (by omega)
theorem rev_any (x : Nat) (hx : x < 18446744073709551616) (w : World) : Calls Tryz.prog 235 #[.int .u64 (x : Int)] w (Ans (.int .u64 (rev x : Nat)) w) := by
  obtain ⟨a, b, c, y, a2, b2, c2, y2, c3, z, e1, e2, e3, e4, e5, e6, e7, e8, e9, e10, hz⟩ := rev_steps x hx
  have HZ := Lib.hid hz
  clear hz
  go_enter Tryz.func235, Tryz.ntmps235
  go_wp2_with fail
  go_ret
  rw [← HZ.out]
  exact ⟨rfl, rfl⟩
set_option maxRecDepth 100000 in
theorem putTwo_any (x : Nat) (hx : x < 65536) (w : World) : Calls Tryz.prog 234 #[.int .u16 (x : Int)] w (Put w (be 2 x)) := by
  have HP : Hid (Put w (be 2 x) (.returned (.slice (some ⟨w.heap.size, 0, none⟩) 2 2)) (w.alloc (.cells #[.int .u8 ((x : Int) / 256), .int .u8 ((x : Int) % 256)] 5))) := by
    have e1 : Value.int .u8 ((x : Int) / 256) = U (UInt8.ofNat (x / 256)) := by
      unfold U
      rw [UInt8.toNat_ofNat', Nat.mod_eq_of_lt (by omega)]
      congr 1
    have e2 : Value.int .u8 ((x : Int) % 256) = U (UInt8.ofNat x) := by
      unfold U
      rw [UInt8.toNat_ofNat']
      congr 1
    rw [e1, e2]
    refine ⟨_, 2, 2, rfl, rfl, Nat.le_refl _, ?_, (Below.refl _ _).alloc (Nat.le_refl _) _⟩
    have := World.ownsRow_lit (base := w.heap.size) (e := 5) (size := 1) w #[U (UInt8.ofNat (x / 256)), U (UInt8.ofNat x)] 2 (Nat.le_refl _) (by unfold maxLen; omega) (by simp)
    simpa [be] using this
  go_enter Tryz.func234, Tryz.ntmps234
  go_wp2_with fail
  go_ret
  exact HP.out
set_option maxRecDepth 100000 in
theorem pieces_any (x : Nat) (hx : x < 100000000) (w : World) : Calls Tryz.prog 229 #[.int .i64 (x : Int)] w (Ans (.int .i64 (manyOf x : Nat)) w) := by
  have HP : Hid (Ans (.int .i64 (manyOf x : Nat)) w (.returned (.int .i64 (max 1 (((x : Int) + 480 - 1) / 480)))) w) := by
    refine ⟨?_, rfl⟩
    unfold manyOf
    congr 2
    omega
  go_enter Tryz.func229, Tryz.ntmps229
  go_wp2_with fail
  go_ret
  exact HP.out
end Go.Proofs.YtiijclibcfgnpaaGreat.Log
