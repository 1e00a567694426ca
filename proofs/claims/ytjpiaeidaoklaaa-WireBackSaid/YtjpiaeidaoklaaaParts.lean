/- Parts: what WireBack puts and reads. -/
import Derived.Test.YtjpiaeidaoklaaaAsks
import Derived.Deep.RegionWith
import Derived.Deep.Draws
import Derived.Deep.QuietTactic
import Derived.BigQuiet
import Derived.Deep.Fields
namespace Go.Proofs.Ytjpiaeidaoklaaa
open Go.ChangeShapes Go.WideShapes Go.ChangeAt Go.RowKit

/-- A part: what to do, the number, the text. -/
structure Prt where
  d : Nat
  v : Nat
  s : List UInt8

/-- The bytes that a part is put as. -/
def Prt.enc (p : Prt) : List UInt8 :=
  if p.d % 4 = 0 then be 1 (p.v % 256) else if p.d % 4 = 1 then be 8 p.v else if p.d % 4 = 2 then be 8 p.v else be 4 p.s.length ++ p.s

/-- Reading a part: was it read as it is, and the reader's state behind it. -/
def Prt.got (p : Prt) (s : List UInt8 × Bool) : Bool × (List UInt8 × Bool) :=
  if p.d % 4 = 0 then (decide (val (takeS 1 s).1 = p.v % 256), (takeS 1 s).2)
  else if p.d % 4 = 1 then (decide (val (takeS 8 s).1 = p.v), (takeS 8 s).2)
  else if p.d % 4 = 2 then (decide (wrap64 (val (takeS 8 s).1 : Int) = wrap64 (p.v : Int)), (takeS 8 s).2)
  else (decide ((textS s).1 = p.s), (textS s).2)

set_option maxHeartbeats 1000000 in
theorem put_any (A A2 : Option Addr) (n c n2 c2 : Nat) (bs : List UInt8) (p : Prt) (w : World) (h : Rd w A n bs) (h2 : Rd w A2 n2 p.s) (hd : p.d < 256) (hv : p.v < 18446744073709551616) (hn : n ≤ 100000000) (hn2 : n2 ≤ 100000000) :
    Calls Try.prog 19 #[.slice A n c, .agg #[.int .u8 p.d, .int .u64 p.v, .slice A2 n2 c2]] w (Put w (bs ++ p.enc)) := by
  obtain ⟨d, v, ss⟩ := p
  simp only at h2 hd hv
  have H := Lib.hid h
  have H2 := Lib.hid h2
  clear h h2
  have Bx := Lib.hid ((Below.refl w.heap.size w).alloc (Nat.le_refl _) (.cells #[.int .u8 d, .int .u64 v, .slice A2 n2 c2] 44))
  by_cases h0 : d % 4 = 0
  · have HE : Hid (Prt.enc ⟨d, v, ss⟩ = be 1 (v % 256)) := by unfold Prt.enc; rw [if_pos h0]; rfl
    have t0 : ((d : Int) % 4 == 0) = true := beq_iff_eq.2 (by omega)
    clear h0
    go_enter Try.func19, Try.ntmps19
    go_wp2_with fail
    refine (Byte_any A n c (v % 256) _ bs _ (H.out.below ((Below.refl _ _).alloc (Nat.le_refl _) _)) (by omega) (by omega) (by omega)).mono ?_
    rintro e w1 ⟨A1, n1, c1, rfl, hl, hc, hown, hb⟩
    have HL := Lib.hid hl
    have HO := Lib.hid (own_base hown Bx.out.size)
    have HB := Lib.hid (Bx.out.trans (hb.mono Bx.out.size))
    clear hl hown hb
    go_wp2_with fail
    go_ret
    rw [HE.out]
    exact ⟨A1, n1, c1, rfl, HL.out, hc, HO.out, HB.out⟩
  · have t0 : ((d : Int) % 4 == 0) = false := beq_eq_false_iff_ne.2 (by omega)
    by_cases h1 : d % 4 = 1
    · have HE : Hid (Prt.enc ⟨d, v, ss⟩ = be 8 v) := by unfold Prt.enc; rw [if_neg h0, if_pos h1]; rfl
      have t1 : ((d : Int) % 4 == 1) = true := beq_iff_eq.2 (by omega)
      clear h0 h1
      go_enter Try.func19, Try.ntmps19
      go_wp2_with fail
      refine (Uint_any A n c v _ bs _ (H.out.below ((Below.refl _ _).alloc (Nat.le_refl _) _)) rfl hv (by omega)).mono ?_
      rintro e w1 ⟨A1, n1, c1, rfl, hl, hc, hown, hb⟩
      have HL := Lib.hid hl
      have HO := Lib.hid (own_base hown Bx.out.size)
      have HB := Lib.hid (Bx.out.trans (hb.mono Bx.out.size))
      clear hl hown hb
      go_wp2_with fail
      go_ret
      rw [HE.out]
      exact ⟨A1, n1, c1, rfl, HL.out, hc, HO.out, HB.out⟩
    · have t1 : ((d : Int) % 4 == 1) = false := beq_eq_false_iff_ne.2 (by omega)
      by_cases h2 : d % 4 = 2
      · have HE : Hid (Prt.enc ⟨d, v, ss⟩ = be 8 v) := by unfold Prt.enc; rw [if_neg h0, if_neg h1, if_pos h2]; rfl
        have t2 : ((d : Int) % 4 == 2) = true := beq_iff_eq.2 (by omega)
        clear h0 h1 h2
        go_enter Try.func19, Try.ntmps19
        go_wp2_with fail
        refine (Int_any A n c v _ bs _ (H.out.below ((Below.refl _ _).alloc (Nat.le_refl _) _)) (wrap_wrap64 v hv) hv (by omega)).mono ?_
        rintro e w1 ⟨A1, n1, c1, rfl, hl, hc, hown, hb⟩
        have HL := Lib.hid hl
        have HO := Lib.hid (own_base hown Bx.out.size)
        have HB := Lib.hid (Bx.out.trans (hb.mono Bx.out.size))
        clear hl hown hb
        go_wp2_with fail
        go_ret
        rw [HE.out]
        exact ⟨A1, n1, c1, rfl, HL.out, hc, HO.out, HB.out⟩
      · have t2 : ((d : Int) % 4 == 2) = false := beq_eq_false_iff_ne.2 (by omega)
        have HE : Hid (Prt.enc ⟨d, v, ss⟩ = be 4 n2 ++ ss) := by unfold Prt.enc; rw [if_neg h0, if_neg h1, if_neg h2, ← H2.out.len]; rfl
        clear h0 h1 h2
        go_enter Try.func19, Try.ntmps19
        go_wp2_with fail
        refine (Text_any A A2 n c n2 c2 bs ss _ (H.out.below ((Below.refl _ _).alloc (Nat.le_refl _) _)) (H2.out.below ((Below.refl _ _).alloc (Nat.le_refl _) _)) (by omega) (by omega)).mono ?_
        rintro e w1 ⟨A1, n1, c1, rfl, hl, hc, hown, hb⟩
        have HL := Lib.hid hl
        have HO := Lib.hid (own_base hown Bx.out.size)
        have HB := Lib.hid (Bx.out.trans (hb.mono Bx.out.size))
        clear hl hown hb
        go_wp2_with fail
        go_ret
        rw [HE.out]
        exact ⟨A1, n1, c1, rfl, HL.out, hc, HO.out, HB.out⟩

/-- What a reading of a part leaves. -/
def Got (w : World) (r : Nat) (x : Bool × (List UInt8 × Bool)) (e : Ending) (w' : World) : Prop := e = .returned (.bool x.1) ∧ Rdr w' r x.2 ∧ w.grownBy w' (some r)

theorem Rdr.drewN {w : World} {r : Nat} {s : List UInt8 × Bool} (h : Rdr w r s) (q : Nat) : Rdr (w.drewN q) r s := by
  obtain ⟨A, n, c, h1, h2, h3, h4⟩ := h
  exact ⟨A, n, c, h1, h2, h3, h4.keep fun _ _ hp => hp⟩
theorem Rdr.drew {w : World} {r : Nat} {s : List UInt8 × Bool} (h : Rdr w r s) : Rdr w.drew r s := by
  obtain ⟨A, n, c, h1, h2, h3, h4⟩ := h
  exact ⟨A, n, c, h1, h2, h3, h4.keep fun _ _ hp => hp⟩
theorem Bk.grown {w w' : World} {g : Nat} {t : TypeId} {cs : Array Value} {row : Option Nat} (h : Bk w g t cs) (hg : w.grownBy w' row) (hne : some g ≠ row) : Bk w' g t cs := h.kept (hg.block g h.lt hne)
theorem Bk.drew {w : World} {g : Nat} {t : TypeId} {cs : Array Value} (h : Bk w g t cs) : Bk w.drew g t cs := h
theorem Rdr.lt {w : World} {r : Nat} {s : List UInt8 × Bool} (h : Rdr w r s) : r < w.heap.size := by
  obtain ⟨A, n, c, h1, _⟩ := h
  exact h1.lt
theorem Rd.drew {w : World} {A : Option Addr} {n : Nat} {bs : List UInt8} (h : Rd w A n bs) : Rd w.drew A n bs := h.keep fun _ _ hp => hp
theorem grown_drew {w w' : World} {row : Option Nat} (h : w.grownBy w' row) : w.grownBy w'.drew row := ⟨h.os, h.tape, h.output, h.size, h.block⟩

theorem ret_bool {a b : Bool} (h : a = b) : Ending.returned (.bool a) = .returned (.bool b) := by rw [h]
theorem eq_u8 (a v : Nat) : ((a : Int) == IntKind.u8.wrap (v : Int)) = decide (a = v % 256) := by
  have : IntKind.u8.wrap (v : Int) = ((v % 256 : Nat) : Int) := by simp [IntKind.wrap, IntKind.bits, IntKind.signed]
  rw [this, Bool.eq_iff_iff]
  simp
  omega
theorem grown_back {w w1 : World} {r : Nat} {o : Obj} (h : (w.alloc o).drew.grownBy w1 (some r)) : w.grownBy w1 (some r) :=
  ⟨h.os, h.tape, h.output, Nat.le_trans (by simp) h.size, fun k hk hne => (h.block k (by simp; omega) hne).trans (Below.heap_alloc w o k hk)⟩

set_option maxHeartbeats 1000000 in
theorem got_any (r : Nat) (A2 : Option Addr) (n2 c2 : Nat) (s : List UInt8 × Bool) (p : Prt) (w : World) (h : Rdr w r s) (h2 : Rd w A2 n2 p.s) (hd : p.d < 256) (hv : p.v < 18446744073709551616) :
    Calls Try.prog 20 #[.pointer (some ⟨r, 0, none⟩), .agg #[.int .u8 p.d, .int .u64 p.v, .slice A2 n2 c2]] w (Got w r (p.got s)) := by
  obtain ⟨d, v, ss⟩ := p
  simp only at h2 hd hv
  have H := Lib.hid h
  have H2 := Lib.hid h2
  have hrl := h.lt
  clear h h2
  have Bx := Lib.hid ((Below.refl w.heap.size w).alloc (Nat.le_refl _) (.cells #[.int .u8 d, .int .u64 v, .slice A2 n2 c2] 44))
  by_cases h0 : d % 4 = 0
  · have HE : Hid (Prt.got ⟨d, v, ss⟩ s = (decide (val (takeS 1 s).1 = v % 256), (takeS 1 s).2)) := by unfold Prt.got; rw [if_pos h0]; rfl
    have t0 : ((d : Int) % 4 == 0) = true := beq_iff_eq.2 (by omega)
    clear h0
    go_enter Try.func20, Try.ntmps20
    go_wp2_with fail
    go_region_with (first
      | (go_at_call 23; refine (rByte_any r s _ ?_).mono ?_; exact (H.out.below Bx.out).drew; rintro e w1 ⟨rfl, hR, hg⟩; have HR := Lib.hid hR; have HG := Lib.hid hg; have hc1 := ((Bk.new w 44 _).drew.grown hg (by simp; omega)).cell 1; simp at hc1; clear hR hg))
    all_goals
      go_wp2_with fail
      go_ret
      rw [HE.out]
      refine ⟨?_, HR.out, grown_back HG.out⟩
      exact ret_bool (eq_u8 _ _)
  · have t0 : ((d : Int) % 4 == 0) = false := beq_eq_false_iff_ne.2 (by omega)
    by_cases h1 : d % 4 = 1
    · have HE : Hid (Prt.got ⟨d, v, ss⟩ s = (decide (val (takeS 8 s).1 = v), (takeS 8 s).2)) := by unfold Prt.got; rw [if_neg h0, if_pos h1]; rfl
      have t1 : ((d : Int) % 4 == 1) = true := beq_iff_eq.2 (by omega)
      clear h0 h1
      go_enter Try.func20, Try.ntmps20
      go_wp2_with fail
      go_region_with (first
        | (go_at_call 24; refine (rUint_any r s _ ?_).mono ?_; exact (H.out.below Bx.out).drew; rintro e w1 ⟨rfl, hR, hg⟩; have HR := Lib.hid hR; have HG := Lib.hid hg; have hc1 := ((Bk.new w 44 _).drew.grown hg (by simp; omega)).cell 1; simp at hc1; clear hR hg))
      all_goals
        go_wp2_with fail
        go_ret
        rw [HE.out]
        refine ⟨?_, HR.out, grown_back HG.out⟩
        exact ret_bool (by rw [Bool.eq_iff_iff]; simp; omega)
    · have t1 : ((d : Int) % 4 == 1) = false := beq_eq_false_iff_ne.2 (by omega)
      by_cases h2 : d % 4 = 2
      · have HE : Hid (Prt.got ⟨d, v, ss⟩ s = (decide (wrap64 (val (takeS 8 s).1 : Int) = wrap64 (v : Int)), (takeS 8 s).2)) := by unfold Prt.got; rw [if_neg h0, if_neg h1, if_pos h2]; rfl
        have t2 : ((d : Int) % 4 == 2) = true := beq_iff_eq.2 (by omega)
        clear h0 h1 h2
        go_enter Try.func20, Try.ntmps20
        go_wp2_with fail
        go_region_with (first
          | (go_at_call 25; refine (rInt_any r s _ ?_).mono ?_; exact (H.out.below Bx.out).drew; rintro e w1 ⟨rfl, hR, hg⟩; have HR := Lib.hid hR; have HG := Lib.hid hg; have hc1 := ((Bk.new w 44 _).drew.grown hg (by simp; omega)).cell 1; simp at hc1; clear hR hg))
        all_goals
          go_wp2_with fail
          go_ret
          rw [HE.out]
          refine ⟨?_, HR.out, grown_back HG.out⟩
          exact ret_bool (by rw [Bool.eq_iff_iff]; simp [IntWalk.i64_left])
      · have t2 : ((d : Int) % 4 == 2) = false := beq_eq_false_iff_ne.2 (by omega)
        have HE : Hid (Prt.got ⟨d, v, ss⟩ s = (decide ((textS s).1 = ss), (textS s).2)) := by unfold Prt.got; rw [if_neg h0, if_neg h1, if_neg h2]; rfl
        clear h0 h1 h2
        have sA : (convert 22 9 (.slice A2 n2 c2)).run Try.prog (w.alloc (.cells #[.int .u8 d, .int .u64 v, .slice A2 n2 c2] 44)).drew = .ok (.string (S ss)) (w.alloc (.cells #[.int .u8 d, .int .u64 v, .slice A2 n2 c2] 44)).drew := conv_string (H2.out.below Bx.out).drew c2
        go_enter Try.func20, Try.ntmps20
        go_wp2_with fail
        go_region_with (first
          | (go_at_call 26; refine (rText_any r s _ ?_).mono ?_; exact (H.out.below Bx.out).drew; rintro e w1 ⟨A5, n5, c5, rfl, hown, hR, hg⟩; have HR := Lib.hid hR; have HG := Lib.hid hg; have hc1 := ((Bk.new w 44 _).drew.grown hg (by simp; omega)).cell 2; simp at hc1; have sB := conv_string (Rd.of_own hown).1 c5; have sC := conv_string ((H.out.below Bx.out).drew.rd (H2.out.below Bx.out).drew hg) c2; clear hR hg hown))
        all_goals
          go_wp2_with fail
          go_ret
          rw [HE.out]
          refine ⟨?_, HR.out, grown_back HG.out⟩
          exact ret_bool (by rw [Bool.eq_iff_iff]; simp [S])

/-- The slice '.slice A n c' reads as these parts. -/
structure PartRd (w : World) (A : Option Addr) (n : Nat) (l : List Prt) : Prop where
  len : l.length = n
  cells : ∀ j p, l[j]? = some p → p.d < 256 ∧ p.v < 18446744073709551616 ∧ ∃ b off A' n' c', A = some ⟨b, off, none⟩ ∧ n' ≤ c' ∧ w.cell? ⟨b, off + j * 3, none⟩ = some (.int .u8 p.d) ∧
    w.cell? ⟨b, off + j * 3 + 1, none⟩ = some (.int .u64 p.v) ∧ w.cell? ⟨b, off + j * 3 + 2, none⟩ = some (.slice A' n' c') ∧ Rd w A' n' p.s

theorem PartRd.below {w w' : World} {A : Option Addr} {n : Nat} {l : List Prt} (h : PartRd w A n l) (hb : Below w.heap.size w w') : PartRd w' A n l :=
  ⟨h.len, fun j p hp => by
    obtain ⟨h1, h2, b, off, A', n', c', e, hc, h3, h4, h5, h6⟩ := h.cells j p hp
    exact ⟨h1, h2, b, off, A', n', c', e, hc, (hb.cell (World.block_lt_of_cell? w _ h3)).trans h3, (hb.cell (World.block_lt_of_cell? w _ h4)).trans h4, (hb.cell (World.block_lt_of_cell? w _ h5)).trans h5, h6.below hb⟩⟩

theorem ty_parts : Try.prog.underlying 42 = some (.slice 44) := by kernel_rfl
theorem cells_part : Try.prog.cellsOf 44 = 3 := by kernel_rfl
theorem cells_u64 : Try.prog.cellsOf 23 = 1 := by kernel_rfl
theorem cells_bytes : Try.prog.cellsOf 22 = 1 := by kernel_rfl

section
variable {H : Type} {enc : TypeId × Value → H}

theorem choose_list {α : Type} {n : Nat} {Q : Nat → α → Prop} (h : ∀ j, j < n → ∃ a, Q j a) : ∃ l : List α, l.length = n ∧ ∀ j a, l[j]? = some a → Q j a := by
  induction n with
  | zero => exact ⟨[], rfl, fun j a h => by simp at h⟩
  | succ n ih =>
    obtain ⟨l, hl, hq⟩ := ih (fun j hj => h j (by omega))
    obtain ⟨a, ha⟩ := h n (by omega)
    refine ⟨l ++ [a], by simp [hl], fun j x hx => ?_⟩
    rcases Nat.lt_or_ge j n with hj | hj
    · rw [List.getElem?_append_left (by omega)] at hx
      exact hq j x hx
    · have : j = n := by
        have := (List.getElem?_eq_some_iff.1 hx).1
        simp at this
        omega
      subst this
      rw [List.getElem?_append_right (by omega), hl] at hx
      simp at hx
      subst hx
      exact ha

/-- The bytes of a slice that lies in a cell. -/
theorem open_bytes_cell {P : Program} {t e : TypeId} (ht : P.underlying t = some (.slice e)) (he : P.underlying e = some (.int .u8)) (hc : P.cellsOf e = 1) {w : World} {base : Nat} {spare : Nat → Bool} {held : Bool} {fuel : Nat} {v : Value} {y : DataW H × List MemPlace}
    (h : DataW.trod enc P w base spare held fuel t [v] = some y) : ∃ A n c bs, v = .slice A n c ∧ n ≤ c ∧ Rd w A n bs := by
  rcases open_ints ht he hc h with ⟨hcs, _⟩ | ⟨a, len, cap, zs, hcs, _, hl, hm, hz, _, hcell, hwf⟩
  · injection hcs with hcs
    subst hcs
    exact ⟨none, 0, 0, [], rfl, Nat.le_refl _, Rd.nil_ _ _⟩
  · injection hcs with hcs
    subst hcs
    have hzl : len ≤ zs.length := by rw [hz]; split <;> omega
    refine ⟨some a, len, cap, (zs.take len).map (fun z => UInt8.ofNat z.toNat), rfl, hl, ⟨by simp; omega, fun _ => ⟨a, rfl, fun j b hb => ?_⟩⟩⟩
    rw [List.getElem?_map, List.getElem?_take] at hb
    split at hb
    · next hj =>
      have hjl : j < zs.length := by omega
      rw [List.getElem?_eq_getElem hjl] at hb
      injection hb with hb
      rw [hcell j hjl, ← hb]
      have hw := hwf zs[j] (List.getElem_mem hjl)
      simp [Lit.wf, IntKind.min, IntKind.max, IntKind.signed, IntKind.bits] at hw
      unfold U
      congr 2
      rw [List.getD_eq_getElem?_getD, List.getElem?_eq_getElem hjl]
      simp
      omega
    · cases hb

theorem open_parts {w : World} {base b0 : Nat} {r : Reach} {spare : Nat → Bool} {held : Bool} {v : Value} {d : DataW H} {ps : List MemPlace}
    (hv : Value.okWide Try.prog w r b0 42 v) (h : DataW.Trod enc Try.prog w base spare held 42 v d ps) : ∃ A n c l, v = .slice A n c ∧ n ≤ c ∧ c ≤ maxLen ∧ PartRd w A n l := by
  obtain ⟨A, n, c, rfl⟩ := okWide_slice ty_parts hv
  obtain ⟨fuel, h⟩ := h
  rcases Go.Deep.open_slice ty_parts h with ⟨hcs, _⟩ | ⟨a, len, cap, m, k, D, Pl, hcs, _, hl, hm, hmm, _, hx⟩
  · simp [Value.cells] at hcs
    obtain ⟨rfl, rfl, rfl⟩ := hcs
    exact ⟨none, 0, 0, [], rfl, Nat.le_refl _, Nat.zero_le _, ⟨rfl, fun j a ha => by simp at ha⟩⟩
  · simp [Value.cells] at hcs
    obtain ⟨rfl, rfl, rfl⟩ := hcs
    have hml : n ≤ m := by rw [hmm]; split <;> omega
    have each : ∀ j, j < n → ∃ p : Prt, p.d < 256 ∧ p.v < 18446744073709551616 ∧ ∃ A' n' c', n' ≤ c' ∧ w.cell? (a.add (j * 3)) = some (.int .u8 p.d) ∧ w.cell? (a.add (j * 3 + 1)) = some (.int .u64 p.v) ∧ w.cell? (a.add (j * 3 + 2)) = some (.slice A' n' c') ∧ Rd w A' n' p.s := by
      intro j hj
      obtain ⟨cs', h1, h2⟩ := hx j (by omega)
      rw [cells_part] at h1
      obtain ⟨_, hlen, hcell⟩ := World.cells?_some h1
      obtain ⟨xs, k', hk, hxy, _, hxl, hf⟩ := DataW.trod_struct Try.underlying44 h2
      match cs', hlen, xs, hxl with
      | [v0, v1, v2], _, [y0, y1, y2], _ =>
        have e0 := hcell 0 (by omega)
        have e1 := hcell 1 (by omega)
        have e2 := hcell 2 (by omega)
        rw [Go.Deep.add_add] at e0 e1 e2
        have g0 := hf 0 _ rfl
        have g1 := hf 1 _ rfl
        have g2 := hf 2 _ rfl
        simp [cells_byte, cells_u64, cells_bytes] at g0 g1 g2 e0 e1 e2
        obtain ⟨z0, q0, _, w0⟩ := DataW.trod_int ty_byte g0
        obtain ⟨z1, q1, _, w1⟩ := DataW.trod_int ty_u64 g1
        obtain ⟨A', n', c', bs, q2, hc', hr⟩ := open_bytes_cell ty_bytes ty_byte cells_byte g2
        injection q0 with q0
        injection q1 with q1
        subst q0 q1 q2
        simp [Lit.wf, IntKind.min, IntKind.max, IntKind.signed, IntKind.bits] at w0 w1
        obtain ⟨z0, rfl⟩ := Int.eq_ofNat_of_zero_le w0.1
        obtain ⟨z1, rfl⟩ := Int.eq_ofNat_of_zero_le w1.1
        exact ⟨⟨z0, z1, bs⟩, by simp only; omega, by simp only; omega, A', n', c', hc', e0, e1, e2, hr⟩
    obtain ⟨l, hl1, hl2⟩ := choose_list each
    refine ⟨some a, n, c, l, rfl, hl, hm, ⟨hl1, fun j p hp => ?_⟩⟩
    obtain ⟨p1, p2, A', n', c', hc', h3, h4, h5, h6⟩ := hl2 j p hp
    have hn0 : 0 < n := by
      have := (List.getElem?_eq_some_iff.1 hp).1
      omega
    obtain ⟨_, _, _, _, _, _, _, h00, _⟩ := each 0 hn0
    have hpl : a = ⟨a.block, a.off, none⟩ := addr_plain (by simpa [Addr.add] using h00)
    rw [hpl, add_plain'] at h3 h4 h5
    exact ⟨p1, p2, a.block, a.off, A', n', c', congrArg some hpl, hc', h3, h4, h5, h6⟩
end
end Go.Proofs.Ytjpiaeidaoklaaa
