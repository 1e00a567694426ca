/- asked: one ask of a reader and of the document's own: alike, and both go on alike. -/
import Derived.Test.YtjpiaeidaoklaaaRef
import Derived.Deep.RegionWith
import Derived.Deep.Draws
namespace Go.Proofs.Ytjpiaeidaoklaaa
open Go.RowKit

theorem Bk.grown' {w w' : World} {g : Nat} {t : TypeId} {cs : Array Value} {row : Option Nat} (h : Bk w g t cs) (hg : w.grownBy w' row) (hne : some g ≠ row) : Bk w' g t cs := h.kept (hg.block g h.lt hne)

theorem rdr_ref_ne {w : World} {r q : Nat} {s s' : List UInt8 × Bool} (h : Rdr w r s) (h' : Ref w q s') : r ≠ q := by
  rintro rfl
  obtain ⟨A, n, c, h1, _⟩ := h
  obtain ⟨A', n', c', p', b', h2, _⟩ := h'
  unfold Bk at h1 h2
  rw [h1] at h2
  injection h2 with h2
  injection h2 with _ ht
  exact absurd ht (by decide)

theorem Ref.other {w w' : World} {r q : Nat} {s s' : List UInt8 × Bool} (h : Ref w q s) (h' : Rdr w r s') (hg : w.grownBy w' (some r)) : Ref w' q s := by
  have hne := rdr_ref_ne h' h
  obtain ⟨A, n, c, p, b, h1, h2, h3, h4, h5, h6⟩ := h
  exact ⟨A, n, c, p, b, h1.grown' hg (fun e => hne (by injection e with e; exact e.symm)), h2, h3, h4, h'.rd h5 hg, h6⟩
theorem Ref.rd {w w' : World} {q : Nat} {s : List UInt8 × Bool} (h : Ref w q s) {A : Option Addr} {n : Nat} {bs : List UInt8} (hr : Rd w A n bs) (hg : w.grownBy w' (some q)) : Rd w' A n bs := by
  obtain ⟨A', n', c', p, b, h1, _⟩ := h
  exact Rd.grown h1 (ref_nobyte _ _ _ _ _) hr hg
theorem Rdr.otherRef {w w' : World} {r q : Nat} {s s' : List UInt8 × Bool} (h : Rdr w r s) (h' : Ref w q s') (hg : w.grownBy w' (some q)) : Rdr w' r s := by
  have hne := rdr_ref_ne h h'
  obtain ⟨A, n, c, h1, h2, h3, h4⟩ := h
  exact ⟨A, n, c, h1.grown' hg (fun e => hne (by injection e)), h2, h3, h'.rd h4 hg⟩
theorem Rdr.drewN' {w : World} {r : Nat} {s : List UInt8 × Bool} (h : Rdr w r s) (q : Nat) : Rdr (w.drewN q) r s := by
  obtain ⟨A, n, c, h1, h2, h3, h4⟩ := h
  exact ⟨A, n, c, h1, h2, h3, rd_drewN' h4 q⟩
theorem Ref.drewN' {w : World} {r : Nat} {s : List UInt8 × Bool} (h : Ref w r s) (q : Nat) : Ref (w.drewN q) r s := by
  obtain ⟨A, n, c, p, b, h1, h2, h3, h4, h5, h6⟩ := h
  exact ⟨A, n, c, p, b, h1, h2, h3, h4, rd_drewN' h5 q, h6⟩
theorem Rdr.drew' {w : World} {r : Nat} {s : List UInt8 × Bool} (h : Rdr w r s) : Rdr w.drew r s := by
  obtain ⟨A, n, c, h1, h2, h3, h4⟩ := h
  exact ⟨A, n, c, h1, h2, h3, h4.keep fun _ _ hp => hp⟩
theorem Ref.drew' {w : World} {r : Nat} {s : List UInt8 × Bool} (h : Ref w r s) : Ref w.drew r s := by
  obtain ⟨A, n, c, p, b, h1, h2, h3, h4, h5, h6⟩ := h
  exact ⟨A, n, c, p, b, h1, h2, h3, h4, h5.keep fun _ _ hp => hp, h6⟩
theorem Ref.below {w w' : World} {r : Nat} {s : List UInt8 × Bool} (h : Ref w r s) (hb : Below w.heap.size w w') : Ref w' r s := by
  obtain ⟨A, n, c, p, b, h1, h2, h3, h4, h5, h6⟩ := h
  exact ⟨A, n, c, p, b, h1.below hb, h2, h3, h4, h5.below hb, h6⟩
theorem Ref.lt {w : World} {r : Nat} {s : List UInt8 × Bool} (h : Ref w r s) : r < w.heap.size := by
  obtain ⟨A, n, c, p, b, h1, _⟩ := h
  exact h1.lt
theorem Rdr.lt' {w : World} {r : Nat} {s : List UInt8 × Bool} (h : Rdr w r s) : r < w.heap.size := by
  obtain ⟨A, n, c, h1, _⟩ := h
  exact h1.lt
theorem below_drewN {B : Nat} {w w' : World} (h : Below B w w') (m : Nat) : Below B w (w'.drewN m) := ⟨h.os, h.tape, h.output, h.size, h.block⟩

/-- Both are alike, and go on alike. -/
def Alike (B r q : Nat) (w : World) (e : Ending) (w' : World) : Prop := e = .returned (.bool true) ∧ (∃ s, Rdr w' r s ∧ Ref w' q s) ∧ Below B w w'

/-- The last statement of asked. -/
def DoneV (s : List UInt8 × Bool) : Bool := !s.2 && decide (s.1.length = 0)
theorem done_yes {s : List UInt8 × Bool} (h : DoneV s = true) : (if s.2 = true ∨ 0 < s.1.length then (2 : Int) else 0) = 0 := by
  unfold DoneV at h
  rw [if_neg]
  rw [Bool.and_eq_true] at h
  simp at h
  simp [h]
theorem done_no {s : List UInt8 × Bool} (h : DoneV s = false) : (if s.2 = true ∨ 0 < s.1.length then (2 : Int) else 0) = 2 := by
  unfold DoneV at h
  rw [if_pos]
  obtain ⟨a, b⟩ := s
  cases b
  · right
    simp at h
    exact List.length_pos_iff.2 h
  · left; rfl

set_option maxHeartbeats 2000000 in
theorem asked_any (B r q : Nat) (d : Nat) (m : Int) (s : List UInt8 × Bool) (w : World) (h : Rdr w r s) (h2 : Ref w q s) (hd : d < 256) (hm : m ≤ 9223372036854775807) (hm2 : -9223372036854775808 ≤ m) (hr : B ≤ r) (hq : B ≤ q) :
    Calls Try.prog 18 #[.pointer (some ⟨r, 0, none⟩), .pointer (some ⟨q, 0, none⟩), .agg #[.int .u8 d, .int .i64 m]] w (Alike B r q w) := by
  have hrl := h.lt'
  have hql := h2.lt
  have Bx := Lib.hid ((Below.refl w.heap.size w).alloc (Nat.le_refl _) (.cells #[.int .u8 d, .int .i64 m] 40))
  have Bz := Lib.hid ((Below.refl B w).alloc (by omega) (.cells #[.int .u8 d, .int .i64 m] 40))
  have H := Lib.hid (h.below Bx.out)
  have H2 := Lib.hid (h2.below Bx.out)
  have KB := Lib.hid (Bk.new w 40 #[.int .u8 d, .int .i64 m])
  clear h h2
  by_cases h0 : d % 7 = 0
  · have t0 : ((d : Int) % 7 == 0) = true := beq_iff_eq.2 (by omega)
    clear h0
    have hv : val (takeS 1 s).1 < 256 := Nat.lt_of_lt_of_le (val_lt _) (Nat.le_trans (Nat.pow_le_pow_right (by omega) (takeS_len 1 s)) (by decide))
    go_enter Try.func18, Try.ntmps18
    go_wp2_with fail
    refine (rByte_any r s _ H.out).mono ?_
    rintro e w1 ⟨rfl, hR, hg⟩
    have HR1 := Lib.hid hR
    have HQ1 := Lib.hid (H2.out.other H.out hg)
    have B1 := Lib.hid (Bz.out.grown hg (by simp; omega) (fun g hg => by injection hg with hg; omega))
    clear hR hg
    go_wp2_with fail
    refine (Take_any q 1 1 s w1 HQ1.out rfl).mono ?_
    rintro e w2 ⟨A1, n1, c1, rfl, hr1, hR, hg⟩
    have HD := Lib.hid hr1
    have HR2 := Lib.hid (HR1.out.otherRef HQ1.out hg)
    have HQ2 := Lib.hid hR
    have B2 := Lib.hid (B1.out.grown hg (by have := B1.out.size; omega) (fun g hg => by injection hg with hg; omega))
    clear hr1 hR hg
    go_wp2_with fail
    refine (Value_any A1 n1 c1 _ w2 HD.out (by have := HD.out.len; have := takeS_len 1 s; omega)).mono ?_
    rintro e w2 ⟨rfl, rfl⟩
    go_wp2_with fail
    go_ret
    exact ⟨by simp, ⟨_, HR2.out, HQ2.out⟩, B2.out⟩
  · have t0 : ((d : Int) % 7 == 0) = false := beq_eq_false_iff_ne.2 (by omega)
    by_cases h1 : d % 7 = 1
    · have t1 : ((d : Int) % 7 == 1) = true := beq_iff_eq.2 (by omega)
      clear h0 h1
      go_enter Try.func18, Try.ntmps18
      go_wp2_with fail
      refine (rUint_any r s _ H.out).mono ?_
      rintro e w1 ⟨rfl, hR, hg⟩
      have HR1 := Lib.hid hR
      have HQ1 := Lib.hid (H2.out.other H.out hg)
      have B1 := Lib.hid (Bz.out.grown hg (by simp; omega) (fun g hg => by injection hg with hg; omega))
      clear hR hg
      go_wp2_with fail
      refine (sUint_any q s w1 HQ1.out).mono ?_
      rintro e w2 ⟨rfl, hR, hg⟩
      have HR2 := Lib.hid (HR1.out.otherRef HQ1.out hg)
      have HQ2 := Lib.hid hR
      have B2 := Lib.hid (B1.out.grown hg (by have := B1.out.size; omega) (fun g hg => by injection hg with hg; omega))
      clear hR hg
      go_wp2_with fail
      go_ret
      exact ⟨by simp, ⟨_, HR2.out, HQ2.out⟩, B2.out⟩
    · have t1 : ((d : Int) % 7 == 1) = false := beq_eq_false_iff_ne.2 (by omega)
      by_cases h2 : d % 7 = 2
      · have t2 : ((d : Int) % 7 == 2) = true := beq_iff_eq.2 (by omega)
        clear h0 h1 h2
        go_enter Try.func18, Try.ntmps18
        go_wp2_with fail
        refine (rInt_any r s _ H.out).mono ?_
        rintro e w1 ⟨rfl, hR, hg⟩
        have HR1 := Lib.hid hR
        have HQ1 := Lib.hid (H2.out.other H.out hg)
        have B1 := Lib.hid (Bz.out.grown hg (by simp; omega) (fun g hg => by injection hg with hg; omega))
        clear hR hg
        go_wp2_with fail
        refine (sUint_any q s w1 HQ1.out).mono ?_
        rintro e w2 ⟨rfl, hR, hg⟩
        have HR2 := Lib.hid (HR1.out.otherRef HQ1.out hg)
        have HQ2 := Lib.hid hR
        have B2 := Lib.hid (B1.out.grown hg (by have := B1.out.size; omega) (fun g hg => by injection hg with hg; omega))
        clear hR hg
        go_wp2_with fail
        go_ret
        exact ⟨by simp, ⟨_, HR2.out, HQ2.out⟩, B2.out⟩
      · have t2 : ((d : Int) % 7 == 2) = false := beq_eq_false_iff_ne.2 (by omega)
        by_cases h3 : d % 7 = 3
        · have t3 : ((d : Int) % 7 == 3) = true := beq_iff_eq.2 (by omega)
          clear h0 h1 h2 h3
          go_enter Try.func18, Try.ntmps18
          go_wp2_with fail
          go_region_with (first
            | (go_at_call 26; refine (rText_any r s _ ?_).mono ?_; exact H.out.drew'; rintro e w1 ⟨A1, n1, c1, rfl, hown, hR, hg⟩; have HO1 := Lib.hid (Rd.of_own hown).1; have sA := conv_string (Rd.of_own hown).1 c1; have HR1 := Lib.hid hR; have HQ1 := Lib.hid (H2.out.drew'.other H.out.drew' hg); have B1 := Lib.hid (Bz.out.drew.grown hg (by simp; omega) (fun g hg => by injection hg with hg; omega)); clear hR hg hown)
            | (go_at_call 33; refine (sText_any q s _ HQ1.out).mono ?_; rintro e w2 ⟨A2, n2, c2, rfl, hr2, hR, hg⟩; have sB := conv_string hr2 c2; have sC := conv_string (HQ1.out.rd HO1.out hg) c1; have HR2 := Lib.hid (HR1.out.otherRef HQ1.out hg); have HQ2 := Lib.hid hR; have B2 := Lib.hid (B1.out.grown hg (by have := B1.out.size; omega) (fun g hg => by injection hg with hg; omega)); clear hR hg hr2))
          all_goals
            go_wp2_with fail
            go_ret
            exact ⟨rfl, ⟨_, HR2.out, HQ2.out⟩, B2.out⟩
        · have t3 : ((d : Int) % 7 == 3) = false := beq_eq_false_iff_ne.2 (by omega)
          by_cases h4 : d % 7 = 4
          · have t4 : ((d : Int) % 7 == 4) = true := beq_iff_eq.2 (by omega)
            clear h0 h1 h2 h3 h4
            go_enter Try.func18, Try.ntmps18
            go_wp2_with fail
            go_region_with (first
              | (go_at_call 27; refine (rCount_any r m s _ ?_ (by omega) (by omega)).mono ?_; exact H.out.drew'; rintro e w1 ⟨rfl, hR, hg⟩; have HR1 := Lib.hid hR; have HQ1 := Lib.hid (H2.out.drew'.other H.out.drew' hg); have B1 := Lib.hid (Bz.out.drew.grown hg (by simp; omega) (fun g hg => by injection hg with hg; omega)); have KB1 : Hid (Bk w1 w.heap.size 40 #[.int .u8 d, .int .i64 m]) := (show Bk (w.alloc (.cells #[.int .u8 d, .int .i64 m] 40)).drew w.heap.size 40 #[.int .u8 d, .int .i64 m] from KB.out).grown' hg (by simp; omega); have k1 := KB1.out.cell 1; simp at k1; clear hR hg)
              | (go_at_call 34; refine (sCount_any q m s _ HQ1.out (by omega) (by omega)).mono ?_; rintro e w2 ⟨rfl, hR, hg⟩; have HR2 := Lib.hid (HR1.out.otherRef HQ1.out hg); have HQ2 := Lib.hid hR; have B2 := Lib.hid (B1.out.grown hg (by have := B1.out.size; omega) (fun g hg => by injection hg with hg; omega)); clear hR hg))
            all_goals
              go_wp2_with fail
              go_ret
              exact ⟨rfl, ⟨_, HR2.out, HQ2.out⟩, B2.out⟩
          · have t4 : ((d : Int) % 7 == 4) = false := beq_eq_false_iff_ne.2 (by omega)
            by_cases h5 : d % 7 = 5
            · have t5 : ((d : Int) % 7 == 5) = true := beq_iff_eq.2 (by omega)
              clear h0 h1 h2 h3 h4 h5
              go_enter Try.func18, Try.ntmps18
              go_wp2_with fail
              refine (rBad_any r s _ H.out).mono ?_
              rintro e w1 ⟨rfl, hR, hg⟩
              have HR1 := Lib.hid hR
              have HQ1 := Lib.hid (H2.out.other H.out hg)
              have B1 := Lib.hid (Bz.out.grown hg (by simp; omega) (fun g hg => by injection hg with hg; omega))
              obtain ⟨k2, f2⟩ := ref_cells HQ1.out
              clear hR hg
              have HR2 : Hid (Rdr (w1.setCell ⟨q, 2, none⟩ (.bool true)) r (s.1, true)) := HR1.out.otherRef HQ1.out (grown_set _ _ _ _)
              have HQ2 : Hid (Ref (w1.setCell ⟨q, 2, none⟩ (.bool true)) q (s.1, true)) := ref_bad HQ1.out
              have B2 : Hid (Below B w (w1.setCell ⟨q, 2, none⟩ (.bool true))) := B1.out.setCell hq _
              have hD : DoneV (s.1, true) = false := rfl
              have D1 : ∀ W, Rdr W r (s.1, true) → Calls Try.prog 21 #[.pointer (some ⟨r, 0, none⟩)] W (fun e w' => e = .returned (.int .i64 2) ∧ W = w') := fun W hW => by
                have := rDone_any r (s.1, true) W hW
                rwa [done_no hD] at this
              have D2 : ∀ W, Ref W q (s.1, true) → Calls Try.prog 35 #[.pointer (some ⟨q, 0, none⟩)] W (RefDone W false) := fun W hW => sDone_any q (s.1, true) W hW
              have HD1 := Lib.hid D1
              have HD2 := Lib.hid D2
              clear D1 D2 hD
              go_wp2_with fail
              generalize w1.setCell ⟨q, 2, none⟩ (.bool true) = w2 at *
              refine (HD1.out w2 HR2.out).mono ?_
              rintro e w2 ⟨rfl, rfl⟩
              clear k2 f2
              go_wp2_with fail
              refine (HD2.out w2 HQ2.out).mono ?_
              rintro e wd1 ⟨m1, rfl, hw1⟩
              have HRa : Hid (Rdr wd1 r (s.1, true)) := by rw [hw1]; exact HR2.out.drewN' m1
              have HQa : Hid (Ref wd1 q (s.1, true)) := by rw [hw1]; exact HQ2.out.drewN' m1
              have HBa : Hid (Below B w wd1) := by rw [hw1]; exact below_drewN B2.out m1
              clear hw1
              go_wp2_with fail
              refine (HD2.out wd1 HQa.out).mono ?_
              rintro e wd2 ⟨m2, rfl, hw2⟩
              have HRb : Hid (Rdr wd2 r (s.1, true)) := by rw [hw2]; exact HRa.out.drewN' m2
              have HQb : Hid (Ref wd2 q (s.1, true)) := by rw [hw2]; exact HQa.out.drewN' m2
              have HBb : Hid (Below B w wd2) := by rw [hw2]; exact below_drewN HBa.out m2
              clear hw2
              go_wp2_with fail
              refine (HD1.out wd2 HRb.out).mono ?_
              rintro e wd2 ⟨rfl, rfl⟩
              go_wp2_with fail
              go_ret
              exact ⟨rfl, ⟨_, HRb.out, HQb.out⟩, HBb.out⟩
            · have t5 : ((d : Int) % 7 == 5) = false := beq_eq_false_iff_ne.2 (by omega)
              clear h0 h1 h2 h3 h4 h5
              generalize hw0 : w.alloc (.cells #[.int .u8 d, .int .i64 m] 40) = w0 at *
              have k0 : w0.cell? ⟨w.heap.size, 0, none⟩ = some (.int .u8 d) := KB.out.cell 0
              have HW0 := Lib.hid hw0
              clear hw0
              by_cases hD : DoneV s = true
              · have D1 : ∀ W, Rdr W r s → Calls Try.prog 21 #[.pointer (some ⟨r, 0, none⟩)] W (fun e w' => e = .returned (.int .i64 0) ∧ W = w') := fun W hW => by
                  have := rDone_any r s W hW
                  rwa [done_yes hD] at this
                have D2 : ∀ W, Ref W q s → Calls Try.prog 35 #[.pointer (some ⟨q, 0, none⟩)] W (RefDone W true) := fun W hW => by
                  have := sDone_any q s W hW
                  have hE : (!s.2 && decide (s.1.length = 0)) = true := hD
                  rwa [hE] at this
                have HD1 := Lib.hid D1
                have HD2 := Lib.hid D2
                clear D1 D2 hD
                go_enter Try.func18, Try.ntmps18
                go_wp2_with fail
                rw [HW0.out]
                refine (HD1.out w0 H.out).mono ?_
                rintro e w0 ⟨rfl, rfl⟩
                go_wp2_with fail
                refine (HD2.out w0 H2.out).mono ?_
                rintro e wd1 ⟨m1, rfl, hw1⟩
                have HRa : Hid (Rdr wd1 r s) := by rw [hw1]; exact H.out.drewN' m1
                have HQa : Hid (Ref wd1 q s) := by rw [hw1]; exact H2.out.drewN' m1
                have HBa : Hid (Below B w wd1) := by rw [hw1]; exact below_drewN Bz.out m1
                clear hw1
                go_wp2_with fail
                refine (HD2.out wd1 HQa.out).mono ?_
                rintro e wd2 ⟨m2, rfl, hw2⟩
                have HRb : Hid (Rdr wd2 r s) := by rw [hw2]; exact HRa.out.drewN' m2
                have HQb : Hid (Ref wd2 q s) := by rw [hw2]; exact HQa.out.drewN' m2
                have HBb : Hid (Below B w wd2) := by rw [hw2]; exact below_drewN HBa.out m2
                clear hw2
                go_wp2_with fail
                go_ret
                exact ⟨rfl, ⟨_, HRb.out, HQb.out⟩, HBb.out⟩
              · have D1 : ∀ W, Rdr W r s → Calls Try.prog 21 #[.pointer (some ⟨r, 0, none⟩)] W (fun e w' => e = .returned (.int .i64 2) ∧ W = w') := fun W hW => by
                  have := rDone_any r s W hW
                  rwa [done_no (by simpa using hD)] at this
                have D2 : ∀ W, Ref W q s → Calls Try.prog 35 #[.pointer (some ⟨q, 0, none⟩)] W (RefDone W false) := fun W hW => by
                  have := sDone_any q s W hW
                  have hE : (!s.2 && decide (s.1.length = 0)) = false := by simpa [DoneV] using hD
                  rwa [hE] at this
                have HD1 := Lib.hid D1
                have HD2 := Lib.hid D2
                clear D1 D2 hD
                go_enter Try.func18, Try.ntmps18
                go_wp2_with fail
                rw [HW0.out]
                refine (HD1.out w0 H.out).mono ?_
                rintro e w0 ⟨rfl, rfl⟩
                go_wp2_with fail
                refine (HD2.out w0 H2.out).mono ?_
                rintro e wd1 ⟨m1, rfl, hw1⟩
                have HRa : Hid (Rdr wd1 r s) := by rw [hw1]; exact H.out.drewN' m1
                have HQa : Hid (Ref wd1 q s) := by rw [hw1]; exact H2.out.drewN' m1
                have HBa : Hid (Below B w wd1) := by rw [hw1]; exact below_drewN Bz.out m1
                clear hw1
                go_wp2_with fail
                refine (HD2.out wd1 HQa.out).mono ?_
                rintro e wd2 ⟨m2, rfl, hw2⟩
                have HRb : Hid (Rdr wd2 r s) := by rw [hw2]; exact HRa.out.drewN' m2
                have HQb : Hid (Ref wd2 q s) := by rw [hw2]; exact HQa.out.drewN' m2
                have HBb : Hid (Below B w wd2) := by rw [hw2]; exact below_drewN HBa.out m2
                clear hw2
                go_wp2_with fail
                refine (HD1.out wd2 HRb.out).mono ?_
                rintro e wd2 ⟨rfl, rfl⟩
                go_wp2_with fail
                go_ret
                exact ⟨rfl, ⟨_, HRb.out, HQb.out⟩, HBb.out⟩
end Go.Proofs.Ytjpiaeidaoklaaa
