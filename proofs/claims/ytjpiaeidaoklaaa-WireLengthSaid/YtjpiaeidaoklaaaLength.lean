/- WireLength: how many bytes numbers and texts have; what stands ahead stays ahead. For every input the call returns true, and each argument reads afterwards as it read before. No conditions. -/
import Derived.Test.YtjpiaeidaoklaaaFrame
import Derived.Deep.QuietTactic
import Derived.BigQuiet
namespace Go.Proofs.Ytjpiaeidaoklaaa.wireLength
open Go.ChangeShapes Go.WideShapes Go.ChangeAt Go.RowKit

/-- The four rows and the four numbers that the law holds against each other. -/
def Row4 (w : World) (g n : Nat) (bs : List UInt8) (f : Nat → Option Addr × Nat × Nat × Int × List UInt8) : Prop :=
  ∀ j, j < 4 → w.cell? ⟨g, j, none⟩ = some (.slice (f j).1 (f j).2.1 (f j).2.2.1) ∧ w.cell? ⟨g + 1, j, none⟩ = some (.int .i64 (f j).2.2.2.1) ∧
    ((f j).2.1 : Int) = n + (f j).2.2.2.1 ∧ 0 ≤ (f j).2.2.2.1 ∧ (f j).2.2.2.1 ≤ 1000 ∧ (f j).2.1 ≤ (f j).2.2.1 ∧ Rd w (f j).1 (f j).2.1 (bs ++ (f j).2.2.2.2)

theorem rd_drewN {w : World} {A : Option Addr} {n : Nat} {bs : List UInt8} (h : Rd w A n bs) (q : Nat) : Rd (w.drewN q) A n bs := h.keep fun _ _ hp => hp

set_option maxHeartbeats 2000000 in
theorem walk (A A2 : Option Addr) (n c n2 c2 : Nat) (bs ss : List UInt8) (x : Nat) (w : World) (h : Rd w A n bs) (h2 : Rd w A2 n2 ss) (hx : x < 18446744073709551616) :
    Calls Try.prog 9 #[.slice A n c, .slice A2 n2 c2, .int .u64 (x : Int)] w fun e w' => e = .returned (.bool true) ∧ Below w.heap.size w w' := by
  have H := Lib.hid h
  have H2 := Lib.hid h2
  clear h h2
  by_cases hn : 500 < n
  · go_enter Try.func9, Try.ntmps9
    go_wp2_with fail
    go_ret
    exact ⟨rfl, Below.refl _ _⟩
  · by_cases hn2 : 500 < n2
    · go_enter Try.func9, Try.ntmps9
      go_wp2_with fail
      go_ret
      exact ⟨rfl, Below.refl _ _⟩
    · go_enter Try.func9, Try.ntmps9
      go_wp2_with fail
      have hx8 : ((x % 256 : Nat) : Int) = (x : Int) % 256 := by omega
      refine (Byte_any A n c (x % 256) _ bs w H.out hx8.symm (by omega) (by omega)).mono ?_
      rintro e w1 ⟨A1, n1, c1, rfl, hl1, hc1, hown1, hb1⟩
      have HL1 : Hid (n1 = n + 1) := by rw [hl1, List.length_append, H.out.len, be_length]; rfl
      have HR1 := Lib.hid (Rd.of_own hown1).1
      have B1 := Lib.hid hb1
      clear hl1 hown1 hb1 hx8
      go_wp2_with fail
      refine (Uint_any A n c x _ bs w1 (H.out.below B1.out) rfl hx (by omega)).mono ?_
      rintro e w2 ⟨A3, n3, c3, rfl, hl1, hc3, hown1, hb1⟩
      have HL3 : Hid (n3 = n + 8) := by rw [hl1, List.length_append, H.out.len, be_length]; rfl
      have HR3 := Lib.hid (Rd.of_own hown1).1
      have HR1a := Lib.hid (HR1.out.below hb1)
      have B2 := Lib.hid (B1.out.trans (hb1.mono B1.out.size))
      clear hl1 hown1 hb1
      go_wp2_with fail
      refine (Int_any A n c x _ bs w2 (H.out.below B2.out) (wrap_wrap64 x hx) hx (by omega)).mono ?_
      rintro e w3 ⟨A4, n4, c4, rfl, hl1, hc4, hown1, hb1⟩
      have HL4 : Hid (n4 = n + 8) := by rw [hl1, List.length_append, H.out.len, be_length]; rfl
      have HR4 := Lib.hid (Rd.of_own hown1).1
      have HR1b := Lib.hid (HR1a.out.below hb1)
      have HR3b := Lib.hid (HR3.out.below hb1)
      have B3 := Lib.hid (B2.out.trans (hb1.mono B2.out.size))
      clear hl1 hown1 hb1 HR1 HR1a HR3
      go_wp2_with fail
      refine (Text_any A A2 n c n2 c2 bs ss w3 (H.out.below B3.out) (H2.out.below B3.out) (by omega) (by omega)).mono ?_
      rintro e w4 ⟨A5, n5, c5, rfl, hl1, hc5, hown1, hb1⟩
      have HL5 : Hid (n5 = n + (4 + n2)) := by
        show n5 = n + (4 + n2)
        rw [hl1]
        simp only [List.length_append, H.out.len, H2.out.len, be_length]
      have HR5 := Lib.hid (Rd.of_own hown1).1
      have HR1c := Lib.hid (HR1b.out.below hb1)
      have HR3c := Lib.hid (HR3b.out.below hb1)
      have HR4c := Lib.hid (HR4.out.below hb1)
      have B4 := Lib.hid (B3.out.trans (hb1.mono B3.out.size))
      clear hl1 hown1 hb1 HR1b HR3b HR4
      go_wp2_with fail
      have hrow : ∃ f, Row4 ((w4.alloc (.cells #[.slice A1 n1 c1, .slice A3 n3 c3, .slice A4 n4 c4, .slice A5 n5 c5] 22)).alloc (.cells #[.int .i64 1, .int .i64 8, .int .i64 8, .int .i64 (4 + (n2 : Int))] 3)) w4.heap.size n bs f := by
        have Bb := ((Below.refl _ _).alloc (Nat.le_refl _) (.cells #[.slice A1 n1 c1, .slice A3 n3 c3, .slice A4 n4 c4, .slice A5 n5 c5] 22)).alloc (w := w4.alloc _) (by simp) (.cells #[.int .i64 1, .int .i64 8, .int .i64 8, .int .i64 (4 + (n2 : Int))] 3)
        have k1 := (Bk.new w4 22 #[.slice A1 n1 c1, .slice A3 n3 c3, .slice A4 n4 c4, .slice A5 n5 c5]).alloc (.cells #[.int .i64 1, .int .i64 8, .int .i64 8, .int .i64 (4 + (n2 : Int))] 3)
        have k2 := Bk.new (w4.alloc (.cells #[.slice A1 n1 c1, .slice A3 n3 c3, .slice A4 n4 c4, .slice A5 n5 c5] 22)) 3 #[.int .i64 1, .int .i64 8, .int .i64 8, .int .i64 (4 + (n2 : Int))]
        rw [World.size_alloc] at k2
        refine ⟨fun j => match j with | 0 => (A1, n1, c1, 1, be 1 (x % 256)) | 1 => (A3, n3, c3, 8, be 8 x) | 2 => (A4, n4, c4, 8, be 8 x) | _ => (A5, n5, c5, 4 + (n2 : Int), be 4 n2 ++ ss), fun j hj => ?_⟩
        match j, hj with
        | 0, _ => exact ⟨k1.cell 0, k2.cell 0, by simp only [HL1.out]; omega, by simp, by simp, hc1, HR1c.out.below Bb⟩
        | 1, _ => exact ⟨k1.cell 1, k2.cell 1, by simp only [HL3.out]; omega, by simp, by simp, hc3, HR3c.out.below Bb⟩
        | 2, _ => exact ⟨k1.cell 2, k2.cell 2, by simp only [HL4.out]; omega, by simp, by simp, hc4, HR4c.out.below Bb⟩
        | 3, _ => exact ⟨k1.cell 3, k2.cell 3, by simp only [HL5.out]; omega, by simp only; omega, by simp only; omega, hc5, HR5.out.below Bb⟩
      obtain ⟨f, hrow⟩ := hrow
      have HW := Lib.hid hrow
      have B5 := Lib.hid ((B4.out.alloc B4.out.size (.cells #[.slice A1 n1 c1, .slice A3 n3 c3, .slice A4 n4 c4, .slice A5 n5 c5] 22)).alloc (by have := B4.out.size; simp; omega) (.cells #[.int .i64 1, .int .i64 8, .int .i64 8, .int .i64 (4 + (n2 : Int))] 3))
      clear hrow
      generalize hg : w4.heap.size = g
      rw [hg] at HW
      clear hg
      go_loopw [9] (fun i wr => ∃ k : Nat, k ≤ 4 ∧ i = .int .i64 (k : Int) ∧ Row4 wr g n bs f ∧ Below w.heap.size w wr) (fun i _ => 4 - (intOf i).toNat)
      case atStart => exact ⟨0, by omega, rfl, HW.out, B5.out⟩
      case round =>
        obtain ⟨k, hk, rfl, hR, hb⟩ := hrel
        have HR := Lib.hid hR
        have HB := Lib.hid hb
        clear hR hb
        by_cases hlt : k < 4
        · obtain ⟨e1, e2, e3, e4, e5, e6, e7⟩ := HR.out k hlt
          generalize (f k).1 = Ak at *
          generalize (f k).2.1 = nk at *
          generalize (f k).2.2.1 = ck at *
          generalize (f k).2.2.2.1 = mk at *
          generalize (f k).2.2.2.2 = ek at *
          have s1 : ∀ q, (convert 22 9 (.slice Ak n ck)).run Try.prog (wr.drewN q) = .ok (.string (S bs)) (wr.drewN q) := fun q => by
            have := e7.take (k := n) (by omega)
            rw [List.take_left' H.out.len] at this
            exact conv_string (rd_drewN this q) ck
          have s2 : ∀ q, (convert 22 9 (.slice A n c)).run Try.prog (wr.drewN q) = .ok (.string (S bs)) (wr.drewN q) := fun q => conv_string (rd_drewN (H.out.below HB.out) q) c
          have hw : IntKind.i64.wrap ((n : Int) + mk) = (nk : Int) := by rw [e3]; exact IntWalk.i64_in _ (by omega)
          have hnk : n ≤ nk := by omega
          clear e7 e3 e4 e5
          generalize S bs = str at *
          go_wp2_with fail
          go_quiet (fail)
          have HRq : Hid (Row4 (wr.drewN nq) g n bs f) := fun j hj => by
            obtain ⟨a1, a2, a3, a4, a5, a6, a7⟩ := HR.out j hj
            exact ⟨a1, a2, a3, a4, a5, a6, rd_drewN a7 nq⟩
          have HBq : Hid (Below w.heap.size w (wr.drewN nq)) := ⟨HB.out.os, HB.out.tape, HB.out.output, HB.out.size, HB.out.block⟩
          generalize wr.drewN nq = wq at *
          clear s1 s2 e1 e2 hw
          go_wp2_with fail
          exact ⟨⟨k + 1, by omega, rfl, HRq.out, HBq.out⟩, by simp [intOf]; omega⟩
        · go_wp2_with fail
          refine (puts_any wr).mono ?_
          rintro e w9 ⟨rfl, hb⟩
          have B9 := Lib.hid (HB.out.trans (hb.mono HB.out.size))
          clear hb
          go_wp2_with fail
          go_ret
          exact ⟨rfl, B9.out⟩
set_option maxRecDepth 100000 in
theorem lifted (os : Os) (started : os.Started) (H : Type) (enc : TypeId × Value → H) :
    ReturnsInHanded {} Try.checked os 9 .any (Rows.wireLengthSpec.pre6 enc Try.prog Try.f9 Rows.wireLengthRow.domain false) (Rows.wireLengthSpec.post enc Try.prog Try.f9 false true false false) := by
  refine returnsInHanded_of_change (C := Try.checked) own started (by kernel_rfl) Try.func9
    (ChangeSpec.witness6 (enc := enc) (C := Try.checked) false ⟨#[], #[.slice none 0 0, .slice none 0 0, .int .u64 0], []⟩ 8 (by kernel_rfl) (by kernel_rfl) (by kernel_rfl) (by kernel_rfl)) ?_
  intro W base args ds gs before hval0 hW hcnd _
  have hval : ∀ (j : Nat) t v, Try.f9.params[j]? = some t → args[j]? = some v → Value.okWide Try.prog W .any base t v := hval0
  have hW' := hW
  obtain ⟨p, q, hA0, hV, rfl, hfz, hnd⟩ := hW
  have hA : DataW.TrodAll enc Try.prog W 0 (fun _ => true) true Try.f9.params.toList args.toList ds p := hA0
  rw [Try.params9] at hA hval
  obtain ⟨v0, v1, v2, d0, d1, d2, p0, p1, p2, rfl, rfl, rfl, h0, h1, h2⟩ := trodAll_three hA
  obtain ⟨rfl, rfl⟩ := trodVars_none hV
  obtain ⟨A, n, c, bs, rfl, _, _, hr⟩ := open_bytes ty_bytes ty_byte cells_byte (hval 0 _ v0 rfl rfl) h0
  obtain ⟨A2, n2, c2, ss, rfl, _, _, hr2⟩ := open_bytes ty_bytes ty_byte cells_byte (hval 1 _ v1 rfl rfl) h1
  obtain ⟨x, rfl, rfl, rfl, hx⟩ := open_int ty_u64 (hval 2 _ v2 rfl rfl) h2
  simp [Lit.wf, IntKind.min, IntKind.max, IntKind.signed, IntKind.bits] at hx
  obtain ⟨x, rfl⟩ := Int.eq_ofNat_of_zero_le hx.1
  refine (walk A A2 n c n2 c2 bs ss x W hr hr2 (by omega)).mono fun e W' ⟨he, hb⟩ => ?_
  subst he
  exact ⟨_, rfl, post_true laidOut (by kernel_rfl) ty_bool (by kernel_rfl) rfl hW' hb rfl⟩

theorem over : Rows.wireLengthRow.holds Try.pinned (OpenSpec.ofChange Rows.wireLengthSpec) :=
  OpenClaim.holds_of_wide 9 Try.f9 rfl rfl rfl rfl rfl rfl rfl ⟨rfl, rfl, rfl, rfl, rfl⟩ rfl rfl rfl rfl rfl (by kernel_rfl) Try.func9 (by kernel_rfl)
    (of_decide_eq_true (by kernel_rfl)) (by unfold Func.isWrapper; first | (rw [if_pos (by decide +kernel)]; kernel_rfl) | (rw [if_neg (by decide +kernel)]; exact ⟨rfl, rfl⟩))
    (fun os started H enc _ => lifted os started H enc)

theorem proved : Rows.WireLengthSaid :=
  over
end Go.Proofs.Ytjpiaeidaoklaaa.wireLength
