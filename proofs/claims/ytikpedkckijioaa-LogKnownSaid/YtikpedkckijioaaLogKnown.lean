/- LogKnown: the chapter's examples, an empty record, parts that may not be, closed: the call returns true, and nothing that was there has turned. No conditions. -/
import Derived.Test.YtikpedkckijioaaLogLawAll
namespace Go.Proofs.Ytikpedkckijioaa.logKnown
open Go.ChangeShapes Go.WideShapes Go.ChangeAt Go.RowKit Disk Log

theorem open_neg {w : World} {X : Nat → Prop} {gd : Nat} {d : DK} (hd : DkAt w X gd d) (hn : d.dead = false) : Calls Try.prog 11 #[.pointer (some ⟨gd, 0, none⟩), .int .i64 (-1), .int .i64 2] w fun e w' => e = .returned (.tuple #[.pointer none, .int .i64 1]) ∧ Below w.heap.size w w' := by
  have cd := dead_any hd
  rw [hn] at cd
  have CD := Lib.hid cd
  have hfa : d.faultAt (-1) = 1 := by unfold DK.faultAt; rw [if_neg (by rw [hn]; decide), if_pos (.inl (by decide))]
  have hb1 : Below w.heap.size w (w.alloc (.cells #[.pointer (some ⟨gd, 0, none⟩), .int .i64 (-1), .int .i64 2, .bool false, .slice none 0 0, .int .i64 0, .int .u64 0, .bool false] 73)) := (Below.refl _ _).alloc (Nat.le_refl _) _
  have hc1 : (w.alloc (.cells #[.pointer (some ⟨gd, 0, none⟩), .int .i64 (-1), .int .i64 2, .bool false, .slice none 0 0, .int .i64 0, .int .u64 0, .bool false] 73)).cell? ⟨w.heap.size, 0, none⟩ = some (.pointer (some ⟨gd, 0, none⟩)) := (Bk.new w 73 _).cell 0
  have hc2 := (Bk.new w 73 #[.pointer (some ⟨gd, 0, none⟩), .int .i64 (-1), .int .i64 2, .bool false, .slice none 0 0, .int .i64 0, .int .u64 0, .bool false]).cell 1
  generalize hw1 : w.alloc (.cells #[.pointer (some ⟨gd, 0, none⟩), .int .i64 (-1), .int .i64 2, .bool false, .slice none 0 0, .int .i64 0, .int .u64 0, .bool false] 73) = w1 at *
  have HW1 := Lib.hid hw1
  have CRd := read_no (hd.below hb1) (-1) (by rw [hfa]; decide)
  rw [hfa] at CRd
  have HCR := Lib.hid CRd
  have HB1 := Lib.hid hb1
  have HC := Lib.hid (And.intro hc1 hc2)
  clear cd hd hn hfa hw1 hb1 CRd hc1 hc2
  go_enter Try.func11, Try.ntmps11
  go_wp2_with fail
  refine CD.out.mono ?_
  rintro e _ ⟨rfl, rfl⟩
  go_wp2_with fail
  rw [HW1.out]
  go_loopw [9, 28] (fun v i wr => v = .slice none 0 0 ∧ i = .int .i64 0 ∧ wr = w1) (fun _ i _ => 0)
  case atStart => exact ⟨rfl, rfl, rfl⟩
  case round =>
    obtain ⟨rfl, rfl, rfl⟩ := hrel
    obtain ⟨hc1, hc2⟩ := HC.out
    go_wp2_with fail
    refine HCR.out.mono ?_
    rintro e _ ⟨rfl, rfl⟩
    go_wp2_with fail
    go_ret2
    exact ⟨rfl, HB1.out⟩
/-- What the j-th of the rows holds. -/
theorem row_at {w : World} {base B : Nat} {A : Option Addr} {c : Nat} {vs : List Value} {bs : List (List UInt8)} (h : w.ownsRow base 32 1 (.slice A bs.length c) bs.length vs) (hf : Fresh B w vs bs) (hp : 0 < bs.length) : ∃ g, A = some ⟨g, 0, none⟩ ∧ base ≤ g ∧ ∀ (j : Nat) (b : List UInt8), bs[j]? = some b → ∃ A2 n2 c2, w.cell? ⟨g, j, none⟩ = some (.slice A2 n2 c2) ∧ Rd w A2 n2 b ∧ ∀ a, A2 = some a → B ≤ a.block ∧ a.block < w.heap.size := by
  rcases h.2 with ⟨_, q⟩ | ⟨g, cap, cur, q1, q2, q3⟩
  · omega
  · injection q1 with q1
    subst q1
    refine ⟨g, rfl, q2, fun j b hb => ?_⟩
    obtain ⟨A2, n2, c2, h1, h2⟩ := hf.at_ j b hb
    have hc := h.cells (g := g) rfl j _ h1
    refine ⟨A2, n2, c2, ?_, (Rd.of_own h2).1, fun a ha => ?_⟩
    · rw [← hc]
      congr 1
      unfold Addr.add
      split <;> simp_all
    · subst ha
      exact h2.lt a.block rfl
set_option maxRecDepth 100000 in
set_option maxHeartbeats 2000000 in
theorem walk (w : World) : Calls Try.prog 8 #[] w fun e w' => e = .returned (.bool true) ∧ Below w.heap.size w w' := by
  go_enter Try.func8, Try.ntmps8
  go_wp2_with fail
  refine (new_st 4 w w (by decide) (by decide) (Below.refl _ _)).mono ?_
  rintro e w1 ⟨gd, X, rfl, hs, hX, hb⟩
  have HS := Lib.hid hs
  clear hs hX hb
  go_wp2_with fail
  refine (open_any HS.out.at_ rfl 1 4 (by decide) (by decide) 3 (by decide) (by show 1 + 3 ≤ (List.replicate _ _).length; rw [List.length_replicate]; decide) (fun _ => by unfold DK.faultAt; rw [if_neg (by decide), if_pos (.inr (by decide))]) (Nat.zero_le _)).mono ?_
  rintro e w2 ⟨hq, -⟩
  obtain ⟨rfl, hb⟩ := hq (by decide)
  replace HS := Lib.hid (HS.out.below_ hb)
  clear hq hb
  go_wp2_with fail
  refine (open_few HS.out.at_ rfl 0 1 (by decide)).mono ?_
  rintro e _ ⟨rfl, rfl⟩
  go_wp2_with fail
  refine (open_neg HS.out.at_ rfl).mono ?_
  rintro e w3 ⟨rfl, hb⟩
  replace HS := Lib.hid (HS.out.below_ hb)
  clear hb
  go_wp2_with fail
  have hnw : newest (Log.part (Log.now (DK.new 4)) 2 2) = 0 := by kernel_rfl
  refine (open_st (f := 2) (n := 2) HS.out rfl (by decide) (by show 2 + 2 ≤ (List.replicate _ _).length; rw [List.length_replicate]; decide) (Nat.zero_le _) (by rw [hnw]; decide)).mono ?_
  rintro e w4 ⟨g9, Z9, rfl, -, hb, -, -⟩
  replace HS := Lib.hid (HS.out.below_ hb)
  clear hb hnw
  go_wp2_with fail
  refine (made_any 3 (by decide) (by decide) w w4 HS.out.below).mono ?_
  intro e w5 hm
  obtain ⟨g, gd, Z, rfl, hs, hb, hZ⟩ := hm.sd (by decide) (by decide)
  replace HS := Lib.hid hs
  clear hs hb hZ hm
  go_wp2_with fail
  refine (HS.out.commit (by decide) none 0 0 [] (Rd.nil_ _ _) (fun a ha => by cases ha) (Nat.le_refl _) (by decide) (by decide)).mono ?_
  rintro e w6 ⟨rfl, Z6, hs, -⟩
  replace HS : Hid (Sd w w6 Z6 g gd 0 3 [[]] 2 2) := hs
  clear hs
  go_wp2_with fail
  have hcv : (convert 32 32 (.slice (some ⟨w6.heap.size, 0, none⟩) 1 1)).run Try.prog (w6.alloc (.cells #[.int .u8 98] 5)) = .ok (.slice (some ⟨w6.heap.size, 0, none⟩) 1 1) (w6.alloc (.cells #[.int .u8 98] 5 (1, 2))) := conv_const w6 #[.int .u8 98] 1 1
  have hb7 : Below w6.heap.size w6 (w6.alloc (.cells #[.int .u8 98] 5 (1, 2))) := (Below.refl _ _).alloc (Nat.le_refl _) _
  have HR7 : Hid (Rd (w6.alloc (.cells #[.int .u8 98] 5 (1, 2))) (some ⟨w6.heap.size, 0, none⟩) 1 [98]) := rd_lit w6 5 (1, 2) [98]
  have HZ7 : Hid (∀ a, (some ⟨w6.heap.size, 0, none⟩ : Option Addr) = some a → ¬ Z6 a.block) := fun a ha hz => by
    injection ha with ha
    subst ha
    have : w6.heap.size < w6.heap.size := HS.out.lt _ hz
    omega
  replace HS := Lib.hid (HS.out.below_ hb7)
  generalize hw7 : w6.alloc (.cells #[.int .u8 98] 5 (1, 2)) = w7 at *
  clear hb7 hw7
  rw [hcv]
  go_wp2_with fail
  refine (HS.out.commit (by decide) (some ⟨w6.heap.size, 0, none⟩) 1 1 [98] HR7.out HZ7.out (Nat.le_refl _) (by decide) (by decide)).mono ?_
  rintro e w8 ⟨rfl, Z8, hs, -⟩
  replace HS : Hid (Sd w w8 Z8 g gd 0 3 [[], [98]] 3 4) := hs
  clear hs HZ7 HR7 hcv
  go_wp2_with fail
  refine (HS.out.full none 0 0 (by decide)).mono ?_
  rintro e w9 ⟨rfl, hb⟩
  replace HS := Lib.hid (HS.out.below_ hb)
  clear hb
  go_wp2_with fail
  refine HS.out.batches.mono ?_
  rintro e w10 ⟨A, c, vs, rfl, hown, hfr, hb⟩
  replace HS := Lib.hid (HS.out.below_ hb)
  obtain ⟨gb, rfl, -, hrow⟩ := row_at hown hfr (by decide)
  obtain ⟨A0, n0, c0, hc0, hr0, -⟩ := hrow 0 [] rfl
  obtain ⟨A1, n1, c1, hc1, hr1, -⟩ := hrow 1 [98] rfl
  have hn0 : n0 = 0 := hr0.len.symm
  subst hn0
  have hcs := conv_string hr1 c1
  have hsa : ((S [98]).toList == [98]) = true := by kernel_rfl
  clear hown hfr hb hr0 hr1 hrow
  go_wp2_with fail
  refine (wakes_any w10).mono ?_
  rintro e w11 ⟨rfl, hb⟩
  have HBZ : Hid (Below w.heap.size w w11) := HS.out.below.trans (hb.mono HS.out.below.size)
  clear hb
  go_wp2_with fail
  go_ret
  exact ⟨rfl, HBZ.out⟩

set_option maxRecDepth 100000 in
theorem lifted (os : Os) (started : os.Started) (H : Type) (enc : TypeId × Value → H) :
    ReturnsInHanded {} Try.checked os 8 .any (Rows.logKnownSpec.pre6 enc Try.prog Try.f8 Rows.logKnownRow.domain false) (Rows.logKnownSpec.post enc Try.prog Try.f8 false true false false) := by
  refine returnsInHanded_of_change (C := Try.checked) own started (by kernel_rfl) Try.func8
    (ChangeSpec.witness6 (enc := enc) (C := Try.checked) false ⟨#[], #[], []⟩ 8 (by kernel_rfl) (by kernel_rfl) (by kernel_rfl) (by kernel_rfl)) ?_
  intro W base args ds gs before hval0 hW hcnd _
  have hW' := hW
  obtain ⟨p, q, hA0, hV, rfl, hfz, hnd⟩ := hW
  have hA : DataW.TrodAll enc Try.prog W 0 (fun _ => true) true Try.f8.params.toList args.toList ds p := hA0
  rw [Try.params8] at hA
  obtain ⟨rfl, rfl, rfl⟩ := trodAll_none hA
  obtain ⟨rfl, rfl⟩ := trodVars_none hV

  refine (walk W).mono fun e W' ⟨he, hb⟩ => ?_
  subst he
  exact ⟨_, rfl, post_true laidOut (by kernel_rfl) ty_bool (by kernel_rfl) rfl hW' hb rfl⟩

theorem over : Rows.logKnownRow.holds Try.pinned (OpenSpec.ofChange Rows.logKnownSpec) :=
  OpenClaim.holds_of_wide 8 Try.f8 rfl rfl rfl rfl rfl rfl rfl ⟨rfl, rfl, rfl, rfl, rfl⟩ rfl rfl rfl rfl rfl (by kernel_rfl) Try.func8 (by kernel_rfl)
    (of_decide_eq_true (by kernel_rfl)) (by unfold Func.isWrapper; first | (rw [if_pos (by decide +kernel)]; kernel_rfl) | (rw [if_neg (by decide +kernel)]; exact ⟨rfl, rfl⟩))
    (fun os started H enc _ => lifted os started H enc)

theorem proved : Rows.LogKnownSaid :=
  over
end Go.Proofs.Ytikpedkckijioaa.logKnown
