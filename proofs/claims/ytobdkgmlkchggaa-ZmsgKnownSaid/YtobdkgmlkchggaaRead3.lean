/- Count, and the calls of a nil reader. -/
import Derived.Test.YtobdkgmlkchggaaRead2
namespace Go.Proofs.Ytobdkgmlkchggaa
open Go.RowKit

/-- What Count reads. -/
def countS (most : Int) (s : List UInt8 × Bool) : Nat × (List UInt8 × Bool) :=
  if most < 0 ∨ most < (val (takeS 8 s).1 : Int) then (0, ((takeS 8 s).2.1, true)) else (val (takeS 8 s).1, (takeS 8 s).2)

set_option maxHeartbeats 400000 in
theorem rCount_any (r : Nat) (most : Int) (s : List UInt8 × Bool) (w : World) (h : Rdr w r s) (hm : most ≤ 9223372036854775807) (hm2 : -9223372036854775808 ≤ most) :
    Calls Try.prog 27 #[.pointer (some ⟨r, 0, none⟩), .int .i64 most] w (Red w r (.int .i64 (countS most s).1) (countS most s).2) := by
  have H := Lib.hid h
  have hv := takeS_val8 8 s (by omega)
  clear h
  by_cases h0 : most < 0
  · have hs : countS most s = (0, ((takeS 8 s).2.1, true)) := by unfold countS; rw [if_pos (.inl h0)]
    rw [hs]
    clear hs
    go_enter Try.func27, Try.ntmps27
    go_wp2_with fail
    refine (number_any r 8 8 s w H.out rfl (by omega)).mono ?_
    rintro e w1 ⟨rfl, h1, h2⟩
    have H1 := Lib.hid h1
    have H2 := Lib.hid h2
    clear h1 h2
    go_wp2_with fail
    refine (rBad_any r _ w1 H1.out).mono ?_
    rintro e w2 ⟨rfl, h1, h2⟩
    have H3 := Lib.hid h1
    have H4 := Lib.hid h2
    clear h1 h2
    go_wp2_with fail
    go_ret
    exact ⟨rfl, H3.out, grown_trans H2.out H4.out⟩
  · by_cases h1 : most < (val (takeS 8 s).1 : Int)
    · have hs : countS most s = (0, ((takeS 8 s).2.1, true)) := by unfold countS; rw [if_pos (.inr h1)]
      rw [hs]
      clear hs
      go_enter Try.func27, Try.ntmps27
      go_wp2_with fail
      refine (number_any r 8 8 s w H.out rfl (by omega)).mono ?_
      rintro e w1 ⟨rfl, h1', h2⟩
      have H1 := Lib.hid h1'
      have H2 := Lib.hid h2
      clear h1' h2
      go_wp2_with fail
      refine (rBad_any r _ w1 H1.out).mono ?_
      rintro e w2 ⟨rfl, h1', h2⟩
      have H3 := Lib.hid h1'
      have H4 := Lib.hid h2
      clear h1' h2
      go_wp2_with fail
      go_ret
      exact ⟨rfl, H3.out, grown_trans H2.out H4.out⟩
    · have hs : countS most s = (val (takeS 8 s).1, (takeS 8 s).2) := by unfold countS; rw [if_neg (by omega)]
      rw [hs]
      clear hs
      go_enter Try.func27, Try.ntmps27
      go_wp2_with fail
      refine (number_any r 8 8 s w H.out rfl (by omega)).mono ?_
      rintro e w1 ⟨rfl, h1', h2⟩
      have H1 := Lib.hid h1'
      have H2 := Lib.hid h2
      clear h1' h2
      go_wp2_with fail
      go_ret
      exact ⟨rfl, H1.out, H2.out⟩

set_option maxHeartbeats 400000 in
theorem nByte (w : World) : Calls Try.prog 25 #[.pointer none] w fun e w' => e = .returned (.int .u8 0) ∧ w = w' := by
  go_enter Try.func25, Try.ntmps25
  go_wp2_with fail
  refine (number_nil _ w).mono ?_
  rintro e w' ⟨rfl, rfl⟩
  go_wp2_with fail
  go_ret
  exact ⟨rfl, rfl⟩
set_option maxHeartbeats 400000 in
theorem nUint (w : World) : Calls Try.prog 26 #[.pointer none] w fun e w' => e = .returned (.int .u64 0) ∧ w = w' := by
  go_enter Try.func26, Try.ntmps26
  go_wp2_with fail
  refine (number_nil _ w).mono ?_
  rintro e w' ⟨rfl, rfl⟩
  go_wp2_with fail
  go_ret
  exact ⟨rfl, rfl⟩
set_option maxHeartbeats 400000 in
theorem nText (w : World) : Calls Try.prog 28 #[.pointer none] w fun e w' => e = .returned (.slice none 0 0) ∧ w = w' := by
  go_enter Try.func28, Try.ntmps28
  go_wp2_with fail
  refine (number_nil _ w).mono ?_
  rintro e w' ⟨rfl, rfl⟩
  go_wp2_with fail
  refine (readB_nil _ _ w).mono ?_
  rintro e w' ⟨rfl, rfl⟩
  go_wp2_with fail
  go_ret
  exact ⟨rfl, rfl⟩
set_option maxHeartbeats 400000 in
theorem nBad (w : World) : Calls Try.prog 42 #[.pointer none] w fun e w' => e = .returned (.tuple #[]) ∧ w = w' := by
  go_enter Try.func42, Try.ntmps42
  go_wp2_with fail
  go_end0
  exact ⟨rfl, rfl⟩
set_option maxHeartbeats 400000 in
theorem nDone (w : World) : Calls Try.prog 29 #[.pointer none] w fun e w' => e = .returned (.int .i64 8) ∧ w = w' := by
  go_enter Try.func29, Try.ntmps29
  go_wp2_with fail
  go_ret
  exact ⟨rfl, rfl⟩
set_option maxHeartbeats 400000 in
theorem nCount (w : World) : Calls Try.prog 27 #[.pointer none, .int .i64 3] w fun e w' => e = .returned (.int .i64 0) ∧ w = w' := by
  go_enter Try.func27, Try.ntmps27
  go_wp2_with fail
  refine (number_nil _ w).mono ?_
  rintro e w' ⟨rfl, rfl⟩
  go_wp2_with fail
  go_ret
  exact ⟨rfl, rfl⟩
end Go.Proofs.Ytobdkgmlkchggaa
