/- Numbers as texts: internal/strconv.FormatUint at base ten, ten digits. -/
import Derived.Test.YtplbckibogmicaaGreatDoorShelf
import Derived.Test.YtplbckibogmicaaGreatDoorPathLib
import Derived.Test.YtplbckibogmicaaGreatDoorOpPure
import Derived.Lib.AppendIntMem
import Derived.Lib.ItoaMem
import Derived.Lib.ItoaWalk
import Derived.Lib.Walk
import Derived.Lib.Slices
import Derived.BigCall
import Derived.BigGuard
namespace Go.Proofs.YtplbckibogmicaaGreatDoor.Opn
open Go.RowKit Go.Sort Path Tree

/-- The table of powers of ten is as Go's text lays it. -/
def Tab (w : World) : Prop := Lib.TabIs Tryz.prog w "internal/strconv.uint64pow10" .u64 Lib.pow10Tab
theorem Tab.below {w w' : World} (h : Tab w) (hb : Below w.heap.size w w') : Tab w' := Lib.tabBelow_of_tabIs h w' hb

theorem ty_arr : Tryz.prog.underlying 188 = some (.array 24 5) := by kernel_rfl
theorem ty_u8s : Tryz.prog.underlying 33 = some (.slice 5) := by kernel_rfl
theorem ty_u8 : Tryz.prog.underlying 5 = some (.int .u8) := by kernel_rfl
theorem ty_st : Tryz.prog.underlying 9 = some .string := by kernel_rfl
set_option maxRecDepth 100000 in
theorem fmt_small (u : Nat) (hu : u < 100) (w : World) : Calls Tryz.prog 146 #[.int .u64 (u : Int), .int .i64 10] w fun e w' => e = .returned (.string ⟨(Lib.decDigits u).toArray⟩) ∧ Below w.heap.size w w' := by
  have c := Tryz.internal_strconv_small u hu
  have hv : (u : Int) < 100 := by omega
  go_enter Tryz.func146, Tryz.ntmps146
  go_wp2_with (go_at_call 163; refine (c _).mono ?_; rintro e w' ⟨rfl, rfl⟩)
  go_ret
  exact ⟨rfl, Below.refl _ _⟩
set_option maxHeartbeats 1000000 in
set_option maxRecDepth 100000 in
theorem fmt_big (u : Nat) (hu : 100 ≤ u) (hu64 : u < 18446744073709551616) (w : World) (ht : Tab w) : Calls Tryz.prog 146 #[.int .u64 (u : Int), .int .i64 10] w fun e w' => e = .returned (.string ⟨(Lib.decDigits u).toArray⟩) ∧ Below w.heap.size w w' := by
  have hu1 : 1 ≤ u := by omega
  have hnd20 : Lib.nDigits u ≤ 20 := by have := Lib.numDigits_eq u hu1 hu64; split at this <;> omega
  have hal : Tryz.prog.arrayLen 188 = 24 := by simp [Program.arrayLen]
  have hsl : ∀ W, (Instr.sliceAt 188 (.pointer (some ⟨w.heap.size, 0, none⟩)) none (some (.int .i64 (Lib.nDigits u : Int))) none).run Tryz.prog W = .ok (.slice (some ⟨w.heap.size, 0, none⟩) (Lib.nDigits u) 24) W := fun W => by
    rw [run_sliceAt_array_h W 188 ⟨w.heap.size, 0, none⟩ (by simp [Program.arrayLen, Program.elem]) .i64 (Lib.nDigits u : Int) (by omega) (by rw [hal]; omega)]
    go_simp
  have hH0 := Lib.holds_zero0 w 188 (Lib.nDigits u) (by omega)
  have hfmt := Tryz.internal_strconv_formatBase10 w.heap.size 0 24 u (Array.replicate (Lib.nDigits u) 0) (w.alloc (.cells Lib.zeros24 188)) hH0 (by rw [Array.size_replicate]; exact Lib.lt_pow_nDigits u) hu64 (by rw [Array.size_replicate]; omega)
  rw [Array.size_replicate] at hfmt
  have HH0 := Lib.hid hH0
  have iu : (100 : Int) ≤ (u : Int) := by omega
  have HT := Lib.hid ht
  clear hH0 hal ht
  go_enter Tryz.func146, Tryz.ntmps146
  go_wp2_with (go_at_call 164; refine (Tryz.internal_strconv_numDigits u hu1 hu64 _ (Lib.tabIs_alloc HT.out _)).mono ?_; rintro e w' ⟨rfl, rfl⟩)
  go_at_call 165
  refine hfmt.mono ?_
  rintro e w' ⟨rfl, k, v', dk, rfl, hF⟩
  have hcv : (convert 33 9 (.slice (some ⟨w.heap.size, 0, none⟩) (Lib.nDigits u) 24)).run Tryz.prog ((putRow (fun (b : UInt8) => Value.int .u8 (b.toNat : Int)) (w.alloc (.cells Lib.zeros24 188)) w.heap.size 0 dk).drewN k) = .ok (.string ⟨(Lib.decDigits u).toArray⟩) ((putRow (fun (b : UInt8) => Value.int .u8 (b.toNat : Int)) (w.alloc (.cells Lib.zeros24 188)) w.heap.size 0 dk).drewN k) := by
    have h := run_convert_bytes_back (P := Tryz.prog) ((putRow (fun (b : UInt8) => Value.int .u8 (b.toNat : Int)) (w.alloc (.cells Lib.zeros24 188)) w.heap.size 0 dk).drewN k) 33 9 5 ⟨w.heap.size, 0, none⟩ 24 (Lib.decDigits u) ty_u8s ty_u8 ty_st (fun j hj => by
      rw [Lib.row_is_numeral hF j hj, Lib.add_plain, World.cell?_drewN]
      exact cell?_putRow (fun (b : UInt8) => Value.int .u8 (b.toNat : Int)) _ w.heap.size 0 _ dk HH0.out (by rw [hF.size, Array.size_replicate]) j (by rw [hF.size]; rw [Lib.decDigits_length] at hj; exact hj))
    rw [Lib.decDigits_length] at h
    exact h
  have HF := Lib.hid hF
  clear hF hfmt
  go_wp2
  go_ret
  obtain ⟨os, eo⟩ := Lib.fin_at w (.cells Lib.zeros24 188) dk k 0
  refine ⟨rfl, ?_⟩
  rw [eo]
  exact Lib.below_grow _ _ (Nat.le_refl _) _ _
theorem fmt_any (u : Nat) (hu64 : u < 18446744073709551616) (w : World) (ht : Tab w) : Calls Tryz.prog 146 #[.int .u64 (u : Int), .int .i64 10] w fun e w' => e = .returned (.string ⟨(Lib.decDigits u).toArray⟩) ∧ Below w.heap.size w w' := by
  by_cases h : u < 100
  · exact fmt_small u h w
  · exact fmt_big u (by omega) hu64 w ht

theorem FormatUint_any (u : Nat) (hu64 : u < 18446744073709551616) (w : World) (ht : Tab w) : Calls Tryz.prog 125 #[.int .u64 (u : Int), .int .i64 10] w fun e w' => e = .returned (.string ⟨(Lib.decDigits u).toArray⟩) ∧ Below w.heap.size w w' := by
  have c1 := fmt_any u hu64 w ht
  clear ht
  go_enter Tryz.func125, Tryz.ntmps125
  go_wp2_with fail
  refine c1.mono ?_
  rintro e w1 ⟨rfl, hb⟩
  have HB := Lib.hid hb
  clear hb c1
  go_wp2_with fail
  go_ret
  exact ⟨rfl, HB.out⟩

/-! ### Ten digits -/
theorem dg_top {u : Nat} : ∀ {j : Nat}, Lib.nDigits u ≤ j → u / 10 ^ j % 10 = 0 := by
  intro j h
  have h1 := Lib.lt_pow_nDigits u
  have h2 : u < 10 ^ j := Nat.lt_of_lt_of_le h1 (Nat.pow_le_pow_right (by decide) h)
  rw [Nat.div_eq_of_lt h2]
theorem len_le_ten {u : Nat} (h : u < 4294967296) : Lib.nDigits u ≤ 10 := by
  rcases Nat.lt_or_ge 10 (Lib.nDigits u) with h1 | h1
  · have := Lib.numDigits_eq u
    rcases Nat.lt_or_ge u 10 with h2 | h2
    · rw [Lib.nDigits_small h2] at h1; omega
    · exfalso
      have key : ∀ (k v : Nat), v < 10 ^ k → 0 < k → Lib.nDigits v ≤ k := by
        intro k
        induction k with
        | zero => intro v _ h; omega
        | succ k ih =>
          intro v hv _
          by_cases hv10 : v < 10
          · rw [Lib.nDigits_small hv10]; omega
          · rw [Lib.nDigits_big hv10]
            have hk : 0 < k := by
              rcases Nat.eq_zero_or_pos k with h | h
              · subst h; simp at hv; omega
              · exact h
            have := ih (v / 10) (by rw [Nat.pow_succ] at hv; omega) hk
            omega
      have := key 10 u (by omega) (by omega)
      omega
  · exact h1
theorem ten_eq {u : Nat} (h : u < 4294967296) : Lib.repeatL [48] (10 - Lib.nDigits u) ++ Lib.decDigits u = ten u := by
  have hl := len_le_ten h
  have hr : Lib.repeatL [48] (10 - Lib.nDigits u) = List.replicate (10 - Lib.nDigits u) 48 := by
    have := Lib.repeatL_replicate 48 1 (10 - Lib.nDigits u)
    simpa using this
  rw [hr, Lib.decDigits_eq]
  refine List.ext_getElem (by simp [ten]; omega) fun i h1 h2 => ?_
  have hi : i < 10 := by simpa [ten] using h2
  have e2 : ∀ h : i < (ten u).length, (ten u)[i]'h = UInt8.ofNat (48 + u / 10 ^ (9 - i) % 10) := fun h => by simp [ten]
  rw [e2 h2]
  by_cases hlt : i < 10 - Lib.nDigits u
  · rw [List.getElem_append_left (by simpa using hlt), List.getElem_replicate, dg_top (by omega)]
    rfl
  · rw [List.getElem_append_right (by simpa using hlt)]
    simp only [List.getElem_map, List.getElem_range, List.length_replicate, Lib.dg]
    rw [show Lib.nDigits u - 1 - (i - (10 - Lib.nDigits u)) = 9 - i by omega]
set_option maxRecDepth 100000 in
theorem ten_any (n : Int) (h0 : 0 ≤ n) (h1 : n < 4294967296) (w : World) (ht : Tab w) : Calls Tryz.prog 111 #[.int .u32 n] w fun e w' => e = .returned (.string (S (ten n.toNat))) ∧ Below w.heap.size w w' := by
  obtain ⟨u, rfl⟩ : ∃ u : Nat, n = u := ⟨n.toNat, by omega⟩
  have hu : u < 4294967296 := by omega
  have hl := len_le_ten hu
  have hlen := Lib.decDigits_length u
  have c1 := FormatUint_any u (by omega) w ht
  have HE := Lib.hid (ten_eq hu)
  have hsz : (⟨(Lib.decDigits u).toArray⟩ : ByteArray).size = Lib.nDigits u := by
    show (Lib.decDigits u).toArray.size = _
    simp [hlen]
  have HLN := Lib.hid hlen
  clear ht hlen
  obtain ⟨nd, hnd⟩ : ∃ nd, nd = Lib.nDigits u := ⟨_, rfl⟩
  rw [← hnd] at hl hsz
  obtain ⟨sv, hsv⟩ : ∃ sv, sv = (⟨(Lib.decDigits u).toArray⟩ : ByteArray) := ⟨_, rfl⟩
  rw [← hsv] at hsz c1
  have HSV := Lib.hid hsv
  have HND := Lib.hid hnd
  have c2 := fun W => Tryz.strings_Repeat ⟨#[48]⟩ (10 - nd) W (by omega) (by show 1 * (10 - nd) ≤ _; omega)
  rw [show (((10 - nd : Nat)) : Int) = 10 - (nd : Int) by omega] at c2
  obtain ⟨rv, hrv⟩ : ∃ rv, rv = (⟨(Lib.repeatL (⟨#[48]⟩ : ByteArray).data.toList (10 - nd)).toArray⟩ : ByteArray) := ⟨_, rfl⟩
  rw [← hrv] at c2
  have hrs : rv.size = 10 - nd := by
    rw [hrv]
    show (Lib.repeatL [48] (10 - nd)).toArray.size = _
    simp [Lib.repeatL_length]
  have HCAT : Hid (¬ 9223372036854775807 < rv.size + sv.size) := by
    show ¬ _
    omega
  have HRV := Lib.hid hrv
  clear hrv hrs
  have hw1 : IntKind.u64.wrap (u : Int) = (u : Int) := by rw [IntKind.wrap_u64]; omega
  clear hsv hnd h0 h1 hu
  go_enter Tryz.func111, Tryz.ntmps111
  go_wp2_with fail
  refine c1.mono ?_
  rintro e w1 ⟨rfl, hb1⟩
  have HB1 := Lib.hid hb1
  clear hb1 c1
  go_wp2_with fail
  refine (c2 _).mono ?_
  rintro e w2 ⟨rfl, hb2⟩
  have HB2 := Lib.hid (HB1.out.trans (hb2.mono HB1.out.size))
  clear hb2 c2 hsz hw1 hl
  have hcat := HCAT.out
  go_wp2_with fail
  go_ret
  refine ⟨?_, HB2.out⟩
  have e : rv ++ sv = S (ten u) := by
    rw [HRV.out, HSV.out, HND.out, ← HE.out]
    unfold S
    apply ByteArray.ext
    simp
  show Ending.returned (.string (rv ++ sv)) = _
  rw [e]
  rfl
end Go.Proofs.YtplbckibogmicaaGreatDoor.Opn
