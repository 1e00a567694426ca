/- PathKnown: the chapter's examples, limits and runes, closed: the call returns true, and nothing that was there has turned. No conditions. -/
import Derived.Test.YtckkkpkjldcncaaDoorPathGoes
import Derived.Test.YtckkkpkjldcncaaDoorPathFrame
import Derived.WalkSpells
namespace Go.Proofs.YtckkkpkjldcncaaDoor.pathKnown
open Go.ChangeShapes Go.WideShapes Go.ChangeAt Go.RowKit Path

def good : List (List UInt8) := [[47], [47, 97], [47, 97, 47, 98], [47, 46, 46, 46], [47, 195, 164, 47, 230, 151, 165, 230, 156, 172], [47, 32], [47, 194, 128], [47, 244, 143, 191, 191]]
def bad : List (List UInt8) := [[], [97], [47, 97, 47], [47, 47], [47, 46], [47, 97, 47, 46, 46, 47, 98], [47, 0], [47, 31], [47, 127], [47, 239, 191, 189], [47, 255], [47, 237, 160, 128], [47, 192, 128], [47, 97, 10]]
theorem good_ok : ∀ k (h : k < good.length), checkE good[k] = 0 ∧ (good[k]).length ≤ 1000000 := by
  have : good.all (fun s => checkE s == 0 && decide (s.length ≤ 1000000)) = true := by decide +kernel
  intro k h
  have := List.all_eq_true.1 this good[k] (List.getElem_mem h)
  simpa using this
theorem bad_ok : ∀ k (h : k < bad.length), checkE bad[k] = 30 ∧ (bad[k]).length ≤ 1000000 := by
  have : bad.all (fun s => checkE s == 30 && decide (s.length ≤ 1000000)) = true := by decide +kernel
  intro k h
  have := List.all_eq_true.1 this bad[k] (List.getElem_mem h)
  simpa using this
theorem rdv_lit (w : World) (e : TypeId) (vs : List Value) : RdV (w.alloc (.cells vs.toArray e)) (some ⟨w.heap.size, 0, none⟩) vs.length vs :=
  ⟨rfl, fun _ => ⟨_, rfl, fun j b hb => by
    have hh : (w.alloc (.cells vs.toArray e)).heap[w.heap.size]? = some (.cells vs.toArray e (0, 0)) := heap_alloc_new w _
    have : ((⟨w.heap.size, 0, none⟩ : Addr).add j) = ⟨w.heap.size, j, none⟩ := by
      unfold Addr.add
      split
      · next h => rw [h]
      · simp
    rw [this]
    unfold World.cell?
    rw [hh]
    simpa using hb⟩⟩
theorem lit_cell {w : World} {A : Addr} {n : Nat} {ss : List (List UInt8)} (h : RdV w (some A) n (sv ss)) {k : Nat} (hk : k < ss.length) : w.cell? (A.add k) = some (.string (S ss[k])) := by
  have hn : n = ss.length := by rw [← h.len, sv_length]
  obtain ⟨_, e, hc⟩ := h.cells (by omega)
  injection e with e
  subst e
  exact hc k _ (sv_get hk)
theorem add_plain (g k : Nat) : (⟨g, 0, none⟩ : Addr).add k = ⟨g, k, none⟩ := by
  unfold Addr.add
  split
  · next h => rw [h]
  · simp

def xs (k : Nat) : List UInt8 := List.replicate k 120
/-- A loop over a literal row: the place, and that nothing that was there has turned. -/
def Rel (n : Nat) (w0 : World) (i : Value) (wr : World) : Prop := ∃ k : Nat, k ≤ n ∧ i = .int .i64 (k : Int) ∧ Below w0.heap.size w0 wr
def RelX (s : Value) : Prop := ∃ k : Nat, k ≤ 63 ∧ s = .string (S (47 :: xs k))
def size : Value → Nat
  | .string b => b.size
  | _ => 0

set_option maxRecDepth 8000 in
set_option maxHeartbeats 4000000 in
theorem walk (w : World) : Calls Tryd.prog 8 #[] w fun e w' => e = .returned (.bool true) ∧ Below w.heap.size w w' := by
  have hsl := S_list
  have J1 : Hid (joinF [47] (xs 63) = (47 :: xs 63, 0)) := by show _ = _; decide +kernel
  have J2 : Hid (joinF [47] (xs 64) = ([], 3)) := by show _ = _; decide +kernel
  have J3 : Hid (joinF [47, 120] (xs 63) = ([], 3)) := by show _ = _; decide +kernel
  have J4 : Hid (joinF [47, 97] [46, 46] = ([], 30)) := by show _ = _; decide +kernel
  have J5 : Hid (joinF [47] [97] = ([47, 97], 0)) := by show _ = _; decide +kernel
  have C1 : Hid (checkE (47 :: xs 63) = 0) := by show _ = _; decide +kernel
  have C2 : Hid (checkE (47 :: xs 64) = 30) := by show _ = _; decide +kernel
  have N1 : Hid (nameE (47 :: xs 64) = 30) := by show _ = _; decide +kernel
  have N2 : Hid (nameE (xs 65) = 0) := by show _ = _; decide +kernel
  have PA : Hid (parentF [47] = [47]) := by show _ = _; decide +kernel
  have BA : Hid (baseF [47] = []) := by show _ = _; decide +kernel
  have PL : Hid (partsL [47] = []) := by show _ = _; decide +kernel
  have U1 : Hid (underF [47, 97] [47, 97, 47, 98] = false) := by show _ = _; decide +kernel
  have U2 : Hid (underF [47, 97] [47] = true) := by show _ = _; decide +kernel
  have U3 : Hid (underF [97] [47] = false) := by show _ = _; decide +kernel
  have B0 := Lib.hid ((Below.refl w.heap.size w).alloc (Nat.le_refl _) (.cells #[.string ⟨#[47]⟩, .string ⟨#[47, 97]⟩, .string ⟨#[47, 97, 47, 98]⟩, .string ⟨#[47, 46, 46, 46]⟩, .string ⟨#[47, 195, 164, 47, 230, 151, 165, 230, 156, 172]⟩, .string ⟨#[47, 32]⟩, .string ⟨#[47, 194, 128]⟩, .string ⟨#[47, 244, 143, 191, 191]⟩] 9))
  have HR0 := Lib.hid (rdv_lit w 9 (sv good))
  go_enter Tryd.func8, Tryd.ntmps8
  go_wp2_with fail
  go_loopw [2] (fun i wr => Rel 8 (w.alloc (.cells (sv good).toArray 9)) i wr) (fun i _ => 8 - (intOf i).toNat)
  case atStart => exact ⟨0, by omega, rfl, Below.refl _ _⟩
  case round =>
    obtain ⟨k, hk, rfl, hbel⟩ := hrel
    have B1 := Lib.hid (B0.out.trans (hbel.mono B0.out.size))
    have HB1 := Lib.hid hbel
    clear hbel
    by_cases hlt : k < 8
    · have hkg : k < good.length := hlt
      have hc := lit_cell (HR0.out.below HB1.out) hkg
      rw [add_plain] at hc
      obtain ⟨hok, hle⟩ := good_ok k hkg
      have HOK := Lib.hid hok
      have HLE := Lib.hid hle
      clear hok hle
      generalize good[k] = g at *
      go_wp2_with fail
      refine (Check_any g wr HLE.out).mono ?_
      rw [HOK.out]
      rintro e w2 ⟨rfl, hb⟩
      have HB2 := Lib.hid (HB1.out.trans (hb.mono HB1.out.size))
      clear hb
      go_wp2_with fail
      exact ⟨⟨k + 1, by omega, rfl, HB2.out⟩, by simp [intOf]; omega⟩
    · obtain rfl : k = 8 := by omega
      obtain ⟨wo, rfl⟩ : ∃ wo : World, wo = wr := ⟨_, rfl⟩
      have B2 := Lib.hid (B1.out.alloc B1.out.size (.cells #[.string ⟨#[]⟩, .string ⟨#[97]⟩, .string ⟨#[47, 97, 47]⟩, .string ⟨#[47, 47]⟩, .string ⟨#[47, 46]⟩, .string ⟨#[47, 97, 47, 46, 46, 47, 98]⟩, .string ⟨#[47, 0]⟩, .string ⟨#[47, 31]⟩, .string ⟨#[47, 127]⟩, .string ⟨#[47, 239, 191, 189]⟩, .string ⟨#[47, 255]⟩, .string ⟨#[47, 237, 160, 128]⟩, .string ⟨#[47, 192, 128]⟩, .string ⟨#[47, 97, 10]⟩] 9))
      have HR2 := Lib.hid (rdv_lit wo 9 (sv bad))
      clear HB1
      go_wp2_with fail
      go_loopw [4] (fun i wr => Rel 14 (wo.alloc (.cells (sv bad).toArray 9)) i wr) (fun i _ => 14 - (intOf i).toNat)
      case atStart => exact ⟨0, by omega, rfl, Below.refl _ _⟩
      case round =>
        obtain ⟨k, hk, rfl, hbel⟩ := hrel
        have B3 := Lib.hid (B2.out.trans (hbel.mono B2.out.size))
        have HB3 := Lib.hid hbel
        clear hbel
        by_cases hlt : k < 14
        · have hkg : k < bad.length := hlt
          have hc := lit_cell (HR2.out.below HB3.out) hkg
          rw [add_plain] at hc
          obtain ⟨hok, hle⟩ := bad_ok k hkg
          have HOK := Lib.hid hok
          have HLE := Lib.hid hle
          clear hok hle
          generalize bad[k] = g at *
          go_wp2_with fail
          refine (Check_any g wr HLE.out).mono ?_
          rw [HOK.out]
          rintro e w2 ⟨rfl, hb⟩
          have HB4 := Lib.hid (HB3.out.trans (hb.mono HB3.out.size))
          clear hb
          go_wp2_with fail
          exact ⟨⟨_, _, _, _, _, _, _, _, _, _, _, _, _, _, ⟨k + 1, by omega, rfl, HB4.out⟩, rfl⟩, by simp [intOf]; omega⟩
        · obtain rfl : k = 14 := by omega
          clear HB3
          go_wp2_with fail
          go_loop [5] (fun s => RelX s) (fun s => 64 - size s)
          case atStart => exact ⟨0, by omega, rfl⟩
          case round =>
            obtain ⟨k, hk, rfl⟩ := hrel
            have hz1 : ((S (47 :: xs k)).size : Int) = (k : Int) + 1 := by rw [S_size]; simp [xs]
            have hz2 : (S (47 :: xs k)).size = k + 1 := by rw [S_size]; simp [xs]
            have HNX : Hid (S (47 :: xs k) ++ ⟨#[120]⟩ = S (47 :: xs (k + 1))) := by
              show _ = _
              rw [show (⟨#[120]⟩ : ByteArray) = S [120] from rfl, S_append]
              congr 1
              simp [xs, List.replicate_succ']
            have HZ3 : Hid ((S (47 :: xs (k + 1))).size = k + 2) := by show _ = _; rw [S_size]; simp [xs]
            by_cases hlt : k < 63
            · generalize hs0 : S (47 :: xs k) = s0 at *
              clear hs0
              go_wp2_with fail
              refine ⟨⟨k + 1, by omega, by rw [HNX.out]⟩, ?_⟩
              rw [HNX.out]
              unfold size
              simp only
              rw [HZ3.out, hz2]
              omega
            · obtain rfl : k = 63 := by omega
              have HX1 : Hid ((S (47 :: xs 63)).extract 1 64 = S (xs 63)) := by show _ = _; rw [S_extract]; rfl
              have hx1 := HX1.out
              have HA1 : Hid (S (xs 63) ++ ⟨#[120]⟩ = S (xs 64)) := by show _ = _; rw [show (⟨#[120]⟩ : ByteArray) = S [120] from rfl, S_append]; rfl
              have HA2 : Hid (S (xs 63) ++ ⟨#[120, 120]⟩ = S (xs 65)) := by show _ = _; rw [show (⟨#[120, 120]⟩ : ByteArray) = S [120, 120] from rfl, S_append]; rfl
              have HA3 : Hid (S (47 :: xs 63) ++ ⟨#[120]⟩ = S (47 :: xs 64)) := HNX.out
              have hz4 : (S (xs 63)).size = 63 := by rw [S_size]; simp [xs]
              have HSL := Lib.hid hsl
              clear HNX HZ3 hsl
              generalize hs0 : S (47 :: xs 63) = s0 at *
              generalize hs1 : S (xs 63) = s1 at *
              have HS0 := Lib.hid hs0
              have HS1 := Lib.hid hs1
              clear hs0 hs1
              have hsl := HSL.out
              have KJ1 : Hid (∀ W, Calls Tryd.prog 20 #[.string ⟨#[47]⟩, .string s1] W fun e w' => e = .returned (.tuple #[.string (S (47 :: xs 63)), .int .i64 0]) ∧ Below W.heap.size W w') := fun W => by
                have h := Join_any [47] (xs 63) W (by decide +kernel) (by decide +kernel)
                rw [J1.out] at h
                rw [HS1.out] at h
                exact h
              have KJ2 : Hid (∀ W, Calls Tryd.prog 20 #[.string ⟨#[47]⟩, .string (s1 ++ ⟨#[120]⟩)] W fun e w' => e = .returned (.tuple #[.string (S []), .int .i64 3]) ∧ Below W.heap.size W w') := fun W => by
                have h := Join_any [47] (xs 64) W (by decide +kernel) (by decide +kernel)
                rw [J2.out] at h
                rw [← HA1.out] at h
                exact h
              have KJ3 : Hid (∀ W, Calls Tryd.prog 20 #[.string ⟨#[47, 120]⟩, .string s1] W fun e w' => e = .returned (.tuple #[.string (S []), .int .i64 3]) ∧ Below W.heap.size W w') := fun W => by
                have h := Join_any [47, 120] (xs 63) W (by decide +kernel) (by decide +kernel)
                rw [J3.out] at h
                rw [HS1.out] at h
                exact h
              have KJ4 : Hid (∀ W, Calls Tryd.prog 20 #[.string ⟨#[47, 97]⟩, .string ⟨#[46, 46]⟩] W fun e w' => e = .returned (.tuple #[.string (S []), .int .i64 30]) ∧ Below W.heap.size W w') := fun W => by
                have h := Join_any [47, 97] [46, 46] W (by decide +kernel) (by decide +kernel)
                rw [J4.out] at h
                exact h
              have KJ5 : Hid (∀ W, Calls Tryd.prog 20 #[.string ⟨#[47]⟩, .string ⟨#[97]⟩] W fun e w' => e = .returned (.tuple #[.string (S [47, 97]), .int .i64 0]) ∧ Below W.heap.size W w') := fun W => by
                have h := Join_any [47] [97] W (by decide +kernel) (by decide +kernel)
                rw [J5.out] at h
                exact h
              have KC1 : Hid (∀ W, Calls Tryd.prog 13 #[.string s0] W fun e w' => e = .returned (.int .i64 0) ∧ Below W.heap.size W w') := fun W => by
                have h := Check_any (47 :: xs 63) W (by decide +kernel)
                rw [C1.out] at h
                rw [HS0.out] at h
                exact h
              have KC2 : Hid (∀ W, Calls Tryd.prog 13 #[.string (s0 ++ ⟨#[120]⟩)] W fun e w' => e = .returned (.int .i64 30) ∧ Below W.heap.size W w') := fun W => by
                have h := Check_any (47 :: xs 64) W (by decide +kernel)
                rw [C2.out] at h
                rw [← HA3.out] at h
                exact h
              have KN1 : Hid (∀ W, Calls Tryd.prog 10 #[.string (s0 ++ ⟨#[120]⟩)] W fun e w' => e = .returned (.int .i64 30) ∧ Below W.heap.size W w') := fun W => by
                have h := Name_any (47 :: xs 64) W (by decide +kernel)
                rw [N1.out] at h
                rw [← HA3.out] at h
                exact h
              have KN2 : Hid (∀ W, Calls Tryd.prog 10 #[.string (s1 ++ ⟨#[120, 120]⟩)] W fun e w' => e = .returned (.int .i64 0) ∧ Below W.heap.size W w') := fun W => by
                have h := Name_any (xs 65) W (by decide +kernel)
                rw [N2.out] at h
                rw [← HA2.out] at h
                exact h
              have KPA : Hid (∀ W, Calls Tryd.prog 15 #[.string ⟨#[47]⟩] W fun e w' => e = .returned (.string (S [47])) ∧ Below W.heap.size W w') := fun W => by
                have h := Parent_any [47] W (by decide +kernel)
                rw [PA.out] at h
                exact h
              have KBA : Hid (∀ W, Calls Tryd.prog 16 #[.string ⟨#[47]⟩] W fun e w' => e = .returned (.string (S [])) ∧ Below W.heap.size W w') := fun W => by
                have h := Base_any [47] W (by decide +kernel)
                rw [BA.out] at h
                exact h
              have KU1 : Hid (∀ W, Calls Tryd.prog 21 #[.string ⟨#[47, 97]⟩, .string ⟨#[47, 97, 47, 98]⟩] W fun e w' => e = .returned (.bool false) ∧ Below W.heap.size W w') := fun W => by
                have h := Under_any [47, 97] [47, 97, 47, 98] W (by decide +kernel) (by decide +kernel)
                rw [U1.out] at h
                exact h
              have KU2 : Hid (∀ W, Calls Tryd.prog 21 #[.string ⟨#[47, 97]⟩, .string ⟨#[47]⟩] W fun e w' => e = .returned (.bool true) ∧ Below W.heap.size W w') := fun W => by
                have h := Under_any [47, 97] [47] W (by decide +kernel) (by decide +kernel)
                rw [U2.out] at h
                exact h
              have KU3 : Hid (∀ W, Calls Tryd.prog 21 #[.string ⟨#[97]⟩, .string ⟨#[47]⟩] W fun e w' => e = .returned (.bool false) ∧ Below W.heap.size W w') := fun W => by
                have h := Under_any [97] [47] W (by decide +kernel) (by decide +kernel)
                rw [U3.out] at h
                exact h
              clear HA1 HA2 HA3 HX1 HS0 HS1
              go_wp2_with fail
              refine (KJ1.out wr).mono ?_
              rintro e w4 ⟨rfl, hb⟩
              have B4 := Lib.hid (B3.out.trans (hb.mono B3.out.size))
              clear hb
              go_wp2_with fail
              refine (KJ2.out w4).mono ?_
              rintro e w5 ⟨rfl, hb⟩
              have B5 := Lib.hid (B4.out.trans (hb.mono B4.out.size))
              clear hb
              go_wp2_with fail
              refine (KJ3.out w5).mono ?_
              rintro e w6 ⟨rfl, hb⟩
              have B6 := Lib.hid (B5.out.trans (hb.mono B5.out.size))
              clear hb
              go_wp2_with fail
              refine (KJ4.out w6).mono ?_
              rintro e w7 ⟨rfl, hb⟩
              have B7 := Lib.hid (B6.out.trans (hb.mono B6.out.size))
              clear hb
              go_wp2_with fail
              refine (KJ5.out w7).mono ?_
              rintro e w8 ⟨rfl, hb⟩
              have B8 := Lib.hid (B7.out.trans (hb.mono B7.out.size))
              clear hb
              go_wp2_with fail
              refine (KC1.out w8).mono ?_
              rintro e w9 ⟨rfl, hb⟩
              have B9 := Lib.hid (B8.out.trans (hb.mono B8.out.size))
              clear hb
              go_wp2_with fail
              refine (KC2.out w9).mono ?_
              rintro e w10 ⟨rfl, hb⟩
              have B10 := Lib.hid (B9.out.trans (hb.mono B9.out.size))
              clear hb
              go_wp2_with fail
              refine (KN1.out w10).mono ?_
              rintro e w11 ⟨rfl, hb⟩
              have B11 := Lib.hid (B10.out.trans (hb.mono B10.out.size))
              clear hb
              go_wp2_with fail
              refine (KN2.out w11).mono ?_
              rintro e w12 ⟨rfl, hb⟩
              have B12 := Lib.hid (B11.out.trans (hb.mono B11.out.size))
              clear hb
              go_wp2_with fail
              refine (KPA.out w12).mono ?_
              rintro e w13 ⟨rfl, hb⟩
              have B13 := Lib.hid (B12.out.trans (hb.mono B12.out.size))
              clear hb
              go_wp2_with fail
              refine (KBA.out w13).mono ?_
              rintro e w14 ⟨rfl, hb⟩
              have B14 := Lib.hid (B13.out.trans (hb.mono B13.out.size))
              clear hb
              go_wp2_with fail
              refine (Parts_any [47] w14 (by simp)).mono ?_
              rw [PL.out]
              rintro e w15 ⟨Ap, cp, rfl, hb, _⟩
              have B15 := Lib.hid (B14.out.trans (hb.mono B14.out.size))
              clear hb
              go_wp2_with fail
              refine (KU1.out w15).mono ?_
              rintro e w16 ⟨rfl, hb⟩
              have B16 := Lib.hid (B15.out.trans (hb.mono B15.out.size))
              clear hb
              go_wp2_with fail
              refine (KU2.out w16).mono ?_
              rintro e w17 ⟨rfl, hb⟩
              have B17 := Lib.hid (B16.out.trans (hb.mono B16.out.size))
              clear hb
              go_wp2_with fail
              refine (KU3.out w17).mono ?_
              rintro e w18 ⟨rfl, hb⟩
              have B18 := Lib.hid (B17.out.trans (hb.mono B17.out.size))
              clear hb
              go_wp2_with fail
              refine (goes_any w18).mono ?_
              rintro e w19 ⟨rfl, hb⟩
              have B19 := Lib.hid (B18.out.trans (hb.mono B18.out.size))
              clear hb
              go_wp2_with fail
              go_ret
              exact ⟨rfl, B19.out⟩

set_option maxRecDepth 100000 in
theorem lifted (os : Os) (started : os.Started) (H : Type) (enc : TypeId × Value → H) :
    ReturnsInHanded {} Tryd.checked os 8 .any (fun w args => (Rows.pathKnownSpec.pre enc Tryd.prog Tryd.f8 Rows.pathKnownRow.domain false w args ∧ laidMetH Tryd.prog Rows.pathKnownRow.laid w) ∧ sizedMet enc Tryd.prog Tryd.f8 (OpenSpec.ofChange Rows.pathKnownSpec) false w args) (Rows.pathKnownSpec.post enc Tryd.prog Tryd.f8 false true false false) := by
  refine returnsInHanded_of_change_and (C := Tryd.checked) (X := fun w _ => laidMetH Tryd.prog Rows.pathKnownRow.laid w) (fun _ _ _ hh h => h.of_heap hh) own started (by kernel_rfl) Tryd.func8
    (ChangeSpec.witness_shaped (enc := enc) (C := Tryd.checked) (os := os) (X := fun w _ => laidMetH Tryd.prog Rows.pathKnownRow.laid w) false (World.laidAll Tryd.prog os Rows.pathKnownRow.laid) #[] 8 (World.laidAll_os _ _ _)
      (World.shaped_of_ZipB (by kernel_rfl) (by kernel_rfl)) (by kernel_rfl) (by kernel_rfl) (by kernel_rfl)
      (by rw [MakeChecks.laidMetH_plain _ _ _ (by kernel_rfl)]; exact laidMet_laidAll _ (by kernel_rfl) (by kernel_rfl))) ?_
  intro W base args ds gs before hval0 hW _ _ _ _
  have hval : ∀ (j : Nat) t v, Tryd.f8.params[j]? = some t → args[j]? = some v → Value.okWide Tryd.prog W .any base t v := hval0
  have hW' := hW
  obtain ⟨p, q, hA0, hV, rfl, hfz, hnd⟩ := hW
  have hA : DataW.TrodAll enc Tryd.prog W 0 (fun _ => true) true Tryd.f8.params.toList args.toList ds p := hA0
  rw [Tryd.params8] at hA hval
  obtain ⟨rfl, rfl, rfl⟩ := trodAll_none hA
  obtain ⟨rfl, rfl⟩ := trodVars_none hV

  refine (walk W).mono fun e W' ⟨he, hb⟩ => ?_
  subst he
  exact ⟨_, rfl, post_true laidOut (by kernel_rfl) ty_bool (by kernel_rfl) rfl hW' hb rfl⟩

theorem over : Rows.pathKnownRow.holds Tryd.pinned (OpenSpec.ofChange Rows.pathKnownSpec) :=
  OpenClaim.holds_of_wide 8 Tryd.f8 rfl rfl rfl rfl rfl rfl rfl ⟨rfl, rfl, rfl, rfl, rfl⟩ rfl rfl rfl rfl rfl (by kernel_rfl) Tryd.func8 (by kernel_rfl)
    (of_decide_eq_true (by kernel_rfl)) (by unfold Func.isWrapper; first | (rw [if_pos (by decide +kernel)]; kernel_rfl) | (rw [if_neg (by decide +kernel)]; exact ⟨rfl, rfl⟩))
    (fun os started H enc _ => lifted os started H enc)

theorem proved : Rows.PathKnownCardSaid :=
  Claim7.holds_tied_plain_at .later [] [.data, .pinned] true Rows.pathKnownCard.stood.harness false over (fun _ h => by cases h) (by kernel_rfl) (fun _ h => by cases h) pathKnown_row_tie rfl ⟨rfl, rfl⟩ (by kernel_rfl) rfl
    (fun f fn hf hfn => by
      obtain rfl : f = 8 := Option.some.inj ((show Tryd.pinned.checked.prog.funcNamed Rows.pathKnownRow.func = some 8 by kernel_rfl).symm.trans hf) |>.symm
      obtain rfl : fn = Tryd.f8 := (Option.some.inj (Tryd.func8.symm.trans hfn)).symm
      exact ⟨by kernel_rfl, fun j t ht => by
        have hall : (Tryd.f8.params.toList.all fun u => !Tryd.prog.wantsStandIn u) = true := by kernel_rfl
        exact (show Tryd.prog.wantsStandIn t = false by simpa using List.all_eq_true.1 hall t (by simpa using Array.mem_of_getElem? ht))⟩)
    (by kernel_rfl)
end Go.Proofs.YtckkkpkjldcncaaDoor.pathKnown
