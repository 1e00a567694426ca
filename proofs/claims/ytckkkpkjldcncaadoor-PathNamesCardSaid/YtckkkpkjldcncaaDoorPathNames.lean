/- PathNames: what is joined of two names is none; a name with a byte that may not be in it, at any place, is none. For every input the call returns true, and each argument reads afterwards as it read before. No conditions. -/
import Derived.Test.YtckkkpkjldcncaaDoorPathGoes
import Derived.Test.YtckkkpkjldcncaaDoorPathFrame
import Derived.Deep.RegionHeld
import Derived.WalkSpells
namespace Go.Proofs.YtckkkpkjldcncaaDoor.pathNames
open Go.ChangeShapes Go.WideShapes Go.ChangeAt Go.RowKit Path

theorem name_slash {a b : List UInt8} (h : name a = true) : name (a ++ 47 :: b) = false := by
  have h1 := ((name_iff a).1 h).2.2.2
  rw [← Bool.not_eq_true]
  intro h2
  have h3 := ((name_iff _).1 h2).2.2.2
  rw [runes_append a.length a (47 :: b) (Nat.le_refl _) h1, runes_step (by simp), dec_ascii 47 b (by decide)] at h3
  cases h3
theorem name_put {a : List UInt8} (h : name a = true) {x : UInt8} (hx : badB x) {k : Nat} (hk : k ≤ a.length) : name (a.take k ++ x :: a.drop k) = false := by
  have h1 := ((name_iff a).1 h).2.2.2
  rw [← Bool.not_eq_true]
  intro h2
  have h3 := ((name_iff _).1 h2).2.2.2
  rw [runes_put x hx a.length a (Nat.le_refl _) h1 k hk] at h3
  cases h3

def bads : List UInt8 := [0, 31, 127, 47, 128, 255, 192]
theorem bads_bad (j : Nat) (h : j < 7) : badB (bads.getD j 0) := by
  rcases (by omega : j = 0 ∨ j = 1 ∨ j = 2 ∨ j = 3 ∨ j = 4 ∨ j = 5 ∨ j = 6) with rfl | rfl | rfl | rfl | rfl | rfl | rfl <;> simp [bads, badB]
theorem bads_cell (w : World) (j : Nat) (h : j < 7) : (w.alloc (.cells #[.int .u8 0, .int .u8 31, .int .u8 127, .int .u8 47, .int .u8 128, .int .u8 255, .int .u8 192] 5)).cell? ⟨w.heap.size, j, none⟩ = some (.int .u8 ((bads.getD j 0).toNat : Int)) := by
  have hh : (w.alloc (.cells #[.int .u8 0, .int .u8 31, .int .u8 127, .int .u8 47, .int .u8 128, .int .u8 255, .int .u8 192] 5)).heap[w.heap.size]? = some (.cells #[.int .u8 0, .int .u8 31, .int .u8 127, .int .u8 47, .int .u8 128, .int .u8 255, .int .u8 192] 5 (0, 0)) := heap_alloc_new w _
  unfold World.cell?
  rw [hh]
  rcases (by omega : j = 0 ∨ j = 1 ∨ j = 2 ∨ j = 3 ∨ j = 4 ∨ j = 5 ∨ j = 6) with rfl | rfl | rfl | rfl | rfl | rfl | rfl <;> rfl

theorem ty_bytes : Tryd.prog.underlying 37 = some (.slice 5) := by kernel_rfl
theorem conv_one (W : World) (x : UInt8) : (convert 37 9 (.slice (some ⟨W.heap.size, 0, none⟩) 1 1)).run Tryd.prog (W.alloc (.cells #[.int .u8 (x.toNat : Int)] 5)).drew = .ok (.string (S [x])) (W.alloc (.cells #[.int .u8 (x.toNat : Int)] 5)).drew :=
  run_string_Rd (P := Tryd.prog) 37 9 5 ty_bytes ty_byte ty_string (bs := [x]) ⟨rfl, fun _ => ⟨_, rfl, fun j b hb => by
    have hj : j = 0 := by
      have := (List.getElem?_eq_some_iff.1 hb).1
      simp at this
      omega
    subst hj
    simp at hb
    subst hb
    show (W.alloc (.cells #[.int .u8 (x.toNat : Int)] 5)).cell? _ = _
    simp [Addr.add, U]⟩⟩ 1

set_option maxRecDepth 8000 in
set_option maxHeartbeats 4000000 in
theorem walk (a b : List UInt8) (y z : Nat) (w : World) (hy : y < 256) (hzz : z < 256) : Calls Tryd.prog 7 #[.string (S a), .string (S b), .int .u8 (y : Int), .int .u8 (z : Int)] w fun e w' => e = .returned (.bool true) ∧ Below w.heap.size w w' := by
  have hza : ((S a).size : Int) = (a.length : Int) := by rw [S_size]
  have hzb : ((S b).size : Int) = (b.length : Int) := by rw [S_size]
  have hsl := S_list
  have B0 := Lib.hid (Below.refl w.heap.size w)
  by_cases hn : 60 < a.length
  · go_enter Tryd.func7, Tryd.ntmps7
    go_wp2_with fail
    refine (goes_any w).mono ?_
    rintro e w1 ⟨rfl, hb⟩
    have B1 := Lib.hid hb
    clear hb
    go_wp2_with fail
    go_ret
    exact ⟨rfl, B1.out⟩
  · by_cases hn2 : 60 < b.length
    · go_enter Tryd.func7, Tryd.ntmps7
      go_wp2_with fail
      refine (goes_any w).mono ?_
      rintro e w1 ⟨rfl, hb⟩
      have B1 := Lib.hid hb
      clear hb
      go_wp2_with fail
      go_ret
      exact ⟨rfl, B1.out⟩
    · have HLA : Hid (a.length ≤ 1000000) := Nat.le_trans (by omega : a.length ≤ 60) (by decide)
      cases hnm : name a
      · have HE : Hid (nameE a = 30) := by show _ = _; unfold nameE; rw [hnm]; rfl
        clear hnm
        go_enter Tryd.func7, Tryd.ntmps7
        go_wp2_with fail
        refine (Name_any a w HLA.out).mono ?_
        rw [HE.out]
        rintro e w1 ⟨rfl, hb⟩
        have B1 := Lib.hid hb
        clear hb
        go_wp2_with fail
        refine (goes_any w1).mono ?_
        rintro e w2 ⟨rfl, hb⟩
        have B2 := Lib.hid (B1.out.trans (hb.mono B1.out.size))
        clear hb
        go_wp2_with fail
        go_ret
        exact ⟨rfl, B2.out⟩
      · have HE : Hid (nameE a = 0) := by show _ = _; unfold nameE; rw [hnm]; rfl
        have HE2 : Hid (nameE (a ++ 47 :: b) = 30) := by show _ = _; unfold nameE; rw [name_slash hnm]; rfl
        have hk : (y : Int) % ((a.length : Int) + 1) = ((y % (a.length + 1) : Nat) : Int) := by rw [Int.natCast_emod]; rfl
        have hkl : y % (a.length + 1) ≤ a.length := by have := Nat.mod_lt y (by omega : 0 < a.length + 1); omega
        have hj : (z : Int) % 7 = ((z % 7 : Nat) : Int) := by omega
        have hj7 : z % 7 < 7 := Nat.mod_lt _ (by omega)
        generalize y % (a.length + 1) = k at *
        have HBD := Lib.hid (bads_bad (z % 7) hj7)
        have HCL : Hid (∀ W : World, (W.alloc (.cells #[.int .u8 0, .int .u8 31, .int .u8 127, .int .u8 47, .int .u8 128, .int .u8 255, .int .u8 192] 5)).cell? ⟨W.heap.size, z % 7, none⟩ = some (.int .u8 ((bads.getD (z % 7) 0).toNat : Int))) := fun W => bads_cell W (z % 7) hj7
        generalize z % 7 = j at *
        generalize bads.getD j 0 = x at *
        have HE3 : Hid (nameE (a.take k ++ x :: a.drop k) = 30) := by show _ = _; unfold nameE; rw [name_put hnm HBD.out hkl]; rfl
        have hx1 : (S a).extract 0 k = S (a.take k) := by rw [S_extract]; rfl
        have hx2 : (S a).extract k a.length = S (a.drop k) := by rw [S_extract, List.take_of_length_le (by rw [List.length_drop]; omega)]
        have HS1 : Hid (S a ++ ⟨#[47]⟩ ++ S b = S (a ++ 47 :: b)) := by
          show _ = _
          rw [show (⟨#[47]⟩ : ByteArray) = S [47] from rfl, S_append, S_append]
          simp
        have HS2 : Hid (S (a.take k) ++ S [x] ++ S (a.drop k) = S (a.take k ++ x :: a.drop k)) := by
          show _ = _
          rw [S_append, S_append]
          simp
        have hzt : (S (a.take k)).size = k := by rw [S_size, List.length_take]; omega
        have hzd : (S (a.drop k)).size = a.length - k := by rw [S_size, List.length_drop]
        have hzx : (S [x]).size = 1 := rfl
        have HL2 : Hid ((a ++ 47 :: b).length ≤ 1000000) := by show _ ≤ _; simp; omega
        have HL3 : Hid ((a.take k ++ x :: a.drop k).length ≤ 1000000) := by show _ ≤ _; simp; omega
        have hza2 : (S a).size = a.length := S_size a
        have hzb2 : (S b).size = b.length := S_size b
        clear hnm
        go_enter Tryd.func7, Tryd.ntmps7
        go_wp2_with fail
        refine (Name_any a w HLA.out).mono ?_
        rw [HE.out]
        rintro e w1 ⟨rfl, hb⟩
        have B1 := Lib.hid hb
        clear hb
        go_wp2_with fail
        rw [HS1.out]
        refine (Name_any (a ++ 47 :: b) w1 HL2.out).mono ?_
        rw [HE2.out]
        rintro e w2 ⟨rfl, hb⟩
        have B2 := Lib.hid (B1.out.trans (hb.mono B1.out.size))
        clear hb
        go_wp2_with fail
        simp only [hk]
        clear hk
        have hc := HCL.out w2
        have B3 := Lib.hid (B2.out.alloc B2.out.size (.cells #[.int .u8 0, .int .u8 31, .int .u8 127, .int .u8 47, .int .u8 128, .int .u8 255, .int .u8 192] 5))
        generalize w2.alloc (.cells #[.int .u8 0, .int .u8 31, .int .u8 127, .int .u8 47, .int .u8 128, .int .u8 255, .int .u8 192] 5) = w3 at *
        generalize w2.heap.size = g at *
        have HCW : Hid (∀ W, Below w3.heap.size w3 W → W.cell? ⟨g, j, none⟩ = some (.int .u8 (x.toNat : Int))) := fun W hW => (hW.cell (World.block_lt_of_cell? w3 _ hc)).trans hc
        have hcv := conv_one w3 x
        have v1 : (j : Int) < 7 := by omega
        have v2 : (k : Int) ≤ (a.length : Int) := by omega
        have HD3 := Lib.hid (Below.refl w3.heap.size w3).drew
        have HD4 := Lib.hid ((Below.refl w3.heap.size w3).alloc (Nat.le_refl _) (.cells #[.int .u8 (x.toNat : Int)] 5)).drew
        clear hc
        have q1 : IntKind.i64.wrap (z : Int) = (z : Int) := IntWalk.i64_in _ (by omega)
        have q2 : (z : Int).tmod 7 = (j : Int) := by rw [Int.tmod_eq_emod_of_nonneg (by omega)]; exact hj
        have q3 : IntKind.i64.wrap (j : Int) = (j : Int) := IntWalk.i64_in _ (by omega)
        go_region_held (fun w' => w'.cell? ⟨g, j, none⟩ = some (.int .u8 (x.toNat : Int)))
          (first | assumption | exact HCW.out _ HD3.out | exact HCW.out _ HD4.out)
          (fail)
        have B4 := Lib.hid (B3.out.trans (HD4.out.mono B3.out.size))
        clear hcv q1 q2 q3
        generalize (w3.alloc (.cells #[.int .u8 (x.toNat : Int)] 5)).drew = w4 at *
        rw [HS2.out]
        go_wp2_with fail
        refine (Name_any (a.take k ++ x :: a.drop k) w4 HL3.out).mono ?_
        rw [HE3.out]
        rintro e w5 ⟨rfl, hb⟩
        have B5 := Lib.hid (B4.out.trans (hb.mono B4.out.size))
        clear hb
        go_wp2_with fail
        refine (goes_any w5).mono ?_
        rintro e w6 ⟨rfl, hb⟩
        have B6 := Lib.hid (B5.out.trans (hb.mono B5.out.size))
        clear hb
        go_wp2_with fail
        go_ret
        exact ⟨rfl, B6.out⟩

set_option maxRecDepth 100000 in
theorem lifted (os : Os) (started : os.Started) (H : Type) (enc : TypeId × Value → H) :
    ReturnsInHanded {} Tryd.checked os 7 .any (fun w args => (Rows.pathNamesSpec.pre enc Tryd.prog Tryd.f7 Rows.pathNamesRow.domain false w args ∧ laidMetH Tryd.prog Rows.pathNamesRow.laid w) ∧ sizedMet enc Tryd.prog Tryd.f7 (OpenSpec.ofChange Rows.pathNamesSpec) false w args) (Rows.pathNamesSpec.post enc Tryd.prog Tryd.f7 false true false false) := by
  refine returnsInHanded_of_change_and (C := Tryd.checked) (X := fun w _ => laidMetH Tryd.prog Rows.pathNamesRow.laid w) (fun _ _ _ hh h => h.of_heap hh) own started (by kernel_rfl) Tryd.func7
    (ChangeSpec.witness_shaped (enc := enc) (C := Tryd.checked) (os := os) (X := fun w _ => laidMetH Tryd.prog Rows.pathNamesRow.laid w) false (World.laidAll Tryd.prog os Rows.pathNamesRow.laid) #[.string ⟨#[]⟩, .string ⟨#[]⟩, .int .u8 0, .int .u8 0] 8 (World.laidAll_os _ _ _)
      (World.shaped_of_ZipB (by kernel_rfl) (by kernel_rfl)) (by kernel_rfl) (by kernel_rfl) (by kernel_rfl)
      (by rw [MakeChecks.laidMetH_plain _ _ _ (by kernel_rfl)]; exact laidMet_laidAll _ (by kernel_rfl) (by kernel_rfl))) ?_
  intro W base args ds gs before hval0 hW _ _ _ _
  have hval : ∀ (j : Nat) t v, Tryd.f7.params[j]? = some t → args[j]? = some v → Value.okWide Tryd.prog W .any base t v := hval0
  have hW' := hW
  obtain ⟨p, q, hA0, hV, rfl, hfz, hnd⟩ := hW
  have hA : DataW.TrodAll enc Tryd.prog W 0 (fun _ => true) true Tryd.f7.params.toList args.toList ds p := hA0
  rw [Tryd.params7] at hA hval
  obtain ⟨v0, v1, v2, v3, d0, d1, d2, d3, p0, p1, p2, p3, rfl, rfl, rfl, h0, h1, h2, h3⟩ := trodAll_four hA
  obtain ⟨rfl, rfl⟩ := trodVars_none hV
  obtain ⟨a, rfl⟩ := open_text ty_string (hval 0 _ v0 rfl rfl)
  obtain ⟨b, rfl⟩ := open_text ty_string (hval 1 _ v1 rfl rfl)
  obtain ⟨y, rfl, hy⟩ := open_u8 ty_byte (hval 2 _ v2 rfl rfl) h2
  obtain ⟨z, rfl, hz⟩ := open_u8 ty_byte (hval 3 _ v3 rfl rfl) h3
  refine (walk a b y z W hy hz).mono fun e W' ⟨he, hb⟩ => ?_
  subst he
  exact ⟨_, rfl, post_true laidOut (by kernel_rfl) ty_bool (by kernel_rfl) rfl hW' hb rfl⟩

theorem over : Rows.pathNamesRow.holds Tryd.pinned (OpenSpec.ofChange Rows.pathNamesSpec) :=
  OpenClaim.holds_of_wide 7 Tryd.f7 rfl rfl rfl rfl rfl rfl rfl ⟨rfl, rfl, rfl, rfl, rfl⟩ rfl rfl rfl rfl rfl (by kernel_rfl) Tryd.func7 (by kernel_rfl)
    (of_decide_eq_true (by kernel_rfl)) (by unfold Func.isWrapper; first | (rw [if_pos (by decide +kernel)]; kernel_rfl) | (rw [if_neg (by decide +kernel)]; exact ⟨rfl, rfl⟩))
    (fun os started H enc _ => lifted os started H enc)

theorem proved : Rows.PathNamesCardSaid :=
  Claim7.holds_tied_plain_at .later [] [.data, .pinned] true Rows.pathNamesCard.stood.harness false over (fun _ h => by cases h) (by kernel_rfl) (fun _ h => by cases h) pathNames_row_tie rfl ⟨rfl, rfl⟩ (by kernel_rfl) rfl
    (fun f fn hf hfn => by
      obtain rfl : f = 7 := Option.some.inj ((show Tryd.pinned.checked.prog.funcNamed Rows.pathNamesRow.func = some 7 by kernel_rfl).symm.trans hf) |>.symm
      obtain rfl : fn = Tryd.f7 := (Option.some.inj (Tryd.func7.symm.trans hfn)).symm
      exact ⟨by kernel_rfl, fun j t ht => by
        have hall : (Tryd.f7.params.toList.all fun u => !Tryd.prog.wantsStandIn u) = true := by kernel_rfl
        exact (show Tryd.prog.wantsStandIn t = false by simpa using List.all_eq_true.1 hall t (by simpa using Array.mem_of_getElem? ht))⟩)
    (by kernel_rfl)
end Go.Proofs.YtckkkpkjldcncaaDoor.pathNames
