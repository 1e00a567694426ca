/- The document's own disk: New. -/
import Derived.Test.YtjfoihbcieffdaaRDiskRef4
namespace Go.Proofs.YtjfoihbcieffdaaR.Disk
open Go.RowKit Phase Great

theorem info_str : (Try.prog.info? 9).map (fun i => (i.zero, i.size, i.bytes)) = some (some (.string ⟨#[]⟩), 1, 16) := by kernel_rfl
theorem ty_strs : Try.prog.underlying 37 = some (.slice 9) := by kernel_rfl
theorem make_zeros (W : World) : (Instr.makeSlice 41 (.int .i64 512) (.int .i64 512)).run Try.prog W = .ok (.slice (some ⟨W.heap.size, 0, none⟩) 512 512) (W.alloc (.cells (zeros.map U).toArray 5)) := by
  obtain ⟨i0, hi0, hi1, hi2, hi3⟩ := info_three info_byte
  have hmk := run_make_bytes (P := Try.prog) ty_bytes hi0 hi1 hi2 hi3 .i64 .i64 512 512 (by omega) (by omega) W
  have e : zeros.map U = List.replicate 512 (U 0) := by unfold zeros; rw [List.map_replicate]
  rw [e]
  exact hmk
theorem own_base {w : World} {base base' : Nat} {e : TypeId} {size n : Nat} {v : Value} {xs : List Value} (h : w.ownsRow base e size v n xs) (hb : base' ≤ base) : w.ownsRow base' e size v n xs := by
  refine ⟨h.1, ?_⟩
  rcases h.2 with h1 | ⟨r, cap, cur, h1, h2, h3⟩
  · exact .inl h1
  · exact .inr ⟨r, cap, cur, h1, Nat.le_trans hb h2, h3⟩
def RelRN (w : World) (i : Value) (wr : World) (n : Nat) : Prop :=
  ∃ (m : Nat) (P : Option Addr) (cp : Nat), m ≤ n ∧ i = .int .i64 (m : Int) ∧ Bk wr w.heap.size 40 #[.slice P m cp, .slice none 0 0, .int .i64 (-1), .bool false] ∧ wr.ownsRow (w.heap.size + 1) 9 1 (.slice P m cp) m (strs (List.replicate m zeros)) ∧ Below w.heap.size w wr
theorem strs_snoc (m : Nat) : strs (List.replicate m zeros) ++ [.string (S zeros)] = strs (List.replicate (m + 1) zeros) := by
  unfold strs
  rw [List.replicate_succ', List.map_append]
  rfl
def RNewPost (n : Nat) (w : World) (e : Ending) (w' : World) : Prop :=
  ∃ g X, e = .returned (.pointer (some ⟨g, 0, none⟩)) ∧ RkAt w' X g (DK.new n) ∧ (∀ k, X k → w.heap.size ≤ k) ∧ Below w.heap.size w w'
set_option maxRecDepth 100000 in
set_option maxHeartbeats 2000000 in
theorem rnew_any (n : Nat) (w : World) (h1 : 1 ≤ n) (h2 : n ≤ 4096) : Calls Try.prog 11 #[.int .i64 (n : Int)] w (RNewPost n w) := by
  have hb0 : Below w.heap.size w (w.alloc (.cells #[.slice none 0 0, .slice none 0 0, .int .i64 (-1), .bool false] 40)) := (Below.refl _ _).alloc (Nat.le_refl _) _
  have hk0 := Bk.new w 40 #[.slice none 0 0, .slice none 0 0, .int .i64 (-1), .bool false]
  have HB0 := Lib.hid hb0
  have HK0 := Lib.hid hk0
  clear hb0 hk0
  go_enter Try.func11, Try.ntmps11
  go_wp2_with fail
  go_loopw [4] (fun i wr => RelRN w i wr n) (fun i _ => n - (intOf i).toNat)
  case atStart => exact ⟨0, none, 0, Nat.zero_le _, rfl, HK0.out, World.ownsRow_nil _ _ _ _, HB0.out⟩
  case round =>
    obtain ⟨m, P, cp, hm, rfl, hbk, hown, hb⟩ := hrel
    have HBK := Lib.hid hbk
    have HOW := Lib.hid hown
    have HBE := Lib.hid hb
    clear hbk hown hb
    generalize hg : w.heap.size = g at *
    by_cases hlt : m < n
    · go_wp2_with fail
      obtain ⟨N, hN⟩ : ∃ N, N = wr.heap.size := ⟨_, rfl⟩
      obtain ⟨V0, hV0⟩ : ∃ V0 : World, V0 = { wr with drawn := wr.drawn + 1 } := ⟨_, rfl⟩
      obtain ⟨V1, hV1⟩ : ∃ V1 : World, V1 = V0.alloc (.cells (zeros.map U).toArray 5) := ⟨_, rfl⟩
      obtain ⟨V2, hV2⟩ : ∃ V2 : World, V2 = V1.alloc (.cells #[.string (S zeros)] 9) := ⟨_, rfl⟩
      have hbb0 : Below wr.heap.size wr V0 := by rw [hV0]; exact (Below.refl _ _).drew
      have hbb1 : Below wr.heap.size wr V1 := by rw [hV1]; exact hbb0.alloc hbb0.size _
      have hbb2 : Below wr.heap.size wr V2 := by rw [hV2]; exact hbb1.alloc hbb1.size _
      have hs0 : V0.heap.size = N := by rw [hV0, hN]
      have hs1 : V1.heap.size = N + 1 := by rw [hV1, size_new, hs0]
      have hs2 : V2.heap.size = N + 1 + 1 := by rw [hV2, size_new, hs1]
      have hgN : g < N := by rw [hN]; exact HBK.out.lt
      have hrz : Rd V1 (some ⟨N, 0, none⟩) 512 zeros := by
        have := rd_lit V0 5 (0, 0) zeros
        rw [zeros_length, hs0, ← hV1] at this
        exact this
      have hnew : V2.heap[N + 1]? = some (.cells #[.string (S zeros)] 9 (0, 0)) := by rw [hV2, ← hs1]; exact heap_alloc_last _ _
      have hown2 : V2.ownsRow (g + 1) 9 1 (.slice P m cp) m (strs (List.replicate m zeros)) := by
        refine ⟨HOW.out.1, ?_⟩
        rcases HOW.out.2 with q1 | ⟨r, cap, cur, q1, q2, q3, q4⟩
        · exact .inl q1
        · exact .inr ⟨r, cap, cur, q1, q2, by rw [hbb2.block r (Array.getElem?_eq_some_iff.1 q3).1]; exact q3, q4⟩
      obtain ⟨i0, hi0, hi1, hi2, hi3⟩ := info_three info_str
      obtain ⟨Q, cap, V3, hrun, hown3, hgr3, hloc3, hlt3⟩ := run_append_lies (P := Try.prog) V2 37 37 (g + 1) 9 i0 _ 1 16 ty_strs hi0 hi1 hi2 hi3 rfl (by decide)
        (.slice P m cp) m (strs (List.replicate m zeros)) hown2 ⟨N + 1, 0, none⟩ 1 1 [.string (S zeros)] rfl (World.news_of_block hnew) (by simp [Value.oneCell']) (by decide) (by unfold maxLen; omega) (by omega) (by omega) (N + 1 + 1) hs2
      rw [strs_snoc] at hown3
      have hpg : (Value.slice P m cp).ownBlock ≠ some g := fun e => by
        have := (hown2.lt g e).1
        omega
      have hQ : g + 1 ≤ Q := by
        obtain ⟨g', cap', he, hge, _⟩ := hown3.form (by omega)
        injection he with he
        injection he with he
        injection he with he
        omega
      have hbk3 : Bk V3 g 40 #[.slice P m cp, .slice none 0 0, .int .i64 (-1), .bool false] := (HBK.out.below hbb2).kept (hgr3.block g (HBK.out.below hbb2).lt (fun e => hpg e.symm))
      obtain ⟨V4, hV4⟩ : ∃ V4, V4 = V3.setCell ⟨g, 0, none⟩ (.slice (some ⟨Q, 0, none⟩) (m + 1) cap) := ⟨_, rfl⟩
      have ho4 := Out.setCell (X := (· = g)) V3 (p := ⟨g, 0, none⟩) rfl (.slice (some ⟨Q, 0, none⟩) (m + 1) cap)
      rw [← hV4] at ho4
      have HB4 : Hid (Bk V4 g 40 #[.slice (some ⟨Q, 0, none⟩) (m + 1) cap, .slice none 0 0, .int .i64 (-1), .bool false]) := by
        show Bk _ _ _ _
        rw [hV4]
        exact hbk3.set 0 _
      have HO4 : Hid (V4.ownsRow (g + 1) 9 1 (.slice (some ⟨Q, 0, none⟩) (m + 1) cap) (m + 1) (strs (List.replicate (m + 1) zeros))) := by
        refine ⟨hown3.1, ?_⟩
        rcases hown3.2 with q1 | ⟨r, cap', cur, q1, q2, q3, q4⟩
        · exact .inl q1
        · exact .inr ⟨r, cap', cur, q1, q2, by rw [ho4.block r (Array.getElem?_eq_some_iff.1 q3).1 (by omega)]; exact q3, q4⟩
      have HW4 : Hid (Below g w V4) := by
        have o1 := (Out.of_below (X := fun k => g ≤ k) hbb2).trans (out_grown hgr3) (fun k hk => .inl (by have := (hown2.lt k hk).1; omega))
        have o2 := o1.trans ho4 (fun k hk => .inl (by omega))
        exact o2.below HBE.out (fun k hk => hk) (by omega)
      obtain ⟨Ws, hWs⟩ : ∃ Ws : Nat → World, Ws = fun s => match s with | 0 => V0 | 1 => V1 | 2 => V2 | 3 => V3 | _ => V4 := ⟨_, rfl⟩
      have E0 : Hid (Ws 0 = V0) := congrFun hWs 0
      have E1 : Hid (Ws 1 = V0.alloc (.cells (zeros.map U).toArray 5)) := (congrFun hWs 1).trans hV1
      have E2 : Hid (Ws 2 = (Ws 1).alloc (.cells #[.string (S zeros)] 9)) := by show _ = _; rw [show Ws 2 = V2 from congrFun hWs 2, show Ws 1 = V1 from congrFun hWs 1]; exact hV2
      have E3 : Hid (Ws 3 = V3) := congrFun hWs 3
      have E4 : Hid (Ws 4 = V3.setCell ⟨g, 0, none⟩ (.slice (some ⟨Q, 0, none⟩) (m + 1) cap)) := (congrFun hWs 4).trans hV4
      have E4' : Hid (Ws 4 = V4) := congrFun hWs 4
      have HV0 := Lib.hid hV0
      have HS0 := Lib.hid hs0
      have HS1 : Hid ((Ws 1).heap.size = N + 1) := by show _ = _; rw [show Ws 1 = V1 from congrFun hWs 1]; exact hs1
      have HRUN : Hid ((Builtin.append_ #[37, 37] 37 #[.slice P m cp, .slice (some ⟨N + 1, 0, none⟩) 1 1]).run Try.prog (Ws 2) = .ok (.slice (some ⟨Q, 0, none⟩) (m + 1) cap) (Ws 3)) := by show _ = _; rw [show Ws 2 = V2 from congrFun hWs 2, E3.out]; exact hrun
      have HC : Hid (∀ s, s ≤ 2 → (Ws s).cell? ⟨g, 0, none⟩ = some (.slice P m cp)) := by
        intro s hs
        match s, hs with
        | 0, _ => rw [E0.out]; exact (HBK.out.below hbb0).cell 0
        | 1, _ => rw [show Ws 1 = V1 from congrFun hWs 1]; exact (HBK.out.below hbb1).cell 0
        | 2, _ => rw [show Ws 2 = V2 from congrFun hWs 2]; exact (HBK.out.below hbb2).cell 0
      have HCV : Hid (∀ s, 1 ≤ s → s ≤ 2 → (convert 41 9 (.slice (some ⟨N, 0, none⟩) 512 512)).run Try.prog (Ws s) = .ok (.string (S zeros)) (Ws s)) := by
        intro s hs1' hs2'
        match s, hs1', hs2' with
        | 1, _, _ => rw [show Ws 1 = V1 from congrFun hWs 1]; exact conv_string hrz 512
        | 2, _, _ =>
          rw [show Ws 2 = V2 from congrFun hWs 2]
          exact conv_string (hrz.below (by rw [hV2]; exact (Below.refl _ _).alloc (Nat.le_refl _) _)) 512
      have HK3 := Lib.hid (hbk3.cell 0)
      have HF3 := Lib.hid (hbk3.frozen 0)
      have HMK : Hid ((Instr.makeSlice 41 (.int .i64 512) (.int .i64 512)).run Try.prog V0 = .ok (.slice (some ⟨N, 0, none⟩) 512 512) (V0.alloc (.cells (zeros.map U).toArray 5))) := by show _ = _; rw [← hs0]; exact make_zeros V0
      clear hN hWs hV0 hV1 hV2 hV4 hs0 hs1 hs2 hbb0 hbb1 hbb2 hgN hrz hnew hown2 hi0 hi1 hi2 hi3 hrun hown3 hgr3 hloc3 hlt3 hpg hQ hbk3 ho4 HBK HOW HBE HB0 HK0
      refine wp_region_line (fun k => ([.pointer (some ⟨g, 0, none⟩), .pointer (some ⟨g, 0, none⟩), .pointer (some ⟨g, 0, none⟩), .pointer (some ⟨g, 0, none⟩), .slice P m cp, .slice (some ⟨N, 0, none⟩) 512 512, .string (S zeros), .slice (some ⟨N + 1, 0, none⟩) 1 1, .slice (some ⟨Q, 0, none⟩) (m + 1) cap, .pointer (some ⟨g, 0, none⟩), .pointer (some ⟨g, 0, none⟩), undef] : List Value).getD k undef) [5, 7, 8, 11] Ws 14 (by kernel_rfl) (by kernel_rfl) (E0.out.trans HV0.out) (fun k y hk => ?_) (fun k y z' hy hz => ?_) ?_ { tmps := #[.int .i64 (n : Int), undef, .pointer none, .pointer (some ⟨g, 0, none⟩), .int .i64 (m : Int), .agg #[.slice none 0 0, .slice none 0 0, .int .i64 (-1), .bool false], .pointer (some ⟨g, 0, none⟩), .int .i64 (m : Int), .int .i64 (n : Int), .bool true, u10, u11, .pointer (some ⟨g, 0, none⟩), .pointer (some ⟨g, 0, none⟩), .pointer (some ⟨g, 0, none⟩), .pointer (some ⟨g, 0, none⟩), .slice P m cp, .slice (some ⟨N, 0, none⟩) 512 512, .string (S zeros), .slice (some ⟨N + 1, 0, none⟩) 1 1, .slice (some ⟨Q, 0, none⟩) (m + 1) cap, .pointer (some ⟨g, 0, none⟩), .pointer (some ⟨g, 0, none⟩), undef], defers := [] } (by kernel_rfl) ?_
      · match k, hk with
        | 0, hk => injection hk with hk; subst hk; decide
        | 1, hk => injection hk with hk; subst hk; decide
        | 2, hk => injection hk with hk; subst hk; decide
        | 3, hk => injection hk with hk; subst hk; decide
        | _ + 4, hk => cases hk
      · match k, hy, hz with
        | 0, hy, hz => injection hy with hy; injection hz with hz; subst hy hz; show reachB _ _ _ _ = true; kernel_rfl
        | 1, hy, hz => injection hy with hy; injection hz with hz; subst hy hz; show reachB _ _ _ _ = true; kernel_rfl
        | 2, hy, hz => injection hy with hy; injection hz with hz; subst hy hz; show reachB _ _ _ _ = true; kernel_rfl
        | 3, _, hz => cases hz
        | _ + 4, hy, _ => cases hy
      · refine stepsL_cons ?_ (stepsL_cons ?_ (stepsL_cons ?_ (stepsL_cons ?_ (stepsL_cons ?_ (stepsL_cons ?_ (stepsL_cons ?_ (stepsL_cons ?_ (stepsL_cons ?_ (stepsL_cons ?_ (stepsL_cons ?_ (stepsL_cons ?_ (stepsL_nil))))))))))))
        · refine step_stay (by decide) fun a s hs hd h2 h3 K hK => ?_
          have h3' : a.tmps.getD 3 undef = .pointer (some ⟨g, 0, none⟩) := hd.kept 3 (by kernel_rfl)
          unfold Oper.wp
          go_simp
          exact hK
        · refine step_stay (by decide) fun a s hs hd h2 h3 K hK => ?_
          have h3' : a.tmps.getD 3 undef = .pointer (some ⟨g, 0, none⟩) := hd.kept 3 (by kernel_rfl)
          unfold Oper.wp
          go_simp
          exact hK
        · refine step_stay (by decide) fun a s hs hd h2 h3 K hK => ?_
          have h13 : a.tmps.getD 13 undef = .pointer (some ⟨g, 0, none⟩) := hd.done_ 1 _ 13 (by kernel_rfl) rfl rfl
          unfold Oper.wp
          go_simp
          exact hK
        · refine step_stay (by decide) fun a s hs hd h2 h3 K hK => ?_
          have h14 : a.tmps.getD 14 undef = .pointer (some ⟨g, 0, none⟩) := hd.done_ 2 _ 14 (by kernel_rfl) rfl rfl
          unfold Oper.wp
          go_simp
          exact hK
        · refine step_stay (by decide) fun a s hs hd h2 h3 K hK => ?_
          have h15 : a.tmps.getD 15 undef = .pointer (some ⟨g, 0, none⟩) := hd.done_ 3 _ 15 (by kernel_rfl) rfl rfl
          have hc := HC.out s (h2 2 8 rfl (by kernel_rfl))
          unfold Oper.wp
          go_simp
          exact hK
        · intro a s hs hd h1 h2 h3 K hK
          obtain rfl := h1 0 rfl
          have hk := hK 1 (fun h => absurd rfl (h 0)) (fun k hk => by have := h1 k hk; omega)
          rw [E1.out] at hk
          rw [E0.out]
          have hmk := HMK.out
          generalize (zeros.map U).toArray = ZA at *
          unfold Oper.wp
          go_simp
          exact hk
        · refine step_stay (by decide) fun a s hs hd h2 h3 K hK => ?_
          have h17 : a.tmps.getD 17 undef = .slice (some ⟨N, 0, none⟩) 512 512 := hd.done_ 5 _ 17 (by kernel_rfl) rfl rfl
          have hcv := HCV.out s (h3 0 5 rfl (by kernel_rfl)) (Nat.le_trans (h2 1 7 rfl (by kernel_rfl)) (by decide))
          generalize S zeros = sz at *
          unfold Oper.wp
          go_simp
          exact hK
        · intro a s hs hd h1 h2 h3 K hK
          obtain rfl := h1 1 rfl
          have h18 : a.tmps.getD 18 undef = .string (S zeros) := hd.done_ 6 _ 18 (by kernel_rfl) rfl rfl
          have hk := hK 2 (fun h => absurd rfl (h 1)) (fun k hk => by have := h1 k hk; omega)
          rw [E2.out] at hk
          have hsz := HS1.out
          have g18 : a.tmps[18]?.getD undef = .string (S zeros) := by simpa using h18
          generalize S zeros = sz at *
          generalize Ws 1 = Y at *
          unfold Oper.wp
          go_simp
          exact hk
        · intro a s hs hd h1 h2 h3 K hK
          obtain rfl := h1 2 rfl
          have h16 : a.tmps.getD 16 undef = .slice P m cp := hd.done_ 4 _ 16 (by kernel_rfl) rfl rfl
          have h19 : a.tmps.getD 19 undef = .slice (some ⟨N + 1, 0, none⟩) 1 1 := hd.done_ 7 _ 19 (by kernel_rfl) rfl rfl
          have hk := hK 3 (fun h => absurd rfl (h 2)) (fun k hk => by have := h1 k hk; omega)
          have e1 : Act.eval a (.tmp 16) = .slice P m cp := h16
          have e2 : Act.eval a (.tmp 19) = .slice (some ⟨N + 1, 0, none⟩) 1 1 := h19
          unfold Oper.wp execOp
          simp only [resolve, invoke, builtin, Sem.run_bind, Sem.run_pure, Result.andThen_ok, List.map_toArray, List.map_cons, List.map_nil, e1, e2]
          have hru := HRUN.out
          rw [hru]
          exact hk
        · refine step_stay (by decide) fun a s hs hd h2 h3 K hK => ?_
          have h12 : a.tmps.getD 12 undef = .pointer (some ⟨g, 0, none⟩) := hd.done_ 0 _ 12 (by kernel_rfl) rfl rfl
          unfold Oper.wp
          go_simp
          exact hK
        · refine step_stay (by decide) fun a s hs hd h2 h3 K hK => ?_
          have h21 : a.tmps.getD 21 undef = .pointer (some ⟨g, 0, none⟩) := hd.done_ 9 _ 21 (by kernel_rfl) rfl rfl
          unfold Oper.wp
          go_simp
          exact hK
        · intro a s hs hd h1 h2 h3 K hK
          obtain rfl := h1 3 rfl
          have h20 : a.tmps.getD 20 undef = .slice (some ⟨Q, 0, none⟩) (m + 1) cap := hd.done_ 8 _ 20 (by kernel_rfl) rfl rfl
          have h22 : a.tmps.getD 22 undef = .pointer (some ⟨g, 0, none⟩) := hd.done_ 10 _ 22 (by kernel_rfl) rfl rfl
          have hk := hK 4 (fun h => absurd rfl (h 3)) (fun k hk => by have := h1 k hk; omega)
          rw [E4.out] at hk
          rw [E3.out]
          have hc := HK3.out
          have hf := HF3.out
          unfold Oper.wp
          go_simp
          exact hk
      · have hend : Ws [5, 7, 8, 11].length = V4 := E4'.out
        rw [hend]
        generalize S zeros = sz at *
        have w1 : wrap64 ((m : Int) + 1) = (m : Int) + 1 := IntWalk.wrap64_in _ (by omega)
        go_wp2_with fail
        refine ⟨⟨m + 1, some ⟨Q, 0, none⟩, cap, by omega, rfl, ?_, ?_, ?_⟩, by simp [intOf]; omega⟩
        · rw [hg]; exact HB4.out
        · rw [hg]; exact HO4.out
        · rw [hg]; exact HW4.out
    · obtain rfl : m = n := by omega
      have HF : Hid (RNewPost m w (.returned (.pointer (some ⟨g, 0, none⟩))) wr) := by
        obtain ⟨p, cap, hv, hp, hpl⟩ := HOW.out.form (by omega)
        injection hv with v1 _ v3
        subst v1 v3
        have hl : (DK.new m).pages.length = m := List.length_replicate
        have hgl := HBK.out.lt
        refine ⟨g, fun k => k = g ∨ k = p, rfl, ⟨p, cp, none, 0, ⟨by rw [hl]; exact HBK.out, ?_, World.ownsRow_nil _ _ _ _, .inl rfl, .inr rfl, fun a ha => (nomatch ha), by omega, Ok.new h1 h2, fun k hk => by omega⟩⟩, fun k hk => by omega, by rw [hg]; exact HBE.out⟩
        rw [hl]
        exact own_base HOW.out (Nat.zero_le _)
      go_wp2_with fail
      go_ret
      exact HF.out
end Go.Proofs.YtjfoihbcieffdaaR.Disk
