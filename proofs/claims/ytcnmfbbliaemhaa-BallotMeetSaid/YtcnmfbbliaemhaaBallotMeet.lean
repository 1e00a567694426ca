/- BallotMeet: two quorums of a group (of 1 to 40 nodes) have a node in common; and of any numbers (at most 200) what Commit answers is no more than as many as a quorum have, and what is more is not: for all rows the call returns true, and nothing that was there has turned. No conditions. -/
import Derived.Test.YtcnmfbbliaemhaaBalRef
namespace Go.Proofs.Ytcnmfbbliaemhaa.ballotMeet
open Go.ChangeShapes Go.WideShapes Go.ChangeAt Go.RowKit Bal

def bl (xs : List Bool) : Array Value := (xs.map Value.bool).toArray
theorem bl_set (xs : List Bool) (r : Nat) (v : Bool) : bl (xs.set r v) = (bl xs).setIfInBounds r (.bool v) := by
  unfold bl
  rw [List.map_set, List.setIfInBounds_toArray]
theorem bl_get {xs : List Bool} {r : Nat} (h : r < xs.length) : (bl xs)[r]? = some (.bool xs[r]) := by simp [bl, h]
theorem ty_bools : Try.prog.underlying 33 = some (.slice 4) := by kernel_rfl
theorem info_bool : (Try.prog.info? 4).map (fun i => (i.zero, i.size, i.bytes)) = some (some (.bool false), 1, 1) := by kernel_rfl
theorem make_bools (s : Nat) (hs : s ≤ 1000) (w : World) : (Instr.makeSlice 33 (.int .i64 (s : Int)) (.int .i64 (s : Int))).run Try.prog w = .ok (.slice (some ⟨w.heap.size, 0, none⟩) s s) (w.alloc (.cells (bl (List.replicate s false)) 4)) := by
  obtain ⟨i0, hi, hz0, hz1, hz2⟩ := infos info_bool
  have hr := run_make (P := Try.prog) w 33 4 i0 _ ty_bools hi hz0 .i64 .i64 s (s : Int) (by omega) (Int.le_refl _) (by rw [hz2]; omega) (by omega)
  rw [hr, hz1, Nat.mul_one]
  have h1 : madeCells (Value.bool false).cells (s : Int).toNat = bl (List.replicate s false) := by
    have := toList_madeCells_one (Value.bool false) (s : Int).toNat
    rw [← Array.toList_inj]
    rw [show (Value.bool false).cells = #[Value.bool false] from rfl, this]
    simp [bl]
  rw [h1]
  simp
def RelX (w : World) (gx gy s n : Nat) (i : Value) (wr : World) : Prop := ∃ (k : Nat) (xs ys : List Bool), k ≤ n ∧ i = .int .i64 (k : Int) ∧ xs.length = s ∧ ys.length = s ∧ Bk wr gx 4 (bl xs) ∧ Bk wr gy 4 (bl ys) ∧ Below w.heap.size w wr
def RelP (s : Nat) (p q b i : Value) : Prop := ∃ k P Q B : Nat, k ≤ s ∧ i = .int .i64 (k : Int) ∧ p = .int .i64 (P : Int) ∧ q = .int .i64 (Q : Int) ∧ b = .int .i64 (B : Int) ∧ P ≤ k ∧ Q ≤ k ∧ B ≤ k ∧ P + Q ≤ B + k
def RelG (zs : List Int) (n : Nat) (x : Int) (g u i : Value) : Prop := ∃ k : Nat, k ≤ n ∧ i = .int .i64 (k : Int) ∧ g = .int .i64 (geN (zs.take k) x : Nat) ∧ u = .int .i64 (gtN (zs.take k) x : Nat)
theorem set_bk {w w0 : World} {g h : Nat} {xs ys : List Bool} {r : Nat} (hx : Bk w g 4 (bl xs)) (hy : Bk w h 4 (bl ys)) (hne : h ≠ g) (hg : w0.heap.size ≤ g) (hb : Below w0.heap.size w0 w) :
    Bk (w.setCell ⟨g, r, none⟩ (.bool true)) g 4 (bl (xs.set r true)) ∧ Bk (w.setCell ⟨g, r, none⟩ (.bool true)) h 4 (bl ys) ∧ Below w0.heap.size w0 (w.setCell ⟨g, r, none⟩ (.bool true)) :=
  ⟨by rw [bl_set]; exact hx.set r _, hy.kept (Below.heap_setCell w ⟨g, r, none⟩ _ h hne), hb.setCell hg _⟩
set_option maxRecDepth 100000 in
set_option maxHeartbeats 4000000 in
theorem walk (z : Nat) (A B C : Option Addr) (na nb n ca cb c : Nat) (aa ba : List UInt8) (zs : List Int) (w : World) (z2 : z < 256) (ha : Rd w A na aa) (hb : Rd w B nb ba) (hr : RdV w C n (vi zs)) : Calls Try.prog 5 #[.int .u8 (z : Int), .slice A na ca, .slice B nb cb, .slice C n c] w fun r w' => r = .returned (.bool true) ∧ Below w.heap.size w w' := by
  by_cases h1 : 200 < na
  · have h1' : (200 : Int) < (na : Int) := by omega
    go_enter Try.func5, Try.ntmps5
    go_wp2_with fail
    go_ret
    exact ⟨rfl, Below.refl _ _⟩
  have h1' : ¬ (200 : Int) < (na : Int) := by omega
  by_cases h2 : 200 < nb
  · have h2' : (200 : Int) < (nb : Int) := by omega
    go_enter Try.func5, Try.ntmps5
    go_wp2_with fail
    go_ret
    exact ⟨rfl, Below.refl _ _⟩
  have h2' : ¬ (200 : Int) < (nb : Int) := by omega
  by_cases h3 : 200 < n
  · have h3' : (200 : Int) < (n : Int) := by omega
    go_enter Try.func5, Try.ntmps5
    go_wp2_with fail
    go_ret
    exact ⟨rfl, Below.refl _ _⟩
  have h3' : ¬ (200 : Int) < (n : Int) := by omega
  obtain ⟨s, hs⟩ : ∃ s : Nat, s = 1 + z % 40 := ⟨_, rfl⟩
  have hs1 : 1 ≤ s ∧ s ≤ 40 := by omega
  have hs2 : (1 : Int) + (z : Int) % 40 = (s : Int) := by omega
  have hmk := make_bools s (by omega)
  have hl : zs.length = n := by rw [← hr.len, vi_length]
  have HL := Lib.hid hl
  have HR := Lib.hid hr
  have HRA := Lib.hid ha
  have HRB := Lib.hid hb
  have HN : Hid (n ≤ 1000000) := by show _ ≤ _; omega
  obtain ⟨gx, hgx⟩ : ∃ g : Nat, g = w.heap.size := ⟨_, rfl⟩
  obtain ⟨gy, hgy⟩ : ∃ g : Nat, g = w.heap.size + 1 := ⟨_, rfl⟩
  obtain ⟨w2, hw2⟩ : ∃ x, x = (w.alloc (.cells (bl (List.replicate s false)) 4)).alloc (.cells (bl (List.replicate s false)) 4) := ⟨_, rfl⟩
  have HB : Hid (Below w.heap.size w w2) := by show Below _ _ _; rw [hw2]; exact ((Below.refl _ _).alloc (Nat.le_refl _) _).alloc (by simp) _
  have HX : Hid (Bk w2 gx 4 (bl (List.replicate s false))) := by show Bk _ _ _ _; rw [hw2, hgx]; exact (Bk.new w _ _).alloc _
  have HY : Hid (Bk w2 gy 4 (bl (List.replicate s false))) := by
    show Bk _ _ _ _
    rw [hw2, hgy]
    have := Bk.new (w.alloc (.cells (bl (List.replicate s false)) 4)) 4 (bl (List.replicate s false))
    rwa [World.size_alloc] at this
  have HXL : Hid ((List.replicate s false).length = s) := List.length_replicate
  have HYL := Lib.hid HXL.out
  have HNE : Hid (gy ≠ gx ∧ gx ≠ gy) := ⟨by omega, by omega⟩
  have HGX : Hid (w.heap.size ≤ gx ∧ w.heap.size ≤ gy) := ⟨by omega, by omega⟩
  have HW2 := Lib.hid hw2
  have HGX2 := Lib.hid hgx
  have HGY2 := Lib.hid hgy
  clear hs hl hr ha hb hw2 hgx hgy
  go_enter Try.func5, Try.ntmps5
  go_wp2_with fail
  rw [← HW2.out, ← HGY2.out, ← HGX2.out]
  clear hmk hs2 HW2 HGY2
  go_loopw [12] (fun i wr => RelX w gx gy s na i wr) (fun i _ => na - (intOf i).toNat)
  case atStart => exact ⟨0, _, _, Nat.zero_le _, rfl, HXL.out, HYL.out, HX.out, HY.out, HB.out⟩
  case round =>
    clear HX HY HB HXL HYL
    obtain ⟨k, xs, ys, hk, rfl, hxl, hyl, hx, hy, hb⟩ := hrel
    have HX := Lib.hid hx
    have HY := Lib.hid hy
    have HB := Lib.hid hb
    have HXL := Lib.hid hxl
    have HYL := Lib.hid hyl
    clear hx hy hb hxl hyl
    by_cases hlt : k < na
    · obtain ⟨ad, rfl, hc⟩ := (HRA.out.below HB.out).cells (by omega)
      have hkl : k < aa.length := by rw [HRA.out.len]; exact hlt
      have hck := hc k _ (List.getElem?_eq_getElem hkl)
      generalize aa[k] = v at hck
      unfold U at hck
      have hv := v.toNat_lt
      obtain ⟨r, hr⟩ : ∃ r : Nat, r = v.toNat % s := ⟨_, rfl⟩
      have hrs : r < s := by rw [hr]; exact Nat.mod_lt _ (by omega)
      have hr2 : (v.toNat : Int) % (s : Int) = (r : Int) := by rw [hr]; exact (Int.natCast_emod _ s).symm
      have hcr : wr.cell? ⟨gx, r, none⟩ = some (.bool (xs[r]'(by rw [HXL.out]; exact hrs))) := by rw [HX.out.cell r]; exact bl_get _
      have hfr : wr.frozen? ⟨gx, r, none⟩ = false := HX.out.frozen r
      generalize xs[r]'(by rw [HXL.out]; exact hrs) = u at hcr
      have vk : (k : Int) < (na : Int) := by omega
      clear hr hc hkl
      go_wp2_with fail
      obtain ⟨k1, k2, k3⟩ := set_bk (r := r) HX.out HY.out HNE.out.1 HGX.out.1 HB.out
      exact ⟨⟨k + 1, xs.set r true, ys, by omega, by go_num, by rw [List.length_set]; exact HXL.out, HYL.out, k1, k2, k3⟩, by simp [intOf]; omega⟩
    · obtain rfl : k = na := by omega
      have vk : ¬ (k : Int) < (k : Int) := by omega
      clear hlt
      go_wp2_with fail
      obtain ⟨wo, hwo⟩ : ∃ x : World, x = wr := ⟨_, rfl⟩
      rw [← hwo] at HX HY HB ⊢
      clear hwo
      go_loopw [13] (fun i wr => RelX w gx gy s nb i wr) (fun i _ => nb - (intOf i).toNat)
      case atStart => exact ⟨0, _, _, Nat.zero_le _, rfl, HXL.out, HYL.out, HX.out, HY.out, HB.out⟩
      case round =>
        clear HX HY HB HXL HYL
        obtain ⟨k, xs, ys, hk, rfl, hxl, hyl, hx, hy, hb⟩ := hrel
        have HX := Lib.hid hx
        have HY := Lib.hid hy
        have HB := Lib.hid hb
        have HXL := Lib.hid hxl
        have HYL := Lib.hid hyl
        clear hx hy hb hxl hyl
        by_cases hlt : k < nb
        · obtain ⟨ad, rfl, hc⟩ := (HRB.out.below HB.out).cells (by omega)
          have hkl : k < ba.length := by rw [HRB.out.len]; exact hlt
          have hck := hc k _ (List.getElem?_eq_getElem hkl)
          generalize ba[k] = v at hck
          unfold U at hck
          have hv := v.toNat_lt
          obtain ⟨r, hr⟩ : ∃ r : Nat, r = v.toNat % s := ⟨_, rfl⟩
          have hrs : r < s := by rw [hr]; exact Nat.mod_lt _ (by omega)
          have hr2 : (v.toNat : Int) % (s : Int) = (r : Int) := by rw [hr]; exact (Int.natCast_emod _ s).symm
          have hcr : wr.cell? ⟨gy, r, none⟩ = some (.bool (ys[r]'(by rw [HYL.out]; exact hrs))) := by rw [HY.out.cell r]; exact bl_get _
          have hfr : wr.frozen? ⟨gy, r, none⟩ = false := HY.out.frozen r
          generalize ys[r]'(by rw [HYL.out]; exact hrs) = u at hcr
          have vk : (k : Int) < (nb : Int) := by omega
          clear hr hc hkl
          go_wp2_with fail
          obtain ⟨k2, k1, k3⟩ := set_bk (r := r) HY.out HX.out HNE.out.2 HGX.out.2 HB.out
          exact ⟨⟨k + 1, xs, ys.set r true, by omega, by go_num, HXL.out, by rw [List.length_set]; exact HYL.out, k1, k2, k3⟩, by simp [intOf]; omega⟩
        · obtain rfl : k = nb := by omega
          have vk : ¬ (k : Int) < (k : Int) := by omega
          clear hlt
          go_wp2_with fail
          obtain ⟨w7, hw7⟩ : ∃ x : World, x = wr := ⟨_, rfl⟩
          rw [← hw7] at HX HY HB ⊢
          clear hw7
          go_loop [14, 15, 16, 17] (fun p q b i => RelP s p q b i) (fun _ _ _ i => s - (intOf i).toNat)
          case atStart => exact ⟨0, 0, 0, 0, Nat.zero_le _, rfl, rfl, rfl, rfl, Nat.le_refl _, Nat.le_refl _, Nat.le_refl _, Nat.le_refl _⟩
          case round =>
            obtain ⟨m, P, Q, D, hm, rfl, rfl, rfl, rfl, hP, hQ, hD, hPQ⟩ := hrel
            by_cases hlt : m < s
            · have hcx : w7.cell? ⟨gx, m, none⟩ = some (.bool (xs[m]'(by rw [HXL.out]; exact hlt))) := by rw [HX.out.cell m]; exact bl_get _
              have hcy : w7.cell? ⟨gy, m, none⟩ = some (.bool (ys[m]'(by rw [HYL.out]; exact hlt))) := by rw [HY.out.cell m]; exact bl_get _
              generalize xs[m]'(by rw [HXL.out]; exact hlt) = u at hcx
              generalize ys[m]'(by rw [HYL.out]; exact hlt) = v at hcy
              have vk : (m : Int) < (s : Int) := by omega
              cases u <;> cases v
              · go_wp2_with fail
                exact ⟨⟨m + 1, P + 0, Q + 0, D + 0, by omega, by go_num, rfl, rfl, rfl, by omega, by omega, by omega, by omega⟩, by simp [intOf]; omega⟩
              · go_wp2_with fail
                exact ⟨⟨m + 1, P + 0, Q + 1, D + 0, by omega, by go_num, rfl, by go_num, rfl, by omega, by omega, by omega, by omega⟩, by simp [intOf]; omega⟩
              · go_wp2_with fail
                exact ⟨⟨m + 1, P + 1, Q + 0, D + 0, by omega, by go_num, by go_num, rfl, rfl, by omega, by omega, by omega, by omega⟩, by simp [intOf]; omega⟩
              · go_wp2_with fail
                exact ⟨⟨m + 1, P + 1, Q + 1, D + 1, by omega, by go_num, by go_num, by go_num, by go_num, by omega, by omega, by omega, by omega⟩, by simp [intOf]; omega⟩
            · obtain rfl : m = s := by omega
              have vk : ¬ (m : Int) < (m : Int) := by omega
              have CQ := Lib.hid (quorum_yes m w7 (by omega) (by omega))
              have hq1 : m < 2 * quorum m ∧ 1 ≤ quorum m ∧ quorum m ≤ m := by unfold quorum; omega
              generalize quorum m = qn at *
              clear hlt
              go_wp2_with fail
              refine CQ.out.mono ?_
              rintro e _ ⟨rfl, rfl⟩
              clear CQ
              have i1 : ¬ (qn : Int) < 1 := by omega
              have i2 : ¬ (m : Int) < (qn : Int) := by omega
              have HCM := Lib.hid (commit_any (c := c) (HR.out.below HB.out) HN.out)
              obtain ⟨HWAY⟩ : Nonempty (Hid (¬ (qn ≤ P ∧ qn ≤ Q ∧ D = 0))) := ⟨show ¬ _ from fun h => by omega⟩
              obtain ⟨x, hx⟩ : ∃ x, x = best zs := ⟨_, rfl⟩
              rw [← hx] at HCM
              have HBX := Lib.hid hx
              clear hx
              have HTAIL : Hid (0 < n → quorum n ≤ geN zs x ∧ gtN zs x < quorum n) := fun h0 => by
                have h2 := best_has (l := zs) (by intro e; have := HL.out; rw [e] at this; simp at this; omega)
                rw [← HBX.out] at h2
                have h3 := h2.at_
                have h4 := h2.above
                rw [HL.out] at h3 h4
                exact ⟨h3, h4⟩
              clear HBX hPQ
              by_cases h3 : qn ≤ P
              · have h3' : (qn : Int) ≤ (P : Int) := by omega
                by_cases h4 : qn ≤ Q
                · have h4' : (qn : Int) ≤ (Q : Int) := by omega
                  have h5 : ((D : Int) == 0) = false := by have := HWAY.out; simp; omega
                  clear h3 h4
                  go_wp2_with fail
                  refine HCM.out.mono ?_
                  rintro e w8 ⟨rfl, hb⟩
                  have HB8 := Lib.hid (HB.out.trans (hb.mono HB.out.size))
                  have HR8 := Lib.hid (HR.out.below HB8.out)
                  clear hb HCM
                  go_wp2_with fail
                  go_loop [20, 21, 22] (fun g u i => RelG zs n x g u i) (fun _ _ i => n - (intOf i).toNat)
                  case atStart => exact ⟨0, Nat.zero_le _, rfl, rfl, rfl⟩
                  case round =>
                    obtain ⟨j, hj, rfl, rfl, rfl⟩ := hrel
                    have hg1 : geN (zs.take j) x ≤ j := Nat.le_trans (geN_le _ _) (List.length_take_le _ _)
                    have hu1 : gtN (zs.take j) x ≤ j := Nat.le_trans (gtN_le _ _) (List.length_take_le _ _)
                    by_cases hjt : j < n
                    · have hjl : j < zs.length := by rw [HL.out]; exact hjt
                      obtain ⟨ad, rfl, hcj⟩ := vi_at HR8.out hjl
                      have HG : Hid (geN (zs.take (j + 1)) x = geN (zs.take j) x + if x ≤ zs[j] then 1 else 0) := by show _ = _; rw [take_snoc zs hjl, geN_snoc]
                      have HU : Hid (gtN (zs.take (j + 1)) x = gtN (zs.take j) x + if x < zs[j] then 1 else 0) := by show _ = _; rw [take_snoc zs hjl, gtN_snoc]
                      obtain ⟨y, hy⟩ : ∃ y, y = zs[j] := ⟨_, rfl⟩
                      rw [← hy] at hcj HG HU
                      have vj : (j : Int) < (n : Int) := by omega
                      generalize geN (zs.take j) x = g at *
                      generalize gtN (zs.take j) x = u at *
                      clear hy hjl
                      rcases Int.lt_trichotomy x y with h | h | h
                      · have HG2 : Hid (geN (zs.take (j + 1)) x = g + 1) := by show _ = _; rw [HG.out, if_pos (by omega)]
                        have HU2 : Hid (gtN (zs.take (j + 1)) x = u + 1) := by show _ = _; rw [HU.out, if_pos h]
                        have h5 : x ≤ y := by omega
                        clear HG HU
                        go_wp2_with fail
                        exact ⟨⟨j + 1, by omega, by go_num, by rw [HG2.out]; go_num, by rw [HU2.out]; go_num⟩, by simp [intOf]; omega⟩
                      · have HG2 : Hid (geN (zs.take (j + 1)) x = g + 1) := by show _ = _; rw [HG.out, if_pos (by omega)]
                        have HU2 : Hid (gtN (zs.take (j + 1)) x = u) := by show _ = _; rw [HU.out, if_neg (by omega)]; omega
                        have h5 : x ≤ y := by omega
                        have h6 : ¬ x < y := by omega
                        clear HG HU h
                        go_wp2_with fail
                        exact ⟨⟨j + 1, by omega, by go_num, by rw [HG2.out]; go_num, by rw [HU2.out]⟩, by simp [intOf]; omega⟩
                      · have HG2 : Hid (geN (zs.take (j + 1)) x = g) := by show _ = _; rw [HG.out, if_neg (by omega)]; omega
                        have HU2 : Hid (gtN (zs.take (j + 1)) x = u) := by show _ = _; rw [HU.out, if_neg (by omega)]; omega
                        have h5 : ¬ x ≤ y := by omega
                        have h6 : ¬ x < y := by omega
                        clear HG HU h
                        go_wp2_with fail
                        exact ⟨⟨j + 1, by omega, by go_num, by rw [HG2.out], by rw [HU2.out]⟩, by simp [intOf]; omega⟩
                    · obtain rfl : j = n := by omega
                      have vj : ¬ (j : Int) < (j : Int) := by omega
                      have e1 : zs.take j = zs := List.take_of_length_le (by rw [HL.out]; exact Nat.le_refl _)
                      rw [e1] at hg1 hu1 ⊢
                      clear e1 hjt
                      rcases Nat.eq_zero_or_pos j with rfl | h0
                      · generalize geN zs x = g at *
                        generalize gtN zs x = u at *
                        go_wp2_with fail
                        refine (counts_any w8).mono ?_
                        rintro e w9 ⟨rfl, hb⟩
                        have HB9 := Lib.hid (HB8.out.trans (hb.mono HB8.out.size))
                        clear hb
                        go_wp2_with fail
                        go_ret
                        exact ⟨rfl, HB9.out⟩
                      · have h1 := (HTAIL.out h0).1
                        have h2 := (HTAIL.out h0).2
                        have CQ2 := Lib.hid (quorum_yes j w8 h0 (by omega))
                        generalize geN zs x = g at *
                        generalize gtN zs x = u at *
                        generalize quorum j = qj at *
                        have k1 : ¬ (g : Int) < (qj : Int) := by omega
                        have k2 : ¬ (qj : Int) ≤ (u : Int) := by omega
                        have k0 : (0 : Int) < (j : Int) := by omega
                        clear h1 h2
                        go_wp2_with fail
                        refine CQ2.out.mono ?_
                        rintro e _ ⟨rfl, rfl⟩
                        go_wp2_with fail
                        refine CQ2.out.mono ?_
                        rintro e _ ⟨rfl, rfl⟩
                        go_wp2_with fail
                        refine (counts_any w8).mono ?_
                        rintro e w9 ⟨rfl, hb⟩
                        have HB9 := Lib.hid (HB8.out.trans (hb.mono HB8.out.size))
                        clear hb
                        go_wp2_with fail
                        go_ret
                        exact ⟨rfl, HB9.out⟩
                · have h4' : ¬ (qn : Int) ≤ (Q : Int) := by omega
                  clear h3 h4
                  go_wp2_with fail
                  refine HCM.out.mono ?_
                  rintro e w8 ⟨rfl, hb⟩
                  have HB8 := Lib.hid (HB.out.trans (hb.mono HB.out.size))
                  have HR8 := Lib.hid (HR.out.below HB8.out)
                  clear hb HCM
                  go_wp2_with fail
                  go_loop [20, 21, 22] (fun g u i => RelG zs n x g u i) (fun _ _ i => n - (intOf i).toNat)
                  case atStart => exact ⟨0, Nat.zero_le _, rfl, rfl, rfl⟩
                  case round =>
                    obtain ⟨j, hj, rfl, rfl, rfl⟩ := hrel
                    have hg1 : geN (zs.take j) x ≤ j := Nat.le_trans (geN_le _ _) (List.length_take_le _ _)
                    have hu1 : gtN (zs.take j) x ≤ j := Nat.le_trans (gtN_le _ _) (List.length_take_le _ _)
                    by_cases hjt : j < n
                    · have hjl : j < zs.length := by rw [HL.out]; exact hjt
                      obtain ⟨ad, rfl, hcj⟩ := vi_at HR8.out hjl
                      have HG : Hid (geN (zs.take (j + 1)) x = geN (zs.take j) x + if x ≤ zs[j] then 1 else 0) := by show _ = _; rw [take_snoc zs hjl, geN_snoc]
                      have HU : Hid (gtN (zs.take (j + 1)) x = gtN (zs.take j) x + if x < zs[j] then 1 else 0) := by show _ = _; rw [take_snoc zs hjl, gtN_snoc]
                      obtain ⟨y, hy⟩ : ∃ y, y = zs[j] := ⟨_, rfl⟩
                      rw [← hy] at hcj HG HU
                      have vj : (j : Int) < (n : Int) := by omega
                      generalize geN (zs.take j) x = g at *
                      generalize gtN (zs.take j) x = u at *
                      clear hy hjl
                      rcases Int.lt_trichotomy x y with h | h | h
                      · have HG2 : Hid (geN (zs.take (j + 1)) x = g + 1) := by show _ = _; rw [HG.out, if_pos (by omega)]
                        have HU2 : Hid (gtN (zs.take (j + 1)) x = u + 1) := by show _ = _; rw [HU.out, if_pos h]
                        have h5 : x ≤ y := by omega
                        clear HG HU
                        go_wp2_with fail
                        exact ⟨⟨j + 1, by omega, by go_num, by rw [HG2.out]; go_num, by rw [HU2.out]; go_num⟩, by simp [intOf]; omega⟩
                      · have HG2 : Hid (geN (zs.take (j + 1)) x = g + 1) := by show _ = _; rw [HG.out, if_pos (by omega)]
                        have HU2 : Hid (gtN (zs.take (j + 1)) x = u) := by show _ = _; rw [HU.out, if_neg (by omega)]; omega
                        have h5 : x ≤ y := by omega
                        have h6 : ¬ x < y := by omega
                        clear HG HU h
                        go_wp2_with fail
                        exact ⟨⟨j + 1, by omega, by go_num, by rw [HG2.out]; go_num, by rw [HU2.out]⟩, by simp [intOf]; omega⟩
                      · have HG2 : Hid (geN (zs.take (j + 1)) x = g) := by show _ = _; rw [HG.out, if_neg (by omega)]; omega
                        have HU2 : Hid (gtN (zs.take (j + 1)) x = u) := by show _ = _; rw [HU.out, if_neg (by omega)]; omega
                        have h5 : ¬ x ≤ y := by omega
                        have h6 : ¬ x < y := by omega
                        clear HG HU h
                        go_wp2_with fail
                        exact ⟨⟨j + 1, by omega, by go_num, by rw [HG2.out], by rw [HU2.out]⟩, by simp [intOf]; omega⟩
                    · obtain rfl : j = n := by omega
                      have vj : ¬ (j : Int) < (j : Int) := by omega
                      have e1 : zs.take j = zs := List.take_of_length_le (by rw [HL.out]; exact Nat.le_refl _)
                      rw [e1] at hg1 hu1 ⊢
                      clear e1 hjt
                      rcases Nat.eq_zero_or_pos j with rfl | h0
                      · generalize geN zs x = g at *
                        generalize gtN zs x = u at *
                        go_wp2_with fail
                        refine (counts_any w8).mono ?_
                        rintro e w9 ⟨rfl, hb⟩
                        have HB9 := Lib.hid (HB8.out.trans (hb.mono HB8.out.size))
                        clear hb
                        go_wp2_with fail
                        go_ret
                        exact ⟨rfl, HB9.out⟩
                      · have h1 := (HTAIL.out h0).1
                        have h2 := (HTAIL.out h0).2
                        have CQ2 := Lib.hid (quorum_yes j w8 h0 (by omega))
                        generalize geN zs x = g at *
                        generalize gtN zs x = u at *
                        generalize quorum j = qj at *
                        have k1 : ¬ (g : Int) < (qj : Int) := by omega
                        have k2 : ¬ (qj : Int) ≤ (u : Int) := by omega
                        have k0 : (0 : Int) < (j : Int) := by omega
                        clear h1 h2
                        go_wp2_with fail
                        refine CQ2.out.mono ?_
                        rintro e _ ⟨rfl, rfl⟩
                        go_wp2_with fail
                        refine CQ2.out.mono ?_
                        rintro e _ ⟨rfl, rfl⟩
                        go_wp2_with fail
                        refine (counts_any w8).mono ?_
                        rintro e w9 ⟨rfl, hb⟩
                        have HB9 := Lib.hid (HB8.out.trans (hb.mono HB8.out.size))
                        clear hb
                        go_wp2_with fail
                        go_ret
                        exact ⟨rfl, HB9.out⟩
              · have h3' : ¬ (qn : Int) ≤ (P : Int) := by omega
                clear h3
                go_wp2_with fail
                refine HCM.out.mono ?_
                rintro e w8 ⟨rfl, hb⟩
                have HB8 := Lib.hid (HB.out.trans (hb.mono HB.out.size))
                have HR8 := Lib.hid (HR.out.below HB8.out)
                clear hb HCM
                go_wp2_with fail
                go_loop [20, 21, 22] (fun g u i => RelG zs n x g u i) (fun _ _ i => n - (intOf i).toNat)
                case atStart => exact ⟨0, Nat.zero_le _, rfl, rfl, rfl⟩
                case round =>
                  obtain ⟨j, hj, rfl, rfl, rfl⟩ := hrel
                  have hg1 : geN (zs.take j) x ≤ j := Nat.le_trans (geN_le _ _) (List.length_take_le _ _)
                  have hu1 : gtN (zs.take j) x ≤ j := Nat.le_trans (gtN_le _ _) (List.length_take_le _ _)
                  by_cases hjt : j < n
                  · have hjl : j < zs.length := by rw [HL.out]; exact hjt
                    obtain ⟨ad, rfl, hcj⟩ := vi_at HR8.out hjl
                    have HG : Hid (geN (zs.take (j + 1)) x = geN (zs.take j) x + if x ≤ zs[j] then 1 else 0) := by show _ = _; rw [take_snoc zs hjl, geN_snoc]
                    have HU : Hid (gtN (zs.take (j + 1)) x = gtN (zs.take j) x + if x < zs[j] then 1 else 0) := by show _ = _; rw [take_snoc zs hjl, gtN_snoc]
                    obtain ⟨y, hy⟩ : ∃ y, y = zs[j] := ⟨_, rfl⟩
                    rw [← hy] at hcj HG HU
                    have vj : (j : Int) < (n : Int) := by omega
                    generalize geN (zs.take j) x = g at *
                    generalize gtN (zs.take j) x = u at *
                    clear hy hjl
                    rcases Int.lt_trichotomy x y with h | h | h
                    · have HG2 : Hid (geN (zs.take (j + 1)) x = g + 1) := by show _ = _; rw [HG.out, if_pos (by omega)]
                      have HU2 : Hid (gtN (zs.take (j + 1)) x = u + 1) := by show _ = _; rw [HU.out, if_pos h]
                      have h5 : x ≤ y := by omega
                      clear HG HU
                      go_wp2_with fail
                      exact ⟨⟨j + 1, by omega, by go_num, by rw [HG2.out]; go_num, by rw [HU2.out]; go_num⟩, by simp [intOf]; omega⟩
                    · have HG2 : Hid (geN (zs.take (j + 1)) x = g + 1) := by show _ = _; rw [HG.out, if_pos (by omega)]
                      have HU2 : Hid (gtN (zs.take (j + 1)) x = u) := by show _ = _; rw [HU.out, if_neg (by omega)]; omega
                      have h5 : x ≤ y := by omega
                      have h6 : ¬ x < y := by omega
                      clear HG HU h
                      go_wp2_with fail
                      exact ⟨⟨j + 1, by omega, by go_num, by rw [HG2.out]; go_num, by rw [HU2.out]⟩, by simp [intOf]; omega⟩
                    · have HG2 : Hid (geN (zs.take (j + 1)) x = g) := by show _ = _; rw [HG.out, if_neg (by omega)]; omega
                      have HU2 : Hid (gtN (zs.take (j + 1)) x = u) := by show _ = _; rw [HU.out, if_neg (by omega)]; omega
                      have h5 : ¬ x ≤ y := by omega
                      have h6 : ¬ x < y := by omega
                      clear HG HU h
                      go_wp2_with fail
                      exact ⟨⟨j + 1, by omega, by go_num, by rw [HG2.out], by rw [HU2.out]⟩, by simp [intOf]; omega⟩
                  · obtain rfl : j = n := by omega
                    have vj : ¬ (j : Int) < (j : Int) := by omega
                    have e1 : zs.take j = zs := List.take_of_length_le (by rw [HL.out]; exact Nat.le_refl _)
                    rw [e1] at hg1 hu1 ⊢
                    clear e1 hjt
                    rcases Nat.eq_zero_or_pos j with rfl | h0
                    · generalize geN zs x = g at *
                      generalize gtN zs x = u at *
                      go_wp2_with fail
                      refine (counts_any w8).mono ?_
                      rintro e w9 ⟨rfl, hb⟩
                      have HB9 := Lib.hid (HB8.out.trans (hb.mono HB8.out.size))
                      clear hb
                      go_wp2_with fail
                      go_ret
                      exact ⟨rfl, HB9.out⟩
                    · have h1 := (HTAIL.out h0).1
                      have h2 := (HTAIL.out h0).2
                      have CQ2 := Lib.hid (quorum_yes j w8 h0 (by omega))
                      generalize geN zs x = g at *
                      generalize gtN zs x = u at *
                      generalize quorum j = qj at *
                      have k1 : ¬ (g : Int) < (qj : Int) := by omega
                      have k2 : ¬ (qj : Int) ≤ (u : Int) := by omega
                      have k0 : (0 : Int) < (j : Int) := by omega
                      clear h1 h2
                      go_wp2_with fail
                      refine CQ2.out.mono ?_
                      rintro e _ ⟨rfl, rfl⟩
                      go_wp2_with fail
                      refine CQ2.out.mono ?_
                      rintro e _ ⟨rfl, rfl⟩
                      go_wp2_with fail
                      refine (counts_any w8).mono ?_
                      rintro e w9 ⟨rfl, hb⟩
                      have HB9 := Lib.hid (HB8.out.trans (hb.mono HB8.out.size))
                      clear hb
                      go_wp2_with fail
                      go_ret
                      exact ⟨rfl, HB9.out⟩

set_option maxRecDepth 100000 in
theorem lifted (os : Os) (started : os.Started) (H : Type) (enc : TypeId × Value → H) :
    ReturnsInHanded {} Try.checked os 5 .any (Rows.ballotMeetSpec.pre6 enc Try.prog Try.f5 Rows.ballotMeetRow.domain false) (Rows.ballotMeetSpec.post enc Try.prog Try.f5 false true false false) := by
  refine returnsInHanded_of_change (C := Try.checked) own started (by kernel_rfl) Try.func5
    (ChangeSpec.witness6 (enc := enc) (C := Try.checked) false ⟨#[], #[.int .u8 0, .slice none 0 0, .slice none 0 0, .slice none 0 0], []⟩ 8 (by kernel_rfl) (by kernel_rfl) (by kernel_rfl) (by kernel_rfl)) ?_
  intro W base args ds gs before hval0 hW hcnd _
  have hval : ∀ (j : Nat) t v, Try.f5.params[j]? = some t → args[j]? = some v → Value.okWide Try.prog W .any base t v := hval0
  have hW' := hW
  obtain ⟨p, q, hA0, hV, rfl, hfz, hnd⟩ := hW
  have hA : DataW.TrodAll enc Try.prog W 0 (fun _ => true) true Try.f5.params.toList args.toList ds p := hA0
  rw [Try.params5] at hA hval
  obtain ⟨v0, v1, v2, v3, d0, d1, d2, d3, p0, p1, p2, p3, rfl, rfl, rfl, h0, h1, h2, h3⟩ := trodAll_four hA
  obtain ⟨rfl, rfl⟩ := trodVars_none hV
  obtain ⟨z, rfl, z2⟩ := open_u8n ty_byte (hval 0 _ v0 rfl rfl) h0
  obtain ⟨A, na, ca, aa, rfl, _, _, ha⟩ := open_bytes ty_bytes ty_byte cells_byte (hval 1 _ v1 rfl rfl) h1
  obtain ⟨B, nb, cb, ba, rfl, _, _, hb⟩ := open_bytes ty_bytes ty_byte cells_byte (hval 2 _ v2 rfl rfl) h2
  obtain ⟨C, n, c, zs, rfl, _, _, hr⟩ := arg_ints (hval 3 _ v3 rfl rfl) h3
  refine (walk z A B C na nb n ca cb c aa ba zs W z2 ha hb hr).mono fun e W' ⟨he, hb⟩ => ?_
  subst he
  exact ⟨_, rfl, post_true laidOut (by kernel_rfl) ty_bool (by kernel_rfl) rfl hW' hb rfl⟩

theorem over : Rows.ballotMeetRow.holds Try.pinned (OpenSpec.ofChange Rows.ballotMeetSpec) :=
  OpenClaim.holds_of_wide 5 Try.f5 rfl rfl rfl rfl rfl rfl rfl ⟨rfl, rfl, rfl, rfl, rfl⟩ rfl rfl rfl rfl rfl (by kernel_rfl) Try.func5 (by kernel_rfl)
    (of_decide_eq_true (by kernel_rfl)) (by unfold Func.isWrapper; first | (rw [if_pos (by decide +kernel)]; kernel_rfl) | (rw [if_neg (by decide +kernel)]; exact ⟨rfl, rfl⟩))
    (fun os started H enc _ => lifted os started H enc)

theorem proved : Rows.BallotMeetSaid :=
  over
end Go.Proofs.Ytcnmfbbliaemhaa.ballotMeet
