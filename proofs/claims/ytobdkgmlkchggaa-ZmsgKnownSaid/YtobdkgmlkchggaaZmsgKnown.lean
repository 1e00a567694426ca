/- ZmsgKnown: the chapter's examples: each kind of message, the limits, messages that may not be; bytes of an unknown kind are none. The call returns true. No conditions. -/
import Derived.Test.YtobdkgmlkchggaaZmBads
import Derived.Test.YtobdkgmlkchggaaPhaseFree
import Derived.Deep.RegionHeld3
namespace Go.Proofs.Ytobdkgmlkchggaa.zmsgKnown
open Go.ChangeShapes Go.WideShapes Go.ChangeAt Go.RowKit Disk Log Sto Zm
open PhaseG (own_slice wp_region_free)
open Phase (stepsL_cons stepsL_nil)

theorem own_form {w : World} {base : Nat} {e : TypeId} {v : Value} {n : Nat} {xs : List Value} (h : w.ownsRow base e 1 v n xs) (hn : 0 < n) : ∃ g cap, v = .slice (some ⟨g, 0, none⟩) n cap ∧ base ≤ g ∧ g < w.heap.size := by
  rcases h.2 with ⟨_, h0⟩ | ⟨g, cap, cur, h0, hb, hg, _⟩
  · omega
  · exact ⟨g, cap, h0, hb, (Array.getElem?_eq_some_iff.1 hg).1⟩
theorem make_b (n : Nat) (hn : n ≤ 10000) (w : World) : (Instr.makeSlice 27 (.int .i64 (n : Int)) (.int .i64 (n : Int))).run Try.prog w = .ok (.slice (some ⟨w.heap.size, 0, none⟩) n n) (w.alloc (.cells ((zs n).map U).toArray 5)) := by
  obtain ⟨i0, hi0, hi1, hi2, hi3⟩ := info_parts info_byte
  have hmk := run_make_bytes (P := Try.prog) ty_bytes hi0 hi1 hi2 hi3 .i64 .i64 n n (Int.le_refl _) (by omega) w
  rw [Int.toNat_natCast, ← List.map_replicate] at hmk
  exact hmk
theorem make_97 (w : World) : (Instr.makeSlice 27 (.int .i64 4097) (.int .i64 4097)).run Try.prog w = .ok (.slice (some ⟨w.heap.size, 0, none⟩) 4097 4097) (w.alloc (.cells ((zs 4097).map U).toArray 5)) := make_b 4097 (by omega) w
theorem make_96 (w : World) : (Instr.makeSlice 27 (.int .i64 4096) (.int .i64 4096)).run Try.prog w = .ok (.slice (some ⟨w.heap.size, 0, none⟩) 4096 4096) (w.alloc (.cells ((zs 4096).map U).toArray 5)) := make_b 4096 (by omega) w
theorem make_1 (w : World) : (Instr.makeSlice 23 (.int .i64 1) (.int .i64 1)).run Try.prog w = .ok (.slice (some ⟨w.heap.size, 0, none⟩) 1 1) (w.alloc (.cells #[.int .u64 0, .slice none 0 0] 37)) := by
  obtain ⟨i0, hi0, hi1, hi2, hi3⟩ := info_parts info_line
  have hmk := run_make (P := Try.prog) w 23 37 i0 _ ty_lines hi0 hi1 .i64 .i64 1 1 (by omega) (Int.le_refl _) (by rw [hi3]; decide) (by omega)
  have e : madeCells (Value.agg #[.int .u64 0, .slice none 0 0]).cells (Int.toNat 1 * 2) = #[.int .u64 0, .slice none 0 0] := by kernel_rfl
  rw [hi2, e] at hmk
  exact hmk
theorem zs_rd (w : World) (n : Nat) : Rd (w.alloc (.cells ((zs n).map U).toArray 5)) (some ⟨w.heap.size, 0, none⟩) n (zs n) := by
  have := rd_lit w 5 (0, 0) (zs n)
  rwa [zs_len] at this
/-- What the region that lays the messages yields. -/
def RB (gl : Nat) : Nat → Value → World → Prop := fun i x W => match i with
  | 0 => x = .agg #[.int .u8 0, .int .u64 0, .int .u64 0, .int .i64 0, .int .i64 0, .slice none 0 0]
  | 1 => x = .agg #[.int .u8 7, .int .u64 1, .int .u64 0, .int .i64 0, .int .i64 0, .slice none 0 0]
  | 2 => x = .agg #[.int .u8 1, .int .u64 0, .int .u64 0, .int .i64 0, .int .i64 0, .slice none 0 0]
  | 3 => x = .agg #[.int .u8 1, .int .u64 281474976710657, .int .u64 0, .int .i64 0, .int .i64 0, .slice none 0 0]
  | 4 => x = .agg #[.int .u8 1, .int .u64 3, .int .u64 0, .int .i64 1, .int .i64 0, .slice none 0 0]
  | 5 => x = .slice (some ⟨gl, 0, none⟩) 1 1
  | 6 => x = .agg #[.int .u8 1, .int .u64 3, .int .u64 0, .int .i64 0, .int .i64 0, .slice (some ⟨gl, 0, none⟩) 1 1]
  | 7 => x = .agg #[.int .u8 3, .int .u64 3, .int .u64 0, .int .i64 0, .int .i64 1, .slice none 0 0]
  | 8 => x = .agg #[.int .u8 2, .int .u64 3, .int .u64 4, .int .i64 0, .int .i64 0, .slice none 0 0]
  | 9 => x = .agg #[.int .u8 2, .int .u64 3, .int .u64 0, .int .i64 1, .int .i64 0, .slice none 0 0]
  | 10 => x = .agg #[.int .u8 4, .int .u64 3, .int .u64 1, .int .i64 0, .int .i64 0, .slice none 0 0]
  | 11 => x = .agg #[.int .u8 5, .int .u64 3, .int .u64 0, .int .i64 (-1), .int .i64 0, .slice none 0 0]
  | 12 => x = .agg #[.int .u8 5, .int .u64 3, .int .u64 0, .int .i64 257, .int .i64 0, .slice none 0 0]
  | 13 => x = .agg #[.int .u8 5, .int .u64 3, .int .u64 0, .int .i64 0, .int .i64 257, .slice none 0 0]
  | 14 => x = .slice (some ⟨gl, 0, none⟩) 1 1
  | 15 => x = .agg #[.int .u8 6, .int .u64 3, .int .u64 0, .int .i64 0, .int .i64 0, .slice (some ⟨gl, 0, none⟩) 1 1]
  | 16 => ∃ g, x = .slice (some ⟨g, 0, none⟩) 1 1 ∧ LnS (fun _ => True) W (some ⟨g, 0, none⟩) 1 [⟨0, []⟩]
  | 17 => ∃ g, x = .agg #[.int .u8 4, .int .u64 3, .int .u64 0, .int .i64 0, .int .i64 0, .slice (some ⟨g, 0, none⟩) 1 1] ∧ LnS (fun _ => True) W (some ⟨g, 0, none⟩) 1 [⟨0, []⟩]
  | 18 => x = .agg #[.int .u64 1, .slice none 0 0]
  | 19 => ∃ g, x = .slice (some ⟨g, 0, none⟩) 1 1 ∧ LnS (fun _ => True) W (some ⟨g, 0, none⟩) 1 [⟨1, []⟩]
  | 20 => ∃ g, x = .agg #[.int .u8 4, .int .u64 3, .int .u64 0, .int .i64 0, .int .i64 0, .slice (some ⟨g, 0, none⟩) 1 1] ∧ LnS (fun _ => True) W (some ⟨g, 0, none⟩) 1 [⟨1, []⟩]
  | 21 => ∃ g, x = .slice (some ⟨g, 0, none⟩) 4097 4097 ∧ Rd W (some ⟨g, 0, none⟩) 4097 (zs 4097)
  | 22 => ∃ g, x = .agg #[.int .u64 1, .slice (some ⟨g, 0, none⟩) 4097 4097] ∧ Rd W (some ⟨g, 0, none⟩) 4097 (zs 4097)
  | 23 => ∃ g, x = .slice (some ⟨g, 0, none⟩) 1 1 ∧ LnS (fun _ => True) W (some ⟨g, 0, none⟩) 1 [⟨1, zs 4097⟩]
  | 24 => ∃ g, x = .agg #[.int .u8 4, .int .u64 3, .int .u64 0, .int .i64 0, .int .i64 0, .slice (some ⟨g, 0, none⟩) 1 1] ∧ LnS (fun _ => True) W (some ⟨g, 0, none⟩) 1 [⟨1, zs 4097⟩]
  | 25 => ∃ g, x = .slice (some ⟨g, 0, none⟩) 17 17 ∧ RowM W g bads
  | 26 => ∃ g, x = .slice (some ⟨g, 0, none⟩) 17 17 ∧ RowM W g bads
  | _ => True
theorem RB.below {gl : Nat} {W W' : World} (k : Nat) (x : Value) (h : RB gl k x W) (hb : Below W.heap.size W W') : RB gl k x W' := by
  match k, h with
  | 0, h => exact h
  | 1, h => exact h
  | 2, h => exact h
  | 3, h => exact h
  | 4, h => exact h
  | 5, h => exact h
  | 6, h => exact h
  | 7, h => exact h
  | 8, h => exact h
  | 9, h => exact h
  | 10, h => exact h
  | 11, h => exact h
  | 12, h => exact h
  | 13, h => exact h
  | 14, h => exact h
  | 15, h => exact h
  | 16, h => obtain ⟨g, e, q⟩ := h; exact ⟨g, e, q.below hb⟩
  | 17, h => obtain ⟨g, e, q⟩ := h; exact ⟨g, e, q.below hb⟩
  | 18, h => exact h
  | 19, h => obtain ⟨g, e, q⟩ := h; exact ⟨g, e, q.below hb⟩
  | 20, h => obtain ⟨g, e, q⟩ := h; exact ⟨g, e, q.below hb⟩
  | 21, h => obtain ⟨g, e, q⟩ := h; exact ⟨g, e, q.below hb⟩
  | 22, h => obtain ⟨g, e, q⟩ := h; exact ⟨g, e, q.below hb⟩
  | 23, h => obtain ⟨g, e, q⟩ := h; exact ⟨g, e, q.below hb⟩
  | 24, h => obtain ⟨g, e, q⟩ := h; exact ⟨g, e, q.below hb⟩
  | 25, h => obtain ⟨g, e, q⟩ := h; exact ⟨g, e, q.below hb⟩
  | 26, h => obtain ⟨g, e, q⟩ := h; exact ⟨g, e, q.below hb⟩
  | _ + 27, _ => exact trivial
def RelK (ms : List Mg) (w5 : World) (i : Value) (wr : World) : Prop := ∃ k : Nat, k ≤ ms.length ∧ i = .int .i64 (k : Int) ∧ Below w5.heap.size w5 wr
set_option maxRecDepth 100000 in
set_option maxHeartbeats 4000000 in
theorem walk (w : World) : Calls Try.prog 8 #[] w fun e w' => e = .returned (.bool true) ∧ Below w.heap.size w w' := by
  have CP := Lib.hid (put_yes none 0 0 st3 w st3_yes.1 (LnS.nil_ (fun _ => True) w none) st3_yes.2.1)
  unfold mgC st3 at CP
  go_enter Try.func8, Try.ntmps8
  go_wp2_with fail
  refine CP.out.mono ?_
  rintro e w1 ⟨A1, n1, c1, rfl, hn1, hc1, hown1, hb1⟩
  obtain rfl : n1 = 41 := by rw [hn1]; exact st3_yes.2.2
  have HO1 : Hid (w1.ownsRow w.heap.size 5 1 (.slice A1 41 c1) 41 (st3.enc.map U)) := hown1
  have HB1 := Lib.hid hb1
  clear hn1 hc1 hown1 hb1 CP
  obtain ⟨ga, cap, hv, hga, hgal⟩ := own_form HO1.out (by omega)
  injection hv with hA1 _ hcap
  subst hA1
  subst hcap
  have HGA : Hid (w.heap.size ≤ ga ∧ ga < w1.heap.size) := ⟨hga, hgal⟩
  have hc0 : w1.cell? ⟨ga, 0, none⟩ = some (.int .u8 1) := (HO1.out.cellAt 0 (by omega)).trans st3_cells.1
  have hc8 : w1.cell? ⟨ga, 8, none⟩ = some (.int .u8 3) := (HO1.out.cellAt 8 (by omega)).trans st3_cells.2
  clear hga hgal
  obtain ⟨V1, hV1⟩ : ∃ V, V = w1.alloc (.cells #[.int .u8 7] 5) := ⟨_, rfl⟩
  obtain ⟨V2, hV2⟩ : ∃ V, V = V1.alloc (.cells #[.int .u64 1, .slice (some ⟨w1.heap.size, 0, none⟩) 1 1] 37) := ⟨_, rfl⟩
  have hs1 : V1.heap.size = w1.heap.size + 1 := by rw [hV1, World.size_alloc]
  have hbv : Below w1.heap.size w1 V2 := by rw [hV2, hV1]; exact ((Below.refl _ _).alloc (Nat.le_refl _) _).alloc (by simp) _
  have hbl : LnS (fun _ => True) V2 (some ⟨w1.heap.size + 1, 0, none⟩) 1 [l7] := by
    have h1 : Rd V1 (some ⟨w1.heap.size, 0, none⟩) 1 [7] := by rw [hV1]; exact rd_lit w1 5 (0, 0) [7]
    have h2 : Rd V2 (some ⟨w1.heap.size, 0, none⟩) 1 [7] := h1.below (by rw [hV2]; exact (Below.refl _ _).alloc (Nat.le_refl _) _)
    have h3 : Bk V2 (w1.heap.size + 1) 37 #[.int .u64 1, .slice (some ⟨w1.heap.size, 0, none⟩) 1 1] := by rw [hV2, ← hs1]; exact Bk.new _ _ _
    exact one_line (x := l7) h3 (Nat.le_refl _) h2
  have HBV := Lib.hid hbv
  have HLV := Lib.hid hbl
  clear hs1 hbv hbl
  go_wp2_with fail
  rw [← hV1, ← hV2]
  clear hV1 hV2 hc0 hc8
  obtain ⟨gl, hgl⟩ : ∃ gl, gl = w1.heap.size + 1 := ⟨_, rfl⟩
  rw [← hgl] at HLV ⊢
  clear hgl
  refine wp_region_free (F := ?F) (RB gl) (by kernel_rfl) (by kernel_rfl) (by kernel_rfl) ?hR ?hS ?hF ?hE
  case hF =>
    intro v
    simp only [List.length_cons, List.length_nil, Nat.zero_add, Nat.reduceAdd, PhaseG.final, List.getElem?_toArray, List.getElem?_cons_zero, List.getElem?_cons_succ, Option.bind_some, Act.put, List.setIfInBounds_toArray, List.set_cons_zero, List.set_cons_succ]
    exact rfl
  case hR =>
    intro k x W W' hx _ h2
    exact RB.below k x hx h2
  case hS =>
    refine stepsL_cons ?_ (stepsL_cons ?_ (stepsL_cons ?_ (stepsL_cons ?_ (stepsL_cons ?_ (stepsL_cons ?_ (stepsL_cons ?_ (stepsL_cons ?_ (stepsL_cons ?_ (stepsL_cons ?_ (stepsL_cons ?_ (stepsL_cons ?_ (stepsL_cons ?_ (stepsL_cons ?_ (stepsL_cons ?_ (stepsL_cons ?_ (stepsL_cons ?_ (stepsL_cons ?_ (stepsL_cons ?_ (stepsL_cons ?_ (stepsL_cons ?_ (stepsL_cons ?_ (stepsL_cons ?_ (stepsL_cons ?_ (stepsL_cons ?_ (stepsL_cons ?_ (stepsL_cons ?_ (stepsL_nil)))))))))))))))))))))))))))
    · intro a v W hd hb K hK
      have hk := hK (.agg #[.int .u8 0, .int .u64 0, .int .u64 0, .int .i64 0, .int .i64 0, .slice none 0 0]) W (Below.refl _ _) rfl
      clear hK
      unfold Oper.wp
      go_simp
      exact hk
    · intro a v W hd hb K hK
      have hk := hK (.agg #[.int .u8 7, .int .u64 1, .int .u64 0, .int .i64 0, .int .i64 0, .slice none 0 0]) W (Below.refl _ _) rfl
      clear hK
      unfold Oper.wp
      go_simp
      exact hk
    · intro a v W hd hb K hK
      have hk := hK (.agg #[.int .u8 1, .int .u64 0, .int .u64 0, .int .i64 0, .int .i64 0, .slice none 0 0]) W (Below.refl _ _) rfl
      clear hK
      unfold Oper.wp
      go_simp
      exact hk
    · intro a v W hd hb K hK
      have hk := hK (.agg #[.int .u8 1, .int .u64 281474976710657, .int .u64 0, .int .i64 0, .int .i64 0, .slice none 0 0]) W (Below.refl _ _) rfl
      clear hK
      unfold Oper.wp
      go_simp
      exact hk
    · intro a v W hd hb K hK
      have hk := hK (.agg #[.int .u8 1, .int .u64 3, .int .u64 0, .int .i64 1, .int .i64 0, .slice none 0 0]) W (Below.refl _ _) rfl
      clear hK
      unfold Oper.wp
      go_simp
      exact hk
    · intro a v W hd hb K hK
      have k3 : a.tmps.getD 3 undef = .slice (some ⟨gl, 0, none⟩) 1 1 := hd.kept 3 (by kernel_rfl)
      have hk := hK (.slice (some ⟨gl, 0, none⟩) 1 1) W (Below.refl _ _) rfl
      clear hK
      unfold Oper.wp
      go_simp
      exact hk
    · intro a v W hd hb K hK
      obtain ⟨h48, r48⟩ := hd.done_ 5 _ 48 (by kernel_rfl) rfl rfl
      have r48 : v 5 = .slice (some ⟨gl, 0, none⟩) 1 1 := r48
      rw [r48] at h48
      simp only [Array.getD_eq_getD_getElem?] at h48
      have hk := hK (.agg #[.int .u8 1, .int .u64 3, .int .u64 0, .int .i64 0, .int .i64 0, .slice (some ⟨gl, 0, none⟩) 1 1]) W (Below.refl _ _) rfl
      clear hK
      unfold Oper.wp
      go_simp
      exact hk
    · intro a v W hd hb K hK
      have hk := hK (.agg #[.int .u8 3, .int .u64 3, .int .u64 0, .int .i64 0, .int .i64 1, .slice none 0 0]) W (Below.refl _ _) rfl
      clear hK
      unfold Oper.wp
      go_simp
      exact hk
    · intro a v W hd hb K hK
      have hk := hK (.agg #[.int .u8 2, .int .u64 3, .int .u64 4, .int .i64 0, .int .i64 0, .slice none 0 0]) W (Below.refl _ _) rfl
      clear hK
      unfold Oper.wp
      go_simp
      exact hk
    · intro a v W hd hb K hK
      have hk := hK (.agg #[.int .u8 2, .int .u64 3, .int .u64 0, .int .i64 1, .int .i64 0, .slice none 0 0]) W (Below.refl _ _) rfl
      clear hK
      unfold Oper.wp
      go_simp
      exact hk
    · intro a v W hd hb K hK
      have hk := hK (.agg #[.int .u8 4, .int .u64 3, .int .u64 1, .int .i64 0, .int .i64 0, .slice none 0 0]) W (Below.refl _ _) rfl
      clear hK
      unfold Oper.wp
      go_simp
      exact hk
    · intro a v W hd hb K hK
      have hk := hK (.agg #[.int .u8 5, .int .u64 3, .int .u64 0, .int .i64 (-1), .int .i64 0, .slice none 0 0]) W (Below.refl _ _) rfl
      clear hK
      unfold Oper.wp
      go_simp
      exact hk
    · intro a v W hd hb K hK
      have hk := hK (.agg #[.int .u8 5, .int .u64 3, .int .u64 0, .int .i64 257, .int .i64 0, .slice none 0 0]) W (Below.refl _ _) rfl
      clear hK
      unfold Oper.wp
      go_simp
      exact hk
    · intro a v W hd hb K hK
      have hk := hK (.agg #[.int .u8 5, .int .u64 3, .int .u64 0, .int .i64 0, .int .i64 257, .slice none 0 0]) W (Below.refl _ _) rfl
      clear hK
      unfold Oper.wp
      go_simp
      exact hk
    · intro a v W hd hb K hK
      have k3 : a.tmps.getD 3 undef = .slice (some ⟨gl, 0, none⟩) 1 1 := hd.kept 3 (by kernel_rfl)
      have hk := hK (.slice (some ⟨gl, 0, none⟩) 1 1) W (Below.refl _ _) rfl
      clear hK
      unfold Oper.wp
      go_simp
      exact hk
    · intro a v W hd hb K hK
      obtain ⟨h57, r57⟩ := hd.done_ 14 _ 57 (by kernel_rfl) rfl rfl
      have r57 : v 14 = .slice (some ⟨gl, 0, none⟩) 1 1 := r57
      rw [r57] at h57
      simp only [Array.getD_eq_getD_getElem?] at h57
      have hk := hK (.agg #[.int .u8 6, .int .u64 3, .int .u64 0, .int .i64 0, .int .i64 0, .slice (some ⟨gl, 0, none⟩) 1 1]) W (Below.refl _ _) rfl
      clear hK
      unfold Oper.wp
      go_simp
      exact hk
    · intro a v W hd hb K hK
      have hmk := make_1 W
      have hk := hK (.slice (some ⟨W.heap.size, 0, none⟩) 1 1) _ ((Below.refl _ _).alloc (Nat.le_refl _) _) ⟨W.heap.size, rfl, one_line (x := ⟨0, []⟩) (Bk.new W 37 #[.int .u64 0, .slice none 0 0]) (Nat.le_refl _) (Rd.nil_ _ none)⟩
      clear hK
      unfold Oper.wp
      go_simp
      exact hk
    · intro a v W hd hb K hK
      obtain ⟨h59, r59⟩ := hd.done_ 16 _ 59 (by kernel_rfl) rfl rfl
      obtain ⟨g59, e59, q59⟩ := r59
      rw [e59] at h59
      have hk := hK (.agg #[.int .u8 4, .int .u64 3, .int .u64 0, .int .i64 0, .int .i64 0, .slice (some ⟨g59, 0, none⟩) 1 1]) W (Below.refl _ _) ⟨g59, rfl, q59⟩
      clear hK q59
      simp only [Array.getD_eq_getD_getElem?] at h59
      unfold Oper.wp
      go_simp
      exact hk
    · intro a v W hd hb K hK
      have hk := hK (.agg #[.int .u64 1, .slice none 0 0]) W (Below.refl _ _) rfl
      clear hK
      unfold Oper.wp
      go_simp
      exact hk
    · intro a v W hd hb K hK
      obtain ⟨h61, r61⟩ := hd.done_ 18 _ 61 (by kernel_rfl) rfl rfl
      have r61 : v 18 = .agg #[.int .u64 1, .slice none 0 0] := r61
      rw [r61] at h61
      have hk := hK (.slice (some ⟨W.heap.size, 0, none⟩) 1 1) _ ((Below.refl _ _).alloc (Nat.le_refl _) _) ⟨W.heap.size, rfl, one_line (x := ⟨1, []⟩) (Bk.new W 37 #[.int .u64 1, .slice none 0 0]) (Nat.le_refl _) (Rd.nil_ _ none)⟩
      clear hK
      simp only [Array.getD_eq_getD_getElem?] at h61
      unfold Oper.wp
      go_simp
      exact hk
    · intro a v W hd hb K hK
      obtain ⟨h62, r62⟩ := hd.done_ 19 _ 62 (by kernel_rfl) rfl rfl
      obtain ⟨g62, e62, q62⟩ := r62
      rw [e62] at h62
      have hk := hK (.agg #[.int .u8 4, .int .u64 3, .int .u64 0, .int .i64 0, .int .i64 0, .slice (some ⟨g62, 0, none⟩) 1 1]) W (Below.refl _ _) ⟨g62, rfl, q62⟩
      clear hK q62
      simp only [Array.getD_eq_getD_getElem?] at h62
      unfold Oper.wp
      go_simp
      exact hk
    · intro a v W hd hb K hK
      have hmk := make_97 W
      have hrd := zs_rd W 4097
      generalize ((zs 4097).map U).toArray = cz at hmk hrd
      have hk := hK (.slice (some ⟨W.heap.size, 0, none⟩) 4097 4097) _ ((Below.refl _ _).alloc (Nat.le_refl _) _) ⟨W.heap.size, rfl, hrd⟩
      clear hK hrd
      unfold Oper.wp
      go_simp
      exact hk
    · intro a v W hd hb K hK
      obtain ⟨h64, r64⟩ := hd.done_ 21 _ 64 (by kernel_rfl) rfl rfl
      obtain ⟨g64, e64, q64⟩ := r64
      rw [e64] at h64
      have hk := hK (.agg #[.int .u64 1, .slice (some ⟨g64, 0, none⟩) 4097 4097]) W (Below.refl _ _) ⟨g64, rfl, q64⟩
      clear hK q64
      simp only [Array.getD_eq_getD_getElem?] at h64
      unfold Oper.wp
      go_simp
      exact hk
    · intro a v W hd hb K hK
      obtain ⟨h65, r65⟩ := hd.done_ 22 _ 65 (by kernel_rfl) rfl rfl
      obtain ⟨g65, e65, q65⟩ := r65
      rw [e65] at h65
      have hba : Below W.heap.size W (W.alloc (.cells #[.int .u64 1, .slice (some ⟨g65, 0, none⟩) 4097 4097] 37)) := (Below.refl _ _).alloc (Nat.le_refl _) _
      have hk := hK (.slice (some ⟨W.heap.size, 0, none⟩) 1 1) _ hba ⟨W.heap.size, rfl, one_line (x := ⟨1, zs 4097⟩) (Bk.new W 37 #[.int .u64 1, .slice (some ⟨g65, 0, none⟩) 4097 4097]) (Nat.le_refl _) (q65.below hba)⟩
      clear hK q65 hba
      simp only [Array.getD_eq_getD_getElem?] at h65
      unfold Oper.wp
      go_simp
      exact hk
    · intro a v W hd hb K hK
      obtain ⟨h66, r66⟩ := hd.done_ 23 _ 66 (by kernel_rfl) rfl rfl
      obtain ⟨g66, e66, q66⟩ := r66
      rw [e66] at h66
      have hk := hK (.agg #[.int .u8 4, .int .u64 3, .int .u64 0, .int .i64 0, .int .i64 0, .slice (some ⟨g66, 0, none⟩) 1 1]) W (Below.refl _ _) ⟨g66, rfl, q66⟩
      clear hK q66
      simp only [Array.getD_eq_getD_getElem?] at h66
      unfold Oper.wp
      go_simp
      exact hk
    · intro a v W hd hb K hK
      obtain ⟨h43, r43⟩ := hd.done_ 0 _ 43 (by kernel_rfl) rfl rfl
      have r43 : v 0 = .agg #[.int .u8 0, .int .u64 0, .int .u64 0, .int .i64 0, .int .i64 0, .slice none 0 0] := r43
      rw [r43] at h43
      obtain ⟨h44, r44⟩ := hd.done_ 1 _ 44 (by kernel_rfl) rfl rfl
      have r44 : v 1 = .agg #[.int .u8 7, .int .u64 1, .int .u64 0, .int .i64 0, .int .i64 0, .slice none 0 0] := r44
      rw [r44] at h44
      obtain ⟨h45, r45⟩ := hd.done_ 2 _ 45 (by kernel_rfl) rfl rfl
      have r45 : v 2 = .agg #[.int .u8 1, .int .u64 0, .int .u64 0, .int .i64 0, .int .i64 0, .slice none 0 0] := r45
      rw [r45] at h45
      obtain ⟨h46, r46⟩ := hd.done_ 3 _ 46 (by kernel_rfl) rfl rfl
      have r46 : v 3 = .agg #[.int .u8 1, .int .u64 281474976710657, .int .u64 0, .int .i64 0, .int .i64 0, .slice none 0 0] := r46
      rw [r46] at h46
      obtain ⟨h47, r47⟩ := hd.done_ 4 _ 47 (by kernel_rfl) rfl rfl
      have r47 : v 4 = .agg #[.int .u8 1, .int .u64 3, .int .u64 0, .int .i64 1, .int .i64 0, .slice none 0 0] := r47
      rw [r47] at h47
      obtain ⟨h49, r49⟩ := hd.done_ 6 _ 49 (by kernel_rfl) rfl rfl
      have r49 : v 6 = .agg #[.int .u8 1, .int .u64 3, .int .u64 0, .int .i64 0, .int .i64 0, .slice (some ⟨gl, 0, none⟩) 1 1] := r49
      rw [r49] at h49
      obtain ⟨h50, r50⟩ := hd.done_ 7 _ 50 (by kernel_rfl) rfl rfl
      have r50 : v 7 = .agg #[.int .u8 3, .int .u64 3, .int .u64 0, .int .i64 0, .int .i64 1, .slice none 0 0] := r50
      rw [r50] at h50
      obtain ⟨h51, r51⟩ := hd.done_ 8 _ 51 (by kernel_rfl) rfl rfl
      have r51 : v 8 = .agg #[.int .u8 2, .int .u64 3, .int .u64 4, .int .i64 0, .int .i64 0, .slice none 0 0] := r51
      rw [r51] at h51
      obtain ⟨h52, r52⟩ := hd.done_ 9 _ 52 (by kernel_rfl) rfl rfl
      have r52 : v 9 = .agg #[.int .u8 2, .int .u64 3, .int .u64 0, .int .i64 1, .int .i64 0, .slice none 0 0] := r52
      rw [r52] at h52
      obtain ⟨h53, r53⟩ := hd.done_ 10 _ 53 (by kernel_rfl) rfl rfl
      have r53 : v 10 = .agg #[.int .u8 4, .int .u64 3, .int .u64 1, .int .i64 0, .int .i64 0, .slice none 0 0] := r53
      rw [r53] at h53
      obtain ⟨h54, r54⟩ := hd.done_ 11 _ 54 (by kernel_rfl) rfl rfl
      have r54 : v 11 = .agg #[.int .u8 5, .int .u64 3, .int .u64 0, .int .i64 (-1), .int .i64 0, .slice none 0 0] := r54
      rw [r54] at h54
      obtain ⟨h55, r55⟩ := hd.done_ 12 _ 55 (by kernel_rfl) rfl rfl
      have r55 : v 12 = .agg #[.int .u8 5, .int .u64 3, .int .u64 0, .int .i64 257, .int .i64 0, .slice none 0 0] := r55
      rw [r55] at h55
      obtain ⟨h56, r56⟩ := hd.done_ 13 _ 56 (by kernel_rfl) rfl rfl
      have r56 : v 13 = .agg #[.int .u8 5, .int .u64 3, .int .u64 0, .int .i64 0, .int .i64 257, .slice none 0 0] := r56
      rw [r56] at h56
      obtain ⟨h58, r58⟩ := hd.done_ 15 _ 58 (by kernel_rfl) rfl rfl
      have r58 : v 15 = .agg #[.int .u8 6, .int .u64 3, .int .u64 0, .int .i64 0, .int .i64 0, .slice (some ⟨gl, 0, none⟩) 1 1] := r58
      rw [r58] at h58
      obtain ⟨h60, r60⟩ := hd.done_ 17 _ 60 (by kernel_rfl) rfl rfl
      obtain ⟨g60, e60, q60⟩ := r60
      rw [e60] at h60
      obtain ⟨h63, r63⟩ := hd.done_ 20 _ 63 (by kernel_rfl) rfl rfl
      obtain ⟨g63, e63, q63⟩ := r63
      rw [e63] at h63
      obtain ⟨h67, r67⟩ := hd.done_ 24 _ 67 (by kernel_rfl) rfl rfl
      obtain ⟨g67, e67, q67⟩ := r67
      rw [e67] at h67
      have hgl : LnS (fun _ => True) W (some ⟨gl, 0, none⟩) 1 [l7] := HLV.out.below hb
      have hba : Below W.heap.size W (W.alloc (.cells #[.int .u8 0, .int .u64 0, .int .u64 0, .int .i64 0, .int .i64 0, .slice none 0 0, .int .u8 7, .int .u64 1, .int .u64 0, .int .i64 0, .int .i64 0, .slice none 0 0, .int .u8 1, .int .u64 0, .int .u64 0, .int .i64 0, .int .i64 0, .slice none 0 0, .int .u8 1, .int .u64 281474976710657, .int .u64 0, .int .i64 0, .int .i64 0, .slice none 0 0, .int .u8 1, .int .u64 3, .int .u64 0, .int .i64 1, .int .i64 0, .slice none 0 0, .int .u8 1, .int .u64 3, .int .u64 0, .int .i64 0, .int .i64 0, .slice (some ⟨gl, 0, none⟩) 1 1, .int .u8 3, .int .u64 3, .int .u64 0, .int .i64 0, .int .i64 1, .slice none 0 0, .int .u8 2, .int .u64 3, .int .u64 4, .int .i64 0, .int .i64 0, .slice none 0 0, .int .u8 2, .int .u64 3, .int .u64 0, .int .i64 1, .int .i64 0, .slice none 0 0, .int .u8 4, .int .u64 3, .int .u64 1, .int .i64 0, .int .i64 0, .slice none 0 0, .int .u8 5, .int .u64 3, .int .u64 0, .int .i64 (-1), .int .i64 0, .slice none 0 0, .int .u8 5, .int .u64 3, .int .u64 0, .int .i64 257, .int .i64 0, .slice none 0 0, .int .u8 5, .int .u64 3, .int .u64 0, .int .i64 0, .int .i64 257, .slice none 0 0, .int .u8 6, .int .u64 3, .int .u64 0, .int .i64 0, .int .i64 0, .slice (some ⟨gl, 0, none⟩) 1 1, .int .u8 4, .int .u64 3, .int .u64 0, .int .i64 0, .int .i64 0, .slice (some ⟨g60, 0, none⟩) 1 1, .int .u8 4, .int .u64 3, .int .u64 0, .int .i64 0, .int .i64 0, .slice (some ⟨g63, 0, none⟩) 1 1, .int .u8 4, .int .u64 3, .int .u64 0, .int .i64 0, .int .i64 0, .slice (some ⟨g67, 0, none⟩) 1 1] 25)) := (Below.refl _ _).alloc (Nat.le_refl _) _
      have hbk := Bk.new W 25 #[.int .u8 0, .int .u64 0, .int .u64 0, .int .i64 0, .int .i64 0, .slice none 0 0, .int .u8 7, .int .u64 1, .int .u64 0, .int .i64 0, .int .i64 0, .slice none 0 0, .int .u8 1, .int .u64 0, .int .u64 0, .int .i64 0, .int .i64 0, .slice none 0 0, .int .u8 1, .int .u64 281474976710657, .int .u64 0, .int .i64 0, .int .i64 0, .slice none 0 0, .int .u8 1, .int .u64 3, .int .u64 0, .int .i64 1, .int .i64 0, .slice none 0 0, .int .u8 1, .int .u64 3, .int .u64 0, .int .i64 0, .int .i64 0, .slice (some ⟨gl, 0, none⟩) 1 1, .int .u8 3, .int .u64 3, .int .u64 0, .int .i64 0, .int .i64 1, .slice none 0 0, .int .u8 2, .int .u64 3, .int .u64 4, .int .i64 0, .int .i64 0, .slice none 0 0, .int .u8 2, .int .u64 3, .int .u64 0, .int .i64 1, .int .i64 0, .slice none 0 0, .int .u8 4, .int .u64 3, .int .u64 1, .int .i64 0, .int .i64 0, .slice none 0 0, .int .u8 5, .int .u64 3, .int .u64 0, .int .i64 (-1), .int .i64 0, .slice none 0 0, .int .u8 5, .int .u64 3, .int .u64 0, .int .i64 257, .int .i64 0, .slice none 0 0, .int .u8 5, .int .u64 3, .int .u64 0, .int .i64 0, .int .i64 257, .slice none 0 0, .int .u8 6, .int .u64 3, .int .u64 0, .int .i64 0, .int .i64 0, .slice (some ⟨gl, 0, none⟩) 1 1, .int .u8 4, .int .u64 3, .int .u64 0, .int .i64 0, .int .i64 0, .slice (some ⟨g60, 0, none⟩) 1 1, .int .u8 4, .int .u64 3, .int .u64 0, .int .i64 0, .int .i64 0, .slice (some ⟨g63, 0, none⟩) 1 1, .int .u8 4, .int .u64 3, .int .u64 0, .int .i64 0, .int .i64 0, .slice (some ⟨g67, 0, none⟩) 1 1]
      have hrow : RowM (W.alloc (.cells #[.int .u8 0, .int .u64 0, .int .u64 0, .int .i64 0, .int .i64 0, .slice none 0 0, .int .u8 7, .int .u64 1, .int .u64 0, .int .i64 0, .int .i64 0, .slice none 0 0, .int .u8 1, .int .u64 0, .int .u64 0, .int .i64 0, .int .i64 0, .slice none 0 0, .int .u8 1, .int .u64 281474976710657, .int .u64 0, .int .i64 0, .int .i64 0, .slice none 0 0, .int .u8 1, .int .u64 3, .int .u64 0, .int .i64 1, .int .i64 0, .slice none 0 0, .int .u8 1, .int .u64 3, .int .u64 0, .int .i64 0, .int .i64 0, .slice (some ⟨gl, 0, none⟩) 1 1, .int .u8 3, .int .u64 3, .int .u64 0, .int .i64 0, .int .i64 1, .slice none 0 0, .int .u8 2, .int .u64 3, .int .u64 4, .int .i64 0, .int .i64 0, .slice none 0 0, .int .u8 2, .int .u64 3, .int .u64 0, .int .i64 1, .int .i64 0, .slice none 0 0, .int .u8 4, .int .u64 3, .int .u64 1, .int .i64 0, .int .i64 0, .slice none 0 0, .int .u8 5, .int .u64 3, .int .u64 0, .int .i64 (-1), .int .i64 0, .slice none 0 0, .int .u8 5, .int .u64 3, .int .u64 0, .int .i64 257, .int .i64 0, .slice none 0 0, .int .u8 5, .int .u64 3, .int .u64 0, .int .i64 0, .int .i64 257, .slice none 0 0, .int .u8 6, .int .u64 3, .int .u64 0, .int .i64 0, .int .i64 0, .slice (some ⟨gl, 0, none⟩) 1 1, .int .u8 4, .int .u64 3, .int .u64 0, .int .i64 0, .int .i64 0, .slice (some ⟨g60, 0, none⟩) 1 1, .int .u8 4, .int .u64 3, .int .u64 0, .int .i64 0, .int .i64 0, .slice (some ⟨g63, 0, none⟩) 1 1, .int .u8 4, .int .u64 3, .int .u64 0, .int .i64 0, .int .i64 0, .slice (some ⟨g67, 0, none⟩) 1 1] 25)) W.heap.size bads := by
        intro k m hk
        unfold bads at hk
        match k, hk with
        | 0, hk =>
          injection hk with hk
          subst hk
          exact row_at hbk 0 _ none 0 (fun i hi => by
            match i, hi with
            | 0, _ | 1, _ | 2, _ | 3, _ | 4, _ | 5, _ => rfl
            | _ + 6, hi => omega) (LnS.nil_ _ _ _)
        | 1, hk =>
          injection hk with hk
          subst hk
          exact row_at hbk 1 _ none 0 (fun i hi => by
            match i, hi with
            | 0, _ | 1, _ | 2, _ | 3, _ | 4, _ | 5, _ => rfl
            | _ + 6, hi => omega) (LnS.nil_ _ _ _)
        | 2, hk =>
          injection hk with hk
          subst hk
          exact row_at hbk 2 _ none 0 (fun i hi => by
            match i, hi with
            | 0, _ | 1, _ | 2, _ | 3, _ | 4, _ | 5, _ => rfl
            | _ + 6, hi => omega) (LnS.nil_ _ _ _)
        | 3, hk =>
          injection hk with hk
          subst hk
          exact row_at hbk 3 _ none 0 (fun i hi => by
            match i, hi with
            | 0, _ | 1, _ | 2, _ | 3, _ | 4, _ | 5, _ => rfl
            | _ + 6, hi => omega) (LnS.nil_ _ _ _)
        | 4, hk =>
          injection hk with hk
          subst hk
          exact row_at hbk 4 _ none 0 (fun i hi => by
            match i, hi with
            | 0, _ | 1, _ | 2, _ | 3, _ | 4, _ | 5, _ => rfl
            | _ + 6, hi => omega) (LnS.nil_ _ _ _)
        | 5, hk =>
          injection hk with hk
          subst hk
          exact row_at hbk 5 _ (some ⟨gl, 0, none⟩) 1 (fun i hi => by
            match i, hi with
            | 0, _ | 1, _ | 2, _ | 3, _ | 4, _ | 5, _ => rfl
            | _ + 6, hi => omega) (hgl.below hba)
        | 6, hk =>
          injection hk with hk
          subst hk
          exact row_at hbk 6 _ none 0 (fun i hi => by
            match i, hi with
            | 0, _ | 1, _ | 2, _ | 3, _ | 4, _ | 5, _ => rfl
            | _ + 6, hi => omega) (LnS.nil_ _ _ _)
        | 7, hk =>
          injection hk with hk
          subst hk
          exact row_at hbk 7 _ none 0 (fun i hi => by
            match i, hi with
            | 0, _ | 1, _ | 2, _ | 3, _ | 4, _ | 5, _ => rfl
            | _ + 6, hi => omega) (LnS.nil_ _ _ _)
        | 8, hk =>
          injection hk with hk
          subst hk
          exact row_at hbk 8 _ none 0 (fun i hi => by
            match i, hi with
            | 0, _ | 1, _ | 2, _ | 3, _ | 4, _ | 5, _ => rfl
            | _ + 6, hi => omega) (LnS.nil_ _ _ _)
        | 9, hk =>
          injection hk with hk
          subst hk
          exact row_at hbk 9 _ none 0 (fun i hi => by
            match i, hi with
            | 0, _ | 1, _ | 2, _ | 3, _ | 4, _ | 5, _ => rfl
            | _ + 6, hi => omega) (LnS.nil_ _ _ _)
        | 10, hk =>
          injection hk with hk
          subst hk
          exact row_at hbk 10 _ none 0 (fun i hi => by
            match i, hi with
            | 0, _ | 1, _ | 2, _ | 3, _ | 4, _ | 5, _ => rfl
            | _ + 6, hi => omega) (LnS.nil_ _ _ _)
        | 11, hk =>
          injection hk with hk
          subst hk
          exact row_at hbk 11 _ none 0 (fun i hi => by
            match i, hi with
            | 0, _ | 1, _ | 2, _ | 3, _ | 4, _ | 5, _ => rfl
            | _ + 6, hi => omega) (LnS.nil_ _ _ _)
        | 12, hk =>
          injection hk with hk
          subst hk
          exact row_at hbk 12 _ none 0 (fun i hi => by
            match i, hi with
            | 0, _ | 1, _ | 2, _ | 3, _ | 4, _ | 5, _ => rfl
            | _ + 6, hi => omega) (LnS.nil_ _ _ _)
        | 13, hk =>
          injection hk with hk
          subst hk
          exact row_at hbk 13 _ (some ⟨gl, 0, none⟩) 1 (fun i hi => by
            match i, hi with
            | 0, _ | 1, _ | 2, _ | 3, _ | 4, _ | 5, _ => rfl
            | _ + 6, hi => omega) (hgl.below hba)
        | 14, hk =>
          injection hk with hk
          subst hk
          exact row_at hbk 14 _ (some ⟨g60, 0, none⟩) 1 (fun i hi => by
            match i, hi with
            | 0, _ | 1, _ | 2, _ | 3, _ | 4, _ | 5, _ => rfl
            | _ + 6, hi => omega) (q60.below hba)
        | 15, hk =>
          injection hk with hk
          subst hk
          exact row_at hbk 15 _ (some ⟨g63, 0, none⟩) 1 (fun i hi => by
            match i, hi with
            | 0, _ | 1, _ | 2, _ | 3, _ | 4, _ | 5, _ => rfl
            | _ + 6, hi => omega) (q63.below hba)
        | 16, hk =>
          injection hk with hk
          subst hk
          exact row_at hbk 16 _ (some ⟨g67, 0, none⟩) 1 (fun i hi => by
            match i, hi with
            | 0, _ | 1, _ | 2, _ | 3, _ | 4, _ | 5, _ => rfl
            | _ + 6, hi => omega) (q67.below hba)
        | _ + 17, hk => cases hk
      have hk := hK (.slice (some ⟨W.heap.size, 0, none⟩) 17 17) _ hba ⟨W.heap.size, rfl, hrow⟩
      clear hK hrow hbk hba hgl q60 q63 q67
      simp only [Array.getD_eq_getD_getElem?] at h43 h44 h45 h46 h47 h49 h50 h51 h52 h53 h54 h55 h56 h58 h60 h63 h67
      unfold Oper.wp
      go_simp
      exact hk
    · intro a v W hd hb K hK
      obtain ⟨h68, r68⟩ := hd.done_ 25 _ 68 (by kernel_rfl) rfl rfl
      obtain ⟨g68, e68, q68⟩ := r68
      rw [e68] at h68
      have hk := hK (.slice (some ⟨g68, 0, none⟩) 17 17) W (Below.refl _ _) ⟨g68, rfl, q68⟩
      clear hK q68
      unfold Oper.wp
      go_simp
      exact hk
  case hE =>
    intro v w5 hb5 hv
    obtain ⟨gb, e26, hrow⟩ := hv 26 (show 26 < 27 by decide)
    have HROW := Lib.hid hrow
    have HB5 := Lib.hid (HBV.out.trans (hb5.mono HBV.out.size))
    have HL5 := Lib.hid (HLV.out.below hb5)
    clear hv hrow hb5 HBV HLV
    rw [e26]
    clear e26
    have HLB : Hid (bads.length = 17) := rfl
    go_wp2_with fail
    go_loopw [5] (fun i wr => RelK bads w5 i wr) (fun i _ => 17 - (intOf i).toNat)
    case atStart => exact ⟨0, Nat.zero_le _, rfl, Below.refl _ _⟩
    case round =>
      obtain ⟨k, hk, rfl, hbr⟩ := hrel
      rw [HLB.out] at hk
      have HBR := Lib.hid hbr
      clear hbr
      by_cases hlt : k < 17
      · have hkl : k < bads.length := hlt
        obtain ⟨m, hm⟩ : ∃ m, m = bads[k] := ⟨_, rfl⟩
        obtain ⟨hok, hno⟩ := bads_no m (by rw [hm]; exact List.getElem_mem hkl)
        obtain ⟨A, c, hcs, hln⟩ := (HROW.out.below HBR.out) k m (by rw [hm]; exact List.getElem?_eq_getElem hkl)
        have a0 := hcs 0 _ rfl
        have a1 := hcs 1 _ rfl
        have a2 := hcs 2 _ rfl
        have a3 := hcs 3 _ rfl
        have a4 := hcs 4 _ rfl
        have a5 := hcs 5 _ rfl
        simp only [Nat.add_zero] at a0
        have CP := Lib.hid (put_no A m.lines.length c m wr hok hln hno)
        clear hok hno hcs hln hm hkl
        unfold mgC at CP
        go_wp2_with fail
        refine CP.out.mono ?_
        rintro e w6 ⟨rfl, hb6⟩
        have HB6 := Lib.hid (HBR.out.trans (hb6.mono HBR.out.size))
        clear hb6 CP a0 a1 a2 a3 a4 a5
        go_wp2_with fail
        exact ⟨⟨k + 1, by rw [HLB.out]; omega, rfl, HB6.out⟩, by simp [intOf]; omega⟩
      · obtain rfl : k = 17 := by omega
        have hmk := make_96 wr
        have hrd0 := zs_rd wr 4096
        generalize ((zs 4096).map U).toArray = cz at hmk hrd0
        obtain ⟨V1, hV1⟩ : ∃ V, V = wr.alloc (.cells cz 5) := ⟨_, rfl⟩
        rw [← hV1] at hrd0
        have hs1 : V1.heap.size = wr.heap.size + 1 := by rw [hV1, World.size_alloc]
        obtain ⟨V2, hV2⟩ : ∃ V, V = V1.alloc (.cells #[.int .u64 281474976710656, .slice (some ⟨wr.heap.size, 0, none⟩) 4096 4096] 37) := ⟨_, rfl⟩
        have hs2 : V2.heap.size = wr.heap.size + 1 + 1 := by rw [hV2, World.size_alloc, hs1]
        obtain ⟨gz, hgz⟩ : ∃ gz, gz = wr.heap.size + 1 := ⟨_, rfl⟩
        have hln2 : LnS (fun _ => True) V2 (some ⟨gz, 0, none⟩) 1 [⟨281474976710656, zs 4096⟩] := by
          have h3 : Bk V2 gz 37 #[.int .u64 281474976710656, .slice (some ⟨wr.heap.size, 0, none⟩) 4096 4096] := by rw [hV2, hgz, ← hs1]; exact Bk.new _ _ _
          exact one_line (x := ⟨281474976710656, zs 4096⟩) h3 (Nat.le_refl _) (hrd0.below (by rw [hV2]; exact (Below.refl _ _).alloc (Nat.le_refl _) _))
        obtain ⟨V3, hV3⟩ : ∃ V, V = V2.alloc (.cells #[.int .u8 3, .int .u64 281474976710656, .int .u64 0, .int .i64 0, .int .i64 0, .slice none 0 0, .int .u8 2, .int .u64 3, .int .u64 3, .int .i64 0, .int .i64 0, .slice (some ⟨gl, 0, none⟩) 1 1, .int .u8 4, .int .u64 3, .int .u64 0, .int .i64 0, .int .i64 0, .slice (some ⟨gl, 0, none⟩) 1 1, .int .u8 5, .int .u64 3, .int .u64 0, .int .i64 256, .int .i64 256, .slice (some ⟨gl, 0, none⟩) 1 1, .int .u8 6, .int .u64 3, .int .u64 0, .int .i64 256, .int .i64 0, .slice none 0 0, .int .u8 4, .int .u64 1, .int .u64 0, .int .i64 0, .int .i64 0, .slice (some ⟨gz, 0, none⟩) 1 1] 25) := ⟨_, rfl⟩
        have hb3 : Below wr.heap.size wr V3 := by rw [hV3, hV2, hV1]; exact (((Below.refl _ _).alloc (Nat.le_refl _) _).alloc (by simp) _).alloc (by simp; omega) _
        have hb23 : Below V2.heap.size V2 V3 := by rw [hV3]; exact (Below.refl _ _).alloc (Nat.le_refl _) _
        have hbk : Bk V3 V2.heap.size 25 #[.int .u8 3, .int .u64 281474976710656, .int .u64 0, .int .i64 0, .int .i64 0, .slice none 0 0, .int .u8 2, .int .u64 3, .int .u64 3, .int .i64 0, .int .i64 0, .slice (some ⟨gl, 0, none⟩) 1 1, .int .u8 4, .int .u64 3, .int .u64 0, .int .i64 0, .int .i64 0, .slice (some ⟨gl, 0, none⟩) 1 1, .int .u8 5, .int .u64 3, .int .u64 0, .int .i64 256, .int .i64 256, .slice (some ⟨gl, 0, none⟩) 1 1, .int .u8 6, .int .u64 3, .int .u64 0, .int .i64 256, .int .i64 0, .slice none 0 0, .int .u8 4, .int .u64 1, .int .u64 0, .int .i64 0, .int .i64 0, .slice (some ⟨gz, 0, none⟩) 1 1] := by rw [hV3]; exact Bk.new _ _ _
        have hl7 : LnS (fun _ => True) V3 (some ⟨gl, 0, none⟩) 1 [l7] := (HL5.out.below HBR.out).below hb3
        have hrow : RowM V3 V2.heap.size goods := by
          intro k m hk
          unfold goods at hk
          match k, hk with
          | 0, hk =>
            injection hk with hk
            subst hk
            exact row_at hbk 0 _ none 0 (fun i hi => by
              match i, hi with
              | 0, _ | 1, _ | 2, _ | 3, _ | 4, _ | 5, _ => rfl
              | _ + 6, hi => omega) (LnS.nil_ _ _ _)
          | 1, hk =>
            injection hk with hk
            subst hk
            exact row_at hbk 1 _ (some ⟨gl, 0, none⟩) 1 (fun i hi => by
              match i, hi with
              | 0, _ | 1, _ | 2, _ | 3, _ | 4, _ | 5, _ => rfl
              | _ + 6, hi => omega) hl7
          | 2, hk =>
            injection hk with hk
            subst hk
            exact row_at hbk 2 _ (some ⟨gl, 0, none⟩) 1 (fun i hi => by
              match i, hi with
              | 0, _ | 1, _ | 2, _ | 3, _ | 4, _ | 5, _ => rfl
              | _ + 6, hi => omega) hl7
          | 3, hk =>
            injection hk with hk
            subst hk
            exact row_at hbk 3 _ (some ⟨gl, 0, none⟩) 1 (fun i hi => by
              match i, hi with
              | 0, _ | 1, _ | 2, _ | 3, _ | 4, _ | 5, _ => rfl
              | _ + 6, hi => omega) hl7
          | 4, hk =>
            injection hk with hk
            subst hk
            exact row_at hbk 4 _ none 0 (fun i hi => by
              match i, hi with
              | 0, _ | 1, _ | 2, _ | 3, _ | 4, _ | 5, _ => rfl
              | _ + 6, hi => omega) (LnS.nil_ _ _ _)
          | 5, hk =>
            injection hk with hk
            subst hk
            exact row_at hbk 5 _ (some ⟨gz, 0, none⟩) 1 (fun i hi => by
              match i, hi with
              | 0, _ | 1, _ | 2, _ | 3, _ | 4, _ | 5, _ => rfl
              | _ + 6, hi => omega) (hln2.below hb23)
          | _ + 6, hk => cases hk
        have HROW2 := Lib.hid hrow
        have HB7 := Lib.hid (HBR.out.trans (hb3.mono HBR.out.size))
        rw [hs2] at HROW2
        clear hrd0 hs1 hs2 hln2 hb3 hb23 hbk hl7 hrow HROW
        subst hgz
        go_wp2_with fail
        rw [← hV1, ← hV2, ← hV3]
        clear hmk hV1 hV2 hV3
        obtain ⟨gg, hgg⟩ : ∃ gg, gg = wr.heap.size + 1 + 1 := ⟨_, rfl⟩
        rw [← hgg] at HROW2 ⊢
        clear hgg
        have HLG : Hid (goods.length = 6) := rfl
        go_loopw [9] (fun i wr => RelK goods V3 i wr) (fun i _ => 6 - (intOf i).toNat)
        case atStart => exact ⟨0, Nat.zero_le _, rfl, Below.refl _ _⟩
        case round =>
          obtain ⟨k, hk, rfl, hbr⟩ := hrel
          rw [HLG.out] at hk
          have HBS := Lib.hid hbr
          clear hbr
          by_cases hlt : k < 6
          · have hkl : k < goods.length := hlt
            obtain ⟨m, hm⟩ : ∃ m, m = goods[k] := ⟨_, rfl⟩
            obtain ⟨hok, hmay, hfew⟩ := goods_yes m (by rw [hm]; exact List.getElem_mem hkl)
            obtain ⟨A, c, hcs, hln⟩ := HROW2.out k m (by rw [hm]; exact List.getElem?_eq_getElem hkl)
            have HCS : Hid (∀ V, Below V3.heap.size V3 V → V.cell? ⟨gg, k * 6, none⟩ = some (.int .u8 (m.kind : Int)) ∧ V.cell? ⟨gg, k * 6 + 1, none⟩ = some (.int .u64 (m.epoch : Int)) ∧ V.cell? ⟨gg, k * 6 + 2, none⟩ = some (.int .u64 (m.current : Int)) ∧ V.cell? ⟨gg, k * 6 + 3, none⟩ = some (.int .i64 m.at_) ∧ V.cell? ⟨gg, k * 6 + 4, none⟩ = some (.int .i64 m.commit) ∧ V.cell? ⟨gg, k * 6 + 5, none⟩ = some (.slice A m.lines.length c)) := fun V hV => by
              have q : ∀ i v, (mgC m A m.lines.length c)[i]? = some v → V.cell? ⟨gg, k * 6 + i, none⟩ = some v := fun i v hv => (hV.cell (World.block_lt_of_cell? V3 _ (hcs i v hv))).trans (hcs i v hv)
              exact ⟨q 0 _ rfl, q 1 _ rfl, q 2 _ rfl, q 3 _ rfl, q 4 _ rfl, q 5 _ rfl⟩
            have HLN := Lib.hid hln
            have HEN : Hid (m.enc.length ≤ 9641) := hfew.enc
            have hlen : m.lines.length ≤ 300 := hfew.1
            have HMAY := Lib.hid hmay
            have CP := Lib.hid (put_yes A m.lines.length c m wr hok (hln.below HBS.out) hmay)
            obtain ⟨a0, a1, a2, a3, a4, a5⟩ := HCS.out wr HBS.out
            clear hok hmay hcs hln hm hkl hfew
            unfold mgC at CP
            go_wp2_with fail
            refine CP.out.mono ?_
            rintro e w8 ⟨A8, n8, c8, rfl, hn8, hc8, hown8, hb8⟩
            have HB8 := Lib.hid (HBS.out.trans (hb8.mono HBS.out.size))
            have K1 := get_any A8 n8 c8 m.enc w8 (Rd.of_own hown8).1 (by rw [hn8]; exact Nat.le_trans HEN.out (by omega))
            unfold GetPost at K1
            have e1 : getM m.enc = m := (get_enc HMAY.out).2
            have e2 : getE m.enc = 0 := by unfold getE; rw [if_pos (get_enc HMAY.out).1]
            rw [e1, e2] at K1
            have CG := Lib.hid K1
            clear hb8 hn8 hc8 hown8 CP a0 a1 a2 a3 a4 a5 K1 e1 e2
            go_wp2_with fail
            refine CG.out.mono ?_
            clear CG
            rintro e w9 ⟨A9, c9, rfl, hown9, hb9⟩
            have HB9 := Lib.hid (HB8.out.trans (hb9.mono HB8.out.size))
            have HL9 := Lib.hid hown9.lns
            clear hown9 hb9
            unfold mgC
            obtain ⟨W9, hW9⟩ : ∃ W9, W9 = w9.alloc (.cells #[.int .u8 (m.kind : Int), .int .u64 (m.epoch : Int), .int .u64 (m.current : Int), .int .i64 m.at_, .int .i64 m.commit, .slice A9 m.lines.length c9] 25) := ⟨_, rfl⟩
            obtain ⟨gm, hgm⟩ : ∃ gm, gm = w9.heap.size := ⟨_, rfl⟩
            have hb10 : Below w9.heap.size w9 W9 := by rw [hW9]; exact (Below.refl _ _).alloc (Nat.le_refl _) _
            have hm10 : Bk W9 gm 25 (mgC m A9 m.lines.length c9) := by rw [hW9, hgm]; exact Bk.new _ _ _
            have HB10 := Lib.hid (HB9.out.trans (hb10.mono HB9.out.size))
            have HL10 := Lib.hid (HL9.out.below hb10)
            have HM10 := Lib.hid hm10
            have HALL : Hid (∀ V, Below W9.heap.size W9 V → V.cell? ⟨gm, 0, none⟩ = some (.int .u8 (m.kind : Int)) ∧ V.cell? ⟨gm, 1, none⟩ = some (.int .u64 (m.epoch : Int)) ∧ V.cell? ⟨gm, 2, none⟩ = some (.int .u64 (m.current : Int)) ∧ V.cell? ⟨gm, 3, none⟩ = some (.int .i64 m.at_) ∧ V.cell? ⟨gm, 4, none⟩ = some (.int .i64 m.commit) ∧ V.cell? ⟨gm, 5, none⟩ = some (.slice A9 m.lines.length c9) ∧ V.cell? ⟨gg, k * 6, none⟩ = some (.int .u8 (m.kind : Int)) ∧ V.cell? ⟨gg, k * 6 + 1, none⟩ = some (.int .u64 (m.epoch : Int)) ∧ V.cell? ⟨gg, k * 6 + 2, none⟩ = some (.int .u64 (m.current : Int)) ∧ V.cell? ⟨gg, k * 6 + 3, none⟩ = some (.int .i64 m.at_) ∧ V.cell? ⟨gg, k * 6 + 4, none⟩ = some (.int .i64 m.commit) ∧ V.cell? ⟨gg, k * 6 + 5, none⟩ = some (.slice A m.lines.length c)) := fun V hV => by
              have hm := HM10.out.below hV
              obtain ⟨q0, q1, q2, q3, q4, q5⟩ := HCS.out V (HB10.out.trans (hV.mono HB10.out.size))
              exact ⟨hm.cell 0, hm.cell 1, hm.cell 2, hm.cell 3, hm.cell 4, hm.cell 5, q0, q1, q2, q3, q4, q5⟩
            have HSM : Hid (∀ V, Below W9.heap.size W9 V → Calls Try.prog 12 #[.agg #[.int .u8 (m.kind : Int), .int .u64 (m.epoch : Int), .int .u64 (m.current : Int), .int .i64 m.at_, .int .i64 m.commit, .slice A9 m.lines.length c9], .agg #[.int .u8 (m.kind : Int), .int .u64 (m.epoch : Int), .int .u64 (m.current : Int), .int .i64 m.at_, .int .i64 m.commit, .slice A m.lines.length c]] V fun e w' => e = .returned (.bool true) ∧ Below V.heap.size V w') := fun V hV => by
              have := same_any A9 A m.lines.length m.lines.length c9 c m m V (HL10.out.below hV) (HLN.out.below (HB10.out.trans (hV.mono HB10.out.size))) (by omega) (by omega)
              simp only [decide_true] at this
              exact this
            clear hb10 hm10 HM10 HL10 HL9 HLN HMAY HEN HCS
            have hk0 : (0 : Int) ≤ (k : Int) := Int.natCast_nonneg _
            have hk1 : (k : Int) < 6 := by omega
            go_wp2_with fail
            rw [← hW9, ← hgm]
            clear hW9 hgm
            have B1 := Lib.hid (Below.refl W9.heap.size W9).drew
            go_region_held3 (fun w' => w'.cell? ⟨gm, 0, none⟩ = some (.int .u8 (m.kind : Int)) ∧ w'.cell? ⟨gm, 1, none⟩ = some (.int .u64 (m.epoch : Int)) ∧ w'.cell? ⟨gm, 2, none⟩ = some (.int .u64 (m.current : Int)) ∧ w'.cell? ⟨gm, 3, none⟩ = some (.int .i64 m.at_) ∧ w'.cell? ⟨gm, 4, none⟩ = some (.int .i64 m.commit) ∧ w'.cell? ⟨gm, 5, none⟩ = some (.slice A9 m.lines.length c9) ∧ w'.cell? ⟨gg, k * 6, none⟩ = some (.int .u8 (m.kind : Int)) ∧ w'.cell? ⟨gg, k * 6 + 1, none⟩ = some (.int .u64 (m.epoch : Int)) ∧ w'.cell? ⟨gg, k * 6 + 2, none⟩ = some (.int .u64 (m.current : Int)) ∧ w'.cell? ⟨gg, k * 6 + 3, none⟩ = some (.int .i64 m.at_) ∧ w'.cell? ⟨gg, k * 6 + 4, none⟩ = some (.int .i64 m.commit) ∧ w'.cell? ⟨gg, k * 6 + 5, none⟩ = some (.slice A m.lines.length c))
              (first | exact HALL.out _ B1.out | exact HALL.out _ HE2.out)
              (first
                | (go_at_call 12; refine (HSM.out _ B1.out).mono ?_; rintro e we ⟨rfl, hb⟩; have HE2 := Lib.hid (B1.out.trans (hb.mono B1.out.size)); clear hb)
                | fail)
            all_goals
              go_wp2_with fail
              exact ⟨⟨k + 1, by rw [HLG.out]; omega, rfl, HB10.out.trans (HE2.out.mono HB10.out.size)⟩, by simp [intOf]; omega⟩
          · obtain rfl : k = 6 := by omega
            have HBW : Hid (Below w1.heap.size w1 wr) := HB5.out.trans ((HB7.out.trans (HBS.out.mono HB7.out.size)).mono HB5.out.size)
            have hor : wr.ownsRow w.heap.size 5 1 (.slice (some ⟨ga, 0, none⟩) 41 c1) 41 (st3.enc.map U) := HO1.out.kept (row := none) ⟨HBW.out.os, HBW.out.tape, HBW.out.output, HBW.out.size, fun k hk _ => HBW.out.block k hk⟩ (Or.inr (by simp [Value.ownBlock]))
            have hc0 : wr.cell? ⟨ga, 0, none⟩ = some (.int .u8 1) := (hor.cellAt 0 (by omega)).trans st3_cells.1
            have hf0 : wr.frozen? ⟨ga, 0, none⟩ = false := hor.frozenAt 0
            have hst := (hor.stored 0 (U 7)).1
            rw [← List.map_set] at hst
            have K1 := get_any (some ⟨ga, 0, none⟩) 41 c1 (st3.enc.set 0 7) (wr.setCell ⟨ga, 0, none⟩ (.int .u8 7)) (Rd.of_own hst).1 (by omega)
            have HBX : Hid (Below w.heap.size w (wr.setCell ⟨ga, 0, none⟩ (.int .u8 7))) := (HB1.out.trans (HBW.out.mono HB1.out.size)).setCell (p := ⟨ga, 0, none⟩) HGA.out.1 _
            have e1 : getM (st3.enc.set 0 7) = Mg.zero := by unfold getM; rw [if_neg st3_turned]
            have e2 : getE (st3.enc.set 0 7) = 2 := by unfold getE; rw [if_neg st3_turned]
            unfold GetPost at K1
            rw [e1, e2] at K1
            have CG := Lib.hid K1
            clear hor hst K1 e1 e2 HB5 HB7 HBS HBW HROW2
            go_wp2_with fail
            refine CG.out.mono ?_
            clear CG
            rintro e w8 ⟨A8, c8, rfl, -, hb8⟩
            have HB8 := Lib.hid (HBX.out.trans (hb8.mono HBX.out.size))
            clear hb8
            unfold mgC Mg.zero
            have HB9 := Lib.hid (HB8.out.alloc HB8.out.size (.cells #[.int .u8 0, .int .u64 0, .int .u64 0, .int .i64 0, .int .i64 0, .slice A8 0 c8] 25))
            go_wp2_with fail
            refine (tells_any _).mono ?_
            rintro e w15 ⟨rfl, hb⟩
            have HB15 := Lib.hid (HB9.out.trans (hb.mono HB9.out.size))
            clear hb
            go_wp2_with fail
            go_ret
            exact ⟨rfl, HB15.out⟩

set_option maxRecDepth 100000 in
theorem lifted (os : Os) (started : os.Started) (H : Type) (enc : TypeId × Value → H) :
    ReturnsInHanded {} Try.checked os 8 .any (Rows.zmsgKnownSpec.pre6 enc Try.prog Try.f8 Rows.zmsgKnownRow.domain false) (Rows.zmsgKnownSpec.post enc Try.prog Try.f8 false true false false) := by
  refine returnsInHanded_of_change (C := Try.checked) own started (by kernel_rfl) Try.func8
    (ChangeSpec.witness6 (enc := enc) (C := Try.checked) false ⟨#[], #[], []⟩ 8 (by kernel_rfl) (by kernel_rfl) (by kernel_rfl) (by kernel_rfl)) ?_
  intro W base args ds gs before hval0 hW hcnd _
  have hval : ∀ (j : Nat) t v, Try.f8.params[j]? = some t → args[j]? = some v → Value.okWide Try.prog W .any base t v := hval0
  have hW' := hW
  obtain ⟨p, q, hA0, hV, rfl, hfz, hnd⟩ := hW
  have hA : DataW.TrodAll enc Try.prog W 0 (fun _ => true) true Try.f8.params.toList args.toList ds p := hA0
  rw [Try.params8] at hA hval
  obtain ⟨rfl, rfl, rfl⟩ := trodAll_none hA
  obtain ⟨rfl, rfl⟩ := trodVars_none hV

  refine (walk W).mono fun e W' ⟨he, hb⟩ => ?_
  subst he
  exact ⟨_, rfl, post_true laidOut (by kernel_rfl) ty_bool (by kernel_rfl) rfl hW' hb rfl⟩

theorem over : Rows.zmsgKnownRow.holds Try.pinned (OpenSpec.ofChange Rows.zmsgKnownSpec) :=
  OpenClaim.holds_of_wide 8 Try.f8 rfl rfl rfl rfl rfl rfl rfl ⟨rfl, rfl, rfl, rfl, rfl⟩ rfl rfl rfl rfl rfl (by kernel_rfl) Try.func8 (by kernel_rfl)
    (of_decide_eq_true (by kernel_rfl)) (by unfold Func.isWrapper; first | (rw [if_pos (by decide +kernel)]; kernel_rfl) | (rw [if_neg (by decide +kernel)]; exact ⟨rfl, rfl⟩))
    (fun os started H enc _ => lifted os started H enc)

theorem proved : Rows.ZmsgKnownSaid :=
  over
end Go.Proofs.Ytobdkgmlkchggaa.zmsgKnown
