/- The log's reading calls: fault, Room, Batches. -/
import Derived.Test.YtikpedkckijioaaLogAt
import Derived.Lib.OwnKind
namespace Go.Proofs.Ytikpedkckijioaa.Log
open Go.RowKit Disk

theorem lfault_nil (w : World) : Calls Try.prog 35 #[.pointer none] w (Ans (.int .i64 8) w) := by
  go_enter Try.func35, Try.ntmps35
  go_wp2_with fail
  go_ret
  exact ⟨rfl, rfl⟩
theorem lfault_no {w : World} {X Y : Nat → Prop} {g gd : Nat} {f : Int} {n : Nat} {L : LK} {d : DK} (h : LgAt w Y g gd f n L) (hd : DkAt w X gd d) (hn : d.dead = false) : Calls Try.prog 35 #[.pointer (some ⟨g, 0, none⟩)] w (Ans (.int .i64 0) w) := by
  obtain ⟨a0, -⟩ := h.cell5
  have cd := dead_any hd
  rw [hn] at cd
  have CD := Lib.hid cd
  clear cd h hd
  go_enter Try.func35, Try.ntmps35
  go_wp2_with fail
  refine CD.out.mono ?_
  rintro e _ ⟨rfl, rfl⟩
  go_wp2_with fail
  go_ret
  exact ⟨rfl, rfl⟩
theorem LgAt.met {w : World} {Y : Nat → Prop} {g gd : Nat} {f : Int} {n : Nat} {L : LK} (h : LgAt w Y g gd f n L) : LgAt (w.setCell ⟨g, 7, none⟩ (.bool true)) Y g gd f n { L with met := true } := by
  obtain ⟨R, c, vs, h⟩ := h
  exact ⟨R, c, vs, h.set (L' := { L with met := true }) 7 _ rfl (by simp)⟩
theorem LgAt.topTo {w : World} {Y : Nat → Prop} {g gd : Nat} {f : Int} {n : Nat} {L : LK} (h : LgAt w Y g gd f n L) (t : Nat) : LgAt (w.setCell ⟨g, 6, none⟩ (.int .u64 (t : Int))) Y g gd f n { L with top := t } := by
  obtain ⟨R, c, vs, h⟩ := h
  exact ⟨R, c, vs, h.set (L' := { L with top := t }) 6 _ rfl (by simp)⟩
theorem lfault_yes {w : World} {X Y : Nat → Prop} {g gd : Nat} {f : Int} {n : Nat} {L : LK} {d : DK} (h : LgAt w Y g gd f n L) (hd : DkAt w X gd d) (hn : d.dead = true) : Calls Try.prog 35 #[.pointer (some ⟨g, 0, none⟩)] w (LgTo (.int .i64 9) Y g gd f n { L with met := true } w) := by
  obtain ⟨a0, -, -, -, -, -, a7, fr⟩ := h.cell5
  have f7 := fr 7
  have cd := dead_any hd
  rw [hn] at cd
  have CD := Lib.hid cd
  have H := Lib.hid h
  clear cd h hd fr
  go_enter Try.func35, Try.ntmps35
  go_wp2_with fail
  refine CD.out.mono ?_
  rintro e _ ⟨rfl, rfl⟩
  go_wp2_with fail
  go_ret
  exact ⟨rfl, Y, H.out.met, out_one H.out.yg, fun k hk => .inl hk⟩
theorem room_nil (w : World) : Calls Try.prog 23 #[.pointer none] w (Ans (.int .i64 0) w) := by
  go_enter Try.func23, Try.ntmps23
  go_wp2_with fail
  go_ret
  exact ⟨rfl, rfl⟩
theorem room_quiet {w : World} {Y : Nat → Prop} {g gd : Nat} {f : Int} {n : Nat} {L : LK} (h : LgAt w Y g gd f n L) (hn : n ≤ 100000) (he : L.end_ ≤ n) : Calls Try.prog 23 #[.pointer (some ⟨g, 0, none⟩)] w fun e w' => e = .returned (.int .i64 ((480 * (n - L.end_) : Nat) : Int)) ∧ Below w.heap.size w w' := by
  obtain ⟨-, -, a2, -, a5, -, -, -⟩ := h.cell5
  have w1 : wrap64 ((n : Int) - (L.end_ : Int)) = (n : Int) - (L.end_ : Int) := by rw [IntWalk.wrap64_in _ (by omega)]
  have w2 : wrap64 (((n : Int) - (L.end_ : Int)) * 480) = ((480 * (n - L.end_) : Nat) : Int) := by rw [IntWalk.wrap64_in _ (by omega)]; omega
  have HZ : Hid (((480 * (n - L.end_) : Nat) : Int) = ((n : Int) - (L.end_ : Int)) * 480) := by show _ = _; omega
  clear h w2
  have w2 : wrap64 (((n : Int) - (L.end_ : Int)) * 480) = ((n : Int) - (L.end_ : Int)) * 480 := by rw [IntWalk.wrap64_in _ (by omega)]
  rw [HZ.out]
  clear HZ
  go_enter Try.func23, Try.ntmps23
  go_wp2_with fail
  go_quiet (fail)
  go_wp2_with fail
  go_ret
  exact ⟨rfl, by first | exact below_drewN _ _ | exact (below_drewN w _)⟩
/-- Rows of bytes, each in memory of its own from block B on. -/
structure Fresh (B : Nat) (w : World) (vs : List Value) (bs : List (List UInt8)) : Prop where
  len : vs.length = bs.length
  at_ : ∀ (j : Nat) (b : List UInt8), bs[j]? = some b → ∃ A n c, vs[j]? = some (.slice A n c) ∧ w.ownsRow B 5 1 (.slice A n c) n (b.map U)
theorem Fresh.many {B : Nat} {w : World} {vs : List Value} {bs : List (List UInt8)} (h : Fresh B w vs bs) : Many w vs bs :=
  ⟨h.len, fun j b hj => by
    obtain ⟨A, n, c, h1, h2⟩ := h.at_ j b hj
    exact ⟨A, n, c, h1, own_le h2, (Rd.of_own h2).1⟩⟩
theorem Fresh.below {B : Nat} {w w' : World} {vs : List Value} {bs : List (List UInt8)} (h : Fresh B w vs bs) (hb : Below w.heap.size w w') : Fresh B w' vs bs :=
  ⟨h.len, fun j b hj => by
    obtain ⟨A, n, c, h1, h2⟩ := h.at_ j b hj
    exact ⟨A, n, c, h1, h2.kept (grown_of_below hb none) (Classical.em _)⟩⟩
theorem Fresh.grown {B : Nat} {w w' : World} {vs : List Value} {bs : List (List UInt8)} (h : Fresh B w vs bs) {row : Option Nat} (hg : w.grownBy w' row) {T : TypeId} (hT : T ≠ 5) (hr : ∀ r, row = some r → ∃ c fz, w.heap[r]? = some (.cells c T fz)) : Fresh B w' vs bs :=
  ⟨h.len, fun j b hj => by
    obtain ⟨A, n, c, h1, h2⟩ := h.at_ j b hj
    refine ⟨A, n, c, h1, h2.kept hg ?_⟩
    cases ho : (Value.slice A n c).ownBlock with
    | none => exact .inl rfl
    | some k =>
      refine .inr fun e => ?_
      obtain ⟨c1, f1, q1⟩ := Lib.ownsRow_kind h2 k ho
      obtain ⟨c2, f2, q2⟩ := hr k e.symm
      rw [q1] at q2
      injection q2 with q2
      injection q2 with _ q3
      exact hT q3.symm⟩
theorem Fresh.set {B : Nat} {w : World} {vs : List Value} {bs : List (List UInt8)} (h : Fresh B w vs bs) {g i : Nat} {u : Value} (hg : g < B) : Fresh B (w.setCell ⟨g, i, none⟩ u) vs bs :=
  ⟨h.len, fun j b hj => by
    obtain ⟨A, n, c, h1, h2⟩ := h.at_ j b hj
    exact ⟨A, n, c, h1, ownsRow_setCell_below h2 (a := ⟨g, i, none⟩) hg u⟩⟩
theorem Fresh.snoc {B : Nat} {w : World} {vs : List Value} {bs : List (List UInt8)} {A : Option Addr} {n c : Nat} {b : List UInt8} (h : Fresh B w vs bs) (h2 : w.ownsRow B 5 1 (.slice A n c) n (b.map U)) : Fresh B w (vs ++ [.slice A n c]) (bs ++ [b]) :=
  ⟨by simp [h.len], fun j x hj => by
    rcases Nat.lt_or_ge j bs.length with hl | hl
    · rw [List.getElem?_append_left hl] at hj
      rw [List.getElem?_append_left (by rw [h.len]; exact hl)]
      exact h.at_ j x hj
    · rw [List.getElem?_append_right hl] at hj
      rw [List.getElem?_append_right (by rw [h.len]; exact hl), h.len]
      have : j - bs.length = 0 := by
        have := (List.getElem?_eq_some_iff.1 hj).1
        simp at this
        omega
      rw [this] at hj ⊢
      simp at hj
      subst hj
      exact ⟨A, n, c, rfl, h2⟩⟩
theorem batches_nil (w : World) : Calls Try.prog 26 #[.pointer none] w (Ans (.slice none 0 0) w) := by
  go_enter Try.func26, Try.ntmps26
  go_wp2_with fail
  go_ret
  exact ⟨rfl, rfl⟩
def BatPost (bs : List (List UInt8)) (w : World) (e : Ending) (w' : World) : Prop :=
  ∃ A c vs, e = .returned (.slice A bs.length c) ∧ w'.ownsRow w.heap.size 32 1 (.slice A bs.length c) bs.length vs ∧ Fresh w.heap.size w' vs bs ∧ Below w.heap.size w w'
def RelBat (w : World) (bs : List (List UInt8)) (v i : Value) (wr : World) : Prop :=
  ∃ (k : Nat) (vs : List Value), k ≤ bs.length ∧ i = .int .i64 (k : Int) ∧ wr.ownsRow w.heap.size 32 1 v k vs ∧ Fresh w.heap.size wr vs (bs.take k) ∧ Below w.heap.size w wr
set_option maxRecDepth 100000 in
set_option maxHeartbeats 2000000 in
theorem batches_any {w : World} {Y : Nat → Prop} {g gd : Nat} {f : Int} {n : Nat} {L : LK} (h : LgAt w Y g gd f n L) (hn : L.recs.length ≤ 1000000) (hs : ∀ b ∈ L.recs, b.length ≤ 10000000) : Calls Try.prog 26 #[.pointer (some ⟨g, 0, none⟩)] w (BatPost L.recs w) := by
  obtain ⟨i0, hi, hz0, hz1, hz2⟩ := infos info_row
  have HI := Lib.hid hi
  have HZ0 := Lib.hid hz0
  have HZ1 := Lib.hid hz1
  have HZ2 := Lib.hid hz2
  clear hi hz0 hz1 hz2
  obtain ⟨R, c, vs0, h⟩ := h
  obtain ⟨a0, a1, a2, a3, a4, a5, a6, a7⟩ := h.cells
  have HT := Lib.hid h.texts
  have HRD := Lib.hid (RdV.of_own h.own).1
  have HS := Lib.hid hs
  have HN := Lib.hid hn
  clear h a0 a1 a2 a3 a5 a6 a7 hs
  generalize L.recs = bs at *
  obtain ⟨k0, hk0⟩ : ∃ k0, k0 = bs.length := ⟨_, rfl⟩
  have HK0 := Lib.hid hk0
  rw [← hk0] at a4 HRD HN
  have hn0 : k0 ≤ 1000000 := HN.out
  clear hk0 hn
  go_enter Try.func26, Try.ntmps26
  go_wp2_with fail
  go_loopw [3, 13] (fun v i wr => RelBat w bs v i wr) (fun _ i _ => k0 - (intOf i).toNat)
  case atStart => exact ⟨0, [], by omega, rfl, own_nil _ _ _, ⟨rfl, fun j b hj => by simp at hj⟩, Below.refl _ _⟩
  case round =>
    obtain ⟨k, vs, hk, rfl, hown, hfr, hb⟩ := hrel
    have HO := Lib.hid hown
    have HF := Lib.hid hfr
    have HB := Lib.hid hb
    have hk' : k ≤ k0 := by rw [HK0.out]; exact hk
    clear hown hfr hb hk
    by_cases hlt : k < k0
    · have hkl : k < bs.length := by have := HK0.out; omega
      obtain ⟨A1, m1, c1, hv, hle, hr, -⟩ := HT.out k _ (List.getElem?_eq_getElem hkl)
      obtain ⟨ad, rfl, hc⟩ := (HRD.out.below HB.out).cells (by omega)
      have hcell := hc k _ hv
      have hlen := hr.len
      have hmem := HS.out bs[k] (List.getElem_mem hkl)
      have HC := Lib.hid (clone_any A1 m1 c1 bs[k] wr (hr.below HB.out) (by omega))
      have HTK : Hid (bs.take (k + 1) = bs.take k ++ [bs[k]]) := (List.take_append_getElem hkl).symm
      clear hc hv hle hr hlen hmem
      go_wp2_with fail
      refine HC.out.mono ?_
      rintro e w1 ⟨A2, n2, c2, rfl, hn2, _, hown2, hb2⟩
      have HN2 := Lib.hid hn2
      clear hn2
      have HB2 := Lib.hid (HB.out.trans (hb2.mono HB.out.size))
      have hbw : Below w1.heap.size w1 (w1.alloc (.cells #[.slice A2 n2 c2] 32)) := (Below.refl _ _).alloc (Nat.le_refl _) _
      have HBW := Lib.hid (HB2.out.trans (hbw.mono HB2.out.size))
      have HOW : Hid ((w1.alloc (.cells #[.slice A2 n2 c2] 32)).ownsRow w.heap.size 32 1 u3 k vs) := (HO.out.kept (grown_of_below hb2 none) (Classical.em _)).alloc _
      have HR1 : Hid (RdV (w1.alloc (.cells #[.slice A2 n2 c2] 32)) (some ⟨w1.heap.size, 0, none⟩) 1 [.slice A2 n2 c2]) := rows_lit w1 32 [.slice A2 n2 c2]
      have HF2 : Hid (Fresh w.heap.size (w1.alloc (.cells #[.slice A2 n2 c2] 32)) (vs ++ [.slice A2 n2 c2]) (bs.take (k + 1))) := by
        rw [HTK.out]
        exact ((HF.out.below hb2).below hbw).snoc ((own_base hown2 HB.out.size).alloc _)
      clear hown2 hb2 hbw HC hcell
      go_wp2_with (at_builtin; refine wpList_append_RdV rfl (.tmp 17) (.tmp 20) _ rfl ty_rows HI.out HZ0.out HZ1.out HZ2.out rfl rfl HOW.out rfl HR1.out (by simp [Value.oneCell']) (by unfold maxLen; omega) (by omega) HBW.out.size ?_)
      intro v' w3 hown3 hgr3
      have HO3 := Lib.hid hown3
      have HF3 := Lib.hid (HF2.out.grown hgr3 (by decide) fun r hr => Lib.ownsRow_kind HOW.out r hr)
      have HB3 := Lib.hid (HBW.out.grown hgr3 HBW.out.size (fun g hg => (HOW.out.lt g hg).1))
      clear hown3 hgr3
      go_wp2_with fail
      exact ⟨⟨k + 1, vs ++ [.slice A2 n2 c2], by have := HK0.out; omega, rfl, HO3.out, HF3.out, HB3.out⟩, by simp [intOf]; omega⟩
    · obtain rfl : k = k0 := by omega
      have hf := HF.out
      rw [List.take_of_length_le (by have := HK0.out; omega)] at hf
      obtain ⟨A3, c3, hv3⟩ := own_slice HO.out
      have hns := HO.out
      rw [hv3] at hns
      have hkk := (RdV.of_own hns).2
      subst hv3
      have HFF := Lib.hid hf
      clear hf hns hkk
      go_wp2_with fail
      go_ret
      refine ⟨A3, c3, vs, ?_, ?_, HFF.out, HB.out⟩
      · rw [← HK0.out]; rfl
      · rw [← HK0.out]; exact HO.out
end Go.Proofs.Ytikpedkckijioaa.Log
