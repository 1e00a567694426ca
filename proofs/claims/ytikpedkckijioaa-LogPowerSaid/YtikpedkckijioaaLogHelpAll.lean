/- Arguments of log's laws. -/
import Derived.Test.YtikpedkckijioaaLogLawAll
import Derived.Deep.Slices
namespace Go.Proofs.Ytikpedkckijioaa.Log
open Go.ChangeShapes Go.WideShapes Go.ChangeAt Go.RowKit Disk

theorem ty_u16s : Try.prog.underlying 63 = some (.slice 36) := by kernel_rfl
theorem ty_u16 : Try.prog.underlying 36 = some (.int .u16) := by kernel_rfl
theorem ty_ints : Try.prog.underlying 50 = some (.slice 3) := by kernel_rfl
theorem ty_int : Try.prog.underlying 3 = some (.int .i64) := by kernel_rfl
theorem ce_u16 : Try.prog.cellsOf 36 = 1 := by kernel_rfl
theorem ce_u8 : Try.prog.cellsOf 5 = 1 := by kernel_rfl
theorem ce_int : Try.prog.cellsOf 3 = 1 := by kernel_rfl
theorem ce_bool : Try.prog.cellsOf 4 = 1 := by kernel_rfl
theorem addr_plain {w : World} {a : Addr} {v : Value} (h : w.cell? a = some v) : a = ⟨a.block, a.off, none⟩ := by
  obtain ⟨b, o, s⟩ := a
  cases s with
  | none => rfl
  | some x =>
    unfold World.cell? at h
    split at h
    · simp at h
    · cases h
theorem add_plain (b o k : Nat) : (⟨b, o, none⟩ : Addr).add k = ⟨b, o + k, none⟩ := by
  unfold Addr.add
  by_cases h : k = 0
  · subst h; simp
  · simp [h]
theorem list4 {α : Type} {l : List α} (h : l.length = 4) : ∃ a b c d, l = [a, b, c, d] := by
  match l, h with
  | [a, b, c, d], _ => exact ⟨a, b, c, d, rfl⟩
/-- Rows of values of four cells. -/
structure FourS (w : World) (A : Option Addr) (n : Nat) (xs : List (Array Value)) : Prop where
  len : xs.length = n
  cells : ∀ j, (h : j < xs.length) → ∃ b o, A = some ⟨b, o, none⟩ ∧ xs[j].size = 4 ∧ ∀ (i : Nat) (v : Value), xs[j][i]? = some v → w.cell? ⟨b, o + j * 4 + i, none⟩ = some v
theorem FourS.nil_ (w : World) (A : Option Addr) : FourS w A 0 [] := ⟨rfl, fun j h => absurd h (by simp)⟩
theorem FourS.below {w w' : World} {A : Option Addr} {n : Nat} {xs : List (Array Value)} (h : FourS w A n xs) (hb : Below w.heap.size w w') : FourS w' A n xs :=
  ⟨h.len, fun j hj => by
    obtain ⟨b, o, e, h1, hc⟩ := h.cells j hj
    exact ⟨b, o, e, h1, fun i v hv => (hb.cell (World.block_lt_of_cell? w _ (hc i v hv))).trans (hc i v hv)⟩⟩
section
variable {H : Type} {enc : TypeId × Value → H} {w : World} {base : Nat} {spare : Nat → Bool} {held : Bool}
theorem open_fates {fuel : Nat} {cs : List Value} {x : DataW H × List MemPlace} (h : DataW.trod enc Try.prog w base spare held fuel 50 cs = some x) : ∃ A n c zs, cs = [.slice A n c] ∧ n ≤ c ∧ c ≤ maxLen ∧ RdI w A n zs := by
  rcases open_ints ty_ints ty_int ce_int h with ⟨rfl, _⟩ | ⟨a, len, cap, zs, rfl, _, hl, hm, hz, _, hc, hw⟩
  · exact ⟨none, 0, 0, [], rfl, Nat.le_refl _, Nat.zero_le _, RdI.nil_ _ _⟩
  · have hlz : len ≤ zs.length := by rw [hz]; split <;> omega
    refine ⟨some a, len, cap, zs.take len, rfl, hl, hm, ⟨by simp; omega, fun _ => ⟨a, rfl, fun j z hb => ?_⟩, fun z hzm => ?_⟩⟩
    · rw [List.getElem?_take] at hb
      split at hb
      · next hj =>
        have hjl : j < zs.length := by omega
        rw [List.getElem?_eq_getElem hjl] at hb
        injection hb with hb
        rw [hc j hjl, ← hb, List.getD_eq_getElem?_getD, List.getElem?_eq_getElem hjl]
        rfl
      · cases hb
    · have := hw z (List.mem_of_mem_take hzm)
      simp [Lit.wf, IntKind.min, IntKind.max, IntKind.signed, IntKind.bits] at this
      omega
set_option maxRecDepth 100000 in
theorem arg_ints {b0 : Nat} {r : Reach} {v : Value} {d : DataW H} {ps : List MemPlace} (hv : Value.okWide Try.prog w r b0 50 v) (h : DataW.Trod enc Try.prog w base spare held 50 v d ps) : ∃ A n c zs, v = .slice A n c ∧ n ≤ c ∧ c ≤ maxLen ∧ RdI w A n zs := by
  obtain ⟨A, n, c, rfl⟩ := okWide_slice ty_ints hv
  obtain ⟨fuel, h⟩ := h
  obtain ⟨A', n', c', zs, e, h1, h2, h3⟩ := open_fates h
  simp [Value.cells] at e
  obtain ⟨rfl, rfl, rfl⟩ := e
  exact ⟨A, n, c, zs, rfl, h1, h2, h3⟩
/-- A row of numbers below 2^16. -/
def vals16 (zs : List Nat) : List Value := zs.map fun (z : Nat) => Value.int .u16 (z : Int)
set_option maxRecDepth 100000 in
theorem arg_u16s {b0 : Nat} {r : Reach} {v : Value} {d : DataW H} {ps : List MemPlace} (hv : Value.okWide Try.prog w r b0 63 v) (h : DataW.Trod enc Try.prog w base spare held 63 v d ps) : ∃ A n c, ∃ zs : List Nat, v = .slice A n c ∧ n ≤ c ∧ c ≤ maxLen ∧ RdV w A n (vals16 zs) ∧ ∀ z ∈ zs, z < 65536 := by
  obtain ⟨A, n, c, rfl⟩ := okWide_slice ty_u16s hv
  obtain ⟨fuel, h⟩ := h
  rcases open_ints ty_u16s ty_u16 ce_u16 h with ⟨e, _⟩ | ⟨a, len, cap, zs, e, _, hl, hm, hz, _, hc, hw⟩
  · simp [Value.cells] at e
    obtain ⟨rfl, rfl, rfl⟩ := e
    exact ⟨none, 0, 0, [], rfl, Nat.le_refl _, Nat.zero_le _, RdV.nil_ _ _, fun z hz => by cases hz⟩
  · simp [Value.cells] at e
    obtain ⟨rfl, rfl, rfl⟩ := e
    have hlz : n ≤ zs.length := by rw [hz]; split <;> omega
    have hb : ∀ z ∈ zs, 0 ≤ z ∧ z < 65536 := fun z hzm => by
      have := hw z hzm
      simp [Lit.wf, IntKind.min, IntKind.max, IntKind.signed, IntKind.bits] at this
      omega
    refine ⟨some a, n, c, (zs.take n).map Int.toNat, rfl, hl, hm, ⟨by simp [vals16]; omega, fun _ => ⟨a, rfl, fun j v hv => ?_⟩⟩, fun z hzm => ?_⟩
    · rw [vals16, List.map_map, List.getElem?_map] at hv
      cases hj : (zs.take n)[j]? with
      | none => rw [hj] at hv; cases hv
      | some z =>
        rw [hj] at hv
        injection hv with hv
        have hj2 := hj
        rw [List.getElem?_take] at hj2
        split at hj2
        · next hjn =>
          have hjl : j < zs.length := by omega
          have hzm : z ∈ zs := List.mem_of_getElem? hj2
          rw [List.getElem?_eq_getElem hjl] at hj2
          injection hj2 with hj2
          rw [hc j hjl, ← hv, List.getD_eq_getElem?_getD, List.getElem?_eq_getElem hjl]
          have := hb z hzm
          simp [hj2]
          omega
        · cases hj2
    · obtain ⟨y, hy, rfl⟩ := List.mem_map.1 hzm
      have := hb y (List.mem_of_mem_take hy)
      omega
theorem open_u8n {P : Program} {t : TypeId} (ht : P.underlying t = some (.int .u8)) {b0 : Nat} {r : Reach} {v : Value} {d : DataW H} {ps : List MemPlace}
    (hv : Value.okWide P w r b0 t v) (h : DataW.Trod enc P w base spare held t v d ps) : ∃ a : Nat, v = .int .u8 (a : Int) ∧ a < 256 := by
  obtain ⟨z, rfl, _, _, hw⟩ := open_int ht hv h
  have hb := bounds_u8 hw
  exact ⟨z.toNat, by congr 1; omega, by omega⟩
end
end Go.Proofs.Ytikpedkckijioaa.Log

namespace Go.Proofs.Ytikpedkckijioaa.Log
open Go.RowKit Disk

/-- The bytes of an act. -/
def actByte (B : UInt8) (i : Nat) : UInt8 := B + UInt8.ofNat (i / 7)
def actBytes (B : UInt8) (n : Nat) : List UInt8 := (List.range n).map (actByte B)
def partB (B : UInt8) (n k : Nat) : List UInt8 := (List.range n).map fun i => if i < k then actByte B i else 0
theorem partB_zero (B : UInt8) (n : Nat) : partB B n 0 = List.replicate n 0 := by
  refine List.ext_getElem (by simp [partB]) fun i h1 h2 => ?_
  simp [partB]
theorem partB_all (B : UInt8) (n : Nat) : partB B n n = actBytes B n := by
  refine List.ext_getElem (by simp [partB, actBytes]) fun i h1 h2 => ?_
  have : i < n := by simpa [partB] using h1
  simp [partB, actBytes, this]
theorem partB_set (B : UInt8) (n k : Nat) : (partB B n k).set k (actByte B k) = partB B n (k + 1) := by
  refine List.ext_getElem (by simp [partB]) fun i h1 h2 => ?_
  rw [List.getElem_set]
  simp only [partB, List.getElem_map, List.getElem_range]
  by_cases h : k = i
  · subst h
    rw [if_pos rfl, if_pos (Nat.lt_succ_self _)]
  · rw [if_neg h]
    by_cases h3 : i < k
    · rw [if_pos h3, if_pos (by omega)]
    · rw [if_neg h3, if_neg (by omega)]
def RelBy (w0 : World) (G : Nat) (B : UInt8) (n : Nat) (i : Value) (wr : World) : Prop :=
  ∃ k : Nat, k ≤ n ∧ i = .int .i64 (k : Int) ∧ Bk wr G 5 ((partB B n k).map U).toArray ∧ Below G w0 wr ∧ G < wr.heap.size
def BytesPost (B : UInt8) (n : Nat) (w : World) (e : Ending) (w' : World) : Prop :=
  ∃ G, e = .returned (.slice (some ⟨G, 0, none⟩) n n) ∧ Rd w' (some ⟨G, 0, none⟩) n (actBytes B n) ∧ w.heap.size ≤ G ∧ G < w'.heap.size ∧ Below w.heap.size w w'
theorem byte_add (B : UInt8) (k : Nat) : Value.int .u8 (((B.toNat : Int) + (k : Int) / 7) % 256) = U (actByte B k) := by
  unfold U actByte
  congr 1
  rw [UInt8.toNat_add, UInt8.toNat_ofNat']
  omega
set_option maxRecDepth 100000 in
set_option maxHeartbeats 2000000 in
theorem bytes_any (x0 : Nat) (B : UInt8) (N : Nat) (x3 : Int) (w : World) (hN : N < 65536) : Calls Try.prog 14 #[.agg #[.int .u8 (x0 : Int), .int .u8 (B.toNat : Int), .int .u16 (N : Int), .int .i64 x3]] w (BytesPost B (N % 3000) w) := by
  obtain ⟨i0, hi, hz0, hz1, hz2⟩ := infos info_byte
  have HI := Lib.hid hi
  have HZ0 := Lib.hid hz0
  have HZ1 := Lib.hid hz1
  have HZ2 := Lib.hid hz2
  clear hi hz0 hz1 hz2
  obtain ⟨n, hn⟩ := (⟨_, rfl⟩ : ∃ n, n = N % 3000)
  rw [← hn]
  have hnl : n < 3000 := by omega
  have hv : (N : Int) % 3000 = (n : Int) := by omega
  clear hn
  have hmk : ∀ W, (Instr.makeSlice 32 (.int .i64 (n : Nat)) (.int .i64 (n : Nat))).run Try.prog W = .ok (.slice (some ⟨W.heap.size, 0, none⟩) n n) (W.alloc (.cells ((List.replicate n (0 : UInt8)).map U).toArray 5 (0, 0))) := fun W => by
    rw [List.map_replicate]
    exact run_make_bytes (P := Try.prog) ty_bytes HI.out HZ0.out HZ1.out HZ2.out .i64 .i64 n n (Int.le_refl _) (by omega) W
  have HMK := Lib.hid hmk
  clear hmk
  go_enter Try.func14, Try.ntmps14
  go_wp2_with fail
  have HB1 : Hid (Below w.heap.size w (w.alloc (.cells #[.int .u8 (x0 : Int), (.int .u8 (B.toNat : Int)), .int .u16 (N : Int), .int .i64 x3] 38))) := (Below.refl _ _).alloc (Nat.le_refl _) _
  have HC1 : Hid ((w.alloc (.cells #[.int .u8 (x0 : Int), (.int .u8 (B.toNat : Int)), .int .u16 (N : Int), .int .i64 x3] 38)).cell? ⟨w.heap.size, 1, none⟩ = some (.int .u8 (B.toNat : Int))) := (Bk.new w 38 _).cell 1
  have HS1 : Hid (w.heap.size < (w.alloc (.cells #[.int .u8 (x0 : Int), (.int .u8 (B.toNat : Int)), .int .u16 (N : Int), .int .i64 x3] 38)).heap.size) := by show _ < _; simp
  have hmk1 := HMK.out (w.alloc (.cells #[.int .u8 (x0 : Int), (.int .u8 (B.toNat : Int)), .int .u16 (N : Int), .int .i64 x3] 38))
  clear HMK
  generalize w.alloc (.cells #[.int .u8 (x0 : Int), (.int .u8 (B.toNat : Int)), .int .u16 (N : Int), .int .i64 x3] 38) = w1 at *
  have HBK : Hid (Bk (w1.alloc (.cells ((List.replicate n (0 : UInt8)).map U).toArray 5 (0, 0))) w1.heap.size 5 ((partB B n 0).map U).toArray) := by
    rw [partB_zero]
    exact Bk.new w1 5 _
  have HBB : Hid (Below w1.heap.size w1 (w1.alloc (.cells ((List.replicate n (0 : UInt8)).map U).toArray 5 (0, 0)))) := (Below.refl _ _).alloc (Nat.le_refl _) _
  have HBS : Hid (w1.heap.size < (w1.alloc (.cells ((List.replicate n (0 : UInt8)).map U).toArray 5 (0, 0))).heap.size) := by show _ < _; simp
  generalize w1.alloc (.cells ((List.replicate n (0 : UInt8)).map U).toArray 5 (0, 0)) = w2 at *
  rw [hv, hmk1]
  go_wp2_with fail
  clear hmk1 hv
  go_loopw [4] (fun i wr => RelBy w1 w1.heap.size B n i wr) (fun i _ => n - (intOf i).toNat)
  case atStart => exact ⟨0, by omega, rfl, HBK.out, HBB.out, HBS.out⟩
  case round =>
    obtain ⟨k, hk, rfl, hbk, hb, hgs⟩ := hrel
    by_cases hlt : k < n
    · have hc : wr.cell? ⟨w1.heap.size, k, none⟩ = some (U 0) := by
        rw [hbk.cell]
        have : (partB B n k)[k]? = some 0 := by simp [partB, hlt]
        simp [this]
      have hf := hbk.frozen k
      have hcb : wr.cell? ⟨w.heap.size, 1, none⟩ = some (.int .u8 (B.toNat : Int)) := (hb.cell (p := ⟨w.heap.size, 1, none⟩) HS1.out).trans HC1.out
      have hnew : Hid (Bk (wr.setCell ⟨w1.heap.size, k, none⟩ (U (actByte B k))) w1.heap.size 5 ((partB B n (k + 1)).map U).toArray) := by
        have := hbk.set k (U (actByte B k))
        rwa [List.setIfInBounds_toArray, ← List.map_set, partB_set B n k] at this
      have hbb : Hid (Below w1.heap.size w1 (wr.setCell ⟨w1.heap.size, k, none⟩ (U (actByte B k)))) := hb.setCell (p := ⟨w1.heap.size, k, none⟩) (Nat.le_refl _) _
      have hss : Hid (w1.heap.size < (wr.setCell ⟨w1.heap.size, k, none⟩ (U (actByte B k))).heap.size) := by show _ < _; simpa [World.setCell] using hgs
      have hby := Lib.hid (byte_add B k)
      clear hbk hb hgs
      go_wp2_with fail
      rw [hby.out]
      exact ⟨⟨k + 1, by omega, rfl, hnew.out, hbb.out, hss.out⟩, by simp [intOf]; omega⟩
    · obtain rfl : k = n := by omega
      have HK := Lib.hid hbk
      have HBL := Lib.hid hb
      have HGS := Lib.hid hgs
      clear hbk hb hgs
      go_wp2_with fail
      go_ret
      refine ⟨w1.heap.size, rfl, ?_, Nat.le_of_lt HS1.out, HGS.out, HB1.out.trans (HBL.out.mono HB1.out.size)⟩
      have := HK.out
      rw [partB_all] at this
      exact page_rd this (by simp [actBytes])
/-- The texts of records. -/
def RelTx (w : World) (bs : List (List UInt8)) (v i : Value) (wr : World) : Prop :=
  ∃ k : Nat, k ≤ bs.length ∧ i = .int .i64 (k : Int) ∧ wr.ownsRow w.heap.size 9 1 v k (sv (bs.take k)) ∧ Below w.heap.size w wr
def TextsPost (bs : List (List UInt8)) (w : World) (e : Ending) (w' : World) : Prop :=
  ∃ A c, e = .returned (.slice A bs.length c) ∧ w'.ownsRow w.heap.size 9 1 (.slice A bs.length c) bs.length (sv bs) ∧ Below w.heap.size w w'
set_option maxRecDepth 100000 in
set_option maxHeartbeats 2000000 in
theorem texts_any {w : World} {base B : Nat} {A : Option Addr} {c : Nat} {vs : List Value} {bs : List (List UInt8)} (h : w.ownsRow base 32 1 (.slice A bs.length c) bs.length vs) (hf : Fresh B w vs bs) (hn : bs.length ≤ 100000) : Calls Try.prog 25 #[.slice A bs.length c] w (TextsPost bs w) := by
  obtain ⟨i0, hi, hz0, hz1, hz2⟩ := infos info_text
  have HI := Lib.hid hi
  have HZ0 := Lib.hid hz0
  have HZ1 := Lib.hid hz1
  have HZ2 := Lib.hid hz2
  clear hi hz0 hz1 hz2
  have HRV := Lib.hid (RdV.of_own h).1
  have HF := Lib.hid hf
  clear h hf
  obtain ⟨n, hn0⟩ : ∃ n, n = bs.length := ⟨_, rfl⟩
  have HN := Lib.hid hn0
  rw [← hn0] at HRV hn ⊢
  clear hn0
  go_enter Try.func25, Try.ntmps25
  go_wp2_with fail
  go_loopw [3, 4] (fun v i wr => RelTx w bs v i wr) (fun _ i _ => n - (intOf i).toNat)
  case atStart => exact ⟨0, by omega, rfl, own_nil _ _ _, Below.refl _ _⟩
  case round =>
    obtain ⟨k, hk, rfl, hown, hb⟩ := hrel
    have hk' : k ≤ n := by rw [HN.out]; exact hk
    have HO := Lib.hid hown
    have HB := Lib.hid hb
    clear hown hb hk
    by_cases hlt : k < n
    · have hkl : k < bs.length := by have := HN.out; omega
      obtain ⟨ad, hA, hc⟩ := (HRV.out.below HB.out).cells (by omega)
      subst hA
      obtain ⟨A1, m1, c1, hv, hr⟩ := HF.out.at_ k _ (List.getElem?_eq_getElem hkl)
      have hcell := hc k _ hv
      have hcs := conv_string ((Rd.of_own hr).1.below HB.out) c1
      have hbw : Below wr.heap.size wr (wr.alloc (.cells #[.string (S bs[k])] 9)) := (Below.refl _ _).alloc (Nat.le_refl _) _
      have HBW := Lib.hid (HB.out.trans (hbw.mono HB.out.size))
      have HOW : Hid ((wr.alloc (.cells #[.string (S bs[k])] 9)).ownsRow w.heap.size 9 1 u3 k (sv (bs.take k))) := HO.out.alloc _
      have HR1 : Hid (RdV (wr.alloc (.cells #[.string (S bs[k])] 9)) (some ⟨wr.heap.size, 0, none⟩) 1 [.string (S bs[k])]) := rows_lit wr 9 [.string (S bs[k])]
      have HTK : Hid (sv (bs.take (k + 1)) = sv (bs.take k) ++ [.string (S bs[k])]) := by
        show _ = _
        rw [← List.take_append_getElem hkl, sv_append]
        rfl
      clear hc hv hr hbw
      go_wp2_with (at_builtin; refine wpList_append_RdV rfl (.tmp 11) (.tmp 17) _ rfl ty_texts HI.out HZ0.out HZ1.out HZ2.out rfl rfl HOW.out rfl HR1.out (by simp [Value.oneCell']) (by unfold maxLen; omega) (by omega) HBW.out.size ?_)
      intro v' w3 hown3 hgr3
      rw [← HTK.out] at hown3
      have HO3 := Lib.hid hown3
      have HB3 := Lib.hid (HBW.out.grown hgr3 HBW.out.size (fun g hg => (HOW.out.lt g hg).1))
      clear hown3 hgr3
      go_wp2_with fail
      exact ⟨⟨k + 1, by have := HN.out; omega, rfl, HO3.out, HB3.out⟩, by simp [intOf]; omega⟩
    · obtain rfl : k = n := by omega
      obtain ⟨A3, c3, hv3⟩ := own_slice HO.out
      have hns := HO.out
      rw [hv3] at hns
      have htk : bs.take k = bs := List.take_of_length_le (by have := HN.out; omega)
      rw [htk] at hns
      subst hv3
      have HNS := Lib.hid hns
      clear hns htk HO
      go_wp2_with fail
      go_ret
      refine ⟨A3, c3, ?_, ?_, HB.out⟩
      · rw [← HN.out]; rfl
      · rw [← HN.out]; exact HNS.out
/-- The same texts? -/
def RelEq (w : World) (ts bs : List (List UInt8)) (i : Value) (wr : World) : Prop :=
  ∃ k : Nat, k ≤ ts.length ∧ i = .int .i64 (k : Int) ∧ ts.take k = bs.take k ∧ Below w.heap.size w wr
theorem texts_at {W : World} {A : Option Addr} {n : Nat} {ss : List (List UInt8)} (h : RdV W A n (sv ss)) {k : Nat} (hk : k < ss.length) : ∃ b o, A = some ⟨b, o, none⟩ ∧ W.cell? ⟨b, o + k, none⟩ = some (.string (S ss[k])) := by
  have hl := h.len
  rw [sv_length] at hl
  obtain ⟨ad, rfl, hc⟩ := h.cells (by omega)
  have hp := addr_plain (hc 0 _ (sv_get (j := 0) (by omega)))
  simp [Addr.add] at hp
  have h0 := hc k _ (sv_get hk)
  rw [hp, add_plain] at h0
  exact ⟨ad.block, ad.off, by rw [← hp], h0⟩
theorem S_eq (a b : List UInt8) : ((S a).toList == (S b).toList) = (a == b) := by
  have e : ∀ x : List UInt8, (S x).toList = x := fun x => by simp [S]
  rw [e, e]
set_option maxRecDepth 100000 in
set_option maxHeartbeats 2000000 in
theorem equal_any {w : World} {A B : Option Addr} {n m c d : Nat} {ts bs : List (List UInt8)} (ha : RdV w A n (sv ts)) (hb : RdV w B m (sv bs)) (hn : n ≤ 100000) (hm : m ≤ 100000) : Calls Try.prog 27 #[.slice A n c, .slice B m d] w fun e w' => e = .returned (.bool (ts == bs)) ∧ Below w.heap.size w w' := by
  have hla : ts.length = n := by have := ha.len; rwa [sv_length] at this
  have hlb : bs.length = m := by have := hb.len; rwa [sv_length] at this
  have HA := Lib.hid ha
  have HB := Lib.hid hb
  clear ha hb
  by_cases hne : n = m
  · subst hne
    have HLA := Lib.hid hla
    have HLB := Lib.hid hlb
    clear hla hlb
    go_enter Try.func27, Try.ntmps27
    go_wp2_with fail
    go_loopw [5] (fun i wr => RelEq w ts bs i wr) (fun i _ => n - (intOf i).toNat)
    case atStart => exact ⟨0, by omega, rfl, rfl, Below.refl _ _⟩
    case round =>
      obtain ⟨k, hk, rfl, hq, hbw⟩ := hrel
      have hk' : k ≤ n := by have := HLA.out; omega
      have HBW := Lib.hid hbw
      have HQ := Lib.hid hq
      clear hbw hq hk
      by_cases hlt : k < n
      · have h1 : k < ts.length := by have := HLA.out; omega
        have h2 : k < bs.length := by have := HLB.out; omega
        obtain ⟨ba, oa, rfl, ca⟩ := texts_at (HA.out.below HBW.out) h1
        obtain ⟨bb, ob, rfl, cb⟩ := texts_at (HB.out.below HBW.out) h2
        have hse := S_eq ts[k] bs[k]
        have HT1 : Hid (ts.take (k + 1) = ts.take k ++ [ts[k]]) := (List.take_append_getElem h1).symm
        have HT2 : Hid (bs.take (k + 1) = bs.take k ++ [bs[k]]) := (List.take_append_getElem h2).symm
        have HH := Lib.hid (And.intro h1 h2)
        have HX : Hid (ts[k] = bs[k] ∨ ts[k] ≠ bs[k]) := Classical.em _
        have HN : Hid (ts[k] ≠ bs[k] → (ts == bs) = false) := fun hx => by
          refine beq_eq_false_iff_ne.2 fun e => hx ?_
          simp [e]
        generalize ts[k] = x at *
        generalize bs[k] = y at *
        clear h1 h2
        rcases HX.out with hxy | hxy
        · subst hxy
          go_wp2_with fail
          go_quiet (fail)
          go_wp2_with fail
          exact ⟨⟨k + 1, HH.out.1, rfl, by rw [HT1.out, HT2.out, HQ.out], HBW.out.trans ((below_drewN wr _).mono HBW.out.size)⟩, by simp [intOf]; omega⟩
        · have hse3 : (x == y) = false := beq_eq_false_iff_ne.2 hxy
          have hse4 : (x = y) = False := eq_false hxy
          have HNE := Lib.hid (HN.out hxy)
          have hse2 : ((S x).toList == (S y).toList) = false := by rw [hse]; exact beq_eq_false_iff_ne.2 hxy
          go_wp2_with fail
          go_quiet (fail)
          go_wp2_with fail
          go_ret
          exact ⟨by rw [HNE.out]; rfl, HBW.out.trans ((below_drewN wr _).mono HBW.out.size)⟩
      · obtain rfl : k = n := by omega
        have hq := HQ.out
        rw [List.take_of_length_le (by have := HLA.out; omega), List.take_of_length_le (by have := HLB.out; omega)] at hq
        have HE : Hid ((ts == bs) = true) := by show _ = _; rw [hq]; exact beq_self_eq_true _
        clear hq
        go_wp2_with fail
        go_ret
        exact ⟨by rw [HE.out]; rfl, HBW.out⟩
  · have hE : Hid ((ts == bs) = false) := by
      refine beq_eq_false_iff_ne.2 fun e => hne ?_
      rw [← hla, ← hlb, e]
    have q1 : ((n : Int) == (m : Int)) = false := beq_eq_false_iff_ne.2 (by omega)
    have q2 : (n = m) = False := eq_false hne
    clear hla hlb hne
    go_enter Try.func27, Try.ntmps27
    go_wp2_with fail
    go_ret
    exact ⟨by rw [hE.out]; rfl, Below.refl _ _⟩
end Go.Proofs.Ytikpedkckijioaa.Log

namespace Go.Proofs.Ytikpedkckijioaa.Log
open Go.RowKit Disk

structure T2 (w0 w : World) (gd ga fa na gb fb nb : Nat) (d : DK) (La Lb : LK) (X Ya Yb : Nat → Prop) : Prop where
  hd : DkAt w X gd d
  ha : LgAt w Ya ga gd (fa : Int) na La
  hb : LgAt w Yb gb gd (fb : Int) nb Lb
  xa : ∀ k, X k → ¬ Ya k
  xb : ∀ k, X k → ¬ Yb k
  ab : ∀ k, Ya k → ¬ Yb k
  ka : KL d fa na La
  kb : KL d fb nb Lb
  left : d.left < 0
  below : Below w0.heap.size w0 w
  own : ∀ k, X k ∨ Ya k ∨ Yb k → w0.heap.size ≤ k
  apart : fa + na ≤ fb ∨ fb + nb ≤ fa
theorem T2.swap {w0 w : World} {gd ga fa na gb fb nb : Nat} {d : DK} {La Lb : LK} {X Ya Yb : Nat → Prop} (h : T2 w0 w gd ga fa na gb fb nb d La Lb X Ya Yb) : T2 w0 w gd gb fb nb ga fa na d Lb La X Yb Ya :=
  ⟨h.hd, h.hb, h.ha, h.xb, h.xa, fun k hb ha => h.ab k ha hb, h.kb, h.ka, h.left, h.below, fun k hk => h.own k (hk.elim .inl fun q => q.elim (fun r => .inr (.inr r)) fun r => .inr (.inl r)), h.apart.symm⟩
theorem T2.lw {w0 w : World} {gd ga fa na gb fb nb : Nat} {d : DK} {La Lb : LK} {X Ya Yb : Nat → Prop} (h : T2 w0 w gd ga fa na gb fb nb d La Lb X Ya Yb) : Lw w0 w (fun k => X k ∨ Ya k) ga gd fa na d La :=
  ⟨⟨X, Ya, h.hd, h.ha, h.xa, fun _ hk => .inl hk, fun _ hk => .inr hk⟩, h.below, fun k hk => h.own k (hk.elim .inl fun q => .inr (.inl q)), fun k hk => hk.elim (h.hd.lt k) (h.ha.lt k)⟩
/-- Two logs of one's own: the first one's records, its end, a bound of all stamps. -/
def Tw (w0 w : World) (Z : Nat → Prop) (gd ga fa na gb fb nb : Nat) (bs : List (List UInt8)) (e N : Nat) : Prop :=
  ∃ d La Lb X Ya Yb, T2 w0 w gd ga fa na gb fb nb d La Lb X Ya Yb ∧ La.recs = bs ∧ La.end_ = e ∧ La.top ≤ N ∧ Lb.top ≤ N ∧ ∀ k, X k ∨ Ya k ∨ Yb k → Z k
def TwTo (v : Value) (w0 : World) (Z : Nat → Prop) (gd ga fa na gb fb nb : Nat) (bs : List (List UInt8)) (e N : Nat) (w : World) (x : Ending) (w' : World) : Prop :=
  x = .returned v ∧ ∃ Z', Tw w0 w' Z' gd ga fa na gb fb nb bs e N ∧ Out Z w w' ∧ (∀ k, Z' k → Z k ∨ w.heap.size ≤ k) ∧ ∀ k, Z' k → k < w'.heap.size
theorem T2.turn {w0 w w' : World} {gd ga fa na gb fb nb : Nat} {d d' : DK} {La Lb La' : LK} {X Ya Yb Z : Nat → Prop} {v : Value} {x : Ending} (h : T2 w0 w gd ga fa na gb fb nb d La Lb X Ya Yb) (hZ : ∀ k, X k ∨ Ya k ∨ Yb k → Z k) (hq : LwTo v w0 (fun k => X k ∨ Ya k) ga gd fa na d' La' w x w') (ka : KL d' fa na La') (kb : KL d' fb nb Lb) (hl : d'.left < 0) :
    x = .returned v ∧ ∃ X' Ya', T2 w0 w' gd ga fa na gb fb nb d' La' Lb X' Ya' Yb ∧ Out Z w w' ∧ (∀ k, X' k ∨ Ya' k ∨ Yb k → Z k ∨ w.heap.size ≤ k) ∧ ∀ k, X' k ∨ Ya' k ∨ Yb k → k < w'.heap.size := by
  obtain ⟨rfl, Z1, hw, ho, hs⟩ := hq
  obtain ⟨X', Ya', q1, q2, q3, q4, q5⟩ := hw.at_
  have hbl := h.hb.lt
  have hno : ∀ k, Yb k → ¬ Z1 k := fun k hk hz => by
    rcases hs k hz with (r | r) | r
    · exact h.xb k r hk
    · exact h.ab k r hk
    · have := hbl k hk; omega
  have hb' : LgAt w' Yb gb gd (fb : Int) nb Lb := h.hb.out ho (fun k hk hz => hz.elim (fun r => h.xb k r hk) (fun r => h.ab k r hk))
  have hsub : ∀ k, X' k ∨ Ya' k ∨ Yb k → Z k ∨ w.heap.size ≤ k := fun k hk => by
    rcases hk with r | r | r
    · rcases hs k (q4 k r) with (t | t) | t
      · exact .inl (hZ k (.inl t))
      · exact .inl (hZ k (.inr (.inl t)))
      · exact .inr t
    · rcases hs k (q5 k r) with (t | t) | t
      · exact .inl (hZ k (.inl t))
      · exact .inl (hZ k (.inr (.inl t)))
      · exact .inr t
    · exact .inl (hZ k (.inr (.inr r)))
  refine ⟨rfl, X', Ya', ⟨q1, q2, hb', q3, fun k hx hy => hno k hy (q4 k hx), fun k hx hy => hno k hy (q5 k hx), ka, kb, hl, hw.below, fun k hk => ?_, h.apart⟩, ho.mono fun k hk => .inl (hZ k (hk.elim .inl fun r => .inr (.inl r))), hsub, fun k hk => ?_⟩
  · rcases hk with r | r | r
    · exact hw.own k (q4 k r)
    · exact hw.own k (q5 k r)
    · exact h.own k (.inr (.inr r))
  · rcases hk with r | r | r
    · exact q1.lt k r
    · exact q2.lt k r
    · exact hb'.lt k r
theorem kl_beside {d d' : DK} {fa na fb nb : Nat} {L La' : LK} (h : KL d fb nb L) (ka : KL d' fa na La') (hp : d'.pages.length = d.pages.length) (hq : part (now d') fb nb = part (now d) fb nb) : KL d' fb nb L :=
  ⟨⟨ka.up.ok, ka.up.on, h.up.two, by rw [hp]; exact h.up.in_, by rw [hq]; exact h.up.low⟩, by rw [hq]; exact h.recs, h.met, ka.row, h.sz⟩
/-- The first one commits. -/
theorem T2.commit {w0 w : World} {gd ga fa na gb fb nb : Nat} {d : DK} {La Lb : LK} {X Ya Yb Z : Nat → Prop} (h : T2 w0 w gd ga fa na gb fb nb d La Lb X Ya Yb) (hZ : ∀ k, X k ∨ Ya k ∨ Yb k → Z k) (ht : La.top + 2 < 65536) (A : Option Addr) (m c : Nat) (b : List UInt8) (hr : Rd w A m b) (hA : ∀ a, A = some a → ¬ Z a.block) (hmc : m ≤ c) (hm : m ≤ 3000000) :
    Calls Try.prog 13 #[.pointer (some ⟨ga, 0, none⟩), .slice A m c] w fun x w' => ∃ z d' La', (x = .returned (.int .i64 z) ∧ ∃ X' Ya', T2 w0 w' gd ga fa na gb fb nb d' La' Lb X' Ya' Yb ∧ Out Z w w' ∧ (∀ k, X' k ∨ Ya' k ∨ Yb k → Z k ∨ w.heap.size ≤ k) ∧ ∀ k, X' k ∨ Ya' k ∨ Yb k → k < w'.heap.size) ∧ La'.top ≤ La.top + 2 ∧
      (La.end_ + manyOf m ≤ na → z = 0 ∧ La'.recs = La.recs ++ [b] ∧ La'.end_ = La.end_ + manyOf m) ∧ (na < La.end_ + manyOf m → z = 4 ∧ La'.recs = La.recs ∧ La'.end_ = La.end_) := by
  have hlen : b.length = m := hr.len
  refine (commit_st h.lw h.ka (by omega) A m c b hr (fun a ha hx => hA a ha (hZ _ (hx.elim .inl fun r => .inr (.inl r)))) hmc hm).mono ?_
  rintro x w' ⟨z, d', La', hq, hc⟩
  have hmany := h.ka.many
  rcases Nat.lt_or_ge na (La.end_ + manyOf m) with hf | hroom
  · have hz := hc.room (by rw [hlen]; exact hf)
    obtain ⟨rfl, rfl⟩ := hc.full hz
    exact ⟨z, _, _, h.turn hZ hq h.ka h.kb h.left, by omega, fun q => by omega, fun _ => ⟨hz, rfl, rfl⟩⟩
  · have hz : z = 0 := by
      have h4 := hc.some_ (by rw [hlen]; exact hroom)
      have := commit_steady (b := b) h.ka.up h.left (by omega)
      rw [hc.ans] at h4 ⊢
      rcases this.2.2.2.2 with q | q
      · rw [← this.1] at q
        exact absurd q h4
      · rw [this.1]; exact q
    obtain ⟨g1, g2, g3, g4, g5, _⟩ := hc.good hz
    have hc0 : (commitF d fa na La.top b).1.1 = 0 := by rw [← hc.ans]; exact hz
    have hup := commit_up h.ka.up (by omega) (by omega) hc0
    have hbs := commit_beside (b := b) (g := fb) (k := nb) h.ka.up h.left (by omega) h.kb.up.in_ h.apart
    rw [← hc.disk] at hup hbs
    exact ⟨z, d', La', h.turn hZ hq g1 (kl_beside h.kb g1 hup.2.2.2.1 hbs) (by rw [g5 h.left]; exact h.left), g4, fun _ => ⟨hz, g2, by rw [g3, hlen]⟩, fun q => by omega⟩
theorem T2.reset {w0 w : World} {gd ga fa na gb fb nb : Nat} {d : DK} {La Lb : LK} {X Ya Yb Z : Nat → Prop} (h : T2 w0 w gd ga fa na gb fb nb d La Lb X Ya Yb) (hZ : ∀ k, X k ∨ Ya k ∨ Yb k → Z k) (ht : La.top + 2 < 65536) :
    Calls Try.prog 16 #[.pointer (some ⟨ga, 0, none⟩)] w fun x w' => ∃ d' La', (x = .returned (.int .i64 0) ∧ ∃ X' Ya', T2 w0 w' gd ga fa na gb fb nb d' La' Lb X' Ya' Yb ∧ Out Z w w' ∧ (∀ k, X' k ∨ Ya' k ∨ Yb k → Z k ∨ w.heap.size ≤ k) ∧ ∀ k, X' k ∨ Ya' k ∨ Yb k → k < w'.heap.size) ∧ La'.top ≤ La.top + 2 ∧ La'.recs = [] ∧ La'.end_ = 1 := by
  refine (reset_st h.lw h.ka (by omega)).mono ?_
  rintro x w' ⟨z, d', La', hq, hc⟩
  have hz : z = 0 := by rw [hc.ans]; exact (reset_steady h.ka.up h.left).1
  subst hz
  obtain ⟨g1, g2, g3, g4, g5⟩ := hc.good rfl
  have hc0 : (resetF d fa La.top).1 = 0 := by rw [← hc.ans]
  have hup := reset_up h.ka.up (by omega) hc0
  have hbs := reset_beside (g := fb) (k := nb) h.ka.up h.left h.kb.up.in_ h.apart
  rw [← hc.disk] at hup hbs
  exact ⟨d', La', h.turn hZ hq g1 (kl_beside h.kb g1 hup.2.2.2.1 hbs) (by rw [g5 h.left]; exact h.left), by omega, g2, g3⟩
section
variable {w0 w : World} {Z : Nat → Prop} {gd ga fa na gb fb nb : Nat} {bs : List (List UInt8)} {e N : Nat}
theorem Tw.below (h : Tw w0 w Z gd ga fa na gb fb nb bs e N) : Below w0.heap.size w0 w := by
  obtain ⟨d, La, Lb, X, Ya, Yb, h1, _⟩ := h
  exact h1.below
theorem Tw.beside {w' : World} {V : Nat → Prop} (h : Tw w0 w Z gd ga fa na gb fb nb bs e N) (ho : Out V w w') (hv : ∀ k, Z k → ¬ V k) (hv0 : ∀ k, V k → w0.heap.size ≤ k) : Tw w0 w' Z gd ga fa na gb fb nb bs e N := by
  obtain ⟨d, La, Lb, X, Ya, Yb, h1, h2, h3, h4, h5, h6⟩ := h
  exact ⟨d, La, Lb, X, Ya, Yb, ⟨h1.hd.out ho (fun k hk hx => hv k (h6 k (.inl hk)) hx), h1.ha.out ho (fun k hk => hv k (h6 k (.inr (.inl hk)))), h1.hb.out ho (fun k hk => hv k (h6 k (.inr (.inr hk)))), h1.xa, h1.xb, h1.ab, h1.ka, h1.kb, h1.left, ho.below h1.below hv0 h1.below.size, h1.own, h1.apart⟩, h2, h3, h4, h5, h6⟩
theorem Tw.below_ {w' : World} (h : Tw w0 w Z gd ga fa na gb fb nb bs e N) (hb : Below w.heap.size w w') : Tw w0 w' Z gd ga fa na gb fb nb bs e N :=
  h.beside (V := fun _ => False) (Out.of_below hb) (fun _ _ q => q) (fun _ q => q.elim)
theorem Tw.commit (h : Tw w0 w Z gd ga fa na gb fb nb bs e N) (hN : N + 2 < 65536) (A : Option Addr) (m c : Nat) (b : List UInt8) (hr : Rd w A m b) (hA : ∀ a, A = some a → ¬ Z a.block) (hmc : m ≤ c) (hm : m ≤ 3000000) (hroom : e + manyOf m ≤ na) :
    Calls Try.prog 13 #[.pointer (some ⟨ga, 0, none⟩), .slice A m c] w (TwTo (.int .i64 0) w0 Z gd ga fa na gb fb nb (bs ++ [b]) (e + manyOf m) (N + 2) w) := by
  obtain ⟨d, La, Lb, X, Ya, Yb, h1, rfl, rfl, h4, h5, h6⟩ := h
  refine (h1.commit h6 (by omega) A m c b hr hA hmc hm).mono ?_
  rintro x w' ⟨z, d', La', ⟨rfl, X', Ya', q1, q2, q3, q4⟩, ht, hy, -⟩
  obtain ⟨rfl, r1, r2⟩ := hy hroom
  exact ⟨rfl, _, ⟨d', La', Lb, X', Ya', Yb, q1, r1, r2, by omega, by omega, fun k hk => hk⟩, q2, q3, q4⟩
theorem Tw.full (h : Tw w0 w Z gd ga fa na gb fb nb bs e N) (hN : N + 2 < 65536) (A : Option Addr) (m c : Nat) (b : List UInt8) (hr : Rd w A m b) (hA : ∀ a, A = some a → ¬ Z a.block) (hmc : m ≤ c) (hm : m ≤ 3000000) (hroom : na < e + manyOf m) :
    Calls Try.prog 13 #[.pointer (some ⟨ga, 0, none⟩), .slice A m c] w (TwTo (.int .i64 4) w0 Z gd ga fa na gb fb nb bs e (N + 2) w) := by
  obtain ⟨d, La, Lb, X, Ya, Yb, h1, rfl, rfl, h4, h5, h6⟩ := h
  refine (h1.commit h6 (by omega) A m c b hr hA hmc hm).mono ?_
  rintro x w' ⟨z, d', La', ⟨rfl, X', Ya', q1, q2, q3, q4⟩, ht, -, hy⟩
  obtain ⟨rfl, r1, r2⟩ := hy hroom
  exact ⟨rfl, _, ⟨d', La', Lb, X', Ya', Yb, q1, r1, r2, by omega, by omega, fun k hk => hk⟩, q2, q3, q4⟩
theorem Tw.reset (h : Tw w0 w Z gd ga fa na gb fb nb bs e N) (hN : N + 2 < 65536) :
    Calls Try.prog 16 #[.pointer (some ⟨ga, 0, none⟩)] w (TwTo (.int .i64 0) w0 Z gd ga fa na gb fb nb [] 1 (N + 2) w) := by
  obtain ⟨d, La, Lb, X, Ya, Yb, h1, rfl, rfl, h4, h5, h6⟩ := h
  refine (h1.reset h6 (by omega)).mono ?_
  rintro x w' ⟨d', La', ⟨rfl, X', Ya', q1, q2, q3, q4⟩, ht, r1, r2⟩
  exact ⟨rfl, _, ⟨d', La', Lb, X', Ya', Yb, q1, r1, r2, by omega, by omega, fun k hk => hk⟩, q2, q3, q4⟩
/-- The other one commits. -/
theorem Tw.other (h : Tw w0 w Z gd ga fa na gb fb nb bs e N) (hN : N + 2 < 65536) (A : Option Addr) (m c : Nat) (b : List UInt8) (hr : Rd w A m b) (hA : ∀ a, A = some a → ¬ Z a.block) (hmc : m ≤ c) (hm : m ≤ 3000000) :
    Calls Try.prog 13 #[.pointer (some ⟨gb, 0, none⟩), .slice A m c] w fun x w' => ∃ z, TwTo (.int .i64 z) w0 Z gd ga fa na gb fb nb bs e (N + 2) w x w' := by
  obtain ⟨d, La, Lb, X, Ya, Yb, h1, rfl, rfl, h4, h5, h6⟩ := h
  refine (h1.swap.commit (Z := Z) (fun k hk => h6 k (hk.elim .inl fun q => q.elim (fun r => .inr (.inr r)) fun r => .inr (.inl r))) (by omega) A m c b hr hA hmc hm).mono ?_
  rintro x w' ⟨z, d', Lb', ⟨rfl, X', Yb', q1, q2, q3, q4⟩, ht, -, -⟩
  exact ⟨z, rfl, fun k => X' k ∨ Yb' k ∨ Ya k, ⟨d', La, Lb', X', Ya, Yb', q1.swap, rfl, rfl, by omega, by omega, fun k hk => hk.elim .inl fun q => q.elim (fun r => .inr (.inr r)) fun r => .inr (.inl r)⟩, q2, q3, q4⟩
theorem Tw.otherReset (h : Tw w0 w Z gd ga fa na gb fb nb bs e N) (hN : N + 2 < 65536) :
    Calls Try.prog 16 #[.pointer (some ⟨gb, 0, none⟩)] w (TwTo (.int .i64 0) w0 Z gd ga fa na gb fb nb bs e (N + 2) w) := by
  obtain ⟨d, La, Lb, X, Ya, Yb, h1, rfl, rfl, h4, h5, h6⟩ := h
  refine (h1.swap.reset (Z := Z) (fun k hk => h6 k (hk.elim .inl fun q => q.elim (fun r => .inr (.inr r)) fun r => .inr (.inl r))) (by omega)).mono ?_
  rintro x w' ⟨d', Lb', ⟨rfl, X', Yb', q1, q2, q3, q4⟩, ht, r1, r2⟩
  exact ⟨rfl, fun k => X' k ∨ Yb' k ∨ Ya k, ⟨d', La, Lb', X', Ya, Yb', q1.swap, rfl, rfl, by omega, by omega, fun k hk => hk.elim .inl fun q => q.elim (fun r => .inr (.inr r)) fun r => .inr (.inl r)⟩, q2, q3, q4⟩
theorem Tw.room (h : Tw w0 w Z gd ga fa na gb fb nb bs e N) :
    Calls Try.prog 23 #[.pointer (some ⟨ga, 0, none⟩)] w fun x w' => x = .returned (.int .i64 ((480 * (na - e) : Nat) : Int)) ∧ Below w.heap.size w w' := by
  obtain ⟨d, La, Lb, X, Ya, Yb, h1, rfl, rfl, h4, h5, h6⟩ := h
  obtain ⟨k1, k2, k3, k4, -⟩ := h1.ka.many
  exact room_st h1.lw (by omega) k4
theorem Tw.batches (h : Tw w0 w Z gd ga fa na gb fb nb bs e N) :
    Calls Try.prog 26 #[.pointer (some ⟨ga, 0, none⟩)] w (BatPost bs w) := by
  obtain ⟨d, La, Lb, X, Ya, Yb, h1, rfl, rfl, h4, h5, h6⟩ := h
  obtain ⟨k1, k2, k3, k4, k5, -⟩ := h1.ka.many
  exact batches_st h1.lw (by omega) h1.ka.sz
theorem Tw.many (h : Tw w0 w Z gd ga fa na gb fb nb bs e N) : bs.length ≤ 4096 ∧ 1 ≤ e ∧ e ≤ na := by
  obtain ⟨d, La, Lb, X, Ya, Yb, h1, rfl, rfl, h4, h5, h6⟩ := h
  obtain ⟨k1, k2, k3, k4, k5, -⟩ := h1.ka.many
  exact ⟨by omega, k3, k4⟩
end
end Go.Proofs.Ytikpedkckijioaa.Log

namespace Go.Proofs.Ytikpedkckijioaa.Log
open Go.ChangeShapes Go.WideShapes Go.ChangeAt Go.RowKit Disk

structure Try1 where
  reset : Bool
  b : UInt8
  n : Nat
  fuse : Nat
def tryC (y : Try1) : List Value := [.bool y.reset, .int .u8 (y.b.toNat : Int), .int .u16 (y.n : Int), .int .u8 (y.fuse : Int)]
/-- The slice reads as these tries. -/
structure TryS (w : World) (A : Option Addr) (n : Nat) (xs : List Try1) : Prop where
  len : xs.length = n
  cells : ∀ j, (h : j < xs.length) → ∃ b o, A = some ⟨b, o, none⟩ ∧ xs[j].n < 65536 ∧ xs[j].fuse < 256 ∧ ∀ (i : Nat) (v : Value), (tryC xs[j])[i]? = some v → w.cell? ⟨b, o + j * 4 + i, none⟩ = some v
theorem TryS.nil_ (w : World) (A : Option Addr) : TryS w A 0 [] := ⟨rfl, fun j h => absurd h (by simp)⟩
theorem TryS.below {w w' : World} {A : Option Addr} {n : Nat} {xs : List Try1} (h : TryS w A n xs) (hb : Below w.heap.size w w') : TryS w' A n xs :=
  ⟨h.len, fun j hj => by
    obtain ⟨b, o, e, h1, h2, hc⟩ := h.cells j hj
    exact ⟨b, o, e, h1, h2, fun i v hv => (hb.cell (World.block_lt_of_cell? w _ (hc i v hv))).trans (hc i v hv)⟩⟩
theorem ty_tries : Try.prog.underlying 49 = some (.slice 54) := by kernel_rfl
theorem ce_try : Try.prog.cellsOf 54 = 4 := by kernel_rfl
section
variable {H : Type} {enc : TypeId × Value → H} {w : World} {base : Nat} {spare : Nat → Bool} {held : Bool}
set_option maxRecDepth 100000 in
theorem open_try {fuel : Nat} {cs : List Value} {x : DataW H × List MemPlace} (h : DataW.trod enc Try.prog w base spare held fuel 54 cs = some x) : ∃ y : Try1, cs = tryC y ∧ y.n < 65536 ∧ y.fuse < 256 := by
  obtain ⟨ys, m, _, _, hlen, hxl, hf⟩ := DataW.trod_struct Try.underlying54 h
  rw [ce_try] at hlen
  have hxl : ys.length = 4 := hxl
  obtain ⟨y0, y1, y2, y3, rfl⟩ := list4 hxl
  obtain ⟨v0, v1, v2, v3, rfl⟩ := list4 hlen
  have g0 := hf 0 _ rfl
  have g1 := hf 1 _ rfl
  have g2 := hf 2 _ rfl
  have g3 := hf 3 _ rfl
  simp [ce_u8, ce_u16, ce_bool] at g0 g1 g2 g3
  obtain ⟨z0, e0, _⟩ := DataW.trod_bool ty_bool g0
  obtain ⟨z1, e1, _, w1⟩ := DataW.trod_int ty_byte g1
  obtain ⟨z2, e2, _, w2⟩ := DataW.trod_int ty_u16 g2
  obtain ⟨z3, e3, _, w3⟩ := DataW.trod_int ty_byte g3
  simp at e0 e1 e2 e3
  subst e0 e1 e2 e3
  simp [Lit.wf, IntKind.min, IntKind.max, IntKind.signed, IntKind.bits] at w1 w2 w3
  refine ⟨⟨z0, UInt8.ofNat z1.toNat, z2.toNat, z3.toNat⟩, ?_, by show z2.toNat < _; omega, by show z3.toNat < _; omega⟩
  unfold tryC
  dsimp only
  have q1 : (((UInt8.ofNat z1.toNat).toNat : Nat) : Int) = z1 := by simp; omega
  have q2 : ((z2.toNat : Nat) : Int) = z2 := by omega
  have q3 : ((z3.toNat : Nat) : Int) = z3 := by omega
  rw [q1, q2, q3]
set_option maxRecDepth 100000 in
theorem open_tries {fuel : Nat} {cs : List Value} {x : DataW H × List MemPlace} (h : DataW.trod enc Try.prog w base spare held fuel 49 cs = some x) : ∃ A n c xs, cs = [.slice A n c] ∧ n ≤ c ∧ c ≤ maxLen ∧ TryS w A n xs := by
  rcases Go.Deep.open_slice ty_tries h with ⟨rfl, _⟩ | ⟨a, len, cap, m, n, D, Pl, rfl, _, hl, hm, hmm, _, hx⟩
  · exact ⟨none, 0, 0, [], rfl, Nat.le_refl _, Nat.zero_le _, TryS.nil_ _ _⟩
  · have hml : len ≤ m := by rw [hmm]; split <;> omega
    have each : ∀ i, i < len → ∃ q : Try1, q.n < 65536 ∧ q.fuse < 256 ∧ ∀ (j : Nat) (v : Value), (tryC q)[j]? = some v → w.cell? (a.add (4 * i + j)) = some v := by
      intro i hi
      obtain ⟨cs', h1, h2⟩ := hx i (by omega)
      rw [ce_try] at h1
      obtain ⟨_, hlen, hcell⟩ := World.cells?_some h1
      obtain ⟨q, rfl, h3, h4⟩ := open_try h2
      refine ⟨q, h3, h4, fun j v hv => ?_⟩
      have hj : j < 4 := (List.getElem?_eq_some_iff.1 hv).1
      have := hcell j hj
      rw [Go.Deep.add_add, Nat.mul_comm] at this
      rw [this]
      exact hv
    haveI : Inhabited Try1 := ⟨⟨false, 0, 0, 0⟩⟩
    obtain ⟨q, hq⟩ := Go.Deep.choose_lt each
    refine ⟨some a, len, cap, (List.range len).map q, rfl, hl, hm, ⟨by simp, fun j hj => ?_⟩⟩
    have hj' : j < len := by simpa using hj
    obtain ⟨_, _, hc0⟩ := hq 0 (by omega)
    have hp : a = ⟨a.block, a.off, none⟩ := Log.addr_plain (by simpa [Addr.add] using hc0 0 _ rfl)
    obtain ⟨h1, h2, hc⟩ := hq j hj'
    simp only [List.getElem_map, List.getElem_range]
    refine ⟨a.block, a.off, congrArg some hp, h1, h2, fun i v hv => ?_⟩
    have := hc i v hv
    rw [hp, Log.add_plain] at this
    rw [Nat.add_assoc, Nat.mul_comm j 4]
    exact this
set_option maxRecDepth 100000 in
theorem arg_tries {b0 : Nat} {r : Reach} {v : Value} {d : DataW H} {ps : List MemPlace} (hv : Value.okWide Try.prog w r b0 49 v) (h : DataW.Trod enc Try.prog w base spare held 49 v d ps) : ∃ A n c xs, v = .slice A n c ∧ n ≤ c ∧ c ≤ maxLen ∧ TryS w A n xs := by
  obtain ⟨A, n, c, rfl⟩ := okWide_slice ty_tries hv
  obtain ⟨fuel, h⟩ := h
  obtain ⟨A', n', c', xs, e, h1, h2, h3⟩ := open_tries h
  simp [Value.cells] at e
  obtain ⟨rfl, rfl, rfl⟩ := e
  exact ⟨A, n, c, xs, rfl, h1, h2, h3⟩
theorem ty_u32 : Try.prog.underlying 65 = some (.int .u32) := by kernel_rfl
theorem open_u32n {P : Program} {t : TypeId} (ht : P.underlying t = some (.int .u32)) {b0 : Nat} {r : Reach} {v : Value} {d : DataW H} {ps : List MemPlace}
    (hv : Value.okWide P w r b0 t v) (h : DataW.Trod enc P w base spare held t v d ps) : ∃ a : Nat, v = .int .u32 (a : Int) ∧ a < 4294967296 := by
  obtain ⟨z, rfl, _, _, hw⟩ := open_int ht hv h
  simp [Lit.wf, IntKind.min, IntKind.max, IntKind.signed, IntKind.bits] at hw
  exact ⟨z.toNat, by congr 1; omega, by omega⟩
end
end Go.Proofs.Ytikpedkckijioaa.Log
