/- The contracts of wire's putting calls: what is handed back is a new row that holds the old bytes and the new ones behind them; nothing that was there has turned. -/
import Derived.Test.YtobdkgmlkchggaaChecked
import Derived.Test.YtobdkgmlkchggaaWords
import Derived.Test.YtobdkgmlkchggaaCrcBase
import Derived.KernelRfl
namespace Go.Proofs.Ytobdkgmlkchggaa
open Go.RowKit


set_option maxRecDepth 100000 in
set_option maxHeartbeats 400000 in
theorem withRoom_any (A : Option Addr) (n c : Nat) (m : Int) (bs : List UInt8) (w : World) (h : Rd w A n bs) (hm : 0 ≤ m) (hb : n + m ≤ 1000000000000) :
    Calls Try.prog 40 #[.slice A n c, .int .i64 m] w fun e w' =>
      e = .returned (.slice (some ⟨w.heap.size, 0, none⟩) n (n + m.toNat)) ∧ w' = w.alloc (.cells (bs.map U ++ List.replicate m.toNat (U 0)).toArray 5) := by
  obtain ⟨i0, hi, hz0, hz1, hz2⟩ := info_parts info_byte
  have hmk := fun W => run_make_bytes (P := Try.prog) ty_bytes hi hz0 hz1 hz2 .i64 .i64 n (n + m) (by omega) (by omega) W
  have hcp := run_copy_Rd (P := Try.prog) (dT := 27) (sT := 27) (ty := 3) ty_bytes (info_u8 hi hz1) h (List.replicate ((n : Int) + m).toNat (U 0)) (by simp; omega) ((n : Int) + m).toNat c
  have hd : (List.replicate ((n : Int) + m).toNat (U 0)).drop n = List.replicate m.toNat (U 0) := by
    rw [List.drop_replicate]; congr 1; omega
  rw [hd] at hcp
  clear hi hz0 hz1 hz2 h hd
  have hN : ((n : Int) + m).toNat = n + m.toNat := by omega
  rw [hN] at hmk hcp
  generalize List.replicate (n + m.toNat) (U 0) = Z at hmk hcp
  generalize List.map U bs ++ List.replicate m.toNat (U 0) = Y at hcp ⊢
  clear hN
  go_enter Try.func40, Try.ntmps40
  go_wp2_with fail
  go_ret
  exact ⟨rfl, rfl⟩

set_option maxHeartbeats 400000 in
theorem putNumber_any (base : Nat) (v : Value) (n k x : Nat) (xx kk : Int) (xs : List UInt8) (w : World) (hown : w.ownsRow base 5 1 v n (xs.map U)) (hxx : xx = x) (_hx : x < 18446744073709551616) (hkk : kk = k) (hk : k ≤ 8) (hn : n ≤ 1000000000000) (hbase : base ≤ w.heap.size) :
    Calls Try.prog 39 #[v, .int .u64 xx, .int .i64 kk] w fun e w' =>
      ∃ v', e = .returned v' ∧ w'.ownsRow base 5 1 v' (n + k) ((xs ++ be k x).map U) ∧ Below base w w' := by
  subst hxx hkk
  obtain ⟨i0, hi, hz0, hz1, hz2⟩ := info_parts info_byte
  have HI := Lib.hid hi
  have HZ0 := Lib.hid hz0
  have HZ1 := Lib.hid hz1
  have HZ2 := Lib.hid hz2
  clear hi hz0 hz1 hz2
  have HO := Lib.hid hown
  clear hown
  go_enter Try.func39, Try.ntmps39
  go_wp2_with fail
  go_loopw [0, 7] (fun b l wr => ∃ (r : Nat) (vv : Value), r ≤ k ∧ b = vv ∧ l = .int .i64 ((r : Int) - 1) ∧ wr.ownsRow base 5 1 vv (n + (k - r)) ((xs ++ (be k x).take (k - r)).map U) ∧ Below base w wr) (fun _ l _ => (intOf l + 1).toNat)
  case atStart => exact ⟨k, v, Nat.le_refl _, rfl, rfl, by simpa using HO.out, Below.refl _ _⟩
  case round =>
    obtain ⟨r, vv, hr, rfl, rfl, hown, hbel⟩ := hrel
    have HO := Lib.hid hown
    clear hown
    by_cases h0 : 0 < r
    · obtain ⟨r, rfl⟩ : ∃ r', r = r' + 1 := ⟨r - 1, by omega⟩
      go_wp2_with (at_builtin; refine wpList_append_own _ rfl (.tmp 14) (.tmp 20) _ rfl base 5 i0 _ 1 1 ty_bytes HI.out HZ0.out HZ1.out HZ2.out rfl (by decide) _ (n + (k - (r + 1))) _ rfl (HO.out.alloc _) ⟨wr.heap.size, 0, none⟩ 1 1 _ rfl rfl (one_new _ _ _) (by simp [Value.oneCell']) (by unfold maxLen; omega) (by omega) (by simp; have := hbel.size; omega) ?_)
      intro v' w1 hown1 hgr1 _
      have hown2 : w1.ownsRow base 5 1 v' (n + (k - r)) ((xs ++ (be k x).take (k - r)).map U) := by
        rw [take_be k x r (by omega), show n + (k - r) = n + (k - (r + 1)) + 1 from by omega, ← List.append_assoc, List.map_append, List.map_cons, List.map_nil, ← byte_shift]
        simpa using hown1
      have hb2 : Below base w w1 := (hbel.alloc (by have := hbel.size; omega) _).grown hgr1 (by simp; have := hbel.size; omega) (fun g hg => (HO.out.lt g hg).1)
      have HO1 := Lib.hid hown2
      have HB := Lib.hid hb2
      clear hown1 hgr1 hown2 hb2
      go_wp2_with fail
      exact ⟨⟨r, v', by omega, rfl, rfl, HO1.out, HB.out⟩, by simp [intOf]⟩
    · obtain rfl : r = 0 := by omega
      go_wp2_with fail
      go_ret
      refine ⟨_, rfl, ?_, hbel⟩
      have := HO.out
      rwa [Nat.sub_zero, List.take_of_length_le (by rw [be_length]; omega)] at this

/-- What a putting call hands back: a new row that reads as bs; nothing that was there has turned. -/
def Put (w : World) (bs : List UInt8) (e : Ending) (w' : World) : Prop :=
  ∃ A n c, e = .returned (.slice A n c) ∧ n = bs.length ∧ n ≤ c ∧ w'.ownsRow w.heap.size 5 1 (.slice A n c) n (bs.map U) ∧ Below w.heap.size w w'

theorem Put.of {w w' : World} {bs : List UInt8} {v : Value} (h : w'.ownsRow w.heap.size 5 1 v bs.length (bs.map U)) (hb : Below w.heap.size w w') : Put w bs (.returned v) w' := by
  have h0 := h
  rcases h.2 with ⟨rfl, hn⟩ | ⟨g, cap, cur, rfl, _, _, hnc, _⟩
  · exact ⟨none, 0, 0, rfl, hn.symm, Nat.le_refl _, hn ▸ h0, hb⟩
  · exact ⟨_, _, _, rfl, rfl, hnc, h0, hb⟩

theorem withRoom_own (A : Option Addr) (n c : Nat) (m : Int) (bs : List UInt8) (w : World) (h : Rd w A n bs) (hm : 0 ≤ m) (hb : n + m ≤ 1000000000000) :
    Calls Try.prog 40 #[.slice A n c, .int .i64 m] w fun e w' =>
      e = .returned (.slice (some ⟨w.heap.size, 0, none⟩) n (n + m.toNat)) ∧ w'.ownsRow w.heap.size 5 1 (.slice (some ⟨w.heap.size, 0, none⟩) n (n + m.toNat)) n (bs.map U) ∧ Below w.heap.size w w' :=
  (withRoom_any A n c m bs w h hm hb).mono fun e w' ⟨he, hw⟩ => by
    subst hw
    exact ⟨he, own_of_row w 5 bs n m.toNat h.len (by unfold maxLen; omega), (Below.refl _ _).alloc (Nat.le_refl _) _⟩

set_option maxHeartbeats 400000 in
theorem Uint_any (A : Option Addr) (n c x : Nat) (xx : Int) (bs : List UInt8) (w : World) (h : Rd w A n bs) (hxx : xx = x) (hx : x < 18446744073709551616) (hn : n ≤ 500000000000) :
    Calls Try.prog 19 #[.slice A n c, .int .u64 xx] w (Put w (bs ++ be 8 x)) := by
  have H := Lib.hid h
  have HX := Lib.hid hx
  have HE := Lib.hid hxx
  clear h hx hxx
  go_enter Try.func19, Try.ntmps19
  go_wp2_with fail
  refine (withRoom_own A n c 8 bs w H.out (by omega) (by omega)).mono ?_
  rintro e w1 ⟨rfl, hown1, hb1⟩
  have HO1 := Lib.hid hown1
  have HB1 := Lib.hid hb1
  clear hown1 hb1
  go_wp2_with fail
  refine (putNumber_any w.heap.size _ n 8 x xx 8 bs w1 HO1.out HE.out HX.out rfl (by omega) (by omega) HB1.out.size).mono ?_
  rintro e w2 ⟨v, rfl, hown2, hb2⟩
  have HO2 := Lib.hid hown2
  have HB2 := Lib.hid hb2
  clear hown2 hb2
  go_wp2_with fail
  go_ret
  exact Put.of (by rw [List.length_append, H.out.len, be_length]; exact HO2.out) (HB1.out.trans HB2.out)

set_option maxHeartbeats 400000 in
theorem Byte_any (A : Option Addr) (n c x : Nat) (xx : Int) (bs : List UInt8) (w : World) (h : Rd w A n bs) (hxx : xx = x) (hx : x < 256) (hn : n ≤ 500000000000) :
    Calls Try.prog 18 #[.slice A n c, .int .u8 xx] w (Put w (bs ++ be 1 x)) := by
  have H := Lib.hid h
  have HE := Lib.hid hxx
  have hx0 : 0 ≤ xx := by omega
  have hx1 : xx < 256 := by omega
  clear h hxx
  go_enter Try.func18, Try.ntmps18
  go_wp2_with fail
  refine (withRoom_own A n c 1 bs w H.out (by omega) (by omega)).mono ?_
  rintro e w1 ⟨rfl, hown1, hb1⟩
  have HO1 := Lib.hid hown1
  have HB1 := Lib.hid hb1
  clear hown1 hb1
  go_wp2_with fail
  refine (putNumber_any w.heap.size _ n 1 x xx 1 bs w1 HO1.out HE.out (by omega) rfl (by omega) (by omega) HB1.out.size).mono ?_
  rintro e w2 ⟨v, rfl, hown2, hb2⟩
  have HO2 := Lib.hid hown2
  have HB2 := Lib.hid hb2
  clear hown2 hb2
  go_wp2_with fail
  go_ret
  exact Put.of (by rw [List.length_append, H.out.len, be_length]; exact HO2.out) (HB1.out.trans HB2.out)

set_option maxHeartbeats 400000 in
theorem Text_any (A A2 : Option Addr) (n c n2 c2 : Nat) (bs ss : List UInt8) (w : World) (h : Rd w A n bs) (h2 : Rd w A2 n2 ss) (hn : n ≤ 100000000000) (hn2 : n2 ≤ 100000000000) :
    Calls Try.prog 20 #[.slice A n c, .slice A2 n2 c2] w (Put w (bs ++ (be 4 n2 ++ ss))) := by
  obtain ⟨i0, hi, hz0, hz1, hz2⟩ := info_parts info_byte
  have HI := Lib.hid hi
  have HZ0 := Lib.hid hz0
  have HZ1 := Lib.hid hz1
  have HZ2 := Lib.hid hz2
  clear hi hz0 hz1 hz2
  have H := Lib.hid h
  have H2 := Lib.hid h2
  clear h h2
  go_enter Try.func20, Try.ntmps20
  go_wp2_with fail
  refine (withRoom_own A n c _ bs w H.out (by omega) (by omega)).mono ?_
  rintro e w1 ⟨rfl, hown1, hb1⟩
  have HO1 := Lib.hid hown1
  have HB1 := Lib.hid hb1
  clear hown1 hb1
  go_wp2_with fail
  refine (putNumber_any w.heap.size _ n 4 n2 _ 4 bs w1 HO1.out rfl (by omega) rfl (by omega) (by omega) HB1.out.size).mono ?_
  rintro e w2 ⟨v, rfl, hown2, hb2⟩
  have HO2 := Lib.hid hown2
  have HB2 := Lib.hid (HB1.out.trans hb2)
  clear hown2 hb2
  go_wp2_with (at_builtin; refine wpList_append_Rd rfl (.tmp 16) (.tmp 17) _ rfl ty_bytes HI.out HZ0.out HZ1.out HZ2.out rfl rfl HO2.out rfl (H2.out.below HB2.out) (by omega) HB2.out.size ?_)
  intro v' w3 hown3 hgr3
  have HO3 := Lib.hid hown3
  have HB3 := Lib.hid (HB2.out.grown hgr3 HB2.out.size (fun g hg => (HO2.out.lt g hg).1))
  clear hown3 hgr3
  go_wp2_with fail
  go_ret
  refine Put.of ?_ HB3.out
  have h3 := HO3.out
  have e1 : (bs ++ (be 4 n2 ++ ss)).length = n + 4 + n2 := by simp [H.out.len, H2.out.len, be_length]; omega
  rw [e1]
  simpa using h3
end Go.Proofs.Ytobdkgmlkchggaa
