/- StoreRoom: epochs that are promised, one by one, never come to an end of the room, nor do lines that are adopted again and again (up to 300 times, disks of 8 to 40 pages): for every number of pages, every number of times and all bytes the call returns true, and nothing that was there has turned. No conditions. -/
import Derived.Test.YtmhfhhhhbcignaaGreatBase25
namespace Go.Proofs.YtmhfhhhhbcignaaGreat.storeRoom
open Go.ChangeShapes Go.WideShapes Go.ChangeAt Go.RowKit Disk Log Sto

def kR (bs : List UInt8) (m : Nat) : Kp := if m = 0 then Kp.zero else ⟨2 * m, 2 * m, [⟨1, 120 :: bs⟩]⟩
def kP (bs : List UInt8) (m : Nat) : Kp := { kR bs m with promised := 2 * m + 1 }
theorem kR_num (bs : List UInt8) (m : Nat) : (kR bs m).promised = 2 * m ∧ (kR bs m).current = 2 * m ∧ (kR bs m).lines.length = (if m = 0 then 0 else 1) ∧ lineSum (kR bs m).lines ≤ 17 + bs.length := by
  unfold kR
  by_cases h : m = 0
  · subst h
    rw [if_pos rfl, if_pos rfl]
    exact ⟨rfl, rfl, rfl, by simp [Kp.zero, lineSum]⟩
  · rw [if_neg h, if_neg h]
    exact ⟨rfl, rfl, rfl, by simp [lineSum]; omega⟩
theorem room_prom {bs : List UInt8} {m p : Nat} (hb : bs.length ≤ 400) (hm : m ≤ 300) (hp : 4 ≤ p) : ans (.prom (2 * m + 1)) (kR bs m) p = 0 ∧ thn (.prom (2 * m + 1)) (kR bs m) p = kP bs m := by
  obtain ⟨h1, h2, h3, h4⟩ := kR_num bs m
  have a : (Deed.prom (2 * m + 1)).may (kR bs m) = true := may_prom.2 ⟨by omega, by unfold top; omega⟩
  have b : fits ((Deed.prom (2 * m + 1)).run (kR bs m)) p = true := by
    refine decide_eq_true ?_
    show 64 + lineSum (kR bs m).lines ≤ _
    omega
  exact ⟨by unfold ans; rw [if_pos a, if_pos b], by unfold thn; rw [if_pos ⟨a, b⟩]; rfl⟩
theorem room_adopt {bs : List UInt8} {m p : Nat} (hb : bs.length ≤ 400) (hm : m ≤ 300) (hp : 4 ≤ p) : ans (.adopt (2 * m + 2) [⟨1, 120 :: bs⟩]) (kP bs m) p = 0 ∧ thn (.adopt (2 * m + 2) [⟨1, 120 :: bs⟩]) (kP bs m) p = kR bs (m + 1) := by
  obtain ⟨h1, h2, h3, h4⟩ := kR_num bs m
  have a : (Deed.adopt (2 * m + 2) [⟨1, 120 :: bs⟩]).may (kP bs m) = true := by
    refine may_adopt.2 ⟨by show 2 * m + 1 ≤ _; omega, by show (kR bs m).current < _; omega, by unfold top; omega, by simp, fun x hx => ?_⟩
    rw [List.mem_singleton.1 hx]
    exact ⟨lineB_iff.2 ⟨Nat.le_refl _, by show 1 ≤ top; unfold top; omega, by simp, by simp; omega⟩, by show 1 ≤ _; omega⟩
  have b : fits ((Deed.adopt (2 * m + 2) [⟨1, 120 :: bs⟩]).run (kP bs m)) p = true := by
    refine decide_eq_true ?_
    show 64 + lineSum [⟨1, 120 :: bs⟩] ≤ _
    simp [lineSum]
    omega
  refine ⟨by unfold ans; rw [if_pos a, if_pos b], by unfold thn; rw [if_pos ⟨a, b⟩]; unfold kR; rw [if_neg (by omega)]; rfl⟩
def RelR (w0 : World) (gs gd n N : Nat) (bs : List UInt8) (i : Value) (wr : World) : Prop := ∃ (m : Nat) (Z : Nat → Prop), m ≤ N ∧ i = .int .i64 ((m + 1 : Nat) : Int) ∧ Ss w0 wr Z gs gd n (kR bs m) (8 * m)
theorem open_u16n {H : Type} {enc : TypeId × Value → H} {P : Program} {w : World} {base : Nat} {spare : Nat → Bool} {held : Bool} {t : TypeId} (ht : P.underlying t = some (.int .u16)) {b0 : Nat} {r : Reach} {v : Value} {d : DataW H} {ps : List MemPlace}
    (hv : Value.okWide P w r b0 t v) (h : DataW.Trod enc P w base spare held t v d ps) : ∃ a : Nat, v = .int .u16 (a : Int) ∧ a < 65536 := by
  obtain ⟨z, rfl, _, _, hw⟩ := open_int ht hv h
  simp [Lit.wf, IntKind.min, IntKind.max, IntKind.signed, IntKind.bits] at hw
  exact ⟨z.toNat, by congr 1; omega, by omega⟩
set_option maxRecDepth 100000 in
set_option maxHeartbeats 4000000 in
theorem walk (z : Int) (tm : Nat) (A : Option Addr) (m c : Nat) (bs : List UInt8) (w : World) (htm : tm < 65536) (hr : Rd w A m bs) : Calls Tryz.prog 5 #[.int .i64 z, .int .u16 (tm : Int), .slice A m c] w fun r w' => r = .returned (.bool true) ∧ Below w.heap.size w w' := by
  by_cases h1 : z < 8
  · go_enter Tryz.func5, Tryz.ntmps5
    go_wp2_with fail
    go_ret
    exact ⟨rfl, Below.refl _ _⟩
  by_cases h2 : 40 < z
  · go_enter Tryz.func5, Tryz.ntmps5
    go_wp2_with fail
    go_ret
    exact ⟨rfl, Below.refl _ _⟩
  by_cases h3 : 400 < m
  · have h3' : (400 : Int) < (m : Int) := by omega
    go_enter Tryz.func5, Tryz.ntmps5
    go_wp2_with fail
    go_ret
    exact ⟨rfl, Below.refl _ _⟩
  have h3' : ¬ (400 : Int) < (m : Int) := by omega
  obtain ⟨n, rfl⟩ : ∃ n : Nat, z = (n : Int) := ⟨z.toNat, by omega⟩
  have hm4 : bs.length ≤ 400 := by rw [hr.len]; omega
  have HR := Lib.hid hr
  obtain ⟨N, hN⟩ : ∃ N : Nat, (tm : Int) % 301 = (N : Int) := ⟨tm % 301, by omega⟩
  have hN3 : N ≤ 300 := by omega
  have CN := Lib.hid (ds_new (w0 := w) (n := n) (by omega) (by omega) (Below.refl w.heap.size w))
  clear hr
  go_enter Tryz.func5, Tryz.ntmps5
  go_wp2_with fail
  refine CN.out.mono ?_
  rintro e w1 ⟨gd, X, rfl, hd, hx, hb⟩
  have CO := Lib.hid (hd.open_ (by decide))
  clear hd hx hb CN
  go_wp2_with fail
  refine CO.out.mono ?_
  rintro e w2 ⟨gs, Z2, rfl, hs, -, -, -⟩
  have HS := Lib.hid hs
  clear hs CO
  go_wp2_with fail
  rw [hN]
  clear hN
  go_loopw [12] (fun i wr => RelR w gs gd n N bs i wr) (fun i _ => N + 1 - (intOf i).toNat)
  case atStart => exact ⟨0, Z2, Nat.zero_le _, rfl, HS.out⟩
  case round =>
    clear HS
    obtain ⟨q, Z, hq, rfl, hs⟩ := hrel
    have HS := Lib.hid hs
    clear hs
    have h8 : 4 ≤ n / 2 := by omega
    by_cases hlt : q < N
    · have p1 := room_prom (m := q) (p := n / 2) hm4 (by omega) h8
      have p2 := room_adopt (m := q) (p := n / 2) hm4 (by omega) h8
      have C1 := HS.out.promise (by omega) (2 * q + 1) (by omega)
      rw [p1.1, p1.2] at C1
      have CP := Lib.hid C1
      have P2 := Lib.hid p2
      obtain ⟨u, hu⟩ : ∃ u, u = q + 1 := ⟨_, rfl⟩
      obtain ⟨ea, hea⟩ : ∃ u, u = 2 * q + 1 := ⟨_, rfl⟩
      obtain ⟨eb, heb⟩ : ∃ u, u = 2 * q + 2 := ⟨_, rfl⟩
      rw [← hea] at CP
      rw [← heb, ← hu] at P2
      have e2 : (2 : Int) * (u : Int) = (eb : Int) := by omega
      have e1 : (eb : Int) - 1 = (ea : Int) := by omega
      have hi1 : (u : Int) ≤ (N : Int) := by omega
      have b1 : u ≤ 301 := by omega
      have b2 : eb ≤ 700 := by omega
      have b3 : ea ≤ 700 := by omega
      rw [← hu]
      have HU := Lib.hid hu
      have HEB := Lib.hid heb
      clear C1 p1 p2 hu hea heb
      go_wp2_with fail
      refine CP.out.mono ?_
      rintro e w3 ⟨rfl, Z3, hs, -⟩
      have HS3 := Lib.hid hs
      clear hs CP HS
      have hcv := conv_string (HR.out.below HS3.out.below) c
      obtain ⟨sp, hsp⟩ : ∃ sp, sp = S bs := ⟨_, rfl⟩
      rw [← hsp] at hcv
      have hadd : (⟨#[120]⟩ : ByteArray) ++ sp = S (120 :: bs) := by
        rw [hsp]
        exact Path.S_append [120] bs
      have hsz : ¬ 9223372036854775807 < (⟨#[120]⟩ : ByteArray).size + sp.size := by
        rw [hsp]
        have e : (S bs).size = bs.length := by simp [S, ByteArray.size]
        rw [e]
        show ¬ _ < 1 + _
        omega
      obtain ⟨sx, hsx⟩ : ∃ sx, sx = S (120 :: bs) := ⟨_, rfl⟩
      rw [← hsx] at hadd
      have CL := line_any 1 (120 :: bs) w3
      rw [← hsx] at CL
      have CL := Lib.hid CL
      have HADD := Lib.hid hadd
      clear hsp hsx
      go_wp2_with fail
      refine CL.out.mono ?_
      rintro e w4 ⟨g4, rfl, hl, hb⟩
      have HL4 := Lib.hid hl
      have HA4 := Lib.hid (apart_new (w' := w4) HS3.out)
      have HS4 := Lib.hid (HS3.out.below_ hb)
      have C2 := HS4.out.adopt (by omega) eb [⟨1, 120 :: bs⟩] (by omega) _ 1 1 HL4.out (laid_one (by decide) (by rw [List.length_cons]; omega)) HA4.out
      rw [P2.out.1, P2.out.2] at C2
      have CA := Lib.hid C2
      clear hl hb CL C2 hcv hadd hsz
      go_wp2_with fail
      refine CA.out.mono ?_
      rintro e w5 ⟨rfl, Z5, hs, -⟩
      have HS5 := Lib.hid hs
      clear hs CA HS4 HL4 HA4 HS3
      have HFIN : Hid (RelR w gs gd n N bs (.int .i64 ((u + 1 : Nat) : Int)) w5) := ⟨u, Z5, by have := HU.out; omega, rfl, by have := HU.out; exact HS5.out.mono (by omega)⟩
      go_wp2_with fail
      exact ⟨HFIN.out, by simp [intOf]; omega⟩
    · obtain rfl : q = N := by omega
      have hi1 : ¬ ((q + 1 : Nat) : Int) ≤ (q : Int) := by omega
      have HKN := Lib.hid (kR_num bs q)
      have CK := Lib.hid HS.out.kept
      have HB := Lib.hid HS.out.below
      clear hlt HS
      go_wp2_with fail
      refine CK.out.mono ?_
      rintro e wk ⟨B, d, rfl, -, hb⟩
      have HBK := Lib.hid (HB.out.trans (hb.mono HB.out.size))
      clear hb CK
      have h1 := HKN.out.1
      have h2 := HKN.out.2.1
      have h3 := HKN.out.2.2.1
      unfold kpV
      rw [h1, h2]
      obtain ⟨W, hW⟩ : ∃ W, W = wk.alloc (.cells #[.int .u64 ((2 * q : Nat) : Int), .int .u64 ((2 * q : Nat) : Int), .slice B (kR bs q).lines.length d] 51) := ⟨_, rfl⟩
      have HBW : Hid (Below wk.heap.size wk W) := by show Below _ _ _; rw [hW]; exact (Below.refl _ _).alloc (Nat.le_refl _) _
      have HW := Lib.hid hW
      have hq2 : (2 : Int) * (q : Int) = ((2 * q : Nat) : Int) := by omega
      rcases Nat.eq_zero_or_pos q with rfl | h0
      · rw [if_pos rfl] at h3
        rw [h3] at HW ⊢
        clear h1 h2 h3 hW hq2 HKN
        go_wp2_with fail
        have hWE : wk.alloc (.cells #[.int .u64 0, .int .u64 0, .slice B 0 d] 51) = W := HW.out.symm
        rw [hWE]
        clear hWE
        refine (keeps_any W).mono ?_
        rintro e w9 ⟨rfl, hb⟩
        have HB9 := Lib.hid ((HBK.out.trans (HBW.out.mono HBK.out.size)).trans (hb.mono (Nat.le_trans HBK.out.size HBW.out.size)))
        clear hb
        go_wp2_with fail
        go_ret
        exact ⟨rfl, HB9.out⟩
      · rw [if_neg (by omega)] at h3
        rw [h3] at HW ⊢
        have h0' : ((q : Int) == 0) = false := by simp; omega
        obtain ⟨x, hx⟩ : ∃ x, x = 2 * q := ⟨_, rfl⟩
        rw [← hx] at hq2 HW ⊢
        have hxb : x ≤ 700 := by omega
        clear h1 h2 h3 hW HKN hx
        go_wp2_with fail
        rw [← HW.out]
        refine (keeps_any W).mono ?_
        rintro e w9 ⟨rfl, hb⟩
        have HB9 := Lib.hid ((HBK.out.trans (HBW.out.mono HBK.out.size)).trans (hb.mono (Nat.le_trans HBK.out.size HBW.out.size)))
        clear hb
        go_wp2_with fail
        go_ret
        exact ⟨rfl, HB9.out⟩

set_option maxRecDepth 100000 in
theorem lifted (os : Os) (started : os.Started) (H : Type) (enc : TypeId × Value → H) :
    ReturnsInHanded {} Tryz.checked os 5 .any (Rows.storeRoomSpec.pre6 enc Tryz.prog Tryz.f5 Rows.storeRoomRow.domain false) (Rows.storeRoomSpec.post enc Tryz.prog Tryz.f5 false true false false) := by
  refine returnsInHanded_of_change (C := Tryz.checked) own started (by kernel_rfl) Tryz.func5
    (ChangeSpec.witness6 (enc := enc) (C := Tryz.checked) false ⟨#[], #[.int .i64 0, .int .u16 0, .slice none 0 0], []⟩ 8 (by kernel_rfl) (by kernel_rfl) (by kernel_rfl) (by kernel_rfl)) ?_
  intro W base args ds gs before hval0 hW hcnd _
  have hval : ∀ (j : Nat) t v, Tryz.f5.params[j]? = some t → args[j]? = some v → Value.okWide Tryz.prog W .any base t v := hval0
  have hW' := hW
  obtain ⟨p, q, hA0, hV, rfl, hfz, hnd⟩ := hW
  have hA : DataW.TrodAll enc Tryz.prog W 0 (fun _ => true) true Tryz.f5.params.toList args.toList ds p := hA0
  rw [Tryz.params5] at hA hval
  obtain ⟨v0, v1, v2, d0, d1, d2, p0, p1, p2, rfl, rfl, rfl, h0, h1, h2⟩ := trodAll_three hA
  obtain ⟨rfl, rfl⟩ := trodVars_none hV
  obtain ⟨z, rfl, _, _, _⟩ := open_int (show Tryz.prog.underlying 3 = some (.int .i64) by kernel_rfl) (hval 0 _ v0 rfl rfl) h0
  obtain ⟨tm, rfl, htm⟩ := open_u16n (show Tryz.prog.underlying 56 = some (.int .u16) by kernel_rfl) (hval 1 _ v1 rfl rfl) h1
  obtain ⟨A, m, c, bs, rfl, _, _, hr⟩ := open_bytes ty_bytes ty_byte cells_byte (hval 2 _ v2 rfl rfl) h2
  refine (walk z tm A m c bs W htm hr).mono fun e W' ⟨he, hb⟩ => ?_
  subst he
  exact ⟨_, rfl, post_true laidOut (by kernel_rfl) ty_bool (by kernel_rfl) rfl hW' hb rfl⟩

theorem over : Rows.storeRoomRow.holds Tryz.pinned (OpenSpec.ofChange Rows.storeRoomSpec) :=
  OpenClaim.holds_of_wide 5 Tryz.f5 rfl rfl rfl rfl rfl rfl rfl ⟨rfl, rfl, rfl, rfl, rfl⟩ rfl rfl rfl rfl rfl (by kernel_rfl) Tryz.func5 (by kernel_rfl)
    (of_decide_eq_true (by kernel_rfl)) (by unfold Func.isWrapper; first | (rw [if_pos (by decide +kernel)]; kernel_rfl) | (rw [if_neg (by decide +kernel)]; exact ⟨rfl, rfl⟩))
    (fun os started H enc _ => lifted os started H enc)

theorem proved : Rows.StoreRoomSaid :=
  over
end Go.Proofs.YtmhfhhhhbcignaaGreat.storeRoom
