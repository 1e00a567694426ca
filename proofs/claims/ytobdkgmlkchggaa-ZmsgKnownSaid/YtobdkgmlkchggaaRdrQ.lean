/- Wire's reader once more, with what is known of the blocks where its bytes lie. -/
import Derived.Test.YtobdkgmlkchggaaLines
import Derived.Test.YtobdkgmlkchggaaRead3
namespace Go.Proofs.Ytobdkgmlkchggaa.Sto
open Go.RowKit

/-- Block r is a reader in state s, its bytes in blocks of Q. -/
def RdrQ (Q : Nat → Prop) (w : World) (r : Nat) (s : List UInt8 × Bool) : Prop :=
  ∃ A n c, Bk w r 69 #[.slice A n c, .bool s.2] ∧ n ≤ c ∧ c ≤ 1000000000000 ∧ Rd w A n s.1 ∧ ∀ a, A = some a → Q a.block
theorem RdrQ.rdr {Q : Nat → Prop} {w : World} {r : Nat} {s : List UInt8 × Bool} (h : RdrQ Q w r s) : Rdr w r s := by
  obtain ⟨A, n, c, h1, h2, h3, h4, _⟩ := h
  exact ⟨A, n, c, h1, h2, h3, h4⟩
theorem q_drop {Q : Nat → Prop} {A : Option Addr} {k c : Nat} (hq : ∀ a, A = some a → Q a.block) : ∀ a, (if c = k then A else A.map (·.add k)) = some a → Q a.block := by
  intro a ha
  split at ha
  · exact hq a ha
  · cases A with
    | none => cases ha
    | some b =>
      injection ha with ha
      rw [← ha, addr_add_block]
      exact hq b rfl
theorem RdrQ.lt {Q : Nat → Prop} {w : World} {r : Nat} {s : List UInt8 × Bool} (h : RdrQ Q w r s) : r < w.heap.size := by
  obtain ⟨A, n, c, hb, _⟩ := h
  exact hb.lt
theorem RdrQ.out {Q X : Nat → Prop} {w w' : World} {r : Nat} {s : List UInt8 × Bool} (h : RdrQ Q w r s) (ho : Disk.Out X w w') (hr : ¬ X r) (hx : ∀ k, Q k → ¬ X k) : RdrQ Q w' r s := by
  obtain ⟨A, n, c, h1, h2, h3, h4, h5⟩ := h
  exact ⟨A, n, c, h1.kept (ho.block r h1.lt hr), h2, h3, Log.rdb_out h4 ho fun a ha => hx _ (h5 a ha), h5⟩
theorem RdrQ.below {Q : Nat → Prop} {w w' : World} {r : Nat} {s : List UInt8 × Bool} (h : RdrQ Q w r s) (hb : Below w.heap.size w w') : RdrQ Q w' r s :=
  h.out (X := fun _ => False) (Disk.Out.of_below hb) (fun q => q) fun _ _ q => q
theorem rdr_set0Q {Q : Nat → Prop} {w : World} {r : Nat} {A A' : Option Addr} {n c n' c' : Nat} {b : Bool} {bs' : List UInt8} (hb : Bk w r 69 #[.slice A n c, .bool b]) (hnc : n' ≤ c') (hc : c' ≤ 1000000000000) (h : Rd w A' n' bs') (hq : ∀ a, A' = some a → Q a.block) :
    RdrQ Q (w.setCell ⟨r, 0, none⟩ (.slice A' n' c')) r (bs', b) :=
  ⟨A', n', c', by simpa using hb.set 0 (.slice A' n' c'), hnc, hc, Rd.setCell hb (rdr_nobyte _ _ _ _) h 0 _, hq⟩
theorem rdr_set1Q {Q : Nat → Prop} {w : World} {r : Nat} {A : Option Addr} {n c : Nat} {b b' : Bool} {bs : List UInt8} (hb : Bk w r 69 #[.slice A n c, .bool b]) (hnc : n ≤ c) (hc : c ≤ 1000000000000) (h : Rd w A n bs) (hq : ∀ a, A = some a → Q a.block) :
    RdrQ Q (w.setCell ⟨r, 1, none⟩ (.bool b')) r (bs, b') :=
  ⟨A, n, c, by simpa using hb.set 1 (.bool b'), hnc, hc, Rd.setCell hb (rdr_nobyte _ _ _ _) h 1 _, hq⟩
/-- What a reading call leaves: block r is a reader in state s, nothing else has turned. -/
def RedQ (Q : Nat → Prop) (w : World) (r : Nat) (v : Value) (s : List UInt8 × Bool) (e : Ending) (w' : World) : Prop := e = .returned v ∧ RdrQ Q w' r s ∧ w.grownBy w' (some r)
theorem readU_anyQ {Q : Nat → Prop} (r k : Nat) (kk : Int) (s : List UInt8 × Bool) (w : World) (h : RdrQ Q w r s) (hkk : kk = k) (hk8 : k ≤ 8) :
    Calls Try.prog 45 #[.pointer (some ⟨r, 0, none⟩), .int .u64 kk, .func (.func 46) #[] #[]] w (RedQ Q w r (.int .u64 (val (takeS k s).1 : Int)) (takeS k s).2) := by
  obtain ⟨bs, bad⟩ := s
  obtain ⟨A, n, c, hb, hnc, hc, hr, hq⟩ := h
  have hl := hr.len
  simp only at hb hr hl
  cases bad with
  | true =>
    refine (readU_bad r A n c kk _ w hb).mono ?_
    rintro e w' ⟨rfl, rfl⟩
    simp only [takeS, true_or, if_true]
    exact ⟨rfl, ⟨A, n, c, hb, hnc, hc, hr, hq⟩, grown_refl _ _⟩
  | false =>
    by_cases hk : n < k
    · refine (readU_short r A n c k kk _ w hb (by omega) hkk hk).mono ?_
      rintro e w' ⟨rfl, rfl⟩
      simp only [takeS, hl, hk, or_true, if_true]
      exact ⟨rfl, rdr_set1Q hb hnc hc hr hq, grown_set _ _ _ _⟩
    · refine (readU_ok r A n c k kk bs w hb hnc hc hr hkk (by omega) hk8).mono ?_
      rintro e w' ⟨rfl, rfl⟩
      have hs : takeS k (bs, false) = (bs.take k, (bs.drop k, false)) := by simp [takeS, hl, hk]
      rw [hs]
      exact ⟨rfl, rdr_set0Q hb (by omega) (by omega) (hr.drop (by omega) hnc) (q_drop hq), grown_set _ _ _ _⟩
set_option maxHeartbeats 400000 in
theorem number_anyQ {Q : Nat → Prop} (r k : Nat) (kk : Int) (s : List UInt8 × Bool) (w : World) (h : RdrQ Q w r s) (hkk : kk = k) (hk8 : k ≤ 8) :
    Calls Try.prog 41 #[.pointer (some ⟨r, 0, none⟩), .int .u64 kk] w (RedQ Q w r (.int .u64 (val (takeS k s).1 : Int)) (takeS k s).2) := by
  have H := Lib.hid h
  have HE := Lib.hid hkk
  clear h hkk
  go_enter Try.func41, Try.ntmps41
  go_wp2_with fail
  refine (readU_anyQ r k kk s w H.out HE.out hk8).mono ?_
  rintro e w' ⟨rfl, h1, h2⟩
  have H1 := Lib.hid h1
  have H2 := Lib.hid h2
  clear h1 h2
  go_wp2_with fail
  go_ret
  exact ⟨rfl, H1.out, H2.out⟩
set_option maxHeartbeats 400000 in
theorem rByte_anyQ {Q : Nat → Prop} (r : Nat) (s : List UInt8 × Bool) (w : World) (h : RdrQ Q w r s) :
    Calls Try.prog 25 #[.pointer (some ⟨r, 0, none⟩)] w (RedQ Q w r (.int .u8 (val (takeS 1 s).1 : Int)) (takeS 1 s).2) := by
  have H := Lib.hid h
  clear h
  have hv : val (takeS 1 s).1 < 256 := Nat.lt_of_lt_of_le (val_lt _) (Nat.le_trans (Nat.pow_le_pow_right (by omega) (takeS_len 1 s)) (by decide))
  go_enter Try.func25, Try.ntmps25
  go_wp2_with fail
  refine (number_anyQ r 1 1 s w H.out rfl (by omega)).mono ?_
  rintro e w' ⟨rfl, h1, h2⟩
  have H1 := Lib.hid h1
  have H2 := Lib.hid h2
  clear h1 h2
  go_wp2_with fail
  go_ret
  exact ⟨rfl, H1.out, H2.out⟩
set_option maxHeartbeats 400000 in
theorem rUint_anyQ {Q : Nat → Prop} (r : Nat) (s : List UInt8 × Bool) (w : World) (h : RdrQ Q w r s) :
    Calls Try.prog 26 #[.pointer (some ⟨r, 0, none⟩)] w (RedQ Q w r (.int .u64 (val (takeS 8 s).1 : Int)) (takeS 8 s).2) := by
  have H := Lib.hid h
  clear h
  go_enter Try.func26, Try.ntmps26
  go_wp2_with fail
  refine (number_anyQ r 8 8 s w H.out rfl (by omega)).mono ?_
  rintro e w' ⟨rfl, h1, h2⟩
  have H1 := Lib.hid h1
  have H2 := Lib.hid h2
  clear h1 h2
  go_wp2_with fail
  go_ret
  exact ⟨rfl, H1.out, H2.out⟩
set_option maxHeartbeats 400000 in
theorem rBad_anyQ {Q : Nat → Prop} (r : Nat) (s : List UInt8 × Bool) (w : World) (h : RdrQ Q w r s) :
    Calls Try.prog 42 #[.pointer (some ⟨r, 0, none⟩)] w (RedQ Q w r (.tuple #[]) (s.1, true)) := by
  obtain ⟨A, n, c, hb, hnc, hc, hr, hq⟩ := h
  have HB := Lib.hid hb
  have HR := Lib.hid hr
  have c1 := hb.cell 1
  have f0 := hb.frozen 1
  clear hb hr
  simp at c1
  go_enter Try.func42, Try.ntmps42
  go_wp2_with fail
  go_end0
  exact ⟨rfl, rdr_set1Q HB.out hnc hc HR.out hq, grown_set _ _ _ _⟩
/-- What a reading call of bytes leaves. -/
def RedBQ (Q : Nat → Prop) (w : World) (r : Nat) (bs : List UInt8) (s : List UInt8 × Bool) (e : Ending) (w' : World) : Prop :=
  ∃ A n c, e = .returned (.slice A n c) ∧ w'.ownsRow w.heap.size 5 1 (.slice A n c) n (bs.map U) ∧ RdrQ Q w' r s ∧ w.grownBy w' (some r)
theorem readB_anyQ {Q : Nat → Prop} (r k : Nat) (kk : Int) (s : List UInt8 × Bool) (w : World) (h : RdrQ Q w r s) (hkk : kk = k) :
    Calls Try.prog 43 #[.pointer (some ⟨r, 0, none⟩), .int .u64 kk, .func (.func 44) #[] #[]] w (RedBQ Q w r (takeS k s).1 (takeS k s).2) := by
  obtain ⟨bs, bad⟩ := s
  obtain ⟨A, n, c, hb, hnc, hc, hr, hq⟩ := h
  have hl := hr.len
  simp only at hb hr hl
  cases bad with
  | true =>
    refine (readB_bad r A n c kk _ w hb).mono ?_
    rintro e w' ⟨rfl, rfl⟩
    simp only [takeS, true_or, if_true]
    exact ⟨none, 0, 0, rfl, World.ownsRow_nil _ _ _ _, ⟨A, n, c, hb, hnc, hc, hr, hq⟩, grown_refl _ _⟩
  | false =>
    by_cases hk : n < k
    · refine (readB_short r A n c k kk _ w hb (by omega) hkk hk).mono ?_
      rintro e w' ⟨rfl, rfl⟩
      simp only [takeS, hl, hk, or_true, if_true]
      exact ⟨none, 0, 0, rfl, World.ownsRow_nil _ _ _ _, rdr_set1Q hb hnc hc hr hq, grown_set _ _ _ _⟩
    · refine (readB_ok r A n c k kk bs w hb hnc hc hr hkk (by omega)).mono ?_
      rintro e w' ⟨w1, rfl, hown, hbel, rfl⟩
      have hs : takeS k (bs, false) = (bs.take k, (bs.drop k, false)) := by simp [takeS, hl, hk]
      rw [hs]
      exact ⟨_, k, k, rfl, ownsRow_setCell_below hown hb.lt _, rdr_set0Q (hb.below hbel) (by omega) (by omega) ((hr.below hbel).drop (by omega) hnc) (q_drop hq), grown_trans (grown_of_below hbel _) (grown_set _ _ _ _)⟩
set_option maxHeartbeats 400000 in
theorem rText_anyQ {Q : Nat → Prop} (r : Nat) (s : List UInt8 × Bool) (w : World) (h : RdrQ Q w r s) :
    Calls Try.prog 28 #[.pointer (some ⟨r, 0, none⟩)] w (RedBQ Q w r (textS s).1 (textS s).2) := by
  have H := Lib.hid h
  clear h
  go_enter Try.func28, Try.ntmps28
  go_wp2_with fail
  refine (number_anyQ r 4 4 s w H.out rfl (by omega)).mono ?_
  rintro e w1 ⟨rfl, h1, h2⟩
  have H1 := Lib.hid h1
  have H2 := Lib.hid h2
  clear h1 h2
  go_wp2_with fail
  refine (readB_anyQ r _ _ (takeS 4 s).2 w1 H1.out rfl).mono ?_
  rintro e w2 ⟨A, n, c, rfl, hown, h3, h4⟩
  have HO := Lib.hid hown
  have H3 := Lib.hid h3
  have H4 := Lib.hid h4
  clear hown h3 h4
  go_wp2_with fail
  go_ret
  exact ⟨A, n, c, rfl, own_base HO.out H2.out.size, H3.out, grown_trans H2.out H4.out⟩
set_option maxHeartbeats 400000 in
theorem rCount_anyQ {Q : Nat → Prop} (r : Nat) (most : Int) (s : List UInt8 × Bool) (w : World) (h : RdrQ Q w r s) (hm : most ≤ 9223372036854775807) (hm2 : -9223372036854775808 ≤ most) :
    Calls Try.prog 27 #[.pointer (some ⟨r, 0, none⟩), .int .i64 most] w (RedQ Q w r (.int .i64 (countS most s).1) (countS most s).2) := by
  have H := Lib.hid h
  have hv := takeS_val8 8 s (by omega)
  clear h
  by_cases h0 : most < 0
  · have hs : countS most s = (0, ((takeS 8 s).2.1, true)) := by unfold countS; rw [if_pos (.inl h0)]
    rw [hs]
    clear hs
    go_enter Try.func27, Try.ntmps27
    go_wp2_with fail
    refine (number_anyQ r 8 8 s w H.out rfl (by omega)).mono ?_
    rintro e w1 ⟨rfl, h1, h2⟩
    have H1 := Lib.hid h1
    have H2 := Lib.hid h2
    clear h1 h2
    go_wp2_with fail
    refine (rBad_anyQ r _ w1 H1.out).mono ?_
    rintro e w2 ⟨rfl, h1, h2⟩
    have H3 := Lib.hid h1
    have H4 := Lib.hid h2
    clear h1 h2
    go_wp2_with fail
    go_ret
    exact ⟨rfl, H3.out, grown_trans H2.out H4.out⟩
  · by_cases h1 : most < (val (takeS 8 s).1 : Int)
    · have hs : countS most s = (0, ((takeS 8 s).2.1, true)) := by unfold countS; rw [if_pos (.inr h1)]
      rw [hs]
      clear hs
      go_enter Try.func27, Try.ntmps27
      go_wp2_with fail
      refine (number_anyQ r 8 8 s w H.out rfl (by omega)).mono ?_
      rintro e w1 ⟨rfl, h1', h2⟩
      have H1 := Lib.hid h1'
      have H2 := Lib.hid h2
      clear h1' h2
      go_wp2_with fail
      refine (rBad_anyQ r _ w1 H1.out).mono ?_
      rintro e w2 ⟨rfl, h1', h2⟩
      have H3 := Lib.hid h1'
      have H4 := Lib.hid h2
      clear h1' h2
      go_wp2_with fail
      go_ret
      exact ⟨rfl, H3.out, grown_trans H2.out H4.out⟩
    · have hs : countS most s = (val (takeS 8 s).1, (takeS 8 s).2) := by unfold countS; rw [if_neg (by omega)]
      rw [hs]
      clear hs
      go_enter Try.func27, Try.ntmps27
      go_wp2_with fail
      refine (number_anyQ r 8 8 s w H.out rfl (by omega)).mono ?_
      rintro e w1 ⟨rfl, h1', h2⟩
      have H1 := Lib.hid h1'
      have H2 := Lib.hid h2
      clear h1' h2
      go_wp2_with fail
      go_ret
      exact ⟨rfl, H1.out, H2.out⟩
set_option maxHeartbeats 400000 in
theorem rNew_anyQ (A : Option Addr) (n c : Nat) (bs : List UInt8) (w : World) (h : Rd w A n bs) (hn : n ≤ 1000000000000) :
    Calls Try.prog 24 #[.slice A n c] w (fun e w' => ∃ r, e = .returned (.pointer (some ⟨r, 0, none⟩)) ∧ w.heap.size ≤ r ∧ RdrQ (fun b => w.heap.size ≤ b ∧ b < r) w' r (bs, false) ∧ Below w.heap.size w w') := by
  have H := Lib.hid h
  clear h
  go_enter Try.func24, Try.ntmps24
  go_wp2_with fail
  refine (withRoom_own A n c 0 bs w H.out (by omega) (by omega)).mono ?_
  rintro e w1 ⟨rfl, hown1, hb1⟩
  have HO1 := Lib.hid hown1
  have HB1 := Lib.hid hb1
  clear hown1 hb1
  go_wp2_with fail
  go_ret
  have hr1 := Rd.of_own HO1.out
  have hlt := (HO1.out.lt w.heap.size rfl).2
  exact ⟨w1.heap.size, rfl, HB1.out.size, ⟨_, n, n, Bk.new w1 _ _, Nat.le_refl _, hn, hr1.1.below ((Below.refl _ _).alloc (Nat.le_refl _) _), fun a ha => by injection ha with ha; subst ha; exact ⟨Nat.le_refl _, hlt⟩⟩, HB1.out.alloc HB1.out.size _⟩
end Go.Proofs.Ytobdkgmlkchggaa.Sto
