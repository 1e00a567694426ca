/- The document's own reader once more, where it is known of which bytes it reads: the slice stands in its block, nothing but its place and its mark turns. -/
import Derived.Test.YtobdkgmlkchggaaRef
import Derived.Test.YtobdkgmlkchggaaDiskBase
namespace Go.Proofs.Ytobdkgmlkchggaa
open Go.RowKit

/-- Block q is the reference's reader of these bytes in state s. -/
def RefQ (A : Option Addr) (n c : Nat) (bs : List UInt8) (w : World) (q : Nat) (s : List UInt8 × Bool) : Prop :=
  ∃ pos, Bk w q 55 #[.slice A n c, .int .i64 (pos : Nat), .bool s.2] ∧ n ≤ c ∧ n ≤ 100000 ∧ pos ≤ n ∧ Rd w A n bs ∧ s.1 = bs.drop pos
theorem RefQ.ref {A : Option Addr} {n c : Nat} {bs : List UInt8} {w : World} {q : Nat} {s : List UInt8 × Bool} (h : RefQ A n c bs w q s) : Ref w q s := by
  obtain ⟨pos, h1, h2, h3, h4, h5, h6⟩ := h
  exact ⟨A, n, c, pos, bs, h1, h2, h3, h4, h5, h6⟩
theorem RefQ.lt {A : Option Addr} {n c : Nat} {bs : List UInt8} {w : World} {q : Nat} {s : List UInt8 × Bool} (h : RefQ A n c bs w q s) : q < w.heap.size := by
  obtain ⟨pos, h1, _⟩ := h
  exact h1.lt
theorem rd_out {w W : World} {Z : Nat → Prop} {A : Option Addr} {n : Nat} {vs : List UInt8} (h : Rd w A n vs) (ho : Disk.Out Z w W) (hz : ∀ a, A = some a → ¬ Z a.block) : Rd W A n vs :=
  ⟨h.len, fun h0 => by
    obtain ⟨ad, e, hc⟩ := h.cells h0
    exact ⟨ad, e, fun j v hv => (ho.cell (World.block_lt_of_cell? w _ (hc j v hv)) (by rw [addr_add_block]; exact hz ad e)).trans (hc j v hv)⟩⟩
/-- It is kept where neither its block is written nor its bytes'. -/
theorem RefQ.out {A : Option Addr} {n c : Nat} {bs : List UInt8} {w w' : World} {q : Nat} {s : List UInt8 × Bool} {Z : Nat → Prop} (h : RefQ A n c bs w q s) (ho : Disk.Out Z w w') (hq : ¬ Z q) (hz : ∀ a, A = some a → ¬ Z a.block) : RefQ A n c bs w' q s := by
  obtain ⟨pos, h1, h2, h3, h4, h5, h6⟩ := h
  exact ⟨pos, h1.kept (ho.block q h1.lt hq), h2, h3, h4, rd_out h5 ho hz, h6⟩
theorem RefQ.same {A : Option Addr} {n c : Nat} {bs : List UInt8} {w w' : World} {q : Nat} {s : List UInt8 × Bool} {Z : Nat → Prop} (h : RefQ A n c bs w q s) (ho : Disk.Out Z w w') (hq : w'.heap[q]? = w.heap[q]?) (hz : ∀ a, A = some a → ¬ Z a.block) : RefQ A n c bs w' q s := by
  obtain ⟨pos, h1, h2, h3, h4, h5, h6⟩ := h
  exact ⟨pos, h1.kept hq, h2, h3, h4, rd_out h5 ho hz, h6⟩
/-- What Take leaves; where what it hands over lies. -/
def TakenQ (A : Option Addr) (n c : Nat) (bs : List UInt8) (w : World) (q : Nat) (t : List UInt8) (s : List UInt8 × Bool) (e : Ending) (w' : World) : Prop :=
  ∃ A' n' c', e = .returned (.slice A' n' c') ∧ Rd w' A' n' t ∧ RefQ A n c bs w' q s ∧ w.grownBy w' (some q) ∧ ∀ a, A' = some a → ∃ a0, A = some a0 ∧ a.block = a0.block
theorem Take_anyQ {A : Option Addr} {n c : Nat} {bs : List UInt8} (q k : Nat) (kk : Int) (s : List UInt8 × Bool) (w : World) (h : RefQ A n c bs w q s) (hkk : kk = k) :
    Calls Try.prog 31 #[.pointer (some ⟨q, 0, none⟩), .int .u64 kk] w (TakenQ A n c bs w q (takeS k s).1 (takeS k s).2) := by
  obtain ⟨rs, bad⟩ := s
  obtain ⟨pos, hb, hnc, hn, hp, hr, e0⟩ := h
  simp only at hb e0
  subst e0
  have hl : (bs.drop pos).length = n - pos := by rw [List.length_drop, hr.len]
  have no : ∀ (b : Bool) (e : Ending) (w' : World), Bk w q 55 #[.slice A n c, .int .i64 (pos : Nat), .bool b] → TakeNo w q e w' → TakenQ A n c bs w q [] (bs.drop pos, true) e w' := by
    rintro b e w' hb ⟨m, rfl, rfl⟩
    have hb2 : Bk (w.drewN m) q 55 #[.slice A n c, .int .i64 (pos : Nat), .bool b] := hb
    exact ⟨none, 0, 0, rfl, Rd.nil_ _ _, ⟨pos, by simpa using hb2.set 2 (.bool true), hnc, hn, hp, Rd.setCell hb2 (ref_nobyte _ _ _ _ _) (rd_drewN' hr m) 2 _, rfl⟩, grown_drewN_l (grown_set (w.drewN m) _ _ _), fun a ha => by cases ha⟩
  cases bad with
  | true =>
    have hs : takeS k (bs.drop pos, true) = ([], (bs.drop pos, true)) := by simp [takeS]
    rw [hs]
    exact (Take_bad q A n c pos kk w hb).mono fun e w' h => no _ e w' hb h
  | false =>
    by_cases hk : n - pos < k
    · have hs : takeS k (bs.drop pos, false) = ([], (bs.drop pos, true)) := by unfold takeS; rw [if_pos (.inr (by rw [hl]; exact hk))]
      rw [hs]
      exact (Take_short q A n c pos k kk w hb hn hp hkk hk).mono fun e w' h => no _ e w' hb h
    · have hs : takeS k (bs.drop pos, false) = ((bs.drop pos).take k, ((bs.drop pos).drop k, false)) := by unfold takeS; rw [if_neg (by simp only [hl]; simp; omega)]
      rw [hs]
      refine (Take_ok q A n c pos k kk w hb hn hnc hp hkk (by omega)).mono ?_
      rintro e w' ⟨m, m2, x, rfl, rfl, rfl⟩
      have hb2 : Bk (w.drewN m) q 55 #[.slice A n c, .int .i64 (pos : Nat), .bool false] := hb
      have hr2 := Rd.setCell hb2 (ref_nobyte _ _ _ _ _) (rd_drewN' hr m) 1 (.int .i64 ((pos + k : Nat) : Int))
      refine ⟨_, _, _, rfl, ?_, ⟨pos + k, ?_, hnc, hn, by omega, rd_drewN' hr2 m2, by rw [List.drop_drop]⟩, grown_drewN (grown_drewN_l (grown_set (w.drewN m) _ _ _)) m2, fun a ha => ?_⟩
      · exact rd_drewN' ((hr2.drop (k := pos) hp hnc).take (by omega)) m2
      · have := hb2.set 1 (.int .i64 ((pos + k : Nat) : Int))
        have h3 : Bk ((w.drewN m).setCell ⟨q, 1, none⟩ (.int .i64 ((pos + k : Nat) : Int))) q 55 #[.slice A n c, .int .i64 ((pos + k : Nat) : Int), .bool false] := by simpa using this
        exact h3
      · split at ha
        · exact ⟨a, ha, rfl⟩
        · cases A with
          | none => cases ha
          | some b =>
            injection ha with ha
            exact ⟨b, rfl, by rw [← ha, addr_add_block]⟩
/-- What a reading call of a number leaves, at the reference. -/
def RefVQ (A : Option Addr) (n c : Nat) (bs : List UInt8) (w : World) (q : Nat) (v : Value) (s : List UInt8 × Bool) (e : Ending) (w' : World) : Prop := e = .returned v ∧ RefQ A n c bs w' q s ∧ w.grownBy w' (some q)
set_option maxHeartbeats 400000 in
theorem sUint_anyQ {A : Option Addr} {n c : Nat} {bs : List UInt8} (q : Nat) (s : List UInt8 × Bool) (w : World) (h : RefQ A n c bs w q s) :
    Calls Try.prog 32 #[.pointer (some ⟨q, 0, none⟩)] w (RefVQ A n c bs w q (.int .u64 (val (takeS 8 s).1 : Int)) (takeS 8 s).2) := by
  have H := Lib.hid h
  clear h
  go_enter Try.func32, Try.ntmps32
  go_wp2_with fail
  refine (Take_anyQ q 8 8 s w H.out rfl).mono ?_
  rintro e w1 ⟨A1, n1, c1, rfl, hr, hR, hg, -⟩
  have HD := Lib.hid hr
  have HR := Lib.hid hR
  have HG := Lib.hid hg
  clear hr hR hg
  go_wp2_with fail
  refine (Value_any A1 n1 c1 _ w1 HD.out (by have := HD.out.len; have := takeS_len 8 s; omega)).mono ?_
  rintro e w1 ⟨rfl, rfl⟩
  go_wp2_with fail
  go_ret
  exact ⟨rfl, HR.out, HG.out⟩
theorem refQ_cells {A : Option Addr} {n c : Nat} {bs : List UInt8} {w : World} {q : Nat} {s : List UInt8 × Bool} (h : RefQ A n c bs w q s) : w.cell? ⟨q, 2, none⟩ = some (.bool s.2) ∧ w.frozen? ⟨q, 2, none⟩ = false := by
  obtain ⟨pos, hb, _⟩ := h
  exact ⟨by simpa using hb.cell 2, hb.frozen 2⟩
theorem refQ_bad {A : Option Addr} {n c : Nat} {bs : List UInt8} {w : World} {q : Nat} {s : List UInt8 × Bool} (h : RefQ A n c bs w q s) : RefQ A n c bs (w.setCell ⟨q, 2, none⟩ (.bool true)) q (s.1, true) := by
  obtain ⟨pos, hb, hnc, hn, hp, hr, e0⟩ := h
  exact ⟨pos, by simpa using hb.set 2 (.bool true), hnc, hn, hp, Rd.setCell hb (ref_nobyte _ _ _ _ _) hr 2 _, e0⟩
set_option maxHeartbeats 1000000 in
theorem sText_anyQ {A : Option Addr} {n c : Nat} {bs : List UInt8} (q : Nat) (s : List UInt8 × Bool) (w : World) (h : RefQ A n c bs w q s) :
    Calls Try.prog 34 #[.pointer (some ⟨q, 0, none⟩)] w (TakenQ A n c bs w q (textS s).1 (textS s).2) := by
  have H := Lib.hid h
  clear h
  go_enter Try.func34, Try.ntmps34
  go_wp2_with fail
  refine (Take_anyQ q 4 4 s w H.out rfl).mono ?_
  rintro e w1 ⟨A1, n1, c1, rfl, hr, hR, hg, -⟩
  have HD := Lib.hid hr
  have HR := Lib.hid hR
  have HG := Lib.hid hg
  clear hr hR hg
  go_wp2_with fail
  refine (Value_any A1 n1 c1 _ w1 HD.out (by have := HD.out.len; have := takeS_len 4 s; omega)).mono ?_
  rintro e w1 ⟨rfl, rfl⟩
  obtain ⟨c2, -⟩ := refQ_cells HR.out
  by_cases hbad : (takeS 4 s).2.2 = true
  · have HT := Lib.hid (textS_of_bad s hbad)
    rw [hbad] at c2
    clear hbad
    go_wp2_with fail
    go_ret
    rw [HT.out]
    exact ⟨none, 0, 0, rfl, Rd.nil_ _ _, HR.out, HG.out, fun a ha => by cases ha⟩
  · have hbad' : (takeS 4 s).2.2 = false := by simpa using hbad
    rw [hbad'] at c2
    clear hbad hbad'
    go_wp2_with fail
    refine (Take_anyQ q _ _ (takeS 4 s).2 w1 HR.out rfl).mono ?_
    rintro e w2 ⟨A3, n3, c3, rfl, hr, hR, hg, hl⟩
    have HD3 := Lib.hid hr
    have HR3 := Lib.hid hR
    have HG3 := Lib.hid (grown_trans HG.out hg)
    have HL3 := Lib.hid hl
    clear hr hR hg hl c2
    go_wp2_with fail
    go_ret
    exact ⟨A3, n3, c3, rfl, HD3.out, HR3.out, HG3.out, HL3.out⟩
end Go.Proofs.Ytobdkgmlkchggaa
