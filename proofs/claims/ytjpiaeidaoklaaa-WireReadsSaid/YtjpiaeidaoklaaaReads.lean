/- WireReads: any asks of a reader, each answer; what is handed in stays apart. For every input the call returns true, and each argument reads afterwards as it read before. No conditions. -/
import Derived.Test.YtjpiaeidaoklaaaAsked
namespace Go.Proofs.Ytjpiaeidaoklaaa.wireReads
open Go.ChangeShapes Go.WideShapes Go.ChangeAt Go.RowKit

/-- A reader that New made hangs on new blocks alone. -/
def NewFar (w : World) (bs : List UInt8) (e : Ending) (w' : World) : Prop :=
  ∃ r, e = .returned (.pointer (some ⟨r, 0, none⟩)) ∧ w.heap.size ≤ r ∧ (∀ W : World, (∀ k, w.heap.size ≤ k → W.heap[k]? = w'.heap[k]?) → Rdr W r (bs, false)) ∧ Below w.heap.size w w'

set_option maxHeartbeats 400000 in
theorem rNew_far (A : Option Addr) (n c : Nat) (bs : List UInt8) (w : World) (h : Rd w A n bs) (hn : n ≤ 1000000000000) :
    Calls Try.prog 17 #[.slice A n c] w (NewFar w bs) := by
  have H := Lib.hid h
  clear h
  go_enter Try.func17, Try.ntmps17
  go_wp2_with fail
  refine (withRoom_own A n c 0 bs w H.out (by omega) (by omega)).mono ?_
  rintro e w1 ⟨rfl, hown1, hb1⟩
  have HO1 := Lib.hid hown1
  have HB1 := Lib.hid hb1
  clear hown1 hb1
  go_wp2_with fail
  go_ret
  refine ⟨w1.heap.size, rfl, HB1.out.size, fun W hW => ?_, HB1.out.alloc HB1.out.size _⟩
  have hr1 := (Rd.of_own HO1.out).1
  have hk : ∀ (p : Addr) (b : UInt8), p.block = w.heap.size → w1.cell? p = some (U b) → W.cell? p = some (U b) := by
    intro p b hp hc
    have hlt := World.block_lt_of_cell? w1 p hc
    have h1 := hW p.block (by omega)
    rw [Below.heap_alloc w1 _ p.block hlt] at h1
    exact (World.cell?_of_block h1).trans hc
  refine ⟨some ⟨w.heap.size, 0, none⟩, n, n, ?_, Nat.le_refl _, hn, ⟨hr1.len, fun h0 => ?_⟩⟩
  · exact (hW w1.heap.size HB1.out.size).trans (heap_alloc_new w1 _)
  · obtain ⟨ad, e, hc⟩ := hr1.cells h0
    injection e with e
    subst e
    exact ⟨_, rfl, fun j b hb => hk _ b (addr_add_block _ _) (hc j b hb)⟩

theorem U_succ (b : UInt8) : Value.int .u8 (((b.toNat : Int) + 1) % 256) = U (b + 1) := by
  unfold U
  congr 1

theorem own_form {w : World} {base : Nat} {e : TypeId} {v : Value} {n : Nat} {xs : List Value} (h : w.ownsRow base e 1 v n xs) (hn : 0 < n) : ∃ g cap, v = .slice (some ⟨g, 0, none⟩) n cap ∧ base ≤ g ∧ g < w.heap.size := by
  rcases h.2 with ⟨_, h0⟩ | ⟨g, cap, cur, h0, hb, hg, _⟩
  · omega
  · exact ⟨g, cap, h0, hb, (Array.getElem?_eq_some_iff.1 hg).1⟩

/-- The first loop's relation: 'in' stays a row of the call's own; what is newer stays. -/
def Rel1 (w w2 w3 : World) (A : Option Addr) (n c : Nat) (i : Value) (wr : World) : Prop :=
  ∃ (k : Nat) (bs : List UInt8), k ≤ n ∧ i = .int .i64 (k : Int) ∧ bs.length = n ∧ wr.ownsRow w.heap.size 5 1 (.slice A n c) n (bs.map U) ∧ (∀ j, w2.heap.size ≤ j → wr.heap[j]? = w3.heap[j]?) ∧ wr.heap.size = w3.heap.size ∧ Below w.heap.size w wr

theorem own_lit0 (w : World) (e : TypeId) : (w.alloc (.cells #[] e)).ownsRow w.heap.size e 1 (.slice (some ⟨w.heap.size, 0, none⟩) 0 0) 0 ([].map U) := World.ownsRow_lit w #[] 0 (Nat.le_refl _) (Nat.zero_le _) rfl

set_option maxHeartbeats 4000000 in
theorem walk (A A2 : Option Addr) (n c n2 c2 : Nat) (bs : List UInt8) (l : List (Nat × Int)) (w : World) (h : Rd w A n bs) (h2 : AskRd w A2 n2 l) (hnc : n ≤ c) :
    Calls Try.prog 4 #[.slice A n c, .slice A2 n2 c2] w fun e w' => e = .returned (.bool true) ∧ Below w.heap.size w w' := by
  have H := Lib.hid h
  have H2 := Lib.hid h2
  clear h h2
  obtain ⟨i0, hi, hz0, hz1, hz2⟩ := info_parts info_byte
  have HI := Lib.hid hi
  have HZ0 := Lib.hid hz0
  have HZ1 := Lib.hid hz1
  have HZ2 := Lib.hid hz2
  clear hi hz0 hz1 hz2
  by_cases hn : 400 < n
  · go_enter Try.func4, Try.ntmps4
    go_wp2_with fail
    go_ret
    exact ⟨rfl, Below.refl _ _⟩
  · by_cases hn2 : 60 < n2
    · go_enter Try.func4, Try.ntmps4
      go_wp2_with fail
      go_ret
      exact ⟨rfl, Below.refl _ _⟩
    · have HBa := Lib.hid ((Below.refl w.heap.size w).alloc (Nat.le_refl _) (.cells #[] 5))
      go_enter Try.func4, Try.ntmps4
      go_wp2_with (at_builtin; refine wpList_append_Rd rfl (.tmp 18) (.tmp 19) _ rfl ty_bytes HI.out HZ0.out HZ1.out HZ2.out rfl rfl (own_lit0 w 5) rfl (H.out.below HBa.out) (by omega) (by simp) ?_)
      intro v1 w2 hown1 hg1
      have hown2 : w2.ownsRow w.heap.size 5 1 v1 n (bs.map U) := by simpa using hown1
      have HB2 := Lib.hid (HBa.out.grown hg1 (by simp) (fun g hg => ((own_lit0 w 5).lt g hg).1))
      obtain ⟨A1, c1, rfl⟩ : ∃ A1 c1, v1 = .slice A1 n c1 := by
        rcases hown2.2 with ⟨h0, h1⟩ | ⟨g, cap, cur, h0, _⟩
        · exact ⟨none, 0, by rw [h0, h1]⟩
        · exact ⟨_, _, h0⟩
      have HO2 := Lib.hid hown2
      clear hown1 hg1 hown2
      go_wp2_with fail
      refine (rNew_far A1 n c1 bs w2 (Rd.of_own HO2.out).1 (by omega)).mono ?_
      rintro e w3 ⟨r, rfl, hr, hfar, hb3⟩
      have HF := Lib.hid hfar
      have hrw : w.heap.size ≤ r := Nat.le_trans HB2.out.size hr
      have HB3 := Lib.hid (HB2.out.trans (hb3.mono HB2.out.size))
      have HO3 := Lib.hid (HO2.out.kept (row := none) ⟨hb3.os, hb3.tape, hb3.output, hb3.size, fun k hk _ => hb3.block k hk⟩ (by
        cases A1 with
        | none => exact Or.inl rfl
        | some a => exact Or.inr (by simp [Value.ownBlock])))
      have hs23 := hb3.size
      clear hfar hb3
      go_wp2_with fail
      go_loopw [7] (fun i wr => Rel1 w w2 w3 A1 n c1 i wr) (fun i _ => n - (intOf i).toNat)
      case atStart => exact ⟨0, bs, by omega, rfl, H.out.len, HO3.out, fun _ _ => rfl, rfl, HB3.out⟩
      case round =>
        obtain ⟨k, bk, hk, rfl, hbl, hown, hfar, hsz, hbel⟩ := hrel
        have HOk := Lib.hid hown
        have HFk := Lib.hid hfar
        have HSk := Lib.hid hsz
        have HBk := Lib.hid hbel
        have HLk := Lib.hid hbl
        clear hown hfar hsz hbel hbl
        by_cases hlt : k < n
        · obtain ⟨g, cap, hv, hbg, hgl⟩ := own_form HOk.out (by omega)
          injection hv with hA1 _ hcap
          subst hA1
          subst hcap
          have hkl : k < bk.length := by rw [HLk.out]; exact hlt
          have hc1 : wr.cell? ⟨g, k, none⟩ = some (U bk[k]) := by
            have := HOk.out.cellAt k (by omega)
            rw [this, List.getElem?_map, List.getElem?_eq_getElem hkl]
            rfl
          have hf1 : wr.frozen? ⟨g, k, none⟩ = false := HOk.out.frozenAt k
          have hbv := (bk[k]).toNat_lt
          have hg2 : Hid (g < w2.heap.size) := by
            obtain ⟨g', cap', hv', _, hgl'⟩ := own_form HO2.out (by omega)
            injection hv' with hA1 _ _
            injection hA1 with hA1
            injection hA1 with hA1
            show g < w2.heap.size
            omega
          unfold U at hc1
          go_wp2_with fail
          have hst := HOk.out.stored k (U (bk[k] + 1))
          have hst2 : (wr.setCell ⟨g, k, none⟩ (.int .u8 (((bk[k].toNat : Int) + 1) % 256))).ownsRow w.heap.size 5 1 (.slice (some ⟨g, 0, none⟩) n c1) n ((bk.set k (bk[k] + 1)).map U) := by
            rw [U_succ, List.map_set]
            exact hst.1
          refine ⟨⟨k + 1, bk.set k (bk[k] + 1), by omega, rfl, by rw [List.length_set]; exact HLk.out, hst2, fun j hj => ?_, by rw [World.size_setCell]; exact HSk.out, HBk.out.setCell hbg _⟩, by simp [intOf]; omega⟩
          have := hg2.out
          exact (Below.heap_setCell wr _ _ j (by simp only; omega)).trans (HFk.out j hj)
        · have HR4 := Lib.hid (HF.out wr (fun k hk => HFk.out k hk))
          have HRefB := Lib.hid ((Below.refl wr.heap.size wr).alloc (Nat.le_refl _) (.cells #[.slice A n c, .int .i64 0, .bool false] 37))
          have HR5 := Lib.hid (HR4.out.below HRefB.out)
          have HQ5 : Hid (Ref (wr.alloc (.cells #[.slice A n c, .int .i64 0, .bool false] 37)) wr.heap.size (bs, false)) := ⟨A, n, c, 0, bs, Bk.new wr _ _, hnc, by omega, Nat.zero_le _, (H.out.below HBk.out).below HRefB.out, rfl⟩
          have HB5 := Lib.hid (HBk.out.alloc HBk.out.size (.cells #[.slice A n c, .int .i64 0, .bool false] 37))
          have hqw : w.heap.size ≤ wr.heap.size := HBk.out.size
          go_wp2_with fail
          obtain ⟨wo, rfl⟩ : ∃ wo : World, wo = wr := ⟨_, rfl⟩
          go_loopw [9] (fun i wr => ∃ j : Nat, j ≤ n2 ∧ i = .int .i64 (j : Int) ∧ (∃ s, Rdr wr r s ∧ Ref wr wo.heap.size s) ∧ Below w.heap.size w wr) (fun i _ => n2 - (intOf i).toNat)
          case atStart => exact ⟨0, by omega, rfl, ⟨_, HR5.out, HQ5.out⟩, HB5.out⟩
          case round =>
            obtain ⟨j, hj, rfl, ⟨s, hR, hQ⟩, hbel⟩ := hrel
            have HR6 := Lib.hid hR
            have HQ6 := Lib.hid hQ
            have HB6 := Lib.hid hbel
            clear hR hQ hbel
            by_cases hlt : j < n2
            · obtain ⟨⟨ad0, am⟩, hask⟩ : ∃ a, l[j]? = some a := ⟨_, List.getElem?_eq_getElem (by rw [H2.out.len]; exact hlt)⟩
              obtain ⟨ha1, ha2, ha3, bb, off, rfl, hc1, hc2⟩ := (H2.out.below HB6.out).cells j _ hask
              simp only at ha1 ha2 ha3 hc1 hc2
              clear hask
              go_wp2_with fail
              refine (asked_any w.heap.size r wo.heap.size ad0 am s wr HR6.out HQ6.out ha1 ha3 ha2 hrw hqw).mono ?_
              rintro e w7 ⟨rfl, ⟨s7, hR, hQ⟩, hbel⟩
              have HR7 := Lib.hid hR
              have HQ7 := Lib.hid hQ
              have HB7 := Lib.hid (HB6.out.trans hbel)
              clear hR hQ hbel hc1 hc2
              go_wp2_with fail
              exact ⟨⟨j + 1, by omega, rfl, ⟨_, HR7.out, HQ7.out⟩, HB7.out⟩, by simp [intOf]; omega⟩
            · go_wp2_with fail
              refine (asked_any w.heap.size r wo.heap.size 6 0 s wr HR6.out HQ6.out (by omega) (by omega) (by omega) hrw hqw).mono ?_
              rintro e w7 ⟨rfl, ⟨s7, hR, hQ⟩, hbel⟩
              have HB7 := Lib.hid (HB6.out.trans hbel)
              clear hR hQ hbel
              go_wp2_with fail
              refine (puts_any w7).mono ?_
              rintro e w9 ⟨rfl, hb⟩
              have B9 := Lib.hid (HB7.out.trans (hb.mono HB7.out.size))
              clear hb
              go_wp2_with fail
              go_ret
              exact ⟨rfl, B9.out⟩

set_option maxRecDepth 100000 in
theorem lifted (os : Os) (started : os.Started) (H : Type) (enc : TypeId × Value → H) :
    ReturnsInHanded {} Try.checked os 4 .any (Rows.wireReadsSpec.pre6 enc Try.prog Try.f4 Rows.wireReadsRow.domain false) (Rows.wireReadsSpec.post enc Try.prog Try.f4 false true false false) := by
  refine returnsInHanded_of_change (C := Try.checked) own started (by kernel_rfl) Try.func4
    (ChangeSpec.witness6 (enc := enc) (C := Try.checked) false ⟨#[], #[.slice none 0 0, .slice none 0 0], []⟩ 8 (by kernel_rfl) (by kernel_rfl) (by kernel_rfl) (by kernel_rfl)) ?_
  intro W base args ds gs before hval0 hW hcnd _
  have hval : ∀ (j : Nat) t v, Try.f4.params[j]? = some t → args[j]? = some v → Value.okWide Try.prog W .any base t v := hval0
  have hW' := hW
  obtain ⟨p, q, hA0, hV, rfl, hfz, hnd⟩ := hW
  have hA : DataW.TrodAll enc Try.prog W 0 (fun _ => true) true Try.f4.params.toList args.toList ds p := hA0
  rw [Try.params4] at hA hval
  obtain ⟨v0, v1, d0, d1, p0, p1, rfl, rfl, rfl, h0, h1⟩ := trodAll_two hA
  obtain ⟨rfl, rfl⟩ := trodVars_none hV
  obtain ⟨A, n, c, bs, rfl, hnc, _, hr⟩ := open_bytes ty_bytes ty_byte cells_byte (hval 0 _ v0 rfl rfl) h0
  obtain ⟨A2, n2, c2, l, rfl, _, _, hr2⟩ := open_asks (hval 1 _ v1 rfl rfl) h1
  refine (walk A A2 n c n2 c2 bs l W hr hr2 hnc).mono fun e W' ⟨he, hb⟩ => ?_
  subst he
  exact ⟨_, rfl, post_true laidOut (by kernel_rfl) ty_bool (by kernel_rfl) rfl hW' hb rfl⟩

theorem over : Rows.wireReadsRow.holds Try.pinned (OpenSpec.ofChange Rows.wireReadsSpec) :=
  OpenClaim.holds_of_wide 4 Try.f4 rfl rfl rfl rfl rfl rfl rfl ⟨rfl, rfl, rfl, rfl, rfl⟩ rfl rfl rfl rfl rfl (by kernel_rfl) Try.func4 (by kernel_rfl)
    (of_decide_eq_true (by kernel_rfl)) (by unfold Func.isWrapper; first | (rw [if_pos (by decide +kernel)]; kernel_rfl) | (rw [if_neg (by decide +kernel)]; exact ⟨rfl, rfl⟩))
    (fun os started H enc _ => lifted os started H enc)

theorem proved : Rows.WireReadsSaid :=
  over
end Go.Proofs.Ytjpiaeidaoklaaa.wireReads
