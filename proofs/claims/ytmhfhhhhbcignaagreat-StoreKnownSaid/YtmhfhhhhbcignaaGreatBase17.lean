/- Lemmas, part 17: StoConcat, StoDeeds, StoLay2, StoReaders, StoRdr -/
import Derived.Test.YtmhfhhhhbcignaaGreatBase16
import Derived.Lib.AppendZeros
import Derived.OwnWalk
import Derived.StillTailTactics
import Derived.Maps.Own
import Derived.Maps.Keyed
namespace Go.Proofs.YtmhfhhhhbcignaaGreat.Sto
open Go.RowKit Disk Log

def GrowPost (n : Nat) (w : World) (e : Ending) (w' : World) : Prop :=
  ∃ cap, e = .returned (.slice (some ⟨w.heap.size, 0, none⟩) 0 cap) ∧ n ≤ cap ∧ w'.ownsRow w.heap.size 63 2 (.slice (some ⟨w.heap.size, 0, none⟩) 0 cap) 0 [] ∧ Below w.heap.size w w'
set_option maxRecDepth 8000 in
set_option maxHeartbeats 1000000 in
theorem grow_any (n : Nat) (w : World) (h1 : 1 ≤ n) (h2 : n ≤ 1000000) :
    Calls Tryz.prog 82 #[.slice none 0 0, .int .i64 (n : Int)] w (GrowPost n w) := by
  obtain ⟨i0, hi, hz0, hz1, hz2⟩ := info_parts info_line
  have hrun := Lib.run_append_nil_zeros (P := Tryz.prog) w 33 3 33 63 i0 _ .i64 .i64 ty_lines (by kernel_rfl) hi hz0 n (by omega) (by omega) (by omega) (by rw [hz2]; omega)
  have hge := grownCap_ge w n 0 63
  have hle := grownCap_le_maxLen w n 0 63 (by unfold maxLen; omega)
  generalize grownCap w n 0 63 = cap at *
  obtain ⟨cs, hcs⟩ : ∃ cs, cs = Builtin.zeroCells (Value.agg #[.int .u64 0, .slice none 0 0]).cells n ++ Builtin.zeroCells (Value.agg #[.int .u64 0, .slice none 0 0]).cells (cap - n) := ⟨_, rfl⟩
  have hsz : cs.size = cap * 2 := by
    rw [hcs, Array.size_append, size_zeroCells, size_zeroCells]
    show n * 2 + (cap - n) * 2 = cap * 2
    omega
  rw [← hcs] at hrun
  have HR := Lib.hid hrun
  have hown : (w.drew.alloc (.cells cs 63)).ownsRow w.heap.size 63 2 (.slice (some ⟨w.heap.size, 0, none⟩) 0 cap) 0 [] :=
    ⟨rfl, .inr ⟨w.heap.size, cap, cs, rfl, Nat.le_refl _, Bk.new w.drew _ _, Nat.zero_le _, hle, hsz, rfl⟩⟩
  have HO := Lib.hid hown
  have HB : Hid (Below w.heap.size w (w.drew.alloc (.cells cs 63))) := ((Below.refl _ w).drew).alloc (Nat.le_refl _) _
  have HG : Hid (n ≤ cap) := hge
  have hn0 : (0 : Int) < (n : Int) := by omega
  have hn1 : ((n : Int) < 0) = False := eq_false (by omega)
  clear hrun hown hcs hsz hge hle hi hz0 hz1 hz2
  go_enter Tryz.func82, Tryz.ntmps82
  go_wp2_with (at_builtin; refine Lib.wpList_append_run _ rfl _ _ _ _ rfl _ _ rfl rfl _ _ HR.out ?_)
  go_ret
  exact ⟨cap, rfl, HG.out, HO.out, HB.out⟩
/-- Slices that read as these bytes, in blocks of P. -/
structure LnV (P : Nat → Prop) (w : World) (vs : List Value) (ls : List Ln) : Prop where
  len : vs.length = ls.length
  at_ : ∀ (j : Nat) (x : Ln), ls[j]? = some x → ∃ B m c, vs[j]? = some (.slice B m c) ∧ m ≤ c ∧ Rd w B m x.bytes ∧ ∀ b, B = some b → 1 ≤ m → P b.block
theorem LnV.one {P : Nat → Prop} {w : World} {vs : List Value} {ls : List Ln} (h : LnV P w vs ls) : ∀ u ∈ lnsC ls vs, u.oneCell' = true := by
  suffices hh : ∀ (ls : List Ln) (vs : List Value), (∀ v ∈ vs, v.oneCell' = true) → ∀ u ∈ lnsC ls vs, u.oneCell' = true by
    refine hh ls vs fun v hv => ?_
    obtain ⟨j, hj, rfl⟩ := List.mem_iff_getElem.1 hv
    obtain ⟨B, m, c, h1, _⟩ := h.at_ j (ls[j]'(by rw [← h.len]; exact hj)) (List.getElem?_eq_getElem _)
    rw [List.getElem?_eq_getElem hj] at h1
    injection h1 with h1
    rw [h1]; rfl
  intro ls
  induction ls with
  | nil => intro vs _ u hu; cases hu
  | cons x ls ih =>
    intro vs hv u hu
    cases vs with
    | nil => cases hu
    | cons v vs =>
      rw [lnsC] at hu
      rcases List.mem_append.1 hu with q | q
      · exact lnC_one x (hv v List.mem_cons_self) u q
      · exact ih vs (fun v hv2 => hv v (List.mem_cons_of_mem _ hv2)) u q
theorem LnV.out {P X : Nat → Prop} {w w' : World} {vs : List Value} {ls : List Ln} (h : LnV P w vs ls) (ho : Out X w w') (hx : ∀ k, P k → ¬ X k) : LnV P w' vs ls :=
  ⟨h.len, fun j x hj => by
    obtain ⟨B, m, c, h1, h2, h3, h4⟩ := h.at_ j x hj
    exact ⟨B, m, c, h1, h2, rdb_out1 h3 ho (fun a ha h0 => hx _ (h4 a ha h0)), h4⟩⟩
theorem LnV.below {P : Nat → Prop} {w w' : World} {vs : List Value} {ls : List Ln} (h : LnV P w vs ls) (hb : Below w.heap.size w w') : LnV P w' vs ls :=
  h.out (X := fun _ => False) (Out.of_below hb) fun _ _ q => q
theorem LnV.append {P Q : Nat → Prop} {w : World} {vs us : List Value} {ls ms : List Ln} (h : LnV P w vs ls) (k : LnV Q w us ms) : LnV (fun b => P b ∨ Q b) w (vs ++ us) (ls ++ ms) :=
  ⟨by rw [List.length_append, List.length_append, h.len, k.len], fun j x hj => by
    rcases Nat.lt_or_ge j ls.length with hl | hl
    · rw [List.getElem?_append_left hl] at hj
      obtain ⟨B, m, c, h1, h2, h3, h4⟩ := h.at_ j x hj
      exact ⟨B, m, c, by rw [List.getElem?_append_left (by rw [h.len]; exact hl)]; exact h1, h2, h3, fun b hb h0 => .inl (h4 b hb h0)⟩
    · rw [List.getElem?_append_right hl] at hj
      obtain ⟨B, m, c, h1, h2, h3, h4⟩ := k.at_ _ x hj
      exact ⟨B, m, c, by rw [List.getElem?_append_right (by rw [h.len]; exact hl), h.len]; exact h1, h2, h3, fun b hb h0 => .inr (h4 b hb h0)⟩⟩
/-- The values of lines that are read. -/
theorem LnS.vals {P : Nat → Prop} {w : World} {A : Option Addr} {n : Nat} {ls : List Ln} (h : LnS P w A n ls) : ∃ vs, LnV P w vs ls ∧ ∀ ad, A = some ad → ∀ j u, (lnsC ls vs)[j]? = some u → w.cell? (ad.add j) = some u := by
  have hch : ∀ j : Nat, ∃ v : Value, ∀ x, ls[j]? = some x → ∃ b o B m c, v = .slice B m c ∧ A = some ⟨b, o, none⟩ ∧ w.cell? ⟨b, o + j * 2, none⟩ = some (.int .u64 (x.epoch : Int)) ∧ w.cell? ⟨b, o + j * 2 + 1, none⟩ = some (.slice B m c) ∧ m ≤ c ∧ Rd w B m x.bytes ∧ ∀ b, B = some b → 1 ≤ m → P b.block := by
    intro j
    cases hj : ls[j]? with
    | none => exact ⟨.slice none 0 0, fun x hx => by cases hx⟩
    | some x =>
      obtain ⟨b, o, B, m, c, h1, _, h3, h4, h5, h6, h7⟩ := h.at_ j x hj
      exact ⟨.slice B m c, fun y hy => by injection hy with hy; subst hy; exact ⟨b, o, B, m, c, rfl, h1, h3, h4, h5, h6, h7⟩⟩
  obtain ⟨f, hf⟩ : ∃ f : Nat → Value, ∀ j x, ls[j]? = some x → ∃ b o B m c, f j = .slice B m c ∧ A = some ⟨b, o, none⟩ ∧ w.cell? ⟨b, o + j * 2, none⟩ = some (.int .u64 (x.epoch : Int)) ∧ w.cell? ⟨b, o + j * 2 + 1, none⟩ = some (.slice B m c) ∧ m ≤ c ∧ Rd w B m x.bytes ∧ ∀ b, B = some b → 1 ≤ m → P b.block :=
    ⟨fun j => Classical.choose (hch j), fun j => Classical.choose_spec (hch j)⟩
  have hget : ∀ j, j < ls.length → ((List.range ls.length).map f)[j]? = some (f j) := fun j hj => by
    rw [List.getElem?_map, List.getElem?_range hj]; rfl
  refine ⟨(List.range ls.length).map f, ⟨by simp, fun j x hj => ?_⟩, fun ad hA i u hu => ?_⟩
  · obtain ⟨b, o, B, m, c, h1, _, _, _, h5, h6, h7⟩ := hf j x hj
    exact ⟨B, m, c, by rw [hget j (List.getElem?_eq_some_iff.1 hj).1, h1], h5, h6, h7⟩
  · have hil : i < 2 * ls.length := by
      have := (List.getElem?_eq_some_iff.1 hu).1
      rwa [lnsC_length _ _ (by simp)] at this
    have hjl : i / 2 < ls.length := by omega
    obtain ⟨b, o, B, m, c, h1, h2, h3, h4, _⟩ := hf (i / 2) _ (List.getElem?_eq_getElem hjl)
    have hg := lnsC_get ls ((List.range ls.length).map f) (i / 2) (i % 2) _ _ (List.getElem?_eq_getElem hjl) (hget _ hjl) (by omega)
    rw [show 2 * (i / 2) + i % 2 = i from by omega, hu] at hg
    rw [hA] at h2
    injection h2 with h2
    subst h2
    have hadd : ((⟨b, o, none⟩ : Addr).add i) = ⟨b, o + i, none⟩ := by unfold Addr.add; split <;> simp_all
    rw [hadd]
    rcases Nat.mod_two_eq_zero_or_one i with h0 | h0
    · rw [h0] at hg
      injection hg with hg
      rw [hg, show o + i = o + i / 2 * 2 from by omega]
      exact h3
    · rw [h0] at hg
      injection hg with hg
      rw [hg, show o + i = o + i / 2 * 2 + 1 from by omega, h1]
      exact h4
/-- A row of one's own whose cells are lines. -/
theorem lns_of_row {P : Nat → Prop} {w : World} {base : Nat} {A : Option Addr} {c : Nat} {ls : List Ln} {vs : List Value} (h : w.ownsRow base 63 2 (.slice A ls.length c) ls.length (lnsC ls vs)) (hv : LnV P w vs ls) : LnS (fun b => P b ∨ base ≤ b) w A ls.length ls := by
  refine ⟨rfl, fun j x hj => ?_⟩
  obtain ⟨B, m, c2, h1, h2, h3, h4⟩ := hv.at_ j x hj
  have g0 := lnsC_get ls vs j 0 x _ hj h1 (by omega)
  have g1 := lnsC_get ls vs j 1 x _ hj h1 (by omega)
  have hjl := (List.getElem?_eq_some_iff.1 hj).1
  rcases h.2 with ⟨_, h0⟩ | ⟨g, cap, cur, e, hg, hh, _⟩
  · omega
  · injection e with e
    subst e
    refine ⟨g, 0, B, m, c2, rfl, .inr hg, ?_, ?_, h2, h3, fun b hb h0 => .inl (h4 b hb h0)⟩
    · have := h.cells (g := g) rfl _ _ g0
      rw [add_plain] at this
      rw [show 0 + j * 2 = 2 * j + 0 from by omega]
      exact this
    · have := h.cells (g := g) rfl _ _ g1
      rw [add_plain] at this
      rw [show 0 + j * 2 + 1 = 2 * j + 1 from by omega]
      exact this
def ConcatPost (P Q : Nat → Prop) (ls ms : List Ln) (w : World) (e : Ending) (w' : World) : Prop :=
  ∃ A c, e = .returned (.slice A (ls ++ ms).length c) ∧ (ls ++ ms).length ≤ c ∧ A ≠ none ∧ LnS (fun b => (P b ∨ Q b) ∨ w.heap.size ≤ b) w' A (ls ++ ms).length (ls ++ ms) ∧ Below w.heap.size w w'
set_option maxRecDepth 8000 in
set_option maxHeartbeats 4000000 in
theorem concat_any (P Q : Nat → Prop) (A1 A2 : Option Addr) (c1 c2 g : Nat) (ls ms : List Ln) (w : World) (hb : Bk w g 33 #[.slice A1 ls.length c1, .slice A2 ms.length c2]) (h1 : LnS P w A1 ls.length ls) (h2 : LnS Q w A2 ms.length ms) (hn1 : A1 = none → c1 = 0) (hn2 : A2 = none → c2 = 0) (hl1 : ls.length ≤ 300000) (hl2 : ms.length ≤ 300000) (hpos : 1 ≤ ms.length) :
    Calls Tryz.prog 70 #[.slice (some ⟨g, 0, none⟩) 2 2] w (ConcatPost P Q ls ms w) := by
  obtain ⟨vs, hv1, hc1⟩ := h1.vals
  obtain ⟨us, hv2, hc2⟩ := h2.vals
  obtain ⟨i0, hi, hz0, hz1, hz2⟩ := info_parts info_line
  have HI := Lib.hid hi
  have HZ1 := Lib.hid hz1
  have HV1 := Lib.hid hv1
  have HV2 := Lib.hid hv2
  have HC1 := Lib.hid hc1
  have HC2 := Lib.hid hc2
  have HL1 : Hid ((lnsC ls vs).length = ls.length * 2) := by
    show _ = _
    rw [lnsC_length _ _ hv1.len.symm]; omega
  have HL2 : Hid ((lnsC ms us).length = ms.length * 2) := by
    show _ = _
    rw [lnsC_length _ _ hv2.len.symm]; omega
  have HA1 : Hid (A1 = none → ls.length = 0 ∧ c1 = 0) := fun e => by
    refine ⟨?_, hn1 e⟩
    rcases Nat.eq_zero_or_pos ls.length with h | h
    · exact h
    · obtain ⟨_, _, _, _, _, q, _⟩ := h1.at_ 0 _ (List.getElem?_eq_getElem h)
      rw [e] at q; cases q
  have HA2 : Hid (A2 = none → ms.length = 0 ∧ c2 = 0) := fun e => by
    refine ⟨?_, hn2 e⟩
    obtain ⟨_, _, _, _, _, q, _⟩ := h2.at_ 0 _ (List.getElem?_eq_getElem hpos)
    rw [e] at q; cases q
  have HAP : Hid ((ls ++ ms).length = ls.length + ms.length) := List.length_append
  have HAC : Hid (lnsC (ls ++ ms) (vs ++ us) = lnsC ls vs ++ lnsC ms us) := lnsC_append _ _ _ _ hv1.len.symm
  have HB := Lib.hid hb
  clear hi hz0 hz1 hz2 hv1 hv2 hc1 hc2 h1 h2 hn1 hn2
  obtain ⟨n1, hn1⟩ : ∃ n1, n1 = ls.length := ⟨_, rfl⟩
  obtain ⟨n2, hn2⟩ : ∃ n2, n2 = ms.length := ⟨_, rfl⟩
  have HN1 := Lib.hid hn1
  have HN2 := Lib.hid hn2
  rw [← hn1] at hb HL1 HA1 HAP hl1
  rw [← hn2] at hb HL2 HA2 HAP hl2 hpos
  have k0 : w.cell? ⟨g, 0, none⟩ = some (.slice A1 n1 c1) := hb.cell 0
  have k1 : w.cell? ⟨g, 1, none⟩ = some (.slice A2 n2 c2) := hb.cell 1
  clear hb HB hn1 hn2
  have w1 : wrap64 ((n1 : Int) + (n2 : Int)) = ((n1 + n2 : Nat) : Int) := by
    rw [IntWalk.wrap64_in _ (by omega)]; omega
  go_enter Tryz.func70, Tryz.ntmps70
  go_wp2_with fail
  go_loop [3, 5, 11] (fun v _ i => (i = .int .i64 0 ∧ v = .int .i64 0) ∨ (i = .int .i64 1 ∧ v = .int .i64 (n1 : Int)) ∨ (i = .int .i64 2 ∧ v = .int .i64 ((n1 : Int) + (n2 : Int)))) (fun _ _ i => 2 - (intOf i).toNat)
  case atStart => exact .inl ⟨rfl, rfl⟩
  case round =>
    rcases hrel with ⟨rfl, rfl⟩ | ⟨rfl, rfl⟩ | ⟨rfl, rfl⟩
    · have hz : wrap64 (0 + (n1 : Int)) = (n1 : Int) := by rw [IntWalk.wrap64_in _ (by omega)]; omega
      go_wp2_with fail
      exact ⟨.inr (.inl ⟨rfl, rfl⟩), by decide⟩
    · go_wp2_with fail
      exact ⟨.inr (.inr ⟨rfl, rfl⟩), by decide⟩
    · have CG : Calls Tryz.prog 82 #[.slice none 0 0, .int .i64 ((n1 : Int) + (n2 : Int))] w (GrowPost (n1 + n2) w) := by
        have := grow_any (n1 + n2) w (by omega) (by omega)
        rwa [Int.natCast_add] at this
      clear w1
      go_wp2_with fail
      refine CG.mono ?_
      rintro e w2 ⟨cap, rfl, hcap, hown, hbel⟩
      have HO0 := Lib.hid hown
      have HB0 := Lib.hid hbel
      have HCAP : Hid (n1 + n2 ≤ cap) := hcap
      clear CG hown hbel hcap
      go_wp2_with fail
      go_loopw [6, 8, 27] (fun v _ i wr => Below w.heap.size w wr ∧ ((i = .int .i64 0 ∧ v = .slice (some ⟨w.heap.size, 0, none⟩) 0 cap ∧ wr.ownsRow w.heap.size 63 2 (.slice (some ⟨w.heap.size, 0, none⟩) 0 cap) 0 []) ∨ (i = .int .i64 1 ∧ v = .slice (some ⟨w.heap.size, 0, none⟩) n1 cap ∧ wr.ownsRow w.heap.size 63 2 (.slice (some ⟨w.heap.size, 0, none⟩) n1 cap) n1 (lnsC ls vs)) ∨ (i = .int .i64 2 ∧ v = .slice (some ⟨w.heap.size, 0, none⟩) (n1 + n2) cap ∧ wr.ownsRow w.heap.size 63 2 (.slice (some ⟨w.heap.size, 0, none⟩) (n1 + n2) cap) (n1 + n2) (lnsC ls vs ++ lnsC ms us)))) (fun _ _ i _ => 2 - (intOf i).toNat)
      case atStart => exact ⟨HB0.out, .inl ⟨rfl, rfl, HO0.out⟩⟩
      case round =>
        obtain ⟨hbel, hrel⟩ := hrel
        have HB := Lib.hid hbel
        have hcell : ∀ (p : Addr) (v : Value), w.cell? p = some v → wr.cell? p = some v := fun p v h => (hbel.cell (World.block_lt_of_cell? w _ h)).trans h
        have HCE := Lib.hid hcell
        have q0 := hcell _ _ k0
        have q1 := hcell _ _ k1
        clear hcell hbel
        rcases hrel with ⟨rfl, rfl, hown⟩ | ⟨rfl, rfl, hown⟩ | ⟨rfl, rfl, hown⟩
        · have HO := Lib.hid hown
          clear hown
          go_wp2_with (at_builtin; refine wpList_append_fits_any _ rfl (.tmp 31) (.tmp 32) _ rfl w.heap.size 63 i0 2 ty_lines HI.out HZ1.out w.heap.size 0 cap [] rfl HO.out A1 n1 c1 (lnsC ls vs) rfl HL1.out HA1.out (fun ad h j u hu => HCE.out _ _ (HC1.out ad h j u hu)) HV1.out.one (by have := HCAP.out; omega) ?_)
          intro w3 hown3 hg3
          have HO3 := Lib.hid hown3
          have HB3 := Lib.hid (HB.out.grown hg3 HB.out.size (fun g hg => by injection hg with hg; exact Nat.le_of_eq hg))
          clear hown3 hg3
          go_wp2_with fail
          exact ⟨⟨HB3.out, .inr (.inl ⟨rfl, by simp, HO3.out⟩)⟩, by decide⟩
        · have HO := Lib.hid hown
          clear hown
          go_wp2_with (at_builtin; refine wpList_append_fits_any _ rfl (.tmp 31) (.tmp 32) _ rfl w.heap.size 63 i0 2 ty_lines HI.out HZ1.out w.heap.size n1 cap (lnsC ls vs) rfl HO.out A2 n2 c2 (lnsC ms us) rfl HL2.out HA2.out (fun ad h j u hu => HCE.out _ _ (HC2.out ad h j u hu)) HV2.out.one (by have := HCAP.out; omega) ?_)
          intro w3 hown3 hg3
          have HO3 := Lib.hid hown3
          have HB3 := Lib.hid (HB.out.grown hg3 HB.out.size (fun g hg => by injection hg with hg; exact Nat.le_of_eq hg))
          clear hown3 hg3
          go_wp2_with fail
          exact ⟨⟨HB3.out, .inr (.inr ⟨rfl, rfl, HO3.out⟩)⟩, by decide⟩
        · have HO : Hid (wr.ownsRow w.heap.size 63 2 (.slice (some ⟨w.heap.size, 0, none⟩) (ls ++ ms).length cap) (ls ++ ms).length (lnsC (ls ++ ms) (vs ++ us))) := by
            show World.ownsRow _ _ _ _ _ _ _
            rw [HAP.out, HAC.out]
            exact hown
          clear hown
          go_wp2_with fail
          go_ret
          rw [← HAP.out]
          exact ⟨_, cap, rfl, by rw [HAP.out]; exact HCAP.out, (fun h => by cases h), lns_of_row HO.out ((HV1.out.below HB.out).append (HV2.out.below HB.out)), HB.out⟩
end Go.Proofs.YtmhfhhhhbcignaaGreat.Sto

namespace Go.Proofs.YtmhfhhhhbcignaaGreat.Sto
open Go.RowKit Disk Log

/-- What is kept, as it lies: its lines in blocks of Q. -/
structure KpAt (Q : Nat → Prop) (w : World) (g : Nat) (k : Kp) : Prop where
  at_ : ∃ A c, Bk w g 51 #[.int .u64 (k.promised : Int), .int .u64 (k.current : Int), .slice A k.lines.length c] ∧ LnS Q w A k.lines.length k.lines ∧ k.lines.length ≤ c ∧ (A = none → c = 0)
def Small (ls : List Ln) : Prop := ls.length ≤ 300000 ∧ ∀ x ∈ ls, x.bytes.length ≤ 100000000
/-- What a deed's call comes to. -/
def RanPost (Q : Nat → Prop) (g : Nat) (k : Kp) (D : Deed) (w : World) (e : Ending) (w' : World) : Prop :=
  (D.may k = true ∧ e = .returned (.tuple #[]) ∧ KpAt (fun b => Q b ∨ w.heap.size ≤ b) w' g (D.run k) ∧ Out (· = g) w w') ∨ (D.may k = false ∧ e = thrown 1 ∧ Below w.heap.size w w')
set_option maxRecDepth 8000 in
set_option maxHeartbeats 1000000 in
theorem prom_run (Q : Nat → Prop) (g b : Nat) (e : Nat) (k : Kp) (w : World) (hk : KpAt Q w g k) (hb : Bk w b 32 #[.int .u64 (e : Int)]) (hgq : ¬ Q g) :
    Calls Tryz.prog 60 #[.pointer (some ⟨g, 0, none⟩), .pointer (some ⟨b, 0, none⟩)] w (RanPost Q g k (.prom e) w) := by
  obtain ⟨A, c, hg, hl, hlc, hnil⟩ := hk.at_
  have HG := Lib.hid hg
  have HB := Lib.hid hb
  have HL := Lib.hid hl
  have HLC := Lib.hid hlc
  have HNIL := Lib.hid hnil
  have kb : w.cell? ⟨b, 0, none⟩ = some (.int .u64 (e : Int)) := hb.cell 0
  have k0 : w.cell? ⟨g, 0, none⟩ = some (.int .u64 (k.promised : Int)) := hg.cell 0
  have f0 : w.frozen? ⟨g, 0, none⟩ = false := hg.frozen 0
  have HM : Hid ((Deed.prom e).may k = true ↔ k.promised < e ∧ e ≤ 281474976710656) := may_prom
  have HBD : Hid (Below w.heap.size w w.drew) := (Below.refl _ w).drew
  clear hk hg hb hl hlc hnil
  go_enter Tryz.func60, Tryz.ntmps60
  go_wp2_with fail
  by_cases h1 : e ≤ k.promised
  · have h1d : decide ((e : Int) ≤ (k.promised : Int)) = true := decide_eq_true (by omega)
    have HF : Hid ((Deed.prom e).may k = false) := by
      show _ = _
      rw [Bool.eq_false_iff]
      intro h
      have := (HM.out.1 h).1
      omega
    go_still_tail 10, (by kernel_rfl)
    change wpList _ _ _ _ _ w.drew
    go_wp2_with (go_at_call 53; (with_reducible refine (throw_yes _ _).mono ?_); rintro e _ ⟨rfl, rfl⟩)
    exact ⟨rfl, .inr ⟨HF.out, rfl, HBD.out⟩⟩
  · have h1d : decide ((e : Int) ≤ (k.promised : Int)) = false := decide_eq_false (by omega)
    by_cases h2 : (281474976710656 : Int) < (e : Int)
    · have h2d : decide ((281474976710656 : Int) < (e : Int)) = true := decide_eq_true h2
      have HF : Hid ((Deed.prom e).may k = false) := by
        show _ = _
        rw [Bool.eq_false_iff]
        intro h
        have := (HM.out.1 h).2
        omega
      clear h2
      go_still_tail 10, (by kernel_rfl)
      change wpList _ _ _ _ _ w.drew
      go_wp2_with (go_at_call 53; (with_reducible refine (throw_yes _ _).mono ?_); rintro e _ ⟨rfl, rfl⟩)
      exact ⟨rfl, .inr ⟨HF.out, rfl, HBD.out⟩⟩
    · have h2d : decide ((281474976710656 : Int) < (e : Int)) = false := decide_eq_false h2
      have HT : Hid ((Deed.prom e).may k = true) := HM.out.2 ⟨by omega, by omega⟩
      clear h2
      go_still_tail 10, (by kernel_rfl)
      change wpList _ _ _ _ _ w.drew
      have kb2 : w.drew.cell? ⟨b, 0, none⟩ = some (.int .u64 (e : Int)) := kb
      have f2 : w.drew.frozen? ⟨g, 0, none⟩ = false := f0
      have kg2 : w.drew.cell? ⟨g, 0, none⟩ = some (.int .u64 (k.promised : Int)) := k0
      go_wp2_with (go_at_call 53; (with_reducible refine (throw_no _ _).mono ?_); rintro e _ ⟨rfl, rfl⟩)
      go_end0
      have h3 : Bk (w.setCell ⟨g, 0, none⟩ (.int .u64 (e : Int))) g 51 #[.int .u64 (e : Int), .int .u64 (k.current : Int), .slice A k.lines.length c] := by simpa using HG.out.set 0 (.int .u64 (e : Int))
      have ho : Out (· = g) w (w.setCell ⟨g, 0, none⟩ (.int .u64 (e : Int))).drew := (Out.setCell (X := (· = g)) w (p := ⟨g, 0, none⟩) rfl _).drew
      have hl := HL.out.out ho (fun b hb e => hgq (e ▸ hb))
      exact Or.inl ⟨HT.out, rfl, ⟨A, c, h3, hl.mono fun b hb => Or.inl hb, HLC.out, HNIL.out⟩, ho⟩
theorem calls_adopt : ∀ args w, (callFunc 66 args).run Tryz.prog w = .ok (.enter 66 args) w := by intro args w; kernel_rfl
set_option maxRecDepth 8000 in
theorem suits_adopt (x e b : Nat) (w : World) (hb : Bk w b 32 #[.int .u64 (e : Int)]) :
    Calls Tryz.prog 66 #[.int .u64 (x : Int), .pointer (some ⟨b, 0, none⟩)] w fun r w' => r = .returned (.bool (decide (x ≤ e))) ∧ Below w.heap.size w w' := by
  have kb : w.cell? ⟨b, 0, none⟩ = some (.int .u64 (e : Int)) := hb.cell 0
  have hd : decide ((x : Int) ≤ (e : Int)) = decide (x ≤ e) := by simp only [Int.ofNat_le]
  have HD := Lib.hid hd
  clear hb hd
  go_enter Tryz.func66, Tryz.ntmps66
  go_wp2_with fail
  go_ret
  refine ⟨?_, Below.refl _ _⟩
  rw [← HD.out]
  rfl
end Go.Proofs.YtmhfhhhhbcignaaGreat.Sto

namespace Go.Proofs.YtmhfhhhhbcignaaGreat.Sto
open Go.RowKit Disk Log

theorem lay_new (kd : Nat) (xs : List Nat) (hk : kd < 256) (hlt : ∀ x ∈ xs, x < 18446744073709551616) (hn : xs.length ≤ 1000) (V : World) :
    Calls Tryz.prog 41 #[.int .u8 (kd : Int), .slice (some ⟨V.heap.size, 0, none⟩) xs.length xs.length] (V.alloc (.cells (xs.map fun (x : Nat) => numV (x : Int)).toArray 32)) (Put (V.alloc (.cells (xs.map fun (x : Nat) => numV (x : Int)).toArray 32)) (be 1 kd ++ numsT xs)) :=
  lay_any kd _ _ _ xs _ hk ⟨by simp, fun _ => ⟨_, rfl, fun j v hv => by
    rw [add_plain, (Bk.new V _ _).cell]
    simpa using hv⟩⟩ hlt hn
theorem text_prom (e : Nat) : be 1 2 ++ numsT [e] = (Deed.prom e).text := by
  simp [numsT, Deed.text]
  rfl
theorem text_adopt (e : Nat) (l : List Ln) : (be 1 3 ++ numsT [e]) ++ linesT l = (Deed.adopt e l).text := by
  simp [numsT, Deed.text]
  rfl
theorem text_add (l : List Ln) : (be 1 4 ++ numsT []) ++ linesT l = (Deed.add l).text := by
  simp [numsT, Deed.text]
  rfl
theorem text_whole (k : Kp) : (be 1 1 ++ numsT [k.promised, k.current]) ++ linesT k.lines = wholeT k := by
  simp [numsT, wholeT]
  rfl
theorem Rd.of_put {w w' : World} {bs : List UInt8} {A : Option Addr} {n c : Nat} (h : w'.ownsRow w.heap.size 5 1 (.slice A n c) n (bs.map U)) : Rd w' A n bs := (Rd.of_own h).1
/-- Lines that can be laid. -/
def Laid (ls : List Ln) : Prop := ls.length ≤ 300000 ∧ ∀ x ∈ ls, x.bytes.length ≤ 100000000 ∧ x.epoch < 18446744073709551616
set_option maxRecDepth 8000 in
set_option maxHeartbeats 1000000 in
theorem rec_prom (e b : Nat) (w : World) (hb : Bk w b 32 #[.int .u64 (e : Int)]) (he : e < 18446744073709551616) :
    Calls Tryz.prog 40 #[.pointer (some ⟨b, 0, none⟩)] w (Put w (Deed.prom e).text) := by
  have kb : w.cell? ⟨b, 0, none⟩ = some (.int .u64 (e : Int)) := hb.cell 0
  have CL : Calls Tryz.prog 41 #[.int .u8 2, .slice (some ⟨w.heap.size, 0, none⟩) 1 1] (w.alloc (.cells #[.int .u64 (e : Int)] 32)) (Put (w.alloc (.cells #[.int .u64 (e : Int)] 32)) (be 1 2 ++ numsT [e])) := lay_new 2 [e] (by omega) (fun x hx => by rw [List.mem_singleton.1 hx]; exact he) (by simp) w
  rw [text_prom] at CL
  have HBA : Hid (Below w.heap.size w (w.alloc (.cells #[.int .u64 (e : Int)] 32))) := (Below.refl _ _).alloc (Nat.le_refl _) _
  clear hb
  go_enter Tryz.func40, Tryz.ntmps40
  go_wp2_with fail
  refine CL.mono ?_
  rintro r w1 ⟨A1, n1, c1, rfl, q1, q2, q3, q4⟩
  have HF : Hid (Put w (Deed.prom e).text (.returned (.slice A1 n1 c1)) w1) := ⟨A1, n1, c1, rfl, q1, q2, own_base q3 HBA.out.size, HBA.out.trans (q4.mono HBA.out.size)⟩
  clear q1 q2 q3 q4 CL kb
  go_wp2_with fail
  go_ret
  exact HF.out
set_option maxRecDepth 8000 in
set_option maxHeartbeats 1000000 in
theorem rec_adopt (P : Nat → Prop) (e b b2 : Nat) (l : List Ln) (A2 : Option Addr) (c2 : Nat) (w : World) (hb : Bk w b 32 #[.int .u64 (e : Int)]) (hb2 : Bk w b2 33 #[.slice A2 l.length c2]) (hl : LnS P w A2 l.length l) (he : e < 18446744073709551616) (hs : Laid l) :
    Calls Tryz.prog 45 #[.pointer (some ⟨b, 0, none⟩), .pointer (some ⟨b2, 0, none⟩)] w (Put w (Deed.adopt e l).text) := by
  have CL : Hid (∀ V : World, Calls Tryz.prog 41 #[.int .u8 3, .slice (some ⟨V.heap.size, 0, none⟩) 1 1] (V.alloc (.cells #[.int .u64 (e : Int)] 32)) (Put (V.alloc (.cells #[.int .u64 (e : Int)] 32)) (be 1 3 ++ numsT [e]))) := fun V => lay_new 3 [e] (by omega) (fun x hx => by rw [List.mem_singleton.1 hx]; exact he) (by simp) V
  have HLEN : Hid ((be 1 3 ++ numsT [e]).length = 9) := by show _ = _; rw [List.length_append, numsT_len, be_length]; rfl
  have HTX := Lib.hid (text_adopt e l)
  have HC : Hid (∀ V, Below w.heap.size w V → V.cell? ⟨b, 0, none⟩ = some (.int .u64 (e : Int)) ∧ V.cell? ⟨b2, 0, none⟩ = some (.slice A2 l.length c2)) := fun V hV => ⟨(hb.below hV).cell 0, (hb2.below hV).cell 0⟩
  have CLL : Hid (∀ V A n c, Below w.heap.size w V → Rd V A n (be 1 3 ++ numsT [e]) → Calls Tryz.prog 46 #[.slice A n c, .slice A2 l.length c2] V (Put V ((be 1 3 ++ numsT [e]) ++ linesT l))) := fun V A n c hV hr => layLines_any P A A2 n c l.length c2 _ l V hr (hl.below hV) (by have := hr.len; have := HLEN.out; omega) hs.1 hs.2
  have BD : Hid (Below w.heap.size w w.drew) := (Below.refl _ w).drew
  obtain ⟨k0, k1⟩ := HC.out w (Below.refl _ _)
  have HSD := Lib.hid (HC.out _ BD.out)
  have CL2 : Hid (Calls Tryz.prog 41 #[.int .u8 3, .slice (some ⟨w.heap.size, 0, none⟩) 1 1] (w.alloc (.cells #[.int .u64 (e : Int)] 32)).drew (Put (w.alloc (.cells #[.int .u64 (e : Int)] 32)).drew (be 1 3 ++ numsT [e]))) := CL.out w.drew
  have HAL : Hid (∀ ob : Obj, (w.alloc ob).drew.cell? ⟨b, 0, none⟩ = some (.int .u64 (e : Int)) ∧ (w.alloc ob).drew.cell? ⟨b2, 0, none⟩ = some (.slice A2 l.length c2)) := fun ob => HC.out _ (BD.out.alloc BD.out.size ob)
  have HBA : Hid (∀ ob : Obj, Below w.heap.size w (w.alloc ob).drew) := fun ob => BD.out.alloc BD.out.size ob
  generalize l.length = n2 at *
  clear hb hb2 hl hs
  go_enter Tryz.func45, Tryz.ntmps45
  go_wp2_with fail
  go_region_held3 (fun V => V.cell? ⟨b, 0, none⟩ = some (.int .u64 (e : Int)) ∧ V.cell? ⟨b2, 0, none⟩ = some (.slice A2 n2 c2))
    (first | (with_reducible assumption) | (with_reducible exact HSD.out) | (with_reducible exact HAL.out _) | (with_reducible exact HS1.out) | (with_reducible exact HS2.out))
    (first
      | (go_at_call 41; (with_reducible refine CL2.out.mono ?_); rintro r w5 ⟨A6, n6, c6, rfl, q1, q2, q3, q4⟩; have HR6 := Lib.hid (Rd.of_put q3); have HB6 := Lib.hid ((HBA.out _).trans (q4.mono (HBA.out _).size)); have HS1 := Lib.hid (HC.out _ HB6.out); clear q1 q2 q3 q4)
      | (go_at_call 46; (with_reducible refine (CLL.out _ _ _ _ HB6.out HR6.out).mono ?_); rintro r w7 ⟨A7, n7, c7, rfl, q1, q2, q3, q4⟩; have HF : Hid (Put w (Deed.adopt e l).text (.returned (.slice A7 n7 c7)) w7) := (by rw [← HTX.out]; exact ⟨A7, n7, c7, rfl, q1, q2, own_base q3 HB6.out.size, HB6.out.trans (q4.mono HB6.out.size)⟩); have HS2 := Lib.hid (HC.out _ (HB6.out.trans (q4.mono HB6.out.size))); clear q1 q2 q3 q4))
  go_wp2_with fail
  go_ret
  exact HF.out
set_option maxRecDepth 8000 in
set_option maxHeartbeats 1000000 in
theorem rec_add (P : Nat → Prop) (b2 : Nat) (l : List Ln) (A2 : Option Addr) (c2 : Nat) (w : World) (hb2 : Bk w b2 33 #[.slice A2 l.length c2]) (hl : LnS P w A2 l.length l) (hs : Laid l) :
    Calls Tryz.prog 48 #[.pointer (some ⟨b2, 0, none⟩)] w (Put w (Deed.add l).text) := by
  have BD : Hid (Below w.heap.size w w.drew) := (Below.refl _ w).drew
  have CL : Hid (∀ V, Calls Tryz.prog 41 #[.int .u8 4, .slice none 0 0] V (Put V (be 1 4 ++ numsT []))) := fun V => lay_any 4 none 0 0 [] V (by omega) (RdV.nil_ _ _) (fun x hx => by cases hx) (by omega)
  have HLEN : Hid ((be 1 4 ++ numsT []).length = 1) := by show _ = _; rw [List.length_append, numsT_len, be_length]; rfl
  have HTX := Lib.hid (text_add l)
  have HC : Hid (∀ V, Below w.heap.size w V → V.cell? ⟨b2, 0, none⟩ = some (.slice A2 l.length c2)) := fun V hV => (hb2.below hV).cell 0
  have CLL : Hid (∀ V A n c, Below w.heap.size w V → Rd V A n (be 1 4 ++ numsT []) → Calls Tryz.prog 46 #[.slice A n c, .slice A2 l.length c2] V (Put V ((be 1 4 ++ numsT []) ++ linesT l))) := fun V A n c hV hr => layLines_any P A A2 n c l.length c2 _ l V hr (hl.below hV) (by have := hr.len; have := HLEN.out; omega) hs.1 hs.2
  have k1 := HC.out w (Below.refl _ _)
  have HSD := Lib.hid (HC.out _ BD.out)
  generalize l.length = n2 at *
  clear hb2 hl hs
  go_enter Tryz.func48, Tryz.ntmps48
  go_wp2_with fail
  go_region_held3 (fun V => V.cell? ⟨b2, 0, none⟩ = some (.slice A2 n2 c2))
    (first | (with_reducible assumption) | (with_reducible exact HSD.out) | (with_reducible exact HS1.out) | (with_reducible exact HS2.out))
    (first
      | (go_at_call 41; (with_reducible refine (CL.out _).mono ?_); rintro r w5 ⟨A6, n6, c6, rfl, q1, q2, q3, q4⟩; have HR6 := Lib.hid (Rd.of_put q3); have HB6 := Lib.hid (BD.out.trans q4); have HS1 := Lib.hid (HC.out _ HB6.out); clear q1 q2 q3 q4)
      | (go_at_call 46; (with_reducible refine (CLL.out _ _ _ _ HB6.out HR6.out).mono ?_); rintro r w7 ⟨A7, n7, c7, rfl, q1, q2, q3, q4⟩; have HF : Hid (Put w (Deed.add l).text (.returned (.slice A7 n7 c7)) w7) := (by rw [← HTX.out]; exact ⟨A7, n7, c7, rfl, q1, q2, own_base q3 HB6.out.size, HB6.out.trans (q4.mono HB6.out.size)⟩); have HS2 := Lib.hid (HC.out _ (HB6.out.trans (q4.mono HB6.out.size))); clear q1 q2 q3 q4))
  go_wp2_with fail
  go_ret
  exact HF.out
set_option maxRecDepth 8000 in
set_option maxHeartbeats 2000000 in
theorem layWhole_any (P : Nat → Prop) (k : Kp) (A2 : Option Addr) (c2 : Nat) (w : World) (hl : LnS P w A2 k.lines.length k.lines) (hf : Fine k) :
    Calls Tryz.prog 101 #[kpV k A2 c2] w (Put w (wholeT k)) := by
  have hs : Laid k.lines := ⟨by have := hf.many; omega, fun x hx => by
    have := lineB_iff.1 (hf.each x hx).1
    unfold top at this
    omega⟩
  have hp := hf.prom
  have hc := hf.cur
  unfold top at hp
  have hwb : Below w.heap.size w (w.alloc (.cells #[.int .u64 (k.promised : Int), .int .u64 (k.current : Int), .slice A2 k.lines.length c2] 51)) := (Below.refl _ _).alloc (Nat.le_refl _) _
  have hbk : Bk (w.alloc (.cells #[.int .u64 (k.promised : Int), .int .u64 (k.current : Int), .slice A2 k.lines.length c2] 51)) w.heap.size 51 #[.int .u64 (k.promised : Int), .int .u64 (k.current : Int), .slice A2 k.lines.length c2] := Bk.new w _ _
  obtain ⟨W, hW⟩ : ∃ W, W = w.alloc (.cells #[.int .u64 (k.promised : Int), .int .u64 (k.current : Int), .slice A2 k.lines.length c2] 51) := ⟨_, rfl⟩
  have HWE := Lib.hid hW
  rw [← hW] at hwb hbk
  have HW := Lib.hid hwb
  have CL : Hid (∀ V : World, Calls Tryz.prog 41 #[.int .u8 1, .slice (some ⟨V.heap.size, 0, none⟩) 2 2] (V.alloc (.cells #[.int .u64 (k.promised : Int), .int .u64 (k.current : Int)] 32)) (Put (V.alloc (.cells #[.int .u64 (k.promised : Int), .int .u64 (k.current : Int)] 32)) (be 1 1 ++ numsT [k.promised, k.current]))) := fun V => lay_new 1 [k.promised, k.current] (by omega) (fun x hx => by
    rcases List.mem_cons.1 hx with rfl | hx
    · omega
    · rw [List.mem_singleton.1 hx]; omega) (by simp) V
  have HLEN : Hid ((be 1 1 ++ numsT [k.promised, k.current]).length = 17) := by show _ = _; rw [List.length_append, numsT_len, be_length]; rfl
  have HTX := Lib.hid (text_whole k)
  have HC : Hid (∀ V, Below W.heap.size W V → V.cell? ⟨w.heap.size, 0, none⟩ = some (.int .u64 (k.promised : Int)) ∧ V.cell? ⟨w.heap.size, 1, none⟩ = some (.int .u64 (k.current : Int)) ∧ V.cell? ⟨w.heap.size, 2, none⟩ = some (.slice A2 k.lines.length c2)) := fun V hV => ⟨(hbk.below hV).cell 0, (hbk.below hV).cell 1, (hbk.below hV).cell 2⟩
  have CLL : Hid (∀ V A n c, Below W.heap.size W V → Rd V A n (be 1 1 ++ numsT [k.promised, k.current]) → Calls Tryz.prog 46 #[.slice A n c, .slice A2 k.lines.length c2] V (Put V ((be 1 1 ++ numsT [k.promised, k.current]) ++ linesT k.lines))) := fun V A n c hV hr => layLines_any P A A2 n c k.lines.length c2 _ k.lines V hr ((hl.below HW.out).below hV) (by have := hr.len; have := HLEN.out; omega) hs.1 hs.2
  have BD : Hid (Below W.heap.size W W.drew) := (Below.refl _ W).drew
  obtain ⟨k0, k1, k2⟩ := HC.out W (Below.refl _ _)
  have HSD := Lib.hid (HC.out _ BD.out)
  have CL2 : Hid (Calls Tryz.prog 41 #[.int .u8 1, .slice (some ⟨W.heap.size, 0, none⟩) 2 2] (W.alloc (.cells #[.int .u64 (k.promised : Int), .int .u64 (k.current : Int)] 32)).drew (Put (W.alloc (.cells #[.int .u64 (k.promised : Int), .int .u64 (k.current : Int)] 32)).drew (be 1 1 ++ numsT [k.promised, k.current]))) := CL.out W.drew
  have HAL : Hid (∀ ob : Obj, (W.alloc ob).drew.cell? ⟨w.heap.size, 0, none⟩ = some (.int .u64 (k.promised : Int)) ∧ (W.alloc ob).drew.cell? ⟨w.heap.size, 1, none⟩ = some (.int .u64 (k.current : Int)) ∧ (W.alloc ob).drew.cell? ⟨w.heap.size, 2, none⟩ = some (.slice A2 k.lines.length c2)) := fun ob => HC.out _ (BD.out.alloc BD.out.size ob)
  have HBA : Hid (∀ ob : Obj, Below W.heap.size W (W.alloc ob).drew) := fun ob => BD.out.alloc BD.out.size ob
  unfold kpV
  generalize k.lines.length = n2 at *
  clear hbk hl hs hf hp hc hwb hW
  go_enter Tryz.func101, Tryz.ntmps101
  go_wp2_with fail
  rw [← HWE.out]
  go_region_held3 (fun V => V.cell? ⟨w.heap.size, 0, none⟩ = some (.int .u64 (k.promised : Int)) ∧ V.cell? ⟨w.heap.size, 1, none⟩ = some (.int .u64 (k.current : Int)) ∧ V.cell? ⟨w.heap.size, 2, none⟩ = some (.slice A2 n2 c2))
    (first | (with_reducible assumption) | (with_reducible exact HSD.out) | (with_reducible exact HAL.out _) | (with_reducible exact HS1.out) | (with_reducible exact HS2.out))
    (first
      | (go_at_call 41; (with_reducible refine CL2.out.mono ?_); rintro r w5 ⟨A6, n6, c6, rfl, q1, q2, q3, q4⟩; have HR6 := Lib.hid (Rd.of_put q3); have HB6 := Lib.hid ((HBA.out _).trans (q4.mono (HBA.out _).size)); have HS1 := Lib.hid (HC.out _ HB6.out); clear q1 q2 q3 q4)
      | (go_at_call 46; (with_reducible refine (CLL.out _ _ _ _ HB6.out HR6.out).mono ?_); rintro r w7 ⟨A7, n7, c7, rfl, q1, q2, q3, q4⟩; have HF : Hid (Put w (wholeT k) (.returned (.slice A7 n7 c7)) w7) := (by rw [← HTX.out]; exact ⟨A7, n7, c7, rfl, q1, q2, own_base q3 (Nat.le_trans HW.out.size HB6.out.size), HW.out.trans ((HB6.out.trans (q4.mono HB6.out.size)).mono HW.out.size)⟩); have HS2 := Lib.hid (HC.out _ (HB6.out.trans (q4.mono HB6.out.size))); clear q1 q2 q3 q4))
  go_wp2_with fail
  go_ret
  exact HF.out
end Go.Proofs.YtmhfhhhhbcignaaGreat.Sto

namespace Go.Proofs.YtmhfhhhhbcignaaGreat.Sto
open Go.RowKit Disk Log

theorem ty_kind : Tryz.prog.underlying 5 = some (.int .u8) := by kernel_rfl
theorem ty_readers : Tryz.prog.underlying 150 = some (.map 5 148) := by kernel_rfl
theorem zero_reader (w : World) : (zeroValue 148).run Tryz.prog w = .ok .nilFunc w := by kernel_rfl
/-- How a function reads: as its number. -/
def fR (v : Value) : Option (DataW Nat × List MemPlace) := match v with
  | .func (.func i) a b => if a = #[] ∧ b = #[] then some (.held i, []) else none
  | .nilFunc => some (.held 0, [])
  | _ => none
theorem fR_mk (i : Nat) : fR (.func (.func i) #[] #[]) = some (.held i, []) := by simp [fR]
theorem fR_inv {v : Value} {i : Nat} {ps : List MemPlace} (h : fR v = some (.held i, ps)) (h0 : i ≠ 0) : v = .func (.func i) #[] #[] := by
  unfold fR at h
  split at h
  · next j a b =>
    split at h
    · next hab =>
      obtain ⟨rfl, rfl⟩ := hab
      injection h with h
      injection h with h1 h2
      injection h1 with h1
      rw [h1]
    · cases h
  · injection h with h
    injection h with h1 h2
    injection h1 with h1
    exact absurd h1.symm h0
  · cases h
theorem key_kind (k : Int) (hw : (Lit.int .u8 k).wf = true) : keyOf Tryz.prog 5 (.int .u8 k) = some (.int .u8 k) := Go.Maps.keyOf_int_mk ty_kind hw
def readersD : DataW Nat := (((((DataW.map [] : DataW Nat)).put (.int .u8 1) (.held 110)).put (.int .u8 2) (.held 111)).put (.int .u8 3) (.held 112)).put (.int .u8 4) (.held 113)
theorem readers_whole : readersD.atKey (.int .u8 1) (.held 0) = .held 110 := by kernel_rfl
theorem readers_promise : readersD.atKey (.int .u8 2) (.held 0) = .held 111 := by kernel_rfl
theorem readers_adopt : readersD.atKey (.int .u8 3) (.held 0) = .held 112 := by kernel_rfl
theorem readers_added : readersD.atKey (.int .u8 4) (.held 0) = .held 113 := by kernel_rfl
set_option maxRecDepth 100000 in
set_option maxHeartbeats 1000000 in
theorem readers_own (w : World) : Calls Tryz.prog 91 #[] w fun e w' => ∃ b, e = .returned (.map (some b)) ∧ Below w.heap.size w w' ∧ w'.ownsMap Tryz.prog 5 fR b 4 readersD := by
  have hmm := @run_makeMap Tryz.prog
  obtain ⟨w1, hr1, ho1, hg1⟩ := (World.ownsMap_made w Tryz.prog 5 fR).update (Go.Maps.int_keyed ty_kind) ty_readers (by unfold maxLen; omega) (key_kind 1 (by decide)) (fR_mk 110)
  obtain ⟨w2, hr2, ho2, hg2⟩ := ho1.update (Go.Maps.int_keyed ty_kind) ty_readers (by unfold maxLen; omega) (key_kind 2 (by decide)) (fR_mk 111)
  obtain ⟨w3, hr3, ho3, hg3⟩ := ho2.update (Go.Maps.int_keyed ty_kind) ty_readers (by unfold maxLen; omega) (key_kind 3 (by decide)) (fR_mk 112)
  obtain ⟨w4, hr4, ho4, hg4⟩ := ho3.update (Go.Maps.int_keyed ty_kind) ty_readers (by unfold maxLen; omega) (key_kind 4 (by decide)) (fR_mk 113)
  have HO := Lib.hid ho4
  have hB : Below w.heap.size w (w.alloc (.map #[] 0)) := (Below.refl _ _).alloc (Nat.le_refl _) _
  have hb1 := hB.grown hg1 hB.size (fun k e => by cases e; exact Nat.le_refl _)
  have hb2 := hb1.grown hg2 hb1.size (fun k e => by cases e; exact Nat.le_refl _)
  have hb3 := hb2.grown hg3 hb2.size (fun k e => by cases e; exact Nat.le_refl _)
  have hb4 := hb3.grown hg4 hb3.size (fun k e => by cases e; exact Nat.le_refl _)
  have HB := Lib.hid hb4
  clear ho1 hg1 hb1 ho2 hg2 hb2 ho3 hg3 hb3 ho4 hg4 hb4 hB
  go_enter Tryz.func91, Tryz.ntmps91
  go_wp2_with fail
  go_ret
  exact ⟨_, rfl, HB.out, HO.out⟩
/-- The reader of a kind is there, in this and each later world in which the map is as it was. -/
def Reads1 (b : Nat) (w : World) : Prop := w.ownsMap Tryz.prog 5 fR b 4 readersD
theorem reads1_look {b : Nat} {w : World} (h : Reads1 b w) (k F : Nat) (hk : k < 256) (hF : F ≠ 0) (hd : readersD.atKey (.int .u8 (k : Int)) (.held 0) = .held F) :
    (Instr.lookup 150 (.map (some b)) (.int .u8 (k : Int)) true).run Tryz.prog w = .ok (.tuple #[.func (.func F) #[] #[], .bool true]) w := by
  have hkey := key_kind (k : Int) (by simp [Lit.wf, IntKind.min, IntKind.max, IntKind.signed, IntKind.bits]; omega)
  obtain ⟨es, clock, hb, Fi, _, hD⟩ := h
  rcases Maps.fit_look true (Go.Maps.int_keyed ty_kind) ty_readers (zero_reader w) hb Fi hkey with ⟨_, _, hat⟩ | ⟨e0, y, _, _, hrun, hRv, hat, _⟩
  · have := hat (.held 0)
    rw [← hD, hd] at this
    exact absurd (DataW.held.inj this) hF
  · have h2 := hat (.held 0)
    rw [← hD, hd] at h2
    obtain ⟨y1, y2⟩ := y
    have h3 : DataW.held F = y1 := h2
    rw [← h3] at hRv
    have hv := fR_inv hRv hF
    rw [hv] at hrun
    exact hrun
end Go.Proofs.YtmhfhhhhbcignaaGreat.Sto

namespace Go.Proofs.YtmhfhhhhbcignaaGreat.Sto
open Go.RowKit

/-- Block r is a reader in state s, its bytes in blocks of Q. -/
def RdrQ (Q : Nat → Prop) (w : World) (r : Nat) (s : List UInt8 × Bool) : Prop :=
  ∃ A n c, Bk w r 160 #[.slice A n c, .bool s.2] ∧ n ≤ c ∧ c ≤ 1000000000000 ∧ Rd w A n s.1 ∧ ∀ a, A = some a → Q a.block
theorem RdrQ.rdr {Q : Nat → Prop} {w : World} {r : Nat} {s : List UInt8 × Bool} (h : RdrQ Q w r s) : Rdr w r s := by
  obtain ⟨A, n, c, h1, h2, h3, h4, _⟩ := h
  exact ⟨A, n, c, h1, h2, h3, h4⟩
theorem q_drop {Q : Nat → Prop} {A : Option Addr} {k c : Nat} (hq : ∀ a, A = some a → Q a.block) : ∀ a, (if c = k then A else A.map (·.add k)) = some a → Q a.block := by
  intro a ha
  split at ha
  · exact hq a ha
  · cases A with
    | none => cases ha
    | some b =>
      injection ha with ha
      rw [← ha, addr_add_block]
      exact hq b rfl
theorem RdrQ.lt {Q : Nat → Prop} {w : World} {r : Nat} {s : List UInt8 × Bool} (h : RdrQ Q w r s) : r < w.heap.size := by
  obtain ⟨A, n, c, hb, _⟩ := h
  exact hb.lt
theorem RdrQ.out {Q X : Nat → Prop} {w w' : World} {r : Nat} {s : List UInt8 × Bool} (h : RdrQ Q w r s) (ho : Disk.Out X w w') (hr : ¬ X r) (hx : ∀ k, Q k → ¬ X k) : RdrQ Q w' r s := by
  obtain ⟨A, n, c, h1, h2, h3, h4, h5⟩ := h
  exact ⟨A, n, c, h1.kept (ho.block r h1.lt hr), h2, h3, Log.rdb_out h4 ho fun a ha => hx _ (h5 a ha), h5⟩
theorem RdrQ.below {Q : Nat → Prop} {w w' : World} {r : Nat} {s : List UInt8 × Bool} (h : RdrQ Q w r s) (hb : Below w.heap.size w w') : RdrQ Q w' r s :=
  h.out (X := fun _ => False) (Disk.Out.of_below hb) (fun q => q) fun _ _ q => q
theorem rdr_set0Q {Q : Nat → Prop} {w : World} {r : Nat} {A A' : Option Addr} {n c n' c' : Nat} {b : Bool} {bs' : List UInt8} (hb : Bk w r 160 #[.slice A n c, .bool b]) (hnc : n' ≤ c') (hc : c' ≤ 1000000000000) (h : Rd w A' n' bs') (hq : ∀ a, A' = some a → Q a.block) :
    RdrQ Q (w.setCell ⟨r, 0, none⟩ (.slice A' n' c')) r (bs', b) :=
  ⟨A', n', c', by simpa using hb.set 0 (.slice A' n' c'), hnc, hc, Rd.setCell hb (rdr_nobyte _ _ _ _) h 0 _, hq⟩
theorem rdr_set1Q {Q : Nat → Prop} {w : World} {r : Nat} {A : Option Addr} {n c : Nat} {b b' : Bool} {bs : List UInt8} (hb : Bk w r 160 #[.slice A n c, .bool b]) (hnc : n ≤ c) (hc : c ≤ 1000000000000) (h : Rd w A n bs) (hq : ∀ a, A = some a → Q a.block) :
    RdrQ Q (w.setCell ⟨r, 1, none⟩ (.bool b')) r (bs, b') :=
  ⟨A, n, c, by simpa using hb.set 1 (.bool b'), hnc, hc, Rd.setCell hb (rdr_nobyte _ _ _ _) h 1 _, hq⟩
/-- What a reading call leaves: block r is a reader in state s, nothing else has turned. -/
def RedQ (Q : Nat → Prop) (w : World) (r : Nat) (v : Value) (s : List UInt8 × Bool) (e : Ending) (w' : World) : Prop := e = .returned v ∧ RdrQ Q w' r s ∧ w.grownBy w' (some r)
theorem readU_anyQ {Q : Nat → Prop} (r k : Nat) (kk : Int) (s : List UInt8 × Bool) (w : World) (h : RdrQ Q w r s) (hkk : kk = k) (hk8 : k ≤ 8) :
    Calls Tryz.prog 123 #[.pointer (some ⟨r, 0, none⟩), .int .u64 kk, .func (.func 124) #[] #[]] w (RedQ Q w r (.int .u64 (val (takeS k s).1 : Int)) (takeS k s).2) := by
  obtain ⟨bs, bad⟩ := s
  obtain ⟨A, n, c, hb, hnc, hc, hr, hq⟩ := h
  have hl := hr.len
  simp only at hb hr hl
  cases bad with
  | true =>
    refine (readU_bad r A n c kk _ w hb).mono ?_
    rintro e w' ⟨rfl, rfl⟩
    simp only [takeS, true_or, if_true]
    exact ⟨rfl, ⟨A, n, c, hb, hnc, hc, hr, hq⟩, grown_refl _ _⟩
  | false =>
    by_cases hk : n < k
    · refine (readU_short r A n c k kk _ w hb (by omega) hkk hk).mono ?_
      rintro e w' ⟨rfl, rfl⟩
      simp only [takeS, hl, hk, or_true, if_true]
      exact ⟨rfl, rdr_set1Q hb hnc hc hr hq, grown_set _ _ _ _⟩
    · refine (readU_ok r A n c k kk bs w hb hnc hc hr hkk (by omega) hk8).mono ?_
      rintro e w' ⟨rfl, rfl⟩
      have hs : takeS k (bs, false) = (bs.take k, (bs.drop k, false)) := by simp [takeS, hl, hk]
      rw [hs]
      exact ⟨rfl, rdr_set0Q hb (by omega) (by omega) (hr.drop (by omega) hnc) (q_drop hq), grown_set _ _ _ _⟩
set_option maxHeartbeats 400000 in
theorem number_anyQ {Q : Nat → Prop} (r k : Nat) (kk : Int) (s : List UInt8 × Bool) (w : World) (h : RdrQ Q w r s) (hkk : kk = k) (hk8 : k ≤ 8) :
    Calls Tryz.prog 102 #[.pointer (some ⟨r, 0, none⟩), .int .u64 kk] w (RedQ Q w r (.int .u64 (val (takeS k s).1 : Int)) (takeS k s).2) := by
  have H := Lib.hid h
  have HE := Lib.hid hkk
  clear h hkk
  go_enter Tryz.func102, Tryz.ntmps102
  go_wp2_with fail
  refine (readU_anyQ r k kk s w H.out HE.out hk8).mono ?_
  rintro e w' ⟨rfl, h1, h2⟩
  have H1 := Lib.hid h1
  have H2 := Lib.hid h2
  clear h1 h2
  go_wp2_with fail
  go_ret
  exact ⟨rfl, H1.out, H2.out⟩
set_option maxHeartbeats 400000 in
theorem rByte_anyQ {Q : Nat → Prop} (r : Nat) (s : List UInt8 × Bool) (w : World) (h : RdrQ Q w r s) :
    Calls Tryz.prog 92 #[.pointer (some ⟨r, 0, none⟩)] w (RedQ Q w r (.int .u8 (val (takeS 1 s).1 : Int)) (takeS 1 s).2) := by
  have H := Lib.hid h
  clear h
  have hv : val (takeS 1 s).1 < 256 := Nat.lt_of_lt_of_le (val_lt _) (Nat.le_trans (Nat.pow_le_pow_right (by omega) (takeS_len 1 s)) (by decide))
  go_enter Tryz.func92, Tryz.ntmps92
  go_wp2_with fail
  refine (number_anyQ r 1 1 s w H.out rfl (by omega)).mono ?_
  rintro e w' ⟨rfl, h1, h2⟩
  have H1 := Lib.hid h1
  have H2 := Lib.hid h2
  clear h1 h2
  go_wp2_with fail
  go_ret
  exact ⟨rfl, H1.out, H2.out⟩
set_option maxHeartbeats 400000 in
theorem rUint_anyQ {Q : Nat → Prop} (r : Nat) (s : List UInt8 × Bool) (w : World) (h : RdrQ Q w r s) :
    Calls Tryz.prog 87 #[.pointer (some ⟨r, 0, none⟩)] w (RedQ Q w r (.int .u64 (val (takeS 8 s).1 : Int)) (takeS 8 s).2) := by
  have H := Lib.hid h
  clear h
  go_enter Tryz.func87, Tryz.ntmps87
  go_wp2_with fail
  refine (number_anyQ r 8 8 s w H.out rfl (by omega)).mono ?_
  rintro e w' ⟨rfl, h1, h2⟩
  have H1 := Lib.hid h1
  have H2 := Lib.hid h2
  clear h1 h2
  go_wp2_with fail
  go_ret
  exact ⟨rfl, H1.out, H2.out⟩
set_option maxHeartbeats 400000 in
theorem rBad_anyQ {Q : Nat → Prop} (r : Nat) (s : List UInt8 × Bool) (w : World) (h : RdrQ Q w r s) :
    Calls Tryz.prog 140 #[.pointer (some ⟨r, 0, none⟩)] w (RedQ Q w r (.tuple #[]) (s.1, true)) := by
  obtain ⟨A, n, c, hb, hnc, hc, hr, hq⟩ := h
  have HB := Lib.hid hb
  have HR := Lib.hid hr
  have c1 := hb.cell 1
  have f0 := hb.frozen 1
  clear hb hr
  simp at c1
  go_enter Tryz.func140, Tryz.ntmps140
  go_wp2_with fail
  go_end0
  exact ⟨rfl, rdr_set1Q HB.out hnc hc HR.out hq, grown_set _ _ _ _⟩
/-- What a reading call of bytes leaves. -/
def RedBQ (Q : Nat → Prop) (w : World) (r : Nat) (bs : List UInt8) (s : List UInt8 × Bool) (e : Ending) (w' : World) : Prop :=
  ∃ A n c, e = .returned (.slice A n c) ∧ w'.ownsRow w.heap.size 5 1 (.slice A n c) n (bs.map U) ∧ RdrQ Q w' r s ∧ w.grownBy w' (some r)
theorem readB_anyQ {Q : Nat → Prop} (r k : Nat) (kk : Int) (s : List UInt8 × Bool) (w : World) (h : RdrQ Q w r s) (hkk : kk = k) :
    Calls Tryz.prog 125 #[.pointer (some ⟨r, 0, none⟩), .int .u64 kk, .func (.func 126) #[] #[]] w (RedBQ Q w r (takeS k s).1 (takeS k s).2) := by
  obtain ⟨bs, bad⟩ := s
  obtain ⟨A, n, c, hb, hnc, hc, hr, hq⟩ := h
  have hl := hr.len
  simp only at hb hr hl
  cases bad with
  | true =>
    refine (readB_bad r A n c kk _ w hb).mono ?_
    rintro e w' ⟨rfl, rfl⟩
    simp only [takeS, true_or, if_true]
    exact ⟨none, 0, 0, rfl, World.ownsRow_nil _ _ _ _, ⟨A, n, c, hb, hnc, hc, hr, hq⟩, grown_refl _ _⟩
  | false =>
    by_cases hk : n < k
    · refine (readB_short r A n c k kk _ w hb (by omega) hkk hk).mono ?_
      rintro e w' ⟨rfl, rfl⟩
      simp only [takeS, hl, hk, or_true, if_true]
      exact ⟨none, 0, 0, rfl, World.ownsRow_nil _ _ _ _, rdr_set1Q hb hnc hc hr hq, grown_set _ _ _ _⟩
    · refine (readB_ok r A n c k kk bs w hb hnc hc hr hkk (by omega)).mono ?_
      rintro e w' ⟨w1, rfl, hown, hbel, rfl⟩
      have hs : takeS k (bs, false) = (bs.take k, (bs.drop k, false)) := by simp [takeS, hl, hk]
      rw [hs]
      exact ⟨_, k, k, rfl, ownsRow_setCell_below hown hb.lt _, rdr_set0Q (hb.below hbel) (by omega) (by omega) ((hr.below hbel).drop (by omega) hnc) (q_drop hq), grown_trans (grown_of_below hbel _) (grown_set _ _ _ _)⟩
set_option maxHeartbeats 400000 in
theorem rText_anyQ {Q : Nat → Prop} (r : Nat) (s : List UInt8 × Bool) (w : World) (h : RdrQ Q w r s) :
    Calls Tryz.prog 104 #[.pointer (some ⟨r, 0, none⟩)] w (RedBQ Q w r (textS s).1 (textS s).2) := by
  have H := Lib.hid h
  clear h
  go_enter Tryz.func104, Tryz.ntmps104
  go_wp2_with fail
  refine (number_anyQ r 4 4 s w H.out rfl (by omega)).mono ?_
  rintro e w1 ⟨rfl, h1, h2⟩
  have H1 := Lib.hid h1
  have H2 := Lib.hid h2
  clear h1 h2
  go_wp2_with fail
  refine (readB_anyQ r _ _ (takeS 4 s).2 w1 H1.out rfl).mono ?_
  rintro e w2 ⟨A, n, c, rfl, hown, h3, h4⟩
  have HO := Lib.hid hown
  have H3 := Lib.hid h3
  have H4 := Lib.hid h4
  clear hown h3 h4
  go_wp2_with fail
  go_ret
  exact ⟨A, n, c, rfl, own_base HO.out H2.out.size, H3.out, grown_trans H2.out H4.out⟩
set_option maxHeartbeats 400000 in
theorem rCount_anyQ {Q : Nat → Prop} (r : Nat) (most : Int) (s : List UInt8 × Bool) (w : World) (h : RdrQ Q w r s) (hm : most ≤ 9223372036854775807) (hm2 : -9223372036854775808 ≤ most) :
    Calls Tryz.prog 139 #[.pointer (some ⟨r, 0, none⟩), .int .i64 most] w (RedQ Q w r (.int .i64 (countS most s).1) (countS most s).2) := by
  have H := Lib.hid h
  have hv := takeS_val8 8 s (by omega)
  clear h
  by_cases h0 : most < 0
  · have hs : countS most s = (0, ((takeS 8 s).2.1, true)) := by unfold countS; rw [if_pos (.inl h0)]
    rw [hs]
    clear hs
    go_enter Tryz.func139, Tryz.ntmps139
    go_wp2_with fail
    refine (number_anyQ r 8 8 s w H.out rfl (by omega)).mono ?_
    rintro e w1 ⟨rfl, h1, h2⟩
    have H1 := Lib.hid h1
    have H2 := Lib.hid h2
    clear h1 h2
    go_wp2_with fail
    refine (rBad_anyQ r _ w1 H1.out).mono ?_
    rintro e w2 ⟨rfl, h1, h2⟩
    have H3 := Lib.hid h1
    have H4 := Lib.hid h2
    clear h1 h2
    go_wp2_with fail
    go_ret
    exact ⟨rfl, H3.out, grown_trans H2.out H4.out⟩
  · by_cases h1 : most < (val (takeS 8 s).1 : Int)
    · have hs : countS most s = (0, ((takeS 8 s).2.1, true)) := by unfold countS; rw [if_pos (.inr h1)]
      rw [hs]
      clear hs
      go_enter Tryz.func139, Tryz.ntmps139
      go_wp2_with fail
      refine (number_anyQ r 8 8 s w H.out rfl (by omega)).mono ?_
      rintro e w1 ⟨rfl, h1', h2⟩
      have H1 := Lib.hid h1'
      have H2 := Lib.hid h2
      clear h1' h2
      go_wp2_with fail
      refine (rBad_anyQ r _ w1 H1.out).mono ?_
      rintro e w2 ⟨rfl, h1', h2⟩
      have H3 := Lib.hid h1'
      have H4 := Lib.hid h2
      clear h1' h2
      go_wp2_with fail
      go_ret
      exact ⟨rfl, H3.out, grown_trans H2.out H4.out⟩
    · have hs : countS most s = (val (takeS 8 s).1, (takeS 8 s).2) := by unfold countS; rw [if_neg (by omega)]
      rw [hs]
      clear hs
      go_enter Tryz.func139, Tryz.ntmps139
      go_wp2_with fail
      refine (number_anyQ r 8 8 s w H.out rfl (by omega)).mono ?_
      rintro e w1 ⟨rfl, h1', h2⟩
      have H1 := Lib.hid h1'
      have H2 := Lib.hid h2
      clear h1' h2
      go_wp2_with fail
      go_ret
      exact ⟨rfl, H1.out, H2.out⟩
end Go.Proofs.YtmhfhhhhbcignaaGreat.Sto
