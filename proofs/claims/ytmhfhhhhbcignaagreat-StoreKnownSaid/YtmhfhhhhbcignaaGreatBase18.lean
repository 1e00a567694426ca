/- Lemmas, part 18: StoRead, StoStill, StoAdopt -/
import Derived.Test.YtmhfhhhhbcignaaGreatBase17
import Derived.StillTailTactics
import Derived.KernelRfl
namespace Go.Proofs.YtmhfhhhhbcignaaGreat.Sto
open Go.RowKit Disk Log

theorem grown_out {w w' : World} {r : Nat} (h : w.grownBy w' (some r)) : Out (· = r) w w' := ⟨h.os, h.tape, h.output, h.size, fun k hk hx => h.block k hk (fun e => by injection e with e; exact hx e)⟩
/-- A number is read. -/
theorem uint_of {Q : Nat → Prop} (rd x : Nat) (rest : List UInt8) (V : World) (h : RdrQ Q V rd (be 8 x ++ rest, false)) (hx : x < 18446744073709551616) :
    Calls Tryz.prog 87 #[.pointer (some ⟨rd, 0, none⟩)] V fun e w' => e = .returned (.int .u64 (x : Int)) ∧ RdrQ Q w' rd (rest, false) ∧ V.grownBy w' (some rd) := by
  obtain ⟨h1, h2⟩ := take_num hx rest
  exact (rUint_anyQ rd _ V h).mono fun e w' ⟨q1, q2, q3⟩ => ⟨by rw [q1, h1, h2], by rw [h1] at q2; exact q2, q3⟩
/-- A text is read. -/
theorem text_of {Q : Nat → Prop} (rd : Nat) (b rest : List UInt8) (V : World) (h : RdrQ Q V rd (be 4 b.length ++ (b ++ rest), false)) (hb : b.length ≤ 4096) :
    Calls Tryz.prog 104 #[.pointer (some ⟨rd, 0, none⟩)] V fun e w' => ∃ A n c, e = .returned (.slice A n c) ∧ w'.ownsRow V.heap.size 5 1 (.slice A n c) n (b.map U) ∧ RdrQ Q w' rd (rest, false) ∧ V.grownBy w' (some rd) := by
  have h1 := take_text hb rest
  exact (rText_anyQ rd _ V h).mono fun e w' ⟨A, n, c, q1, q2, q3, q4⟩ => ⟨A, n, c, q1, by rw [h1] at q2; exact q2, by rw [h1] at q3; exact q3, q4⟩
theorem count_of {Q : Nat → Prop} (rd n : Nat) (rest : List UInt8) (V : World) (h : RdrQ Q V rd (be 8 n ++ rest, false)) (hn : n ≤ 256) :
    Calls Tryz.prog 139 #[.pointer (some ⟨rd, 0, none⟩), .int .i64 256] V fun e w' => e = .returned (.int .i64 (n : Int)) ∧ RdrQ Q w' rd (rest, false) ∧ V.grownBy w' (some rd) := by
  have h1 := count_num hn rest
  exact (rCount_anyQ rd 256 _ V h (by omega) (by omega)).mono fun e w' ⟨q1, q2, q3⟩ => ⟨by rw [q1, h1], by rw [h1] at q2; exact q2, q3⟩
/-- Lines that a record can tell. -/
def Told (ls : List Ln) : Prop := ls.length ≤ 256 ∧ ∀ x ∈ ls, x.bytes.length ≤ 4096 ∧ x.epoch < 18446744073709551616
theorem drop_flat (ls : List Ln) (j : Nat) (h : j < ls.length) (rest : List UInt8) : (ls.drop j).flatMap lineT ++ rest = be 8 ls[j].epoch ++ (be 4 ls[j].bytes.length ++ (ls[j].bytes ++ ((ls.drop (j + 1)).flatMap lineT ++ rest))) := by
  rw [List.drop_eq_getElem_cons h, List.flatMap_cons]
  simp only [lineT, List.append_assoc]
def RelRl (Q : Nat → Prop) (w : World) (rd : Nat) (ls : List Ln) (rest : List UInt8) (v i : Value) (wr : World) : Prop :=
  ∃ (j : Nat) (xs : List Value), j ≤ ls.length ∧ i = .int .i64 (j : Int) ∧ wr.ownsRow w.heap.size 63 2 v j (lnsC (ls.take j) xs) ∧ Fresh w.heap.size wr xs ((ls.take j).map (·.bytes)) ∧ RdrQ Q wr rd ((ls.drop j).flatMap lineT ++ rest, false) ∧ Out (· = rd) w wr ∧ Bk wr w.heap.size 147 #[.pointer (some ⟨rd, 0, none⟩)]
def LinesPost (Q : Nat → Prop) (w : World) (rd : Nat) (ls : List Ln) (rest : List UInt8) (e : Ending) (w' : World) : Prop :=
  ∃ A c, e = .returned (.slice A ls.length c) ∧ OwnL w.heap.size w' (.slice A ls.length c) ls ∧ RdrQ Q w' rd (rest, false) ∧ Out (· = rd) w w'
set_option maxRecDepth 8000 in
set_option maxHeartbeats 4000000 in
theorem lines_any (Q : Nat → Prop) (rd : Nat) (ls : List Ln) (rest : List UInt8) (w : World) (h : RdrQ Q w rd (linesT ls ++ rest, false)) (ht : Told ls) (hQ : ∀ b, Q b → b < w.heap.size ∧ b ≠ rd) :
    Calls Tryz.prog 132 #[.agg #[.pointer (some ⟨rd, 0, none⟩)]] w (LinesPost Q w rd ls rest) := by
  obtain ⟨i0, hi, hz0, hz1, hz2⟩ := info_parts info_line
  have HI := Lib.hid hi
  have HZ0 := Lib.hid hz0
  have HZ1 := Lib.hid hz1
  have HZ2 := Lib.hid hz2
  have hrl := h.lt
  have HQ := Lib.hid hQ
  have HT := Lib.hid ht
  have hwb : Below w.heap.size w (w.alloc (.cells #[.pointer (some ⟨rd, 0, none⟩)] 147)) := (Below.refl _ _).alloc (Nat.le_refl _) _
  have HBX : Hid (Bk (w.alloc (.cells #[.pointer (some ⟨rd, 0, none⟩)] 147)) w.heap.size 147 #[.pointer (some ⟨rd, 0, none⟩)]) := Bk.new w _ _
  have HRL : Hid (rd < w.heap.size) := hrl
  have hr2 : RdrQ Q (w.alloc (.cells #[.pointer (some ⟨rd, 0, none⟩)] 147)) rd (be 8 ls.length ++ (ls.flatMap lineT ++ rest), false) := by
    have h2 := h.below hwb
    unfold linesT at h2
    rw [List.append_assoc] at h2
    exact h2
  have CC := Lib.hid (count_of rd ls.length _ _ hr2 ht.1)
  have HWB := Lib.hid hwb
  have HN : Hid (ls.length ≤ 256) := ht.1
  clear hi hz0 hz1 hz2 h ht hr2 hwb hrl hQ
  obtain ⟨n, hn⟩ : ∃ n, n = ls.length := ⟨_, rfl⟩
  have HNE := Lib.hid hn
  rw [← hn] at CC HN
  clear hn
  go_enter Tryz.func132, Tryz.ntmps132
  go_wp2_with fail
  refine CC.out.mono ?_
  rintro e w1 ⟨rfl, hr1, hg1⟩
  have HO1 : Hid (Out (· = rd) w w1) := (Out.of_below HWB.out).trans (grown_out hg1) fun _ h => .inl h
  have HB1 : Hid (Bk w1 w.heap.size 147 #[.pointer (some ⟨rd, 0, none⟩)]) := HBX.out.kept (hg1.block _ HBX.out.lt (fun e => by injection e with e; have := HRL.out; omega))
  have HR1 := Lib.hid hr1
  clear hr1 hg1
  go_wp2_with fail
  go_loopw [3, 7] (fun v i wr => RelRl Q w rd ls rest v i wr) (fun _ i _ => n - (intOf i).toNat)
  case atStart => exact ⟨0, [], Nat.zero_le _, rfl, ⟨rfl, .inl ⟨rfl, rfl⟩⟩, ⟨rfl, fun j b hj => by simp at hj⟩, HR1.out, HO1.out, HB1.out⟩
  case round =>
    obtain ⟨j, xs, hj, rfl, hown, hfr, hrr, hout, hbx⟩ := hrel
    rw [← HNE.out] at hj
    have HO := Lib.hid hown
    have HF := Lib.hid hfr
    have HRR := Lib.hid hrr
    have HOU := Lib.hid hout
    have HBX2 := Lib.hid hbx
    clear hown hfr hrr hout hbx
    by_cases hlt : j < n
    · have hjl : j < ls.length := by have := HNE.out; omega
      have hxb := HT.out.2 _ (List.getElem_mem hjl)
      have hs := drop_flat ls j hjl rest
      have HTK := Lib.hid (List.take_append_getElem hjl).symm
      have HRR2 := HRR.out
      rw [hs] at HRR2
      have HR := Lib.hid HRR2
      obtain ⟨x, hx⟩ : ∃ x, x = ls[j] := ⟨_, rfl⟩
      rw [← hx] at HR hxb HTK
      have HXB := Lib.hid hxb
      have HW : Hid (wrap64 ((j : Int) + 1) = ((j + 1 : Nat) : Int)) := by
        have := HN.out
        show _ = _
        rw [IntWalk.wrap64_in _ (by omega)]
        omega
      have hnr : ¬ w.heap.size = rd := by have := HRL.out; omega
      have k0 : wr.cell? ⟨w.heap.size, 0, none⟩ = some (.pointer (some ⟨rd, 0, none⟩)) := HBX2.out.cell 0
      have HSD : Hid (wr.drew.cell? ⟨w.heap.size, 0, none⟩ = some (.pointer (some ⟨rd, 0, none⟩))) := k0
      have HRD : Hid (RdrQ Q wr.drew rd (be 8 x.epoch ++ (be 4 x.bytes.length ++ (x.bytes ++ ((ls.drop (j + 1)).flatMap lineT ++ rest))), false)) := HR.out.below (Below.refl _ wr).drew
      have CU := Lib.hid (uint_of rd x.epoch _ wr.drew HRD.out HXB.out.2)
      have HBS : Hid (w.heap.size < wr.heap.size) := HBX2.out.lt
      have HLX : Hid ((ls.take j).length = xs.length) := by
        have := HF.out.len
        rw [List.length_map] at this
        exact this.symm
      have HNO : Hid (u3.ownBlock ≠ some rd) := fun e => by
        have := (HO.out.lt _ e).1
        have := HRL.out
        omega
      have HNO2 : Hid (u3.ownBlock ≠ some w.heap.size) := fun e => by
        obtain ⟨c, fz, hh⟩ := Lib.ownsRow_kind HO.out _ e
        rw [HBX2.out] at hh
        injection hh with hh
        injection hh with _ hh
        exact absurd hh (by decide)
      clear hs HRR2 hxb hx
      go_wp2_with fail
      go_region_held3 (fun V => V.cell? ⟨w.heap.size, 0, none⟩ = some (.pointer (some ⟨rd, 0, none⟩)))
        (first | (with_reducible assumption) | (with_reducible exact HSD.out) | (with_reducible exact HS1.out) | (with_reducible exact HS2.out) | (with_reducible exact HAL.out _) | (with_reducible exact HS5.out))
        (first
          | (go_at_call 87; (with_reducible refine CU.out.mono ?_); rintro e w5 ⟨rfl, hr5, hg5⟩; have HR5 := Lib.hid hr5; have HG5 := Lib.hid hg5; have HS1 : Hid (w5.cell? ⟨w.heap.size, 0, none⟩ = some (.pointer (some ⟨rd, 0, none⟩))) := ((grown_out hg5).cell (p := ⟨w.heap.size, 0, none⟩) HBS.out hnr).trans HSD.out; have CT := Lib.hid (text_of rd x.bytes _ w5 HR5.out HXB.out.1); clear hr5 hg5)
          | (go_at_call 104; (with_reducible refine CT.out.mono ?_); rintro e w7 ⟨A2, n2, c3, rfl, hown2, hr7, hg7⟩; have HO2 := Lib.hid hown2; have HR7 := Lib.hid hr7; have HG7 := Lib.hid hg7; have HSZ : Hid (wr.heap.size ≤ w7.heap.size) := Nat.le_trans HG5.out.size hg7.size; have HS2 : Hid (w7.cell? ⟨w.heap.size, 0, none⟩ = some (.pointer (some ⟨rd, 0, none⟩))) := ((grown_out hg7).cell (p := ⟨w.heap.size, 0, none⟩) (Nat.lt_of_lt_of_le HBS.out HG5.out.size) hnr).trans HS1.out; have HAL : Hid (∀ ob : Obj, (w7.alloc ob).cell? ⟨w.heap.size, 0, none⟩ = some (.pointer (some ⟨rd, 0, none⟩))) := (fun ob => ((Out.alloc (X := fun _ => False) w7 ob).cell (p := ⟨w.heap.size, 0, none⟩) (Nat.lt_of_lt_of_le HBS.out HSZ.out) (fun h => h)).trans HS2.out); have HOW := Lib.hid ((World.ownsRow.kept (w' := w5) (row := some rd) HO.out.drew HG5.out (.inr HNO.out)).kept HG7.out (.inr HNO.out)); clear hown2 hr7 hg7)
          | ((refine step_append_lies _ (by rfl) _ _ _ (by rfl) w.heap.size 63 i0 _ 2 32 ty_lines HI.out HZ0.out HZ1.out HZ2.out rfl (by omega) u3 j _ (by rfl) (HOW.out.alloc _) ⟨w7.heap.size, 0, none⟩ 1 1 (lnC x (.slice A2 n2 c3)) (by rfl) (by rfl) (World.news_of_block (cs := (lnC x (.slice A2 n2 c3)).toArray) (t := 63) (fr := (0, 0)) (heap_alloc_new w7 _)) (by simp [lnC, Value.oneCell']) (by omega) (by unfold maxLen; have := HN.out; omega) (by have := HN.out; omega) (by have := HSZ.out; have := HBS.out; simp; omega) (w7.heap.size + 1) (by simp) ?_); intro gg cap w8 hown8 hgr8 hat8 hlt8; have HO8 := Lib.hid hown8; have HG8 := Lib.hid hgr8; have HS5 : Hid (w8.cell? ⟨w.heap.size, 0, none⟩ = some (.pointer (some ⟨rd, 0, none⟩))) := (HG8.out.cell_far _ (by have := HSZ.out; have := HBS.out; simp; omega) (Ne.symm HNO2.out)).trans (HAL.out _); clear hown8 hgr8 hat8 hlt8))
      have hba : Below w7.heap.size w7 (w7.alloc (.cells #[.int .u64 (x.epoch : Int), .slice A2 n2 c3] 63)) := (Below.refl _ _).alloc (Nat.le_refl _) _
      have HBA := Lib.hid hba
      have HDR : Hid (Below wr.heap.size wr wr.drew) := (Below.refl _ wr).drew
      have HOA := Lib.hid (HOW.out.alloc (.cells #[.int .u64 (x.epoch : Int), .slice A2 n2 c3] 63))
      have HX8 : Hid (Out (fun b => u3.ownBlock = some b) (w7.alloc (.cells #[.int .u64 (x.epoch : Int), .slice A2 n2 c3] 63)) w8) := ⟨HG8.out.os, HG8.out.tape, HG8.out.output, HG8.out.size, fun b hb hx => HG8.out.block b hb fun e => hx e.symm⟩
      have HRD8 : Hid (RdrQ Q w8 rd ((ls.drop (j + 1)).flatMap lineT ++ rest, false)) := (HR7.out.below HBA.out).out HX8.out HNO.out fun b hb e => by
        have := (HO.out.lt _ e).1
        have := (HQ.out b hb).1
        omega
      have HO7 : Hid (Out (· = rd) w w7) := (HOU.out.trans ((Out.of_below (X := (· = rd)) HDR.out).trans (grown_out HG5.out) fun _ h => .inl h) fun _ h => .inl h).trans (grown_out HG7.out) fun _ h => .inl h
      have HO8' : Hid (Out (· = rd) w w8) := (HO7.out.trans (Out.of_below (X := (· = rd)) HBA.out) fun _ h => .inl h).trans HX8.out fun b hb => .inr (HO.out.lt b hb).1
      have HBX8 : Hid (Bk w8 w.heap.size 147 #[.pointer (some ⟨rd, 0, none⟩)]) := by
        have h7 : Bk w7 w.heap.size 147 #[.pointer (some ⟨rd, 0, none⟩)] := (HBX2.out.kept ((grown_out HG5.out).block _ HBS.out hnr)).kept ((grown_out HG7.out).block _ (Nat.lt_of_lt_of_le HBS.out HG5.out.size) hnr)
        exact (h7.below HBA.out).kept (HX8.out.block _ (by rw [World.size_alloc]; have := HSZ.out; have := HBS.out; omega) HNO2.out)
      have HF2 : Hid (Fresh w.heap.size w7 xs ((ls.take j).map (·.bytes))) := (HF.out.below HDR.out).grown HG5.out (T := 160) (by decide) (fun r hr => by injection hr with hr; subst hr; obtain ⟨_, _, _, hb, _⟩ := HRD.out; exact ⟨_, _, hb⟩) |>.grown HG7.out (T := 160) (by decide) (fun r hr => by injection hr with hr; subst hr; obtain ⟨_, _, _, hb, _⟩ := HR5.out; exact ⟨_, _, hb⟩)
      have HF3 := Lib.hid ((HF2.out.snoc (own_base HO2.out (Nat.le_trans (Nat.le_of_lt HBS.out) HG5.out.size))).below HBA.out)
      have HF4 := Lib.hid (HF3.out.grown HG8.out (by decide) (fun r hr => Lib.ownsRow_kind HOA.out r hr))
      clear hba
      go_wp2_with fail
      rw [HW.out]
      refine ⟨⟨j + 1, xs ++ [.slice A2 n2 c3], by have := HNE.out; omega, rfl, ?_, ?_, HRD8.out, HO8'.out, HBX8.out⟩, by simp [intOf]; omega⟩
      · rw [HTK.out, lnsC_snoc _ _ _ _ HLX.out]
        exact HO8.out
      · rw [HTK.out, List.map_append]
        exact HF4.out
    · obtain rfl : j = n := by omega
      have htk : ls.take j = ls := List.take_of_length_le (by have := HNE.out; omega)
      have hdr : ls.drop j = [] := List.drop_eq_nil_of_le (by have := HNE.out; omega)
      rw [htk] at HO HF
      rw [hdr] at HRR
      have HOL : Hid (OwnL w.heap.size wr u3 ls) := ⟨xs, by rw [← HNE.out]; exact HO.out, HF.out⟩
      clear htk hdr HO
      obtain ⟨A2, c2, rfl, -, -⟩ := HOL.out.form
      go_wp2_with fail
      go_ret
      exact ⟨A2, c2, rfl, HOL.out, HRR.out, HOU.out⟩
end Go.Proofs.YtmhfhhhhbcignaaGreat.Sto

namespace Go.Proofs.YtmhfhhhhbcignaaGreat.Sto

def StillAt (P : Program) (o : Oper) (a : Act) (w : World) (v : Value) : Prop := (execOp a.eval o).run P w = .ok (.value v) w
structure WS (P : Program) (ops : Array Oper) (w : World) (Q : Act → Prop) (l : List Oper) (a : Act) : Prop where
  out : wpStill P ops w Q l a
section
variable {P : Program} {ops : Array Oper} {w : World} {Q : Act → Prop} {a : Act} {o : Oper} {rest : List Oper}
theorem ws_nil (h : Q a) : WS P ops w Q [] a := ⟨wpStill_nil h⟩
theorem ws_skip (h : Region.wanted o (yielded ops a.tmps) = false) (hb : WS P ops w Q rest (a.put o.dst undef)) : WS P ops w Q (o :: rest) a :=
  ⟨wpStill_step fun _ hK => by rw [if_neg (by rw [h]; exact Bool.false_ne_true)]; exact hK _ hb.out⟩
theorem ws_want (h : Region.wanted o (yielded ops a.tmps) = true) (hx : ∃ v, StillAt P o a w v ∧ WS P ops w Q rest (a.put o.dst v)) : WS P ops w Q (o :: rest) a :=
  ⟨wpStill_step fun _ hK => by
    obtain ⟨v, h1, h2⟩ := hx
    rw [if_pos h]
    unfold Oper.still
    rw [h1]
    exact ⟨rfl, hK _ h2.out⟩⟩
end
theorem ws_tail {P : Program} {id : Nat} {Q : Exit → Act → World → Prop} {a : Act} {w : World} {l : List Oper} (n : Nat) (hm : P.follows .mixedOrders = true) (hB : Region.lexTailB .any l.toArray n = true)
    (h : WS P l.toArray { w with drawn := w.drawn + 1 } (fun a' => wpList P l.toArray Q (l.drop n) a' { w with drawn := w.drawn + 1 }) (l.take n) a) : (Code.region id l.toArray true).wp P Q a w := wp_region_still_tail n hm hB h.out
end Go.Proofs.YtmhfhhhhbcignaaGreat.Sto

namespace Go.Proofs.YtmhfhhhhbcignaaGreat.Sto
open Go.RowKit Disk Log

theorem OwnL.caps {base : Nat} {w : World} {A : Option Addr} {n c : Nat} {ls : List Ln} (h : OwnL base w (.slice A n c) ls) : ls.length ≤ c ∧ (A = none → c = 0) := by
  obtain ⟨xs, hown, _⟩ := h
  rcases hown.2 with ⟨e, h0⟩ | ⟨g, cap, cur, e, hg, hh, hnc, _⟩
  · injection e with e1 e2 e3
    exact ⟨by omega, fun _ => e3⟩
  · injection e with e1 e2 e3
    exact ⟨by omega, fun q => by rw [q] at e1; cases e1⟩
theorem out3 (g : Nat) (w : World) (x y z : Value) : Out (· = g) w (((w.setCell ⟨g, 0, none⟩ x).setCell ⟨g, 1, none⟩ y).setCell ⟨g, 2, none⟩ z) :=
  ((Out.setCell (X := (· = g)) w (p := ⟨g, 0, none⟩) rfl x).trans (Out.setCell (X := (· = g)) _ (p := ⟨g, 1, none⟩) rfl y) fun _ h => .inl h).trans (Out.setCell (X := (· = g)) _ (p := ⟨g, 2, none⟩) rfl z) fun _ h => .inl h
set_option maxRecDepth 8000 in
set_option maxHeartbeats 4000000 in
theorem adopt_run (P Q : Nat → Prop) (g b b2 : Nat) (e : Nat) (l : List Ln) (A2 : Option Addr) (c2 : Nat) (k : Kp) (w : World) (hk : KpAt Q w g k) (hb : Bk w b 32 #[.int .u64 (e : Int)]) (hb2 : Bk w b2 33 #[.slice A2 l.length c2]) (hl2 : LnS P w A2 l.length l) (hs : Small l) (hgb : b ≠ g) (hgb2 : b2 ≠ g) :
    Calls Tryz.prog 64 #[.pointer (some ⟨g, 0, none⟩), .pointer (some ⟨b, 0, none⟩), .pointer (some ⟨b2, 0, none⟩)] w (RanPost Q g k (.adopt e l) w) := by
  obtain ⟨A, c, hg, -, -, -⟩ := hk.at_
  have HG := Lib.hid hg
  have HB := Lib.hid hb
  have HB2 := Lib.hid hb2
  have HL2 := Lib.hid hl2
  have HS := Lib.hid hs
  have kb : w.cell? ⟨b, 0, none⟩ = some (.int .u64 (e : Int)) := hb.cell 0
  have kb2 : w.cell? ⟨b2, 0, none⟩ = some (.slice A2 l.length c2) := hb2.cell 0
  have k0 : w.cell? ⟨g, 0, none⟩ = some (.int .u64 (k.promised : Int)) := hg.cell 0
  have k1 : w.cell? ⟨g, 1, none⟩ = some (.int .u64 (k.current : Int)) := hg.cell 1
  have HM : Hid ((Deed.adopt e l).may k = true ↔ k.promised ≤ e ∧ k.current < e ∧ e ≤ 281474976710656 ∧ l.length ≤ 256 ∧ ∀ x ∈ l, lineB x = true ∧ x.epoch ≤ e) := may_adopt
  have HNO : Hid (∀ (_ : ¬ (k.promised ≤ e ∧ k.current < e ∧ e ≤ 281474976710656 ∧ l.length ≤ 256 ∧ ∀ x ∈ l, lineB x = true ∧ x.epoch ≤ e)), (Deed.adopt e l).may k = false) := fun h => by
    rw [Bool.eq_false_iff]
    exact fun h2 => h (HM.out.1 h2)
  have HBD : Hid (Below w.heap.size w w.drew) := (Below.refl _ w).drew
  have HLN : Hid (l.length ≤ 300000) := hs.1
  have hns : ¬ b = g := hgb
  obtain ⟨n2, hn2⟩ : ∃ n2, n2 = l.length := ⟨_, rfl⟩
  have HN2 := Lib.hid hn2
  rw [← hn2] at kb2 HLN HNO HM HB2 HL2
  clear hk hg hb hb2 hl2 hs hn2
  go_enter Tryz.func64, Tryz.ntmps64
  go_wp2_with fail
  by_cases h1 : e < k.promised
  · have h1d : decide ((e : Int) < (k.promised : Int)) = true := decide_eq_true (by omega)
    have HF := Lib.hid (HNO.out fun h => by omega)
    refine ws_tail 18 (by kernel_rfl) (by kernel_rfl) ?_
    simp only [List.take_succ_cons, List.take_zero, List.drop_succ_cons, List.drop_zero]
    refine ws_want (by kernel_rfl) ?_
    apply Exists.intro
    refine And.intro ?_ ?_
    · unfold StillAt
      first
       | (go_simp; done)
       | (go_simp; exact rfl)
    try simp only [Act.put, List.setIfInBounds_toArray, List.set_cons_zero, List.set_cons_succ]
    refine ws_want (by kernel_rfl) ?_
    apply Exists.intro
    refine And.intro ?_ ?_
    · unfold StillAt
      first
       | (go_simp; done)
       | (go_simp; exact rfl)
    try simp only [Act.put, List.setIfInBounds_toArray, List.set_cons_zero, List.set_cons_succ]
    refine ws_want (by kernel_rfl) ?_
    apply Exists.intro
    refine And.intro ?_ ?_
    · unfold StillAt
      first
       | (go_simp; done)
       | (go_simp; exact rfl)
    try simp only [Act.put, List.setIfInBounds_toArray, List.set_cons_zero, List.set_cons_succ]
    refine ws_want (by kernel_rfl) ?_
    apply Exists.intro
    refine And.intro ?_ ?_
    · unfold StillAt
      first
       | (go_simp; done)
       | (go_simp; exact rfl)
    try simp only [Act.put, List.setIfInBounds_toArray, List.set_cons_zero, List.set_cons_succ]
    refine ws_want (by kernel_rfl) ?_
    apply Exists.intro
    refine And.intro ?_ ?_
    · unfold StillAt
      first
       | (go_simp; done)
       | (go_simp; exact rfl)
    try simp only [Act.put, List.setIfInBounds_toArray, List.set_cons_zero, List.set_cons_succ]
    refine ws_want (by kernel_rfl) ?_
    apply Exists.intro
    refine And.intro ?_ ?_
    · unfold StillAt
      first
       | (go_simp; done)
       | (go_simp; exact rfl)
    try simp only [Act.put, List.setIfInBounds_toArray, List.set_cons_zero, List.set_cons_succ]
    refine ws_want (by kernel_rfl) ?_
    apply Exists.intro
    refine And.intro ?_ ?_
    · unfold StillAt
      first
       | (go_simp; done)
       | (go_simp; exact rfl)
    try simp only [Act.put, List.setIfInBounds_toArray, List.set_cons_zero, List.set_cons_succ]
    refine ws_skip (by kernel_rfl) ?_
    try simp only [Act.put, List.setIfInBounds_toArray, List.set_cons_zero, List.set_cons_succ]
    refine ws_skip (by kernel_rfl) ?_
    try simp only [Act.put, List.setIfInBounds_toArray, List.set_cons_zero, List.set_cons_succ]
    refine ws_skip (by kernel_rfl) ?_
    try simp only [Act.put, List.setIfInBounds_toArray, List.set_cons_zero, List.set_cons_succ]
    refine ws_skip (by kernel_rfl) ?_
    try simp only [Act.put, List.setIfInBounds_toArray, List.set_cons_zero, List.set_cons_succ]
    refine ws_skip (by kernel_rfl) ?_
    try simp only [Act.put, List.setIfInBounds_toArray, List.set_cons_zero, List.set_cons_succ]
    refine ws_skip (by kernel_rfl) ?_
    try simp only [Act.put, List.setIfInBounds_toArray, List.set_cons_zero, List.set_cons_succ]
    refine ws_want (by kernel_rfl) ?_
    apply Exists.intro
    refine And.intro ?_ ?_
    · unfold StillAt
      first
       | (go_simp; done)
       | (go_simp; exact rfl)
    try simp only [Act.put, List.setIfInBounds_toArray, List.set_cons_zero, List.set_cons_succ]
    refine ws_want (by kernel_rfl) ?_
    apply Exists.intro
    refine And.intro ?_ ?_
    · unfold StillAt
      first
       | (go_simp; done)
       | (go_simp; exact rfl)
    try simp only [Act.put, List.setIfInBounds_toArray, List.set_cons_zero, List.set_cons_succ]
    refine ws_skip (by kernel_rfl) ?_
    try simp only [Act.put, List.setIfInBounds_toArray, List.set_cons_zero, List.set_cons_succ]
    refine ws_skip (by kernel_rfl) ?_
    try simp only [Act.put, List.setIfInBounds_toArray, List.set_cons_zero, List.set_cons_succ]
    refine ws_want (by kernel_rfl) ?_
    apply Exists.intro
    refine And.intro ?_ ?_
    · unfold StillAt
      first
       | (go_simp; done)
       | (go_simp; exact rfl)
    try simp only [Act.put, List.setIfInBounds_toArray, List.set_cons_zero, List.set_cons_succ]
    refine ws_nil ?_
    change wpList _ _ _ _ _ w.drew
    go_wp2_with (go_at_call 53; (with_reducible refine (throw_yes _ _).mono ?_); rintro e _ ⟨rfl, rfl⟩)
    exact ⟨rfl, .inr ⟨HF.out, rfl, HBD.out⟩⟩
  · have h1d : decide ((e : Int) < (k.promised : Int)) = false := decide_eq_false (by omega)
    by_cases h2 : e ≤ k.current
    · have h2d : decide ((e : Int) ≤ (k.current : Int)) = true := decide_eq_true (by omega)
      have HF := Lib.hid (HNO.out fun h => by omega)
      refine ws_tail 18 (by kernel_rfl) (by kernel_rfl) ?_
      simp only [List.take_succ_cons, List.take_zero, List.drop_succ_cons, List.drop_zero]
      refine ws_want (by kernel_rfl) ?_
      apply Exists.intro
      refine And.intro ?_ ?_
      · unfold StillAt
        first
         | (go_simp; done)
         | (go_simp; exact rfl)
      try simp only [Act.put, List.setIfInBounds_toArray, List.set_cons_zero, List.set_cons_succ]
      refine ws_want (by kernel_rfl) ?_
      apply Exists.intro
      refine And.intro ?_ ?_
      · unfold StillAt
        first
         | (go_simp; done)
         | (go_simp; exact rfl)
      try simp only [Act.put, List.setIfInBounds_toArray, List.set_cons_zero, List.set_cons_succ]
      refine ws_want (by kernel_rfl) ?_
      apply Exists.intro
      refine And.intro ?_ ?_
      · unfold StillAt
        first
         | (go_simp; done)
         | (go_simp; exact rfl)
      try simp only [Act.put, List.setIfInBounds_toArray, List.set_cons_zero, List.set_cons_succ]
      refine ws_want (by kernel_rfl) ?_
      apply Exists.intro
      refine And.intro ?_ ?_
      · unfold StillAt
        first
         | (go_simp; done)
         | (go_simp; exact rfl)
      try simp only [Act.put, List.setIfInBounds_toArray, List.set_cons_zero, List.set_cons_succ]
      refine ws_want (by kernel_rfl) ?_
      apply Exists.intro
      refine And.intro ?_ ?_
      · unfold StillAt
        first
         | (go_simp; done)
         | (go_simp; exact rfl)
      try simp only [Act.put, List.setIfInBounds_toArray, List.set_cons_zero, List.set_cons_succ]
      refine ws_want (by kernel_rfl) ?_
      apply Exists.intro
      refine And.intro ?_ ?_
      · unfold StillAt
        first
         | (go_simp; done)
         | (go_simp; exact rfl)
      try simp only [Act.put, List.setIfInBounds_toArray, List.set_cons_zero, List.set_cons_succ]
      refine ws_want (by kernel_rfl) ?_
      apply Exists.intro
      refine And.intro ?_ ?_
      · unfold StillAt
        first
         | (go_simp; done)
         | (go_simp; exact rfl)
      try simp only [Act.put, List.setIfInBounds_toArray, List.set_cons_zero, List.set_cons_succ]
      refine ws_want (by kernel_rfl) ?_
      apply Exists.intro
      refine And.intro ?_ ?_
      · unfold StillAt
        first
         | (go_simp; done)
         | (go_simp; exact rfl)
      try simp only [Act.put, List.setIfInBounds_toArray, List.set_cons_zero, List.set_cons_succ]
      refine ws_want (by kernel_rfl) ?_
      apply Exists.intro
      refine And.intro ?_ ?_
      · unfold StillAt
        first
         | (go_simp; done)
         | (go_simp; exact rfl)
      try simp only [Act.put, List.setIfInBounds_toArray, List.set_cons_zero, List.set_cons_succ]
      refine ws_want (by kernel_rfl) ?_
      apply Exists.intro
      refine And.intro ?_ ?_
      · unfold StillAt
        first
         | (go_simp; done)
         | (go_simp; exact rfl)
      try simp only [Act.put, List.setIfInBounds_toArray, List.set_cons_zero, List.set_cons_succ]
      refine ws_want (by kernel_rfl) ?_
      apply Exists.intro
      refine And.intro ?_ ?_
      · unfold StillAt
        first
         | (go_simp; done)
         | (go_simp; exact rfl)
      try simp only [Act.put, List.setIfInBounds_toArray, List.set_cons_zero, List.set_cons_succ]
      refine ws_want (by kernel_rfl) ?_
      apply Exists.intro
      refine And.intro ?_ ?_
      · unfold StillAt
        first
         | (go_simp; done)
         | (go_simp; exact rfl)
      try simp only [Act.put, List.setIfInBounds_toArray, List.set_cons_zero, List.set_cons_succ]
      refine ws_want (by kernel_rfl) ?_
      apply Exists.intro
      refine And.intro ?_ ?_
      · unfold StillAt
        first
         | (go_simp; done)
         | (go_simp; exact rfl)
      try simp only [Act.put, List.setIfInBounds_toArray, List.set_cons_zero, List.set_cons_succ]
      refine ws_want (by kernel_rfl) ?_
      apply Exists.intro
      refine And.intro ?_ ?_
      · unfold StillAt
        first
         | (go_simp; done)
         | (go_simp; exact rfl)
      try simp only [Act.put, List.setIfInBounds_toArray, List.set_cons_zero, List.set_cons_succ]
      refine ws_want (by kernel_rfl) ?_
      apply Exists.intro
      refine And.intro ?_ ?_
      · unfold StillAt
        first
         | (go_simp; done)
         | (go_simp; exact rfl)
      try simp only [Act.put, List.setIfInBounds_toArray, List.set_cons_zero, List.set_cons_succ]
      refine ws_skip (by kernel_rfl) ?_
      try simp only [Act.put, List.setIfInBounds_toArray, List.set_cons_zero, List.set_cons_succ]
      refine ws_skip (by kernel_rfl) ?_
      try simp only [Act.put, List.setIfInBounds_toArray, List.set_cons_zero, List.set_cons_succ]
      refine ws_want (by kernel_rfl) ?_
      apply Exists.intro
      refine And.intro ?_ ?_
      · unfold StillAt
        first
         | (go_simp; done)
         | (go_simp; exact rfl)
      try simp only [Act.put, List.setIfInBounds_toArray, List.set_cons_zero, List.set_cons_succ]
      refine ws_nil ?_
      change wpList _ _ _ _ _ w.drew
      go_wp2_with (go_at_call 53; (with_reducible refine (throw_yes _ _).mono ?_); rintro e _ ⟨rfl, rfl⟩)
      exact ⟨rfl, .inr ⟨HF.out, rfl, HBD.out⟩⟩
    · have h2d : decide ((e : Int) ≤ (k.current : Int)) = false := decide_eq_false (by omega)
      by_cases h3 : (281474976710656 : Int) < (e : Int)
      · have h3d : decide ((281474976710656 : Int) < (e : Int)) = true := decide_eq_true h3
        have HF := Lib.hid (HNO.out fun h => by omega)
        clear h3
        refine ws_tail 18 (by kernel_rfl) (by kernel_rfl) ?_
        simp only [List.take_succ_cons, List.take_zero, List.drop_succ_cons, List.drop_zero]
        refine ws_want (by kernel_rfl) ?_
        apply Exists.intro
        refine And.intro ?_ ?_
        · unfold StillAt
          first
           | (go_simp; done)
           | (go_simp; exact rfl)
        try simp only [Act.put, List.setIfInBounds_toArray, List.set_cons_zero, List.set_cons_succ]
        refine ws_want (by kernel_rfl) ?_
        apply Exists.intro
        refine And.intro ?_ ?_
        · unfold StillAt
          first
           | (go_simp; done)
           | (go_simp; exact rfl)
        try simp only [Act.put, List.setIfInBounds_toArray, List.set_cons_zero, List.set_cons_succ]
        refine ws_want (by kernel_rfl) ?_
        apply Exists.intro
        refine And.intro ?_ ?_
        · unfold StillAt
          first
           | (go_simp; done)
           | (go_simp; exact rfl)
        try simp only [Act.put, List.setIfInBounds_toArray, List.set_cons_zero, List.set_cons_succ]
        refine ws_want (by kernel_rfl) ?_
        apply Exists.intro
        refine And.intro ?_ ?_
        · unfold StillAt
          first
           | (go_simp; done)
           | (go_simp; exact rfl)
        try simp only [Act.put, List.setIfInBounds_toArray, List.set_cons_zero, List.set_cons_succ]
        refine ws_want (by kernel_rfl) ?_
        apply Exists.intro
        refine And.intro ?_ ?_
        · unfold StillAt
          first
           | (go_simp; done)
           | (go_simp; exact rfl)
        try simp only [Act.put, List.setIfInBounds_toArray, List.set_cons_zero, List.set_cons_succ]
        refine ws_want (by kernel_rfl) ?_
        apply Exists.intro
        refine And.intro ?_ ?_
        · unfold StillAt
          first
           | (go_simp; done)
           | (go_simp; exact rfl)
        try simp only [Act.put, List.setIfInBounds_toArray, List.set_cons_zero, List.set_cons_succ]
        refine ws_want (by kernel_rfl) ?_
        apply Exists.intro
        refine And.intro ?_ ?_
        · unfold StillAt
          first
           | (go_simp; done)
           | (go_simp; exact rfl)
        try simp only [Act.put, List.setIfInBounds_toArray, List.set_cons_zero, List.set_cons_succ]
        refine ws_want (by kernel_rfl) ?_
        apply Exists.intro
        refine And.intro ?_ ?_
        · unfold StillAt
          first
           | (go_simp; done)
           | (go_simp; exact rfl)
        try simp only [Act.put, List.setIfInBounds_toArray, List.set_cons_zero, List.set_cons_succ]
        refine ws_want (by kernel_rfl) ?_
        apply Exists.intro
        refine And.intro ?_ ?_
        · unfold StillAt
          first
           | (go_simp; done)
           | (go_simp; exact rfl)
        try simp only [Act.put, List.setIfInBounds_toArray, List.set_cons_zero, List.set_cons_succ]
        refine ws_want (by kernel_rfl) ?_
        apply Exists.intro
        refine And.intro ?_ ?_
        · unfold StillAt
          first
           | (go_simp; done)
           | (go_simp; exact rfl)
        try simp only [Act.put, List.setIfInBounds_toArray, List.set_cons_zero, List.set_cons_succ]
        refine ws_want (by kernel_rfl) ?_
        apply Exists.intro
        refine And.intro ?_ ?_
        · unfold StillAt
          first
           | (go_simp; done)
           | (go_simp; exact rfl)
        try simp only [Act.put, List.setIfInBounds_toArray, List.set_cons_zero, List.set_cons_succ]
        refine ws_want (by kernel_rfl) ?_
        apply Exists.intro
        refine And.intro ?_ ?_
        · unfold StillAt
          first
           | (go_simp; done)
           | (go_simp; exact rfl)
        try simp only [Act.put, List.setIfInBounds_toArray, List.set_cons_zero, List.set_cons_succ]
        refine ws_want (by kernel_rfl) ?_
        apply Exists.intro
        refine And.intro ?_ ?_
        · unfold StillAt
          first
           | (go_simp; done)
           | (go_simp; exact rfl)
        try simp only [Act.put, List.setIfInBounds_toArray, List.set_cons_zero, List.set_cons_succ]
        refine ws_want (by kernel_rfl) ?_
        apply Exists.intro
        refine And.intro ?_ ?_
        · unfold StillAt
          first
           | (go_simp; done)
           | (go_simp; exact rfl)
        try simp only [Act.put, List.setIfInBounds_toArray, List.set_cons_zero, List.set_cons_succ]
        refine ws_want (by kernel_rfl) ?_
        apply Exists.intro
        refine And.intro ?_ ?_
        · unfold StillAt
          first
           | (go_simp; done)
           | (go_simp; exact rfl)
        try simp only [Act.put, List.setIfInBounds_toArray, List.set_cons_zero, List.set_cons_succ]
        refine ws_want (by kernel_rfl) ?_
        apply Exists.intro
        refine And.intro ?_ ?_
        · unfold StillAt
          first
           | (go_simp; done)
           | (go_simp; exact rfl)
        try simp only [Act.put, List.setIfInBounds_toArray, List.set_cons_zero, List.set_cons_succ]
        refine ws_want (by kernel_rfl) ?_
        apply Exists.intro
        refine And.intro ?_ ?_
        · unfold StillAt
          first
           | (go_simp; done)
           | (go_simp; exact rfl)
        try simp only [Act.put, List.setIfInBounds_toArray, List.set_cons_zero, List.set_cons_succ]
        refine ws_want (by kernel_rfl) ?_
        apply Exists.intro
        refine And.intro ?_ ?_
        · unfold StillAt
          first
           | (go_simp; done)
           | (go_simp; exact rfl)
        try simp only [Act.put, List.setIfInBounds_toArray, List.set_cons_zero, List.set_cons_succ]
        refine ws_nil ?_
        change wpList _ _ _ _ _ w.drew
        go_wp2_with (go_at_call 53; (with_reducible refine (throw_yes _ _).mono ?_); rintro e _ ⟨rfl, rfl⟩)
        exact ⟨rfl, .inr ⟨HF.out, rfl, HBD.out⟩⟩
      · have h3d : decide ((281474976710656 : Int) < (e : Int)) = false := decide_eq_false h3
        have h3' : (e : Int) ≤ 281474976710656 := by omega
        clear h3
        refine ws_tail 18 (by kernel_rfl) (by kernel_rfl) ?_
        simp only [List.take_succ_cons, List.take_zero, List.drop_succ_cons, List.drop_zero]
        refine ws_want (by kernel_rfl) ?_
        apply Exists.intro
        refine And.intro ?_ ?_
        · unfold StillAt
          first
           | (go_simp; done)
           | (go_simp; exact rfl)
        try simp only [Act.put, List.setIfInBounds_toArray, List.set_cons_zero, List.set_cons_succ]
        refine ws_want (by kernel_rfl) ?_
        apply Exists.intro
        refine And.intro ?_ ?_
        · unfold StillAt
          first
           | (go_simp; done)
           | (go_simp; exact rfl)
        try simp only [Act.put, List.setIfInBounds_toArray, List.set_cons_zero, List.set_cons_succ]
        refine ws_want (by kernel_rfl) ?_
        apply Exists.intro
        refine And.intro ?_ ?_
        · unfold StillAt
          first
           | (go_simp; done)
           | (go_simp; exact rfl)
        try simp only [Act.put, List.setIfInBounds_toArray, List.set_cons_zero, List.set_cons_succ]
        refine ws_want (by kernel_rfl) ?_
        apply Exists.intro
        refine And.intro ?_ ?_
        · unfold StillAt
          first
           | (go_simp; done)
           | (go_simp; exact rfl)
        try simp only [Act.put, List.setIfInBounds_toArray, List.set_cons_zero, List.set_cons_succ]
        refine ws_want (by kernel_rfl) ?_
        apply Exists.intro
        refine And.intro ?_ ?_
        · unfold StillAt
          first
           | (go_simp; done)
           | (go_simp; exact rfl)
        try simp only [Act.put, List.setIfInBounds_toArray, List.set_cons_zero, List.set_cons_succ]
        refine ws_want (by kernel_rfl) ?_
        apply Exists.intro
        refine And.intro ?_ ?_
        · unfold StillAt
          first
           | (go_simp; done)
           | (go_simp; exact rfl)
        try simp only [Act.put, List.setIfInBounds_toArray, List.set_cons_zero, List.set_cons_succ]
        refine ws_want (by kernel_rfl) ?_
        apply Exists.intro
        refine And.intro ?_ ?_
        · unfold StillAt
          first
           | (go_simp; done)
           | (go_simp; exact rfl)
        try simp only [Act.put, List.setIfInBounds_toArray, List.set_cons_zero, List.set_cons_succ]
        refine ws_want (by kernel_rfl) ?_
        apply Exists.intro
        refine And.intro ?_ ?_
        · unfold StillAt
          first
           | (go_simp; done)
           | (go_simp; exact rfl)
        try simp only [Act.put, List.setIfInBounds_toArray, List.set_cons_zero, List.set_cons_succ]
        refine ws_want (by kernel_rfl) ?_
        apply Exists.intro
        refine And.intro ?_ ?_
        · unfold StillAt
          first
           | (go_simp; done)
           | (go_simp; exact rfl)
        try simp only [Act.put, List.setIfInBounds_toArray, List.set_cons_zero, List.set_cons_succ]
        refine ws_want (by kernel_rfl) ?_
        apply Exists.intro
        refine And.intro ?_ ?_
        · unfold StillAt
          first
           | (go_simp; done)
           | (go_simp; exact rfl)
        try simp only [Act.put, List.setIfInBounds_toArray, List.set_cons_zero, List.set_cons_succ]
        refine ws_want (by kernel_rfl) ?_
        apply Exists.intro
        refine And.intro ?_ ?_
        · unfold StillAt
          first
           | (go_simp; done)
           | (go_simp; exact rfl)
        try simp only [Act.put, List.setIfInBounds_toArray, List.set_cons_zero, List.set_cons_succ]
        refine ws_want (by kernel_rfl) ?_
        apply Exists.intro
        refine And.intro ?_ ?_
        · unfold StillAt
          first
           | (go_simp; done)
           | (go_simp; exact rfl)
        try simp only [Act.put, List.setIfInBounds_toArray, List.set_cons_zero, List.set_cons_succ]
        refine ws_want (by kernel_rfl) ?_
        apply Exists.intro
        refine And.intro ?_ ?_
        · unfold StillAt
          first
           | (go_simp; done)
           | (go_simp; exact rfl)
        try simp only [Act.put, List.setIfInBounds_toArray, List.set_cons_zero, List.set_cons_succ]
        refine ws_want (by kernel_rfl) ?_
        apply Exists.intro
        refine And.intro ?_ ?_
        · unfold StillAt
          first
           | (go_simp; done)
           | (go_simp; exact rfl)
        try simp only [Act.put, List.setIfInBounds_toArray, List.set_cons_zero, List.set_cons_succ]
        refine ws_want (by kernel_rfl) ?_
        apply Exists.intro
        refine And.intro ?_ ?_
        · unfold StillAt
          first
           | (go_simp; done)
           | (go_simp; exact rfl)
        try simp only [Act.put, List.setIfInBounds_toArray, List.set_cons_zero, List.set_cons_succ]
        refine ws_want (by kernel_rfl) ?_
        apply Exists.intro
        refine And.intro ?_ ?_
        · unfold StillAt
          first
           | (go_simp; done)
           | (go_simp; exact rfl)
        try simp only [Act.put, List.setIfInBounds_toArray, List.set_cons_zero, List.set_cons_succ]
        refine ws_want (by kernel_rfl) ?_
        apply Exists.intro
        refine And.intro ?_ ?_
        · unfold StillAt
          first
           | (go_simp; done)
           | (go_simp; exact rfl)
        try simp only [Act.put, List.setIfInBounds_toArray, List.set_cons_zero, List.set_cons_succ]
        refine ws_want (by kernel_rfl) ?_
        apply Exists.intro
        refine And.intro ?_ ?_
        · unfold StillAt
          first
           | (go_simp; done)
           | (go_simp; exact rfl)
        try simp only [Act.put, List.setIfInBounds_toArray, List.set_cons_zero, List.set_cons_succ]
        refine ws_nil ?_
        change wpList _ _ _ _ _ w.drew
        have kb3 : w.drew.cell? ⟨b, 0, none⟩ = some (.int .u64 (e : Int)) := kb
        have kb4 : w.drew.cell? ⟨b2, 0, none⟩ = some (.slice A2 n2 c2) := kb2
        by_cases h4 : (256 : Int) < (n2 : Int)
        · have HF := Lib.hid (HNO.out fun h => by omega)
          go_wp2_with (first | (go_at_call 53; (with_reducible refine (throw_no _ _).mono ?_); rintro e _ ⟨rfl, rfl⟩) | (go_at_call 53; (with_reducible refine (throw_yes _ _).mono ?_); rintro e _ ⟨rfl, rfl⟩))
          exact ⟨rfl, .inr ⟨HF.out, rfl, HBD.out⟩⟩
        · have h4b : ((256 : Int) < (n2 : Int)) = False := eq_false h4
          have h4' : (n2 : Int) ≤ 256 := by omega
          clear h4
          have HDM : Hid (Calls Tryz.prog 65 #[.slice A2 n2 c2, .func (.func 66) #[] #[.pointer (some ⟨b, 0, none⟩)]] w.drew (DemPost l (fun x => decide (x.epoch ≤ e)) w.drew)) :=
            demand_any P A2 n2 c2 _ _ l _ w.drew (HL2.out.below HBD.out) (by omega) (HS.out.2) calls_adopt (fun V x _ hV => suits_adopt x.epoch e b V ((HB.out.below HBD.out).below hV))
          go_wp2_with (first | (go_at_call 53; (with_reducible refine (throw_no _ _).mono ?_); rintro e _ ⟨rfl, rfl⟩))
          refine HDM.out.mono ?_
          rintro r w1 ⟨hbel, hr⟩
          have HB1 := Lib.hid (HBD.out.trans hbel)
          clear hbel
          rcases hr with ⟨rfl, hall⟩ | ⟨rfl, x, hx, hbad⟩
          · have HT : Hid ((Deed.adopt e l).may k = true) := HM.out.2 ⟨by omega, by omega, by omega, by omega, fun x hx => ⟨(hall x hx).1, of_decide_eq_true (hall x hx).2⟩⟩
            clear hall
            have HC : Hid (∀ V, Below w.heap.size w V → V.cell? ⟨b, 0, none⟩ = some (.int .u64 (e : Int)) ∧ V.cell? ⟨b2, 0, none⟩ = some (.slice A2 n2 c2)) := fun V hV => ⟨(HB.out.below hV).cell 0, (HB2.out.below hV).cell 0⟩
            obtain ⟨q0, q1⟩ := HC.out w1 HB1.out
            have HB1D : Hid (Below w.heap.size w w1.drew) := HB1.out.drew
            have HSD := Lib.hid (HC.out _ HB1D.out)
            have HCP := Lib.hid (copy_any P A2 n2 c2 l w1.drew (HL2.out.below HB1D.out) (by omega) HS.out.2)
            clear kb kb2 kb3 kb4 k0 k1
            go_wp2_with fail
            go_region_held3 (fun V => V.cell? ⟨b, 0, none⟩ = some (.int .u64 (e : Int)) ∧ V.cell? ⟨b2, 0, none⟩ = some (.slice A2 n2 c2))
              (first | (with_reducible assumption) | (with_reducible exact HSD.out) | (with_reducible exact HS2.out) | (with_reducible exact HST.out _ _ _))
              (first
                | (go_at_call 37; (with_reducible refine HCP.out.mono ?_); rintro e w2 ⟨A3, c3, rfl, hown, hb3⟩; have HO := Lib.hid hown; have HB3 := Lib.hid (HB1D.out.trans (hb3.mono HB1D.out.size)); have HS2 := Lib.hid (HC.out _ HB3.out); have HG2 := Lib.hid (HG.out.below HB3.out); have HST : Hid (∀ x y z, (((w2.setCell ⟨g, 0, none⟩ x).setCell ⟨g, 1, none⟩ y).setCell ⟨g, 2, none⟩ z).cell? ⟨b, 0, none⟩ = some (.int .u64 (e : Int)) ∧ (((w2.setCell ⟨g, 0, none⟩ x).setCell ⟨g, 1, none⟩ y).setCell ⟨g, 2, none⟩ z).cell? ⟨b2, 0, none⟩ = some (.slice A2 n2 c2)) := (fun x y z => ⟨((out3 g w2 x y z).cell (p := ⟨b, 0, none⟩) (HB.out.below HB3.out).lt hgb).trans HS2.out.1, ((out3 g w2 x y z).cell (p := ⟨b2, 0, none⟩) (HB2.out.below HB3.out).lt hgb2).trans HS2.out.2⟩); have hg0 : w2.cell? ⟨g, 0, none⟩ = some (.int .u64 (k.promised : Int)) := HG2.out.cell 0; have hg1 : w2.cell? ⟨g, 1, none⟩ = some (.int .u64 (k.current : Int)) := HG2.out.cell 1; have hg2 : w2.cell? ⟨g, 2, none⟩ = some (.slice A k.lines.length c) := HG2.out.cell 2; have hf0 : w2.frozen? ⟨g, 0, none⟩ = false := HG2.out.frozen 0; have hf1 : w2.frozen? ⟨g, 1, none⟩ = false := HG2.out.frozen 1; have hf2 : w2.frozen? ⟨g, 2, none⟩ = false := HG2.out.frozen 2; clear hown hb3))
            go_end0
            have h3 : Bk (((w2.setCell ⟨g, 0, none⟩ (.int .u64 (e : Int))).setCell ⟨g, 1, none⟩ (.int .u64 (e : Int))).setCell ⟨g, 2, none⟩ (.slice A3 l.length c3)) g 51 #[.int .u64 (e : Int), .int .u64 (e : Int), .slice A3 l.length c3] := by simpa using ((HG2.out.set 0 (.int .u64 (e : Int))).set 1 (.int .u64 (e : Int))).set 2 (.slice A3 l.length c3)
            have ho := out3 g w2 (.int .u64 (e : Int)) (.int .u64 (e : Int)) (.slice A3 l.length c3)
            have hgl := HG.out.lt
            have hw1 : w.heap.size ≤ w1.heap.size := HB1.out.size
            have hl := HO.out.lns.out ho (fun j hj e => by
              have : w1.heap.size ≤ j := hj.1
              omega)
            exact Or.inl ⟨HT.out, rfl, ⟨A3, c3, h3, hl.mono (fun j hj => Or.inr (by have : w1.heap.size ≤ j := hj.1; omega)), HO.out.caps.1, HO.out.caps.2⟩, (Out.of_below (X := (· = g)) HB3.out).trans ho fun _ h => .inl h⟩
          · have HF := Lib.hid (HNO.out fun h => hbad ⟨(h.2.2.2.2 x hx).1, decide_eq_true (h.2.2.2.2 x hx).2⟩)
            clear hbad hx
            unfold thrown
            go_wp2_with fail
            exact ⟨rfl, .inr ⟨HF.out, rfl, HB1.out⟩⟩
end Go.Proofs.YtmhfhhhhbcignaaGreat.Sto
