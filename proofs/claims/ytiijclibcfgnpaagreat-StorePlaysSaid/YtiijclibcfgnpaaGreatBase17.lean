/- Lemmas, part 17: StoDeeds, StoLay2, StoReaders, StoRdr, StoRead, StoStill -/
import Derived.Test.YtiijclibcfgnpaaGreatBase16
import Derived.StillTailTactics
import Derived.Maps.Own
import Derived.Maps.Keyed
import Derived.Test.YtiijclibcfgnpaaGreatBase2
import Derived.KernelRfl
namespace Go.Proofs.YtiijclibcfgnpaaGreat.Sto
open Go.RowKit Disk Log

structure KpAt (Q : Nat → Prop) (w : World) (g : Nat) (k : Kp) : Prop where
  at_ : ∃ A c, Bk w g 83 #[.int .u64 (k.promised : Int), .int .u64 (k.current : Int), .slice A k.lines.length c] ∧ LnS Q w A k.lines.length k.lines ∧ k.lines.length ≤ c ∧ (A = none → c = 0)
def Small (ls : List Ln) : Prop := ls.length ≤ 300000 ∧ ∀ x ∈ ls, x.bytes.length ≤ 100000000
def RanPost (Q : Nat → Prop) (g : Nat) (k : Kp) (D : Deed) (w : World) (e : Ending) (w' : World) : Prop :=
  (D.may k = true ∧ e = .returned (.tuple #[]) ∧ KpAt (fun b => Q b ∨ w.heap.size ≤ b) w' g (D.run k) ∧ Out (· = g) w w') ∨ (D.may k = false ∧ e = thrown 1 ∧ Below w.heap.size w w')
set_option maxRecDepth 8000 in
set_option maxHeartbeats 1000000 in
theorem prom_run (Q : Nat → Prop) (g b : Nat) (e : Nat) (k : Kp) (w : World) (hk : KpAt Q w g k) (hb : Bk w b 32 #[.int .u64 (e : Int)]) (hgq : ¬ Q g) :
    Calls Tryz.prog 137 #[.pointer (some ⟨g, 0, none⟩), .pointer (some ⟨b, 0, none⟩)] w (RanPost Q g k (.prom e) w) := by
  obtain ⟨A, c, hg, hl, hlc, hnil⟩ := hk.at_
  have HG := Lib.hid hg
  have HB := Lib.hid hb
  have HL := Lib.hid hl
  have HLC := Lib.hid hlc
  have HNIL := Lib.hid hnil
  have kb : w.cell? ⟨b, 0, none⟩ = some (.int .u64 (e : Int)) := hb.cell 0
  have k0 : w.cell? ⟨g, 0, none⟩ = some (.int .u64 (k.promised : Int)) := hg.cell 0
  have f0 : w.frozen? ⟨g, 0, none⟩ = false := hg.frozen 0
  have HM : Hid ((Deed.prom e).may k = true ↔ k.promised < e ∧ e ≤ 281474976710656) := may_prom
  have HBD : Hid (Below w.heap.size w w.drew) := (Below.refl _ w).drew
  clear hk hg hb hl hlc hnil
  go_enter Tryz.func137, Tryz.ntmps137
  go_wp2_with fail
  by_cases h1 : e ≤ k.promised
  · have h1d : decide ((e : Int) ≤ (k.promised : Int)) = true := decide_eq_true (by omega)
    have HF : Hid ((Deed.prom e).may k = false) := by
      show _ = _
      rw [Bool.eq_false_iff]
      intro h
      have := (HM.out.1 h).1
      omega
    go_still_tail 10, (by kernel_rfl)
    change wpList _ _ _ _ _ w.drew
    go_wp2_with (go_at_call 91; (with_reducible refine (throw_yes _ _).mono ?_); rintro e _ ⟨rfl, rfl⟩)
    exact ⟨rfl, .inr ⟨HF.out, rfl, HBD.out⟩⟩
  · have h1d : decide ((e : Int) ≤ (k.promised : Int)) = false := decide_eq_false (by omega)
    by_cases h2 : (281474976710656 : Int) < (e : Int)
    · have h2d : decide ((281474976710656 : Int) < (e : Int)) = true := decide_eq_true h2
      have HF : Hid ((Deed.prom e).may k = false) := by
        show _ = _
        rw [Bool.eq_false_iff]
        intro h
        have := (HM.out.1 h).2
        omega
      clear h2
      go_still_tail 10, (by kernel_rfl)
      change wpList _ _ _ _ _ w.drew
      go_wp2_with (go_at_call 91; (with_reducible refine (throw_yes _ _).mono ?_); rintro e _ ⟨rfl, rfl⟩)
      exact ⟨rfl, .inr ⟨HF.out, rfl, HBD.out⟩⟩
    · have h2d : decide ((281474976710656 : Int) < (e : Int)) = false := decide_eq_false h2
      have HT : Hid ((Deed.prom e).may k = true) := HM.out.2 ⟨by omega, by omega⟩
      clear h2
      go_still_tail 10, (by kernel_rfl)
      change wpList _ _ _ _ _ w.drew
      have kb2 : w.drew.cell? ⟨b, 0, none⟩ = some (.int .u64 (e : Int)) := kb
      have f2 : w.drew.frozen? ⟨g, 0, none⟩ = false := f0
      have kg2 : w.drew.cell? ⟨g, 0, none⟩ = some (.int .u64 (k.promised : Int)) := k0
      go_wp2_with (go_at_call 91; (with_reducible refine (throw_no _ _).mono ?_); rintro e _ ⟨rfl, rfl⟩)
      go_end0
      have h3 : Bk (w.setCell ⟨g, 0, none⟩ (.int .u64 (e : Int))) g 83 #[.int .u64 (e : Int), .int .u64 (k.current : Int), .slice A k.lines.length c] := by simpa using HG.out.set 0 (.int .u64 (e : Int))
      have ho : Out (· = g) w (w.setCell ⟨g, 0, none⟩ (.int .u64 (e : Int))).drew := (Out.setCell (X := (· = g)) w (p := ⟨g, 0, none⟩) rfl _).drew
      have hl := HL.out.out ho (fun b hb e => hgq (e ▸ hb))
      exact Or.inl ⟨HT.out, rfl, ⟨A, c, h3, hl.mono fun b hb => Or.inl hb, HLC.out, HNIL.out⟩, ho⟩
theorem calls_adopt : ∀ args w, (callFunc 147 args).run Tryz.prog w = .ok (.enter 147 args) w := by intro args w; kernel_rfl
set_option maxRecDepth 8000 in
theorem suits_adopt (x e b : Nat) (w : World) (hb : Bk w b 32 #[.int .u64 (e : Int)]) :
    Calls Tryz.prog 147 #[.int .u64 (x : Int), .pointer (some ⟨b, 0, none⟩)] w fun r w' => r = .returned (.bool (decide (x ≤ e))) ∧ Below w.heap.size w w' := by
  have kb : w.cell? ⟨b, 0, none⟩ = some (.int .u64 (e : Int)) := hb.cell 0
  have hd : decide ((x : Int) ≤ (e : Int)) = decide (x ≤ e) := by simp only [Int.ofNat_le]
  have HD := Lib.hid hd
  clear hb hd
  go_enter Tryz.func147, Tryz.ntmps147
  go_wp2_with fail
  go_ret
  refine ⟨?_, Below.refl _ _⟩
  rw [← HD.out]
  rfl
end Go.Proofs.YtiijclibcfgnpaaGreat.Sto

namespace Go.Proofs.YtiijclibcfgnpaaGreat.Sto
open Go.RowKit Disk Log

theorem lay_new (kd : Nat) (xs : List Nat) (hk : kd < 256) (hlt : ∀ x ∈ xs, x < 18446744073709551616) (hn : xs.length ≤ 1000) (V : World) :
    Calls Tryz.prog 86 #[.int .u8 (kd : Int), .slice (some ⟨V.heap.size, 0, none⟩) xs.length xs.length] (V.alloc (.cells (xs.map fun (x : Nat) => numV (x : Int)).toArray 32)) (Put (V.alloc (.cells (xs.map fun (x : Nat) => numV (x : Int)).toArray 32)) (be 1 kd ++ numsT xs)) :=
  lay_any kd _ _ _ xs _ hk ⟨by simp, fun _ => ⟨_, rfl, fun j v hv => by
    rw [add_plain, (Bk.new V _ _).cell]
    simpa using hv⟩⟩ hlt hn
theorem text_prom (e : Nat) : be 1 2 ++ numsT [e] = (Deed.prom e).text := by
  simp [numsT, Deed.text]
  rfl
theorem text_adopt (e : Nat) (l : List Ln) : (be 1 3 ++ numsT [e]) ++ linesT l = (Deed.adopt e l).text := by
  simp [numsT, Deed.text]
  rfl
theorem text_add (l : List Ln) : (be 1 4 ++ numsT []) ++ linesT l = (Deed.add l).text := by
  simp [numsT, Deed.text]
  rfl
theorem text_whole (k : Kp) : (be 1 1 ++ numsT [k.promised, k.current]) ++ linesT k.lines = wholeT k := by
  simp [numsT, wholeT]
  rfl
theorem Rd.of_put {w w' : World} {bs : List UInt8} {A : Option Addr} {n c : Nat} (h : w'.ownsRow w.heap.size 5 1 (.slice A n c) n (bs.map U)) : Rd w' A n bs := (Rd.of_own h).1
def Laid (ls : List Ln) : Prop := ls.length ≤ 300000 ∧ ∀ x ∈ ls, x.bytes.length ≤ 100000000 ∧ x.epoch < 18446744073709551616
set_option maxRecDepth 8000 in
set_option maxHeartbeats 1000000 in
theorem rec_prom (e b : Nat) (w : World) (hb : Bk w b 32 #[.int .u64 (e : Int)]) (he : e < 18446744073709551616) :
    Calls Tryz.prog 85 #[.pointer (some ⟨b, 0, none⟩)] w (Put w (Deed.prom e).text) := by
  have kb : w.cell? ⟨b, 0, none⟩ = some (.int .u64 (e : Int)) := hb.cell 0
  have CL : Calls Tryz.prog 86 #[.int .u8 2, .slice (some ⟨w.heap.size, 0, none⟩) 1 1] (w.alloc (.cells #[.int .u64 (e : Int)] 32)) (Put (w.alloc (.cells #[.int .u64 (e : Int)] 32)) (be 1 2 ++ numsT [e])) := lay_new 2 [e] (by omega) (fun x hx => by rw [List.mem_singleton.1 hx]; exact he) (by simp) w
  rw [text_prom] at CL
  have HBA : Hid (Below w.heap.size w (w.alloc (.cells #[.int .u64 (e : Int)] 32))) := (Below.refl _ _).alloc (Nat.le_refl _) _
  clear hb
  go_enter Tryz.func85, Tryz.ntmps85
  go_wp2_with fail
  refine CL.mono ?_
  rintro r w1 ⟨A1, n1, c1, rfl, q1, q2, q3, q4⟩
  have HF : Hid (Put w (Deed.prom e).text (.returned (.slice A1 n1 c1)) w1) := ⟨A1, n1, c1, rfl, q1, q2, own_base q3 HBA.out.size, HBA.out.trans (q4.mono HBA.out.size)⟩
  clear q1 q2 q3 q4 CL kb
  go_wp2_with fail
  go_ret
  exact HF.out
set_option maxRecDepth 8000 in
set_option maxHeartbeats 1000000 in
theorem rec_adopt (P : Nat → Prop) (e b b2 : Nat) (l : List Ln) (A2 : Option Addr) (c2 : Nat) (w : World) (hb : Bk w b 32 #[.int .u64 (e : Int)]) (hb2 : Bk w b2 33 #[.slice A2 l.length c2]) (hl : LnS P w A2 l.length l) (he : e < 18446744073709551616) (hs : Laid l) :
    Calls Tryz.prog 93 #[.pointer (some ⟨b, 0, none⟩), .pointer (some ⟨b2, 0, none⟩)] w (Put w (Deed.adopt e l).text) := by
  have CL : Hid (∀ V : World, Calls Tryz.prog 86 #[.int .u8 3, .slice (some ⟨V.heap.size, 0, none⟩) 1 1] (V.alloc (.cells #[.int .u64 (e : Int)] 32)) (Put (V.alloc (.cells #[.int .u64 (e : Int)] 32)) (be 1 3 ++ numsT [e]))) := fun V => lay_new 3 [e] (by omega) (fun x hx => by rw [List.mem_singleton.1 hx]; exact he) (by simp) V
  have HLEN : Hid ((be 1 3 ++ numsT [e]).length = 9) := by show _ = _; rw [List.length_append, numsT_len, be_length]; rfl
  have HTX := Lib.hid (text_adopt e l)
  have HC : Hid (∀ V, Below w.heap.size w V → V.cell? ⟨b, 0, none⟩ = some (.int .u64 (e : Int)) ∧ V.cell? ⟨b2, 0, none⟩ = some (.slice A2 l.length c2)) := fun V hV => ⟨(hb.below hV).cell 0, (hb2.below hV).cell 0⟩
  have CLL : Hid (∀ V A n c, Below w.heap.size w V → Rd V A n (be 1 3 ++ numsT [e]) → Calls Tryz.prog 94 #[.slice A n c, .slice A2 l.length c2] V (Put V ((be 1 3 ++ numsT [e]) ++ linesT l))) := fun V A n c hV hr => layLines_any P A A2 n c l.length c2 _ l V hr (hl.below hV) (by have := hr.len; have := HLEN.out; omega) hs.1 hs.2
  have BD : Hid (Below w.heap.size w w.drew) := (Below.refl _ w).drew
  obtain ⟨k0, k1⟩ := HC.out w (Below.refl _ _)
  have HSD := Lib.hid (HC.out _ BD.out)
  have CL2 : Hid (Calls Tryz.prog 86 #[.int .u8 3, .slice (some ⟨w.heap.size, 0, none⟩) 1 1] (w.alloc (.cells #[.int .u64 (e : Int)] 32)).drew (Put (w.alloc (.cells #[.int .u64 (e : Int)] 32)).drew (be 1 3 ++ numsT [e]))) := CL.out w.drew
  have HAL : Hid (∀ ob : Obj, (w.alloc ob).drew.cell? ⟨b, 0, none⟩ = some (.int .u64 (e : Int)) ∧ (w.alloc ob).drew.cell? ⟨b2, 0, none⟩ = some (.slice A2 l.length c2)) := fun ob => HC.out _ (BD.out.alloc BD.out.size ob)
  have HBA : Hid (∀ ob : Obj, Below w.heap.size w (w.alloc ob).drew) := fun ob => BD.out.alloc BD.out.size ob
  generalize l.length = n2 at *
  clear hb hb2 hl hs
  go_enter Tryz.func93, Tryz.ntmps93
  go_wp2_with fail
  go_region_held3 (fun V => V.cell? ⟨b, 0, none⟩ = some (.int .u64 (e : Int)) ∧ V.cell? ⟨b2, 0, none⟩ = some (.slice A2 n2 c2))
    (first | (with_reducible assumption) | (with_reducible exact HSD.out) | (with_reducible exact HAL.out _) | (with_reducible exact HS1.out) | (with_reducible exact HS2.out))
    (first
      | (go_at_call 86; (with_reducible refine CL2.out.mono ?_); rintro r w5 ⟨A6, n6, c6, rfl, q1, q2, q3, q4⟩; have HR6 := Lib.hid (Rd.of_put q3); have HB6 := Lib.hid ((HBA.out _).trans (q4.mono (HBA.out _).size)); have HS1 := Lib.hid (HC.out _ HB6.out); clear q1 q2 q3 q4)
      | (go_at_call 94; (with_reducible refine (CLL.out _ _ _ _ HB6.out HR6.out).mono ?_); rintro r w7 ⟨A7, n7, c7, rfl, q1, q2, q3, q4⟩; have HF : Hid (Put w (Deed.adopt e l).text (.returned (.slice A7 n7 c7)) w7) := (by rw [← HTX.out]; exact ⟨A7, n7, c7, rfl, q1, q2, own_base q3 HB6.out.size, HB6.out.trans (q4.mono HB6.out.size)⟩); have HS2 := Lib.hid (HC.out _ (HB6.out.trans (q4.mono HB6.out.size))); clear q1 q2 q3 q4))
  go_wp2_with fail
  go_ret
  exact HF.out
set_option maxRecDepth 8000 in
set_option maxHeartbeats 1000000 in
theorem rec_add (P : Nat → Prop) (b2 : Nat) (l : List Ln) (A2 : Option Addr) (c2 : Nat) (w : World) (hb2 : Bk w b2 33 #[.slice A2 l.length c2]) (hl : LnS P w A2 l.length l) (hs : Laid l) :
    Calls Tryz.prog 96 #[.pointer (some ⟨b2, 0, none⟩)] w (Put w (Deed.add l).text) := by
  have BD : Hid (Below w.heap.size w w.drew) := (Below.refl _ w).drew
  have CL : Hid (∀ V, Calls Tryz.prog 86 #[.int .u8 4, .slice none 0 0] V (Put V (be 1 4 ++ numsT []))) := fun V => lay_any 4 none 0 0 [] V (by omega) (RdV.nil_ _ _) (fun x hx => by cases hx) (by omega)
  have HLEN : Hid ((be 1 4 ++ numsT []).length = 1) := by show _ = _; rw [List.length_append, numsT_len, be_length]; rfl
  have HTX := Lib.hid (text_add l)
  have HC : Hid (∀ V, Below w.heap.size w V → V.cell? ⟨b2, 0, none⟩ = some (.slice A2 l.length c2)) := fun V hV => (hb2.below hV).cell 0
  have CLL : Hid (∀ V A n c, Below w.heap.size w V → Rd V A n (be 1 4 ++ numsT []) → Calls Tryz.prog 94 #[.slice A n c, .slice A2 l.length c2] V (Put V ((be 1 4 ++ numsT []) ++ linesT l))) := fun V A n c hV hr => layLines_any P A A2 n c l.length c2 _ l V hr (hl.below hV) (by have := hr.len; have := HLEN.out; omega) hs.1 hs.2
  have k1 := HC.out w (Below.refl _ _)
  have HSD := Lib.hid (HC.out _ BD.out)
  generalize l.length = n2 at *
  clear hb2 hl hs
  go_enter Tryz.func96, Tryz.ntmps96
  go_wp2_with fail
  go_region_held3 (fun V => V.cell? ⟨b2, 0, none⟩ = some (.slice A2 n2 c2))
    (first | (with_reducible assumption) | (with_reducible exact HSD.out) | (with_reducible exact HS1.out) | (with_reducible exact HS2.out))
    (first
      | (go_at_call 86; (with_reducible refine (CL.out _).mono ?_); rintro r w5 ⟨A6, n6, c6, rfl, q1, q2, q3, q4⟩; have HR6 := Lib.hid (Rd.of_put q3); have HB6 := Lib.hid (BD.out.trans q4); have HS1 := Lib.hid (HC.out _ HB6.out); clear q1 q2 q3 q4)
      | (go_at_call 94; (with_reducible refine (CLL.out _ _ _ _ HB6.out HR6.out).mono ?_); rintro r w7 ⟨A7, n7, c7, rfl, q1, q2, q3, q4⟩; have HF : Hid (Put w (Deed.add l).text (.returned (.slice A7 n7 c7)) w7) := (by rw [← HTX.out]; exact ⟨A7, n7, c7, rfl, q1, q2, own_base q3 HB6.out.size, HB6.out.trans (q4.mono HB6.out.size)⟩); have HS2 := Lib.hid (HC.out _ (HB6.out.trans (q4.mono HB6.out.size))); clear q1 q2 q3 q4))
  go_wp2_with fail
  go_ret
  exact HF.out
set_option maxRecDepth 8000 in
set_option maxHeartbeats 2000000 in
theorem layWhole_any (P : Nat → Prop) (k : Kp) (A2 : Option Addr) (c2 : Nat) (w : World) (hl : LnS P w A2 k.lines.length k.lines) (hf : Fine k) :
    Calls Tryz.prog 199 #[kpV k A2 c2] w (Put w (wholeT k)) := by
  have hs : Laid k.lines := ⟨by have := hf.many; omega, fun x hx => by
    have := lineB_iff.1 (hf.each x hx).1
    unfold top at this
    omega⟩
  have hp := hf.prom
  have hc := hf.cur
  unfold top at hp
  have hwb : Below w.heap.size w (w.alloc (.cells #[.int .u64 (k.promised : Int), .int .u64 (k.current : Int), .slice A2 k.lines.length c2] 83)) := (Below.refl _ _).alloc (Nat.le_refl _) _
  have hbk : Bk (w.alloc (.cells #[.int .u64 (k.promised : Int), .int .u64 (k.current : Int), .slice A2 k.lines.length c2] 83)) w.heap.size 83 #[.int .u64 (k.promised : Int), .int .u64 (k.current : Int), .slice A2 k.lines.length c2] := Bk.new w _ _
  obtain ⟨W, hW⟩ : ∃ W, W = w.alloc (.cells #[.int .u64 (k.promised : Int), .int .u64 (k.current : Int), .slice A2 k.lines.length c2] 83) := ⟨_, rfl⟩
  have HWE := Lib.hid hW
  rw [← hW] at hwb hbk
  have HW := Lib.hid hwb
  have CL : Hid (∀ V : World, Calls Tryz.prog 86 #[.int .u8 1, .slice (some ⟨V.heap.size, 0, none⟩) 2 2] (V.alloc (.cells #[.int .u64 (k.promised : Int), .int .u64 (k.current : Int)] 32)) (Put (V.alloc (.cells #[.int .u64 (k.promised : Int), .int .u64 (k.current : Int)] 32)) (be 1 1 ++ numsT [k.promised, k.current]))) := fun V => lay_new 1 [k.promised, k.current] (by omega) (fun x hx => by
    rcases List.mem_cons.1 hx with rfl | hx
    · omega
    · rw [List.mem_singleton.1 hx]; omega) (by simp) V
  have HLEN : Hid ((be 1 1 ++ numsT [k.promised, k.current]).length = 17) := by show _ = _; rw [List.length_append, numsT_len, be_length]; rfl
  have HTX := Lib.hid (text_whole k)
  have HC : Hid (∀ V, Below W.heap.size W V → V.cell? ⟨w.heap.size, 0, none⟩ = some (.int .u64 (k.promised : Int)) ∧ V.cell? ⟨w.heap.size, 1, none⟩ = some (.int .u64 (k.current : Int)) ∧ V.cell? ⟨w.heap.size, 2, none⟩ = some (.slice A2 k.lines.length c2)) := fun V hV => ⟨(hbk.below hV).cell 0, (hbk.below hV).cell 1, (hbk.below hV).cell 2⟩
  have CLL : Hid (∀ V A n c, Below W.heap.size W V → Rd V A n (be 1 1 ++ numsT [k.promised, k.current]) → Calls Tryz.prog 94 #[.slice A n c, .slice A2 k.lines.length c2] V (Put V ((be 1 1 ++ numsT [k.promised, k.current]) ++ linesT k.lines))) := fun V A n c hV hr => layLines_any P A A2 n c k.lines.length c2 _ k.lines V hr ((hl.below HW.out).below hV) (by have := hr.len; have := HLEN.out; omega) hs.1 hs.2
  have BD : Hid (Below W.heap.size W W.drew) := (Below.refl _ W).drew
  obtain ⟨k0, k1, k2⟩ := HC.out W (Below.refl _ _)
  have HSD := Lib.hid (HC.out _ BD.out)
  have CL2 : Hid (Calls Tryz.prog 86 #[.int .u8 1, .slice (some ⟨W.heap.size, 0, none⟩) 2 2] (W.alloc (.cells #[.int .u64 (k.promised : Int), .int .u64 (k.current : Int)] 32)).drew (Put (W.alloc (.cells #[.int .u64 (k.promised : Int), .int .u64 (k.current : Int)] 32)).drew (be 1 1 ++ numsT [k.promised, k.current]))) := CL.out W.drew
  have HAL : Hid (∀ ob : Obj, (W.alloc ob).drew.cell? ⟨w.heap.size, 0, none⟩ = some (.int .u64 (k.promised : Int)) ∧ (W.alloc ob).drew.cell? ⟨w.heap.size, 1, none⟩ = some (.int .u64 (k.current : Int)) ∧ (W.alloc ob).drew.cell? ⟨w.heap.size, 2, none⟩ = some (.slice A2 k.lines.length c2)) := fun ob => HC.out _ (BD.out.alloc BD.out.size ob)
  have HBA : Hid (∀ ob : Obj, Below W.heap.size W (W.alloc ob).drew) := fun ob => BD.out.alloc BD.out.size ob
  unfold kpV
  generalize k.lines.length = n2 at *
  clear hbk hl hs hf hp hc hwb hW
  go_enter Tryz.func199, Tryz.ntmps199
  go_wp2_with fail
  rw [← HWE.out]
  go_region_held3 (fun V => V.cell? ⟨w.heap.size, 0, none⟩ = some (.int .u64 (k.promised : Int)) ∧ V.cell? ⟨w.heap.size, 1, none⟩ = some (.int .u64 (k.current : Int)) ∧ V.cell? ⟨w.heap.size, 2, none⟩ = some (.slice A2 n2 c2))
    (first | (with_reducible assumption) | (with_reducible exact HSD.out) | (with_reducible exact HAL.out _) | (with_reducible exact HS1.out) | (with_reducible exact HS2.out))
    (first
      | (go_at_call 86; (with_reducible refine CL2.out.mono ?_); rintro r w5 ⟨A6, n6, c6, rfl, q1, q2, q3, q4⟩; have HR6 := Lib.hid (Rd.of_put q3); have HB6 := Lib.hid ((HBA.out _).trans (q4.mono (HBA.out _).size)); have HS1 := Lib.hid (HC.out _ HB6.out); clear q1 q2 q3 q4)
      | (go_at_call 94; (with_reducible refine (CLL.out _ _ _ _ HB6.out HR6.out).mono ?_); rintro r w7 ⟨A7, n7, c7, rfl, q1, q2, q3, q4⟩; have HF : Hid (Put w (wholeT k) (.returned (.slice A7 n7 c7)) w7) := (by rw [← HTX.out]; exact ⟨A7, n7, c7, rfl, q1, q2, own_base q3 (Nat.le_trans HW.out.size HB6.out.size), HW.out.trans ((HB6.out.trans (q4.mono HB6.out.size)).mono HW.out.size)⟩); have HS2 := Lib.hid (HC.out _ (HB6.out.trans (q4.mono HB6.out.size))); clear q1 q2 q3 q4))
  go_wp2_with fail
  go_ret
  exact HF.out
end Go.Proofs.YtiijclibcfgnpaaGreat.Sto

namespace Go.Proofs.YtiijclibcfgnpaaGreat.Sto
open Go.RowKit Disk Log

theorem ty_kind : Tryz.prog.underlying 5 = some (.int .u8) := by kernel_rfl
theorem ty_readers : Tryz.prog.underlying 253 = some (.map 5 251) := by kernel_rfl
theorem zero_reader (w : World) : (zeroValue 251).run Tryz.prog w = .ok .nilFunc w := by kernel_rfl
def fR (v : Value) : Option (DataW Nat × List MemPlace) := match v with
  | .func (.func i) a b => if a = #[] ∧ b = #[] then some (.held i, []) else none
  | .nilFunc => some (.held 0, [])
  | _ => none
theorem fR_mk (i : Nat) : fR (.func (.func i) #[] #[]) = some (.held i, []) := by simp [fR]
theorem fR_inv {v : Value} {i : Nat} {ps : List MemPlace} (h : fR v = some (.held i, ps)) (h0 : i ≠ 0) : v = .func (.func i) #[] #[] := by
  unfold fR at h
  split at h
  · next j a b =>
    split at h
    · next hab =>
      obtain ⟨rfl, rfl⟩ := hab
      injection h with h
      injection h with h1 h2
      injection h1 with h1
      rw [h1]
    · cases h
  · injection h with h
    injection h with h1 h2
    injection h1 with h1
    exact absurd h1.symm h0
  · cases h
theorem key_kind (k : Int) (hw : (Lit.int .u8 k).wf = true) : keyOf Tryz.prog 5 (.int .u8 k) = some (.int .u8 k) := Go.Maps.keyOf_int_mk ty_kind hw
def readersD : DataW Nat := (((((DataW.map [] : DataW Nat)).put (.int .u8 1) (.held 207)).put (.int .u8 2) (.held 208)).put (.int .u8 3) (.held 209)).put (.int .u8 4) (.held 210)
theorem readers_whole : readersD.atKey (.int .u8 1) (.held 0) = .held 207 := by kernel_rfl
theorem readers_promise : readersD.atKey (.int .u8 2) (.held 0) = .held 208 := by kernel_rfl
theorem readers_adopt : readersD.atKey (.int .u8 3) (.held 0) = .held 209 := by kernel_rfl
theorem readers_added : readersD.atKey (.int .u8 4) (.held 0) = .held 210 := by kernel_rfl
set_option maxRecDepth 100000 in
set_option maxHeartbeats 1000000 in
theorem readers_own (w : World) : Calls Tryz.prog 181 #[] w fun e w' => ∃ b, e = .returned (.map (some b)) ∧ Below w.heap.size w w' ∧ w'.ownsMap Tryz.prog 5 fR b 4 readersD := by
  have hmm := @run_makeMap Tryz.prog
  obtain ⟨w1, hr1, ho1, hg1⟩ := (World.ownsMap_made w Tryz.prog 5 fR).update (Go.Maps.int_keyed ty_kind) ty_readers (by unfold maxLen; omega) (key_kind 1 (by decide)) (fR_mk 207)
  obtain ⟨w2, hr2, ho2, hg2⟩ := ho1.update (Go.Maps.int_keyed ty_kind) ty_readers (by unfold maxLen; omega) (key_kind 2 (by decide)) (fR_mk 208)
  obtain ⟨w3, hr3, ho3, hg3⟩ := ho2.update (Go.Maps.int_keyed ty_kind) ty_readers (by unfold maxLen; omega) (key_kind 3 (by decide)) (fR_mk 209)
  obtain ⟨w4, hr4, ho4, hg4⟩ := ho3.update (Go.Maps.int_keyed ty_kind) ty_readers (by unfold maxLen; omega) (key_kind 4 (by decide)) (fR_mk 210)
  have HO := Lib.hid ho4
  have hB : Below w.heap.size w (w.alloc (.map #[] 0)) := (Below.refl _ _).alloc (Nat.le_refl _) _
  have hb1 := hB.grown hg1 hB.size (fun k e => by cases e; exact Nat.le_refl _)
  have hb2 := hb1.grown hg2 hb1.size (fun k e => by cases e; exact Nat.le_refl _)
  have hb3 := hb2.grown hg3 hb2.size (fun k e => by cases e; exact Nat.le_refl _)
  have hb4 := hb3.grown hg4 hb3.size (fun k e => by cases e; exact Nat.le_refl _)
  have HB := Lib.hid hb4
  clear ho1 hg1 hb1 ho2 hg2 hb2 ho3 hg3 hb3 ho4 hg4 hb4 hB
  go_enter Tryz.func181, Tryz.ntmps181
  go_wp2_with fail
  go_ret
  exact ⟨_, rfl, HB.out, HO.out⟩
def Reads1 (b : Nat) (w : World) : Prop := w.ownsMap Tryz.prog 5 fR b 4 readersD
theorem reads1_look {b : Nat} {w : World} (h : Reads1 b w) (k F : Nat) (hk : k < 256) (hF : F ≠ 0) (hd : readersD.atKey (.int .u8 (k : Int)) (.held 0) = .held F) :
    (Instr.lookup 253 (.map (some b)) (.int .u8 (k : Int)) true).run Tryz.prog w = .ok (.tuple #[.func (.func F) #[] #[], .bool true]) w := by
  have hkey := key_kind (k : Int) (by simp [Lit.wf, IntKind.min, IntKind.max, IntKind.signed, IntKind.bits]; omega)
  obtain ⟨es, clock, hb, Fi, _, hD⟩ := h
  rcases Maps.fit_look true (Go.Maps.int_keyed ty_kind) ty_readers (zero_reader w) hb Fi hkey with ⟨_, _, hat⟩ | ⟨e0, y, _, _, hrun, hRv, hat, _⟩
  · have := hat (.held 0)
    rw [← hD, hd] at this
    exact absurd (DataW.held.inj this) hF
  · have h2 := hat (.held 0)
    rw [← hD, hd] at h2
    obtain ⟨y1, y2⟩ := y
    have h3 : DataW.held F = y1 := h2
    rw [← h3] at hRv
    have hv := fR_inv hRv hF
    rw [hv] at hrun
    exact hrun
end Go.Proofs.YtiijclibcfgnpaaGreat.Sto

namespace Go.Proofs.YtiijclibcfgnpaaGreat.Sto
end Go.Proofs.YtiijclibcfgnpaaGreat.Sto

namespace Go.Proofs.YtiijclibcfgnpaaGreat.Sto
open Go.RowKit Disk Log

theorem grown_out {w w' : World} {r : Nat} (h : w.grownBy w' (some r)) : Out (· = r) w w' := ⟨h.os, h.tape, h.output, h.size, fun k hk hx => h.block k hk (fun e => by injection e with e; exact hx e)⟩
theorem uint_of {Q : Nat → Prop} (rd x : Nat) (rest : List UInt8) (V : World) (h : RdrQ Q V rd (be 8 x ++ rest, false)) (hx : x < 18446744073709551616) :
    Calls Tryz.prog 106 #[.pointer (some ⟨rd, 0, none⟩)] V fun e w' => e = .returned (.int .u64 (x : Int)) ∧ RdrQ Q w' rd (rest, false) ∧ V.grownBy w' (some rd) := by
  obtain ⟨h1, h2⟩ := take_num hx rest
  exact (rUint_anyQ rd _ V h).mono fun e w' ⟨q1, q2, q3⟩ => ⟨by rw [q1, h1, h2], by rw [h1] at q2; exact q2, q3⟩
theorem text_of {Q : Nat → Prop} (rd : Nat) (b rest : List UInt8) (V : World) (h : RdrQ Q V rd (be 4 b.length ++ (b ++ rest), false)) (hb : b.length ≤ 4096) :
    Calls Tryz.prog 108 #[.pointer (some ⟨rd, 0, none⟩)] V fun e w' => ∃ A n c, e = .returned (.slice A n c) ∧ w'.ownsRow V.heap.size 5 1 (.slice A n c) n (b.map U) ∧ RdrQ Q w' rd (rest, false) ∧ V.grownBy w' (some rd) := by
  have h1 := take_text hb rest
  exact (rText_anyQ rd _ V h).mono fun e w' ⟨A, n, c, q1, q2, q3, q4⟩ => ⟨A, n, c, q1, by rw [h1] at q2; exact q2, by rw [h1] at q3; exact q3, q4⟩
theorem count_of {Q : Nat → Prop} (rd n : Nat) (rest : List UInt8) (V : World) (h : RdrQ Q V rd (be 8 n ++ rest, false)) (hn : n ≤ 256) :
    Calls Tryz.prog 107 #[.pointer (some ⟨rd, 0, none⟩), .int .i64 256] V fun e w' => e = .returned (.int .i64 (n : Int)) ∧ RdrQ Q w' rd (rest, false) ∧ V.grownBy w' (some rd) := by
  have h1 := count_num hn rest
  exact (rCount_anyQ rd 256 _ V h (by omega) (by omega)).mono fun e w' ⟨q1, q2, q3⟩ => ⟨by rw [q1, h1], by rw [h1] at q2; exact q2, q3⟩
def Told (ls : List Ln) : Prop := ls.length ≤ 256 ∧ ∀ x ∈ ls, x.bytes.length ≤ 4096 ∧ x.epoch < 18446744073709551616
theorem drop_flat (ls : List Ln) (j : Nat) (h : j < ls.length) (rest : List UInt8) : (ls.drop j).flatMap lineT ++ rest = be 8 ls[j].epoch ++ (be 4 ls[j].bytes.length ++ (ls[j].bytes ++ ((ls.drop (j + 1)).flatMap lineT ++ rest))) := by
  rw [List.drop_eq_getElem_cons h, List.flatMap_cons]
  simp only [lineT, List.append_assoc]
def RelRl (Q : Nat → Prop) (w : World) (rd : Nat) (ls : List Ln) (rest : List UInt8) (v i : Value) (wr : World) : Prop :=
  ∃ (j : Nat) (xs : List Value), j ≤ ls.length ∧ i = .int .i64 (j : Int) ∧ wr.ownsRow w.heap.size 80 2 v j (lnsC (ls.take j) xs) ∧ Fresh w.heap.size wr xs ((ls.take j).map (·.bytes)) ∧ RdrQ Q wr rd ((ls.drop j).flatMap lineT ++ rest, false) ∧ Out (· = rd) w wr ∧ Bk wr w.heap.size 250 #[.pointer (some ⟨rd, 0, none⟩)]
def LinesPost (Q : Nat → Prop) (w : World) (rd : Nat) (ls : List Ln) (rest : List UInt8) (e : Ending) (w' : World) : Prop :=
  ∃ A c, e = .returned (.slice A ls.length c) ∧ OwnL w.heap.size w' (.slice A ls.length c) ls ∧ RdrQ Q w' rd (rest, false) ∧ Out (· = rd) w w'
set_option maxRecDepth 8000 in
set_option maxHeartbeats 4000000 in
theorem lines_any (Q : Nat → Prop) (rd : Nat) (ls : List Ln) (rest : List UInt8) (w : World) (h : RdrQ Q w rd (linesT ls ++ rest, false)) (ht : Told ls) (hQ : ∀ b, Q b → b < w.heap.size ∧ b ≠ rd) :
    Calls Tryz.prog 238 #[.agg #[.pointer (some ⟨rd, 0, none⟩)]] w (LinesPost Q w rd ls rest) := by
  obtain ⟨i0, hi, hz0, hz1, hz2⟩ := info_parts info_line
  have HI := Lib.hid hi
  have HZ0 := Lib.hid hz0
  have HZ1 := Lib.hid hz1
  have HZ2 := Lib.hid hz2
  have hrl := h.lt
  have HQ := Lib.hid hQ
  have HT := Lib.hid ht
  have hwb : Below w.heap.size w (w.alloc (.cells #[.pointer (some ⟨rd, 0, none⟩)] 250)) := (Below.refl _ _).alloc (Nat.le_refl _) _
  have HBX : Hid (Bk (w.alloc (.cells #[.pointer (some ⟨rd, 0, none⟩)] 250)) w.heap.size 250 #[.pointer (some ⟨rd, 0, none⟩)]) := Bk.new w _ _
  have HRL : Hid (rd < w.heap.size) := hrl
  have hr2 : RdrQ Q (w.alloc (.cells #[.pointer (some ⟨rd, 0, none⟩)] 250)) rd (be 8 ls.length ++ (ls.flatMap lineT ++ rest), false) := by
    have h2 := h.below hwb
    unfold linesT at h2
    rw [List.append_assoc] at h2
    exact h2
  have CC := Lib.hid (count_of rd ls.length _ _ hr2 ht.1)
  have HWB := Lib.hid hwb
  have HN : Hid (ls.length ≤ 256) := ht.1
  clear hi hz0 hz1 hz2 h ht hr2 hwb hrl hQ
  obtain ⟨n, hn⟩ : ∃ n, n = ls.length := ⟨_, rfl⟩
  have HNE := Lib.hid hn
  rw [← hn] at CC HN
  clear hn
  go_enter Tryz.func238, Tryz.ntmps238
  go_wp2_with fail
  refine CC.out.mono ?_
  rintro e w1 ⟨rfl, hr1, hg1⟩
  have HO1 : Hid (Out (· = rd) w w1) := (Out.of_below HWB.out).trans (grown_out hg1) fun _ h => .inl h
  have HB1 : Hid (Bk w1 w.heap.size 250 #[.pointer (some ⟨rd, 0, none⟩)]) := HBX.out.kept (hg1.block _ HBX.out.lt (fun e => by injection e with e; have := HRL.out; omega))
  have HR1 := Lib.hid hr1
  clear hr1 hg1
  go_wp2_with fail
  go_loopw [3, 7] (fun v i wr => RelRl Q w rd ls rest v i wr) (fun _ i _ => n - (intOf i).toNat)
  case atStart => exact ⟨0, [], Nat.zero_le _, rfl, ⟨rfl, .inl ⟨rfl, rfl⟩⟩, ⟨rfl, fun j b hj => by simp at hj⟩, HR1.out, HO1.out, HB1.out⟩
  case round =>
    obtain ⟨j, xs, hj, rfl, hown, hfr, hrr, hout, hbx⟩ := hrel
    rw [← HNE.out] at hj
    have HO := Lib.hid hown
    have HF := Lib.hid hfr
    have HRR := Lib.hid hrr
    have HOU := Lib.hid hout
    have HBX2 := Lib.hid hbx
    clear hown hfr hrr hout hbx
    by_cases hlt : j < n
    · have hjl : j < ls.length := by have := HNE.out; omega
      have hxb := HT.out.2 _ (List.getElem_mem hjl)
      have hs := drop_flat ls j hjl rest
      have HTK := Lib.hid (List.take_append_getElem hjl).symm
      have HRR2 := HRR.out
      rw [hs] at HRR2
      have HR := Lib.hid HRR2
      obtain ⟨x, hx⟩ : ∃ x, x = ls[j] := ⟨_, rfl⟩
      rw [← hx] at HR hxb HTK
      have HXB := Lib.hid hxb
      have HW : Hid (wrap64 ((j : Int) + 1) = ((j + 1 : Nat) : Int)) := by
        have := HN.out
        show _ = _
        rw [IntWalk.wrap64_in _ (by omega)]
        omega
      have hnr : ¬ w.heap.size = rd := by have := HRL.out; omega
      have k0 : wr.cell? ⟨w.heap.size, 0, none⟩ = some (.pointer (some ⟨rd, 0, none⟩)) := HBX2.out.cell 0
      have HSD : Hid (wr.drew.cell? ⟨w.heap.size, 0, none⟩ = some (.pointer (some ⟨rd, 0, none⟩))) := k0
      have HRD : Hid (RdrQ Q wr.drew rd (be 8 x.epoch ++ (be 4 x.bytes.length ++ (x.bytes ++ ((ls.drop (j + 1)).flatMap lineT ++ rest))), false)) := HR.out.below (Below.refl _ wr).drew
      have CU := Lib.hid (uint_of rd x.epoch _ wr.drew HRD.out HXB.out.2)
      have HBS : Hid (w.heap.size < wr.heap.size) := HBX2.out.lt
      have HLX : Hid ((ls.take j).length = xs.length) := by
        have := HF.out.len
        rw [List.length_map] at this
        exact this.symm
      have HNO : Hid (u3.ownBlock ≠ some rd) := fun e => by
        have := (HO.out.lt _ e).1
        have := HRL.out
        omega
      have HNO2 : Hid (u3.ownBlock ≠ some w.heap.size) := fun e => by
        obtain ⟨c, fz, hh⟩ := Lib.ownsRow_kind HO.out _ e
        rw [HBX2.out] at hh
        injection hh with hh
        injection hh with _ hh
        exact absurd hh (by decide)
      clear hs HRR2 hxb hx
      go_wp2_with fail
      go_region_held3 (fun V => V.cell? ⟨w.heap.size, 0, none⟩ = some (.pointer (some ⟨rd, 0, none⟩)))
        (first | (with_reducible assumption) | (with_reducible exact HSD.out) | (with_reducible exact HS1.out) | (with_reducible exact HS2.out) | (with_reducible exact HAL.out _) | (with_reducible exact HS5.out))
        (first
          | (go_at_call 106; (with_reducible refine CU.out.mono ?_); rintro e w5 ⟨rfl, hr5, hg5⟩; have HR5 := Lib.hid hr5; have HG5 := Lib.hid hg5; have HS1 : Hid (w5.cell? ⟨w.heap.size, 0, none⟩ = some (.pointer (some ⟨rd, 0, none⟩))) := ((grown_out hg5).cell (p := ⟨w.heap.size, 0, none⟩) HBS.out hnr).trans HSD.out; have CT := Lib.hid (text_of rd x.bytes _ w5 HR5.out HXB.out.1); clear hr5 hg5)
          | (go_at_call 108; (with_reducible refine CT.out.mono ?_); rintro e w7 ⟨A2, n2, c3, rfl, hown2, hr7, hg7⟩; have HO2 := Lib.hid hown2; have HR7 := Lib.hid hr7; have HG7 := Lib.hid hg7; have HSZ : Hid (wr.heap.size ≤ w7.heap.size) := Nat.le_trans HG5.out.size hg7.size; have HS2 : Hid (w7.cell? ⟨w.heap.size, 0, none⟩ = some (.pointer (some ⟨rd, 0, none⟩))) := ((grown_out hg7).cell (p := ⟨w.heap.size, 0, none⟩) (Nat.lt_of_lt_of_le HBS.out HG5.out.size) hnr).trans HS1.out; have HAL : Hid (∀ ob : Obj, (w7.alloc ob).cell? ⟨w.heap.size, 0, none⟩ = some (.pointer (some ⟨rd, 0, none⟩))) := (fun ob => ((Out.alloc (X := fun _ => False) w7 ob).cell (p := ⟨w.heap.size, 0, none⟩) (Nat.lt_of_lt_of_le HBS.out HSZ.out) (fun h => h)).trans HS2.out); have HOW := Lib.hid ((World.ownsRow.kept (w' := w5) (row := some rd) HO.out.drew HG5.out (.inr HNO.out)).kept HG7.out (.inr HNO.out)); clear hown2 hr7 hg7)
          | ((refine step_append_lies _ (by rfl) _ _ _ (by rfl) w.heap.size 80 i0 _ 2 32 ty_lines HI.out HZ0.out HZ1.out HZ2.out rfl (by omega) u3 j _ (by rfl) (HOW.out.alloc _) ⟨w7.heap.size, 0, none⟩ 1 1 (lnC x (.slice A2 n2 c3)) (by rfl) (by rfl) (World.news_of_block (cs := (lnC x (.slice A2 n2 c3)).toArray) (t := 80) (fr := (0, 0)) (heap_alloc_new w7 _)) (by simp [lnC, Value.oneCell']) (by omega) (by unfold maxLen; have := HN.out; omega) (by have := HN.out; omega) (by have := HSZ.out; have := HBS.out; simp; omega) (w7.heap.size + 1) (by simp) ?_); intro gg cap w8 hown8 hgr8 hat8 hlt8; have HO8 := Lib.hid hown8; have HG8 := Lib.hid hgr8; have HS5 : Hid (w8.cell? ⟨w.heap.size, 0, none⟩ = some (.pointer (some ⟨rd, 0, none⟩))) := (HG8.out.cell_far _ (by have := HSZ.out; have := HBS.out; simp; omega) (Ne.symm HNO2.out)).trans (HAL.out _); clear hown8 hgr8 hat8 hlt8))
      have hba : Below w7.heap.size w7 (w7.alloc (.cells #[.int .u64 (x.epoch : Int), .slice A2 n2 c3] 80)) := (Below.refl _ _).alloc (Nat.le_refl _) _
      have HBA := Lib.hid hba
      have HDR : Hid (Below wr.heap.size wr wr.drew) := (Below.refl _ wr).drew
      have HOA := Lib.hid (HOW.out.alloc (.cells #[.int .u64 (x.epoch : Int), .slice A2 n2 c3] 80))
      have HX8 : Hid (Out (fun b => u3.ownBlock = some b) (w7.alloc (.cells #[.int .u64 (x.epoch : Int), .slice A2 n2 c3] 80)) w8) := ⟨HG8.out.os, HG8.out.tape, HG8.out.output, HG8.out.size, fun b hb hx => HG8.out.block b hb fun e => hx e.symm⟩
      have HRD8 : Hid (RdrQ Q w8 rd ((ls.drop (j + 1)).flatMap lineT ++ rest, false)) := (HR7.out.below HBA.out).out HX8.out HNO.out fun b hb e => by
        have := (HO.out.lt _ e).1
        have := (HQ.out b hb).1
        omega
      have HO7 : Hid (Out (· = rd) w w7) := (HOU.out.trans ((Out.of_below (X := (· = rd)) HDR.out).trans (grown_out HG5.out) fun _ h => .inl h) fun _ h => .inl h).trans (grown_out HG7.out) fun _ h => .inl h
      have HO8' : Hid (Out (· = rd) w w8) := (HO7.out.trans (Out.of_below (X := (· = rd)) HBA.out) fun _ h => .inl h).trans HX8.out fun b hb => .inr (HO.out.lt b hb).1
      have HBX8 : Hid (Bk w8 w.heap.size 250 #[.pointer (some ⟨rd, 0, none⟩)]) := by
        have h7 : Bk w7 w.heap.size 250 #[.pointer (some ⟨rd, 0, none⟩)] := (HBX2.out.kept ((grown_out HG5.out).block _ HBS.out hnr)).kept ((grown_out HG7.out).block _ (Nat.lt_of_lt_of_le HBS.out HG5.out.size) hnr)
        exact (h7.below HBA.out).kept (HX8.out.block _ (by rw [World.size_alloc]; have := HSZ.out; have := HBS.out; omega) HNO2.out)
      have HF2 : Hid (Fresh w.heap.size w7 xs ((ls.take j).map (·.bytes))) := (HF.out.below HDR.out).grown HG5.out (T := 218) (by decide) (fun r hr => by injection hr with hr; subst hr; obtain ⟨_, _, _, hb, _⟩ := HRD.out; exact ⟨_, _, hb⟩) |>.grown HG7.out (T := 218) (by decide) (fun r hr => by injection hr with hr; subst hr; obtain ⟨_, _, _, hb, _⟩ := HR5.out; exact ⟨_, _, hb⟩)
      have HF3 := Lib.hid ((HF2.out.snoc (own_base HO2.out (Nat.le_trans (Nat.le_of_lt HBS.out) HG5.out.size))).below HBA.out)
      have HF4 := Lib.hid (HF3.out.grown HG8.out (by decide) (fun r hr => Lib.ownsRow_kind HOA.out r hr))
      clear hba
      go_wp2_with fail
      rw [HW.out]
      refine ⟨⟨j + 1, xs ++ [.slice A2 n2 c3], by have := HNE.out; omega, rfl, ?_, ?_, HRD8.out, HO8'.out, HBX8.out⟩, by simp [intOf]; omega⟩
      · rw [HTK.out, lnsC_snoc _ _ _ _ HLX.out]
        exact HO8.out
      · rw [HTK.out, List.map_append]
        exact HF4.out
    · obtain rfl : j = n := by omega
      have htk : ls.take j = ls := List.take_of_length_le (by have := HNE.out; omega)
      have hdr : ls.drop j = [] := List.drop_eq_nil_of_le (by have := HNE.out; omega)
      rw [htk] at HO HF
      rw [hdr] at HRR
      have HOL : Hid (OwnL w.heap.size wr u3 ls) := ⟨xs, by rw [← HNE.out]; exact HO.out, HF.out⟩
      clear htk hdr HO
      obtain ⟨A2, c2, rfl, -, -⟩ := HOL.out.form
      go_wp2_with fail
      go_ret
      exact ⟨A2, c2, rfl, HOL.out, HRR.out, HOU.out⟩
end Go.Proofs.YtiijclibcfgnpaaGreat.Sto

namespace Go.Proofs.YtiijclibcfgnpaaGreat.Sto

def StillAt (P : Program) (o : Oper) (a : Act) (w : World) (v : Value) : Prop := (execOp a.eval o).run P w = .ok (.value v) w
structure WS (P : Program) (ops : Array Oper) (w : World) (Q : Act → Prop) (l : List Oper) (a : Act) : Prop where
  out : wpStill P ops w Q l a
section
variable {P : Program} {ops : Array Oper} {w : World} {Q : Act → Prop} {a : Act} {o : Oper} {rest : List Oper}
theorem ws_nil (h : Q a) : WS P ops w Q [] a := ⟨wpStill_nil h⟩
theorem ws_skip (h : Region.wanted o (yielded ops a.tmps) = false) (hb : WS P ops w Q rest (a.put o.dst undef)) : WS P ops w Q (o :: rest) a :=
  ⟨wpStill_step fun _ hK => by rw [if_neg (by rw [h]; exact Bool.false_ne_true)]; exact hK _ hb.out⟩
theorem ws_want (h : Region.wanted o (yielded ops a.tmps) = true) (hx : ∃ v, StillAt P o a w v ∧ WS P ops w Q rest (a.put o.dst v)) : WS P ops w Q (o :: rest) a :=
  ⟨wpStill_step fun _ hK => by
    obtain ⟨v, h1, h2⟩ := hx
    rw [if_pos h]
    unfold Oper.still
    rw [h1]
    exact ⟨rfl, hK _ h2.out⟩⟩
end
theorem ws_tail {P : Program} {id : Nat} {Q : Exit → Act → World → Prop} {a : Act} {w : World} {l : List Oper} (n : Nat) (hm : P.follows .mixedOrders = true) (hB : Region.lexTailB .any l.toArray n = true)
    (h : WS P l.toArray { w with drawn := w.drawn + 1 } (fun a' => wpList P l.toArray Q (l.drop n) a' { w with drawn := w.drawn + 1 }) (l.take n) a) : (Code.region id l.toArray true).wp P Q a w := wp_region_still_tail n hm hB h.out
end Go.Proofs.YtiijclibcfgnpaaGreat.Sto
