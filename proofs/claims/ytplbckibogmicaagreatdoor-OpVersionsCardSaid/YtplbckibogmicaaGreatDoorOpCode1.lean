/- The small calls of op's work: throwIf, answer, copyOf. -/
import Derived.Test.YtplbckibogmicaaGreatDoorOpBase
import Derived.Test.YtplbckibogmicaaGreatDoorOpFmt
import Derived.WalkLawsBesides
import Derived.RegionTactic
namespace Go.Proofs.YtplbckibogmicaaGreatDoor.Tree
open Go.RowKit Path
theorem Out.set {X : Nat → Prop} {w w' : World} {p : Addr} (h : Out X w w') (hp : X p.block) (u : Value) : Out X w (w'.setCell p u) :=
  ⟨h.os, h.tape, h.output, by simpa [World.setCell] using h.size, fun k hk hX => (Below.heap_setCell _ _ _ _ (fun e => hX (by first | (rw [e]; exact hp) | (rw [← e]; exact hp)))).trans (h.block k hk hX)⟩
theorem Out.drew {X : Nat → Prop} {w w' : World} (h : Out X w w') : Out X w w'.drew := ⟨h.os, h.tape, h.output, h.size, h.block⟩
theorem Out.alloc {X : Nat → Prop} {w w' : World} (h : Out X w w') (o : Obj) : Out X w (w'.alloc o) := h.trans (X' := X) (.of_below ((Below.refl _ _).alloc (Nat.le_refl _) _)) (fun _ h => .inl h)
end Go.Proofs.YtplbckibogmicaaGreatDoor.Tree
namespace Go.Proofs.YtplbckibogmicaaGreatDoor.Opn
open Go.RowKit Path Tree

theorem bk_drew {w : World} {g : Nat} {t : TypeId} {cs : Array Value} (h : Bk w g t cs) : Bk w.drew g t cs := h
theorem bk_set {w : World} {g : Nat} {t : TypeId} {l : List Value} (h : Bk w g t l.toArray) (i : Nat) (u : Value) : Bk (w.setCell ⟨g, i, none⟩ u) g t (l.set i u).toArray := by
  have := h.set i u
  rwa [List.setIfInBounds_toArray] at this
/-- Thrown. -/
def thrown (e : Int) : Ending := .panicked [{ v := .iface 25 (.int .i64 e), recovered := false }]
theorem throw_no (e : Int) (w : World) : Calls Tryz.prog 77 #[.bool false, .int .i64 e] w fun r w' => r = .returned (.tuple #[]) ∧ w = w' := by
  go_enter Tryz.func77, Tryz.ntmps77
  go_wp2_with fail
  go_end0
  exact ⟨rfl, rfl⟩
theorem throw_yes (e : Int) (w : World) : Calls Tryz.prog 77 #[.bool true, .int .i64 e] w fun r w' => r = .panicked [{ v := .iface 25 (.int .i64 e), recovered := false }] ∧ w = w' := by
  go_enter Tryz.func77, Tryz.ntmps77
  go_wp2_with fail
  exact ⟨rfl, rfl, rfl⟩

set_option maxRecDepth 8000 in
theorem answer_any (p : List UInt8) (n : ZN) (A : Option Addr) (k c : Nat) (g : Nat) (tp : Addr) (at_ : Int) (o : O1) (od ops : Value) (who : Who) (fx : Value) (r : R1) (rd rk rp : Value) (w : World) (h : Bk w g 104 (wkC tp at_ o od ops who fx r rd rk rp).toArray) :
    Calls Tryz.prog 113 #[.pointer (some ⟨g, 0, none⟩), .string (S p), znV n (.slice A k c)] w fun e w' => e = .returned (.tuple #[]) ∧ Bk w' g 104 (wkC tp at_ o od ops who fx ⟨r.e, p, n, r.kids⟩ (.slice A k c) rk rp).toArray ∧ Out (· = g) w w' := by
  have hlt := h.lt
  have hbA : Below w.heap.size w (w.alloc (.cells (znC n (.slice A k c)).toArray 39)) := (Below.refl _ _).alloc (Nat.le_refl _) _
  have K1 := h.below hbA
  have K2 : Bk (w.alloc (.cells (znC n (.slice A k c)).toArray 39)) w.heap.size 39 (znC n (.slice A k c)).toArray := Bk.new _ _ _
  have HBA := Lib.hid hbA
  clear h hbA
  unfold znV
  dsimp only [znC] at K1 K2 HBA ⊢
  go_enter Tryz.func113, Tryz.ntmps113
  go_wp2_with fail
  obtain ⟨W, hW⟩ : ∃ W, W = w.alloc (.cells #[.slice A k c, .int .u32 n.ver, .int .u32 n.kin, .int .u32 n.next, .int .i64 n.site, .int .u32 n.own, .int .u64 n.made, .int .u64 n.chg, .int .u64 n.tch] 39) := ⟨_, rfl⟩
  rw [← hW] at K1 K2 HBA ⊢
  obtain ⟨b, hb⟩ : ∃ b, b = w.heap.size := ⟨_, rfl⟩
  rw [← hb] at K2 hlt ⊢
  clear hW
  have hne : ¬ g = b := by omega
  have hne' : ¬ b = g := by omega
  have hc := K1.cell
  have hf := K1.frozen
  have bc := K2.cell
  have HK := Lib.hid K1
  have HB := Lib.hid hb
  clear K1 K2 hlt hb
  dsimp only [wkC, opC, whoC, rpC, znC, List.cons_append, List.nil_append] at hc
  go_region
  go_end0
  refine ⟨rfl, ?_, ?_⟩
  · have h := bk_set (bk_set (bk_set (bk_set (bk_set (bk_set (bk_set (bk_set (bk_set (bk_set HK.out 13 (.string (S p))) 14 (.slice A k c)) 15 (.int .u32 n.ver)) 16 (.int .u32 n.kin)) 17 (.int .u32 n.next)) 18 (.int .i64 n.site)) 19 (.int .u32 n.own)) 20 (.int .u64 n.made)) 21 (.int .u64 n.chg)) 22 (.int .u64 n.tch)
    have e : ((((((((((wkC tp at_ o od ops who fx r rd rk rp).set 13 (.string (S p))).set 14 (.slice A k c)).set 15 (.int .u32 n.ver)).set 16 (.int .u32 n.kin)).set 17 (.int .u32 n.next)).set 18 (.int .i64 n.site)).set 19 (.int .u32 n.own)).set 20 (.int .u64 n.made)).set 21 (.int .u64 n.chg)).set 22 (.int .u64 n.tch) = wkC tp at_ o od ops who fx ⟨r.e, p, n, r.kids⟩ (.slice A k c) rk rp := rfl
    rw [e] at h
    exact bk_drew h
  · have h := ((((((((((Out.of_below (X := (· = g)) HBA.out).set (p := ⟨g, 13, none⟩) rfl (.string (S p))).set (p := ⟨g, 14, none⟩) rfl (.slice A k c)).set (p := ⟨g, 15, none⟩) rfl (.int .u32 n.ver)).set (p := ⟨g, 16, none⟩) rfl (.int .u32 n.kin)).set (p := ⟨g, 17, none⟩) rfl (.int .u32 n.next)).set (p := ⟨g, 18, none⟩) rfl (.int .i64 n.site)).set (p := ⟨g, 19, none⟩) rfl (.int .u32 n.own)).set (p := ⟨g, 20, none⟩) rfl (.int .u64 n.made)).set (p := ⟨g, 21, none⟩) rfl (.int .u64 n.chg)).set (p := ⟨g, 22, none⟩) rfl (.int .u64 n.tch)
    exact h.drew

set_option maxRecDepth 8000 in
theorem copy_any {P : Nat → Prop} (n : ZN) (d : Value) (w : World) (hd : DataS P w d n.data) (hlen : n.data.length ≤ 1000000) :
    Calls Tryz.prog 127 #[znV n d] w fun e w' => ∃ d', e = .returned (znV n d') ∧ Below w.heap.size w w' ∧ Copied w.heap.size w' d' n.data := by
  obtain ⟨A, k, c, rfl, _, _, hr⟩ := hd
  have hk : k ≤ 1000000 := by have := hr.len; omega
  have hb2 : Below w.heap.size w ((w.alloc (.cells (znC n (.slice A k c)).toArray 39)).alloc (.cells (znC ZN.zero (.slice none 0 0)).toArray 39)) := ((Below.refl _ _).alloc (Nat.le_refl _) _).alloc (by simp) _
  have cc := bclone_any A k c n.data _ (hr.below hb2) hk
  have HB2 := Lib.hid hb2
  dsimp only [znC, ZN.zero] at cc
  clear hb2
  dsimp only [znV, znC]
  go_enter Tryz.func127, Tryz.ntmps127
  go_wp2_with fail
  refine cc.mono ?_
  rintro e w3 ⟨d', rfl, hb3, hc3⟩
  have B0 : Bk w3 w.heap.size 39 (znC n (.slice A k c)).toArray := ((Bk.new w _ _).alloc _).below hb3
  have B1 : Bk w3 (w.heap.size + 1) 39 (znC ZN.zero (.slice none 0 0)).toArray := by
    have := (Bk.new (w.alloc (.cells (znC n (.slice A k c)).toArray 39)) 39 (znC ZN.zero (.slice none 0 0)).toArray).below hb3
    simpa using this
  have HB3 := Lib.hid (HB2.out.trans (hb3.mono HB2.out.size))
  have HC : Hid (Copied (w.heap.size + 2) w3 d' n.data) := by
    show Copied _ _ _ _
    simpa using hc3
  clear cc hb3 hc3
  have hc0 := B0.cell
  have hf0 := B0.frozen
  have hc1 := B1.cell
  have hf1 := B1.frozen
  dsimp only [znC, ZN.zero] at hc0 hc1
  obtain ⟨A', k', c', rfl, hcx⟩ := HC.out
  clear B0
  clear hcx
  go_wp2_with fail
  have hh := set9 (B1.kept (heap_setCell_ne w3 w.heap.size 0 _ (.slice A' k' c') (by omega))) (.slice A' k' c') (.int .u32 n.ver) (.int .u32 n.kin) (.int .u32 n.next) (.int .i64 n.site) (.int .u32 n.own) (.int .u64 n.made) (.int .u64 n.chg) (.int .u64 n.tch)
  refine bodyPost_ret (results_cell_row rfl _ _ (w.heap.size + 1) 39 _ (0, 0) _ rfl hh Tryz.underlying39 rfl size_znode) rfl ?_
  have hle := HB3.out.size
  refine ⟨_, rfl, ?_, ?_⟩
  · exact ((((((((((HB3.out.setCell (by simp) _).setCell (by simp) _).setCell (by simp) _).setCell (by simp) _).setCell (by simp) _).setCell (by simp) _).setCell (by simp) _).setCell (by simp) _).setCell (by simp) _).setCell (by simp) _)
  · refine (HC.out.keep fun k hk => ?_).mono (by omega)
    simp only [heap_setCell_ne _ _ _ k _ (show k ≠ w.heap.size + 1 by omega), heap_setCell_ne _ _ _ k _ (show k ≠ w.heap.size by omega)]
end Go.Proofs.YtplbckibogmicaaGreatDoor.Opn
