/- run's deferred closure: it catches what was thrown. -/
import Derived.Test.YtplbckibogmicaaGreatDoorOpCodeB
import Derived.Defers
import Derived.Recover
import Derived.Laws.Pointers
import Derived.Maps.Own
import Derived.Maps.Keyed
import Derived.StillTailTactics
namespace Go.Proofs.YtplbckibogmicaaGreatDoor.Opn
open Go.RowKit Path Tree

theorem ta_nil (w : World) : (Instr.typeAssert .nilIface 20 25 true).run Tryz.prog w = .ok (.tuple #[.int .i64 0, .bool false]) w := by kernel_rfl
theorem ta_err (x : Int) (w : World) : (Instr.typeAssert (.iface 25 (.int .i64 x)) 20 25 true).run Tryz.prog w = .ok (.tuple #[.int .i64 x, .bool true]) w := by kernel_rfl
set_option maxRecDepth 100000 in
set_option maxHeartbeats 1000000 in
theorem catch_idle (a b c : Addr) (w : World) :
    CallsD Tryz.prog 76 #[.pointer (some a), .pointer (some b), .pointer (some c)] .returning w fun e u' w' => e = .returned (.tuple #[]) ∧ u' = .returning ∧ w' = w := by
  refine callsD_of_wpS Tryz.func76 rfl fun c₀ cs hu => ?_
  simp only [Tryz.ntmps76, List.size_toArray, List.length_cons, List.length_nil, Nat.reduceAdd, Nat.reduceSub, Array.replicate_succ, Array.replicate_zero, List.push_toArray, List.append_toArray, List.nil_append, List.cons_append]
  apply wpS_seq
  apply wpS_region
  simp [wpOpsS, go_sem, recoverD, hu, Exit.thenS, ta_nil]
  apply wpS_seq
  apply wpS_region
  simp [wpOpsS, go_sem, Exit.thenS]
  refine wpS_cond (t := false) (by simp [Act.eval]) ?_
  simp only [Bool.false_eq_true, if_false]
  refine wpS_of_wp (wp_skip ?_)
  cases c₀
  simp_all [bodyPostS, results, Tryz.results76]
/-- What the closure leaves: the error's reply, with the parts that were told. -/
structure Caught (x : Int) (eb rb : Nat) (rp : Value) (w w' : World) : Prop where
  eff : Bk w' eb 32 #[nilS]
  rep : Bk w' rb 51 (rpC (.no x) nilS nilS rp).toArray
  out : Out (fun k => k = eb ∨ k = rb) w w'
set_option maxRecDepth 100000 in
set_option maxHeartbeats 2000000 in
theorem catch_panicking (x : Int) (wb eb rb g : Nat) (v0 : Value) (r0 : R1) (d0 k0 p0 : Value) (tp : Addr) (at_ : Int) (o : O1) (od ops : Value) (who : Who) (fx : Value) (r : R1) (rd rk : Value) (A : Option Addr) (k c : Nat) (older : List PanicEntry) (w : World)
    (hw : Bk w wb 123 #[.pointer (some ⟨g, 0, none⟩)]) (he : Bk w eb 32 #[v0]) (hr : Bk w rb 51 (rpC r0 d0 k0 p0).toArray) (hg : Bk w g 104 (wkC tp at_ o od ops who fx r rd rk (.slice A k c)).toArray) (_h1 : ¬ eb = wb) (_h2 : ¬ rb = wb) (_h3 : ¬ eb = g) (_h4 : ¬ rb = g) (h5 : ¬ rb = eb) :
    CallsD Tryz.prog 76 #[.pointer (some ⟨wb, 0, none⟩), .pointer (some ⟨eb, 0, none⟩), .pointer (some ⟨rb, 0, none⟩)] (.panicking ({ v := .iface 25 (.int .i64 x), recovered := false } :: older)) w fun e u' w' => e = .returned (.tuple #[]) ∧ u' = .panicking ({ v := .iface 25 (.int .i64 x), recovered := true } :: older) ∧ Caught x eb rb (.slice A k c) w w' := by
  have HE := Lib.hid he
  have HR := Lib.hid hr
  have c0 : w.cell? ⟨wb, 0, none⟩ = some (.pointer (some ⟨g, 0, none⟩)) := hw.cell 0
  have c24 : w.cell? ⟨g, 24, none⟩ = some (.slice A k c) := hg.cell 24
  have ec : w.cell? ⟨eb, 0, none⟩ = some v0 := he.cell 0
  have ef : w.frozen? ⟨eb, 0, none⟩ = false := he.frozen 0
  have rc := hr.cell
  have rf := hr.frozen
  dsimp only [rpC, znC, List.cons_append, List.nil_append] at rc
  clear hw he hr hg
  refine callsD_of_wpS Tryz.func76 rfl fun c₀ cs hu => ?_
  simp only [Tryz.ntmps76, List.size_toArray, List.length_cons, List.length_nil, Nat.reduceAdd, Nat.reduceSub, Array.replicate_succ, Array.replicate_zero, List.push_toArray, List.append_toArray, List.nil_append, List.cons_append]
  apply wpS_seq
  apply wpS_region
  simp [wpOpsS, go_sem, recoverD, hu, Exit.thenS, ta_err]
  apply wpS_seq
  apply wpS_region
  simp [wpOpsS, go_sem, Exit.thenS]
  refine wpS_cond (t := true) (by simp [Act.eval]) ?_
  simp only [if_true]
  refine wpS_of_wp ?_
  go_wp2_with fail
  obtain ⟨W, hW⟩ : ∃ W, W = ((((((((((((((w.setCell ⟨eb, 0, none⟩ (.slice none 0 0)).setCell ⟨rb, 0, none⟩ (.int .i64 x)).setCell ⟨rb, 1, none⟩ (.string ⟨#[]⟩)).setCell ⟨rb, 2, none⟩ (.slice none 0 0)).setCell ⟨rb, 3, none⟩ (.int .u32 0)).setCell ⟨rb, 4, none⟩ (.int .u32 0)).setCell ⟨rb, 5, none⟩ (.int .u32 0)).setCell ⟨rb, 6, none⟩ (.int .i64 0)).setCell ⟨rb, 7, none⟩ (.int .u32 0)).setCell ⟨rb, 8, none⟩ (.int .u64 0)).setCell ⟨rb, 9, none⟩ (.int .u64 0)).setCell ⟨rb, 10, none⟩ (.int .u64 0)).setCell ⟨rb, 11, none⟩ (.slice none 0 0)).setCell ⟨rb, 12, none⟩ (.slice A k c)) := ⟨_, rfl⟩
  have hC : Caught x eb rb (.slice A k c) w W := by
    rw [hW]
    refine ⟨?_, ?_, ?_⟩
    · exact ((((((((((((((bk_set (l := [v0]) HE.out 0 (.slice none 0 0)).kept (heap_setCell_ne _ rb 0 eb (.int .i64 x) (fun e => h5 e.symm))).kept (heap_setCell_ne _ rb 1 eb (.string ⟨#[]⟩) (fun e => h5 e.symm))).kept (heap_setCell_ne _ rb 2 eb (.slice none 0 0) (fun e => h5 e.symm))).kept (heap_setCell_ne _ rb 3 eb (.int .u32 0) (fun e => h5 e.symm))).kept (heap_setCell_ne _ rb 4 eb (.int .u32 0) (fun e => h5 e.symm))).kept (heap_setCell_ne _ rb 5 eb (.int .u32 0) (fun e => h5 e.symm))).kept (heap_setCell_ne _ rb 6 eb (.int .i64 0) (fun e => h5 e.symm))).kept (heap_setCell_ne _ rb 7 eb (.int .u32 0) (fun e => h5 e.symm))).kept (heap_setCell_ne _ rb 8 eb (.int .u64 0) (fun e => h5 e.symm))).kept (heap_setCell_ne _ rb 9 eb (.int .u64 0) (fun e => h5 e.symm))).kept (heap_setCell_ne _ rb 10 eb (.int .u64 0) (fun e => h5 e.symm))).kept (heap_setCell_ne _ rb 11 eb (.slice none 0 0) (fun e => h5 e.symm))).kept (heap_setCell_ne _ rb 12 eb (.slice A k c) (fun e => h5 e.symm)))
    · exact (bk_set (bk_set (bk_set (bk_set (bk_set (bk_set (bk_set (bk_set (bk_set (bk_set (bk_set (bk_set (bk_set (l := rpC r0 d0 k0 p0) (HR.out.kept (heap_setCell_ne w eb 0 rb (.slice none 0 0) h5)) 0 (.int .i64 x)) 1 (.string ⟨#[]⟩)) 2 (.slice none 0 0)) 3 (.int .u32 0)) 4 (.int .u32 0)) 5 (.int .u32 0)) 6 (.int .i64 0)) 7 (.int .u32 0)) 8 (.int .u64 0)) 9 (.int .u64 0)) 10 (.int .u64 0)) 11 (.slice none 0 0)) 12 (.slice A k c))
    · exact (((((((((((((((Out.refl (fun k => k = eb ∨ k = rb) w).set (p := ⟨eb, 0, none⟩) (.inl rfl) (.slice none 0 0)).set (p := ⟨rb, 0, none⟩) (.inr rfl) (.int .i64 x)).set (p := ⟨rb, 1, none⟩) (.inr rfl) (.string ⟨#[]⟩)).set (p := ⟨rb, 2, none⟩) (.inr rfl) (.slice none 0 0)).set (p := ⟨rb, 3, none⟩) (.inr rfl) (.int .u32 0)).set (p := ⟨rb, 4, none⟩) (.inr rfl) (.int .u32 0)).set (p := ⟨rb, 5, none⟩) (.inr rfl) (.int .u32 0)).set (p := ⟨rb, 6, none⟩) (.inr rfl) (.int .i64 0)).set (p := ⟨rb, 7, none⟩) (.inr rfl) (.int .u32 0)).set (p := ⟨rb, 8, none⟩) (.inr rfl) (.int .u64 0)).set (p := ⟨rb, 9, none⟩) (.inr rfl) (.int .u64 0)).set (p := ⟨rb, 10, none⟩) (.inr rfl) (.int .u64 0)).set (p := ⟨rb, 11, none⟩) (.inr rfl) (.slice none 0 0)).set (p := ⟨rb, 12, none⟩) (.inr rfl) (.slice A k c))
  rw [← hW]
  have HC := Lib.hid hC
  clear hC hW rc ec rf ef c24 c0
  cases c₀
  simp_all [bodyPostS, results, Tryz.results76]
  exact HC.out
end Go.Proofs.YtplbckibogmicaaGreatDoor.Opn

namespace Go.Proofs.YtplbckibogmicaaGreatDoor.Opn
open Go.RowKit Path Tree

theorem ty_kind : Tryz.prog.underlying 5 = some (.int .u8) := by kernel_rfl
theorem ty_doers : Tryz.prog.underlying 127 = some (.map 5 126) := by kernel_rfl
theorem zero_doer (w : World) : (zeroValue 126).run Tryz.prog w = .ok .nilFunc w := by kernel_rfl
/-- How a function reads: as its number. -/
def fR (v : Value) : Option (DataW Nat × List MemPlace) := match v with
  | .func (.func i) a b => if a = #[] ∧ b = #[] then some (.held i, []) else none
  | .nilFunc => some (.held 0, [])
  | _ => none
theorem fR_mk (i : Nat) : fR (.func (.func i) #[] #[]) = some (.held i, []) := by simp [fR]
theorem fR_inv {v : Value} {i : Nat} {ps : List MemPlace} (h : fR v = some (.held i, ps)) (h0 : i ≠ 0) : v = .func (.func i) #[] #[] := by
  unfold fR at h
  split at h
  · next j a b =>
    split at h
    · next hab =>
      obtain ⟨rfl, rfl⟩ := hab
      injection h with h
      injection h with h1 h2
      injection h1 with h1
      rw [h1]
    · cases h
  · injection h with h
    injection h with h1 h2
    injection h1 with h1
    exact absurd h1.symm h0
  · cases h
theorem key_kind (k : Int) (hw : (Lit.int .u8 k).wf = true) : keyOf Tryz.prog 5 (.int .u8 k) = some (.int .u8 k) := Go.Maps.keyOf_int_mk ty_kind hw
def doersD : DataW Nat := ((((((((DataW.map [] : DataW Nat)).put (.int .u8 1) (.held 97)).put (.int .u8 2) (.held 98)).put (.int .u8 3) (.held 99)).put (.int .u8 4) (.held 100)).put (.int .u8 5) (.held 101)).put (.int .u8 6) (.held 102)).put (.int .u8 7) (.held 103)
theorem doers_create : doersD.atKey (.int .u8 1) (.held 0) = .held 97 := by kernel_rfl
theorem doers_remove : doersD.atKey (.int .u8 2) (.held 0) = .held 98 := by kernel_rfl
theorem doers_set : doersD.atKey (.int .u8 3) (.held 0) = .held 99 := by kernel_rfl
theorem doers_check : doersD.atKey (.int .u8 4) (.held 0) = .held 100 := by kernel_rfl
theorem doers_get : doersD.atKey (.int .u8 5) (.held 0) = .held 101 := by kernel_rfl
theorem doers_kids : doersD.atKey (.int .u8 6) (.held 0) = .held 102 := by kernel_rfl
theorem doers_multi : doersD.atKey (.int .u8 7) (.held 0) = .held 103 := by kernel_rfl
set_option maxRecDepth 100000 in
set_option maxHeartbeats 1000000 in
theorem doers_own (w : World) : Calls Tryz.prog 78 #[] w fun e w' => ∃ b, e = .returned (.map (some b)) ∧ Below w.heap.size w w' ∧ w'.ownsMap Tryz.prog 5 fR b 7 doersD := by
  have hmm := @run_makeMap Tryz.prog
  obtain ⟨w1, hr1, ho1, hg1⟩ := (World.ownsMap_made w Tryz.prog 5 fR).update (Go.Maps.int_keyed ty_kind) ty_doers (by unfold maxLen; omega) (key_kind 1 (by decide)) (fR_mk 97)
  obtain ⟨w2, hr2, ho2, hg2⟩ := ho1.update (Go.Maps.int_keyed ty_kind) ty_doers (by unfold maxLen; omega) (key_kind 2 (by decide)) (fR_mk 98)
  obtain ⟨w3, hr3, ho3, hg3⟩ := ho2.update (Go.Maps.int_keyed ty_kind) ty_doers (by unfold maxLen; omega) (key_kind 3 (by decide)) (fR_mk 99)
  obtain ⟨w4, hr4, ho4, hg4⟩ := ho3.update (Go.Maps.int_keyed ty_kind) ty_doers (by unfold maxLen; omega) (key_kind 4 (by decide)) (fR_mk 100)
  obtain ⟨w5, hr5, ho5, hg5⟩ := ho4.update (Go.Maps.int_keyed ty_kind) ty_doers (by unfold maxLen; omega) (key_kind 5 (by decide)) (fR_mk 101)
  obtain ⟨w6, hr6, ho6, hg6⟩ := ho5.update (Go.Maps.int_keyed ty_kind) ty_doers (by unfold maxLen; omega) (key_kind 6 (by decide)) (fR_mk 102)
  obtain ⟨w7, hr7, ho7, hg7⟩ := ho6.update (Go.Maps.int_keyed ty_kind) ty_doers (by unfold maxLen; omega) (key_kind 7 (by decide)) (fR_mk 103)
  have HO := Lib.hid ho7
  have hB : Below w.heap.size w (w.alloc (.map #[] 0)) := (Below.refl _ _).alloc (Nat.le_refl _) _
  have hb1 := hB.grown hg1 hB.size (fun k e => by cases e; exact Nat.le_refl _)
  have hb2 := hb1.grown hg2 hb1.size (fun k e => by cases e; exact Nat.le_refl _)
  have hb3 := hb2.grown hg3 hb2.size (fun k e => by cases e; exact Nat.le_refl _)
  have hb4 := hb3.grown hg4 hb3.size (fun k e => by cases e; exact Nat.le_refl _)
  have hb5 := hb4.grown hg5 hb4.size (fun k e => by cases e; exact Nat.le_refl _)
  have hb6 := hb5.grown hg6 hb5.size (fun k e => by cases e; exact Nat.le_refl _)
  have hb7 := hb6.grown hg7 hb6.size (fun k e => by cases e; exact Nat.le_refl _)
  have HB := Lib.hid hb7
  clear ho1 hg1 hb1 ho2 hg2 hb2 ho3 hg3 hb3 ho4 hg4 hb4 ho5 hg5 hb5 ho6 hg6 hb6 ho7 hg7 hb7 hB
  go_enter Tryz.func78, Tryz.ntmps78
  go_wp2_with fail
  go_ret
  exact ⟨_, rfl, HB.out, HO.out⟩
theorem doers_any (w : World) : Calls Tryz.prog 78 #[] w fun e w' => ∃ b, e = .returned (.map (some b)) ∧ Below w.heap.size w w' ∧ ∀ (k F : Nat), k < 256 → F ≠ 0 → doersD.atKey (.int .u8 (k : Int)) (.held 0) = .held F → (Instr.lookup 127 (.map (some b)) (.int .u8 (k : Int)) false).run Tryz.prog w' = .ok (.func (.func F) #[] #[]) w' :=
  (doers_own w).mono fun e w' ⟨b, he, hb, ho⟩ => ⟨b, he, hb, fun k F hk hF hd => by
    obtain ⟨v, ps, h1, h2⟩ := ho.lookup (Go.Maps.int_keyed ty_kind) ty_doers (zero_doer w') (zd := .held 0) (zp := []) rfl (key_kind (k : Int) (by simp [Lit.wf, IntKind.min, IntKind.max, IntKind.signed, IntKind.bits]; omega))
    rw [hd] at h2
    rw [← fR_inv h2 hF]
    exact h1⟩
end Go.Proofs.YtplbckibogmicaaGreatDoor.Opn

namespace Go.Proofs.YtplbckibogmicaaGreatDoor.Opn
open Go.RowKit Path Tree

/-- What run answers. -/
def RunPost (g : Nat) (x : List Ef × R1) (w : World) (e : Ending) (w' : World) : Prop :=
  Out (· = g) w w' ∧ ∃ A k c A2 k2 c2 A3 k3 c3, e = .returned (.tuple #[.slice A k c, rpV x.2 (.slice A2 k2 c2) (.slice A3 k3 c3) nilS]) ∧ OwnE (fun j => w.heap.size ≤ j) w' (.slice A k c) x.1 ∧ DataS (fun j => w.heap.size ≤ j) w' (.slice A2 k2 c2) x.2.node.data ∧ TextS (fun j => w.heap.size ≤ j) w' (.slice A3 k3 c3) x.2.kids
/-- run's own variables: w, and the two results. -/
structure Started (g : Nat) (w W : World) : Prop where
  below : Below w.heap.size w W
  wb : Bk W w.heap.size 123 #[.pointer (some ⟨g, 0, none⟩)]
  eb : Bk W (w.heap.size + 1) 32 #[.slice none 0 0]
  rb : Bk W (w.heap.size + 1 + 1) 51 (rpC (.no 0) nilS nilS nilS).toArray
theorem started_new (g : Nat) (w : World) : Started g w (((w.alloc (.cells #[.pointer (some ⟨g, 0, none⟩)] 123)).alloc (.cells #[.slice none 0 0] 32)).alloc (.cells (rpC (.no 0) nilS nilS nilS).toArray 51)) := by
  refine ⟨(((Below.refl _ _).alloc (Nat.le_refl _) _).alloc (by simp) _).alloc (by simp; omega) _, ((Bk.new _ _ _).alloc _).alloc _, ?_, ?_⟩
  · have := (Bk.new (w.alloc (.cells #[.pointer (some ⟨g, 0, none⟩)] 123)) 32 #[.slice none 0 0]).alloc (.cells (rpC (.no 0) nilS nilS nilS).toArray 51)
    simpa using this
  · have := Bk.new ((w.alloc (.cells #[.pointer (some ⟨g, 0, none⟩)] 123)).alloc (.cells #[.slice none 0 0] 32)) 51 (rpC (.no 0) nilS nilS nilS).toArray
    simpa using this
theorem Started.out {g : Nat} {w W W' : World} (h : Started g w W) (ho : Below W.heap.size W W') : Started g w W' := ⟨h.below.trans (ho.mono h.below.size), h.wb.below ho, h.eb.below ho, h.rb.below ho⟩
set_option maxRecDepth 100000 in
set_option maxHeartbeats 1000000 in
theorem door_panic (x : Int) (g : Nat) (tp : Addr) (at_ : Int) (o : O1) (od ops : Value) (who : Who) (fx : Value) (r : R1) (rd rk : Value) (w W : World) (t : Array Value) (hS : Started g w W) (hg : Bk W g 104 (wkC tp at_ o od ops who fx r rd rk nilS).toArray) (hlt : g < w.heap.size)
    (h2 : t.getD 2 undef = .pointer (some ⟨w.heap.size + 1, 0, none⟩)) (h3 : t.getD 3 undef = .pointer (some ⟨w.heap.size + 1 + 1, 0, none⟩)) :
    bodyPostD Tryz.prog Tryz.f50 (RunPost g ([], .no x) w) (.panic [{ v := .iface 25 (.int .i64 x), recovered := false }]) { tmps := t, defers := [{ target := .fn (.func 76) #[.pointer (some ⟨w.heap.size, 0, none⟩), .pointer (some ⟨w.heap.size + 1, 0, none⟩), .pointer (some ⟨w.heap.size + 1 + 1, 0, none⟩)], args := #[] }] } W := by
  refine leaves_cons (f := 76) (args := #[.pointer (some ⟨w.heap.size, 0, none⟩), .pointer (some ⟨w.heap.size + 1, 0, none⟩), .pointer (some ⟨w.heap.size + 1 + 1, 0, none⟩)]) (by simp) (by simp [go_sem]) ?_
  refine (catch_panicking x w.heap.size (w.heap.size + 1) (w.heap.size + 1 + 1) g _ (.no 0) nilS nilS nilS tp at_ o od ops who fx r rd rk none 0 0 [] W hS.wb hS.eb hS.rb hg (by omega) (by omega) (by omega) (by omega) (by omega)).mono ?_
  rintro e u' w'' ⟨rfl, rfl, hC⟩
  have hrc := hC.rep.cell
  have hec : w''.cell? ⟨w.heap.size + 1, 0, none⟩ = some (.slice none 0 0) := hC.eff.cell 0
  have hP : RunPost g ([], .no x) w (.returned (.tuple #[.slice none 0 0, rpV (.no x) nilS nilS nilS])) w'' := by
    refine ⟨(Out.of_below hS.below).trans hC.out (fun j hj => .inr (by rcases hj with hj | hj <;> omega)), none, 0, 0, none, 0, 0, none, 0, 0, rfl, OwnE.nil_ _ _, DataS.nil_ _ _, TextS.nil_ _ _⟩
  have HP := Lib.hid hP
  dsimp only [rpC, znC, List.cons_append, List.nil_append, nilS] at hrc
  have h2' : t[2]?.getD undef = .pointer (some ⟨w.heap.size + 1, 0, none⟩) := by simpa using h2
  have h3' : t[3]?.getD undef = .pointer (some ⟨w.heap.size + 1 + 1, 0, none⟩) := by simpa using h3
  clear h2 h3 hP hC hS hg
  simp [Leaves, settle, results, Tryz.results50, go_sem, h2', h3', hec, hrc]
  exact HP.out
set_option maxRecDepth 100000 in
set_option maxHeartbeats 1000000 in
theorem door_ret {A A2 A3 : Option Addr} {k c k2 c2 k3 c3 : Nat} {r : R1} (eb rb : Nat) (wp : Addr) (W : World) (t : Array Value) (R : Ending → World → Prop) (he : Bk W eb 32 #[.slice A k c]) (hr : Bk W rb 51 (rpC r (.slice A2 k2 c2) (.slice A3 k3 c3) nilS).toArray)
    (h2 : t.getD 2 undef = .pointer (some ⟨eb, 0, none⟩)) (h3 : t.getD 3 undef = .pointer (some ⟨rb, 0, none⟩)) (hR : R (.returned (.tuple #[.slice A k c, rpV r (.slice A2 k2 c2) (.slice A3 k3 c3) nilS])) W) :
    bodyPostD Tryz.prog Tryz.f50 R .ret { tmps := t, defers := [{ target := .fn (.func 76) #[.pointer (some wp), .pointer (some ⟨eb, 0, none⟩), .pointer (some ⟨rb, 0, none⟩)], args := #[] }] } W := by
  have HR := Lib.hid hR
  have hrc := hr.cell
  have hec : W.cell? ⟨eb, 0, none⟩ = some (.slice A k c) := he.cell 0
  have h2' : t[2]?.getD undef = .pointer (some ⟨eb, 0, none⟩) := by simpa using h2
  have h3' : t[3]?.getD undef = .pointer (some ⟨rb, 0, none⟩) := by simpa using h3
  dsimp only [rpC, znC, List.cons_append, List.nil_append, nilS] at hrc
  clear h2 h3 hR he hr
  refine leaves_cons (f := 76) (args := #[.pointer (some wp), .pointer (some ⟨eb, 0, none⟩), .pointer (some ⟨rb, 0, none⟩)]) (by simp) (by simp [go_sem]) ?_
  refine (catch_idle wp ⟨eb, 0, none⟩ ⟨rb, 0, none⟩ W).mono ?_
  rintro e u' w'' ⟨rfl, rfl, rfl⟩
  simp [Leaves, settle, results, Tryz.results50, go_sem, h2', h3', hec, hrc]
  exact HR.out
end Go.Proofs.YtplbckibogmicaaGreatDoor.Opn

namespace Go.Proofs.YtplbckibogmicaaGreatDoor.Opn
open Go.RowKit Path Tree

/-- The end of a region in which something was thrown. -/
def Thrown3 (D : List Deferred) (p2 p3 : Value) (x : Int) (W2 : World) : Exit → Act → World → Prop
  | .panic ch, a, w => a.defers = D ∧ a.tmps.getD 2 undef = p2 ∧ a.tmps.getD 3 undef = p3 ∧ ch = [{ v := .iface 25 (.int .i64 x), recovered := false }] ∧ Below W2.heap.size W2 w
  | _, _, _ => False
theorem thrown_put {D : List Deferred} {p2 p3 : Value} {x : Int} {W2 : World} (k : Nat) (h2 : k ≠ 2) (h3 : k ≠ 3) {c : List PanicEntry} {a : Act} {v : Value} {w : World} (h : Thrown3 D p2 p3 x W2 (.panic c) (a.put (some k) v) w) : Thrown3 D p2 p3 x W2 (.panic c) a w := by
  obtain ⟨e1, e2, e3, r⟩ := h
  refine ⟨e1, ?_, ?_, r⟩
  · rw [← e2]
    simp only [Act.put, Array.getD_eq_getD_getElem?]
    rw [Array.getElem?_setIfInBounds_ne h2]
  · rw [← e3]
    simp only [Act.put, Array.getD_eq_getD_getElem?]
    rw [Array.getElem?_setIfInBounds_ne h3]
set_option maxRecDepth 100000 in
set_option maxHeartbeats 2000000 in
theorem run_throws (i : Nat) (t : TR) (L : List (Addr × TR)) (X : Nat → Prop) (g : Nat) (tp : Addr) (at_ : Int) (o : O1) (od ops : Value) (who : Who) (w : World) (h : Bk w g 104 (wk0 tp at_ o od ops who).toArray) (hT : Trees w L X) (hi : L[i]? = some (tp, t)) (F : Nat) (x : Int) (hF : F ≠ 0) (hd : doersD.atKey (.int .u8 (o.kind : Int)) (.held 0) = .held F) (hE : ∀ args w, (callFunc F args).run Tryz.prog w = .ok (.enter F args) w) (hkk : o.kind < 256)
    (cm : ∀ W, Below w.heap.size w W → Calls Tryz.prog F #[.pointer (some ⟨g, 0, none⟩)] W fun e w' => e = thrown x ∧ Below W.heap.size W w') (hp : o.path.length ≤ 100000) (hr : t.root.length ≤ 1000000) (hk : o.kind ≠ 7) (hu : underF o.path t.root = true) :
    Calls Tryz.prog 50 #[.pointer (some ⟨g, 0, none⟩)] w (RunPost g ([], .no x) w) := by
  have hmf : ∀ (fn : Fn) (first cap : Array Value) (w : World), (Instr.makeFunc fn first cap).run Tryz.prog w = .ok (.func fn first cap) w := fun _ _ _ _ => rfl
  have hst := started_new g w
  have HH := Lib.hid h
  have hgl := h.lt
  have CM := Lib.hid cm
  have HD := Lib.hid hd
  clear cm hd
  have HST := Lib.hid hst
  have HT := Lib.hid hT
  have HI := Lib.hid hi
  have cu := Lib.hid (fun W => Under_any o.path t.root W (by omega) hr)
  rw [hu] at cu
  have kk : ((o.kind : Int) != 7) = true := by simpa using (by omega : ¬ (o.kind : Int) = 7)
  clear hst h hT hi hp hr hk hu
  dsimp only [rpC, znC, R1.no, ZN.zero, nilS, S] at HST
  go_enter_defers Tryz.func50, Tryz.ntmps50
  go_wp2_with fail
  obtain ⟨W, hW⟩ : ∃ W, W = (((w.alloc (.cells #[.pointer (some ⟨g, 0, none⟩)] 123)).alloc (.cells #[.slice none 0 0] 32)).alloc (.cells #[.int .i64 0, .string ⟨#[]⟩, .slice none 0 0, .int .u32 0, .int .u32 0, .int .u32 0, .int .i64 0, .int .u32 0, .int .u64 0, .int .u64 0, .int .u64 0, .slice none 0 0, .slice none 0 0] 51)) := ⟨_, rfl⟩
  have hst : Started g w W := by rw [hW]; exact HST.out
  rw [← hW]
  clear hW hmf
  have HS := Lib.hid hst
  have kW := hst.wb.cell 0
  have K1 := HH.out.below hst.below
  have kw : W.cell? ⟨w.heap.size, 0, none⟩ = some (.pointer (some ⟨g, 0, none⟩)) := hst.wb.cell 0
  have k0 : W.cell? ⟨g, 0, none⟩ = some (.pointer (some tp)) := K1.cell 0
  have k2 : W.cell? ⟨g, 2, none⟩ = some (.int .u8 (o.kind : Int)) := K1.cell 2
  have k3 : W.cell? ⟨g, 3, none⟩ = some (.string (S o.path)) := K1.cell 3
  have HK1 := Lib.hid K1
  have BD : Hid (Below W.heap.size W W.drew) := (Below.refl _ W).drew
  have HTW := Lib.hid (HT.out.below hst.below)
  clear hst kW K1
  have cr := Lib.hid ((Root_quiet i tp t W.drew L X (HTW.out.below BD.out) HI.out).mono (R' := fun e w' => e = .returned (.string (S t.root)) ∧ W.drew = w') fun _ _ ⟨h, e⟩ => ⟨h, e.symm⟩)
  have HC : Hid (∀ V, Below W.heap.size W V → V.cell? ⟨w.heap.size, 0, none⟩ = some (.pointer (some ⟨g, 0, none⟩)) ∧ V.cell? ⟨g, 0, none⟩ = some (.pointer (some tp)) ∧ V.cell? ⟨g, 2, none⟩ = some (.int .u8 (o.kind : Int)) ∧ V.cell? ⟨g, 3, none⟩ = some (.string (S o.path))) := fun V hV => ⟨(HS.out.out hV).wb.cell 0, (HK1.out.below hV).cell 0, (HK1.out.below hV).cell 2, (HK1.out.below hV).cell 3⟩
  have HSD := Lib.hid (HC.out _ BD.out)
  go_region_held3 (fun V => V.cell? ⟨w.heap.size, 0, none⟩ = some (.pointer (some ⟨g, 0, none⟩)) ∧ V.cell? ⟨g, 0, none⟩ = some (.pointer (some tp)) ∧ V.cell? ⟨g, 2, none⟩ = some (.int .u8 (o.kind : Int)) ∧ V.cell? ⟨g, 3, none⟩ = some (.string (S o.path)))
    (first | (with_reducible assumption) | (with_reducible exact HSD.out) | (with_reducible exact HS5.out))
    (first
      | (go_at_call 46; (with_reducible refine cr.out.mono ?_); rintro e w1 ⟨rfl, rfl⟩)
      | (go_at_call 34; (with_reducible refine (cu.out _).mono ?_); rintro e w5 ⟨rfl, hb5⟩; have BE : Hid (Below W.heap.size W w5) := BD.out.trans hb5; have HS5 := Lib.hid (HC.out _ BE.out); clear hb5)
      | (go_at_call 77; (with_reducible refine (throw_no _ _).mono ?_); rintro e we ⟨rfl, rfl⟩))
  have HST2 := Lib.hid (HS.out.out BE.out)
  have HK2 := Lib.hid (HK1.out.below BE.out)
  have HTW2 := Lib.hid (HTW.out.below BE.out)
  clear kw k0 k2 k3 HSD HS5 cr kk cu
  go_wp2_with fail
  refine Code.wp_mono (Q := Thrown3 [{ target := .fn (.func 76) #[.pointer (some ⟨w.heap.size, 0, none⟩), .pointer (some ⟨w.heap.size + 1, 0, none⟩), .pointer (some ⟨w.heap.size + 1 + 1, 0, none⟩)], args := #[] }] (.pointer (some ⟨w.heap.size + 1, 0, none⟩)) (.pointer (some ⟨w.heap.size + 1 + 1, 0, none⟩)) x w5) ?_ ?_
  · intro e a W9 hh
    cases e with
    | panic ch =>
      obtain ⟨e1, e2, e3, rfl, hb⟩ := hh
      obtain ⟨ts, ds⟩ := a
      dsimp only at e1 e2 e3
      subst e1
      exact door_panic x g tp at_ o od ops who nilS (.no 0) nilS nilS w W9 ts (HST2.out.out hb) (HK2.out.below hb) hgl e2 e3
    | _ => exact hh.elim
  · refine wp_region_held (S := fun V => V.cell? ⟨w.heap.size, 0, none⟩ = some (.pointer (some ⟨g, 0, none⟩)) ∧ V.cell? ⟨g, 2, none⟩ = some (.int .u8 (o.kind : Int))) (by kernel_rfl) ?_
    change wpAnyH _ _ _ _ _ _ _ _ (World.drew _)
    have HS6 := Lib.hid (And.intro (show w5.drew.cell? ⟨w.heap.size, 0, none⟩ = some (.pointer (some ⟨g, 0, none⟩)) from HST2.out.wb.cell 0) (show w5.drew.cell? ⟨g, 2, none⟩ = some (.int .u8 (o.kind : Int)) from HK2.out.cell 2))
    refine wpAnyH_take (i := 1) (v := .pointer (some ⟨g, 0, none⟩)) rfl (by kernel_rfl) (by kernel_rfl) (by kernel_rfl) (fun c a w => thrown_put 27 (by decide) (by decide)) (Or.inl ⟨by rfl, fun V hV => by dsimp only at hV; go_split_ands; go_simp⟩) HS6.out ?_
    simp only [Act.put]
    refine wpAnyH_take (i := 2) (v := .pointer (some ⟨g, 0, none⟩)) rfl (by kernel_rfl) (by kernel_rfl) (by kernel_rfl) (fun c a w => thrown_put 28 (by decide) (by decide)) (Or.inl ⟨by rfl, fun V hV => by dsimp only at hV; go_split_ands; go_simp⟩) HS6.out ?_
    simp only [Act.put]
    refine wpAnyH_take (i := 3) (v := .pointer (some ⟨g, 2, none⟩)) rfl (by kernel_rfl) (by kernel_rfl) (by kernel_rfl) (fun c a w => thrown_put 29 (by decide) (by decide)) (Or.inl ⟨by rfl, fun V hV => by dsimp only at hV; go_split_ands; go_simp⟩) HS6.out ?_
    simp only [Act.put]
    refine wpAnyH_take (i := 4) (v := .pointer (some ⟨g, 2, none⟩)) rfl (by kernel_rfl) (by kernel_rfl) (by kernel_rfl) (fun c a w => thrown_put 30 (by decide) (by decide)) (Or.inl ⟨by rfl, fun V hV => by dsimp only at hV; go_split_ands; go_simp⟩) HS6.out ?_
    simp only [Act.put]
    refine wpAnyH_take (i := 5) (v := .int .u8 (o.kind : Int)) rfl (by kernel_rfl) (by kernel_rfl) (by kernel_rfl) (fun c a w => thrown_put 31 (by decide) (by decide)) (Or.inl ⟨by rfl, fun V hV => by dsimp only at hV; go_split_ands; go_simp⟩) HS6.out ?_
    simp only [Act.put]
    refine wpAnyH_take (i := 7) (v := .pointer (some ⟨g, 0, none⟩)) rfl (by kernel_rfl) (by kernel_rfl) (by kernel_rfl) (fun c a w => thrown_put 33 (by decide) (by decide)) (Or.inl ⟨by rfl, fun V hV => by dsimp only at hV; go_split_ands; go_simp⟩) HS6.out ?_
    simp only [Act.put]
    refine wpAnyH_ready (rs := [0]) (by kernel_rfl) (by simp) ?_
    refine AllReadyH.cons rfl (fun K hK => ?_) AllReadyH.nil
    go_simp
    have cdo := doers_any w5.drew
    go_wp2_with (go_at_call 78; (with_reducible refine cdo.mono ?_); rintro e w6 ⟨mb, rfl, hb6, hl6⟩)
    have BE6 : Hid (Below w5.heap.size w5 w6) := ((Below.refl w5.heap.size w5).drew).trans hb6
    have hlk := hl6 o.kind F hkk hF HD.out
    have HST6 := Lib.hid (HST2.out.out BE6.out)
    have HK6 := Lib.hid (HK2.out.below BE6.out)
    refine hK.out _ _ ⟨HST6.out.wb.cell 0, HK6.out.cell 2⟩ (fun hHeld => ?_)
    clear hK K hb6 hl6 cdo hHeld
    have cm := (CM.out w6 ((HST6.out.below))).mono (R' := fun e w' => e = .panicked [{ v := .iface 25 (.int .i64 x), recovered := false }] ∧ Below w6.heap.size w6 w') fun _ _ h => h
    have HCM := Lib.hid cm
    clear cm
    refine wpAnyH_ready (rs := [6]) (by kernel_rfl) (by simp) ?_
    refine AllReadyH.cons rfl (fun K hK => ?_) AllReadyH.nil
    go_simp
    refine hK.out _ _ ⟨HST6.out.wb.cell 0, HK6.out.cell 2⟩ (fun hHeld => ?_)
    clear hK K hHeld hlk
    refine wpAnyH_ready (rs := [8]) (by kernel_rfl) (by simp) ?_
    refine AllReadyH.cons rfl (fun K hK => ?_) AllReadyH.nil
    go_simp
    clear hK
    refine HCM.out.mono ?_
    rintro e w7 ⟨rfl, hb7⟩
    exact ⟨rfl, rfl, rfl, rfl, BE6.out.trans (hb7.mono BE6.out.size)⟩
end Go.Proofs.YtplbckibogmicaaGreatDoor.Opn

namespace Go.Proofs.YtplbckibogmicaaGreatDoor.Opn
open Go.RowKit Path Tree

set_option maxRecDepth 100000 in
set_option maxHeartbeats 4000000 in
theorem run_does (i : Nat) (t : TR) (L : List (Addr × TR)) (X : Nat → Prop) (g : Nat) (tp : Addr) (at_ : Int) (o : O1) (od ops : Value) (who : Who) (w : World) (h : Bk w g 104 (wk0 tp at_ o od ops who).toArray) (hT : Trees w L X) (hi : L[i]? = some (tp, t)) (F : Nat) (x : List Ef × R1) (hF : F ≠ 0) (hd : doersD.atKey (.int .u8 (o.kind : Int)) (.held 0) = .held F) (hE : ∀ args w, (callFunc F args).run Tryz.prog w = .ok (.enter F args) w) (hkk : o.kind < 256)
    (cm : ∀ W, Below w.heap.size w W → Calls Tryz.prog F #[.pointer (some ⟨g, 0, none⟩)] W fun e w' => e = .returned (.tuple #[]) ∧ Out (· = g) W w' ∧ ∃ A k c A2 k2 c2 A3 k3 c3, Bk w' g 104 (wkC tp at_ o od ops who (.slice A k c) x.2 (.slice A2 k2 c2) (.slice A3 k3 c3) nilS).toArray ∧ OwnE (fun j => W.heap.size ≤ j) w' (.slice A k c) x.1 ∧ DataS (fun j => W.heap.size ≤ j) w' (.slice A2 k2 c2) x.2.node.data ∧ TextS (fun j => W.heap.size ≤ j) w' (.slice A3 k3 c3) x.2.kids) (hp : o.path.length ≤ 100000) (hr : t.root.length ≤ 1000000) (hk : o.kind ≠ 7) (hu : underF o.path t.root = true) :
    Calls Tryz.prog 50 #[.pointer (some ⟨g, 0, none⟩)] w (RunPost g x w) := by
  have hmf : ∀ (fn : Fn) (first cap : Array Value) (w : World), (Instr.makeFunc fn first cap).run Tryz.prog w = .ok (.func fn first cap) w := fun _ _ _ _ => rfl
  have hst := started_new g w
  have HH := Lib.hid h
  have hgl := h.lt
  have CM := Lib.hid cm
  have HD := Lib.hid hd
  clear cm hd
  have HST := Lib.hid hst
  have HT := Lib.hid hT
  have HI := Lib.hid hi
  have cu := Lib.hid (fun W => Under_any o.path t.root W (by omega) hr)
  rw [hu] at cu
  have kk : ((o.kind : Int) != 7) = true := by simpa using (by omega : ¬ (o.kind : Int) = 7)
  clear hst h hT hi hp hr hk hu
  dsimp only [rpC, znC, R1.no, ZN.zero, nilS, S] at HST
  go_enter_defers Tryz.func50, Tryz.ntmps50
  go_wp2_with fail
  obtain ⟨W, hW⟩ : ∃ W, W = (((w.alloc (.cells #[.pointer (some ⟨g, 0, none⟩)] 123)).alloc (.cells #[.slice none 0 0] 32)).alloc (.cells #[.int .i64 0, .string ⟨#[]⟩, .slice none 0 0, .int .u32 0, .int .u32 0, .int .u32 0, .int .i64 0, .int .u32 0, .int .u64 0, .int .u64 0, .int .u64 0, .slice none 0 0, .slice none 0 0] 51)) := ⟨_, rfl⟩
  have hst : Started g w W := by rw [hW]; exact HST.out
  rw [← hW]
  clear hW hmf
  have HS := Lib.hid hst
  have kW := hst.wb.cell 0
  have K1 := HH.out.below hst.below
  have kw : W.cell? ⟨w.heap.size, 0, none⟩ = some (.pointer (some ⟨g, 0, none⟩)) := hst.wb.cell 0
  have k0 : W.cell? ⟨g, 0, none⟩ = some (.pointer (some tp)) := K1.cell 0
  have k2 : W.cell? ⟨g, 2, none⟩ = some (.int .u8 (o.kind : Int)) := K1.cell 2
  have k3 : W.cell? ⟨g, 3, none⟩ = some (.string (S o.path)) := K1.cell 3
  have HK1 := Lib.hid K1
  have BD : Hid (Below W.heap.size W W.drew) := (Below.refl _ W).drew
  have HTW := Lib.hid (HT.out.below hst.below)
  clear hst kW K1
  have cr := Lib.hid ((Root_quiet i tp t W.drew L X (HTW.out.below BD.out) HI.out).mono (R' := fun e w' => e = .returned (.string (S t.root)) ∧ W.drew = w') fun _ _ ⟨h, e⟩ => ⟨h, e.symm⟩)
  have HC : Hid (∀ V, Below W.heap.size W V → V.cell? ⟨w.heap.size, 0, none⟩ = some (.pointer (some ⟨g, 0, none⟩)) ∧ V.cell? ⟨g, 0, none⟩ = some (.pointer (some tp)) ∧ V.cell? ⟨g, 2, none⟩ = some (.int .u8 (o.kind : Int)) ∧ V.cell? ⟨g, 3, none⟩ = some (.string (S o.path))) := fun V hV => ⟨(HS.out.out hV).wb.cell 0, (HK1.out.below hV).cell 0, (HK1.out.below hV).cell 2, (HK1.out.below hV).cell 3⟩
  have HSD := Lib.hid (HC.out _ BD.out)
  go_region_held3 (fun V => V.cell? ⟨w.heap.size, 0, none⟩ = some (.pointer (some ⟨g, 0, none⟩)) ∧ V.cell? ⟨g, 0, none⟩ = some (.pointer (some tp)) ∧ V.cell? ⟨g, 2, none⟩ = some (.int .u8 (o.kind : Int)) ∧ V.cell? ⟨g, 3, none⟩ = some (.string (S o.path)))
    (first | (with_reducible assumption) | (with_reducible exact HSD.out) | (with_reducible exact HS5.out))
    (first
      | (go_at_call 46; (with_reducible refine cr.out.mono ?_); rintro e w1 ⟨rfl, rfl⟩)
      | (go_at_call 34; (with_reducible refine (cu.out _).mono ?_); rintro e w5 ⟨rfl, hb5⟩; have BE : Hid (Below W.heap.size W w5) := BD.out.trans hb5; have HS5 := Lib.hid (HC.out _ BE.out); clear hb5)
      | (go_at_call 77; (with_reducible refine (throw_no _ _).mono ?_); rintro e we ⟨rfl, rfl⟩))
  have HST2 := Lib.hid (HS.out.out BE.out)
  have HK2 := Lib.hid (HK1.out.below BE.out)
  have HTW2 := Lib.hid (HTW.out.below BE.out)
  clear kw k0 k2 k3 HSD HS5 cr kk cu
  have kw : w5.cell? ⟨w.heap.size, 0, none⟩ = some (.pointer (some ⟨g, 0, none⟩)) := HST2.out.wb.cell 0
  have k2 : w5.cell? ⟨g, 2, none⟩ = some (.int .u8 (o.kind : Int)) := HK2.out.cell 2
  have HSD := Lib.hid (And.intro (show w5.drew.cell? ⟨w.heap.size, 0, none⟩ = some (.pointer (some ⟨g, 0, none⟩)) from kw) (show w5.drew.cell? ⟨g, 2, none⟩ = some (.int .u8 (o.kind : Int)) from k2))
  have cdo := Lib.hid (doers_any w5.drew)
  go_wp2_with fail
  go_region_held3 (fun V => V.cell? ⟨w.heap.size, 0, none⟩ = some (.pointer (some ⟨g, 0, none⟩)) ∧ V.cell? ⟨g, 2, none⟩ = some (.int .u8 (o.kind : Int)))
    (first | (with_reducible assumption) | (with_reducible exact HSD.out) | (with_reducible exact HS6.out) | (with_reducible exact HS7.out))
    (first
      | (go_at_call 78; (with_reducible refine cdo.out.mono ?_); rintro e w6 ⟨mb, rfl, hb6, hl6⟩; have BE6 : Hid (Below w5.heap.size w5 w6) := ((Below.refl w5.heap.size w5).drew).trans hb6; have hlk := hl6 o.kind F hkk hF HD.out; have HST6 := Lib.hid (HST2.out.out BE6.out); have HK6 := Lib.hid (HK2.out.below BE6.out); have HS6 := Lib.hid (And.intro (show w6.cell? ⟨w.heap.size, 0, none⟩ = some (.pointer (some ⟨g, 0, none⟩)) from HST6.out.wb.cell 0) (show w6.cell? ⟨g, 2, none⟩ = some (.int .u8 (o.kind : Int)) from HK6.out.cell 2)); have cm := Lib.hid (CM.out w6 (HST6.out.below)); clear hb6 hl6)
      | (go_at_fn F; (with_reducible refine cm.out.mono ?_); rintro e w7 ⟨rfl, ho7, A, k, c, A2, k2', c2, A3, k3', c3, hk7, he7, hd7, ht7⟩; have HO7 := Lib.hid ho7; have HK7 := Lib.hid hk7; have HE7 := Lib.hid he7; have HD7 := Lib.hid hd7; have HT7 := Lib.hid ht7; have hwg : ¬ w.heap.size = g := (by omega); have HW7 := Lib.hid (bk_out HST6.out.wb HO7.out hwg); have HS7 := Lib.hid (And.intro (show w7.cell? ⟨w.heap.size, 0, none⟩ = some (.pointer (some ⟨g, 0, none⟩)) from HW7.out.cell 0) (show w7.cell? ⟨g, 2, none⟩ = some (.int .u8 (o.kind : Int)) from HK7.out.cell 2)); clear ho7 hk7 he7 hd7 ht7 hwg))
  clear kw k2 HSD hlk
  go_wp2_with fail
  obtain ⟨eb, heb⟩ : ∃ eb, eb = w.heap.size + 1 := ⟨_, rfl⟩
  obtain ⟨rb, hrb⟩ : ∃ rb, rb = w.heap.size + 1 + 1 := ⟨_, rfl⟩
  have HEB := Lib.hid (bk_out HST6.out.eb HO7.out (by omega))
  have HRB := Lib.hid (bk_out HST6.out.rb HO7.out (by omega))
  rw [← heb] at HEB
  rw [← hrb] at HRB
  have hebrb : ¬ eb = rb := by omega
  have hrbeb : ¬ rb = eb := by omega
  have hge : ¬ g = eb := by omega
  have hgr : ¬ g = rb := by omega
  have hwe : ¬ w.heap.size = eb := by omega
  have hwr : ¬ w.heap.size = rb := by omega
  have hge' : ¬ eb = g := by omega
  have hgr' : ¬ rb = g := by omega
  have hwe' : ¬ eb = w.heap.size := by omega
  have hwr' : ¬ rb = w.heap.size := by omega
  rw [← hrb, ← heb]
  have gc := HK7.out.cell
  have ec := HEB.out.cell
  have ef := HEB.out.frozen
  have rc := HRB.out.cell
  have rf := HRB.out.frozen
  dsimp only [wkC, opC, whoC, rpC, znC, List.cons_append, List.nil_append, nilS] at gc rc
  have HEBE := Lib.hid heb
  have HRBE := Lib.hid hrb
  have hwc : w7.cell? ⟨w.heap.size, 0, none⟩ = some (.pointer (some ⟨g, 0, none⟩)) := HW7.out.cell 0
  have HSD : Hid (w7.drew.cell? ⟨w.heap.size, 0, none⟩ = some (.pointer (some ⟨g, 0, none⟩)) ∧ w7.drew.cell? ⟨g, 11, none⟩ = some (.slice A k c) ∧ w7.drew.cell? ⟨g, 12, none⟩ = some (.int .i64 x.2.e) ∧ w7.drew.cell? ⟨g, 13, none⟩ = some (.string (S x.2.path)) ∧ w7.drew.cell? ⟨g, 14, none⟩ = some (.slice A2 k2' c2) ∧ w7.drew.cell? ⟨g, 15, none⟩ = some (.int .u32 x.2.node.ver) ∧ w7.drew.cell? ⟨g, 16, none⟩ = some (.int .u32 x.2.node.kin) ∧ w7.drew.cell? ⟨g, 17, none⟩ = some (.int .u32 x.2.node.next) ∧ w7.drew.cell? ⟨g, 18, none⟩ = some (.int .i64 x.2.node.site) ∧ w7.drew.cell? ⟨g, 19, none⟩ = some (.int .u32 x.2.node.own) ∧ w7.drew.cell? ⟨g, 20, none⟩ = some (.int .u64 x.2.node.made) ∧ w7.drew.cell? ⟨g, 21, none⟩ = some (.int .u64 x.2.node.chg) ∧ w7.drew.cell? ⟨g, 22, none⟩ = some (.int .u64 x.2.node.tch) ∧ w7.drew.cell? ⟨g, 23, none⟩ = some (.slice A3 k3' c3) ∧ w7.drew.cell? ⟨g, 24, none⟩ = some (.slice none 0 0)) := ⟨hwc, HK7.out.cell 11, HK7.out.cell 12, HK7.out.cell 13, HK7.out.cell 14, HK7.out.cell 15, HK7.out.cell 16, HK7.out.cell 17, HK7.out.cell 18, HK7.out.cell 19, HK7.out.cell 20, HK7.out.cell 21, HK7.out.cell 22, HK7.out.cell 23, HK7.out.cell 24⟩
  clear heb hrb
  go_region_held3 (fun V => V.cell? ⟨w.heap.size, 0, none⟩ = some (.pointer (some ⟨g, 0, none⟩)) ∧ V.cell? ⟨g, 11, none⟩ = some (.slice A k c) ∧ V.cell? ⟨g, 12, none⟩ = some (.int .i64 x.2.e) ∧ V.cell? ⟨g, 13, none⟩ = some (.string (S x.2.path)) ∧ V.cell? ⟨g, 14, none⟩ = some (.slice A2 k2' c2) ∧ V.cell? ⟨g, 15, none⟩ = some (.int .u32 x.2.node.ver) ∧ V.cell? ⟨g, 16, none⟩ = some (.int .u32 x.2.node.kin) ∧ V.cell? ⟨g, 17, none⟩ = some (.int .u32 x.2.node.next) ∧ V.cell? ⟨g, 18, none⟩ = some (.int .i64 x.2.node.site) ∧ V.cell? ⟨g, 19, none⟩ = some (.int .u32 x.2.node.own) ∧ V.cell? ⟨g, 20, none⟩ = some (.int .u64 x.2.node.made) ∧ V.cell? ⟨g, 21, none⟩ = some (.int .u64 x.2.node.chg) ∧ V.cell? ⟨g, 22, none⟩ = some (.int .u64 x.2.node.tch) ∧ V.cell? ⟨g, 23, none⟩ = some (.slice A3 k3' c3) ∧ V.cell? ⟨g, 24, none⟩ = some (.slice none 0 0))
    (first | (with_reducible assumption) | (with_reducible exact HSD.out) | go_keep)
    (fail)
  clear ec ef rc rf gc HSD hwc
  go_wp2_with fail
  obtain ⟨V, hV⟩ : ∃ V, V = ((((((((((((((w7.setCell ⟨eb, 0, none⟩ (.slice A k c)).setCell ⟨rb, 0, none⟩ (.int .i64 x.2.e)).setCell ⟨rb, 1, none⟩ (.string (S x.2.path))).setCell ⟨rb, 2, none⟩ (.slice A2 k2' c2)).setCell ⟨rb, 3, none⟩ (.int .u32 x.2.node.ver)).setCell ⟨rb, 4, none⟩ (.int .u32 x.2.node.kin)).setCell ⟨rb, 5, none⟩ (.int .u32 x.2.node.next)).setCell ⟨rb, 6, none⟩ (.int .i64 x.2.node.site)).setCell ⟨rb, 7, none⟩ (.int .u32 x.2.node.own)).setCell ⟨rb, 8, none⟩ (.int .u64 x.2.node.made)).setCell ⟨rb, 9, none⟩ (.int .u64 x.2.node.chg)).setCell ⟨rb, 10, none⟩ (.int .u64 x.2.node.tch)).setCell ⟨rb, 11, none⟩ (.slice A3 k3' c3)).setCell ⟨rb, 12, none⟩ (.slice none 0 0)).drew := ⟨_, rfl⟩
  have he8 : Bk V eb 32 #[.slice A k c] := by rw [hV]; exact bk_drew ((((((((((((((bk_set (l := [.slice none 0 0]) HEB.out 0 (.slice A k c)).kept (heap_setCell_ne _ rb 0 eb (.int .i64 x.2.e) hebrb)).kept (heap_setCell_ne _ rb 1 eb (.string (S x.2.path)) hebrb)).kept (heap_setCell_ne _ rb 2 eb (.slice A2 k2' c2) hebrb)).kept (heap_setCell_ne _ rb 3 eb (.int .u32 x.2.node.ver) hebrb)).kept (heap_setCell_ne _ rb 4 eb (.int .u32 x.2.node.kin) hebrb)).kept (heap_setCell_ne _ rb 5 eb (.int .u32 x.2.node.next) hebrb)).kept (heap_setCell_ne _ rb 6 eb (.int .i64 x.2.node.site) hebrb)).kept (heap_setCell_ne _ rb 7 eb (.int .u32 x.2.node.own) hebrb)).kept (heap_setCell_ne _ rb 8 eb (.int .u64 x.2.node.made) hebrb)).kept (heap_setCell_ne _ rb 9 eb (.int .u64 x.2.node.chg) hebrb)).kept (heap_setCell_ne _ rb 10 eb (.int .u64 x.2.node.tch) hebrb)).kept (heap_setCell_ne _ rb 11 eb (.slice A3 k3' c3) hebrb)).kept (heap_setCell_ne _ rb 12 eb (.slice none 0 0) hebrb))
  have hr8 : Bk V rb 51 (rpC x.2 (.slice A2 k2' c2) (.slice A3 k3' c3) nilS).toArray := by rw [hV]; exact bk_drew (bk_set (bk_set (bk_set (bk_set (bk_set (bk_set (bk_set (bk_set (bk_set (bk_set (bk_set (bk_set (bk_set (l := rpC (.no 0) nilS nilS nilS) (HRB.out.kept (heap_setCell_ne w7 eb 0 rb (.slice A k c) hrbeb)) 0 (.int .i64 x.2.e)) 1 (.string (S x.2.path))) 2 (.slice A2 k2' c2)) 3 (.int .u32 x.2.node.ver)) 4 (.int .u32 x.2.node.kin)) 5 (.int .u32 x.2.node.next)) 6 (.int .i64 x.2.node.site)) 7 (.int .u32 x.2.node.own)) 8 (.int .u64 x.2.node.made)) 9 (.int .u64 x.2.node.chg)) 10 (.int .u64 x.2.node.tch)) 11 (.slice A3 k3' c3)) 12 (.slice none 0 0))
  have ho8 : Out (fun k => k = eb ∨ k = rb) w7 V := by rw [hV]; exact (((((((((((((((Out.refl (fun k => k = eb ∨ k = rb) w7).set (p := ⟨eb, 0, none⟩) (.inl rfl) (.slice A k c)).set (p := ⟨rb, 0, none⟩) (.inr rfl) (.int .i64 x.2.e)).set (p := ⟨rb, 1, none⟩) (.inr rfl) (.string (S x.2.path))).set (p := ⟨rb, 2, none⟩) (.inr rfl) (.slice A2 k2' c2)).set (p := ⟨rb, 3, none⟩) (.inr rfl) (.int .u32 x.2.node.ver)).set (p := ⟨rb, 4, none⟩) (.inr rfl) (.int .u32 x.2.node.kin)).set (p := ⟨rb, 5, none⟩) (.inr rfl) (.int .u32 x.2.node.next)).set (p := ⟨rb, 6, none⟩) (.inr rfl) (.int .i64 x.2.node.site)).set (p := ⟨rb, 7, none⟩) (.inr rfl) (.int .u32 x.2.node.own)).set (p := ⟨rb, 8, none⟩) (.inr rfl) (.int .u64 x.2.node.made)).set (p := ⟨rb, 9, none⟩) (.inr rfl) (.int .u64 x.2.node.chg)).set (p := ⟨rb, 10, none⟩) (.inr rfl) (.int .u64 x.2.node.tch)).set (p := ⟨rb, 11, none⟩) (.inr rfl) (.slice A3 k3' c3)).set (p := ⟨rb, 12, none⟩) (.inr rfl) (.slice none 0 0)).drew
  rw [← hV]
  have h0 := HST6.out.below.size
  have h1 := HEBE.out
  have h2 := HRBE.out
  have h6 := BE6.out.size
  have h5 := HST2.out.rb.lt
  have h7 := HST6.out.rb.lt
  refine door_ret eb rb _ V _ _ he8 hr8 rfl rfl ⟨((Out.of_below (X := (· = g)) HST6.out.below).trans HO7.out (fun j hj => .inl hj)).trans ho8 (fun j hj => .inr (by rcases hj with hj | hj <;> omega)), A, k, c, A2, k2', c2, A3, k3', c3, rfl, ?_, ?_, ?_⟩
  · exact (HE7.out.out ho8 (fun j hj hx => by rcases hx with hx | hx <;> omega)).mono (fun j hj => by omega)
  · exact (HD7.out.out ho8 (fun j hj hx => by rcases hx with hx | hx <;> omega)).mono (fun j hj => by omega)
  · exact (HT7.out.out ho8 (fun j hj hx => by rcases hx with hx | hx <;> omega)).mono (fun j hj => by omega)
end Go.Proofs.YtplbckibogmicaaGreatDoor.Opn

namespace Go.Proofs.YtplbckibogmicaaGreatDoor.Opn
open Go.RowKit Path Tree

/-- A node's numbers are numbers of their kinds, as far as op counts on. -/
def FineN (n : ZN) : Prop := 0 ≤ n.ver ∧ n.ver < 4294967296 ∧ 0 ≤ n.next ∧ n.next < 4294967296
def FineT (t : TR) : Prop := ∀ p, FineN (nodeAt t p)
theorem small_nodeAt {i : Nat} {a : Addr} {t : TR} {w : World} {L : List (Addr × TR)} {X : Nat → Prop} (hT : Trees w L X) (hi : L[i]? = some (a, t)) (p : List UInt8) : (nodeAt t p).data.length ≤ 1000000 := by
  obtain ⟨D, g, b, _, ht⟩ := hT.at_ hi
  cases hg : get t.row p with
  | none => unfold nodeAt; rw [hg]; exact Nat.zero_le _
  | some n => rw [nodeAt_some hg]; exact ht.small _ ((get_some_iff ht.good.sorted).1 hg)
theorem meth_thrown {g : Nat} {tp : Addr} {at_ : Int} {o : O1} {od ops : Value} {who : Who} {x : List Ef × R1} {w w' : World} {y : Int} {e : Ending} (hx : x = ([], .no y)) (h0 : y ≠ 0) (h : e = thrown y ∧ Below w.heap.size w w') : Meth g tp at_ o od ops who x w e w' := by
  subst hx
  exact .inl ⟨h0, h.1, h.2⟩

section
variable (i : Nat) (t : TR) (L : List (Addr × TR)) (X : Nat → Prop) (g : Nat) (tp : Addr) (at_ : Int) (o : O1) (od ops : Value) (who : Who) (w : World)

theorem node_throws (fx : Value) (r : R1) (rd rk rp : Value) (h : Bk w g 104 (wkC tp at_ o od ops who fx r rd rk rp).toArray) (hT : Trees w L X) (hi : L[i]? = some (tp, t)) (hp : o.path.length ≤ 100000) (hh : has t.row o.path = false) :
    ∀ W, Below w.heap.size w W → Calls Tryz.prog 117 #[.pointer (some ⟨g, 0, none⟩)] W fun e w' => e = .panicked [{ v := .iface 25 (.int .i64 31), recovered := false }] ∧ Below W.heap.size W w' := fun W hW =>
  (node_any i t L X g tp at_ o od ops who fx r rd rk rp W (h.below hW) (hT.below hW) hi (by omega)).mono fun e w' hn => by
    rcases hn with ⟨h1, _⟩ | ⟨_, h2, h3⟩
    · rw [hh] at h1; cases h1
    · exact ⟨h2, h3⟩
theorem node_does (fx : Value) (r : R1) (rd rk rp : Value) (h : Bk w g 104 (wkC tp at_ o od ops who fx r rd rk rp).toArray) (hT : Trees w L X) (hi : L[i]? = some (tp, t)) (hp : o.path.length ≤ 100000) (hh : has t.row o.path = true) :
    ∀ W, Below w.heap.size w W → Calls Tryz.prog 117 #[.pointer (some ⟨g, 0, none⟩)] W fun e w' => ∃ d', e = .returned (znV (nodeAt t o.path) d') ∧ Below W.heap.size W w' ∧ Copied W.heap.size w' d' (nodeAt t o.path).data := fun W hW =>
  (node_any i t L X g tp at_ o od ops who fx r rd rk rp W (h.below hW) (hT.below hW) hi (by omega)).mono fun e w' hn => by
    rcases hn with ⟨_, h2⟩ | ⟨h1, _⟩
    · exact h2
    · rw [hh] at h1; cases h1
/-- The error of a version, if there is one. -/
def verE (t : TR) (o : O1) : Int := if has t.row o.path = false then 31 else if badVer o (nodeAt t o.path) = true then 35 else 0
theorem ver_throws (h : Bk w g 104 (wk0 tp at_ o od ops who).toArray) (hT : Trees w L X) (hi : L[i]? = some (tp, t)) (hp : o.path.length ≤ 100000) (hf : FineT t) (hv : verE t o ≠ 0) :
    ∀ W, Below w.heap.size w W → Calls Tryz.prog 116 #[.pointer (some ⟨g, 0, none⟩)] W fun e w' => e = .panicked [{ v := .iface 25 (.int .i64 (verE t o)), recovered := false }] ∧ Below W.heap.size W w' := fun W hW =>
  (nodeOfVersion_any i t L X g tp at_ o od ops who nilS (.no 0) nilS nilS nilS W (h.below hW) (hT.below hW) hi (by omega) (hf _).1 (hf _).2.1).mono fun e w' hn => by
    unfold verE at hv ⊢
    rcases hn with ⟨h1, h2, h3⟩ | ⟨h1, h2, h3, h4⟩ | ⟨h1, h2, _⟩
    · rw [if_pos h1]; exact ⟨h2, h3⟩
    · rw [if_neg (by rw [h1]; decide), if_pos h2]; exact ⟨h3, h4⟩
    · rw [if_neg (by rw [h1]; decide), if_neg (by rw [h2]; decide)] at hv; exact absurd rfl hv
theorem ver_does (h : Bk w g 104 (wk0 tp at_ o od ops who).toArray) (hT : Trees w L X) (hi : L[i]? = some (tp, t)) (hp : o.path.length ≤ 100000) (hf : FineT t) (hv : verE t o = 0) :
    ∀ W, Below w.heap.size w W → Calls Tryz.prog 116 #[.pointer (some ⟨g, 0, none⟩)] W fun e w' => ∃ d', e = .returned (znV (nodeAt t o.path) d') ∧ Below W.heap.size W w' ∧ Copied W.heap.size w' d' (nodeAt t o.path).data := fun W hW =>
  (nodeOfVersion_any i t L X g tp at_ o od ops who nilS (.no 0) nilS nilS nilS W (h.below hW) (hT.below hW) hi (by omega) (hf _).1 (hf _).2.1).mono fun e w' hn => by
    unfold verE at hv
    rcases hn with ⟨h1, h2, h3⟩ | ⟨h1, h2, h3, h4⟩ | ⟨_, _, h3⟩
    · rw [if_pos h1] at hv; cases hv
    · rw [if_neg (by rw [h1]; decide), if_pos h2] at hv; cases hv
    · exact h3
theorem verE_zero {t : TR} {o : O1} (h : verE t o = 0) : has t.row o.path = true ∧ badVer o (nodeAt t o.path) = false := by
  unfold verE at h
  split at h
  · cases h
  next h1 =>
  split at h
  · cases h
  next h2 => exact ⟨not_false h1, not_true h2⟩
theorem verE_no {t : TR} {o : O1} (h : verE t o ≠ 0) : (has t.row o.path = false ∧ verE t o = 31) ∨ (has t.row o.path = true ∧ badVer o (nodeAt t o.path) = true ∧ verE t o = 35) := by
  unfold verE at h ⊢
  split
  · next h1 => exact .inl ⟨h1, rfl⟩
  next h1 =>
  split
  · next h2 => exact .inr ⟨not_false h1, h2, rfl⟩
  next h2 => rw [if_neg h1, if_neg h2] at h; exact absurd rfl h

theorem meth_get (h : Bk w g 104 (wk0 tp at_ o od ops who).toArray) (hT : Trees w L X) (hi : L[i]? = some (tp, t)) (hp : o.path.length ≤ 100000) :
    Calls Tryz.prog 101 #[.pointer (some ⟨g, 0, none⟩)] w (Meth g tp at_ o od ops who (get_ t o) w) := by
  cases hh : has t.row o.path
  · exact (get_throws g tp at_ o od ops who 31 w h (node_throws i t L X g tp at_ o od ops who w nilS (.no 0) nilS nilS nilS h hT hi hp hh)).mono fun e w' hn => meth_thrown (y := 31) (by unfold get_; rw [if_pos hh]) (by decide) hn
  · have hx : get_ t o = ([], ⟨0, o.path, nodeAt t o.path, []⟩) := by unfold get_; rw [if_neg (by rw [hh]; decide)]
    rw [hx]
    exact (get_does (nodeAt t o.path) g tp at_ o od ops who w h (node_does i t L X g tp at_ o od ops who w nilS (.no 0) nilS nilS nilS h hT hi hp hh)).mono fun e w' ⟨he, ho, A, k, c, hk, hd⟩ => .inr ⟨rfl, he, ho, none, 0, 0, A, k, c, none, 0, 0, hk, OwnE.nil_ _ _, hd, TextS.nil_ _ _⟩
theorem meth_check (h : Bk w g 104 (wk0 tp at_ o od ops who).toArray) (hT : Trees w L X) (hi : L[i]? = some (tp, t)) (hp : o.path.length ≤ 100000) (hf : FineT t) :
    Calls Tryz.prog 100 #[.pointer (some ⟨g, 0, none⟩)] w (Meth g tp at_ o od ops who (check t o) w) := by
  by_cases hv : verE t o = 0
  · obtain ⟨h1, h2⟩ := verE_zero hv
    have hx : check t o = ([], ⟨0, o.path, nodeAt t o.path, []⟩) := by unfold check; rw [if_neg (by rw [h1]; decide), if_neg (by rw [h2]; decide)]
    rw [hx]
    exact (check_does (nodeAt t o.path) g tp at_ o od ops who w h (ver_does i t L X g tp at_ o od ops who w h hT hi hp hf hv)).mono fun e w' ⟨he, ho, A, k, c, hk, hd⟩ => .inr ⟨rfl, he, ho, none, 0, 0, A, k, c, none, 0, 0, hk, OwnE.nil_ _ _, hd, TextS.nil_ _ _⟩
  · refine (check_throws g tp at_ o od ops who (verE t o) w h (ver_throws i t L X g tp at_ o od ops who w h hT hi hp hf hv)).mono fun e w' hn => meth_thrown (y := verE t o) ?_ hv hn
    unfold check
    rcases verE_no hv with ⟨h1, h2⟩ | ⟨h1, h2, h3⟩
    · rw [if_pos h1, h2]
    · rw [if_neg (by rw [h1]; decide), if_pos h2, h3]
theorem meth_kids (h : Bk w g 104 (wk0 tp at_ o od ops who).toArray) (hT : Trees w L X) (hi : L[i]? = some (tp, t)) (hX : ¬ X g) (hp : o.path.length ≤ 100000) :
    Calls Tryz.prog 102 #[.pointer (some ⟨g, 0, none⟩)] w (Meth g tp at_ o od ops who (kids_ t o) w) := by
  cases hh : has t.row o.path
  · exact (kids_throws g 31 w (get_throws g tp at_ o od ops who 31 w h (node_throws i t L X g tp at_ o od ops who w nilS (.no 0) nilS nilS nilS h hT hi hp hh))).mono fun e w' hn => meth_thrown (y := 31) (by unfold kids_; rw [if_pos hh]) (by decide) hn
  · have hx : kids_ t o = ([], ⟨0, o.path, nodeAt t o.path, kids t.root t.row o.path⟩) := by unfold kids_; rw [if_neg (by rw [hh]; decide)]
    rw [hx]
    exact (kids_does (nodeAt t o.path) i t L X g tp at_ o od ops who w hT hi hX (by omega) hh h.lt (get_does (nodeAt t o.path) g tp at_ o od ops who w h (node_does i t L X g tp at_ o od ops who w nilS (.no 0) nilS nilS nilS h hT hi hp hh))).mono fun e w' ⟨he, ho, A, k, c, A3, k3, c3, hk, hd, ht⟩ => .inr ⟨rfl, he, ho, none, 0, 0, A, k, c, A3, k3, c3, hk, OwnE.nil_ _ _, hd, ht⟩
theorem meth_remove (h : Bk w g 104 (wk0 tp at_ o od ops who).toArray) (hT : Trees w L X) (hi : L[i]? = some (tp, t)) (hX : ¬ X g) (hp : o.path.length ≤ 100000) (hf : FineT t) :
    Calls Tryz.prog 98 #[.pointer (some ⟨g, 0, none⟩)] w (Meth g tp at_ o od ops who (remove t at_ o) w) := by
  by_cases hr : o.path = t.root
  · exact (remove_root i t L X g tp at_ o od ops who w h hT hi hr).mono fun e w' hn => meth_thrown (y := 30) (by unfold remove; rw [if_pos hr]) (by decide) hn
  · by_cases hv : verE t o = 0
    · obtain ⟨h1, h2⟩ := verE_zero hv
      have cv := ver_does i t L X g tp at_ o od ops who w h hT hi hp hf hv
      by_cases hk : kids t.root t.row o.path = []
      · have hx : remove t at_ o = ([⟨o.path, true, ZN.zero⟩, ⟨parentF o.path, false, touched (nodeAt t (parentF o.path)) at_⟩], ⟨0, o.path, ZN.zero, []⟩) := by
          unfold remove; rw [if_neg hr, if_neg (by rw [h1]; decide), if_neg (by rw [h2]; decide), if_neg (fun e => e hk)]
        rw [hx]
        exact (remove_does i t L X g tp at_ o od ops who (nodeAt t o.path) w h hT hi hX hr (by omega) h1 hk (small_nodeAt hT hi _) cv).mono fun e w' ⟨he, ho, A, k, c, hk, hE⟩ => .inr ⟨rfl, he, ho, A, k, c, none, 0, 0, none, 0, 0, hk, hE, DataS.nil_ _ _, TextS.nil_ _ _⟩
      · exact (remove_kids i t L X g tp at_ o od ops who (nodeAt t o.path) w h hT hi hr (by omega) h1 hk cv).mono fun e w' hn => meth_thrown (y := 33) (by unfold remove; rw [if_neg hr, if_neg (by rw [h1]; decide), if_neg (by rw [h2]; decide), if_pos hk]) (by decide) hn
    · refine (remove_ver i t L X g tp at_ o od ops who (verE t o) w h hT hi hr (ver_throws i t L X g tp at_ o od ops who w h hT hi hp hf hv)).mono fun e w' hn => meth_thrown (y := verE t o) ?_ hv hn
      unfold remove
      rw [if_neg hr]
      rcases verE_no hv with ⟨h1, h2⟩ | ⟨h1, h2, h3⟩
      · rw [if_pos h1, h2]
      · rw [if_neg (by rw [h1]; decide), if_pos h2, h3]
theorem meth_set {P : Nat → Prop} (Ao : Option Addr) (ko co : Nat) (h : Bk w g 104 (wk0 tp at_ o (.slice Ao ko co) ops who).toArray) (hT : Trees w L X) (hi : L[i]? = some (tp, t)) (hp : o.path.length ≤ 100000) (hf : FineT t) (hd : DataS P w (.slice Ao ko co) o.data) (hP : ∀ j, P j → j ≠ g) (hlen : o.data.length ≤ 1000000) :
    Calls Tryz.prog 99 #[.pointer (some ⟨g, 0, none⟩)] w (Meth g tp at_ o (.slice Ao ko co) ops who (set_ t at_ o) w) := by
  by_cases hv : verE t o = 0
  · obtain ⟨h1, h2⟩ := verE_zero hv
    have hx : set_ t at_ o = ([⟨o.path, false, setted (nodeAt t o.path) o at_⟩], ⟨0, o.path, setted (nodeAt t o.path) o at_, []⟩) := by unfold set_; rw [if_neg (by rw [h1]; decide), if_neg (by rw [h2]; decide)]
    rw [hx]
    exact (set_does (nodeAt t o.path) g tp at_ o Ao ko co ops who w h hd hP hlen (ver_does i t L X g tp at_ o (.slice Ao ko co) ops who w h hT hi hp hf hv w (Below.refl _ _))).mono fun e w' ⟨he, ho, A, k, c, A2, k2, c2, hk, hE, hd2⟩ => .inr ⟨rfl, he, ho, A, k, c, A2, k2, c2, none, 0, 0, hk, hE, hd2, TextS.nil_ _ _⟩
  · refine (set_throws g (verE t o) w (ver_throws i t L X g tp at_ o (.slice Ao ko co) ops who w h hT hi hp hf hv w (Below.refl _ _))).mono fun e w' hn => meth_thrown (y := verE t o) ?_ hv hn
    unfold set_
    rcases verE_no hv with ⟨h1, h2⟩ | ⟨h1, h2, h3⟩
    · rw [if_pos h1, h2]
    · rw [if_neg (by rw [h1]; decide), if_pos h2, h3]
theorem meth_create {P : Nat → Prop} (Ao : Option Addr) (ko co : Nat) (h : Bk w g 104 (wk0 tp at_ o (.slice Ao ko co) ops who).toArray) (hT : Trees w L X) (hi : L[i]? = some (tp, t)) (hX : ¬ X g) (hp : o.path.length ≤ 100000) (ht : Tab w) (hf : FineT t) (hd : DataS P w (.slice Ao ko co) o.data) (hP : ∀ j, P j → j ≠ g) (hlen : o.data.length ≤ 1000000) :
    Calls Tryz.prog 97 #[.pointer (some ⟨g, 0, none⟩)] w (Meth g tp at_ o (.slice Ao ko co) ops who (create t at_ who o) w) := by
  by_cases hr : o.path = t.root
  · exact create_root i t L X g tp at_ o (.slice Ao ko co) ops who w h hT hi hr hp ht (hf _).2.2.1 (hf _).2.2.2
  · exact create_other (P := fun j => P j ∧ j < w.heap.size) i t L X g tp at_ o Ao ko co ops who w h hT hi hX hr hp ht (hf _).2.2.1 (hf _).2.2.2 (small_nodeAt hT hi _) hd.lt (fun j hj => hP j hj.1) (fun j hj => hj.2) hlen
end
end Go.Proofs.YtplbckibogmicaaGreatDoor.Opn

namespace Go.Proofs.YtplbckibogmicaaGreatDoor.Opn
open Go.RowKit Path Tree

set_option maxRecDepth 100000 in
set_option maxHeartbeats 2000000 in
theorem run_under (i : Nat) (t : TR) (L : List (Addr × TR)) (X : Nat → Prop) (g : Nat) (tp : Addr) (at_ : Int) (o : O1) (od ops : Value) (who : Who) (w : World) (h : Bk w g 104 (wk0 tp at_ o od ops who).toArray) (hT : Trees w L X) (hi : L[i]? = some (tp, t)) (hp : o.path.length ≤ 100000) (hr : t.root.length ≤ 1000000) (hk : o.kind ≠ 7) (hu : underF o.path t.root = false) :
    Calls Tryz.prog 50 #[.pointer (some ⟨g, 0, none⟩)] w (RunPost g ([], .no 30) w) := by
  have hmf : ∀ (fn : Fn) (first cap : Array Value) (w : World), (Instr.makeFunc fn first cap).run Tryz.prog w = .ok (.func fn first cap) w := fun _ _ _ _ => rfl
  have hst := started_new g w
  have HH := Lib.hid h
  have hgl := h.lt
  have HST := Lib.hid hst
  have HT := Lib.hid hT
  have HI := Lib.hid hi
  have cu := Lib.hid (fun W => Under_any o.path t.root W (by omega) hr)
  rw [hu] at cu
  have kk : ((o.kind : Int) != 7) = true := by simpa using (by omega : ¬ (o.kind : Int) = 7)
  clear hst h hT hi hp hr hk hu
  dsimp only [rpC, znC, R1.no, ZN.zero, nilS, S] at HST
  go_enter_defers Tryz.func50, Tryz.ntmps50
  go_wp2_with fail
  obtain ⟨W, hW⟩ : ∃ W, W = (((w.alloc (.cells #[.pointer (some ⟨g, 0, none⟩)] 123)).alloc (.cells #[.slice none 0 0] 32)).alloc (.cells #[.int .i64 0, .string ⟨#[]⟩, .slice none 0 0, .int .u32 0, .int .u32 0, .int .u32 0, .int .i64 0, .int .u32 0, .int .u64 0, .int .u64 0, .int .u64 0, .slice none 0 0, .slice none 0 0] 51)) := ⟨_, rfl⟩
  have hst : Started g w W := by rw [hW]; exact HST.out
  rw [← hW]
  clear hW hmf
  have HS := Lib.hid hst
  have kW := hst.wb.cell 0
  have K1 := HH.out.below hst.below
  have kw : W.cell? ⟨w.heap.size, 0, none⟩ = some (.pointer (some ⟨g, 0, none⟩)) := hst.wb.cell 0
  have k0 : W.cell? ⟨g, 0, none⟩ = some (.pointer (some tp)) := K1.cell 0
  have k2 : W.cell? ⟨g, 2, none⟩ = some (.int .u8 (o.kind : Int)) := K1.cell 2
  have k3 : W.cell? ⟨g, 3, none⟩ = some (.string (S o.path)) := K1.cell 3
  have HK1 := Lib.hid K1
  have BD : Hid (Below W.heap.size W W.drew) := (Below.refl _ W).drew
  have HTW := Lib.hid (HT.out.below hst.below)
  clear hst kW K1
  have cr := Lib.hid (Root_quiet i tp t W.drew L X (HTW.out.below BD.out) HI.out)
  refine wp_region_still_tail 17 (by kernel_rfl) (by kernel_rfl) ?_
  simp only [List.take_succ_cons, List.take_zero, List.drop_succ_cons, List.drop_zero]
  repeat still_step
  still_call cr.out
  refine wpStill_nil ?_
  change wpList _ _ _ _ _ W.drew
  go_wp2_with (first
    | (go_at_call 34; (with_reducible refine (cu.out _).mono ?_); rintro e w5 ⟨rfl, hb5⟩; have BE : Hid (Below W.heap.size W w5) := BD.out.trans hb5; clear hb5)
    | (go_at_call 77; refine (throw_yes _ _).mono ?_; rintro e we ⟨rfl, rfl⟩))
  exact door_panic 30 g tp at_ o od ops who nilS (.no 0) nilS nilS w _ _ (HS.out.out BE.out) (HK1.out.below BE.out) hgl rfl rfl
theorem run_meth (i : Nat) (t : TR) (L : List (Addr × TR)) (X : Nat → Prop) (g : Nat) (tp : Addr) (at_ : Int) (o : O1) (od ops : Value) (who : Who) (w : World) (h : Bk w g 104 (wk0 tp at_ o od ops who).toArray) (hT : Trees w L X) (hi : L[i]? = some (tp, t)) (F : Nat) (x : List Ef × R1) (hF : F ≠ 0) (hd : doersD.atKey (.int .u8 (o.kind : Int)) (.held 0) = .held F) (hE : ∀ args w, (callFunc F args).run Tryz.prog w = .ok (.enter F args) w) (hkk : o.kind < 256)
    (cm : ∀ W, Below w.heap.size w W → Calls Tryz.prog F #[.pointer (some ⟨g, 0, none⟩)] W (Meth g tp at_ o od ops who x W)) (hx : x.2.e ≠ 0 → x = ([], .no x.2.e)) (hp : o.path.length ≤ 100000) (hr : t.root.length ≤ 1000000) (hk : o.kind ≠ 7) (hu : underF o.path t.root = true) :
    Calls Tryz.prog 50 #[.pointer (some ⟨g, 0, none⟩)] w (RunPost g x w) := by
  by_cases he : x.2.e = 0
  · exact run_does i t L X g tp at_ o od ops who w h hT hi F x hF hd hE hkk (fun W hW => (cm W hW).mono fun e w' hm => by
      rcases hm with ⟨h1, _⟩ | ⟨_, h2⟩
      · exact absurd he h1
      · exact h2) hp hr hk hu
  · have hx := hx he
    rw [hx]
    exact run_throws i t L X g tp at_ o od ops who w h hT hi F x.2.e hF hd hE hkk (fun W hW => (cm W hW).mono fun e w' hm => by
      rcases hm with ⟨_, h2⟩ | ⟨h1, _⟩
      · exact h2
      · exact absurd h1 he) hp hr hk hu
theorem enters_create : ∀ args w, (callFunc 97 args).run Tryz.prog w = .ok (.enter 97 args) w := enters_of Tryz.func97 (by kernel_rfl) rfl
theorem enters_remove : ∀ args w, (callFunc 98 args).run Tryz.prog w = .ok (.enter 98 args) w := enters_of Tryz.func98 (by kernel_rfl) rfl
theorem enters_set : ∀ args w, (callFunc 99 args).run Tryz.prog w = .ok (.enter 99 args) w := enters_of Tryz.func99 (by kernel_rfl) rfl
theorem enters_check : ∀ args w, (callFunc 100 args).run Tryz.prog w = .ok (.enter 100 args) w := enters_of Tryz.func100 (by kernel_rfl) rfl
theorem enters_get : ∀ args w, (callFunc 101 args).run Tryz.prog w = .ok (.enter 101 args) w := enters_of Tryz.func101 (by kernel_rfl) rfl
theorem enters_kids : ∀ args w, (callFunc 102 args).run Tryz.prog w = .ok (.enter 102 args) w := enters_of Tryz.func102 (by kernel_rfl) rfl
theorem single_under {t : TR} {at_ : Int} {who : Who} {o : O1} (hu : underF o.path t.root = false) : single t at_ who o = ([], .no 30) := by unfold single; rw [if_pos hu]
theorem run_single {P : Nat → Prop} (i : Nat) (t : TR) (L : List (Addr × TR)) (X : Nat → Prop) (g : Nat) (tp : Addr) (at_ : Int) (o : O1) (Ao : Option Addr) (ko co : Nat) (ops : Value) (who : Who) (w : World) (h : Bk w g 104 (wk0 tp at_ o (.slice Ao ko co) ops who).toArray) (hT : Trees w L X) (hi : L[i]? = some (tp, t)) (hX : ¬ X g) (hp : o.path.length ≤ 100000) (hr : t.root.length ≤ 1000000) (ht : Tab w) (hf : FineT t) (hd : DataS P w (.slice Ao ko co) o.data) (hP : ∀ j, P j → j ≠ g) (hlen : o.data.length ≤ 1000000) (hk : 1 ≤ o.kind ∧ o.kind < 7) :
    Calls Tryz.prog 50 #[.pointer (some ⟨g, 0, none⟩)] w (RunPost g (single t at_ who o) w) := by
  have hno : (single t at_ who o).2.e ≠ 0 → single t at_ who o = ([], .no (single t at_ who o).2.e) := single_no
  cases hu : underF o.path t.root
  · rw [single_under hu]
    exact run_under i t L X g tp at_ o (.slice Ao ko co) ops who w h hT hi hp hr (by omega) hu
  · have hk6 : o.kind = 1 ∨ o.kind = 2 ∨ o.kind = 3 ∨ o.kind = 4 ∨ o.kind = 5 ∨ o.kind = 6 := by omega
    rcases hk6 with hk1 | hk1 | hk1 | hk1 | hk1 | hk1
    · have e : single t at_ who o = create t at_ who o := by unfold single; rw [if_neg (by rw [hu]; decide), hk1]; rfl
      rw [e] at hno ⊢
      exact run_meth i t L X g tp at_ o (.slice Ao ko co) ops who w h hT hi 97 _ (by decide) (by rw [hk1]; exact doers_create) enters_create (by omega) (fun W hW => meth_create i t L X g tp at_ o ops who W Ao ko co (h.below hW) (hT.below hW) hi hX hp (ht.below hW) hf (hd.below hW) hP hlen) hno hp hr (by omega) hu
    · have e : single t at_ who o = remove t at_ o := by unfold single; rw [if_neg (by rw [hu]; decide), hk1]; rfl
      rw [e] at hno ⊢
      exact run_meth i t L X g tp at_ o (.slice Ao ko co) ops who w h hT hi 98 _ (by decide) (by rw [hk1]; exact doers_remove) enters_remove (by omega) (fun W hW => meth_remove i t L X g tp at_ o (.slice Ao ko co) ops who W (h.below hW) (hT.below hW) hi hX hp hf) hno hp hr (by omega) hu
    · have e : single t at_ who o = set_ t at_ o := by unfold single; rw [if_neg (by rw [hu]; decide), hk1]; rfl
      rw [e] at hno ⊢
      exact run_meth i t L X g tp at_ o (.slice Ao ko co) ops who w h hT hi 99 _ (by decide) (by rw [hk1]; exact doers_set) enters_set (by omega) (fun W hW => meth_set i t L X g tp at_ o ops who W Ao ko co (h.below hW) (hT.below hW) hi hp hf (hd.below hW) hP hlen) hno hp hr (by omega) hu
    · have e : single t at_ who o = check t o := by unfold single; rw [if_neg (by rw [hu]; decide), hk1]; rfl
      rw [e] at hno ⊢
      exact run_meth i t L X g tp at_ o (.slice Ao ko co) ops who w h hT hi 100 _ (by decide) (by rw [hk1]; exact doers_check) enters_check (by omega) (fun W hW => meth_check i t L X g tp at_ o (.slice Ao ko co) ops who W (h.below hW) (hT.below hW) hi hp hf) hno hp hr (by omega) hu
    · have e : single t at_ who o = get_ t o := by unfold single; rw [if_neg (by rw [hu]; decide), hk1]; rfl
      rw [e] at hno ⊢
      exact run_meth i t L X g tp at_ o (.slice Ao ko co) ops who w h hT hi 101 _ (by decide) (by rw [hk1]; exact doers_get) enters_get (by omega) (fun W hW => meth_get i t L X g tp at_ o (.slice Ao ko co) ops who W (h.below hW) (hT.below hW) hi hp) hno hp hr (by omega) hu
    · have e : single t at_ who o = kids_ t o := by unfold single; rw [if_neg (by rw [hu]; decide), hk1]; rfl
      rw [e] at hno ⊢
      exact run_meth i t L X g tp at_ o (.slice Ao ko co) ops who w h hT hi 102 _ (by decide) (by rw [hk1]; exact doers_kids) enters_kids (by omega) (fun W hW => meth_kids i t L X g tp at_ o (.slice Ao ko co) ops who W (h.below hW) (hT.below hW) hi hX hp) hno hp hr (by omega) hu
end Go.Proofs.YtplbckibogmicaaGreatDoor.Opn
