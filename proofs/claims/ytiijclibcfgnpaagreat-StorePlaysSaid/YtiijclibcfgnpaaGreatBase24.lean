/- Lemmas, part 24: StoDoes, StoInv, StoOwn, StoWakes -/
import Derived.Test.YtiijclibcfgnpaaGreatBase23
namespace Go.Proofs.YtiijclibcfgnpaaGreat.Sto
open Go.RowKit Disk Log

def Apart (P X Ya Yb : Nat → Prop) (gs : Nat) (w : World) : Prop := ∀ b, P b → ¬ X b ∧ ¬ Ya b ∧ ¬ Yb b ∧ b ≠ gs ∧ b < w.heap.size
theorem CallP.from_ {w w1 w' : World} {X Ya Yb V : Nat → Prop} {gs gd : Nat} {d : DK} {p : Nat} {La Lb : LK} {lv : Bool} {k : Kp} {met : Bool} {D : Deed} {e : Ending} (h : CallP X Ya Yb V gs gd d p La Lb lv k met D w1 e w') (hb : Below w.heap.size w w1) : CallP X Ya Yb V gs gd d p La Lb lv k met D w e w' := by
  obtain ⟨x, rfl, d', La', Lb', lv', k', met', h1, ga', gb', X', Ya', Yb', V', h2, h3, h4⟩ := h
  exact ⟨x, rfl, d', La', Lb', lv', k', met', h1, ga', gb', X', Ya', Yb', V', h2, (Out.of_below (X := fun b => X b ∨ Ya b ∨ Yb b ∨ b = gs) hb).trans h3 fun _ q => .inl q, fun b hb' => (h4 b hb').imp id fun q => Nat.le_trans hb.size q⟩
theorem calls_Promise : ∀ args w, (callFunc 85 args).run Tryz.prog w = .ok (.enter 85 args) w := by intro args w; kernel_rfl
theorem calls_Adopt : ∀ args w, (callFunc 93 args).run Tryz.prog w = .ok (.enter 93 args) w := by intro args w; kernel_rfl
theorem calls_Append : ∀ args w, (callFunc 96 args).run Tryz.prog w = .ok (.enter 96 args) w := by intro args w; kernel_rfl
def MakeP2 (P : Nat → Prop) (r : Rec) (w : World) (e : Ending) (w' : World) : Prop :=
  ∃ v, e = .returned v ∧ DeedV (fun b => P b ∨ (w.heap.size ≤ b ∧ b < w'.heap.size)) w' v r ∧ Below w.heap.size w w'
set_option maxRecDepth 8000 in
theorem adopt_make2 (P : Nat → Prop) (e : Nat) (l : List Ln) (A : Option Addr) (c : Nat) (w : World) (h : LnS P w A l.length l) : Calls Tryz.prog 92 #[.int .u64 (e : Int), .slice A l.length c] w (MakeP2 P (.deed (.adopt e l)) w) := by
  have hb : Below w.heap.size w ((w.alloc (.cells #[.int .u64 (e : Int)] 32)).alloc (.cells #[.slice A l.length c] 33)) := ((Below.refl _ _).alloc (Nat.le_refl _) _).alloc (by simp) _
  have h2 : Bk ((w.alloc (.cells #[.int .u64 (e : Int)] 32)).alloc (.cells #[.slice A l.length c] 33)) (w.heap.size + 1) 33 #[.slice A l.length c] := by
    have := Bk.new (w.alloc (.cells #[.int .u64 (e : Int)] 32)) 33 #[.slice A l.length c]
    rwa [World.size_alloc] at this
  have HF : Hid (MakeP2 P (.deed (.adopt e l)) w (.returned (.func (.func 145) #[] #[.pointer (some ⟨w.heap.size, 0, none⟩), .pointer (some ⟨w.heap.size + 1, 0, none⟩)])) ((w.alloc (.cells #[.int .u64 (e : Int)] 32)).alloc (.cells #[.slice A l.length c] 33))) :=
    ⟨_, rfl, ⟨w.heap.size, w.heap.size + 1, A, c, rfl, (Bk.new w _ _).alloc _, h2, (h.below hb).mono fun _ q => .inl q, .inr ⟨Nat.le_refl _, by simp; omega⟩, .inr ⟨Nat.le_succ _, by simp⟩⟩, hb⟩
  have hmf : ∀ (fn : Fn) (first cap : Array Value) (w : World), (Instr.makeFunc fn first cap).run Tryz.prog w = .ok (.func fn first cap) w := fun _ _ _ _ => rfl
  clear hb h2
  go_enter Tryz.func92, Tryz.ntmps92
  go_wp2_with fail
  go_ret
  exact HF.out
set_option maxRecDepth 8000 in
theorem add_make2 (P : Nat → Prop) (l : List Ln) (A : Option Addr) (c : Nat) (w : World) (h : LnS P w A l.length l) : Calls Tryz.prog 95 #[.slice A l.length c] w (MakeP2 P (.deed (.add l)) w) := by
  have hb : Below w.heap.size w (w.alloc (.cells #[.slice A l.length c] 33)) := (Below.refl _ _).alloc (Nat.le_refl _) _
  have HF : Hid (MakeP2 P (.deed (.add l)) w (.returned (.func (.func 148) #[] #[.pointer (some ⟨w.heap.size, 0, none⟩)])) (w.alloc (.cells #[.slice A l.length c] 33))) :=
    ⟨_, rfl, ⟨w.heap.size, A, c, rfl, Bk.new w _ _, (h.below hb).mono fun _ q => .inl q, .inr ⟨Nat.le_refl _, by simp⟩⟩, hb⟩
  have hmf : ∀ (fn : Fn) (first cap : Array Value) (w : World), (Instr.makeFunc fn first cap).run Tryz.prog w = .ok (.func fn first cap) w := fun _ _ _ _ => rfl
  clear hb
  go_enter Tryz.func95, Tryz.ntmps95
  go_wp2_with fail
  go_ret
  exact HF.out
set_option maxRecDepth 8000 in
set_option maxHeartbeats 1000000 in
theorem promise_any {w : World} {X Ya Yb V  : Nat → Prop} {gs gd ga gb : Nat} {d : DK} {p : Nat} {La Lb : LK} {lv : Bool} {k : Kp} {met : Bool} (e : Nat) (h : SvM w X Ya Yb V gs gd ga gb d p La Lb lv k met)
    (hg : (met || d.dead) = false → KL d (fOf lv p) p La ∧ KL d (fOf (!lv) p) p Lb ∧ La.top + 2 < 65536 ∧ Lb.top + 4 < 65536) (hf : Fine k) (he : e < 18446744073709551616) :
    Calls Tryz.prog 48 #[.pointer (some ⟨gs, 0, none⟩), .int .u64 (e : Int)] w (CallP X Ya Yb V gs gd d p La Lb lv k met (.prom e) w) := by
  have hlt := h.lt
  obtain ⟨W, hW⟩ : ∃ W, W = (w.alloc (.cells #[.int .u64 (e : Int)] 32)) := ⟨_, rfl⟩
  have hb1 : Below w.heap.size w W := by rw [hW]; exact (Below.refl _ _).alloc (Nat.le_refl _) _
  have hsz : W.heap.size = w.heap.size + 1 := by rw [hW]; simp
  have k1 : Bk W w.heap.size 32 #[.int .u64 (e : Int)] := by rw [hW]; exact Bk.new w _ _
  have CM := Lib.hid (prom_make (fun _ => False) e W)
  have HK : Hid (∀ w2 v, Below W.heap.size W w2 → DeedV (fun b => False ∨ W.heap.size ≤ b) w2 v (.deed (.prom e)) → Calls Tryz.prog 83 #[.pointer (some ⟨gs, 0, none⟩), v, .func (.func 85) #[] #[.pointer (some ⟨w.heap.size, 0, none⟩)]] w2 (CallP X Ya Yb V gs gd d p La Lb lv k met (.prom e) w)) := fun w2 v hb hv => by
    have hbw := hb1.trans (hb.mono hb1.size)
    have hsz2 := hb.size
    have hv2 : DeedV (fun b => (w.heap.size ≤ b ∧ b < w2.heap.size)) w2 v (.deed (.prom e)) := by
      obtain ⟨b, q1, q2, q3⟩ := hv
      exact ⟨b, q1, q2, by rcases q3 with q | q; exact q.elim; omega, q2.lt⟩
    refine (keep_any (P := fun b => (w.heap.size ≤ b ∧ b < w2.heap.size)) (h.below hbw) hg hf hv2 trivial ⟨85, #[.pointer (some ⟨w.heap.size, 0, none⟩)], rfl, calls_Promise, fun W5 Z ho hz => ?_⟩ (fun b hb => ?_)).mono fun _ _ hc => hc.from_ hbw
    · exact rec_prom e w.heap.size W5 (bk_out' (k1.below hb) ho (hz _ ⟨Nat.le_refl _, by omega⟩)) he
    · skip
      have hb1 := hb.1
      refine ⟨fun r => ?_, fun r => ?_, fun r => ?_, fun r => ?_, hb.2⟩
      · have := hlt b (.inl r); omega
      · have := hlt b (.inr (.inl r)); omega
      · have := hlt b (.inr (.inr (.inl r))); omega
      · have := hlt gs (by simp); omega
  have kc0 : W.cell? ⟨w.heap.size, 0, none⟩ = some (.int .u64 (e : Int)) := k1.cell 0
  have hmf : ∀ (fn : Fn) (first cap : Array Value) (w : World), (Instr.makeFunc fn first cap).run Tryz.prog w = .ok (.func fn first cap) w := fun _ _ _ _ => rfl
  rw [hW] at kc0
  have HWE := Lib.hid hW
  clear h hg hf hlt hb1 k1 hsz hW he
  go_enter Tryz.func48, Tryz.ntmps48
  go_wp2_with fail
  rw [← HWE.out]
  refine CM.out.mono ?_
  rintro _ w2 ⟨v, rfl, hv, hb⟩
  have CK := Lib.hid (HK.out w2 v hb hv)
  clear hv hb HK CM
  go_wp2_with fail
  refine CK.out.mono ?_
  rintro _ w3 ⟨x, rfl, hx⟩
  have HX := Lib.hid hx
  clear hx CK
  go_wp2_with fail
  go_ret
  exact ⟨x, rfl, HX.out⟩
set_option maxRecDepth 8000 in
set_option maxHeartbeats 1000000 in
theorem adopt_any {w : World} {X Ya Yb V P : Nat → Prop} {gs gd ga gb : Nat} {d : DK} {p : Nat} {La Lb : LK} {lv : Bool} {k : Kp} {met : Bool} (e : Nat) (l : List Ln) (h : SvM w X Ya Yb V gs gd ga gb d p La Lb lv k met)
    (hg : (met || d.dead) = false → KL d (fOf lv p) p La ∧ KL d (fOf (!lv) p) p Lb ∧ La.top + 2 < 65536 ∧ Lb.top + 4 < 65536) (hf : Fine k) (he : e < 18446744073709551616) (A : Option Addr) (c : Nat) (hl : LnS P w A l.length l) (hs : Laid l) (hP : Apart P X Ya Yb gs w) :
    Calls Tryz.prog 53 #[.pointer (some ⟨gs, 0, none⟩), .int .u64 (e : Int), .slice A l.length c] w (CallP X Ya Yb V gs gd d p La Lb lv k met (.adopt e l) w) := by
  have hlt := h.lt
  obtain ⟨W, hW⟩ : ∃ W, W = ((w.alloc (.cells #[.int .u64 (e : Int)] 32)).alloc (.cells #[.slice A l.length c] 33)) := ⟨_, rfl⟩
  have hb1 : Below w.heap.size w W := by rw [hW]; exact ((Below.refl _ _).alloc (Nat.le_refl _) _).alloc (by simp) _
  have hsz : W.heap.size = w.heap.size + 2 := by rw [hW]; simp
  have k1 : Bk W w.heap.size 32 #[.int .u64 (e : Int)] := by rw [hW]; exact (Bk.new w _ _).alloc _
  have k2 : Bk W (w.heap.size + 1) 33 #[.slice A l.length c] := by
    rw [hW]
    have := Bk.new (w.alloc (.cells #[.int .u64 (e : Int)] 32)) 33 #[.slice A l.length c]
    rwa [World.size_alloc] at this
  have CM := Lib.hid (adopt_make2 P e l A c W (hl.below hb1))
  have HK : Hid (∀ w2 v, Below W.heap.size W w2 → DeedV (fun b => P b ∨ (W.heap.size ≤ b ∧ b < w2.heap.size)) w2 v (.deed (.adopt e l)) → Calls Tryz.prog 83 #[.pointer (some ⟨gs, 0, none⟩), v, .func (.func 93) #[] #[.pointer (some ⟨w.heap.size, 0, none⟩), .pointer (some ⟨w.heap.size + 1, 0, none⟩)]] w2 (CallP X Ya Yb V gs gd d p La Lb lv k met (.adopt e l) w)) := fun w2 v hb hv => by
    have hbw := hb1.trans (hb.mono hb1.size)
    have hsz2 := hb.size
    have hv2 : DeedV (fun b => P b ∨ (w.heap.size ≤ b ∧ b < w2.heap.size)) w2 v (.deed (.adopt e l)) := by
      obtain ⟨b, b2, A', c', q1, q2, q3, q4, q5, q6⟩ := hv
      exact ⟨b, b2, A', c', q1, q2, q3, q4.mono fun b hb => hb.imp id fun q => ⟨by omega, q.2⟩, q5.imp id fun q => ⟨by omega, q.2⟩, q6.imp id fun q => ⟨by omega, q.2⟩⟩
    refine (keep_any (P := fun b => P b ∨ (w.heap.size ≤ b ∧ b < w2.heap.size)) (h.below hbw) hg hf hv2 ⟨hs.1, fun x hx => (hs.2 x hx).1⟩ ⟨93, #[.pointer (some ⟨w.heap.size, 0, none⟩), .pointer (some ⟨w.heap.size + 1, 0, none⟩)], rfl, calls_Adopt, fun W5 Z ho hz => ?_⟩ (fun b hb => ?_)).mono fun _ _ hc => hc.from_ hbw
    · exact rec_adopt P e w.heap.size (w.heap.size + 1) l A c W5 (bk_out' (k1.below hb) ho (hz _ (.inr ⟨Nat.le_refl _, by omega⟩))) (bk_out' (k2.below hb) ho (hz _ (.inr ⟨Nat.le_succ _, by omega⟩))) ((hl.below hbw).out ho fun b hb => hz b (.inl hb)) he hs
    · rcases hb with q | hb
      · have := hP b q
        exact ⟨this.1, this.2.1, this.2.2.1, this.2.2.2.1, Nat.lt_of_lt_of_le this.2.2.2.2 hbw.size⟩
      have hb1 := hb.1
      refine ⟨fun r => ?_, fun r => ?_, fun r => ?_, fun r => ?_, hb.2⟩
      · have := hlt b (.inl r); omega
      · have := hlt b (.inr (.inl r)); omega
      · have := hlt b (.inr (.inr (.inl r))); omega
      · have := hlt gs (by simp); omega
  have kc0 : W.cell? ⟨w.heap.size, 0, none⟩ = some (.int .u64 (e : Int)) := k1.cell 0
  have kc1 : W.cell? ⟨w.heap.size + 1, 0, none⟩ = some (.slice A l.length c) := k2.cell 0
  have hmf : ∀ (fn : Fn) (first cap : Array Value) (w : World), (Instr.makeFunc fn first cap).run Tryz.prog w = .ok (.func fn first cap) w := fun _ _ _ _ => rfl
  rw [hW] at kc0 kc1
  have HWE := Lib.hid hW
  clear h hg hf hlt hb1 k1 k2 hsz hW he hl hs hP
  go_enter Tryz.func53, Tryz.ntmps53
  go_wp2_with fail
  rw [← HWE.out]
  refine CM.out.mono ?_
  rintro _ w2 ⟨v, rfl, hv, hb⟩
  have CK := Lib.hid (HK.out w2 v hb hv)
  clear hv hb HK CM
  go_wp2_with fail
  refine CK.out.mono ?_
  rintro _ w3 ⟨x, rfl, hx⟩
  have HX := Lib.hid hx
  clear hx CK
  go_wp2_with fail
  go_ret
  exact ⟨x, rfl, HX.out⟩
set_option maxRecDepth 8000 in
set_option maxHeartbeats 1000000 in
theorem append_any {w : World} {X Ya Yb V P : Nat → Prop} {gs gd ga gb : Nat} {d : DK} {p : Nat} {La Lb : LK} {lv : Bool} {k : Kp} {met : Bool} (l : List Ln) (h : SvM w X Ya Yb V gs gd ga gb d p La Lb lv k met)
    (hg : (met || d.dead) = false → KL d (fOf lv p) p La ∧ KL d (fOf (!lv) p) p Lb ∧ La.top + 2 < 65536 ∧ Lb.top + 4 < 65536) (hf : Fine k) (A : Option Addr) (c : Nat) (hl : LnS P w A l.length l) (hs : Laid l) (hP : Apart P X Ya Yb gs w) :
    Calls Tryz.prog 55 #[.pointer (some ⟨gs, 0, none⟩), .slice A l.length c] w (CallP X Ya Yb V gs gd d p La Lb lv k met (.add l) w) := by
  have hlt := h.lt
  obtain ⟨W, hW⟩ : ∃ W, W = (w.alloc (.cells #[.slice A l.length c] 33)) := ⟨_, rfl⟩
  have hb1 : Below w.heap.size w W := by rw [hW]; exact (Below.refl _ _).alloc (Nat.le_refl _) _
  have hsz : W.heap.size = w.heap.size + 1 := by rw [hW]; simp
  have k1 : Bk W w.heap.size 33 #[.slice A l.length c] := by rw [hW]; exact Bk.new w _ _
  have CM := Lib.hid (add_make2 P l A c W (hl.below hb1))
  have HK : Hid (∀ w2 v, Below W.heap.size W w2 → DeedV (fun b => P b ∨ (W.heap.size ≤ b ∧ b < w2.heap.size)) w2 v (.deed (.add l)) → Calls Tryz.prog 83 #[.pointer (some ⟨gs, 0, none⟩), v, .func (.func 96) #[] #[.pointer (some ⟨w.heap.size, 0, none⟩)]] w2 (CallP X Ya Yb V gs gd d p La Lb lv k met (.add l) w)) := fun w2 v hb hv => by
    have hbw := hb1.trans (hb.mono hb1.size)
    have hsz2 := hb.size
    have hv2 : DeedV (fun b => P b ∨ (w.heap.size ≤ b ∧ b < w2.heap.size)) w2 v (.deed (.add l)) := by
      obtain ⟨b2, A', c', q1, q3, q4, q6⟩ := hv
      exact ⟨b2, A', c', q1, q3, q4.mono fun b hb => hb.imp id fun q => ⟨by omega, q.2⟩, q6.imp id fun q => ⟨by omega, q.2⟩⟩
    refine (keep_any (P := fun b => P b ∨ (w.heap.size ≤ b ∧ b < w2.heap.size)) (h.below hbw) hg hf hv2 ⟨hs.1, fun x hx => (hs.2 x hx).1⟩ ⟨96, #[.pointer (some ⟨w.heap.size, 0, none⟩)], rfl, calls_Append, fun W5 Z ho hz => ?_⟩ (fun b hb => ?_)).mono fun _ _ hc => hc.from_ hbw
    · exact rec_add P w.heap.size l A c W5 (bk_out' (k1.below hb) ho (hz _ (.inr ⟨Nat.le_refl _, by omega⟩))) ((hl.below hbw).out ho fun b hb => hz b (.inl hb)) hs
    · rcases hb with q | hb
      · have := hP b q
        exact ⟨this.1, this.2.1, this.2.2.1, this.2.2.2.1, Nat.lt_of_lt_of_le this.2.2.2.2 hbw.size⟩
      have hb1 := hb.1
      refine ⟨fun r => ?_, fun r => ?_, fun r => ?_, fun r => ?_, hb.2⟩
      · have := hlt b (.inl r); omega
      · have := hlt b (.inr (.inl r)); omega
      · have := hlt b (.inr (.inr (.inl r))); omega
      · have := hlt gs (by simp); omega
  have kc0 : W.cell? ⟨w.heap.size, 0, none⟩ = some (.slice A l.length c) := k1.cell 0
  have hmf : ∀ (fn : Fn) (first cap : Array Value) (w : World), (Instr.makeFunc fn first cap).run Tryz.prog w = .ok (.func fn first cap) w := fun _ _ _ _ => rfl
  rw [hW] at kc0
  have HWE := Lib.hid hW
  clear h hg hf hlt hb1 k1 hsz hW hl hs hP
  go_enter Tryz.func55, Tryz.ntmps55
  go_wp2_with fail
  rw [← HWE.out]
  refine CM.out.mono ?_
  rintro _ w2 ⟨v, rfl, hv, hb⟩
  have CK := Lib.hid (HK.out w2 v hb hv)
  clear hv hb HK CM
  go_wp2_with fail
  refine CK.out.mono ?_
  rintro _ w3 ⟨x, rfl, hx⟩
  have HX := Lib.hid hx
  clear hx CK
  go_wp2_with fail
  go_ret
  exact ⟨x, rfl, HX.out⟩
end Go.Proofs.YtiijclibcfgnpaaGreat.Sto

namespace Go.Proofs.YtiijclibcfgnpaaGreat.Sto
open Go.RowKit Disk Log

theorem kl_side {d d' : DK} {f n : Nat} {L : LK} (h : KL d f n L) (h1 : Ok d') (h2 : d'.dead = false) (h3 : d'.pages.length = d.pages.length) (h4 : Log.part (now d') f n = Log.part (now d) f n) (h5 : d'.row = []) : KL d' f n L :=
  ⟨⟨h1, h2, h.up.two, by rw [h3]; exact h.up.in_, by rw [h4]; exact h.up.low⟩, by rw [h4]; exact h.recs, h.met, h5, h.sz⟩
theorem Area.at_ {d : DK} {f p M T : Nat} {k : Kp} (h : Area d f p M k) (u : Up d f p T) : Area d f p T k := ⟨u, h.tame, h.recs⟩
structure Rests (d : DK) (p N : Nat) (S : Kp → Prop) : Prop where
  half : d.pages.length / 2 = p ∧ 4 ≤ p
  row : d.row = []
  at_ : ∃ a b, Area d 0 p N a ∧ Area d p p N b ∧ ((Later a b ∧ S b) ∨ (¬ Later a b ∧ (Later b a ∨ (a = Kp.zero ∧ b = Kp.zero)) ∧ S a))
theorem Rests.mono {d : DK} {p N M : Nat} {S T : Kp → Prop} (h : Rests d p N S) (hN : N ≤ M) (hs : ∀ k, S k → T k) : Rests d p M T := by
  obtain ⟨h1, h2, a, b, q1, q2, q3⟩ := h
  exact ⟨h1, h2, a, b, q1.mono hN, q2.mono hN, q3.imp (fun q => ⟨q.1, hs _ q.2⟩) fun q => ⟨q.1, q.2.1, hs _ q.2.2⟩⟩
theorem rests_of {d : DK} {p N : Nat} {S : Kp → Prop} (lv : Bool) {x y : Kp} (h1 : d.pages.length / 2 = p ∧ 4 ≤ p) (h2 : d.row = []) (hx : Area d (fOf lv p) p N x) (hy : Area d (fOf (!lv) p) p N y) (ho : (Later y x ∧ S x) ∨ (Later x y ∧ S y) ∨ (x = Kp.zero ∧ y = Kp.zero ∧ S Kp.zero)) : Rests d p N S := by
  cases lv with
  | false =>
    refine ⟨h1, h2, x, y, hx, hy, ?_⟩
    rcases ho with ⟨q, s⟩ | ⟨q, s⟩ | ⟨rfl, rfl, s⟩
    · exact .inr ⟨q.not, .inl q, s⟩
    · exact .inl ⟨q, s⟩
    · exact .inr ⟨fun h => h.not h, .inr ⟨rfl, rfl⟩, s⟩
  | true =>
    refine ⟨h1, h2, y, x, hy, hx, ?_⟩
    rcases ho with ⟨q, s⟩ | ⟨q, s⟩ | ⟨rfl, rfl, s⟩
    · exact .inl ⟨q, s⟩
    · exact .inr ⟨q.not, .inl q, s⟩
    · exact .inr ⟨fun h => h.not h, .inr ⟨rfl, rfl⟩, s⟩
structure SvK (d : DK) (p : Nat) (La Lb : LK) (lv : Bool) (k : Kp) (N : Nat) : Prop where
  half : d.pages.length / 2 = p ∧ 4 ≤ p
  ka : KL d (fOf lv p) p La
  kb : KL d (fOf (!lv) p) p Lb
  aa : Area d (fOf lv p) p La.top k
  ab : ∃ b, Area d (fOf (!lv) p) p Lb.top b ∧ (Later b k ∨ (b = Kp.zero ∧ k = Kp.zero))
  ta : La.top ≤ N
  tb : Lb.top ≤ N
theorem SvK.fine {d : DK} {p : Nat} {La Lb : LK} {lv : Bool} {k : Kp} {N : Nat} (h : SvK d p La Lb lv k N) : Fine k := h.aa.fine
theorem SvK.mono {d : DK} {p : Nat} {La Lb : LK} {lv : Bool} {k : Kp} {N M : Nat} (h : SvK d p La Lb lv k N) (hm : N ≤ M) : SvK d p La Lb lv k M := ⟨h.half, h.ka, h.kb, h.aa, h.ab, Nat.le_trans h.ta hm, Nat.le_trans h.tb hm⟩
theorem fOf_apart (lv : Bool) (p : Nat) : fOf lv p + p ≤ fOf (!lv) p ∨ fOf (!lv) p + p ≤ fOf lv p := by cases lv <;> simp [fOf]
theorem fOf_apart' (lv : Bool) (p : Nat) : fOf (!lv) p + p ≤ fOf lv p ∨ fOf lv p + p ≤ fOf (!lv) p := by cases lv <;> simp [fOf]
theorem fOf_in {d : DK} {p : Nat} (h : d.pages.length / 2 = p) (lv : Bool) : fOf lv p + p ≤ d.pages.length := by cases lv <;> simp [fOf] <;> omega
theorem SvK.rests {d : DK} {p : Nat} {La Lb : LK} {lv : Bool} {k : Kp} {N : Nat} (h : SvK d p La Lb lv k N) : Rests d p N (· = k) := by
  obtain ⟨b, h1, h2⟩ := h.ab
  refine rests_of lv h.half h.ka.row (h.aa.mono h.ta) (h1.mono h.tb) ?_
  rcases h2 with q | ⟨q, r⟩
  · exact .inl ⟨q, rfl⟩
  · exact .inr (.inr ⟨r, q, r.symm⟩)
theorem zero_later {k : Kp} (h : Fine k) : Later Kp.zero k ∨ k = Kp.zero := by
  rcases Nat.eq_zero_or_pos k.promised with h0 | h0
  · exact .inr (h.none_ h0)
  · exact .inl (.inl h0)
theorem Ok.of_com {d : DK} {f n : Nat} {L L' : LK} {b : List UInt8} {z : Int} {d' : DK} (h : ComK d f n L b z d' L') (hd : Ok d) : Ok d' := by rw [h.disk]; exact Ok.commitF hd _ _ _ _
theorem Ok.of_res {d : DK} {f n : Nat} {L L' : LK} {z : Int} {d' : DK} (h : ResK d f n L z d' L') (hd : Ok d) : Ok d' := by rw [h.disk]; exact Ok.resetF hd _ _

section
variable {d d' : DK} {p : Nat} {La Lb La' Lb' : LK} {lv : Bool} {k : Kp} {N : Nat}
theorem com_ok {f g : Nat} {L L' M : LK} {x y : Kp} {r : Rec} (hk : KL d f p L) (hm : KL d g p M) (ha : Area d f p L.top x) (hb : Area d g p M.top y) (hfg : f + p ≤ g ∨ g + p ≤ f) (hg : g + p ≤ d.pages.length) (hN : L.top + 2 < 65536) (hr : r.may x) (hf : fits (r.run x) p = true) (h : ComK d f p L r.text 0 d' L') :
    d'.pages.length = d.pages.length ∧ KL d' f p L' ∧ KL d' g p M ∧ Area d' f p L'.top (r.run x) ∧ Area d' g p M.top y ∧ L'.top ≤ L.top + 2 ∧ (d.left < 0 → d'.left = d.left) := by
  obtain ⟨c1, c2, c3, c4, c5, c6⟩ := h.good rfl
  have hps : p < 65536 := by have := hk.many; omega
  have h0 : (commitF d f p L.top r.text).1.1 = 0 := h.ans.symm
  obtain ⟨a1, a2, a3⟩ := ha.commit hk.row hN hps hr hf h0
  rw [← h.disk] at a1 a2 a3
  have hs := (commit_sides (b := r.text) hk.up hk.row hN (by rw [h0]; decide) []).1 g p hg hfg
  have haf : after (Log.commitF d f p L.top r.text).1 [] = d' := by unfold after; rw [if_pos h0, h.disk]
  rw [haf] at hs
  have hok := Ok.of_com h hk.up.ok
  exact ⟨a3, c1, kl_side hm hok c1.up.on a3 hs c1.row, a1.at_ c1.up, hb.side hok c1.up.on a3 hs, c4, c5⟩
theorem com_lost {f g : Nat} {L L' M : LK} {x y : Kp} {r : Rec} {z : Int} (hk : KL d f p L) (ha : Area d f p L.top x) (hb : Area d g p M.top y) (hfg : f + p ≤ g ∨ g + p ≤ f) (hg : g + p ≤ d.pages.length) (hN : L.top + 2 < 65536) (hr : r.may x) (hf : fits (r.run x) p = true) (h0 : z ≠ 0) (h4 : z ≠ 4) (h : ComK d f p L r.text z d' L') :
    z = 9 ∧ d'.dead = true ∧ 0 ≤ d.left ∧ d'.pages.length = d.pages.length ∧ ∀ fates, (d'.restart fates).row = [] ∧ (d'.restart fates).pages.length = d.pages.length ∧ (Area (d'.restart fates) f p (Log.upTo (L.top + 2)) x ∨ Area (d'.restart fates) f p (Log.upTo (L.top + 2)) (r.run x)) ∧ Area (d'.restart fates) g p M.top y := by
  have hps : p < 65536 := by have := hk.many; omega
  have e0 : (commitF d f p L.top r.text).1.1 ≠ 0 := by rw [← h.ans]; exact h0
  have e4 : (commitF d f p L.top r.text).1.1 ≠ 4 := by rw [← h.ans]; exact h4
  obtain ⟨c1, c2, c3, c4, c5⟩ := commit_dead hk.up hk.row hN hps e0 e4
  refine ⟨by rw [h.ans]; exact c1, by rw [h.disk]; exact c2, c3, by rw [h.disk]; exact c4, fun fates => ?_⟩
  obtain ⟨a1, -⟩ := ha.lost hk.row hN hps hr hf e0 e4 fates
  rw [← h.disk] at a1
  have hs := (commit_sides (b := r.text) hk.up hk.row hN e4 fates).1 g p hg hfg
  have haf : after (Log.commitF d f p L.top r.text).1 fates = d'.restart fates := by unfold after; rw [if_neg e0, h.disk]
  rw [haf] at hs
  have hok := (Ok.of_com h hk.up.ok).restart fates
  have hlen : (d'.restart fates).pages.length = d.pages.length := by
    rcases a1 with q | q
    · show (lay (takes fates) 0 d'.pages d'.row).length = _
      rw [lay_length, h.disk, c4]
    · show (lay (takes fates) 0 d'.pages d'.row).length = _
      rw [lay_length, h.disk, c4]
  exact ⟨rfl, hlen, a1, hb.side hok rfl hlen hs⟩
theorem res_ok {f g : Nat} {L L' M : LK} {x y : Kp} (hk : KL d f p L) (hm : KL d g p M) (ha : Area d f p L.top x) (hb : Area d g p M.top y) (hfg : f + p ≤ g ∨ g + p ≤ f) (hg : g + p ≤ d.pages.length) (hN : L.top + 2 < 65536) (h : ResK d f p L 0 d' L') :
    d'.pages.length = d.pages.length ∧ KL d' f p L' ∧ KL d' g p M ∧ Area d' f p L'.top Kp.zero ∧ Area d' g p M.top y ∧ L'.top = L.top + 1 ∧ L'.end_ = 1 ∧ (d.left < 0 → d'.left = d.left) := by
  obtain ⟨c1, c2, c3, c4, c5⟩ := h.good rfl
  have h0 : (resetF d f L.top).1 = 0 := h.ans.symm
  obtain ⟨a1, a0, a2, a3⟩ := ha.reset hk.row hN h0
  rw [← h.disk] at a1 a2 a3
  have hs := reset_side hk.up hk.row hg hfg []
  have haf : after (Log.resetF d f L.top) [] = d' := by unfold after; rw [if_pos h0, h.disk]
  rw [haf] at hs
  have hok := Ok.of_res h hk.up.ok
  exact ⟨a3, c1, kl_side hm hok c1.up.on a3 hs c1.row, a1.at_ c1.up, hb.side hok c1.up.on a3 hs, c4, c3, c5⟩
theorem res_lost {f g : Nat} {L L' M : LK} {x y : Kp} {z : Int} (hk : KL d f p L) (ha : Area d f p L.top x) (hb : Area d g p M.top y) (hfg : f + p ≤ g ∨ g + p ≤ f) (hg : g + p ≤ d.pages.length) (hN : L.top + 2 < 65536) (h0 : z ≠ 0) (h : ResK d f p L z d' L') :
    z = 9 ∧ d'.dead = true ∧ 0 ≤ d.left ∧ d'.pages.length = d.pages.length ∧ ∀ fates, (d'.restart fates).row = [] ∧ (d'.restart fates).pages.length = d.pages.length ∧ (Area (d'.restart fates) f p (Log.upTo (L.top + 2)) x ∨ Area (d'.restart fates) f p (Log.upTo (L.top + 2)) Kp.zero) ∧ Area (d'.restart fates) g p M.top y := by
  have e0 : (resetF d f L.top).1 ≠ 0 := by rw [← h.ans]; exact h0
  obtain ⟨c1, c2, c3, c4, c5⟩ := reset_dead hk.up hk.row (by omega) e0
  refine ⟨by rw [h.ans]; exact c1, by rw [h.disk]; exact c2, c3, by rw [h.disk]; exact c4, fun fates => ?_⟩
  obtain ⟨a1, -⟩ := ha.unset hk.row hN e0 fates
  rw [← h.disk] at a1
  have hs := reset_side hk.up hk.row hg hfg fates
  have haf : after (Log.resetF d f L.top) fates = d'.restart fates := by unfold after; rw [if_neg e0, h.disk]
  rw [haf] at hs
  have hok := (Ok.of_res h hk.up.ok).restart fates
  have hlen : (d'.restart fates).pages.length = d.pages.length := by
    show (lay (takes fates) 0 d'.pages d'.row).length = _
    rw [lay_length, h.disk, c4]
  exact ⟨rfl, hlen, a1, hb.side hok rfl hlen hs⟩
end
def Step (d : DK) (p : Nat) (La Lb : LK) (lv : Bool) (k : Kp) (N : Nat) (D : Deed) (x : Int) (d' : DK) (La' Lb' : LK) (lv' : Bool) (k' : Kp) (met' : Bool) : Prop :=
  (x = 1 ∧ D.may k = false ∧ d' = d ∧ La' = La ∧ Lb' = Lb ∧ lv' = lv ∧ k' = k ∧ met' = false) ∨
  (x = 4 ∧ D.may k = true ∧ fits (D.run k) p = false ∧ d' = d ∧ La' = La ∧ Lb' = Lb ∧ lv' = lv ∧ k' = k ∧ met' = false) ∨
  (x = 0 ∧ D.may k = true ∧ fits (D.run k) p = true ∧ k' = D.run k ∧ met' = false ∧ SvK d' p La' Lb' lv' k' (N + 4) ∧ d'.pages.length = d.pages.length ∧ (d.left < 0 → d'.left = d.left)) ∨
  (x = 9 ∧ D.may k = true ∧ fits (D.run k) p = true ∧ 0 ≤ d.left ∧ k' = k ∧ met' = true ∧ d'.dead = true ∧ d'.pages.length = d.pages.length ∧ ∀ fates, Rests (d'.restart fates) p (Log.upTo (N + 4)) fun q => q = k ∨ q = D.run k)
theorem step_of {d : DK} {p : Nat} {La Lb : LK} {lv : Bool} {k : Kp} {N : Nat} {D : Deed} {x : Int} {d' : DK} {La' Lb' : LK} {lv' : Bool} {k' : Kp} {met' : Bool} (h : SvK d p La Lb lv k N) (hN : N + 4 < 65536) (hs : StR d p La Lb lv k false D x d' La' Lb' lv' k' met') : Step d p La Lb lv k N D x d' La' Lb' lv' k' met' := by
  have hin := fOf_in h.half.1
  have hfk := h.fine
  have hta := h.ta
  have htb := h.tb
  have hup2 : Log.upTo (La.top + 2) ≤ Log.upTo (N + 4) := Log.upTo_mono (by omega)
  have hupb : Log.upTo (Lb.top + 2) ≤ Log.upTo (N + 4) := Log.upTo_mono (by omega)
  have hleN : N + 4 ≤ Log.upTo (N + 4) := Log.le_upTo _
  rcases hs with ⟨h1, _⟩ | ⟨_, ⟨h1, rfl, q⟩ | ⟨h1, h2, rfl, q⟩ | ⟨hm, hf, hw, rfl, rfl⟩⟩
  · rw [Bool.false_or, h.ka.up.on] at h1
    cases h1
  · exact .inl ⟨rfl, h1, q⟩
  · exact .inr (.inl ⟨rfl, h1, h2, q⟩)
  · obtain ⟨b, hb, hbo⟩ := h.ab
    have hbk2 : Later b (D.run k) := by
      rcases hbo with q | ⟨rfl, rfl⟩
      · exact q.trans (later_run hm)
      · exact later_run hm
    have hlr := later_run hm
    rcases hw with ⟨hc, h4, rfl, rfl⟩ | ⟨-, z1, d1, Lb1, hr, hw⟩
    · by_cases hx0 : x = 0
      · subst hx0
        obtain ⟨q1, q2, q3, q4, q5, q6, q7⟩ := com_ok (r := .deed D) h.ka h.kb h.aa hb (fOf_apart _ p) (hin _) (by omega) hm hf hc
        exact .inr (.inr (.inl ⟨rfl, hm, hf, if_pos rfl, rfl, by rw [if_pos rfl]; exact ⟨⟨by rw [q1]; exact h.half.1, h.half.2⟩, q2, q3, q4, ⟨b, q5, .inl hbk2⟩, by omega, by omega⟩, q1, q7⟩))
      · obtain ⟨rfl, q2, q3, q4, q5⟩ := com_lost (r := .deed D) h.ka h.aa hb (fOf_apart _ p) (hin _) (by omega) hm hf hx0 h4 hc
        refine .inr (.inr (.inr ⟨rfl, hm, hf, q3, rfl, rfl, q2, q4, fun fates => ?_⟩))
        obtain ⟨r1, r2, r3, r4⟩ := q5 fates
        rcases r3 with r3 | r3
        · refine rests_of _ ⟨by rw [r2]; exact h.half.1, h.half.2⟩ r1 (r3.mono hup2) (r4.mono (by omega)) ?_
          rcases hbo with q | ⟨q, r⟩
          · exact .inl ⟨q, .inl rfl⟩
          · exact .inr (.inr ⟨r, q, .inl r.symm⟩)
        · exact rests_of _ ⟨by rw [r2]; exact h.half.1, h.half.2⟩ r1 (r3.mono hup2) (r4.mono (by omega)) (.inl ⟨hbk2, .inr rfl⟩)
    · rcases hw with ⟨h1, rfl, rfl, rfl, rfl, rfl⟩ | ⟨rfl, z2, d2, Lb2, hc2, hw⟩
      · obtain ⟨rfl, q2, q3, q4, q5⟩ := res_lost h.kb hb h.aa (fOf_apart' _ p) (hin _) (by omega) h1 hr
        refine .inr (.inr (.inr ⟨rfl, hm, hf, q3, rfl, rfl, q2, q4, fun fates => ?_⟩))
        obtain ⟨r1, r2, r3, r4⟩ := q5 fates
        rcases r3 with r3 | r3
        · refine rests_of _ ⟨by rw [r2]; exact h.half.1, h.half.2⟩ r1 (r4.mono (by omega)) (r3.mono hupb) ?_
          rcases hbo with q | ⟨q, r⟩
          · exact .inl ⟨q, .inl rfl⟩
          · exact .inr (.inr ⟨r, q, .inl r.symm⟩)
        · refine rests_of _ ⟨by rw [r2]; exact h.half.1, h.half.2⟩ r1 (r4.mono (by omega)) (r3.mono hupb) ?_
          rcases zero_later hfk with q | q
          · exact .inl ⟨q, .inl rfl⟩
          · exact .inr (.inr ⟨q, rfl, .inl q.symm⟩)
      · obtain ⟨p1, p2, p3, p4, p5, p6, p7, p8⟩ := res_ok h.kb h.ka hb h.aa (fOf_apart' _ p) (hin _) (by omega) hr
        have hp1 : d1.pages.length / 2 = p ∧ 4 ≤ p := ⟨by rw [p1]; exact h.half.1, h.half.2⟩
        have hin1 := fOf_in hp1.1
        have hfw : Fine (D.run k) := hfk.run hm
        have hpos : 0 < (D.run k).promised := by
          rcases hlr with q | ⟨q1, q2⟩
          · omega
          · have := hfw.cur
            rcases q2 with q2 | ⟨q2, q3⟩
            · omega
            · rcases Nat.eq_zero_or_pos (D.run k).promised with h0 | h0
              · have h5 := hfw.none_ h0
                rw [h5] at q3
                exact absurd q3 (Nat.not_lt_zero _)
              · exact h0
        have hrw : (Rec.whole (D.run k)).may Kp.zero := ⟨rfl, hfw, hpos⟩
        have hroom := whole_room hf (by omega)
        have hz24 : z2 ≠ 4 := hc2.some_ (by rw [p7]; exact hroom)
        by_cases hz0 : z2 = 0
        · subst hz0
          rcases hw with ⟨h1, _⟩ | ⟨_, rfl, rfl, rfl, rfl, rfl⟩
          · exact absurd rfl h1
          · obtain ⟨q1, q2, q3, q4, q5, q6, q7⟩ := com_ok (r := .whole (D.run k)) p2 p3 p4 p5 (fOf_apart' _ p) (hin1 _) (by omega) hrw hf hc2
            refine .inr (.inr (.inl ⟨rfl, hm, hf, if_pos rfl, rfl, ?_, by rw [q1, p1], fun hl => by rw [q7 (by rw [p8 hl]; exact hl), p8 hl]⟩))
            rw [if_pos rfl]
            exact ⟨⟨by rw [q1]; exact hp1.1, hp1.2⟩, q2, by rw [Bool.not_not]; exact q3, q4, ⟨k, by rw [Bool.not_not]; exact q5, .inl hlr⟩, by omega, by omega⟩
        · rcases hw with ⟨h1, rfl, rfl, rfl, rfl, rfl⟩ | ⟨h1, _⟩
          · obtain ⟨rfl, q2, q3, q4, q5⟩ := com_lost (r := .whole (D.run k)) p2 p4 p5 (fOf_apart' _ p) (hin1 _) (by omega) hrw hf h1 hz24 hc2
            have hl : 0 ≤ d.left := by
              rcases Int.lt_or_le d.left 0 with q | q
              · rw [p8 q] at q3; omega
              · exact q
            refine .inr (.inr (.inr ⟨rfl, hm, hf, hl, rfl, rfl, q2, by rw [q4, p1], fun fates => ?_⟩))
            obtain ⟨r1, r2, r3, r4⟩ := q5 fates
            have hh : (d'.restart fates).pages.length / 2 = p ∧ 4 ≤ p := ⟨by rw [r2]; exact hp1.1, hp1.2⟩
            have hu1 : Log.upTo (Lb1.top + 2) ≤ Log.upTo (N + 4) := Log.upTo_mono (by omega)
            rcases r3 with r3 | r3
            · refine rests_of _ hh r1 (r4.mono (by omega)) (r3.mono hu1) ?_
              rcases zero_later hfk with q | q
              · exact .inl ⟨q, .inl rfl⟩
              · exact .inr (.inr ⟨q, rfl, .inl q.symm⟩)
            · exact rests_of _ hh r1 (r4.mono (by omega)) (r3.mono hu1) (.inr (.inl ⟨hlr, .inr rfl⟩))
          · exact absurd h1 hz0
end Go.Proofs.YtiijclibcfgnpaaGreat.Sto

namespace Go.Proofs.YtiijclibcfgnpaaGreat.Sto
open Go.RowKit Disk Log

structure Sw (w0 w : World) (Z : Nat → Prop) (gs gd : Nat) (d : DK) (p : Nat) (La Lb : LK) (lv : Bool) (k : Kp) (met : Bool) : Prop where
  at_ : ∃ ga gb X Ya Yb V, SvM w X Ya Yb V gs gd ga gb d p La Lb lv k met ∧ ∀ b, X b ∨ Ya b ∨ Yb b ∨ V b ∨ b = gs → Z b
  below : Below w0.heap.size w0 w
  own : ∀ b, Z b → w0.heap.size ≤ b
  lt : ∀ b, Z b → b < w.heap.size
def Grow (Z Z' : Nat → Prop) (w w' : World) : Prop := Out Z w w' ∧ ∀ b, Z' b → Z b ∨ w.heap.size ≤ b
theorem Grow.refl (Z : Nat → Prop) (w : World) : Grow Z Z w w := ⟨Out.refl _ _, fun _ => .inl⟩
theorem Grow.of_below {Z : Nat → Prop} {w w' : World} (h : Below w.heap.size w w') : Grow Z Z w w' := ⟨Out.of_below h, fun _ => .inl⟩
section
variable {w0 w w' : World} {Z : Nat → Prop} {gs gd : Nat} {d : DK} {p : Nat} {La Lb : LK} {lv : Bool} {k : Kp} {met : Bool} {N : Nat}
theorem Sw.below_ (h : Sw w0 w Z gs gd d p La Lb lv k met) (hb : Below w.heap.size w w') : Sw w0 w' Z gs gd d p La Lb lv k met := by
  obtain ⟨⟨ga, gb, X, Ya, Yb, V, h1, h2⟩, h6, h7, h8⟩ := h
  exact ⟨⟨ga, gb, X, Ya, Yb, V, h1.below hb, h2⟩, h6.trans (hb.mono h6.size), h7, fun b hk => Nat.lt_of_lt_of_le (h8 b hk) hb.size⟩
theorem Sw.disk (h : Sw w0 w Z gs gd d p La Lb lv k met) : ∃ X, St w0 w X gd d ∧ ∀ b, X b → Z b := by
  obtain ⟨⟨ga, gb, X, Ya, Yb, V, h1, h2⟩, h6, h7, h8⟩ := h
  exact ⟨X, ⟨h1.disk, h6, fun b hb => h7 b (h2 b (.inl hb))⟩, fun b hb => h2 b (.inl hb)⟩
theorem Sw.did {e : Ending} {D : Deed} {ga gb : Nat} {X Ya Yb V : Nat → Prop} (h : Sw w0 w Z gs gd d p La Lb lv k met) (hz : ∀ b, X b ∨ Ya b ∨ Yb b ∨ V b ∨ b = gs → Z b) (_hs : SvM w X Ya Yb V gs gd ga gb d p La Lb lv k met) (hc : CallP X Ya Yb V gs gd d p La Lb lv k met D w e w') :
    ∃ x d' La' Lb' lv' k' met' Z', e = .returned (.int .i64 x) ∧ StR d p La Lb lv k met D x d' La' Lb' lv' k' met' ∧ Sw w0 w' Z' gs gd d' p La' Lb' lv' k' met' ∧ Grow Z Z' w w' := by
  obtain ⟨x, rfl, d', La', Lb', lv', k', met', h1, ga', gb', X', Ya', Yb', V', h2, h3, h4⟩ := hc
  have ho : Out Z w w' := h3.mono fun b hb => .inl (hz b (by rcases hb with q | q | q | q <;> simp [q]))
  have hZ : ∀ b, (X' b ∨ Ya' b ∨ Yb' b ∨ V' b ∨ b = gs) → Z b ∨ w.heap.size ≤ b := fun b hb => by
    have h5 : (X' b ∨ Ya' b ∨ Yb' b ∨ V' b) ∨ b = gs := by
      rcases hb with q | q | q | q | q
      · exact .inl (.inl q)
      · exact .inl (.inr (.inl q))
      · exact .inl (.inr (.inr (.inl q)))
      · exact .inl (.inr (.inr (.inr q)))
      · exact .inr q
    rcases h5 with q | q
    · rcases h4 b q with r | r
      · exact .inl (hz b (by rcases r with r | r | r | r <;> simp [r]))
      · exact .inr r
    · exact .inl (hz b (by simp [q]))
  exact ⟨x, d', La', Lb', lv', k', met', fun b => X' b ∨ Ya' b ∨ Yb' b ∨ V' b ∨ b = gs, rfl, h1, ⟨⟨ga', gb', X', Ya', Yb', V', h2, fun _ hb => hb⟩, ho.below h.below h.own h.below.size, fun b hb => (hZ b hb).elim (h.own b) fun q => Nat.le_trans h.below.size q, h2.lt⟩, ho, hZ⟩
end
def Sv (w0 w : World) (Z : Nat → Prop) (gs gd : Nat) (d : DK) (p : Nat) (k : Kp) (N : Nat) : Prop :=
  ∃ La Lb lv, Sw w0 w Z gs gd d p La Lb lv k false ∧ SvK d p La Lb lv k N
def SvX (w0 w : World) (Z : Nat → Prop) (gs gd : Nat) (d : DK) (p : Nat) (k : Kp) : Prop :=
  ∃ La Lb lv, Sw w0 w Z gs gd d p La Lb lv k true ∧ Fine k ∧ d.dead = true
theorem wr_rows : ∀ (ls : Pages) (d : DK) (e : Nat), (wr d e ls).2.row.length ≤ d.row.length + ls.length
  | [], d, _ => sync_row d
  | p :: ls, d, e => by
    have h1 := write_row d (e : Int) p
    have h2 := wr_rows ls (d.write e p).2 (e + 1)
    rw [wr]
    split
    · rw [List.length_cons]; omega
    · rw [List.length_cons]; omega
theorem commit_rows {d : DK} {f n N : Nat} {b : List UInt8} : (commitF d f n N b).1.2.row.length ≤ d.row.length + 1 + n := by
  have h1 := wr_rows (leafs (N + 1) (manyOf b.length) b) d (f + (Recs (Log.part (Log.now d) f n)).2.2)
  have h2 := wr_rows (headL (N + 1)) d f
  have h3 := wr_rows (leafs (N + 2) (manyOf b.length) b) (wr d f (headL (N + 1))).2 (f + 1)
  rw [leafs_length] at h1 h3
  have h4 : (headL (N + 1)).length = 1 := rfl
  unfold commitF
  split
  · show d.row.length ≤ _
    omega
  · split
    · show d.row.length ≤ _
      omega
    · split
      · show (wr _ _ _).2.row.length ≤ _
        omega
      · split
        · show (wr _ _ _).2.row.length ≤ _
          omega
        · show (wr _ _ _).2.row.length ≤ _
          omega
theorem str_row {d : DK} {p : Nat} {La Lb : LK} {lv : Bool} {k : Kp} {met : Bool} {D : Deed} {x : Int} {d' : DK} {La' Lb' : LK} {lv' : Bool} {k' : Kp} {met' : Bool} (h : StR d p La Lb lv k met D x d' La' Lb' lv' k' met') : d'.row.length ≤ d.row.length + p + 2 := by
  have hc : ∀ {d d' : DK} {f n : Nat} {L L' : LK} {b : List UInt8} {z : Int}, ComK d f n L b z d' L' → d'.row.length ≤ d.row.length + 1 + n := fun h => by rw [h.disk]; exact commit_rows
  have hr : ∀ {d d' : DK} {f n : Nat} {L L' : LK} {z : Int}, ResK d f n L z d' L' → d'.row.length ≤ d.row.length + 1 := fun h => by rw [h.disk]; exact wr_rows _ _ _
  rcases h with ⟨_, _, rfl, _⟩ | ⟨_, ⟨_, _, rfl, _⟩ | ⟨_, _, _, rfl, _⟩ | ⟨_, _, hw, _⟩⟩
  · omega
  · omega
  · omega
  · rcases hw with ⟨q, _⟩ | ⟨_, z1, d1, Lb1, q, hw⟩
    · have := hc q; omega
    · have h1 := hr q
      rcases hw with ⟨_, _, rfl, _⟩ | ⟨_, z2, d2, Lb2, q2, hw⟩
      · omega
      · have h2 := hc q2
        rcases hw with ⟨_, _, rfl, _⟩ | ⟨_, _, rfl, _⟩ <;> omega
def AfterP (w0 : World) (Z : Nat → Prop) (gs gd : Nat) (d : DK) (p : Nat) (k : Kp) (N : Nat) (D : Deed) (x : Int) (w w' : World) : Prop :=
  ∃ Z', Grow Z Z' w w' ∧ ((x = 1 ∧ D.may k = false ∧ Sv w0 w' Z' gs gd d p k N) ∨ (x = 4 ∧ D.may k = true ∧ fits (D.run k) p = false ∧ Sv w0 w' Z' gs gd d p k N) ∨
    (x = 0 ∧ D.may k = true ∧ fits (D.run k) p = true ∧ ∃ d', Sv w0 w' Z' gs gd d' p (D.run k) (N + 4) ∧ d'.pages.length = d.pages.length ∧ (d.left < 0 → d'.left = d.left)) ∨
    (x = 9 ∧ D.may k = true ∧ fits (D.run k) p = true ∧ 0 ≤ d.left ∧ ∃ d', SvX w0 w' Z' gs gd d' p k ∧ d'.pages.length = d.pages.length ∧ d'.row.length ≤ 1000000 ∧ ∀ fates, Rests (d'.restart fates) p (Log.upTo (N + 4)) fun q => q = k ∨ q = D.run k))
section
variable {w0 w w' : World} {Z P : Nat → Prop} {gs gd : Nat} {d : DK} {p : Nat} {k : Kp} {N : Nat}
theorem Sv.below_ (h : Sv w0 w Z gs gd d p k N) (hb : Below w.heap.size w w') : Sv w0 w' Z gs gd d p k N := by
  obtain ⟨La, Lb, lv, h1, h2⟩ := h
  exact ⟨La, Lb, lv, h1.below_ hb, h2⟩
theorem Sv.mono {M : Nat} (h : Sv w0 w Z gs gd d p k N) (hm : N ≤ M) : Sv w0 w Z gs gd d p k M := by
  obtain ⟨La, Lb, lv, h1, h2⟩ := h
  exact ⟨La, Lb, lv, h1, h2.mono hm⟩
theorem SvX.below_ (h : SvX w0 w Z gs gd d p k) (hb : Below w.heap.size w w') : SvX w0 w' Z gs gd d p k := by
  obtain ⟨La, Lb, lv, h1, h2⟩ := h
  exact ⟨La, Lb, lv, h1.below_ hb, h2⟩
theorem Sv.below (h : Sv w0 w Z gs gd d p k N) : Below w0.heap.size w0 w := by obtain ⟨_, _, _, h, _⟩ := h; exact h.below
theorem Sv.own (h : Sv w0 w Z gs gd d p k N) : ∀ b, Z b → w0.heap.size ≤ b := by obtain ⟨_, _, _, h, _⟩ := h; exact h.own
theorem Sv.lt (h : Sv w0 w Z gs gd d p k N) : ∀ b, Z b → b < w.heap.size := by obtain ⟨_, _, _, h, _⟩ := h; exact h.lt
theorem SvX.below (h : SvX w0 w Z gs gd d p k) : Below w0.heap.size w0 w := by obtain ⟨_, _, _, h, _⟩ := h; exact h.below
theorem SvX.own (h : SvX w0 w Z gs gd d p k) : ∀ b, Z b → w0.heap.size ≤ b := by obtain ⟨_, _, _, h, _⟩ := h; exact h.own
theorem SvX.lt (h : SvX w0 w Z gs gd d p k) : ∀ b, Z b → b < w.heap.size := by obtain ⟨_, _, _, h, _⟩ := h; exact h.lt
theorem Sv.fine (h : Sv w0 w Z gs gd d p k N) : Fine k := by obtain ⟨_, _, _, _, h⟩ := h; exact h.fine
theorem Sv.disk (h : Sv w0 w Z gs gd d p k N) : ∃ X, St w0 w X gd d ∧ ∀ b, X b → Z b := by obtain ⟨_, _, _, h, _⟩ := h; exact h.disk
theorem SvX.disk (h : SvX w0 w Z gs gd d p k) : ∃ X, St w0 w X gd d ∧ ∀ b, X b → Z b := by obtain ⟨_, _, _, h, _⟩ := h; exact h.disk
theorem Sv.rests (h : Sv w0 w Z gs gd d p k N) : Rests d p N (· = k) := by obtain ⟨_, _, _, _, h⟩ := h; exact h.rests
theorem Sv.on (h : Sv w0 w Z gs gd d p k N) : d.dead = false := by obtain ⟨_, _, _, _, h⟩ := h; exact h.ka.up.on
theorem Sv.row (h : Sv w0 w Z gs gd d p k N) : d.row = [] := by obtain ⟨_, _, _, _, h⟩ := h; exact h.ka.row
theorem after_of {e : Ending} {D : Deed} {La Lb : LK} {lv : Bool} {ga gb : Nat} {X Ya Yb V : Nat → Prop} (h : Sw w0 w Z gs gd d p La Lb lv k false) (hK : SvK d p La Lb lv k N) (hN : N + 4 < 65536) (hz : ∀ b, X b ∨ Ya b ∨ Yb b ∨ V b ∨ b = gs → Z b) (hs : SvM w X Ya Yb V gs gd ga gb d p La Lb lv k false) (hc : CallP X Ya Yb V gs gd d p La Lb lv k false D w e w') :
    ∃ x, e = .returned (.int .i64 x) ∧ AfterP w0 Z gs gd d p k N D x w w' := by
  obtain ⟨x, d', La', Lb', lv', k', met', Z', rfl, hr, hw, hg⟩ := h.did hz hs hc
  refine ⟨x, rfl, Z', hg, ?_⟩
  rcases step_of hK hN hr with ⟨rfl, h1, rfl, rfl, rfl, rfl, rfl, rfl⟩ | ⟨rfl, h1, h2, rfl, rfl, rfl, rfl, rfl, rfl⟩ | ⟨rfl, h1, h2, rfl, rfl, h3, h4, h5⟩ | ⟨rfl, h1, h2, h3, rfl, rfl, h4, h5, h6⟩
  · exact .inl ⟨rfl, h1, _, _, _, hw, hK⟩
  · exact .inr (.inl ⟨rfl, h1, h2, _, _, _, hw, hK⟩)
  · exact .inr (.inr (.inl ⟨rfl, h1, h2, d', ⟨_, _, _, hw, h3⟩, h4, h5⟩))
  · exact .inr (.inr (.inr ⟨rfl, h1, h2, h3, d', ⟨_, _, _, hw, hK.fine, h4⟩, h5, by have := str_row hr; rw [hK.ka.row] at this; have := hK.ka.many; simp at *; omega, h6⟩))
theorem tops {La Lb : LK} {lv : Bool} (h : SvK d p La Lb lv k N) (hN : N + 4 < 65536) : (false || d.dead) = false → KL d (fOf lv p) p La ∧ KL d (fOf (!lv) p) p Lb ∧ La.top + 2 < 65536 ∧ Lb.top + 4 < 65536 := fun _ =>
  ⟨h.ka, h.kb, by have := h.ta; omega, by have := h.tb; omega⟩
theorem Sv.promise (h : Sv w0 w Z gs gd d p k N) (hN : N + 4 < 65536) (e : Nat) (he : e < 18446744073709551616) :
    Calls Tryz.prog 48 #[.pointer (some ⟨gs, 0, none⟩), .int .u64 (e : Int)] w fun r w' => ∃ x, r = .returned (.int .i64 x) ∧ AfterP w0 Z gs gd d p k N (.prom e) x w w' := by
  obtain ⟨La, Lb, lv, h1, h2⟩ := h
  obtain ⟨ga, gb, X, Ya, Yb, V, h3, h4⟩ := h1.at_
  exact (promise_any e h3 (tops h2 hN) h2.fine he).mono fun _ _ hc => after_of h1 h2 hN h4 h3 hc
theorem Sv.adopt (h : Sv w0 w Z gs gd d p k N) (hN : N + 4 < 65536) (e : Nat) (l : List Ln) (he : e < 18446744073709551616) (A : Option Addr) (c : Nat) (hl : LnS P w A l.length l) (hs : Laid l) (hP : ∀ b, P b → ¬ Z b ∧ b < w.heap.size) :
    Calls Tryz.prog 53 #[.pointer (some ⟨gs, 0, none⟩), .int .u64 (e : Int), .slice A l.length c] w fun r w' => ∃ x, r = .returned (.int .i64 x) ∧ AfterP w0 Z gs gd d p k N (.adopt e l) x w w' := by
  obtain ⟨La, Lb, lv, h1, h2⟩ := h
  obtain ⟨ga, gb, X, Ya, Yb, V, h3, h4⟩ := h1.at_
  exact (adopt_any (P := P) e l h3 (tops h2 hN) h2.fine he A c hl hs (fun b hb => ⟨fun q => (hP b hb).1 (h4 b (by simp [q])), fun q => (hP b hb).1 (h4 b (by simp [q])), fun q => (hP b hb).1 (h4 b (by simp [q])), fun q => (hP b hb).1 (h4 b (by simp [q])), (hP b hb).2⟩)).mono fun _ _ hc => after_of h1 h2 hN h4 h3 hc
theorem Sv.append (h : Sv w0 w Z gs gd d p k N) (hN : N + 4 < 65536) (l : List Ln) (A : Option Addr) (c : Nat) (hl : LnS P w A l.length l) (hs : Laid l) (hP : ∀ b, P b → ¬ Z b ∧ b < w.heap.size) :
    Calls Tryz.prog 55 #[.pointer (some ⟨gs, 0, none⟩), .slice A l.length c] w fun r w' => ∃ x, r = .returned (.int .i64 x) ∧ AfterP w0 Z gs gd d p k N (.add l) x w w' := by
  obtain ⟨La, Lb, lv, h1, h2⟩ := h
  obtain ⟨ga, gb, X, Ya, Yb, V, h3, h4⟩ := h1.at_
  exact (append_any (P := P) l h3 (tops h2 hN) h2.fine A c hl hs (fun b hb => ⟨fun q => (hP b hb).1 (h4 b (by simp [q])), fun q => (hP b hb).1 (h4 b (by simp [q])), fun q => (hP b hb).1 (h4 b (by simp [q])), fun q => (hP b hb).1 (h4 b (by simp [q])), (hP b hb).2⟩)).mono fun _ _ hc => after_of h1 h2 hN h4 h3 hc
theorem SvX.promise (h : SvX w0 w Z gs gd d p k) (e : Nat) (he : e < 18446744073709551616) :
    Calls Tryz.prog 48 #[.pointer (some ⟨gs, 0, none⟩), .int .u64 (e : Int)] w fun r w' => r = .returned (.int .i64 9) ∧ ∃ Z', SvX w0 w' Z' gs gd d p k ∧ Grow Z Z' w w' := by
  obtain ⟨La, Lb, lv, h1, h2, h0⟩ := h
  obtain ⟨ga, gb, X, Ya, Yb, V, h3, h4⟩ := h1.at_
  refine (promise_any e h3 (fun q => by cases q) h2 he).mono fun r w' hc => ?_
  obtain ⟨x, d', La', Lb', lv', k', met', Z', rfl, hr, hw, hg⟩ := h1.did h4 h3 hc
  rcases hr with ⟨_, rfl, rfl, rfl, rfl, rfl, rfl, rfl⟩ | ⟨h5, _⟩
  · exact ⟨rfl, Z', ⟨_, _, _, hw, h2, h0⟩, hg⟩
  · cases h5
theorem Sv.kept (h : Sv w0 w Z gs gd d p k N) : Calls Tryz.prog 44 #[.pointer (some ⟨gs, 0, none⟩)] w (KeptPost k w) := by
  obtain ⟨La, Lb, lv, h1, h2⟩ := h
  obtain ⟨ga, gb, X, Ya, Yb, V, h3, h4⟩ := h1.at_
  exact kept_any h3 h2.fine
theorem SvX.kept (h : SvX w0 w Z gs gd d p k) : Calls Tryz.prog 44 #[.pointer (some ⟨gs, 0, none⟩)] w (KeptPost k w) := by
  obtain ⟨La, Lb, lv, h1, h2, _⟩ := h
  obtain ⟨ga, gb, X, Ya, Yb, V, h3, h4⟩ := h1.at_
  exact kept_any h3 h2
theorem Sv.dead (h : Sv w0 w Z gs gd d p k N) : Calls Tryz.prog 20 #[.pointer (some ⟨gs, 0, none⟩)] w fun e w' => e = .returned (.bool false) ∧ w = w' := by
  have h0 := h.on
  obtain ⟨La, Lb, lv, h1, h2⟩ := h
  obtain ⟨ga, gb, X, Ya, Yb, V, h3, h4⟩ := h1.at_
  have := sdead_any h3
  rwa [h0] at this
theorem SvX.dead (h : SvX w0 w Z gs gd d p k) : Calls Tryz.prog 20 #[.pointer (some ⟨gs, 0, none⟩)] w fun e w' => e = .returned (.bool true) ∧ w = w' := by
  obtain ⟨La, Lb, lv, h1, h2, _⟩ := h
  obtain ⟨ga, gb, X, Ya, Yb, V, h3, h4⟩ := h1.at_
  have := sdead_any h3
  rwa [Bool.true_or] at this
end
end Go.Proofs.YtiijclibcfgnpaaGreat.Sto

namespace Go.Proofs.YtiijclibcfgnpaaGreat.Sto
open Go.RowKit Disk Log

theorem reads_len {p : Nat} {k : Kp} {rs : List Rec} {k' : Kp} (h : Reads p k rs k') (hp : p ≤ 4096) : ∀ r ∈ rs, r.text.length ≤ 3000000 := by
  induction h with
  | nil => intro r hr; cases hr
  | cons hm hf _ ih =>
    intro r hr
    rcases List.mem_cons.1 hr with rfl | hr
    · cases r with
      | whole a =>
        have := whole_len a
        have hf : need a ≤ 480 * (p - 1) := of_decide_eq_true hf
        show (wholeT a).length ≤ _
        omega
      | deed D =>
        have := deed_len (show D.may _ = true from hm)
        show D.text.length ≤ _
        omega
    · exact ih r hr
theorem Area.kl {d : DK} {f p N : Nat} {k : Kp} (h : Area d f p N k) (hr : d.row = []) : KL d f p (newL d f p) ∧ (newL d f p).top ≤ N := by
  obtain ⟨rs, e, hrd⟩ := h.recs
  have hin := h.up.in_
  have hm := h.up.ok.many
  refine ⟨⟨⟨h.up.ok, h.up.on, h.up.two, h.up.in_, newest_low h.up.low.ok h.up.low.calm⟩, rfl, rfl, hr, fun b hb => ?_⟩, newest_le h.up.low⟩
  have hb : b ∈ (Recs (Log.part (now d) f p)).2.1 := hb
  rw [e] at hb
  obtain ⟨r, hr, rfl⟩ := List.mem_map.1 hb
  exact reads_len hrd (by omega) r hr
def OpenP (w0 : World) (X : Nat → Prop) (gd : Nat) (d : DK) (p : Nat) (k : Kp) (N : Nat) (w : World) (e : Ending) (w' : World) : Prop :=
  ∃ gs Z, e = .returned (.tuple #[.pointer (some ⟨gs, 0, none⟩), .int .i64 0]) ∧ Sv w0 w' Z gs gd d p k N ∧ Below w.heap.size w w' ∧ (∀ b, Z b → X b ∨ w.heap.size ≤ b) ∧ ∀ b, X b → Z b
theorem open_sv {w0 w : World} {X : Nat → Prop} {gd : Nat} {d : DK} {p N : Nat} {k : Kp} (hs : St w0 w X gd d) (hr : Rests d p N (· = k)) (hN : N < 65536) : Calls Tryz.prog 13 #[.pointer (some ⟨gd, 0, none⟩)] w (OpenP w0 X gd d p k N w) := by
  obtain ⟨h1, h2, a, b, q1, q2, q3⟩ := hr
  obtain ⟨ka, ta⟩ := q1.kl h2
  obtain ⟨kb, tb⟩ := q2.kl h2
  have hor : Later b a ∨ Later a b ∨ (a = Kp.zero ∧ b = Kp.zero) := by
    rcases q3 with ⟨q, _⟩ | ⟨_, q | q, _⟩
    · exact .inr (.inl q)
    · exact .inl q
    · exact .inr (.inr q)
  refine (sopen_any hs.at_ q1.up.on h1.1 h1.2 q1 q2 h2 hN hor).mono ?_
  rintro e w' ⟨gs, rfl, hb, hgs, Ya, Yb, V, ga, gb, ⟨o1, o2⟩, hge⟩
  have key : ∀ {La Lb : LK} {lv : Bool}, SvM w' X Ya Yb V gs gd ga gb d p La Lb lv k false → SvK d p La Lb lv k N → OpenP w0 X gd d p k N w (.returned (.tuple #[.pointer (some ⟨gs, 0, none⟩), .int .i64 0])) w' := fun hm hk => by
    have hz : ∀ j, (X j ∨ Ya j ∨ Yb j ∨ V j ∨ j = gs) → X j ∨ w.heap.size ≤ j := fun j hj => by
      rcases hj with q | q | q | q | q
      · exact .inl q
      · exact .inr (hge j (.inl q))
      · exact .inr (hge j (.inr (.inl q)))
      · exact .inr (hge j (.inr (.inr q)))
      · exact .inr (by omega)
    exact ⟨gs, fun j => X j ∨ Ya j ∨ Yb j ∨ V j ∨ j = gs, rfl, ⟨_, _, _, ⟨⟨ga, gb, X, Ya, Yb, V, hm, fun _ h => h⟩, hs.below.trans (hb.mono hs.below.size), fun j hj => (hz j hj).elim (hs.own j) fun q => Nat.le_trans hs.below.size q, hm.lt⟩, hk⟩, hb, hz, fun j hj => .inl hj⟩
  rcases q3 with ⟨q, rfl⟩ | ⟨q, r, rfl⟩
  · exact key (o1 q) ⟨h1, kb, ka, q2.at_ kb.up, ⟨a, q1.at_ ka.up, .inl q⟩, tb, ta⟩
  · refine key (o2 q) ⟨h1, ka, kb, q1.at_ ka.up, ⟨b, q2.at_ kb.up, ?_⟩, ta, tb⟩
    rcases r with r | ⟨r1, r2⟩
    · exact .inl r
    · exact .inr ⟨r2, r1⟩
theorem part_new {n f p : Nat} (h : f + p ≤ n) : Log.part (now (DK.new n)) f p = List.replicate p (List.replicate 512 0) := by
  have : now (DK.new n) = List.replicate n (List.replicate 512 0) := now_none rfl
  rw [this]
  unfold Log.part
  rw [List.drop_replicate, List.take_replicate]
  congr 1
  omega
theorem area_new {n f p : Nat} (h2 : 2 ≤ p) (hn : f + p ≤ n) (h4 : n ≤ 4096) (h1 : 1 ≤ n) : Area (DK.new n) f p 0 Kp.zero := by
  have hok : Ok (DK.new n) := (kl_new (n := n) (by omega) h4).up.ok
  refine ⟨⟨hok, rfl, h2, by show f + p ≤ (List.replicate _ _).length; rw [List.length_replicate]; exact hn, by rw [part_new hn]; exact low_new p⟩, ?_, [], by rw [part_new hn, recs_new]; rfl, .nil _⟩
  rw [part_new hn]
  intro j hj
  have : pg (List.replicate p (List.replicate 512 (0 : UInt8))) j = List.replicate 512 0 := by
    unfold pg
    rw [List.getD_eq_getElem?_getD, List.getElem?_replicate, if_pos (by rw [List.length_replicate] at hj; exact hj)]
    rfl
  rw [this]
  exact tame_zero
theorem rests_new {n : Nat} (h8 : 8 ≤ n) (h4 : n ≤ 4096) : Rests (DK.new n) (n / 2) 0 (· = Kp.zero) :=
  ⟨⟨by show (List.replicate _ _).length / 2 = _; rw [List.length_replicate], by omega⟩, rfl, Kp.zero, Kp.zero, area_new (by omega) (by omega) h4 (by omega), area_new (by omega) (by omega) h4 (by omega), .inr ⟨fun h => h.not h, .inr ⟨rfl, rfl⟩, rfl⟩⟩
theorem Area.same {d d' : DK} {f p N : Nat} {k : Kp} (h : Area d f p N k) (ho : Ok d') (hd : d'.dead = false) (hp : d'.pages = d.pages) (h1 : d.row = []) (h2 : d'.row = []) : Area d' f p N k :=
  h.side ho hd (by rw [hp]) (by rw [now_none h1, now_none h2, hp])
theorem Rests.same {d d' : DK} {p N : Nat} {S : Kp → Prop} (h : Rests d p N S) (ho : Ok d') (hd : d'.dead = false) (hp : d'.pages = d.pages) (h2 : d'.row = []) : Rests d' p N S := by
  obtain ⟨q1, q2, a, b, q3, q4, q5⟩ := h
  exact ⟨by rw [hp]; exact q1, h2, a, b, q3.same ho hd hp q2 h2, q4.same ho hd hp q2 h2, q5⟩
theorem Rests.ok {d : DK} {p N : Nat} {S : Kp → Prop} (h : Rests d p N S) : Ok d := by
  obtain ⟨_, _, a, b, q3, _⟩ := h
  exact q3.up.ok
theorem Rests.again {d : DK} {p N : Nat} {S : Kp → Prop} (h : Rests d p N S) (fates : List Int) : Rests (d.restart fates) p N S :=
  h.same (h.ok.restart fates) rfl (by show lay (takes fates) 0 d.pages d.row = d.pages; rw [h.row]; rfl) rfl
end Go.Proofs.YtiijclibcfgnpaaGreat.Sto
