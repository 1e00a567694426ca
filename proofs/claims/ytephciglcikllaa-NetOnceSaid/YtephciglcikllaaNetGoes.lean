/- The laws' own: letter, goes. -/
import Derived.Test.YtephciglcikllaaNetCode9
import Derived.Test.YtephciglcikllaaNetCodeD
import Derived.Test.YtephciglcikllaaStrBytes
namespace Go.Proofs.Ytephciglcikllaa.Net
open Go.RowKit Disk Zab Sto

/-- A net of one's own since w0. -/
structure Sn (w0 w : World) (O : Nat → Prop) (gz : Nat) (z : Nt) (N : Nat) : Prop where
  nt : NtAt w0 w O gz z N
  bl : Below w0.heap.size w0 w
section
variable {w0 w w' : World} {O O' : Nat → Prop} {gz : Nat} {z y : Nt} {N M : Nat}
theorem Sn.later (h : Sn w0 w O gz z N) (hb : Below w.heap.size w w') : Sn w0 w' O gz z N := ⟨h.nt.below hb, h.bl.trans (hb.mono h.bl.size)⟩
theorem Sn.next (h : Sn w0 w O gz z N) (k : NtAt w0 w' O' gz y M) (hg : Go_ O O' w w') : Sn w0 w' O' gz y M := ⟨k, hg.1.below h.bl (fun b hb => (h.nt.low b hb).1) h.bl.size⟩
theorem Sn.mono (h : Sn w0 w O gz z N) (hm : N ≤ M) : Sn w0 w O gz z M := ⟨h.nt.mono hm, h.bl⟩
/-- What a call that answers v comes to. -/
def DoneS (w0 : World) (O : Nat → Prop) (gz : Nat) (v : Value) (z : Nt) (N : Nat) (w : World) (e : Ending) (w' : World) : Prop :=
  ∃ O', e = .returned v ∧ Sn w0 w' O' gz z N ∧ Go_ O O' w w'
theorem Sn.send (h : Sn w0 w O gz z N) {l : Lt} {B : Option Addr} {m c : Nat} (hr : Rd w B m l.bs) (hmc : m ≤ c) (hm64 : m ≤ 140737488355328) : Calls Try.prog 22 #[.pointer (some ⟨gz, 0, none⟩), ltV l (.slice B m c)] w (DoneS w0 O gz (.int .i64 (z.send l).2) (z.send l).1 N w) :=
  (Send_any h.nt hr hmc hm64).mono fun _ _ ⟨O', h1, h2, h3⟩ => ⟨O', h1, h.next h2 h3, h3⟩
theorem Sn.drop (h : Sn w0 w O gz z N) (i : Int) : Calls Try.prog 28 #[.pointer (some ⟨gz, 0, none⟩), .int .i64 i] w (DoneS w0 O gz (.int .i64 (z.drop i).2) (z.drop i).1 N w) :=
  (Drop_any h.nt i).mono fun _ _ ⟨O', h1, h2, h3⟩ => ⟨O', h1, h.next h2 h3, h3⟩
theorem Sn.double (h : Sn w0 w O gz z N) (i : Int) : Calls Try.prog 27 #[.pointer (some ⟨gz, 0, none⟩), .int .i64 i] w (DoneS w0 O gz (.int .i64 (z.double i).2) (z.double i).1 N w) :=
  (Double_any h.nt i).mono fun _ _ ⟨O', h1, h2, h3⟩ => ⟨O', h1, h.next h2 h3, h3⟩
theorem Sn.hold (h : Sn w0 w O gz z N) (i : Int) : Calls Try.prog 29 #[.pointer (some ⟨gz, 0, none⟩), .int .i64 i] w (DoneS w0 O gz (.int .i64 (z.hold i).2) (z.hold i).1 N w) :=
  (Hold_any h.nt i).mono fun _ _ ⟨O', h1, h2, h3⟩ => ⟨O', h1, h.next h2 h3, h3⟩
theorem Sn.cut (h : Sn w0 w O gz z N) (hN : N < 1000000) (a b : Ad) : Calls Try.prog 23 #[.pointer (some ⟨gz, 0, none⟩), adV a, adV b] w (DoneS w0 O gz (.int .i64 (z.turn a b true).2) (z.turn a b true).1 (N + 1) w) :=
  (Cut_any h.nt hN a b).mono fun _ _ ⟨O', h1, h2, h3⟩ => ⟨O', h1, h.next h2 h3, h3⟩
theorem Sn.heal (h : Sn w0 w O gz z N) (hN : N < 1000000) (a b : Ad) : Calls Try.prog 25 #[.pointer (some ⟨gz, 0, none⟩), adV a, adV b] w (DoneS w0 O gz (.int .i64 (z.turn a b false).2) (z.turn a b false).1 (N + 1) w) :=
  (Heal_any h.nt hN a b).mono fun _ _ ⟨O', h1, h2, h3⟩ => ⟨O', h1, h.next h2 h3, h3⟩
/-- What Take comes to: the bytes are none of the net's. -/
def TookS (w0 : World) (O : Nat → Prop) (gz : Nat) (r : Nt × Lt × Int) (N : Nat) (w : World) (e : Ending) (w' : World) : Prop :=
  ∃ O' B m k, e = .returned (.tuple #[ltV r.2.1 (.slice B m k), .int .i64 r.2.2]) ∧ m ≤ k ∧ Rd w' B m r.2.1.bs ∧ (∀ a, B = some a → w.heap.size ≤ a.block ∧ ¬ O' a.block) ∧ Sn w0 w' O' gz r.1 N ∧ Go_ O O' w w'
theorem Sn.take (h : Sn w0 w O gz z N) (i : Int) : Calls Try.prog 24 #[.pointer (some ⟨gz, 0, none⟩), .int .i64 i] w (TookS w0 O gz (z.take i) N w) :=
  (Take_any h.nt i).mono fun _ _ ⟨O', B, m, k, h1, h2, h3, h4, h5, h6⟩ => ⟨O', B, m, k, h1, h2, h3, h4, h.next h5 h6, h6⟩
end
/-- New by a literal row of numbers. -/
def NewS (zs : List Int) (w : World) (e : Ending) (w' : World) : Prop := ∃ g O, e = .returned (.tuple #[.pointer (some ⟨g, 0, none⟩), .int .i64 0]) ∧ Sn w w' O g (Nt.new zs) 0
theorem new_lit (zs : List Int) (hz : sizesOk zs = true) (w : World) : Calls Try.prog 9 #[.slice (some ⟨w.heap.size, 0, none⟩) zs.length zs.length] (w.alloc (.cells (iv zs).toArray 3)) (NewS zs (w.alloc (.cells (iv zs).toArray 3))) := by
  have hr : RdV (w.alloc (.cells (iv zs).toArray 3)) (some ⟨w.heap.size, 0, none⟩) zs.length (iv zs) := ⟨by simp [iv], fun _ => ⟨_, rfl, fun j v hj => by
    rw [plus_add]
    have := (Bk.new w 3 (iv zs).toArray).cell j
    rw [this]
    simpa using hj⟩⟩
  have hl := (sizesOk_iff.1 hz).2.1
  refine (New_any zs _ zs.length zs.length _ hr (by omega)).mono fun e w' ⟨hb, h⟩ => ?_
  rcases h with ⟨h1, _⟩ | ⟨_, g, O, h2, h3⟩
  · rw [hz] at h1; cases h1
  · exact ⟨g, O, h2, h3, hb⟩
/-- A letter that is made. -/
def MadeP (l : Lt) (w : World) (e : Ending) (w' : World) : Prop := ∃ B m k, e = .returned (ltV l (.slice B m k)) ∧ m ≤ k ∧ m = l.bs.length ∧ Rd w' B m l.bs ∧ (∀ a, B = some a → w.heap.size ≤ a.block ∧ a.block < w'.heap.size) ∧ Below w.heap.size w w'
set_option maxRecDepth 8000 in
theorem letter_any (a b c d : Int) (bs : List UInt8) (w : World) : Calls Try.prog 26 #[.int .i64 a, .int .i64 b, .int .i64 c, .int .i64 d, .string (S bs)] w (MadeP ⟨⟨a, b⟩, ⟨c, d⟩, bs⟩ w) := by
  have hB : Below w.heap.size w (w.alloc (.cells ltZ 37)) := (Below.refl _ _).alloc (Nat.le_refl _) _
  obtain ⟨cap, WB, hcv, hcap, hr, hb, hsz⟩ := str_bytes bs (w.alloc (.cells ltZ 37))
  have hbk : Bk WB w.heap.size 37 ltZ := (Bk.new w 37 ltZ).below hb
  have HBK := Lib.hid hbk
  have HX := Lib.hid (And.intro hcap (And.intro hr (And.intro (hB.trans (hb.mono hB.size)) hsz)))
  obtain ⟨sp, hsp⟩ : ∃ sp, sp = S bs := ⟨_, rfl⟩
  rw [← hsp] at hcv ⊢
  have kb := hbk.frozen
  have kf0 := kb 0
  have kf1 := kb 1
  have kf2 := kb 2
  have kf3 := kb 3
  have kf4 := kb 4
  obtain ⟨k0, k1, k2, k3, k4⟩ := bk_cells5 hbk
  clear hB hcap hr hb hsz hbk kb hsp
  unfold ltZ at hcv
  simp only [World.size_alloc] at hcv
  go_enter Try.func26, Try.ntmps26
  go_wp2_with fail
  have hb5 := bk_set5 HBK.out (.int .i64 a) (.int .i64 b) (.int .i64 c) (.int .i64 d) (.slice (some ⟨w.heap.size + 1, 0, none⟩) bs.length cap)
  obtain ⟨hcap, hr, hb, hsz⟩ := HX.out
  simp only [World.size_alloc] at hr hsz
  refine bodyPost_ret (results_cell_row rfl _ _ w.heap.size 37 _ (0, 0) _ rfl hb5 Try.underlying37 rfl size_letter) rfl ⟨_, _, _, rfl, hcap, rfl, rd_out hr (out_set5 _ _ _ _ _ _ _) (fun x hx h0 => ?_), fun x hx => ?_, below_set5 hb (Nat.le_refl _) _ _ _ _ _⟩
  · injection hx with hx
    subst hx
    show w.heap.size + 1 ≠ w.heap.size
    omega
  · injection hx with hx
    subst hx
    refine ⟨Nat.le_succ _, ?_⟩
    have := (out_set5 WB w.heap.size (.int .i64 a) (.int .i64 b) (.int .i64 c) (.int .i64 d) (.slice (some ⟨w.heap.size + 1, 0, none⟩) bs.length cap)).size
    refine Nat.lt_of_lt_of_le ?_ this
    show w.heap.size + 1 < _
    omega
end Go.Proofs.Ytephciglcikllaa.Net
