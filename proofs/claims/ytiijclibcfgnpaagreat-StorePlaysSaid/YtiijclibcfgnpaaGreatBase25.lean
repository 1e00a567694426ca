/- Lemmas, part 25: StoHelp, StoKeeps, PhaseFreeC -/
import Derived.Test.YtiijclibcfgnpaaGreatBase24
import Derived.Lib.ConvBytes
import Derived.Lib.SlBytesConst
import Derived.WalkSpells
import Derived.Test.YtiijclibcfgnpaaGreatBase8
namespace Go.Proofs.YtiijclibcfgnpaaGreat.Sto
open Go.RowKit Disk Log

theorem string_bytes (bs : List UInt8) (w : World) : ∃ cap WB, (convert 9 54 (.string (S bs))).run Tryz.prog w = .ok (.slice (some ⟨w.heap.size, 0, none⟩) bs.length cap) WB ∧ bs.length ≤ cap ∧ Rd WB (some ⟨w.heap.size, 0, none⟩) bs.length bs ∧ Below w.heap.size w WB ∧ WB.heap.size = w.heap.size + 1 := by
  have hsz : (S bs).size = bs.length := by simp [S, ByteArray.size]
  have h := Lib.run_convert_string_bytes (P := Tryz.prog) w 9 54 5 (S bs) ty_string ty_bytes ty_byte
  rw [hsz] at h
  refine ⟨_, _, h, grownCap_ge w _ _ _, ⟨rfl, fun _ => ⟨_, rfl, fun j b hb => ?_⟩⟩, ⟨rfl, rfl, rfl, ?_, fun k hk => Lib.bytesWorld_at_old w _ _ k hk⟩, Lib.bytesWorld_size w _ _⟩
  · have hj : j < (S bs).size := by rw [hsz]; exact (List.getElem?_eq_some_iff.1 hb).1
    have hadd : ((⟨w.heap.size, 0, none⟩ : Addr).add j) = ⟨w.heap.size, j, none⟩ := by unfold Addr.add; split <;> simp_all
    rw [hadd, Lib.bytesWorld_cell w _ _ j hj]
    have : (S bs).data.toList.getD j 0 = b := by
      show bs.toArray.toList.getD j 0 = b
      rw [List.getD_eq_getElem?_getD, hb]
      rfl
    rw [this]
    rfl
  · rw [Lib.bytesWorld_size]
    omega
def LineP (e : Nat) (bs : List UInt8) (w : World) (r : Ending) (w' : World) : Prop :=
  ∃ g, r = .returned (.slice (some ⟨g, 0, none⟩) 1 1) ∧ LnS (fun b => w.heap.size ≤ b ∧ b < w'.heap.size) w' (some ⟨g, 0, none⟩) 1 [⟨e, bs⟩] ∧ Below w.heap.size w w'
theorem lns_one {w' : World} {e : Nat} {bs : List UInt8} {g n c : Nat} {A : Option Addr} {t : TypeId} (P : Nat → Prop) (hb : Bk w' g t #[.int .u64 (e : Int), .slice A n c]) (hc : n ≤ c) (hr : Rd w' A n bs) (hg : P g) (hA : ∀ a, A = some a → P a.block) : LnS P w' (some ⟨g, 0, none⟩) 1 [⟨e, bs⟩] :=
  ⟨rfl, fun j x hj => by
    have hj0 : j = 0 := by have := (List.getElem?_eq_some_iff.1 hj).1; simpa using this
    subst hj0
    simp at hj
    subst hj
    exact ⟨g, 0, A, n, c, rfl, hg, hb.cell 0, hb.cell 1, hc, hr, fun a ha _ => hA a ha⟩⟩
set_option maxRecDepth 8000 in
theorem line_any (e : Nat) (bs : List UInt8) (w : World) : Calls Tryz.prog 54 #[.int .u64 (e : Int), .string (S bs)] w (LineP e bs w) := by
  obtain ⟨cap, WB, hcv, hcap, hr, hb, hsz⟩ := string_bytes bs w
  have hb2 : Below w.heap.size w (WB.alloc (.cells #[.int .u64 (e : Int), .slice (some ⟨w.heap.size, 0, none⟩) bs.length cap] 80)) := hb.alloc hb.size _
  have HF : Hid (LineP e bs w (.returned (.slice (some ⟨WB.heap.size, 0, none⟩) 1 1)) (WB.alloc (.cells #[.int .u64 (e : Int), .slice (some ⟨w.heap.size, 0, none⟩) bs.length cap] 80))) :=
    ⟨WB.heap.size, rfl, lns_one _ (Bk.new WB _ _) hcap (hr.below ((Below.refl _ _).alloc (Nat.le_refl _) _)) ⟨hb.size, by simp⟩ (fun a ha => by injection ha with ha; subst ha; exact ⟨Nat.le_refl _, by rw [World.size_alloc, hsz]; show w.heap.size < _; omega⟩), hb2⟩
  obtain ⟨sp, hsp⟩ : ∃ sp, sp = S bs := ⟨_, rfl⟩
  rw [← hsp] at hcv ⊢
  clear hcap hr hb hsz hb2 hsp
  go_enter Tryz.func54, Tryz.ntmps54
  go_wp2_with fail
  go_ret
  exact HF.out
def Ss (w0 w : World) (Z : Nat → Prop) (gs gd n : Nat) (k : Kp) (N : Nat) : Prop := ∃ d, Sv w0 w Z gs gd d (n / 2) k N ∧ d.left < 0 ∧ d.pages.length = n
def SsTo (v : Value) (w0 : World) (Z : Nat → Prop) (gs gd n : Nat) (k : Kp) (N : Nat) (w : World) (e : Ending) (w' : World) : Prop := e = .returned v ∧ ∃ Z', Ss w0 w' Z' gs gd n k N ∧ Grow Z Z' w w'
section
variable {w0 w w' : World} {Z P : Nat → Prop} {gs gd n : Nat} {k : Kp} {N : Nat} {D : Deed}
theorem Ss.below_ (h : Ss w0 w Z gs gd n k N) (hb : Below w.heap.size w w') : Ss w0 w' Z gs gd n k N := by
  obtain ⟨d, h1, h2⟩ := h
  exact ⟨d, h1.below_ hb, h2⟩
theorem Ss.below (h : Ss w0 w Z gs gd n k N) : Below w0.heap.size w0 w := by obtain ⟨_, h, _⟩ := h; exact h.below
theorem Ss.own (h : Ss w0 w Z gs gd n k N) : ∀ b, Z b → w0.heap.size ≤ b := by obtain ⟨_, h, _⟩ := h; exact h.own
theorem Ss.lt (h : Ss w0 w Z gs gd n k N) : ∀ b, Z b → b < w.heap.size := by obtain ⟨_, h, _⟩ := h; exact h.lt
theorem Ss.fine (h : Ss w0 w Z gs gd n k N) : Fine k := by obtain ⟨_, h, _⟩ := h; exact h.fine
theorem Ss.mono {M : Nat} (h : Ss w0 w Z gs gd n k N) (hm : N ≤ M) : Ss w0 w Z gs gd n k M := by
  obtain ⟨d, h1, h2⟩ := h
  exact ⟨d, h1.mono hm, h2⟩
def ans (D : Deed) (k : Kp) (p : Nat) : Int := if D.may k = true then (if fits (D.run k) p = true then 0 else 4) else 1
def thn (D : Deed) (k : Kp) (p : Nat) : Kp := if D.may k = true ∧ fits (D.run k) p = true then D.run k else k
theorem ss_after {x : Int} {d : DK} {e : Ending} (hl : d.left < 0) (hn : d.pages.length = n) (he : e = .returned (.int .i64 x)) (h : AfterP w0 Z gs gd d (n / 2) k N D x w w') : SsTo (.int .i64 (ans D k (n / 2))) w0 Z gs gd n (thn D k (n / 2)) (N + 4) w e w' := by
  obtain ⟨Z', hg, h⟩ := h
  unfold ans thn
  rcases h with ⟨rfl, h1, h2⟩ | ⟨rfl, h1, h2, h3⟩ | ⟨rfl, h1, h2, d', h3, h4, h5⟩ | ⟨rfl, h1, h2, h3, _⟩
  · exact ⟨by rw [he, h1]; rfl, Z', by rw [h1, if_neg (by simp)]; exact ⟨d, h2.mono (by omega), hl, hn⟩, hg⟩
  · exact ⟨by rw [he, h1, h2]; rfl, Z', by rw [h2, if_neg (by simp)]; exact ⟨d, h3.mono (by omega), hl, hn⟩, hg⟩
  · exact ⟨by rw [he, h1, h2]; rfl, Z', by rw [h1, h2, if_pos ⟨rfl, rfl⟩]; exact ⟨d', h3, by rw [h5 hl]; exact hl, by rw [h4]; exact hn⟩, hg⟩
  · omega
theorem Ss.promise (h : Ss w0 w Z gs gd n k N) (hN : N + 4 < 65536) (e : Nat) (he : e < 18446744073709551616) :
    Calls Tryz.prog 48 #[.pointer (some ⟨gs, 0, none⟩), .int .u64 (e : Int)] w (SsTo (.int .i64 (ans (.prom e) k (n / 2))) w0 Z gs gd n (thn (.prom e) k (n / 2)) (N + 4) w) := by
  obtain ⟨d, h1, h2, h3⟩ := h
  exact (h1.promise hN e he).mono fun _ _ ⟨x, hx, ha⟩ => ss_after h2 h3 hx ha
theorem Ss.adopt (h : Ss w0 w Z gs gd n k N) (hN : N + 4 < 65536) (e : Nat) (l : List Ln) (he : e < 18446744073709551616) (A : Option Addr) (m c : Nat) (hl : LnS P w A m l) (hs : Laid l) (hP : ∀ b, P b → ¬ Z b ∧ b < w.heap.size) :
    Calls Tryz.prog 53 #[.pointer (some ⟨gs, 0, none⟩), .int .u64 (e : Int), .slice A m c] w (SsTo (.int .i64 (ans (.adopt e l) k (n / 2))) w0 Z gs gd n (thn (.adopt e l) k (n / 2)) (N + 4) w) := by
  obtain ⟨d, h1, h2, h3⟩ := h
  have hm := hl.len
  subst hm
  exact (h1.adopt hN e l he A c hl hs hP).mono fun _ _ ⟨x, hx, ha⟩ => ss_after h2 h3 hx ha
theorem Ss.append (h : Ss w0 w Z gs gd n k N) (hN : N + 4 < 65536) (l : List Ln) (A : Option Addr) (m c : Nat) (hl : LnS P w A m l) (hs : Laid l) (hP : ∀ b, P b → ¬ Z b ∧ b < w.heap.size) :
    Calls Tryz.prog 55 #[.pointer (some ⟨gs, 0, none⟩), .slice A m c] w (SsTo (.int .i64 (ans (.add l) k (n / 2))) w0 Z gs gd n (thn (.add l) k (n / 2)) (N + 4) w) := by
  obtain ⟨d, h1, h2, h3⟩ := h
  have hm := hl.len
  subst hm
  exact (h1.append hN l A c hl hs hP).mono fun _ _ ⟨x, hx, ha⟩ => ss_after h2 h3 hx ha
theorem Ss.kept (h : Ss w0 w Z gs gd n k N) : Calls Tryz.prog 44 #[.pointer (some ⟨gs, 0, none⟩)] w (KeptPost k w) := by obtain ⟨d, h, _⟩ := h; exact h.kept
theorem Ss.dead (h : Ss w0 w Z gs gd n k N) : Calls Tryz.prog 20 #[.pointer (some ⟨gs, 0, none⟩)] w fun e w' => e = .returned (.bool false) ∧ w = w' := by obtain ⟨d, h, _⟩ := h; exact h.dead
def Ds (w0 w : World) (X : Nat → Prop) (gd n : Nat) (k : Kp) (N : Nat) : Prop := ∃ d, St w0 w X gd d ∧ Rests d (n / 2) N (· = k) ∧ d.left < 0 ∧ d.pages.length = n
theorem Ss.disk (h : Ss w0 w Z gs gd n k N) : ∃ X, Ds w0 w X gd n k N ∧ ∀ b, X b → Z b := by
  obtain ⟨d, h1, h2, h3⟩ := h
  obtain ⟨X, q1, q2⟩ := h1.disk
  exact ⟨X, ⟨d, q1, h1.rests, h2, h3⟩, q2⟩
theorem Ds.below_ {X : Nat → Prop} (h : Ds w0 w X gd n k N) (hb : Below w.heap.size w w') : Ds w0 w' X gd n k N := by
  obtain ⟨d, h1, h2⟩ := h
  exact ⟨d, h1.below_ hb, h2⟩
theorem Ds.below {X : Nat → Prop} (h : Ds w0 w X gd n k N) : Below w0.heap.size w0 w := by obtain ⟨_, h, _⟩ := h; exact h.below
theorem Ds.own {X : Nat → Prop} (h : Ds w0 w X gd n k N) : ∀ b, X b → w0.heap.size ≤ b := by obtain ⟨_, h, _⟩ := h; exact h.own
def OpSs (w0 : World) (X : Nat → Prop) (gd n : Nat) (k : Kp) (N : Nat) (w : World) (e : Ending) (w' : World) : Prop :=
  ∃ gs Z, e = .returned (.tuple #[.pointer (some ⟨gs, 0, none⟩), .int .i64 0]) ∧ Ss w0 w' Z gs gd n k N ∧ Below w.heap.size w w' ∧ (∀ b, Z b → X b ∨ w.heap.size ≤ b) ∧ ∀ b, X b → Z b
theorem Ds.open_ {X : Nat → Prop} (h : Ds w0 w X gd n k N) (hN : N < 65536) : Calls Tryz.prog 13 #[.pointer (some ⟨gd, 0, none⟩)] w (OpSs w0 X gd n k N w) := by
  obtain ⟨d, h1, h2, h3, h4⟩ := h
  exact (open_sv h1 h2 hN).mono fun e w' ⟨gs, Z, he, hs, hb, hz1, hz2⟩ => ⟨gs, Z, he, ⟨d, hs, h3, h4⟩, hb, hz1, hz2⟩
theorem Ds.restart {X : Nat → Prop} (h : Ds w0 w X gd n k N) (A : Option Addr) (m c : Nat) (zs : List Int) (hr : RdI w A m zs) (hx : 0 < m → ∀ a, A = some a → ¬ X a.block) (hm : m ≤ 1000000) :
    Calls Tryz.prog 35 #[.pointer (some ⟨gd, 0, none⟩), .slice A m c] w fun e w' => e = .returned (.tuple #[]) ∧ ∃ X', Ds w0 w' X' gd n k N ∧ Grow X X' w w' := by
  obtain ⟨d, h1, h2, h3, h4⟩ := h
  refine (restart_st h1 A m c zs hr hx hm (by rw [h2.row]; exact Nat.zero_le _)).mono fun e w' ⟨he, X', q1, q2, q3⟩ => ⟨he, X', ⟨d.restart zs, q1, h2.again zs, by show (-1 : Int) < 0; decide, ?_⟩, q2, q3⟩
  show (lay (takes zs) 0 d.pages d.row).length = n
  rw [lay_length]
  exact h4
theorem ds_new {n : Nat} (h8 : 8 ≤ n) (h4 : n ≤ 4096) (hb : Below w0.heap.size w0 w) : Calls Tryz.prog 12 #[.int .i64 (n : Int)] w fun e w' => ∃ gd X, e = .returned (.tuple #[.pointer (some ⟨gd, 0, none⟩), .int .i64 0]) ∧ Ds w0 w' X gd n Kp.zero 0 ∧ (∀ b, X b → w.heap.size ≤ b) ∧ Below w.heap.size w w' :=
  (new_st n w0 w (by omega) h4 hb).mono fun e w' ⟨gd, X, he, h1, h2, h3⟩ => ⟨gd, X, he, ⟨DK.new n, h1, rests_new h8 h4, by show (-1 : Int) < 0; decide, by show (List.replicate _ _).length = _; rw [List.length_replicate]⟩, h2, h3⟩
end
end Go.Proofs.YtiijclibcfgnpaaGreat.Sto

namespace Go.Proofs.YtiijclibcfgnpaaGreat.Sto
open Go.RowKit Disk Log

theorem line_at {P : Nat → Prop} {w : World} {A : Option Addr} {n : Nat} {ls : List Ln} (h : LnS P w A n ls) {j : Nat} {x : Ln} (hj : ls[j]? = some x) : ∃ b o B m c, A = some ⟨b, o, none⟩ ∧ w.cell? ⟨b, o + j * 2, none⟩ = some (.int .u64 (x.epoch : Int)) ∧ w.cell? ⟨b, o + j * 2 + 1, none⟩ = some (.slice B m c) ∧ m ≤ c ∧ Rd w B m x.bytes := by
  obtain ⟨b, o, B, m, c, q1, _, q3, q4, q5, q6, _⟩ := h.at_ j x hj
  exact ⟨b, o, B, m, c, q1, q3, q4, q5, q6⟩
theorem apart_new {w0 w w' : World} {Z : Nat → Prop} {gs gd n : Nat} {k : Kp} {N : Nat} (h : Ss w0 w Z gs gd n k N) : ∀ b, (w.heap.size ≤ b ∧ b < w'.heap.size) → ¬ Z b ∧ b < w'.heap.size := fun b hb => ⟨fun q => by have := h.lt b q; omega, hb.2⟩
theorem laid_one {e : Nat} {bs : List UInt8} (he : e < 18446744073709551616) (hb : bs.length ≤ 100000000) : Laid [⟨e, bs⟩] := ⟨by simp, fun x hx => by rw [List.mem_singleton.1 hx]; exact ⟨hb, he⟩⟩
set_option maxRecDepth 100000 in
set_option maxHeartbeats 4000000 in
theorem keeps_any (w : World) : Calls Tryz.prog 14 #[] w fun e w' => e = .returned (.bool true) ∧ Below w.heap.size w w' := by
  have CN := Lib.hid (ds_new (w0 := w) (n := 16) (by decide) (by decide) (Below.refl w.heap.size w))
  have hcs := fun (W : World) (A : Option Addr) (n c : Nat) (bs : List UInt8) (h : Rd W A n bs) => conv_string h c
  have HCS := Lib.hid hcs
  clear hcs
  go_enter Tryz.func14, Tryz.ntmps14
  go_wp2_with fail
  refine CN.out.mono ?_
  rintro e w1 ⟨gd, X, rfl, hd, hx, hb⟩
  have CO := Lib.hid (hd.open_ (by decide))
  clear hd hx hb CN
  go_wp2_with fail
  refine CO.out.mono ?_
  rintro e w2 ⟨gs, Z2, rfl, hs, -, -, -⟩
  have HS2 := Lib.hid hs
  clear hs CO
  have C3 := HS2.out.promise (by decide) 3 (by decide)
  rw [show ans (.prom 3) Kp.zero (16 / 2) = 0 from by decide +kernel, show thn (.prom 3) Kp.zero (16 / 2) = (⟨3, 0, []⟩ : Kp) from by kernel_rfl] at C3
  have CC3 := Lib.hid C3
  clear C3
  go_wp2_with fail
  refine CC3.out.mono ?_
  rintro e w3 ⟨rfl, Z3, hs, -⟩
  have HS3 := Lib.hid hs
  clear hs CC3 HS2
  have C4 := HS3.out.promise (by decide) 3 (by decide)
  rw [show ans (.prom 3) (⟨3, 0, []⟩ : Kp) (16 / 2) = 1 from by decide +kernel, show thn (.prom 3) (⟨3, 0, []⟩ : Kp) (16 / 2) = (⟨3, 0, []⟩ : Kp) from by kernel_rfl] at C4
  have CC4 := Lib.hid C4
  clear C4
  go_wp2_with fail
  refine CC4.out.mono ?_
  rintro e w4 ⟨rfl, Z4, hs, -⟩
  have HS4 := Lib.hid hs
  clear hs CC4 HS3
  have C5 : Calls Tryz.prog 54 #[.int .u64 1, .string ⟨#[97]⟩] w4 (LineP 1 [97] w4) := line_any 1 [97] w4
  have CC5 := Lib.hid C5
  clear C5
  go_wp2_with fail
  refine CC5.out.mono ?_
  rintro e w5 ⟨g5, rfl, hl, hb⟩
  have HL5 := Lib.hid hl
  have HA5 := Lib.hid (apart_new (w' := w5) HS4.out)
  have HS5 := Lib.hid (HS4.out.below_ hb)
  clear hl hb CC5 HS4
  have C6 := HS5.out.adopt (by decide) 3 [⟨1, [97]⟩] (by decide) _ 1 1 HL5.out (laid_one (by decide) (by decide)) HA5.out
  rw [show ans (.adopt 3 [⟨1, [97]⟩]) (⟨3, 0, []⟩ : Kp) (16 / 2) = 0 from by decide +kernel, show thn (.adopt 3 [⟨1, [97]⟩]) (⟨3, 0, []⟩ : Kp) (16 / 2) = (⟨3, 3, [⟨1, [97]⟩]⟩ : Kp) from by kernel_rfl] at C6
  have CC6 := Lib.hid C6
  clear C6
  go_wp2_with fail
  refine CC6.out.mono ?_
  rintro e w6 ⟨rfl, Z6, hs, -⟩
  have HS6 := Lib.hid hs
  clear hs CC6 HS5
  have C7 : Calls Tryz.prog 54 #[.int .u64 1, .string ⟨#[98]⟩] w6 (LineP 1 [98] w6) := line_any 1 [98] w6
  have CC7 := Lib.hid C7
  clear C7
  go_wp2_with fail
  refine CC7.out.mono ?_
  rintro e w7 ⟨g7, rfl, hl, hb⟩
  have HL7 := Lib.hid hl
  have HA7 := Lib.hid (apart_new (w' := w7) HS6.out)
  have HS7 := Lib.hid (HS6.out.below_ hb)
  clear hl hb CC7 HS6
  have C8 := HS7.out.append (by decide) [⟨1, [98]⟩] _ 1 1 HL7.out (laid_one (by decide) (by decide)) HA7.out
  rw [show ans (.add [⟨1, [98]⟩]) (⟨3, 3, [⟨1, [97]⟩]⟩ : Kp) (16 / 2) = 1 from by decide +kernel, show thn (.add [⟨1, [98]⟩]) (⟨3, 3, [⟨1, [97]⟩]⟩ : Kp) (16 / 2) = (⟨3, 3, [⟨1, [97]⟩]⟩ : Kp) from by kernel_rfl] at C8
  have CC8 := Lib.hid C8
  clear C8
  go_wp2_with fail
  refine CC8.out.mono ?_
  rintro e w8 ⟨rfl, Z8, hs, -⟩
  have HS8 := Lib.hid hs
  clear hs CC8 HS7
  have C9 : Calls Tryz.prog 54 #[.int .u64 3, .string ⟨#[98]⟩] w8 (LineP 3 [98] w8) := line_any 3 [98] w8
  have CC9 := Lib.hid C9
  clear C9
  go_wp2_with fail
  refine CC9.out.mono ?_
  rintro e w9 ⟨g9, rfl, hl, hb⟩
  have HL9 := Lib.hid hl
  have HA9 := Lib.hid (apart_new (w' := w9) HS8.out)
  have HS9 := Lib.hid (HS8.out.below_ hb)
  clear hl hb CC9 HS8
  have C10 := HS9.out.append (by decide) [⟨3, [98]⟩] _ 1 1 HL9.out (laid_one (by decide) (by decide)) HA9.out
  rw [show ans (.add [⟨3, [98]⟩]) (⟨3, 3, [⟨1, [97]⟩]⟩ : Kp) (16 / 2) = 0 from by decide +kernel, show thn (.add [⟨3, [98]⟩]) (⟨3, 3, [⟨1, [97]⟩]⟩ : Kp) (16 / 2) = (⟨3, 3, [⟨1, [97]⟩, ⟨3, [98]⟩]⟩ : Kp) from by kernel_rfl] at C10
  have CC10 := Lib.hid C10
  clear C10
  go_wp2_with fail
  refine CC10.out.mono ?_
  rintro e w10 ⟨rfl, Z10, hs, -⟩
  have HS10 := Lib.hid hs
  clear hs CC10 HS9
  obtain ⟨X10, hd, -⟩ := HS10.out.disk
  have CR := Lib.hid (hd.restart none 0 0 [] (RdI.nil_ _ _) (fun h => absurd h (by decide)) (by decide))
  clear hd HS10
  go_wp2_with fail
  refine CR.out.mono ?_
  rintro e wr ⟨rfl, Xr, hd, -⟩
  have CO2 := Lib.hid (hd.open_ (by decide))
  clear hd CR
  go_wp2_with fail
  refine CO2.out.mono ?_
  rintro e wo ⟨gt, Zo, rfl, hs, -, -, -⟩
  have CK := Lib.hid hs.kept
  have HBO := Lib.hid hs.below
  clear hs CO2
  go_wp2_with fail
  refine CK.out.mono ?_
  rintro e wk ⟨A, c, rfl, hown, hb⟩
  have HBK := Lib.hid (HBO.out.trans (hb.mono HBO.out.size))
  have hln := hown.lns
  clear hown hb CK
  obtain ⟨W, hW⟩ : ∃ W, W = wk.alloc (.cells #[.int .u64 3, .int .u64 3, .slice A 2 c] 83) := ⟨_, rfl⟩
  have HBW : Hid (Below wk.heap.size wk W) := by show Below _ _ _; rw [hW]; exact (Below.refl _ _).alloc (Nat.le_refl _) _
  have HKB : Hid (Bk W wk.heap.size 83 #[.int .u64 3, .int .u64 3, .slice A 2 c]) := by show Bk _ _ _ _; rw [hW]; exact Bk.new wk _ _
  have hln2 := hln.below HBW.out
  obtain ⟨b, o, B, m, c1, rfl, l0, l1, l2, l3⟩ := line_at hln2 (j := 0) (x := ⟨1, [97]⟩) rfl
  obtain ⟨b', o', B', m', c1', e5, l5, -, -, -⟩ := line_at hln2 (j := 1) (x := ⟨3, [98]⟩) rfl
  have HWE := Lib.hid hW
  injection e5 with e5
  injection e5 with e5 e6
  subst e5 e6
  have hcv : (convert 54 9 (.slice B m c1)).run Tryz.prog W = .ok (.string ⟨#[97]⟩) W := HCS.out W _ _ c1 _ l3
  have l1 : W.cell? ⟨b, o + 1, none⟩ = some (.slice B m c1) := by simpa using l1
  have l5 : W.cell? ⟨b, o + 2, none⟩ = some (.int .u64 3) := by simpa using l5
  rw [HWE.out] at hcv l1 l5
  clear hln hln2 hW HCS l3 l0
  unfold kpV
  go_wp2_with fail
  rw [← HWE.out]
  go_ret
  exact ⟨rfl, HBK.out.trans (HBW.out.mono HBK.out.size)⟩
end Go.Proofs.YtiijclibcfgnpaaGreat.Sto

namespace Go.Proofs.YtiijclibcfgnpaaGreat.PhaseG
open Phase (any_in StepsL reachB Closed reach_listed)
open Go.RowKit

def laterB (l : List Oper) (f i d : Nat) : Bool := (List.range l.length).all fun k => match l[k]? with
  | some p => p.dst != some d || k == i || reachB l f k i
  | none => true
structure DepC (l : List Oper) (v : Nat → Value) (a0 : Act) (R : Nat → Value → World → Prop) (i : Nat) (o : Oper) (a : Act) (W : World) : Prop where
  dep : DepF l v a0 R o a W
  fresh : ∀ f d, laterB l f i d = true → a.tmps.getD d undef = a0.tmps.getD d undef
def StepC (P : Program) (Q : Exit → Act → World → Prop) (l : List Oper) (a0 : Act) (w : World) (R : Nat → Value → World → Prop) (i : Nat) (o : Oper) : Prop :=
  ∀ (a : Act) (v : Nat → Value) (W : World), DepC l v a0 R i o a W → Below w.heap.size w W → ∀ K : Act → World → Prop, (∀ x W', Below W.heap.size W W' → R i x W' → K (a.put o.dst x) W') → o.wp P a W K Q
section
variable {P : Program} {Q : Exit → Act → World → Prop}
theorem wp_region_freec {l : List Oper} {a0 : Act} {id : Nat} {w : World} (R : Nat → Value → World → Prop) (hm : P.follows .mixedOrders = true) (hok : okB l.toArray a0.tmps.size = true) (hng : (l.all fun o => o.guard.isNone) = true)
    (hR : ∀ k x W W', R k x W → Below w.heap.size w W → Below W.heap.size W W' → R k x W') (hsteps : StepsL (StepC P Q l a0 w R) 0 l) (F : (Nat → Value) → Act) (hF : ∀ v, final l.toArray v l.length a0 = F v)
    (hend : ∀ v W, Below w.heap.size w W → (∀ k, k < l.length → R k (v k) W) → Q .normal (F v) W) :
    (Code.region id l.toArray true).wp P Q a0 w := by
  refine wp_region_phased (v0 := fun _ => undef) (C := fun v listed W => Below w.heap.size w W ∧ listed.size = l.length ∧ (∀ k, k < l.length → listed.getD k false = true → R k (v k) W) ∧ Closed l listed) hm hok (fun v _ _ _ => guardsB_none (by simpa using hng) v) ⟨(Below.refl _ _).drew, by simp, (fun k _ h => by rw [getD_rep] at h; cases h), (fun x o _ h => by rw [getD_rep] at h; cases h)⟩ ?_ ?_
  · intro i o hi v listed a W hun hdeps hf hC K hK
    obtain ⟨hb, hsz, hr, hcl⟩ := hC
    have hil : l[i]? = some o := by simpa using hi
    have hlt : i < l.length := (List.getElem?_eq_some_iff.1 hil).1
    have hltl : i < listed.size := by omega
    have hD : DepF l v a0 R o a W := ⟨fun k p d hk hp hd => by
        obtain ⟨e, he, hek⟩ := any_in hk
        simp only [Bool.and_eq_true, beq_iff_eq] at hek
        have := hdeps e he hek.2
        rw [hek.1] at this
        exact ⟨hf.yes k p d (by simpa using hp) hd this, hr k (List.getElem?_eq_some_iff.1 hp).1 this⟩,
      fun d hd => hf.no d fun k p hk hp => by
        have hk' : l[k]? = some p := by simpa using hk
        have := List.all_eq_true.1 hd p (List.mem_of_getElem? hk')
        rw [hp] at this
        simp at this⟩
    have hS := StepsL.get hsteps hil
    rw [Nat.zero_add] at hS
    have hunf : listed.getD i false = false := by
      have : listed[i] = false := by simpa [hltl] using hun
      simp [hltl, this]
    refine hS a v W ⟨hD, fun f d hlt' => hf.no d fun k p hk hp => ?_⟩ hb K fun x W' hb' hx => ?_
    · have hk' : l[k]? = some p := by simpa using hk
      have h5 := List.all_eq_true.1 hlt' k (List.mem_range.2 (List.getElem?_eq_some_iff.1 hk').1)
      rw [hk'] at h5
      simp only [hp, bne_self_eq_false, Bool.false_or, Bool.or_eq_true, beq_iff_eq] at h5
      rcases h5 with h5 | h5
      · rw [h5]; exact hunf
      · cases hlk : listed.getD k false with
        | false => rfl
        | true =>
          have := reach_listed hcl f k i h5 (fun o' ho' e he hb' => hcl k o' ho' hlk e he hb')
          rw [hunf] at this
          cases this
    have hg : ∀ k, (listed.setIfInBounds i true).getD k false = if k = i then true else listed.getD k false := fun k => set_getD _ _ _ hltl
    have := hK (fun k => if k = i then x else v k) W' (fun k hk => by
      by_cases e : k = i
      · rw [e, hunf] at hk; cases hk
      · rw [if_neg e]) ⟨hb.trans (hb'.mono hb.size), by simpa using hsz, fun k hk hl => by
        rw [hg] at hl
        by_cases e : k = i
        · rw [if_pos e, e]
          exact hx
        · rw [if_neg e] at hl ⊢
          exact hR k _ W W' (hr k hk hl) hb hb', fun x o' ho' hx e he hb => by
        rw [hg] at hx ⊢
        by_cases hxi : x = i
        · subst hxi
          rw [hil] at ho'
          injection ho' with ho'
          subst ho'
          have := hdeps e he hb
          split
          · rfl
          · exact this
        · rw [if_neg hxi] at hx
          have := hcl x o' ho' hx e he hb
          split
          · rfl
          · exact this⟩
    rwa [if_pos rfl] at this
  · intro v listed W hall hC
    obtain ⟨hb, _, hr, _⟩ := hC
    have := hend v W hb fun k hk => hr k hk (hall k (by simpa using hk))
    rw [← hF v] at this
    simpa using this
end
end Go.Proofs.YtiijclibcfgnpaaGreat.PhaseG
