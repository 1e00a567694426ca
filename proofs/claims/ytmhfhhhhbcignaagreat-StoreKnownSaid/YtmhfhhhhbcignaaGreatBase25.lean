/- Lemmas, part 25: StoWakes, StoHelp, StoKeeps, StoNils, StoKill, StoKnown -/
import Derived.Test.YtmhfhhhhbcignaaGreatBase24
import Derived.Lib.ConvBytes
import Derived.Lib.SlBytesConst
import Derived.WalkSpells
import Derived.Deep.AppendSrc
import Derived.ArgAppend
namespace Go.Proofs.YtmhfhhhhbcignaaGreat.Sto
open Go.RowKit Disk Log

theorem reads_len {p : Nat} {k : Kp} {rs : List Rec} {k' : Kp} (h : Reads p k rs k') (hp : p ≤ 4096) : ∀ r ∈ rs, r.text.length ≤ 3000000 := by
  induction h with
  | nil => intro r hr; cases hr
  | cons hm hf _ ih =>
    intro r hr
    rcases List.mem_cons.1 hr with rfl | hr
    · cases r with
      | whole a =>
        have := whole_len a
        have hf : need a ≤ 480 * (p - 1) := of_decide_eq_true hf
        show (wholeT a).length ≤ _
        omega
      | deed D =>
        have := deed_len (show D.may _ = true from hm)
        show D.text.length ≤ _
        omega
    · exact ih r hr
theorem Area.kl {d : DK} {f p N : Nat} {k : Kp} (h : Area d f p N k) (hr : d.row = []) : KL d f p (newL d f p) ∧ (newL d f p).top ≤ N := by
  obtain ⟨rs, e, hrd⟩ := h.recs
  have hin := h.up.in_
  have hm := h.up.ok.many
  refine ⟨⟨⟨h.up.ok, h.up.on, h.up.two, h.up.in_, newest_low h.up.low.ok h.up.low.calm⟩, rfl, rfl, hr, fun b hb => ?_⟩, newest_le h.up.low⟩
  have hb : b ∈ (Recs (Log.part (now d) f p)).2.1 := hb
  rw [e] at hb
  obtain ⟨r, hr, rfl⟩ := List.mem_map.1 hb
  exact reads_len hrd (by omega) r hr
theorem Rests.fix {d : DK} {p N : Nat} {S : Kp → Prop} (h : Rests d p N S) : ∃ k, S k ∧ Rests d p N (· = k) := by
  obtain ⟨h1, h2, a, b, q1, q2, q3⟩ := h
  rcases q3 with ⟨q, s⟩ | ⟨q, r, s⟩
  · exact ⟨b, s, h1, h2, a, b, q1, q2, .inl ⟨q, rfl⟩⟩
  · exact ⟨a, s, h1, h2, a, b, q1, q2, .inr ⟨q, r, rfl⟩⟩
/-- What Open leaves: a store that keeps k. -/
def OpenP (w0 : World) (X : Nat → Prop) (gd : Nat) (d : DK) (p : Nat) (k : Kp) (N : Nat) (w : World) (e : Ending) (w' : World) : Prop :=
  ∃ gs Z, e = .returned (.tuple #[.pointer (some ⟨gs, 0, none⟩), .int .i64 0]) ∧ Sv w0 w' Z gs gd d p k N ∧ Below w.heap.size w w' ∧ (∀ b, Z b → X b ∨ w.heap.size ≤ b) ∧ ∀ b, X b → Z b
theorem open_sv {w0 w : World} {X : Nat → Prop} {gd : Nat} {d : DK} {p N : Nat} {k : Kp} (hs : St w0 w X gd d) (hr : Rests d p N (· = k)) (hN : N < 65536) : Calls Tryz.prog 11 #[.pointer (some ⟨gd, 0, none⟩)] w (OpenP w0 X gd d p k N w) := by
  obtain ⟨h1, h2, a, b, q1, q2, q3⟩ := hr
  obtain ⟨ka, ta⟩ := q1.kl h2
  obtain ⟨kb, tb⟩ := q2.kl h2
  have hor : Later b a ∨ Later a b ∨ (a = Kp.zero ∧ b = Kp.zero) := by
    rcases q3 with ⟨q, _⟩ | ⟨_, q | q, _⟩
    · exact .inr (.inl q)
    · exact .inl q
    · exact .inr (.inr q)
  refine (sopen_any hs.at_ q1.up.on h1.1 h1.2 q1 q2 h2 hN hor).mono ?_
  rintro e w' ⟨gs, rfl, hb, hgs, Ya, Yb, V, ga, gb, ⟨o1, o2⟩, hge⟩
  have key : ∀ {La Lb : LK} {lv : Bool}, SvM w' X Ya Yb V gs gd ga gb d p La Lb lv k false → SvK d p La Lb lv k N → OpenP w0 X gd d p k N w (.returned (.tuple #[.pointer (some ⟨gs, 0, none⟩), .int .i64 0])) w' := fun hm hk => by
    have hz : ∀ j, (X j ∨ Ya j ∨ Yb j ∨ V j ∨ j = gs) → X j ∨ w.heap.size ≤ j := fun j hj => by
      rcases hj with q | q | q | q | q
      · exact .inl q
      · exact .inr (hge j (.inl q))
      · exact .inr (hge j (.inr (.inl q)))
      · exact .inr (hge j (.inr (.inr q)))
      · exact .inr (by omega)
    exact ⟨gs, fun j => X j ∨ Ya j ∨ Yb j ∨ V j ∨ j = gs, rfl, ⟨_, _, _, ⟨⟨ga, gb, X, Ya, Yb, V, hm, fun _ h => h⟩, hs.below.trans (hb.mono hs.below.size), fun j hj => (hz j hj).elim (hs.own j) fun q => Nat.le_trans hs.below.size q, hm.lt⟩, hk⟩, hb, hz, fun j hj => .inl hj⟩
  rcases q3 with ⟨q, rfl⟩ | ⟨q, r, rfl⟩
  · exact key (o1 q) ⟨h1, kb, ka, q2.at_ kb.up, ⟨a, q1.at_ ka.up, .inl q⟩, tb, ta⟩
  · refine key (o2 q) ⟨h1, ka, kb, q1.at_ ka.up, ⟨b, q2.at_ kb.up, ?_⟩, ta, tb⟩
    rcases r with r | ⟨r1, r2⟩
    · exact .inl r
    · exact .inr ⟨r2, r1⟩
theorem part_new {n f p : Nat} (h : f + p ≤ n) : Log.part (now (DK.new n)) f p = List.replicate p (List.replicate 512 0) := by
  have : now (DK.new n) = List.replicate n (List.replicate 512 0) := now_none rfl
  rw [this]
  unfold Log.part
  rw [List.drop_replicate, List.take_replicate]
  congr 1
  omega
theorem area_new {n f p : Nat} (h2 : 2 ≤ p) (hn : f + p ≤ n) (h4 : n ≤ 4096) (h1 : 1 ≤ n) : Area (DK.new n) f p 0 Kp.zero := by
  have hok : Ok (DK.new n) := (kl_new (n := n) (by omega) h4).up.ok
  refine ⟨⟨hok, rfl, h2, by show f + p ≤ (List.replicate _ _).length; rw [List.length_replicate]; exact hn, by rw [part_new hn]; exact low_new p⟩, ?_, [], by rw [part_new hn, recs_new]; rfl, .nil _⟩
  rw [part_new hn]
  intro j hj
  have : pg (List.replicate p (List.replicate 512 (0 : UInt8))) j = List.replicate 512 0 := by
    unfold pg
    rw [List.getD_eq_getElem?_getD, List.getElem?_replicate, if_pos (by rw [List.length_replicate] at hj; exact hj)]
    rfl
  rw [this]
  exact tame_zero
theorem rests_new {n : Nat} (h8 : 8 ≤ n) (h4 : n ≤ 4096) : Rests (DK.new n) (n / 2) 0 (· = Kp.zero) :=
  ⟨⟨by show (List.replicate _ _).length / 2 = _; rw [List.length_replicate], by omega⟩, rfl, Kp.zero, Kp.zero, area_new (by omega) (by omega) h4 (by omega), area_new (by omega) (by omega) h4 (by omega), .inr ⟨fun h => h.not h, .inr ⟨rfl, rfl⟩, rfl⟩⟩
theorem Area.same {d d' : DK} {f p N : Nat} {k : Kp} (h : Area d f p N k) (ho : Ok d') (hd : d'.dead = false) (hp : d'.pages = d.pages) (h1 : d.row = []) (h2 : d'.row = []) : Area d' f p N k :=
  h.side ho hd (by rw [hp]) (by rw [now_none h1, now_none h2, hp])
theorem Rests.same {d d' : DK} {p N : Nat} {S : Kp → Prop} (h : Rests d p N S) (ho : Ok d') (hd : d'.dead = false) (hp : d'.pages = d.pages) (h2 : d'.row = []) : Rests d' p N S := by
  obtain ⟨q1, q2, a, b, q3, q4, q5⟩ := h
  exact ⟨by rw [hp]; exact q1, h2, a, b, q3.same ho hd hp q2 h2, q4.same ho hd hp q2 h2, q5⟩
theorem Rests.ok {d : DK} {p N : Nat} {S : Kp → Prop} (h : Rests d p N S) : Ok d := by
  obtain ⟨_, _, a, b, q3, _⟩ := h
  exact q3.up.ok
/-- No power, and power again, with nothing under way. -/
theorem Rests.again {d : DK} {p N : Nat} {S : Kp → Prop} (h : Rests d p N S) (fates : List Int) : Rests (d.restart fates) p N S :=
  h.same (h.ok.restart fates) rfl (by show lay (takes fates) 0 d.pages d.row = d.pages; rw [h.row]; rfl) rfl
theorem restart_kill (d : DK) (fates : List Int) : d.kill.restart fates = d.restart fates := rfl
theorem Sv.fuse {w0 w : World} {Z : Nat → Prop} {gs gd : Nat} {d : DK} {p : Nat} {k : Kp} {N : Nat} (h : Sv w0 w Z gs gd d p k N) (x : Int) (h1 : -9223372036854775808 ≤ x) (h2 : x ≤ 9223372036854775807) :
    Calls Tryz.prog 19 #[.pointer (some ⟨gd, 0, none⟩), .int .i64 x] w fun e w' => e = .returned (.tuple #[]) ∧ ∃ Z', Sv w0 w' Z' gs gd (d.fuse x) p k N ∧ Grow Z Z' w w' := by
  obtain ⟨La, Lb, lv, q1, q2⟩ := h
  obtain ⟨ga, gb, X, Ya, Yb, V, q3, q4⟩ := q1.at_
  refine (fuse_any q3.disk x h1 h2).mono ?_
  rintro e w' ⟨rfl, X', r1, r2, r3⟩
  have hlt := q3.lt
  have hdead : d.dead = false := q2.ka.up.on
  have hfz : d.fuse x = { d with left := x } := by unfold DK.fuse; rw [if_neg (by rw [hdead]; decide)]
  have hX : ∀ b, X' b → ¬ Ya b ∧ ¬ Yb b ∧ b ≠ gs ∧ ¬ V b := fun b hb => by
    rcases r3 b hb with q | q
    · exact q3.xs b q
    · exact ⟨fun r => by have := hlt b (.inr (.inl r)); omega, fun r => by have := hlt b (.inr (.inr (.inl r))); omega, fun r => by have := hlt gs (by simp); omega, fun r => by have := hlt b (.inr (.inr (.inr (.inl r)))); omega⟩
  obtain ⟨A, c, b1, b2, b3⟩ := q3.bk
  have hm : SvM w' X' Ya Yb V gs gd ga gb (d.fuse x) p La Lb lv k false :=
    ⟨⟨A, c, bk_out' b1 r2 (fun r => (q3.xs gs r).2.2.1 rfl), b2.out r2 (fun b hb r => (q3.xs b r).2.2.2 hb), b3⟩, r1, q3.la.out r2 (fun b hb r => (q3.xs b r).1 hb), q3.lb.out r2 (fun b hb r => (q3.xs b r).2.1 hb), by rw [hfz]; exact q3.half, hX, q3.ys, q3.zs, fun b hb => ⟨(q3.vs b hb).1, Nat.lt_of_lt_of_le (q3.vs b hb).2 r2.size⟩⟩
  have ho : Out Z w w' := r2.mono fun b hb => .inl (q4 b (.inl hb))
  have hz : ∀ b, (X' b ∨ Ya b ∨ Yb b ∨ V b ∨ b = gs) → Z b ∨ w.heap.size ≤ b := fun b hb => by
    rcases hb with q | q
    · rcases r3 b q with r | r
      · exact .inl (q4 b (.inl r))
      · exact .inr r
    · exact .inl (q4 b (.inr q))
  have hok : Ok (d.fuse x) := by
    have := q2.aa.up.fuse h1 h2
    exact this.ok
  have hside : ∀ {f n : Nat} {L : LK}, KL d f n L → KL (d.fuse x) f n L := fun hk => kl_side hk hok (by rw [hfz]; exact hdead) (by rw [hfz]) (by rw [now_fuse]) (by rw [fuse_row]; exact hk.row)
  have haside : ∀ {f n M : Nat} {q : Kp}, Area d f n M q → Area (d.fuse x) f n M q := fun ha => ha.side hok (by rw [hfz]; exact hdead) (by rw [hfz]) (by rw [now_fuse])
  obtain ⟨b, hb1, hb2⟩ := q2.ab
  exact ⟨rfl, fun j => X' j ∨ Ya j ∨ Yb j ∨ V j ∨ j = gs, ⟨La, Lb, lv, ⟨⟨ga, gb, X', Ya, Yb, V, hm, fun _ h => h⟩, ho.below q1.below q1.own q1.below.size, fun j hj => (hz j hj).elim (q1.own j) fun q => Nat.le_trans q1.below.size q, hm.lt⟩, ⟨by rw [hfz]; exact q2.half, hside q2.ka, hside q2.kb, haside q2.aa, ⟨b, haside hb1, hb2⟩, q2.ta, q2.tb⟩⟩, ho, hz⟩
end Go.Proofs.YtmhfhhhhbcignaaGreat.Sto

namespace Go.Proofs.YtmhfhhhhbcignaaGreat.Sto
open Go.RowKit Disk Log

theorem string_bytes (bs : List UInt8) (w : World) : ∃ cap WB, (convert 9 57 (.string (S bs))).run Tryz.prog w = .ok (.slice (some ⟨w.heap.size, 0, none⟩) bs.length cap) WB ∧ bs.length ≤ cap ∧ Rd WB (some ⟨w.heap.size, 0, none⟩) bs.length bs ∧ Below w.heap.size w WB ∧ WB.heap.size = w.heap.size + 1 := by
  have hsz : (S bs).size = bs.length := by simp [S, ByteArray.size]
  have h := Lib.run_convert_string_bytes (P := Tryz.prog) w 9 57 5 (S bs) ty_string ty_bytes ty_byte
  rw [hsz] at h
  refine ⟨_, _, h, grownCap_ge w _ _ _, ⟨rfl, fun _ => ⟨_, rfl, fun j b hb => ?_⟩⟩, ⟨rfl, rfl, rfl, ?_, fun k hk => Lib.bytesWorld_at_old w _ _ k hk⟩, Lib.bytesWorld_size w _ _⟩
  · have hj : j < (S bs).size := by rw [hsz]; exact (List.getElem?_eq_some_iff.1 hb).1
    have hadd : ((⟨w.heap.size, 0, none⟩ : Addr).add j) = ⟨w.heap.size, j, none⟩ := by unfold Addr.add; split <;> simp_all
    rw [hadd, Lib.bytesWorld_cell w _ _ j hj]
    have : (S bs).data.toList.getD j 0 = b := by
      show bs.toArray.toList.getD j 0 = b
      rw [List.getD_eq_getElem?_getD, hb]
      rfl
    rw [this]
    rfl
  · rw [Lib.bytesWorld_size]
    omega
def LineP (e : Nat) (bs : List UInt8) (w : World) (r : Ending) (w' : World) : Prop :=
  ∃ g, r = .returned (.slice (some ⟨g, 0, none⟩) 1 1) ∧ LnS (fun b => w.heap.size ≤ b ∧ b < w'.heap.size) w' (some ⟨g, 0, none⟩) 1 [⟨e, bs⟩] ∧ Below w.heap.size w w'
theorem lns_one {w' : World} {e : Nat} {bs : List UInt8} {g n c : Nat} {A : Option Addr} {t : TypeId} (P : Nat → Prop) (hb : Bk w' g t #[.int .u64 (e : Int), .slice A n c]) (hc : n ≤ c) (hr : Rd w' A n bs) (hg : P g) (hA : ∀ a, A = some a → P a.block) : LnS P w' (some ⟨g, 0, none⟩) 1 [⟨e, bs⟩] :=
  ⟨rfl, fun j x hj => by
    have hj0 : j = 0 := by have := (List.getElem?_eq_some_iff.1 hj).1; simpa using this
    subst hj0
    simp at hj
    subst hj
    exact ⟨g, 0, A, n, c, rfl, hg, hb.cell 0, hb.cell 1, hc, hr, fun a ha _ => hA a ha⟩⟩
set_option maxRecDepth 8000 in
theorem line_any (e : Nat) (bs : List UInt8) (w : World) : Calls Tryz.prog 27 #[.int .u64 (e : Int), .string (S bs)] w (LineP e bs w) := by
  obtain ⟨cap, WB, hcv, hcap, hr, hb, hsz⟩ := string_bytes bs w
  have hb2 : Below w.heap.size w (WB.alloc (.cells #[.int .u64 (e : Int), .slice (some ⟨w.heap.size, 0, none⟩) bs.length cap] 63)) := hb.alloc hb.size _
  have HF : Hid (LineP e bs w (.returned (.slice (some ⟨WB.heap.size, 0, none⟩) 1 1)) (WB.alloc (.cells #[.int .u64 (e : Int), .slice (some ⟨w.heap.size, 0, none⟩) bs.length cap] 63))) :=
    ⟨WB.heap.size, rfl, lns_one _ (Bk.new WB _ _) hcap (hr.below ((Below.refl _ _).alloc (Nat.le_refl _) _)) ⟨hb.size, by simp⟩ (fun a ha => by injection ha with ha; subst ha; exact ⟨Nat.le_refl _, by rw [World.size_alloc, hsz]; show w.heap.size < _; omega⟩), hb2⟩
  obtain ⟨sp, hsp⟩ : ∃ sp, sp = S bs := ⟨_, rfl⟩
  rw [← hsp] at hcv ⊢
  clear hcap hr hb hsz hb2 hsp
  go_enter Tryz.func27, Tryz.ntmps27
  go_wp2_with fail
  go_ret
  exact HF.out
/-- A store of one's own with power, and no countdown, on a disk of n pages. -/
def Ss (w0 w : World) (Z : Nat → Prop) (gs gd n : Nat) (k : Kp) (N : Nat) : Prop := ∃ d, Sv w0 w Z gs gd d (n / 2) k N ∧ d.left < 0 ∧ d.pages.length = n
def SsTo (v : Value) (w0 : World) (Z : Nat → Prop) (gs gd n : Nat) (k : Kp) (N : Nat) (w : World) (e : Ending) (w' : World) : Prop := e = .returned v ∧ ∃ Z', Ss w0 w' Z' gs gd n k N ∧ Grow Z Z' w w'
section
variable {w0 w w' : World} {Z P : Nat → Prop} {gs gd n : Nat} {k : Kp} {N : Nat} {D : Deed}
theorem Ss.below_ (h : Ss w0 w Z gs gd n k N) (hb : Below w.heap.size w w') : Ss w0 w' Z gs gd n k N := by
  obtain ⟨d, h1, h2⟩ := h
  exact ⟨d, h1.below_ hb, h2⟩
theorem Ss.below (h : Ss w0 w Z gs gd n k N) : Below w0.heap.size w0 w := by obtain ⟨_, h, _⟩ := h; exact h.below
theorem Ss.own (h : Ss w0 w Z gs gd n k N) : ∀ b, Z b → w0.heap.size ≤ b := by obtain ⟨_, h, _⟩ := h; exact h.own
theorem Ss.lt (h : Ss w0 w Z gs gd n k N) : ∀ b, Z b → b < w.heap.size := by obtain ⟨_, h, _⟩ := h; exact h.lt
theorem Ss.fine (h : Ss w0 w Z gs gd n k N) : Fine k := by obtain ⟨_, h, _⟩ := h; exact h.fine
theorem Ss.mono {M : Nat} (h : Ss w0 w Z gs gd n k N) (hm : N ≤ M) : Ss w0 w Z gs gd n k M := by
  obtain ⟨d, h1, h2⟩ := h
  exact ⟨d, h1.mono hm, h2⟩
/-- What a call answers that has power all the time, and what is kept then. -/
def ans (D : Deed) (k : Kp) (p : Nat) : Int := if D.may k = true then (if fits (D.run k) p = true then 0 else 4) else 1
def thn (D : Deed) (k : Kp) (p : Nat) : Kp := if D.may k = true ∧ fits (D.run k) p = true then D.run k else k
theorem ss_after {x : Int} {d : DK} {e : Ending} (hl : d.left < 0) (hn : d.pages.length = n) (he : e = .returned (.int .i64 x)) (h : AfterP w0 Z gs gd d (n / 2) k N D x w w') : SsTo (.int .i64 (ans D k (n / 2))) w0 Z gs gd n (thn D k (n / 2)) (N + 4) w e w' := by
  obtain ⟨Z', hg, h⟩ := h
  unfold ans thn
  rcases h with ⟨rfl, h1, h2⟩ | ⟨rfl, h1, h2, h3⟩ | ⟨rfl, h1, h2, d', h3, h4, h5⟩ | ⟨rfl, h1, h2, h3, _⟩
  · exact ⟨by rw [he, h1]; rfl, Z', by rw [h1, if_neg (by simp)]; exact ⟨d, h2.mono (by omega), hl, hn⟩, hg⟩
  · exact ⟨by rw [he, h1, h2]; rfl, Z', by rw [h2, if_neg (by simp)]; exact ⟨d, h3.mono (by omega), hl, hn⟩, hg⟩
  · exact ⟨by rw [he, h1, h2]; rfl, Z', by rw [h1, h2, if_pos ⟨rfl, rfl⟩]; exact ⟨d', h3, by rw [h5 hl]; exact hl, by rw [h4]; exact hn⟩, hg⟩
  · omega
theorem Ss.promise (h : Ss w0 w Z gs gd n k N) (hN : N + 4 < 65536) (e : Nat) (he : e < 18446744073709551616) :
    Calls Tryz.prog 23 #[.pointer (some ⟨gs, 0, none⟩), .int .u64 (e : Int)] w (SsTo (.int .i64 (ans (.prom e) k (n / 2))) w0 Z gs gd n (thn (.prom e) k (n / 2)) (N + 4) w) := by
  obtain ⟨d, h1, h2, h3⟩ := h
  exact (h1.promise hN e he).mono fun _ _ ⟨x, hx, ha⟩ => ss_after h2 h3 hx ha
theorem Ss.adopt (h : Ss w0 w Z gs gd n k N) (hN : N + 4 < 65536) (e : Nat) (l : List Ln) (he : e < 18446744073709551616) (A : Option Addr) (m c : Nat) (hl : LnS P w A m l) (hs : Laid l) (hP : ∀ b, P b → ¬ Z b ∧ b < w.heap.size) :
    Calls Tryz.prog 26 #[.pointer (some ⟨gs, 0, none⟩), .int .u64 (e : Int), .slice A m c] w (SsTo (.int .i64 (ans (.adopt e l) k (n / 2))) w0 Z gs gd n (thn (.adopt e l) k (n / 2)) (N + 4) w) := by
  obtain ⟨d, h1, h2, h3⟩ := h
  have hm := hl.len
  subst hm
  exact (h1.adopt hN e l he A c hl hs hP).mono fun _ _ ⟨x, hx, ha⟩ => ss_after h2 h3 hx ha
theorem Ss.append (h : Ss w0 w Z gs gd n k N) (hN : N + 4 < 65536) (l : List Ln) (A : Option Addr) (m c : Nat) (hl : LnS P w A m l) (hs : Laid l) (hP : ∀ b, P b → ¬ Z b ∧ b < w.heap.size) :
    Calls Tryz.prog 28 #[.pointer (some ⟨gs, 0, none⟩), .slice A m c] w (SsTo (.int .i64 (ans (.add l) k (n / 2))) w0 Z gs gd n (thn (.add l) k (n / 2)) (N + 4) w) := by
  obtain ⟨d, h1, h2, h3⟩ := h
  have hm := hl.len
  subst hm
  exact (h1.append hN l A c hl hs hP).mono fun _ _ ⟨x, hx, ha⟩ => ss_after h2 h3 hx ha
theorem Ss.kept (h : Ss w0 w Z gs gd n k N) : Calls Tryz.prog 21 #[.pointer (some ⟨gs, 0, none⟩)] w (KeptPost k w) := by obtain ⟨d, h, _⟩ := h; exact h.kept
theorem Ss.dead (h : Ss w0 w Z gs gd n k N) : Calls Tryz.prog 18 #[.pointer (some ⟨gs, 0, none⟩)] w fun e w' => e = .returned (.bool false) ∧ w = w' := by obtain ⟨d, h, _⟩ := h; exact h.dead
/-- Its disk, with what is kept there. -/
def Ds (w0 w : World) (X : Nat → Prop) (gd n : Nat) (k : Kp) (N : Nat) : Prop := ∃ d, St w0 w X gd d ∧ Rests d (n / 2) N (· = k) ∧ d.left < 0 ∧ d.pages.length = n
theorem Ss.disk (h : Ss w0 w Z gs gd n k N) : ∃ X, Ds w0 w X gd n k N ∧ ∀ b, X b → Z b := by
  obtain ⟨d, h1, h2, h3⟩ := h
  obtain ⟨X, q1, q2⟩ := h1.disk
  exact ⟨X, ⟨d, q1, h1.rests, h2, h3⟩, q2⟩
theorem Ds.below_ {X : Nat → Prop} (h : Ds w0 w X gd n k N) (hb : Below w.heap.size w w') : Ds w0 w' X gd n k N := by
  obtain ⟨d, h1, h2⟩ := h
  exact ⟨d, h1.below_ hb, h2⟩
theorem Ds.below {X : Nat → Prop} (h : Ds w0 w X gd n k N) : Below w0.heap.size w0 w := by obtain ⟨_, h, _⟩ := h; exact h.below
theorem Ds.own {X : Nat → Prop} (h : Ds w0 w X gd n k N) : ∀ b, X b → w0.heap.size ≤ b := by obtain ⟨_, h, _⟩ := h; exact h.own
/-- Opened. -/
def OpSs (w0 : World) (X : Nat → Prop) (gd n : Nat) (k : Kp) (N : Nat) (w : World) (e : Ending) (w' : World) : Prop :=
  ∃ gs Z, e = .returned (.tuple #[.pointer (some ⟨gs, 0, none⟩), .int .i64 0]) ∧ Ss w0 w' Z gs gd n k N ∧ Below w.heap.size w w' ∧ (∀ b, Z b → X b ∨ w.heap.size ≤ b) ∧ ∀ b, X b → Z b
theorem Ds.open_ {X : Nat → Prop} (h : Ds w0 w X gd n k N) (hN : N < 65536) : Calls Tryz.prog 11 #[.pointer (some ⟨gd, 0, none⟩)] w (OpSs w0 X gd n k N w) := by
  obtain ⟨d, h1, h2, h3, h4⟩ := h
  exact (open_sv h1 h2 hN).mono fun e w' ⟨gs, Z, he, hs, hb, hz1, hz2⟩ => ⟨gs, Z, he, ⟨d, hs, h3, h4⟩, hb, hz1, hz2⟩
theorem Ds.restart {X : Nat → Prop} (h : Ds w0 w X gd n k N) (A : Option Addr) (m c : Nat) (zs : List Int) (hr : RdI w A m zs) (hx : 0 < m → ∀ a, A = some a → ¬ X a.block) (hm : m ≤ 1000000) :
    Calls Tryz.prog 25 #[.pointer (some ⟨gd, 0, none⟩), .slice A m c] w fun e w' => e = .returned (.tuple #[]) ∧ ∃ X', Ds w0 w' X' gd n k N ∧ Grow X X' w w' := by
  obtain ⟨d, h1, h2, h3, h4⟩ := h
  refine (restart_st h1 A m c zs hr hx hm (by rw [h2.row]; exact Nat.zero_le _)).mono fun e w' ⟨he, X', q1, q2, q3⟩ => ⟨he, X', ⟨d.restart zs, q1, h2.again zs, by show (-1 : Int) < 0; decide, ?_⟩, q2, q3⟩
  show (lay (takes zs) 0 d.pages d.row).length = n
  rw [lay_length]
  exact h4
theorem ds_new {n : Nat} (h8 : 8 ≤ n) (h4 : n ≤ 4096) (hb : Below w0.heap.size w0 w) : Calls Tryz.prog 10 #[.int .i64 (n : Int)] w fun e w' => ∃ gd X, e = .returned (.tuple #[.pointer (some ⟨gd, 0, none⟩), .int .i64 0]) ∧ Ds w0 w' X gd n Kp.zero 0 ∧ (∀ b, X b → w.heap.size ≤ b) ∧ Below w.heap.size w w' :=
  (new_st n w0 w (by omega) h4 hb).mono fun e w' ⟨gd, X, he, h1, h2, h3⟩ => ⟨gd, X, he, ⟨DK.new n, h1, rests_new h8 h4, by show (-1 : Int) < 0; decide, by show (List.replicate _ _).length = _; rw [List.length_replicate]⟩, h2, h3⟩
end
end Go.Proofs.YtmhfhhhhbcignaaGreat.Sto

namespace Go.Proofs.YtmhfhhhhbcignaaGreat.Sto
open Go.RowKit Disk Log

theorem line_at {P : Nat → Prop} {w : World} {A : Option Addr} {n : Nat} {ls : List Ln} (h : LnS P w A n ls) {j : Nat} {x : Ln} (hj : ls[j]? = some x) : ∃ b o B m c, A = some ⟨b, o, none⟩ ∧ w.cell? ⟨b, o + j * 2, none⟩ = some (.int .u64 (x.epoch : Int)) ∧ w.cell? ⟨b, o + j * 2 + 1, none⟩ = some (.slice B m c) ∧ m ≤ c ∧ Rd w B m x.bytes := by
  obtain ⟨b, o, B, m, c, q1, _, q3, q4, q5, q6, _⟩ := h.at_ j x hj
  exact ⟨b, o, B, m, c, q1, q3, q4, q5, q6⟩
theorem apart_new {w0 w w' : World} {Z : Nat → Prop} {gs gd n : Nat} {k : Kp} {N : Nat} (h : Ss w0 w Z gs gd n k N) : ∀ b, (w.heap.size ≤ b ∧ b < w'.heap.size) → ¬ Z b ∧ b < w'.heap.size := fun b hb => ⟨fun q => by have := h.lt b q; omega, hb.2⟩
theorem laid_one {e : Nat} {bs : List UInt8} (he : e < 18446744073709551616) (hb : bs.length ≤ 100000000) : Laid [⟨e, bs⟩] := ⟨by simp, fun x hx => by rw [List.mem_singleton.1 hx]; exact ⟨hb, he⟩⟩
set_option maxRecDepth 100000 in
set_option maxHeartbeats 4000000 in
theorem keeps_any (w : World) : Calls Tryz.prog 12 #[] w fun e w' => e = .returned (.bool true) ∧ Below w.heap.size w w' := by
  have CN := Lib.hid (ds_new (w0 := w) (n := 16) (by decide) (by decide) (Below.refl w.heap.size w))
  have hcs := fun (W : World) (A : Option Addr) (n c : Nat) (bs : List UInt8) (h : Rd W A n bs) => conv_string h c
  have HCS := Lib.hid hcs
  clear hcs
  go_enter Tryz.func12, Tryz.ntmps12
  go_wp2_with fail
  refine CN.out.mono ?_
  rintro e w1 ⟨gd, X, rfl, hd, hx, hb⟩
  have CO := Lib.hid (hd.open_ (by decide))
  clear hd hx hb CN
  go_wp2_with fail
  refine CO.out.mono ?_
  rintro e w2 ⟨gs, Z2, rfl, hs, -, -, -⟩
  have HS2 := Lib.hid hs
  clear hs CO
  have C3 := HS2.out.promise (by decide) 3 (by decide)
  rw [show ans (.prom 3) Kp.zero (16 / 2) = 0 from by decide +kernel, show thn (.prom 3) Kp.zero (16 / 2) = (⟨3, 0, []⟩ : Kp) from by kernel_rfl] at C3
  have CC3 := Lib.hid C3
  clear C3
  go_wp2_with fail
  refine CC3.out.mono ?_
  rintro e w3 ⟨rfl, Z3, hs, -⟩
  have HS3 := Lib.hid hs
  clear hs CC3 HS2
  have C4 := HS3.out.promise (by decide) 3 (by decide)
  rw [show ans (.prom 3) (⟨3, 0, []⟩ : Kp) (16 / 2) = 1 from by decide +kernel, show thn (.prom 3) (⟨3, 0, []⟩ : Kp) (16 / 2) = (⟨3, 0, []⟩ : Kp) from by kernel_rfl] at C4
  have CC4 := Lib.hid C4
  clear C4
  go_wp2_with fail
  refine CC4.out.mono ?_
  rintro e w4 ⟨rfl, Z4, hs, -⟩
  have HS4 := Lib.hid hs
  clear hs CC4 HS3
  have C5 : Calls Tryz.prog 27 #[.int .u64 1, .string ⟨#[97]⟩] w4 (LineP 1 [97] w4) := line_any 1 [97] w4
  have CC5 := Lib.hid C5
  clear C5
  go_wp2_with fail
  refine CC5.out.mono ?_
  rintro e w5 ⟨g5, rfl, hl, hb⟩
  have HL5 := Lib.hid hl
  have HA5 := Lib.hid (apart_new (w' := w5) HS4.out)
  have HS5 := Lib.hid (HS4.out.below_ hb)
  clear hl hb CC5 HS4
  have C6 := HS5.out.adopt (by decide) 3 [⟨1, [97]⟩] (by decide) _ 1 1 HL5.out (laid_one (by decide) (by decide)) HA5.out
  rw [show ans (.adopt 3 [⟨1, [97]⟩]) (⟨3, 0, []⟩ : Kp) (16 / 2) = 0 from by decide +kernel, show thn (.adopt 3 [⟨1, [97]⟩]) (⟨3, 0, []⟩ : Kp) (16 / 2) = (⟨3, 3, [⟨1, [97]⟩]⟩ : Kp) from by kernel_rfl] at C6
  have CC6 := Lib.hid C6
  clear C6
  go_wp2_with fail
  refine CC6.out.mono ?_
  rintro e w6 ⟨rfl, Z6, hs, -⟩
  have HS6 := Lib.hid hs
  clear hs CC6 HS5
  have C7 : Calls Tryz.prog 27 #[.int .u64 1, .string ⟨#[98]⟩] w6 (LineP 1 [98] w6) := line_any 1 [98] w6
  have CC7 := Lib.hid C7
  clear C7
  go_wp2_with fail
  refine CC7.out.mono ?_
  rintro e w7 ⟨g7, rfl, hl, hb⟩
  have HL7 := Lib.hid hl
  have HA7 := Lib.hid (apart_new (w' := w7) HS6.out)
  have HS7 := Lib.hid (HS6.out.below_ hb)
  clear hl hb CC7 HS6
  have C8 := HS7.out.append (by decide) [⟨1, [98]⟩] _ 1 1 HL7.out (laid_one (by decide) (by decide)) HA7.out
  rw [show ans (.add [⟨1, [98]⟩]) (⟨3, 3, [⟨1, [97]⟩]⟩ : Kp) (16 / 2) = 1 from by decide +kernel, show thn (.add [⟨1, [98]⟩]) (⟨3, 3, [⟨1, [97]⟩]⟩ : Kp) (16 / 2) = (⟨3, 3, [⟨1, [97]⟩]⟩ : Kp) from by kernel_rfl] at C8
  have CC8 := Lib.hid C8
  clear C8
  go_wp2_with fail
  refine CC8.out.mono ?_
  rintro e w8 ⟨rfl, Z8, hs, -⟩
  have HS8 := Lib.hid hs
  clear hs CC8 HS7
  have C9 : Calls Tryz.prog 27 #[.int .u64 3, .string ⟨#[98]⟩] w8 (LineP 3 [98] w8) := line_any 3 [98] w8
  have CC9 := Lib.hid C9
  clear C9
  go_wp2_with fail
  refine CC9.out.mono ?_
  rintro e w9 ⟨g9, rfl, hl, hb⟩
  have HL9 := Lib.hid hl
  have HA9 := Lib.hid (apart_new (w' := w9) HS8.out)
  have HS9 := Lib.hid (HS8.out.below_ hb)
  clear hl hb CC9 HS8
  have C10 := HS9.out.append (by decide) [⟨3, [98]⟩] _ 1 1 HL9.out (laid_one (by decide) (by decide)) HA9.out
  rw [show ans (.add [⟨3, [98]⟩]) (⟨3, 3, [⟨1, [97]⟩]⟩ : Kp) (16 / 2) = 0 from by decide +kernel, show thn (.add [⟨3, [98]⟩]) (⟨3, 3, [⟨1, [97]⟩]⟩ : Kp) (16 / 2) = (⟨3, 3, [⟨1, [97]⟩, ⟨3, [98]⟩]⟩ : Kp) from by kernel_rfl] at C10
  have CC10 := Lib.hid C10
  clear C10
  go_wp2_with fail
  refine CC10.out.mono ?_
  rintro e w10 ⟨rfl, Z10, hs, -⟩
  have HS10 := Lib.hid hs
  clear hs CC10 HS9
  obtain ⟨X10, hd, -⟩ := HS10.out.disk
  have CR := Lib.hid (hd.restart none 0 0 [] (RdI.nil_ _ _) (fun h => absurd h (by decide)) (by decide))
  clear hd HS10
  go_wp2_with fail
  refine CR.out.mono ?_
  rintro e wr ⟨rfl, Xr, hd, -⟩
  have CO2 := Lib.hid (hd.open_ (by decide))
  clear hd CR
  go_wp2_with fail
  refine CO2.out.mono ?_
  rintro e wo ⟨gt, Zo, rfl, hs, -, -, -⟩
  have CK := Lib.hid hs.kept
  have HBO := Lib.hid hs.below
  clear hs CO2
  go_wp2_with fail
  refine CK.out.mono ?_
  rintro e wk ⟨A, c, rfl, hown, hb⟩
  have HBK := Lib.hid (HBO.out.trans (hb.mono HBO.out.size))
  have hln := hown.lns
  clear hown hb CK
  obtain ⟨W, hW⟩ : ∃ W, W = wk.alloc (.cells #[.int .u64 3, .int .u64 3, .slice A 2 c] 51) := ⟨_, rfl⟩
  have HBW : Hid (Below wk.heap.size wk W) := by show Below _ _ _; rw [hW]; exact (Below.refl _ _).alloc (Nat.le_refl _) _
  have HKB : Hid (Bk W wk.heap.size 51 #[.int .u64 3, .int .u64 3, .slice A 2 c]) := by show Bk _ _ _ _; rw [hW]; exact Bk.new wk _ _
  have hln2 := hln.below HBW.out
  obtain ⟨b, o, B, m, c1, rfl, l0, l1, l2, l3⟩ := line_at hln2 (j := 0) (x := ⟨1, [97]⟩) rfl
  obtain ⟨b', o', B', m', c1', e5, l5, -, -, -⟩ := line_at hln2 (j := 1) (x := ⟨3, [98]⟩) rfl
  have HWE := Lib.hid hW
  injection e5 with e5
  injection e5 with e5 e6
  subst e5 e6
  have hcv : (convert 57 9 (.slice B m c1)).run Tryz.prog W = .ok (.string ⟨#[97]⟩) W := HCS.out W _ _ c1 _ l3
  have l1 : W.cell? ⟨b, o + 1, none⟩ = some (.slice B m c1) := by simpa using l1
  have l5 : W.cell? ⟨b, o + 2, none⟩ = some (.int .u64 3) := by simpa using l5
  rw [HWE.out] at hcv l1 l5
  clear hln hln2 hW HCS l3 l0
  unfold kpV
  go_wp2_with fail
  rw [← HWE.out]
  go_ret
  exact ⟨rfl, HBK.out.trans (HBW.out.mono HBK.out.size)⟩
end Go.Proofs.YtmhfhhhhbcignaaGreat.Sto

namespace Go.Proofs.YtmhfhhhhbcignaaGreat.Sto
open Go.RowKit Disk Log

set_option maxRecDepth 8000 in
set_option maxHeartbeats 1000000 in
theorem promise_nil (e : Nat) (w : World) : Calls Tryz.prog 23 #[.pointer none, .int .u64 (e : Int)] w fun r w' => r = .returned (.int .i64 8) ∧ Below w.heap.size w w' := by
  obtain ⟨W, hW⟩ : ∃ W, W = (w.alloc (.cells #[.int .u64 (e : Int)] 32)) := ⟨_, rfl⟩
  have hb1 : Below w.heap.size w W := by rw [hW]; exact (Below.refl _ _).alloc (Nat.le_refl _) _
  have k1 : Bk W w.heap.size 32 #[.int .u64 (e : Int)] := by rw [hW]; exact Bk.new w _ _
  have CM := Lib.hid (prom_make (fun _ => False) e W)
  have kc0 : W.cell? ⟨w.heap.size, 0, none⟩ = some (.int .u64 (e : Int)) := k1.cell 0
  have hmf : ∀ (fn : Fn) (first cap : Array Value) (w : World), (Instr.makeFunc fn first cap).run Tryz.prog w = .ok (.func fn first cap) w := fun _ _ _ _ => rfl
  rw [hW] at kc0
  have HWE := Lib.hid hW
  have HB1 := Lib.hid hb1
  clear hb1 k1 hW
  go_enter Tryz.func23, Tryz.ntmps23
  go_wp2_with fail
  rw [← HWE.out]
  refine CM.out.mono ?_
  rintro _ w2 ⟨v, rfl, hv, hb⟩
  obtain ⟨b, rfl, -, -⟩ := hv
  have HB2 := Lib.hid (HB1.out.trans (hb.mono HB1.out.size))
  clear hb CM
  go_wp2_with fail
  refine (keep_nil _ _ _ _ w2).mono ?_
  rintro _ w3 ⟨rfl, hb⟩
  have HB3 := Lib.hid (HB2.out.trans (hb.mono HB2.out.size))
  clear hb
  go_wp2_with fail
  go_ret
  exact ⟨rfl, HB3.out⟩
set_option maxRecDepth 8000 in
set_option maxHeartbeats 1000000 in
theorem adopt_nil (e : Nat) (w : World) : Calls Tryz.prog 26 #[.pointer none, .int .u64 (e : Int), .slice none 0 0] w fun r w' => r = .returned (.int .i64 8) ∧ Below w.heap.size w w' := by
  obtain ⟨W, hW⟩ : ∃ W, W = ((w.alloc (.cells #[.int .u64 (e : Int)] 32)).alloc (.cells #[.slice none 0 0] 33)) := ⟨_, rfl⟩
  have hb1 : Below w.heap.size w W := by rw [hW]; exact ((Below.refl _ _).alloc (Nat.le_refl _) _).alloc (by simp) _
  have k1 : Bk W w.heap.size 32 #[.int .u64 (e : Int)] := by rw [hW]; exact (Bk.new w _ _).alloc _
  have k2 : Bk W (w.heap.size + 1) 33 #[.slice none 0 0] := by
    rw [hW]
    have := Bk.new (w.alloc (.cells #[.int .u64 (e : Int)] 32)) 33 #[.slice none 0 0]
    rwa [World.size_alloc] at this
  have CM := Lib.hid (adopt_make2 (fun _ => False) e [] none 0 W (LnS.nil_ _ _ _))
  have kc0 : W.cell? ⟨w.heap.size, 0, none⟩ = some (.int .u64 (e : Int)) := k1.cell 0
  have kc1 : W.cell? ⟨w.heap.size + 1, 0, none⟩ = some (.slice none 0 0) := k2.cell 0
  have hmf : ∀ (fn : Fn) (first cap : Array Value) (w : World), (Instr.makeFunc fn first cap).run Tryz.prog w = .ok (.func fn first cap) w := fun _ _ _ _ => rfl
  rw [hW] at kc0 kc1
  have HWE := Lib.hid hW
  have HB1 := Lib.hid hb1
  clear hb1 k1 k2 hW
  go_enter Tryz.func26, Tryz.ntmps26
  go_wp2_with fail
  rw [← HWE.out]
  refine CM.out.mono ?_
  rintro _ w2 ⟨v, rfl, hv, hb⟩
  obtain ⟨b, b2, A, c, rfl, -, -, -, -, -⟩ := hv
  have HB2 := Lib.hid (HB1.out.trans (hb.mono HB1.out.size))
  clear hb CM
  go_wp2_with fail
  refine (keep_nil _ _ _ _ w2).mono ?_
  rintro _ w3 ⟨rfl, hb⟩
  have HB3 := Lib.hid (HB2.out.trans (hb.mono HB2.out.size))
  clear hb
  go_wp2_with fail
  go_ret
  exact ⟨rfl, HB3.out⟩
set_option maxRecDepth 8000 in
set_option maxHeartbeats 1000000 in
theorem append_nil (w : World) : Calls Tryz.prog 28 #[.pointer none, .slice none 0 0] w fun r w' => r = .returned (.int .i64 8) ∧ Below w.heap.size w w' := by
  obtain ⟨W, hW⟩ : ∃ W, W = (w.alloc (.cells #[.slice none 0 0] 33)) := ⟨_, rfl⟩
  have hb1 : Below w.heap.size w W := by rw [hW]; exact (Below.refl _ _).alloc (Nat.le_refl _) _
  have k1 : Bk W w.heap.size 33 #[.slice none 0 0] := by rw [hW]; exact Bk.new w _ _
  have CM := Lib.hid (add_make2 (fun _ => False) [] none 0 W (LnS.nil_ _ _ _))
  have kc0 : W.cell? ⟨w.heap.size, 0, none⟩ = some (.slice none 0 0) := k1.cell 0
  have hmf : ∀ (fn : Fn) (first cap : Array Value) (w : World), (Instr.makeFunc fn first cap).run Tryz.prog w = .ok (.func fn first cap) w := fun _ _ _ _ => rfl
  rw [hW] at kc0
  have HWE := Lib.hid hW
  have HB1 := Lib.hid hb1
  clear hb1 k1 hW
  go_enter Tryz.func28, Tryz.ntmps28
  go_wp2_with fail
  rw [← HWE.out]
  refine CM.out.mono ?_
  rintro _ w2 ⟨v, rfl, hv, hb⟩
  obtain ⟨b2, A, c, rfl, -, -, -⟩ := hv
  have HB2 := Lib.hid (HB1.out.trans (hb.mono HB1.out.size))
  clear hb CM
  go_wp2_with fail
  refine (keep_nil _ _ _ _ w2).mono ?_
  rintro _ w3 ⟨rfl, hb⟩
  have HB3 := Lib.hid (HB2.out.trans (hb.mono HB2.out.size))
  clear hb
  go_wp2_with fail
  go_ret
  exact ⟨rfl, HB3.out⟩
theorem nil_plain {w : World} {a : Addr} {v : Value} (h : w.cell? a = some v) : a = ⟨a.block, a.off, none⟩ := by
  obtain ⟨b, o, s⟩ := a
  cases s with
  | none => rfl
  | some x =>
    unfold World.cell? at h
    split at h
    · simp at h
    · cases h
/-- A slice of some bytes has a place for its first. -/
theorem rd_first {w : World} {A : Option Addr} {n : Nat} {x : UInt8} {bs : List UInt8} (h : Rd w A n (x :: bs)) : ∃ b o, A = some ⟨b, o, none⟩ ∧ w.cell? ⟨b, o, none⟩ = some (U x) := by
  have hl := h.len
  obtain ⟨ad, e, hc⟩ := h.cells (by rw [← hl]; simp)
  have h0 := hc 0 x rfl
  rw [show ad.add 0 = ad from by simp [Addr.add]] at h0
  have hp := nil_plain h0
  exact ⟨ad.block, ad.off, by rw [e, ← hp], by rw [← hp]; exact h0⟩
/-- '[]byte("x")' has the mark that the run-time puts behind a constant's bytes. -/
def xW (w : World) : World := w.alloc (.cells #[.int .u8 120] 5 (1, 2))
theorem xW_size (w : World) : (xW w).heap.size = w.heap.size + 1 := by simp [xW]
theorem xW_at (w : World) : (xW w).heap[w.heap.size]? = some (.cells #[.int .u8 120] 5 (1, 2)) := by
  show (w.heap.push _)[w.heap.size]? = _
  simp
theorem xW_cell (w : World) : (xW w).cell? ⟨w.heap.size, 0, none⟩ = some (.int .u8 120) := by simp [World.cell?, xW_at]
theorem xW_frozen (w : World) : (xW w).frozen? ⟨w.heap.size, 0, none⟩ = false := by simp [World.frozen?, xW_at]
theorem xW_below (w : World) : Below w.heap.size w (xW w) := (Below.refl _ _).alloc (Nat.le_refl _) _
set_option maxRecDepth 8000 in
/-- 'append([]byte("x"), b...)'. -/
theorem x_append {w : World} {A : Option Addr} {m : Nat} {bs : List UInt8} (c : Nat) (h : Rd (xW w) A m bs) (hm : m ≤ 500) :
    ∃ g cap W, (Builtin.append_ #[57, 57] 57 #[.slice (some ⟨w.heap.size, 0, none⟩) 1 1, .slice A m c]).run Tryz.prog (xW w) = .ok (.slice (some ⟨g, 0, none⟩) (m + 1) cap) W ∧ Below w.heap.size w W ∧ w.heap.size ≤ g ∧ g < W.heap.size ∧ m + 1 ≤ cap ∧ Rd W (some ⟨g, 0, none⟩) (m + 1) (120 :: bs) ∧ W.frozen? ⟨g, 0, none⟩ = false := by
  obtain ⟨i0, hi, hz0, hz1, hz2⟩ := info_parts info_byte
  rcases Nat.eq_zero_or_pos m with rfl | h0
  · obtain rfl : bs = [] := List.eq_nil_of_length_eq_zero h.len
    have hs : Src Tryz.prog i0.size 57 (.slice A 0 c) 0 [] (xW w) := by
      cases A with
      | none => exact Src.ofNil _ ty_bytes c
      | some a => exact Src.ofSlice _ ty_bytes a 0 c [] (by simp) (fun j u hu => by simp at hu) (fun u hu => by cases hu)
    refine ⟨w.heap.size, 1, xW w, run_append_room_src (xW w) _ _ 57 _ i0 ty_bytes hi w.heap.size 0 1 1 _ 0 [] hs (Nat.le_refl _) (fun j hj => by simp at hj) (fun j hj => by simp at hj), xW_below w, Nat.le_refl _, by rw [xW_size]; omega, Nat.le_refl _, ⟨rfl, fun _ => ⟨_, rfl, fun j b hj => ?_⟩⟩, xW_frozen w⟩
    have hj0 : j = 0 := by have := (List.getElem?_eq_some_iff.1 hj).1; simpa using this
    subst hj0
    simp at hj
    subst hj
    exact xW_cell w
  · obtain ⟨ad, rfl, hc⟩ := h.cells h0
    have hl := h.len
    obtain ⟨v, W, hrun, hown, hgr⟩ := run_append_arg_grows (P := Tryz.prog) (xW w) 57 57 5 i0 _ 1 1 ty_bytes hi hz0 hz1 hz2 rfl (by decide) ⟨w.heap.size, 0, none⟩ 1 1 [.int .u8 120] rfl (fun j u hu => by
      have hj0 : j = 0 := by have := (List.getElem?_eq_some_iff.1 hu).1; simpa using this
      subst hj0
      simp at hu
      subst hu
      exact xW_cell w) ad m c (bs.map U) (by rw [List.length_map, hl, Nat.mul_one]) (fun j u hu => by
      rw [List.getElem?_map] at hu
      cases hb : bs[j]? with
      | none => rw [hb] at hu; cases hu
      | some b =>
        rw [hb] at hu
        have hu : U b = u := by simpa using hu
        subst hu
        exact hc j b hb) (by omega) (by unfold maxLen; omega) (by omega)
    have hown : W.ownsRow (xW w).heap.size 5 1 v (m + 1) ((120 :: bs).map U) := by
      have := hown
      rw [Nat.add_comm 1 m] at this
      exact this
    rcases hown.2 with ⟨_, q⟩ | ⟨g, cap, cur, rfl, hb, hg, hcp, _⟩
    · omega
    · have hs := xW_size w
      exact ⟨g, cap, W, hrun, (xW_below w).trans (((Below.refl _ _).grown hgr (Nat.le_refl _) (fun g hg => by cases hg)).mono (by omega)), by omega, (Array.getElem?_eq_some_iff.1 hg).1, hcp, (Rd.of_own hown).1, hown.frozenAt 0⟩
/-- One line of one's own: where it lies. -/
theorem own_one {base : Nat} {w : World} {A : Option Addr} {c e : Nat} {y : UInt8} {bs : List UInt8} (h : OwnL base w (.slice A 1 c) [⟨e, y :: bs⟩]) :
    ∃ b B c2, A = some ⟨b, 0, none⟩ ∧ (base ≤ b ∧ b < w.heap.size) ∧ (base ≤ B ∧ B < w.heap.size) ∧ B ≠ b ∧ w.cell? ⟨b, 0, none⟩ = some (.int .u64 (e : Int)) ∧ w.cell? ⟨b, 1, none⟩ = some (.slice (some ⟨B, 0, none⟩) (bs.length + 1) c2) ∧ w.cell? ⟨B, 0, none⟩ = some (.int .u8 (y.toNat : Int)) ∧ (∀ i, w.frozen? ⟨b, i, none⟩ = false) ∧ ∀ i, w.frozen? ⟨B, i, none⟩ = false := by
  obtain ⟨xs, hown, hf⟩ := h
  obtain ⟨B0, m, c2, h1, h2⟩ := hf.at_ 0 (y :: bs) rfl
  have hm := (Rd.of_own h2).2
  have hl : m = bs.length + 1 := by
    have := (Rd.of_own h2).1.len
    rw [← this]; rfl
  have g0 := lnsC_get [⟨e, y :: bs⟩] xs 0 0 ⟨e, y :: bs⟩ _ rfl h1 (by omega)
  have g1 := lnsC_get [⟨e, y :: bs⟩] xs 0 1 ⟨e, y :: bs⟩ _ rfl h1 (by omega)
  rcases hown.2 with ⟨_, h0⟩ | ⟨b, cap, cur, e1, hb, hh, _⟩
  · simp at h0
  · rcases h2.2 with ⟨_, h0⟩ | ⟨B, cap2, cur2, e2, hB, hH, _⟩
    · omega
    · injection e1 with e1 e3 e4
      subst e1
      injection e2 with e2 e5 e6
      subst e2
      have k0 := hown.cells (g := b) rfl _ _ g0
      have k1 := hown.cells (g := b) rfl _ _ g1
      have k2 := h2.cells (g := B) rfl 0 _ rfl
      rw [add_plain] at k0 k1 k2
      have k0 : w.cell? ⟨b, 0, none⟩ = some (.int .u64 (e : Int)) := k0
      have k1 : w.cell? ⟨b, 1, none⟩ = some (.slice (some ⟨B, 0, none⟩) m c2) := k1
      have k2 : w.cell? ⟨B, 0, none⟩ = some (.int .u8 (y.toNat : Int)) := k2
      refine ⟨b, B, c2, rfl, ⟨hb, (Array.getElem?_eq_some_iff.1 hh).1⟩, ⟨hB, (Array.getElem?_eq_some_iff.1 hH).1⟩, fun q => ?_, k0, by rw [← hl]; exact k1, k2, fun i => hown.frozenAt i, fun i => h2.frozenAt i⟩
      rw [q, k0] at k2
      injection k2 with k2
      injection k2 with k2
      cases k2
section
variable {w0 w w' : World} {Z Q : Nat → Prop} {gs gd n : Nat} {d : DK} {p : Nat} {La Lb : LK} {lv : Bool} {k : Kp} {met : Bool} {N : Nat}
theorem Sw.out (h : Sw w0 w Z gs gd d p La Lb lv k met) (ho : Out Q w w') (hq : ∀ b, Q b → ¬ Z b ∧ w0.heap.size ≤ b) : Sw w0 w' Z gs gd d p La Lb lv k met := by
  obtain ⟨⟨ga, gb, X, Ya, Yb, V, h1, h2⟩, h6, h7, h8⟩ := h
  exact ⟨⟨ga, gb, X, Ya, Yb, V, h1.out ho fun b hb q => (hq b q).1 (h2 b hb), h2⟩, ho.below h6 (fun b hb => (hq b hb).2) h6.size, h7, fun b hb => Nat.lt_of_lt_of_le (h8 b hb) ho.size⟩
theorem Ss.out (h : Ss w0 w Z gs gd n k N) (ho : Out Q w w') (hq : ∀ b, Q b → ¬ Z b ∧ w0.heap.size ≤ b) : Ss w0 w' Z gs gd n k N := by
  obtain ⟨d, ⟨La, Lb, lv, h1, h2⟩, h3⟩ := h
  exact ⟨d, ⟨La, Lb, lv, h1.out ho hq, h2⟩, h3⟩
end
end Go.Proofs.YtmhfhhhhbcignaaGreat.Sto

namespace Go.Proofs.YtmhfhhhhbcignaaGreat.Sto
open Go.RowKit Disk Log

/-- A store that keeps k, whose disk is dead. -/
def Sq (w0 w : World) (Z : Nat → Prop) (gs gd : Nat) (k : Kp) : Prop := ∃ d p La Lb lv, Sw w0 w Z gs gd d p La Lb lv k false ∧ Fine k ∧ d.dead = true
section
variable {w0 w w' : World} {Z X : Nat → Prop} {gs gd n : Nat} {k : Kp} {N : Nat}
theorem Ss.kill (h : Ss w0 w Z gs gd n k N) : Calls Tryz.prog 24 #[.pointer (some ⟨gd, 0, none⟩)] w fun e w' => e = .returned (.tuple #[]) ∧ ∃ Z', Sq w0 w' Z' gs gd k ∧ Grow Z Z' w w' := by
  obtain ⟨d, ⟨La, Lb, lv, q1, q2⟩, -⟩ := h
  obtain ⟨ga, gb, X, Ya, Yb, V, q3, q4⟩ := q1.at_
  refine (kill_any q3.disk).mono ?_
  rintro e w' ⟨rfl, X', r1, r2, r3⟩
  have hlt := q3.lt
  have hX : ∀ b, X' b → ¬ Ya b ∧ ¬ Yb b ∧ b ≠ gs ∧ ¬ V b := fun b hb => by
    rcases r3 b hb with q | q
    · exact q3.xs b q
    · exact ⟨fun r => by have := hlt b (.inr (.inl r)); omega, fun r => by have := hlt b (.inr (.inr (.inl r))); omega, fun r => by have := hlt gs (by simp); omega, fun r => by have := hlt b (.inr (.inr (.inr (.inl r)))); omega⟩
  obtain ⟨A, c, b1, b2, b3⟩ := q3.bk
  have hm : SvM w' X' Ya Yb V gs gd ga gb d.kill _ La Lb lv k false :=
    ⟨⟨A, c, bk_out' b1 r2 (fun r => (q3.xs gs r).2.2.1 rfl), b2.out r2 (fun b hb r => (q3.xs b r).2.2.2 hb), b3⟩, r1, q3.la.out r2 (fun b hb r => (q3.xs b r).1 hb), q3.lb.out r2 (fun b hb r => (q3.xs b r).2.1 hb), q3.half, hX, q3.ys, q3.zs, fun b hb => ⟨(q3.vs b hb).1, Nat.lt_of_lt_of_le (q3.vs b hb).2 r2.size⟩⟩
  have ho : Out Z w w' := r2.mono fun b hb => .inl (q4 b (.inl hb))
  have hz : ∀ b, (X' b ∨ Ya b ∨ Yb b ∨ V b ∨ b = gs) → Z b ∨ w.heap.size ≤ b := fun b hb => by
    rcases hb with q | q
    · rcases r3 b q with r | r
      · exact .inl (q4 b (.inl r))
      · exact .inr r
    · exact .inl (q4 b (.inr q))
  exact ⟨rfl, fun j => X' j ∨ Ya j ∨ Yb j ∨ V j ∨ j = gs, ⟨_, _, La, Lb, lv, ⟨⟨ga, gb, X', Ya, Yb, V, hm, fun _ h => h⟩, ho.below q1.below q1.own q1.below.size, fun j hj => (hz j hj).elim (q1.own j) fun q => Nat.le_trans q1.below.size q, hm.lt⟩, q2.fine, rfl⟩, ho, hz⟩
theorem Sq.below_ (h : Sq w0 w Z gs gd k) (hb : Below w.heap.size w w') : Sq w0 w' Z gs gd k := by
  obtain ⟨d, p, La, Lb, lv, h1, h2⟩ := h
  exact ⟨d, p, La, Lb, lv, h1.below_ hb, h2⟩
theorem Sq.below (h : Sq w0 w Z gs gd k) : Below w0.heap.size w0 w := by obtain ⟨_, _, _, _, _, h, _⟩ := h; exact h.below
theorem Sq.dead (h : Sq w0 w Z gs gd k) : Calls Tryz.prog 18 #[.pointer (some ⟨gs, 0, none⟩)] w fun e w' => e = .returned (.bool true) ∧ w = w' := by
  obtain ⟨d, p, La, Lb, lv, h1, _, hd⟩ := h
  obtain ⟨ga, gb, X, Ya, Yb, V, h3, h4⟩ := h1.at_
  have := sdead_any h3
  rwa [hd] at this
theorem Sq.promise (h : Sq w0 w Z gs gd k) (e : Nat) (he : e < 18446744073709551616) :
    Calls Tryz.prog 23 #[.pointer (some ⟨gs, 0, none⟩), .int .u64 (e : Int)] w fun r w' => r = .returned (.int .i64 9) ∧ Below w0.heap.size w0 w' := by
  obtain ⟨d, p, La, Lb, lv, h1, h2, hd⟩ := h
  obtain ⟨ga, gb, X, Ya, Yb, V, h3, h4⟩ := h1.at_
  refine (promise_any e h3 (fun q => by rw [hd] at q; cases q) h2 he).mono fun r w' hc => ?_
  obtain ⟨x, d', La', Lb', lv', k', met', Z', rfl, hr, hw, hg⟩ := h1.did h4 h3 hc
  rcases hr with ⟨_, rfl, rfl, rfl, rfl, rfl, rfl, rfl⟩ | ⟨h5, _⟩
  · exact ⟨rfl, hw.below⟩
  · rw [hd] at h5; cases h5
theorem Sq.open_ (h : Sq w0 w Z gs gd k) : Calls Tryz.prog 11 #[.pointer (some ⟨gd, 0, none⟩)] w fun e w' => e = .returned (.tuple #[.pointer none, .int .i64 9]) ∧ w = w' := by
  obtain ⟨d, p, La, Lb, lv, h1, _, hd⟩ := h
  obtain ⟨ga, gb, X, Ya, Yb, V, h3, h4⟩ := h1.at_
  exact sopen_dead h3.disk hd
end
/-- A disk of too few pages. -/
theorem small_new {w0 w : World} {n : Nat} (h1 : 1 ≤ n) (h8 : n < 8) (hb : Below w0.heap.size w0 w) : Calls Tryz.prog 10 #[.int .i64 (n : Int)] w fun e w' => ∃ gd X, e = .returned (.tuple #[.pointer (some ⟨gd, 0, none⟩), .int .i64 0]) ∧ St w0 w' X gd (DK.new n) := 
  (new_st n w0 w h1 (by omega) hb).mono fun e w' ⟨gd, X, he, h1, h2, h3⟩ => ⟨gd, X, he, h1⟩
theorem small_open {w0 w : World} {X : Nat → Prop} {gd n : Nat} (h : St w0 w X gd (DK.new n)) (h8 : n < 8) : Calls Tryz.prog 11 #[.pointer (some ⟨gd, 0, none⟩)] w fun e w' => e = .returned (.tuple #[.pointer none, .int .i64 1]) ∧ w = w' :=
  sopen_small h.at_ rfl (by show (List.replicate _ _).length < 8; rw [List.length_replicate]; exact h8)
end Go.Proofs.YtmhfhhhhbcignaaGreat.Sto

namespace Go.Proofs.YtmhfhhhhbcignaaGreat.Sto
open Go.RowKit Disk Log

theorem ans_bad {D : Deed} {k : Kp} {p : Nat} (h : D.may k = false) : ans D k p = 1 ∧ thn D k p = k := ⟨by unfold ans; rw [h]; rfl, by unfold thn; rw [h, if_neg (by simp)]⟩
theorem ans_full {D : Deed} {k : Kp} {p : Nat} (h : D.may k = true) (hf : fits (D.run k) p = false) : ans D k p = 4 ∧ thn D k p = k := ⟨by unfold ans; rw [if_pos h, hf]; rfl, by unfold thn; rw [hf, if_neg (by simp)]⟩
theorem ans_ok {D : Deed} {k : Kp} {p : Nat} (h : D.may k = true) (hf : fits (D.run k) p = true) : ans D k p = 0 ∧ thn D k p = D.run k := ⟨by unfold ans; rw [if_pos h, if_pos hf], by unfold thn; rw [if_pos ⟨h, hf⟩]⟩
theorem not_may {b : Bool} (h : ¬ b = true) : b = false := by simpa using h
/-- The line of one byte. -/
def l1 : Ln := ⟨1, [1]⟩
theorem l1_ok : lineB l1 = true := lineB_iff.2 ⟨by decide, by decide, by decide, by decide⟩
theorem sum_rep (n : Nat) (x : Ln) : lineSum (List.replicate n x) = n * (16 + x.bytes.length) := by
  induction n with
  | zero => simp [lineSum]
  | succ n ih =>
    rw [List.replicate_succ]
    unfold lineSum at *
    simp
    rw [Nat.add_mul]
    omega
theorem kn_many {p : Nat} : ans (.adopt 1 (List.replicate 257 l1)) Kp.zero p = 1 ∧ thn (.adopt 1 (List.replicate 257 l1)) Kp.zero p = Kp.zero :=
  ans_bad (not_may fun h => by have := (may_adopt.1 h).2.2.2.1; rw [List.length_replicate] at this; omega)
theorem kn_long {p : Nat} {bs : List UInt8} (hb : bs.length = 4097) : ans (.adopt 1 [⟨1, bs⟩]) Kp.zero p = 1 ∧ thn (.adopt 1 [⟨1, bs⟩]) Kp.zero p = Kp.zero :=
  ans_bad (not_may fun h => by
    have := (lineB_iff.1 ((may_adopt.1 h).2.2.2.2 ⟨1, bs⟩ (by simp)).1).2.2.2
    have h2 : bs.length ≤ 4096 := this
    omega)
def kA : Kp := ⟨3, 0, []⟩
def kB (l : List Ln) : Kp := ⟨3, 3, l⟩
def kC (l : List Ln) : Kp := ⟨281474976710656, 3, l⟩
theorem rep_all {x : Ln} (h : x ∈ List.replicate 256 l1) : x = l1 := (List.mem_replicate.1 h).2
theorem rep_len : (List.replicate 256 l1).length = 256 := List.length_replicate
theorem rep_sum : lineSum (List.replicate 256 l1) = 4352 := by rw [sum_rep]; rfl
section
variable {l : List Ln} (hl : l.length = 256) (hs : lineSum l = 4352) (ha : ∀ x ∈ l, x = l1)
theorem kn_prom : ans (.prom 3) Kp.zero (40 / 2) = 0 ∧ thn (.prom 3) Kp.zero (40 / 2) = kA := ans_ok (may_prom.2 ⟨by decide, by decide⟩) (by decide)
include hl hs ha in
theorem kn_all : ans (.adopt 3 l) kA (40 / 2) = 0 ∧ thn (.adopt 3 l) kA (40 / 2) = kB l :=
  ans_ok (may_adopt.2 ⟨by decide, by decide, by decide, by omega, fun x hx => by rw [ha x hx]; exact ⟨l1_ok, by decide⟩⟩) (decide_eq_true (by show 64 + lineSum l ≤ _; rw [hs]; decide))
include hl in
theorem kn_more : ans (.add [⟨3, [98]⟩]) (kB l) (40 / 2) = 1 ∧ thn (.add [⟨3, [98]⟩]) (kB l) (40 / 2) = kB l :=
  ans_bad (not_may fun h => by
    have h2 : 1 + l.length ≤ 256 := (may_add.1 h).2.1
    omega)
theorem kn_again : ans (.adopt 3 []) (kB l) (40 / 2) = 1 ∧ thn (.adopt 3 []) (kB l) (40 / 2) = kB l :=
  ans_bad (not_may fun h => absurd (show 3 < 3 from (may_adopt.1 h).2.1) (by decide))
include hs in
theorem kn_top : ans (.prom 281474976710656) (kB l) (40 / 2) = 0 ∧ thn (.prom 281474976710656) (kB l) (40 / 2) = kC l :=
  ans_ok (may_prom.2 ⟨by show 3 < _; decide, by decide⟩) (decide_eq_true (by show 64 + lineSum l ≤ _; rw [hs]; decide))
include hl in
theorem kn_more2 : ans (.add [⟨3, [98]⟩]) (kC l) (40 / 2) = 1 ∧ thn (.add [⟨3, [98]⟩]) (kC l) (40 / 2) = kC l :=
  ans_bad (not_may fun h => by
    have h2 : 1 + l.length ≤ 256 := (may_add.1 h).2.1
    omega)
end
theorem kn_big {bs : List UInt8} (hb : bs.length = 4096) : ans (.adopt 1 [⟨1, bs⟩]) Kp.zero (8 / 2) = 4 ∧ thn (.adopt 1 [⟨1, bs⟩]) Kp.zero (8 / 2) = Kp.zero :=
  ans_full (may_adopt.2 ⟨by decide, by decide, by decide, by simp, fun x hx => by rw [List.mem_singleton.1 hx]; exact ⟨lineB_iff.2 ⟨Nat.le_refl _, by show 1 ≤ top; decide, by show 1 ≤ bs.length; omega, by show bs.length ≤ 4096; omega⟩, Nat.le_refl _⟩⟩) (decide_eq_false (by show ¬ 64 + lineSum [⟨1, bs⟩] ≤ _; simp [lineSum]; omega))
end Go.Proofs.YtmhfhhhhbcignaaGreat.Sto
