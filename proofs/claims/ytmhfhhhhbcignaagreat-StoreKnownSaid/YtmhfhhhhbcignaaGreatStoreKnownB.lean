/- StoreKnown: the chapter's examples, and limits: the call returns true, and nothing that was there has turned. No conditions. -/
import Derived.Test.YtmhfhhhhbcignaaGreatBase25
namespace Go.Proofs.YtmhfhhhhbcignaaGreat.storeKnown
open Go.ChangeShapes Go.WideShapes Go.ChangeAt Go.RowKit Disk Log Sto

/-- Where the row of 257 lines stands when j of them are written. -/
structure Many7 (g j : Nat) (wr : World) : Prop where
  done_ : ∀ i, i < j → wr.cell? ⟨g, i * 2, none⟩ = some (.int .u64 1) ∧ ∃ b, wr.cell? ⟨g, i * 2 + 1, none⟩ = some (.slice (some ⟨b, 0, none⟩) 1 1) ∧ g < b ∧ wr.cell? ⟨b, 0, none⟩ = some (.int .u8 1)
  some_ : ∀ i, i < 514 → ∃ v, wr.cell? ⟨g, i, none⟩ = some v
  free : ∀ i, wr.frozen? ⟨g, i, none⟩ = false
theorem many_step {g j : Nat} {wr : World} (h : Many7 g j wr) (hj : j < 257) : Many7 g (j + 1) ((wr.setCells g (j * 2) [.int .u64 1, .slice (some ⟨wr.heap.size, 0, none⟩) 1 1]).alloc (.cells #[.int .u8 1] 5)) := by
  have hgl : g < wr.heap.size := by
    obtain ⟨v, hv⟩ := h.some_ 0 (by omega)
    exact World.block_lt_of_cell? wr _ hv
  have hin := World.cell?_setCells_in g [.int .u64 1, .slice (some ⟨wr.heap.size, 0, none⟩) 1 1] (j * 2) wr (fun q hq => by
    have hq : q < 2 := hq
    obtain ⟨v, hv⟩ := h.some_ (j * 2 + q) (by omega)
    rw [hv]
    rfl)
  have hout : ∀ b i, (b = g → i < j * 2 ∨ j * 2 + 2 ≤ i) → (wr.setCells g (j * 2) [.int .u64 1, .slice (some ⟨wr.heap.size, 0, none⟩) 1 1]).cell? ⟨b, i, none⟩ = wr.cell? ⟨b, i, none⟩ := fun b i hi => World.cell?_setCells_out g _ (j * 2) wr ⟨b, i, none⟩ (fun hb _ => hi hb)
  have hfz : ∀ i, (wr.setCells g (j * 2) [.int .u64 1, .slice (some ⟨wr.heap.size, 0, none⟩) 1 1]).frozen? ⟨g, i, none⟩ = wr.frozen? ⟨g, i, none⟩ := fun i => World.frozen?_setCells g _ (j * 2) wr ⟨g, i, none⟩
  have hsz : (wr.setCells g (j * 2) [.int .u64 1, .slice (some ⟨wr.heap.size, 0, none⟩) 1 1]).heap.size = wr.heap.size := by simp [World.setCells]
  generalize wr.setCells g (j * 2) [.int .u64 1, .slice (some ⟨wr.heap.size, 0, none⟩) 1 1] = V at *
  have hp : ∀ b i, b < wr.heap.size → (V.alloc (.cells #[.int .u8 1] 5)).cell? ⟨b, i, none⟩ = V.cell? ⟨b, i, none⟩ := fun b i hb => World.cell?_alloc_past _ b i (by omega)
  refine ⟨fun i hi => ?_, fun i hi => ?_, fun i => ?_⟩
  · rcases Nat.lt_or_ge i j with hij | hij
    · obtain ⟨q1, b, q2, q3, q4⟩ := h.done_ i hij
      have hbl : b < wr.heap.size := World.block_lt_of_cell? wr _ q4
      exact ⟨by rw [hp g _ hgl, hout g _ (fun _ => by omega)]; exact q1, b, by rw [hp g _ hgl, hout g _ (fun _ => by omega)]; exact q2, q3, by rw [hp b _ hbl, hout b _ (fun e => by omega)]; exact q4⟩
    · obtain rfl : i = j := by omega
      have h0 := hin 0 (by show 0 < 2; omega)
      have h1 := hin 1 (by show 1 < 2; omega)
      refine ⟨by rw [hp g _ hgl]; exact h0, wr.heap.size, by rw [hp g _ hgl]; exact h1, hgl, ?_⟩
      rw [World.cell?_alloc_at _ _ _ _ hsz.symm]
      rfl
  · rw [hp g _ hgl]
    rcases Nat.lt_or_ge i (j * 2) with h1 | h1
    · rw [hout g _ (fun _ => .inl h1)]
      exact h.some_ i hi
    · rcases Nat.lt_or_ge i (j * 2 + 2) with h2 | h2
      · obtain ⟨q, rfl⟩ : ∃ q, i = j * 2 + q := ⟨i - j * 2, by omega⟩
        exact ⟨_, hin q (by show q < 2; omega)⟩
      · rw [hout g _ (fun _ => .inr h2)]
        exact h.some_ i hi
  · rw [World.frozen?_alloc_past _ g i (by omega), hfz]
    exact h.free i
theorem laid_nil : Laid [] := ⟨by simp, fun x hx => by cases hx⟩
theorem laid_rep (n : Nat) (h : n ≤ 300000) : Laid (List.replicate n l1) := ⟨by rw [List.length_replicate]; exact h, fun x hx => by rw [(List.mem_replicate.1 hx).2]; exact ⟨by decide, by decide⟩⟩
theorem kn_seven : ans (.prom 7) Kp.zero (8 / 2) = 0 ∧ thn (.prom 7) Kp.zero (8 / 2) = ⟨7, 0, []⟩ := ans_ok (may_prom.2 ⟨by decide, by decide⟩) (by decide)
theorem make_b (n : Nat) (hn : n ≤ 10000) (w : World) : (Instr.makeSlice 57 (.int .i64 (n : Int)) (.int .i64 (n : Int))).run Tryz.prog w = .ok (.slice (some ⟨w.heap.size, 0, none⟩) n n) (w.alloc (.cells ((List.replicate n (0 : UInt8)).map U).toArray 5)) := by
  obtain ⟨i0, hi0, hi1, hi2, hi3⟩ := info_parts info_byte
  have hmk := run_make_bytes (P := Tryz.prog) ty_bytes hi0 hi1 hi2 hi3 .i64 .i64 n n (Int.le_refl _) (by omega) w
  rw [Int.toNat_natCast, ← List.map_replicate] at hmk
  exact hmk
theorem row_b (n : Nat) (_hn : n ≤ 10000) (w : World) : ∃ WL, WL = (w.alloc (.cells ((List.replicate n (0 : UInt8)).map U).toArray 5)).alloc (.cells #[.int .u64 1, .slice (some ⟨w.heap.size, 0, none⟩) n n] 63) ∧ Below w.heap.size w WL ∧ LnS (fun b => w.heap.size ≤ b ∧ b < WL.heap.size) WL (some ⟨w.heap.size + 1, 0, none⟩) 1 [⟨1, List.replicate n 0⟩] := by
  refine ⟨_, rfl, ((Below.refl _ _).alloc (Nat.le_refl _) _).alloc (by simp) _, ?_⟩
  have hk := (Bk.new w 5 ((List.replicate n (0 : UInt8)).map U).toArray)
  have hk2 := Bk.new (w.alloc (.cells ((List.replicate n (0 : UInt8)).map U).toArray 5)) 63 #[.int .u64 1, .slice (some ⟨w.heap.size, 0, none⟩) n n]
  rw [World.size_alloc] at hk2
  exact lns_one _ hk2 (Nat.le_refl _) (page_rd (hk.alloc _) List.length_replicate) ⟨Nat.le_succ _, by simp⟩ (fun a ha => by injection ha with ha; subst ha; exact ⟨Nat.le_refl _, by simp; omega⟩)
theorem make_257 (w : World) : ∃ M : Array Value, M.size = 514 ∧ (Instr.makeSlice 33 (.int .i64 257) (.int .i64 257)).run Tryz.prog w = .ok (.slice (some ⟨w.heap.size, 0, none⟩) 257 257) (w.alloc (.cells M 63)) := by
  obtain ⟨i0, hi0, hi1, hi2, hi3⟩ := info_parts info_line
  have hmk := run_make (P := Tryz.prog) w 33 63 i0 _ ty_lines hi0 hi1 .i64 .i64 257 257 (by omega) (Int.le_refl _) (by rw [hi3]; decide) (by omega)
  refine ⟨_, ?_, hmk⟩
  rw [size_madeCells, hi2]
  rfl
theorem many_lns {g : Nat} {wr : World} (h : Many7 g 257 wr) : LnS (fun b => g ≤ b ∧ b < wr.heap.size) wr (some ⟨g, 0, none⟩) 257 (List.replicate 257 l1) :=
  ⟨List.length_replicate, fun j x hj => by
    have hjl : j < 257 := by have := (List.getElem?_eq_some_iff.1 hj).1; rwa [List.length_replicate] at this
    have hx : x = l1 := (List.mem_replicate.1 (List.mem_of_getElem? hj)).2
    obtain ⟨q1, b, q2, q3, q4⟩ := h.done_ j hjl
    subst hx
    have hb := World.block_lt_of_cell? wr _ q4
    refine ⟨g, 0, some ⟨b, 0, none⟩, 1, 1, rfl, ⟨Nat.le_refl _, World.block_lt_of_cell? wr _ q1⟩, by rw [Nat.zero_add]; exact q1, by rw [Nat.zero_add]; exact q2, Nat.le_refl _, ⟨rfl, fun _ => ⟨_, rfl, fun i v hv => ?_⟩⟩, fun a ha _ => by injection ha with ha; subst ha; exact ⟨Nat.le_of_lt q3, hb⟩⟩
    have hi0 : i = 0 := by have := (List.getElem?_eq_some_iff.1 hv).1; exact Nat.lt_one_iff.1 this
    subst hi0
    injection hv with hv
    subst hv
    exact q4⟩
theorem LnS.take_ {P : Nat → Prop} {w : World} {A : Option Addr} {n m : Nat} {ls : List Ln} (h : LnS P w A n ls) (hm : m ≤ n) : LnS P w A m (ls.take m) :=
  ⟨by rw [List.length_take, h.len]; omega, fun j x hj => by
    rw [List.getElem?_take] at hj
    split at hj
    · exact h.at_ j x hj
    · cases hj⟩
/-- The store, beside the row of lines. -/
structure KS (w0 : World) (g sz : Nat) (w : World) (gs gd : Nat) (k : Kp) (N : Nat) (Z : Nat → Prop) : Prop where
  ss : Ss w0 w Z gs gd 40 k N
  far : ∀ b, Z b → b < g ∨ sz ≤ b
  lns : LnS (fun b => g ≤ b ∧ b < sz) w (some ⟨g, 0, none⟩) 257 (List.replicate 257 l1)
  size : sz ≤ w.heap.size
def KSP (v : Int) (w0 : World) (g sz gs gd : Nat) (k : Kp) (N : Nat) (e : Ending) (w' : World) : Prop := e = .returned (.int .i64 v) ∧ ∃ Z, KS w0 g sz w' gs gd k N Z
section
variable {w0 w w' : World} {g sz gs gd : Nat} {k k' : Kp} {N : Nat} {Z : Nat → Prop} {v : Int}
theorem KS.below_ (h : KS w0 g sz w gs gd k N Z) (hb : Below w.heap.size w w') : KS w0 g sz w' gs gd k N Z := ⟨h.ss.below_ hb, h.far, h.lns.below hb, Nat.le_trans h.size hb.size⟩
theorem KS.to {e : Ending} (h : KS w0 g sz w gs gd k N Z) (hs : SsTo (.int .i64 v) w0 Z gs gd 40 k' (N + 4) w e w') : KSP v w0 g sz gs gd k' (N + 4) e w' := by
  obtain ⟨he, Z', h1, h2, h3⟩ := hs
  have hsz := h.size
  exact ⟨he, Z', h1, fun b hb => (h3 b hb).elim (h.far b) fun q => .inr (by omega), h.lns.out h2 fun b hb q => by have := h.far b q; omega, Nat.le_trans hsz h2.size⟩
theorem KS.promise (h : KS w0 g sz w gs gd k N Z) (hN : N + 4 < 65536) (e : Nat) (he : e < 18446744073709551616) (ha : ans (.prom e) k (40 / 2) = v ∧ thn (.prom e) k (40 / 2) = k') :
    Calls Tryz.prog 23 #[.pointer (some ⟨gs, 0, none⟩), .int .u64 (e : Int)] w (KSP v w0 g sz gs gd k' (N + 4)) := by
  have := h.ss.promise hN e he
  rw [ha.1, ha.2] at this
  exact this.mono fun e w' q => h.to q
theorem KS.adopt {P : Nat → Prop} (h : KS w0 g sz w gs gd k N Z) (hN : N + 4 < 65536) (e : Nat) (l : List Ln) (he : e < 18446744073709551616) (A : Option Addr) (m c : Nat) (hl : LnS P w A m l) (hs : Laid l) (hP : ∀ b, P b → ¬ Z b ∧ b < w.heap.size) (ha : ans (.adopt e l) k (40 / 2) = v ∧ thn (.adopt e l) k (40 / 2) = k') :
    Calls Tryz.prog 26 #[.pointer (some ⟨gs, 0, none⟩), .int .u64 (e : Int), .slice A m c] w (KSP v w0 g sz gs gd k' (N + 4)) := by
  have := h.ss.adopt hN e l he A m c hl hs hP
  rw [ha.1, ha.2] at this
  exact this.mono fun e w' q => h.to q
theorem KS.append {P : Nat → Prop} (h : KS w0 g sz w gs gd k N Z) (hN : N + 4 < 65536) (l : List Ln) (A : Option Addr) (m c : Nat) (hl : LnS P w A m l) (hs : Laid l) (hP : ∀ b, P b → ¬ Z b ∧ b < w.heap.size) (ha : ans (.add l) k (40 / 2) = v ∧ thn (.add l) k (40 / 2) = k') :
    Calls Tryz.prog 28 #[.pointer (some ⟨gs, 0, none⟩), .slice A m c] w (KSP v w0 g sz gs gd k' (N + 4)) := by
  have := h.ss.append hN l A m c hl hs hP
  rw [ha.1, ha.2] at this
  exact this.mono fun e w' q => h.to q
theorem KS.row (h : KS w0 g sz w gs gd k N Z) : ∀ b, (g ≤ b ∧ b < sz) → ¬ Z b ∧ b < w.heap.size := fun b hb => ⟨fun q => by have := h.far b q; omega, Nat.lt_of_lt_of_le hb.2 h.size⟩
end
def RelM (w0 : World) (gs gd g : Nat) (i : Value) (wr : World) : Prop := ∃ (j : Nat) (Z : Nat → Prop), j ≤ 257 ∧ i = .int .i64 (j : Int) ∧ Many7 g j wr ∧ Ss w0 wr Z gs gd 40 Kp.zero 0 ∧ (∀ b, Z b → b < g) ∧ w0.heap.size ≤ g
set_option maxRecDepth 100000 in
set_option maxHeartbeats 8000000 in
theorem walk (w : World) : Calls Tryz.prog 7 #[] w fun r w' => r = .returned (.bool true) ∧ Below w.heap.size w w' := by
  go_enter Tryz.func7, Tryz.ntmps7
  have CN := Lib.hid (small_new (w0 := w) (w := w) (n := 7) (by decide) (by decide) (Below.refl _ _))
  go_wp2_with fail
  refine CN.out.mono ?_
  rintro e w1 ⟨g7, X7, rfl, h7⟩
  have C7 := Lib.hid (small_open h7 (by decide))
  have HB1 := Lib.hid h7.below
  clear h7 CN
  go_wp2_with fail
  refine C7.out.mono ?_
  rintro e w2 ⟨rfl, rfl⟩
  have CN := Lib.hid (ds_new (w0 := w) (w := w1) (n := 40) (by decide) (by decide) HB1.out)
  clear C7 HB1
  go_wp2_with fail
  refine CN.out.mono ?_
  rintro e w2 ⟨gd, X, rfl, hd, hx, hb⟩
  have CO := Lib.hid (hd.open_ (by decide))
  clear hd hx hb CN
  go_wp2_with fail
  refine CO.out.mono ?_
  rintro e w3 ⟨gs, Z, rfl, hs, -, -, -⟩
  have HS := Lib.hid hs
  obtain ⟨M, hM, hmk⟩ := make_257 w3
  have HMK := Lib.hid hmk
  have hbw : Below w3.heap.size w3 (w3.alloc (.cells M 63)) := (Below.refl _ _).alloc (Nat.le_refl _) _
  have hnew := Bk.new w3 63 M
  have HM7 : Hid (Many7 w3.heap.size 0 (w3.alloc (.cells M 63))) := ⟨fun i hi => absurd hi (Nat.not_lt_zero _), fun i hi => ⟨M[i]'(by omega), by rw [hnew.cell i]; exact Array.getElem?_eq_getElem _⟩, fun i => hnew.frozen i⟩
  have HS7 := Lib.hid (hs.below_ hbw)
  have HZ7 : Hid ((∀ b, Z b → b < w3.heap.size) ∧ w.heap.size ≤ w3.heap.size) := ⟨hs.lt, hs.below.size⟩
  have hmk := HMK.out
  clear hs CO hbw hnew HS
  go_wp2_with fail
  generalize w3.alloc (.cells M 63) = W3 at *
  generalize w3.heap.size = g at *
  clear hmk HMK hM
  go_loopw [10] (fun i wr => RelM w gs gd g i wr) (fun i _ => 257 - (intOf i).toNat)
  case atStart => exact ⟨0, Z, by omega, rfl, HM7.out, HS7.out, HZ7.out.1, HZ7.out.2⟩
  case round =>
    clear HM7 HS7 HZ7
    obtain ⟨j, Zj, hj, rfl, hm, hs, hzg, hwg⟩ := hrel
    have HM := Lib.hid hm
    have HS := Lib.hid hs
    have HZ := Lib.hid hzg
    have HW := Lib.hid hwg
    clear hm hs hzg hwg
    by_cases hlt : j < 257
    · have hj0 : (0 : Int) ≤ (j : Int) := Int.natCast_nonneg _
      have hj1 : (j : Int) < 257 := by omega
      obtain ⟨v0, k0⟩ := HM.out.some_ (j * 2) (by omega)
      obtain ⟨v1, k1⟩ := HM.out.some_ (j * 2 + 1) (by omega)
      have f0 := HM.out.free (j * 2)
      have f1 := HM.out.free (j * 2 + 1)
      have hgl : g < wr.heap.size := World.block_lt_of_cell? wr _ k0
      have hst := many_step HM.out hlt
      have hos : Out (· = g) wr (wr.setCells g (j * 2) [.int .u64 1, .slice (some ⟨wr.heap.size, 0, none⟩) 1 1]) := Out.setCells (X := (· = g)) rfl _ _ wr
      have hss := (HS.out.out hos (fun b hb => by rw [hb]; exact ⟨fun q => by have := HZ.out _ q; omega, HW.out⟩)).below_ ((Below.refl _ _).alloc (Nat.le_refl _) (.cells #[.int .u8 1] 5))
      have HF : Hid (RelM w gs gd g (.int .i64 ((j : Int) + 1)) (((wr.setCell ⟨g, j * 2, none⟩ (.int .u64 1)).setCell ⟨g, j * 2 + 1, none⟩ (.slice (some ⟨wr.heap.size, 0, none⟩) 1 1)).alloc (.cells #[.int .u8 1] 5))) := ⟨j + 1, Zj, by omega, rfl, hst, hss, HZ.out, HW.out⟩
      clear hst hos hss
      go_wp2_with fail
      exact ⟨HF.out, by simp [intOf]; omega⟩
    · obtain rfl : j = 257 := by omega
      have HK0 : Hid (KS w g wr.heap.size wr gs gd Kp.zero 0 Zj) := ⟨HS.out, fun b hb => .inl (HZ.out b hb), many_lns HM.out, Nat.le_refl _⟩
      clear HM HS HZ HW hlt hj
      generalize wr.heap.size = sz at *
      have HK := Lib.hid HK0.out
      clear HK0
      have CP := Lib.hid (HK.out.promise (by decide) 0 (by decide) (ans_bad (by decide)))
      go_wp2_with fail
      refine CP.out.mono ?_
      rintro e wv1 ⟨rfl, Zv1, hk⟩
      clear CP HK
      have HK := Lib.hid hk
      clear hk
      have CP := Lib.hid (HK.out.promise (by decide) 281474976710657 (by decide) (ans_bad (by decide)))
      go_wp2_with fail
      refine CP.out.mono ?_
      rintro e wv2 ⟨rfl, Zv2, hk⟩
      clear CP HK
      have HK := Lib.hid hk
      clear hk
      have CP := Lib.hid (HK.out.adopt (P := fun _ => False) (by decide) 0 [] (by decide) none 0 0 (LnS.nil_ _ _ _) laid_nil (fun _ q => q.elim) (ans_bad (by decide)))
      go_wp2_with fail
      refine CP.out.mono ?_
      rintro e wv3 ⟨rfl, Zv3, hk⟩
      clear CP HK
      have HK := Lib.hid hk
      clear hk
      have CP := Lib.hid (HK.out.adopt (by decide) 1 (List.replicate 257 l1) (by decide) _ 257 257 HK.out.lns (laid_rep 257 (by decide)) HK.out.row kn_many)
      go_wp2_with fail
      refine CP.out.mono ?_
      rintro e wv4 ⟨rfl, Zv4, hk⟩
      clear CP HK
      have HK := Lib.hid hk
      clear hk
      have CL := Lib.hid (line_any 2 [97] wv4)
      go_wp2_with fail
      refine CL.out.mono ?_
      rintro e wv5 ⟨gl, rfl, hl, hb⟩
      have HL := Lib.hid hl
      have HAP : Hid (∀ b, (wv4.heap.size ≤ b ∧ b < wv5.heap.size) → ¬ Zv4 b ∧ b < wv5.heap.size) := fun b hb => ⟨fun q => by have := HK.out.ss.lt b q; omega, hb.2⟩
      have HK2 := Lib.hid (HK.out.below_ hb)
      clear hl hb CL HK
      have HK := Lib.hid HK2.out
      clear HK2
      have CP := Lib.hid (HK.out.adopt (by decide) 1 [⟨2, [97]⟩] (by decide) _ 1 1 HL.out (laid_one (by decide) (by decide)) HAP.out (ans_bad (by decide)))
      go_wp2_with fail
      refine CP.out.mono ?_
      rintro e wv6 ⟨rfl, Zv6, hk⟩
      clear CP HK
      have HK := Lib.hid hk
      clear hk
      clear HL HAP
      have CL := Lib.hid (line_any 0 [97] wv6)
      go_wp2_with fail
      refine CL.out.mono ?_
      rintro e wv7 ⟨gl, rfl, hl, hb⟩
      have HL := Lib.hid hl
      have HAP : Hid (∀ b, (wv6.heap.size ≤ b ∧ b < wv7.heap.size) → ¬ Zv6 b ∧ b < wv7.heap.size) := fun b hb => ⟨fun q => by have := HK.out.ss.lt b q; omega, hb.2⟩
      have HK2 := Lib.hid (HK.out.below_ hb)
      clear hl hb CL HK
      have HK := Lib.hid HK2.out
      clear HK2
      have CP := Lib.hid (HK.out.adopt (by decide) 1 [⟨0, [97]⟩] (by decide) _ 1 1 HL.out (laid_one (by decide) (by decide)) HAP.out (ans_bad (by decide)))
      go_wp2_with fail
      refine CP.out.mono ?_
      rintro e wv8 ⟨rfl, Zv8, hk⟩
      clear CP HK
      have HK := Lib.hid hk
      clear hk
      clear HL HAP
      have CL := Lib.hid (line_any 1 [] wv8)
      go_wp2_with fail
      refine CL.out.mono ?_
      rintro e wv9 ⟨gl, rfl, hl, hb⟩
      have HL := Lib.hid hl
      have HAP : Hid (∀ b, (wv8.heap.size ≤ b ∧ b < wv9.heap.size) → ¬ Zv8 b ∧ b < wv9.heap.size) := fun b hb => ⟨fun q => by have := HK.out.ss.lt b q; omega, hb.2⟩
      have HK2 := Lib.hid (HK.out.below_ hb)
      clear hl hb CL HK
      have HK := Lib.hid HK2.out
      clear HK2
      have CP := Lib.hid (HK.out.adopt (by decide) 1 [⟨1, []⟩] (by decide) _ 1 1 HL.out (laid_one (by decide) (by decide)) HAP.out (ans_bad (by decide)))
      go_wp2_with fail
      refine CP.out.mono ?_
      rintro e wv10 ⟨rfl, Zv10, hk⟩
      clear CP HK
      have HK := Lib.hid hk
      clear hk
      clear HL HAP
      obtain ⟨WL, hWL, hlb, hln⟩ := row_b 4097 (by decide) wv10
      have hmk : (Instr.makeSlice 57 (.int .i64 4097) (.int .i64 4097)).run Tryz.prog wv10 = .ok (.slice (some ⟨wv10.heap.size, 0, none⟩) 4097 4097) (wv10.alloc (.cells ((List.replicate 4097 (0 : UInt8)).map U).toArray 5)) := make_b 4097 (by decide) wv10
      have HAP : Hid (∀ b, (wv10.heap.size ≤ b ∧ b < WL.heap.size) → ¬ Zv10 b ∧ b < WL.heap.size) := fun b hb => ⟨fun q => by have := HK.out.ss.lt b q; omega, hb.2⟩
      have HK2 := Lib.hid (HK.out.below_ hlb)
      have HL := Lib.hid hln
      have HWL := Lib.hid hWL
      have HLE : Hid ((List.replicate 4097 (0 : UInt8)).length = 4097) := List.length_replicate
      generalize List.replicate 4097 (0 : UInt8) = zs at *
      clear hlb hln HK hWL
      have CP := Lib.hid (HK2.out.adopt (by decide) 1 [⟨1, zs⟩] (by decide) _ 1 1 HL.out (laid_one (by decide) (by rw [HLE.out]; decide)) HAP.out (kn_long HLE.out))
      generalize (zs.map U).toArray = MZ at *
      go_wp2_with fail
      rw [← HWL.out]
      refine CP.out.mono ?_
      rintro e wv11 ⟨rfl, Zv11, hk⟩
      clear CP HK2 HL HAP HWL HLE hmk
      have HK := Lib.hid hk
      clear hk
      have CP := Lib.hid (HK.out.append (P := fun _ => False) (by decide) [] none 0 0 (LnS.nil_ _ _ _) laid_nil (fun _ q => q.elim) (ans_bad (by decide)))
      go_wp2_with fail
      refine CP.out.mono ?_
      rintro e wv12 ⟨rfl, Zv12, hk⟩
      clear CP HK
      have HK := Lib.hid hk
      clear hk
      have CL := Lib.hid (line_any 0 [97] wv12)
      go_wp2_with fail
      refine CL.out.mono ?_
      rintro e wv13 ⟨gl, rfl, hl, hb⟩
      have HL := Lib.hid hl
      have HAP : Hid (∀ b, (wv12.heap.size ≤ b ∧ b < wv13.heap.size) → ¬ Zv12 b ∧ b < wv13.heap.size) := fun b hb => ⟨fun q => by have := HK.out.ss.lt b q; omega, hb.2⟩
      have HK2 := Lib.hid (HK.out.below_ hb)
      clear hl hb CL HK
      have HK := Lib.hid HK2.out
      clear HK2
      have CP := Lib.hid (HK.out.append (by decide) [⟨0, [97]⟩] _ 1 1 HL.out (laid_one (by decide) (by decide)) HAP.out (ans_bad (by decide)))
      go_wp2_with fail
      refine CP.out.mono ?_
      rintro e wv14 ⟨rfl, Zv14, hk⟩
      clear CP HK
      have HK := Lib.hid hk
      clear hk
      clear HL HAP
      have CL := Lib.hid (line_any 1 [97] wv14)
      go_wp2_with fail
      refine CL.out.mono ?_
      rintro e wv15 ⟨gl, rfl, hl, hb⟩
      have HL := Lib.hid hl
      have HAP : Hid (∀ b, (wv14.heap.size ≤ b ∧ b < wv15.heap.size) → ¬ Zv14 b ∧ b < wv15.heap.size) := fun b hb => ⟨fun q => by have := HK.out.ss.lt b q; omega, hb.2⟩
      have HK2 := Lib.hid (HK.out.below_ hb)
      clear hl hb CL HK
      have HK := Lib.hid HK2.out
      clear HK2
      have CP := Lib.hid (HK.out.append (by decide) [⟨1, [97]⟩] _ 1 1 HL.out (laid_one (by decide) (by decide)) HAP.out (ans_bad (by decide)))
      go_wp2_with fail
      refine CP.out.mono ?_
      rintro e wv16 ⟨rfl, Zv16, hk⟩
      clear CP HK
      have HK := Lib.hid hk
      clear hk
      clear HL HAP
      have CP := Lib.hid (HK.out.promise (by decide) 3 (by decide) (kn_prom))
      go_wp2_with fail
      refine CP.out.mono ?_
      rintro e wv17 ⟨rfl, Zv17, hk⟩
      clear CP HK
      have HK := Lib.hid hk
      clear hk
      have CP := Lib.hid (HK.out.adopt (P := fun _ => False) (by decide) 2 [] (by decide) none 0 0 (LnS.nil_ _ _ _) laid_nil (fun _ q => q.elim) (ans_bad (by decide)))
      go_wp2_with fail
      refine CP.out.mono ?_
      rintro e wv18 ⟨rfl, Zv18, hk⟩
      clear CP HK
      have HK := Lib.hid hk
      clear hk
      have hrt : (List.replicate 257 l1).take 256 = List.replicate 256 l1 := List.take_replicate ..
      have HL := LnS.take_ (m := 256) HK.out.lns (by decide)
      rw [hrt] at HL
      have HL := Lib.hid HL
      have CP := Lib.hid (HK.out.adopt (by decide) 3 (List.replicate 256 l1) (by decide) _ 256 257 HL.out (laid_rep 256 (by decide)) HK.out.row (kn_all rep_len rep_sum (fun x hx => rep_all hx)))
      go_wp2_with fail
      refine CP.out.mono ?_
      rintro e wv19 ⟨rfl, Zv19, hk⟩
      clear CP HK
      have HK := Lib.hid hk
      clear hk
      clear HL hrt
      have CL := Lib.hid (line_any 3 [98] wv19)
      go_wp2_with fail
      refine CL.out.mono ?_
      rintro e wv20 ⟨gl, rfl, hl, hb⟩
      have HL := Lib.hid hl
      have HAP : Hid (∀ b, (wv19.heap.size ≤ b ∧ b < wv20.heap.size) → ¬ Zv19 b ∧ b < wv20.heap.size) := fun b hb => ⟨fun q => by have := HK.out.ss.lt b q; omega, hb.2⟩
      have HK2 := Lib.hid (HK.out.below_ hb)
      clear hl hb CL HK
      have HK := Lib.hid HK2.out
      clear HK2
      have CP := Lib.hid (HK.out.append (by decide) [⟨3, [98]⟩] _ 1 1 HL.out (laid_one (by decide) (by decide)) HAP.out (kn_more rep_len))
      go_wp2_with fail
      refine CP.out.mono ?_
      rintro e wv21 ⟨rfl, Zv21, hk⟩
      clear CP HK
      have HK := Lib.hid hk
      clear hk
      clear HL HAP
      have CP := Lib.hid (HK.out.adopt (P := fun _ => False) (by decide) 3 [] (by decide) none 0 0 (LnS.nil_ _ _ _) laid_nil (fun _ q => q.elim) (kn_again))
      go_wp2_with fail
      refine CP.out.mono ?_
      rintro e wv22 ⟨rfl, Zv22, hk⟩
      clear CP HK
      have HK := Lib.hid hk
      clear hk
      have CP := Lib.hid (HK.out.promise (by decide) 281474976710656 (by decide) (kn_top rep_sum))
      go_wp2_with fail
      refine CP.out.mono ?_
      rintro e wv23 ⟨rfl, Zv23, hk⟩
      clear CP HK
      have HK := Lib.hid hk
      clear hk
      have CL := Lib.hid (line_any 3 [98] wv23)
      go_wp2_with fail
      refine CL.out.mono ?_
      rintro e wv24 ⟨gl, rfl, hl, hb⟩
      have HL := Lib.hid hl
      have HAP : Hid (∀ b, (wv23.heap.size ≤ b ∧ b < wv24.heap.size) → ¬ Zv23 b ∧ b < wv24.heap.size) := fun b hb => ⟨fun q => by have := HK.out.ss.lt b q; omega, hb.2⟩
      have HK2 := Lib.hid (HK.out.below_ hb)
      clear hl hb CL HK
      have HK := Lib.hid HK2.out
      clear HK2
      have CP := Lib.hid (HK.out.append (by decide) [⟨3, [98]⟩] _ 1 1 HL.out (laid_one (by decide) (by decide)) HAP.out (kn_more2 rep_len))
      go_wp2_with fail
      refine CP.out.mono ?_
      rintro e wv25 ⟨rfl, Zv25, hk⟩
      clear CP HK
      have HK := Lib.hid hk
      clear hk
      clear HL HAP
      have CN := Lib.hid (ds_new (w0 := w) (w := wv25) (n := 8) (by decide) (by decide) HK.out.ss.below)
      go_wp2_with fail
      refine CN.out.mono ?_
      rintro e wn ⟨gd8, X8, rfl, hd, hx, hb⟩
      have HKN := Lib.hid (HK.out.ss.below_ hb)
      have hx2 : ∀ b, X8 b → ¬ Zv25 b := fun b hb q => by have := hx b hb; have := HK.out.ss.lt b q; omega
      have CO := Lib.hid (hd.open_ (by decide))
      have HSZ : Hid (wv25.heap.size ≤ wn.heap.size) := hb.size
      have HX2 := Lib.hid hx2
      have HX := Lib.hid hx
      clear hd hx hx2 hb CN
      go_wp2_with fail
      refine CO.out.mono ?_
      rintro e wo ⟨gs8, Z8, rfl, hs, hb, hz8, -⟩
      have HK3 := Lib.hid (HKN.out.below_ hb)
      have HS8 := Lib.hid hs
      have KW : Hid (w.heap.size ≤ wv25.heap.size) := HK.out.ss.below.size
      have HFR : Hid (∀ b, Z8 b → wv25.heap.size ≤ b) := fun b hb => by
        rcases hz8 b hb with q | q
        · exact HX.out b q
        · have := HSZ.out; omega
      have HLT : Hid (∀ b, Zv25 b → b < wv25.heap.size) := HK.out.ss.lt
      have HSO : Hid (wv25.heap.size ≤ wo.heap.size) := Nat.le_trans HSZ.out hb.size
      clear hs hb hz8 CO HKN HX2 HX HSZ HK
      obtain ⟨WL, hWL, hlb, hln⟩ := row_b 4096 (by decide) wo
      have hmk : (Instr.makeSlice 57 (.int .i64 4096) (.int .i64 4096)).run Tryz.prog wo = .ok (.slice (some ⟨wo.heap.size, 0, none⟩) 4096 4096) (wo.alloc (.cells ((List.replicate 4096 (0 : UInt8)).map U).toArray 5)) := make_b 4096 (by decide) wo
      have HAP : Hid (∀ b, (wo.heap.size ≤ b ∧ b < WL.heap.size) → ¬ Z8 b ∧ b < WL.heap.size) := fun b hb => ⟨fun q => by have := HS8.out.lt b q; omega, hb.2⟩
      have HKL : Hid (wv25.heap.size ≤ WL.heap.size) := Nat.le_trans HSO.out hlb.size
      have HK4 := Lib.hid (HK3.out.below_ hlb)
      have HS9 := Lib.hid (HS8.out.below_ hlb)
      have HL := Lib.hid hln
      have HWL := Lib.hid hWL
      have HLE : Hid ((List.replicate 4096 (0 : UInt8)).length = 4096) := List.length_replicate
      generalize List.replicate 4096 (0 : UInt8) = zs at *
      have cp0 := HS9.out.adopt (by decide) 1 [⟨1, zs⟩] (by decide) _ 1 1 HL.out (laid_one (by decide) (by rw [HLE.out]; decide)) HAP.out
      rw [(kn_big HLE.out).1, (kn_big HLE.out).2] at cp0
      have CP := Lib.hid cp0
      clear hlb hln hWL cp0 HS8 HK3
      generalize (zs.map U).toArray = MZ at *
      go_wp2_with fail
      rw [← HWL.out]
      refine CP.out.mono ?_
      rintro e wp ⟨rfl, Z9, hs9, hg9⟩
      have HKQ := Lib.hid (HK4.out.out hg9.1 (fun b hb => ⟨fun q => by have := HFR.out b hb; have := HLT.out b q; omega, HS9.out.own b hb⟩))
      have HFR2 : Hid (∀ b, Z9 b → wv25.heap.size ≤ b) := fun b hb => by
        rcases hg9.2 b hb with q | q
        · exact HFR.out b q
        · exact Nat.le_trans HKL.out q
      have cp2 := hs9.promise (by decide) 7 (by decide)
      rw [(kn_seven).1] at cp2
      have CP2 := Lib.hid cp2
      clear hs9 hg9 CP cp2 HK4 HS9 HL HAP HWL HLE hmk HFR HKL HSO
      go_wp2_with fail
      refine CP2.out.mono ?_
      rintro e wq ⟨rfl, ZA, hsA, hgA⟩
      have HKR := Lib.hid (HKQ.out.out hgA.1 (fun b hb => ⟨fun q => by have := HFR2.out b hb; have := HLT.out b q; omega, Nat.le_trans KW.out (HFR2.out b hb)⟩))
      have CKL := Lib.hid HKR.out.kill
      clear hsA hgA HKQ CP2 HFR2 HLT
      go_wp2_with fail
      refine CKL.out.mono ?_
      rintro e wr2 ⟨rfl, ZB, hq, -⟩
      have HQ := Lib.hid hq
      have COD := Lib.hid hq.open_
      have CSD := Lib.hid hq.dead
      have CPD := Lib.hid (hq.promise 9 (by decide))
      clear hq CKL HKR
      go_wp2_with fail
      refine COD.out.mono ?_
      rintro e ws ⟨rfl, rfl⟩
      go_wp2_with fail
      refine CSD.out.mono ?_
      rintro e ws ⟨rfl, rfl⟩
      go_wp2_with fail
      refine CPD.out.mono ?_
      rintro e wt ⟨rfl, hb⟩
      have HB := Lib.hid hb
      clear hb COD CSD CPD HQ
      go_wp2_with fail
      refine (keeps_any wt).mono ?_
      rintro e wu ⟨rfl, hb⟩
      have HB2 := Lib.hid (HB.out.trans (hb.mono HB.out.size))
      clear hb
      go_wp2_with fail
      go_ret
      exact ⟨rfl, HB2.out⟩

set_option maxRecDepth 100000 in
theorem lifted (os : Os) (started : os.Started) (H : Type) (enc : TypeId × Value → H) :
    ReturnsInHanded {} Tryz.checked os 7 .any (Rows.storeKnownSpec.pre6 enc Tryz.prog Tryz.f7 Rows.storeKnownRow.domain false) (Rows.storeKnownSpec.post enc Tryz.prog Tryz.f7 false true false false) := by
  refine returnsInHanded_of_change (C := Tryz.checked) own started (by kernel_rfl) Tryz.func7
    (ChangeSpec.witness6 (enc := enc) (C := Tryz.checked) false ⟨#[], #[], []⟩ 8 (by kernel_rfl) (by kernel_rfl) (by kernel_rfl) (by kernel_rfl)) ?_
  intro W base args ds gs before hval0 hW hcnd _
  have hW' := hW
  obtain ⟨p, q, hA0, hV, rfl, hfz, hnd⟩ := hW
  have hA : DataW.TrodAll enc Tryz.prog W 0 (fun _ => true) true Tryz.f7.params.toList args.toList ds p := hA0
  rw [Tryz.params7] at hA
  obtain ⟨rfl, rfl, rfl⟩ := trodAll_none hA
  obtain ⟨rfl, rfl⟩ := trodVars_none hV

  refine (walk W).mono fun e W' ⟨he, hb⟩ => ?_
  subst he
  exact ⟨_, rfl, post_true laidOut (by kernel_rfl) ty_bool (by kernel_rfl) rfl hW' hb rfl⟩

theorem over : Rows.storeKnownRow.holds Tryz.pinned (OpenSpec.ofChange Rows.storeKnownSpec) :=
  OpenClaim.holds_of_wide 7 Tryz.f7 rfl rfl rfl rfl rfl rfl rfl ⟨rfl, rfl, rfl, rfl, rfl⟩ rfl rfl rfl rfl rfl (by kernel_rfl) Tryz.func7 (by kernel_rfl)
    (of_decide_eq_true (by kernel_rfl)) (by unfold Func.isWrapper; first | (rw [if_pos (by decide +kernel)]; kernel_rfl) | (rw [if_neg (by decide +kernel)]; exact ⟨rfl, rfl⟩))
    (fun os started H enc _ => lifted os started H enc)

theorem proved : Rows.StoreKnownSaid :=
  over
end Go.Proofs.YtmhfhhhhbcignaaGreat.storeKnown
