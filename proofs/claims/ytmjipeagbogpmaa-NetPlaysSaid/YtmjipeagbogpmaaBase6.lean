/- Lemmas, part 6: NetCodeD, StrBytes, NetGoes, NetGoes2, Put, Read, Read2, Lines, LineArgs, NetArgs -/
import Derived.Test.YtmjipeagbogpmaaBase5
import Derived.Test.YtmjipeagbogpmaaBase3
import Derived.Deep.MidRow
import Derived.Laws.MakeOwn
import Derived.Test.YtmjipeagbogpmaaBase1
import Derived.Lib.ConvBytes
import Derived.Test.YtmjipeagbogpmaaChecked
import Derived.KernelRfl
import Derived.Lib.OwnKind
import Derived.Deep.Slices
import Derived.SizedLaws
namespace Go.Proofs.Ytmjipeagbogpmaa.Net
open Go.RowKit Disk Zab Sto

def SameW (V W : World) : Prop := V = W
theorem wpList_store_nm {P : Program} {ops : Array Oper} {rest : List Oper} {op : Oper} {a : Act} {w : World} {Q : Exit → Act → World → Prop} (hgd : op.guard = none) (ty : TypeId) (x y : Operand) (ho : op.op = .store ty x y)
    (b o : Nat) (cells : Array Value) (hx : a.eval x = .pointer (some ⟨b, o, none⟩)) (hy : a.eval y = .agg cells)
    (ht : w.there b o cells.size) (hi : (P.info? ty).map (·.size) = some cells.size) (h1 : cells.all (·.oneCell') = true)
    (h : Hid (∀ V, SameW V (w.setCells b o cells.toList) → wpList P ops Q rest (a.put op.dst undef) V)) : wpList P ops Q (op :: rest) a w :=
  wpList_store_mid hgd ty x y ho b o cells hx hy ht hi h1 (h.out _ rfl)
theorem bk_setCells {w : World} {g : Nat} {t : TypeId} : ∀ (vs : List Value) (o : Nat) (W : World) (cs : Array Value), Bk W g t cs → ∃ cs', Bk (W.setCells g o vs) g t cs' ∧ cs'.size = cs.size
  | [], _, W, cs, h => ⟨cs, h, rfl⟩
  | v :: r, o, W, cs, h => by
    obtain ⟨cs', h1, h2⟩ := bk_setCells (w := w) r (o + 1) (W.setCell ⟨g, o, none⟩ v) _ (h.set o v)
    exact ⟨cs', h1, by rw [h2]; simp⟩
theorem there_bk {w : World} {g : Nat} {t : TypeId} {cs : Array Value} (h : Bk w g t cs) {o n : Nat} (hn : o + n ≤ cs.size) : w.there g o n := by
  intro j hj
  refine ⟨?_, h.frozen _⟩
  rw [h.cell, Array.getElem?_eq_getElem (by omega)]
  rfl
structure LtO (w : World) (g n : Nat) (ls : List Lt) : Prop where
  len : ls.length ≤ n
  bk : ∃ cur, Bk w g 37 cur ∧ cur.size = n * 5
  at_ : ∀ j x, ls[j]? = some x → ∃ B m c, w.rangeAt g (j * 5) (ltC x (.slice B m c)) ∧ w.ownsRow (g + 1) 5 1 (.slice B m c) m (x.bs.map U)
theorem LtO.out {w w' : World} {g n : Nat} {ls : List Lt} {X : Nat → Prop} (h : LtO w g n ls) (ho : Out X w w') (hx : ∀ b, g ≤ b → ¬ X b) : LtO w' g n ls := by
  obtain ⟨h1, ⟨cur, h2, h3⟩, h4⟩ := h
  refine ⟨h1, ⟨cur, h2.kept (ho.block g h2.lt (hx g (Nat.le_refl _))), h3⟩, fun j x hj => ?_⟩
  obtain ⟨B, m, c, q1, q2⟩ := h4 j x hj
  refine ⟨B, m, c, fun i v hv => (World.cell?_of_block (w := w) (ho.block g h2.lt (hx g (Nat.le_refl _)))).trans (q1 i v hv), (own_out q2 ho fun b hb => hx b (by have := (q2.lt b hb).1; omega)).1⟩
theorem LtO.below {w w' : World} {g n : Nat} {ls : List Lt} (h : LtO w g n ls) (hb : Below w.heap.size w w') : LtO w' g n ls := h.out (X := fun _ => False) (Out.of_below hb) fun _ _ q => q
theorem own_slice_le {w : World} {base : Nat} {e : TypeId} {A : Option Addr} {n c m : Nat} {xs : List Value} (h : w.ownsRow base e 1 (.slice A n c) m xs) : n ≤ c := by
  rcases h.2 with ⟨e1, rfl⟩ | ⟨g, cap, cur, e1, _, _, hnc, _⟩
  · injection e1 with _ e2 e3
    omega
  · injection e1 with _ e2 e3
    omega
theorem LtO.lts {w : World} {g n : Nat} {ls : List Lt} (h : LtO w g n ls) : LtS (fun b => g ≤ b ∧ b < w.heap.size) w (some ⟨g, 0, none⟩) ls.length ls := by
  obtain ⟨h1, ⟨cur, h2, h3⟩, h4⟩ := h
  refine ⟨rfl, fun j x hj => ?_⟩
  obtain ⟨B, m, c, q1, q2⟩ := h4 j x hj
  exact ⟨g, 0, B, m, c, rfl, ⟨Nat.le_refl _, h2.lt⟩, fun i v hv => by rw [Nat.zero_add]; exact q1 i v hv, own_slice_le q2, (Rd.of_own q2).1, fun b hb h0 => by
    obtain ⟨r1, r2⟩ := q2.lt b.block (by rw [hb]; rfl)
    exact ⟨by omega, r2⟩⟩
theorem LtO.snoc {w w1 : World} {g n : Nat} {ls : List Lt} (h : LtO w1 g n ls) (hl : ls.length < n) {x : Lt} {B : Option Addr} {m c : Nat} (ho : w1.ownsRow (g + 1) 5 1 (.slice B m c) m (x.bs.map U)) (hw : w = w1.setCells g (ls.length * 5) (ltC x (.slice B m c))) : LtO w g n (ls ++ [x]) := by
  obtain ⟨h1, ⟨cur, h2, h3⟩, h4⟩ := h
  have hthere : w1.there g (ls.length * 5) (ltC x (.slice B m c)).length := there_bk h2 (by show ls.length * 5 + 5 ≤ _; omega)
  have hout : Out (fun b => b = g) w1 w := by rw [hw]; exact Out.setCells (X := fun b => b = g) rfl _ _ _
  refine ⟨by rw [List.length_append, List.length_singleton]; omega, ?_, fun j y hj => ?_⟩
  · obtain ⟨cs', q1, q2⟩ := bk_setCells (w := w1) (ltC x (.slice B m c)) (ls.length * 5) w1 cur h2
    exact ⟨cs', by rw [hw]; exact q1, by rw [q2, h3]⟩
  · rcases Nat.lt_or_ge j ls.length with hl2 | hl2
    · rw [List.getElem?_append_left hl2] at hj
      obtain ⟨B2, m2, c2, q1, q2⟩ := h4 j y hj
      refine ⟨B2, m2, c2, ?_, (own_out q2 hout fun b hb e => by have := (q2.lt b hb).1; omega).1⟩
      rw [hw]
      exact World.rangeAt_setCells_apart q1 g _ _ (.inr (.inl (by show j * 5 + 5 ≤ _; omega)))
    · have hlt : j < (ls ++ [x]).length := (List.getElem?_eq_some_iff.1 hj).1
      rw [List.length_append, List.length_singleton] at hlt
      have e : j = ls.length := by omega
      subst e
      rw [List.getElem?_append_right (Nat.le_refl _), Nat.sub_self] at hj
      simp at hj
      subst hj
      refine ⟨B, m, c, ?_, (own_out ho hout fun b hb e => by have := (ho.lt b hb).1; omega).1⟩
      rw [hw]
      exact World.rangeAt_setCells_same _ _ _ _ hthere
section
variable {w0 w : World} {O F : Nat → Prop} {gz : Nat} {As : Option Addr} {cs : Nat} {Ar : Option Addr} {cr gm : Nat} {D : DataW Value} {ps : List Nat} {z : Nt} {N : Nat}
def LetP (row : List Lt) (w : World) (e : Ending) (w' : World) : Prop := ∃ g, e = .returned (.slice (some ⟨g, 0, none⟩) row.length row.length) ∧ w.heap.size ≤ g ∧ LtO w' g row.length row ∧ Below w.heap.size w w'
def RelL (w : World) (g n : Nat) (row : List Lt) (i : Value) (wr : World) : Prop := ∃ k : Nat, k ≤ n ∧ i = .int .i64 (k : Int) ∧ LtO wr g n (row.take k) ∧ Below w.heap.size w wr ∧ w.heap.size ≤ g
set_option maxRecDepth 100000 in
set_option maxHeartbeats 2000000 in
theorem Letters_any (h : NtAt w0 w O gz z N) : Calls Try.prog 13 #[.pointer (some ⟨gz, 0, none⟩)] w (LetP z.row w) := by
  have HH := Lib.hid h
  have hlen4 := h.ok.few
  have HEACH := Lib.hid h.ok.each
  obtain ⟨hz, _, hlow, F, As, cs, Ar, cr, gm, D, ps, hm⟩ := h
  obtain ⟨-, c1, -, -⟩ := hm.cells
  have HM := Lib.hid hm
  obtain ⟨i0, hi0, hz0, hz1, hz2⟩ := infos info_letter
  have hrun := fun W : World => run_make (P := Try.prog) W 46 37 i0 _ ty_letters hi0 hz0 .i64 .i64 (z.row.length : Int) (z.row.length : Int) (by omega) (Int.le_refl _) (by rw [hz2]; omega) (by omega)
  rw [hz1] at hrun
  simp only [Int.toNat_natCast] at hrun
  obtain ⟨Z, hZ⟩ : ∃ Z : Array Value, Z = madeCells (Value.agg #[.int .i64 0, .int .i64 0, .int .i64 0, .int .i64 0, .slice none 0 0]).cells (z.row.length * 5) := ⟨_, rfl⟩
  rw [← hZ] at hrun
  have HRUN := Lib.hid (hrun w)
  have HZS : Hid (Z.size = z.row.length * 5) := by show _ = _; rw [hZ, size_madeCells]
  have hB1 : Below w.heap.size w (w.alloc (.cells Z 37)) := (Below.refl _ _).alloc (Nat.le_refl _) _
  have HB1 := Lib.hid hB1
  have c1' : (w.alloc (.cells Z 37)).cell? ⟨gz, 1, none⟩ = some (.slice Ar z.row.length cr) := (hm.below hB1).cells.2.1
  have H0 : Hid (LtO (w.alloc (.cells Z 37)) w.heap.size z.row.length []) := ⟨Nat.zero_le _, ⟨Z, Bk.new _ _ _, HZS.out⟩, fun j x hj => by simp at hj⟩
  obtain ⟨row, hrow⟩ : ∃ row, row = z.row := ⟨_, rfl⟩
  have HROW := Lib.hid hrow
  have hn4 : (row.length : Int) ≤ 4096 := by rw [hrow]; omega
  rw [← hrow] at HRUN H0 c1 c1' ⊢
  clear hz hlow hi0 hz0 hz1 hz2 hrun hZ hm hB1 hrow hlen4
  obtain ⟨n, hn⟩ : ∃ n, n = row.length := ⟨_, rfl⟩
  rw [← hn] at HRUN H0 c1 c1' hn4
  have HN := Lib.hid hn
  clear hn
  have hmk := HRUN.out
  go_enter Try.func13, Try.ntmps13
  go_wp2_with fail
  generalize hW1 : w.alloc (.cells Z 37) = W1 at *
  go_loopw [19] (fun i wr => RelL w w.heap.size n row i wr) (fun i _ => n - (intOf i).toNat)
  case atStart => exact ⟨0, Nat.zero_le _, rfl, H0.out, HB1.out, Nat.le_refl _⟩
  case round =>
    obtain ⟨k, hk, rfl, hlto, hb, -⟩ := hrel
    by_cases hlt : k < n
    · have hkr : k < z.row.length := by rw [← HROW.out, ← HN.out]; exact hlt
      have hmr := HM.out.below hb
      obtain ⟨p, g, hp, rfl, hc, hF, hl⟩ := hmr.at_ hkr
      obtain ⟨l, hl0⟩ : ∃ l, l = z.row.getD k lt0 := ⟨_, rfl⟩
      rw [← hl0] at hl
      have hrk : row[k]? = some l := by rw [HROW.out, hl0, List.getD_eq_getElem?_getD, List.getElem?_eq_getElem hkr]; rfl
      have hlb := (HEACH.out l (by rw [← HROW.out]; exact List.mem_of_getElem? hrk)).2
      have CC := Lib.hid (copyOf_any hl hlb)
      have HLTO := Lib.hid hlto
      have HB := Lib.hid hb
      have HRK := Lib.hid hrk
      have hk0 : (0 : Int) ≤ (k : Int) := by omega
      have hk1 : (k : Int) < (n : Int) := by omega
      unfold P1 at hc CC
      clear hmr hp hF hl hl0 hrk hlb hlto hb hkr H0 c1 c1'
      go_wp2_with fail
      refine CC.out.mono ?_
      rintro e w3 ⟨B, m, c, rfl, -, -, -, hb3, ho3⟩
      have HLT3 := Lib.hid (HLTO.out.below hb3)
      have HB3 := Lib.hid (HB.out.trans (hb3.mono HB.out.size))
      have hglt : w.heap.size < wr.heap.size := by
        obtain ⟨_, ⟨cur, q, _⟩, _⟩ := HLTO.out
        exact q.lt
      have HO3 := Lib.hid (own_mono ho3 (base' := w.heap.size + 1) (by omega))
      have hlk : (row.take k).length = k := by rw [List.length_take, ← HN.out]; omega
      have HTH : Hid (w3.there w.heap.size (k * 5) 5) := by
        obtain ⟨_, ⟨cur, q1, q2⟩, _⟩ := HLT3.out
        exact there_bk q1 (by omega)
      have HLK := Lib.hid hlk
      clear hb3 ho3 hglt hlk CC HLTO HB
      unfold ltV ltA
      go_wp2_with ((with_reducible refine wpList_store_nm ?_ 37 (.tmp 28) (.tmp 27) ?_ w.heap.size (k * 5) #[.int .i64 l.fr.g, .int .i64 l.fr.n, .int .i64 l.to.g, .int .i64 l.to.n, .slice B m c] ?_ ?_ ?_ ?_ ?_ ?_); (exact rfl); (exact rfl); (exact rfl); (exact rfl); (exact HTH.out); (exact size_letter); (simp [Value.oneCell']))
      refine Lib.hid ?_
      intro V hV
      have hV : V = w3.setCells w.heap.size (k * 5) (ltC l (.slice B m c)) := hV
      have HREL : Hid (RelL w w.heap.size n row (.int .i64 ((k + 1 : Nat) : Int)) V) := by
        refine ⟨k + 1, by omega, rfl, ?_, ?_, Nat.le_refl _⟩
        · have e : row.take (k + 1) = row.take k ++ [l] := by
            have h1 : k < row.length := by rw [← HN.out]; exact hlt
            rw [List.take_succ_eq_append_getElem h1]
            have := HRK.out
            rw [List.getElem?_eq_getElem h1] at this
            injection this with this
            rw [this]
          rw [e]
          refine HLT3.out.snoc (by rw [HLK.out]; exact hlt) HO3.out ?_
          rw [HLK.out, hV]
        · rw [hV]
          exact (Out.setCells (X := fun b => b = w.heap.size) rfl _ _ _).below HB3.out (fun b hb => by rw [hb]; exact Nat.le_refl _) HB3.out.size
      clear hV HLT3 HB3 HO3 HTH HLK HRK
      go_wp2_with fail
      exact ⟨HREL.out, by simp [intOf]; omega⟩
    · obtain rfl : k = n := by omega
      have HLTO := Lib.hid hlto
      have HB := Lib.hid hb
      have v1 : ¬ (k : Int) < (k : Int) := by omega
      clear hlto hb H0 c1 c1' hlt
      go_wp2_with fail
      go_ret
      refine ⟨w.heap.size, by rw [← HN.out]; exact rfl, Nat.le_refl _, ?_, HB.out⟩
      have := HLTO.out
      rw [List.take_of_length_le (by rw [HN.out]; exact Nat.le_refl _), HN.out] at this
      exact this
end
end Go.Proofs.Ytmjipeagbogpmaa.Net

namespace Go.Proofs.Ytmjipeagbogpmaa
open Go.RowKit

theorem str_bytes (bs : List UInt8) (w : World) : ∃ cap WB, (convert 9 35 (.string (S bs))).run Try.prog w = .ok (.slice (some ⟨w.heap.size, 0, none⟩) bs.length cap) WB ∧ bs.length ≤ cap ∧ Rd WB (some ⟨w.heap.size, 0, none⟩) bs.length bs ∧ Below w.heap.size w WB ∧ WB.heap.size = w.heap.size + 1 := by
  have hsz : (S bs).size = bs.length := by simp [S, ByteArray.size]
  have h := Lib.run_convert_string_bytes (P := Try.prog) w 9 35 5 (S bs) ty_string ty_bytes ty_byte
  rw [hsz] at h
  refine ⟨_, _, h, grownCap_ge w _ _ _, ⟨rfl, fun _ => ⟨_, rfl, fun j b hb => ?_⟩⟩, ⟨rfl, rfl, rfl, ?_, fun k hk => Lib.bytesWorld_at_old w _ _ k hk⟩, Lib.bytesWorld_size w _ _⟩
  · have hj : j < (S bs).size := by rw [hsz]; exact (List.getElem?_eq_some_iff.1 hb).1
    have hadd : ((⟨w.heap.size, 0, none⟩ : Addr).add j) = ⟨w.heap.size, j, none⟩ := by unfold Addr.add; split <;> simp_all
    rw [hadd, Lib.bytesWorld_cell w _ _ j hj]
    have : (S bs).data.toList.getD j 0 = b := by
      show bs.toArray.toList.getD j 0 = b
      rw [List.getD_eq_getElem?_getD, hb]
      rfl
    rw [this]
    rfl
  · rw [Lib.bytesWorld_size]
    omega
end Go.Proofs.Ytmjipeagbogpmaa

namespace Go.Proofs.Ytmjipeagbogpmaa.Net
open Go.RowKit Disk Zab Sto

structure Sn (w0 w : World) (O : Nat → Prop) (gz : Nat) (z : Nt) (N : Nat) : Prop where
  nt : NtAt w0 w O gz z N
  bl : Below w0.heap.size w0 w
section
variable {w0 w w' : World} {O O' : Nat → Prop} {gz : Nat} {z y : Nt} {N M : Nat}
theorem Sn.later (h : Sn w0 w O gz z N) (hb : Below w.heap.size w w') : Sn w0 w' O gz z N := ⟨h.nt.below hb, h.bl.trans (hb.mono h.bl.size)⟩
theorem Sn.next (h : Sn w0 w O gz z N) (k : NtAt w0 w' O' gz y M) (hg : Go_ O O' w w') : Sn w0 w' O' gz y M := ⟨k, hg.1.below h.bl (fun b hb => (h.nt.low b hb).1) h.bl.size⟩
theorem Sn.mono (h : Sn w0 w O gz z N) (hm : N ≤ M) : Sn w0 w O gz z M := ⟨h.nt.mono hm, h.bl⟩
def DoneS (w0 : World) (O : Nat → Prop) (gz : Nat) (v : Value) (z : Nt) (N : Nat) (w : World) (e : Ending) (w' : World) : Prop :=
  ∃ O', e = .returned v ∧ Sn w0 w' O' gz z N ∧ Go_ O O' w w'
theorem Sn.send (h : Sn w0 w O gz z N) {l : Lt} {B : Option Addr} {m c : Nat} (hr : Rd w B m l.bs) (hmc : m ≤ c) (hm64 : m ≤ 140737488355328) : Calls Try.prog 20 #[.pointer (some ⟨gz, 0, none⟩), ltV l (.slice B m c)] w (DoneS w0 O gz (.int .i64 (z.send l).2) (z.send l).1 N w) :=
  (Send_any h.nt hr hmc hm64).mono fun _ _ ⟨O', h1, h2, h3⟩ => ⟨O', h1, h.next h2 h3, h3⟩
theorem Sn.drop (h : Sn w0 w O gz z N) (i : Int) : Calls Try.prog 26 #[.pointer (some ⟨gz, 0, none⟩), .int .i64 i] w (DoneS w0 O gz (.int .i64 (z.drop i).2) (z.drop i).1 N w) :=
  (Drop_any h.nt i).mono fun _ _ ⟨O', h1, h2, h3⟩ => ⟨O', h1, h.next h2 h3, h3⟩
theorem Sn.double (h : Sn w0 w O gz z N) (i : Int) : Calls Try.prog 27 #[.pointer (some ⟨gz, 0, none⟩), .int .i64 i] w (DoneS w0 O gz (.int .i64 (z.double i).2) (z.double i).1 N w) :=
  (Double_any h.nt i).mono fun _ _ ⟨O', h1, h2, h3⟩ => ⟨O', h1, h.next h2 h3, h3⟩
theorem Sn.hold (h : Sn w0 w O gz z N) (i : Int) : Calls Try.prog 22 #[.pointer (some ⟨gz, 0, none⟩), .int .i64 i] w (DoneS w0 O gz (.int .i64 (z.hold i).2) (z.hold i).1 N w) :=
  (Hold_any h.nt i).mono fun _ _ ⟨O', h1, h2, h3⟩ => ⟨O', h1, h.next h2 h3, h3⟩
theorem Sn.cut (h : Sn w0 w O gz z N) (hN : N < 1000000) (a b : Ad) : Calls Try.prog 24 #[.pointer (some ⟨gz, 0, none⟩), adV a, adV b] w (DoneS w0 O gz (.int .i64 (z.turn a b true).2) (z.turn a b true).1 (N + 1) w) :=
  (Cut_any h.nt hN a b).mono fun _ _ ⟨O', h1, h2, h3⟩ => ⟨O', h1, h.next h2 h3, h3⟩
theorem Sn.heal (h : Sn w0 w O gz z N) (hN : N < 1000000) (a b : Ad) : Calls Try.prog 25 #[.pointer (some ⟨gz, 0, none⟩), adV a, adV b] w (DoneS w0 O gz (.int .i64 (z.turn a b false).2) (z.turn a b false).1 (N + 1) w) :=
  (Heal_any h.nt hN a b).mono fun _ _ ⟨O', h1, h2, h3⟩ => ⟨O', h1, h.next h2 h3, h3⟩
def TookS (w0 : World) (O : Nat → Prop) (gz : Nat) (r : Nt × Lt × Int) (N : Nat) (w : World) (e : Ending) (w' : World) : Prop :=
  ∃ O' B m k, e = .returned (.tuple #[ltV r.2.1 (.slice B m k), .int .i64 r.2.2]) ∧ m ≤ k ∧ Rd w' B m r.2.1.bs ∧ (∀ a, B = some a → w.heap.size ≤ a.block ∧ ¬ O' a.block) ∧ Sn w0 w' O' gz r.1 N ∧ Go_ O O' w w'
theorem Sn.take (h : Sn w0 w O gz z N) (i : Int) : Calls Try.prog 23 #[.pointer (some ⟨gz, 0, none⟩), .int .i64 i] w (TookS w0 O gz (z.take i) N w) :=
  (Take_any h.nt i).mono fun _ _ ⟨O', B, m, k, h1, h2, h3, h4, h5, h6⟩ => ⟨O', B, m, k, h1, h2, h3, h4, h.next h5 h6, h6⟩
end
def NewS (zs : List Int) (w : World) (e : Ending) (w' : World) : Prop := ∃ g O, e = .returned (.tuple #[.pointer (some ⟨g, 0, none⟩), .int .i64 0]) ∧ Sn w w' O g (Nt.new zs) 0
theorem new_lit (zs : List Int) (hz : sizesOk zs = true) (w : World) : Calls Try.prog 5 #[.slice (some ⟨w.heap.size, 0, none⟩) zs.length zs.length] (w.alloc (.cells (iv zs).toArray 3)) (NewS zs (w.alloc (.cells (iv zs).toArray 3))) := by
  have hr : RdV (w.alloc (.cells (iv zs).toArray 3)) (some ⟨w.heap.size, 0, none⟩) zs.length (iv zs) := ⟨by simp [iv], fun _ => ⟨_, rfl, fun j v hj => by
    rw [plus_add]
    have := (Bk.new w 3 (iv zs).toArray).cell j
    rw [this]
    simpa using hj⟩⟩
  have hl := (sizesOk_iff.1 hz).2.1
  refine (New_any zs _ zs.length zs.length _ hr (by omega)).mono fun e w' ⟨hb, h⟩ => ?_
  rcases h with ⟨h1, _⟩ | ⟨_, g, O, h2, h3⟩
  · rw [hz] at h1; cases h1
  · exact ⟨g, O, h2, h3, hb⟩
def MadeP (l : Lt) (w : World) (e : Ending) (w' : World) : Prop := ∃ B m k, e = .returned (ltV l (.slice B m k)) ∧ m ≤ k ∧ m = l.bs.length ∧ Rd w' B m l.bs ∧ (∀ a, B = some a → w.heap.size ≤ a.block ∧ a.block < w'.heap.size) ∧ Below w.heap.size w w'
set_option maxRecDepth 8000 in
theorem letter_any (a b c d : Int) (bs : List UInt8) (w : World) : Calls Try.prog 21 #[.int .i64 a, .int .i64 b, .int .i64 c, .int .i64 d, .string (S bs)] w (MadeP ⟨⟨a, b⟩, ⟨c, d⟩, bs⟩ w) := by
  have hB : Below w.heap.size w (w.alloc (.cells ltZ 37)) := (Below.refl _ _).alloc (Nat.le_refl _) _
  obtain ⟨cap, WB, hcv, hcap, hr, hb, hsz⟩ := str_bytes bs (w.alloc (.cells ltZ 37))
  have hbk : Bk WB w.heap.size 37 ltZ := (Bk.new w 37 ltZ).below hb
  have HBK := Lib.hid hbk
  have HX := Lib.hid (And.intro hcap (And.intro hr (And.intro (hB.trans (hb.mono hB.size)) hsz)))
  obtain ⟨sp, hsp⟩ : ∃ sp, sp = S bs := ⟨_, rfl⟩
  rw [← hsp] at hcv ⊢
  have kb := hbk.frozen
  have kf0 := kb 0
  have kf1 := kb 1
  have kf2 := kb 2
  have kf3 := kb 3
  have kf4 := kb 4
  obtain ⟨k0, k1, k2, k3, k4⟩ := bk_cells5 hbk
  clear hB hcap hr hb hsz hbk kb hsp
  unfold ltZ at hcv
  simp only [World.size_alloc] at hcv
  go_enter Try.func21, Try.ntmps21
  go_wp2_with fail
  have hb5 := bk_set5 HBK.out (.int .i64 a) (.int .i64 b) (.int .i64 c) (.int .i64 d) (.slice (some ⟨w.heap.size + 1, 0, none⟩) bs.length cap)
  obtain ⟨hcap, hr, hb, hsz⟩ := HX.out
  simp only [World.size_alloc] at hr hsz
  refine bodyPost_ret (results_cell_row rfl _ _ w.heap.size 37 _ (0, 0) _ rfl hb5 Try.underlying37 rfl size_letter) rfl ⟨_, _, _, rfl, hcap, rfl, rd_out hr (out_set5 _ _ _ _ _ _ _) (fun x hx h0 => ?_), fun x hx => ?_, below_set5 hb (Nat.le_refl _) _ _ _ _ _⟩
  · injection hx with hx
    subst hx
    show w.heap.size + 1 ≠ w.heap.size
    omega
  · injection hx with hx
    subst hx
    refine ⟨Nat.le_succ _, ?_⟩
    have := (out_set5 WB w.heap.size (.int .i64 a) (.int .i64 b) (.int .i64 c) (.int .i64 d) (.slice (some ⟨w.heap.size + 1, 0, none⟩) bs.length cap)).size
    refine Nat.lt_of_lt_of_le ?_ this
    show w.heap.size + 1 < _
    omega
end Go.Proofs.Ytmjipeagbogpmaa.Net

namespace Go.Proofs.Ytmjipeagbogpmaa.Net
open Go.RowKit Disk Zab Sto

def LtK (O : Nat → Prop) (w : World) (g : Nat) (l : Lt) : Prop := ∃ B m c, Bk w g 37 (ltA l (.slice B m c)) ∧ m ≤ c ∧ Rd w B m l.bs ∧ ¬ O g ∧ ∀ a, B = some a → 1 ≤ m → ¬ O a.block ∧ a.block < w.heap.size
theorem LtK.out {O O' X : Nat → Prop} {w w' : World} {g : Nat} {l : Lt} (h : LtK O w g l) (ho : Out X w w') (hx : ∀ b, b < w.heap.size → ¬ O b → ¬ X b ∧ ¬ O' b) : LtK O' w' g l := by
  obtain ⟨B, m, c, h1, h2, h3, h4, h5⟩ := h
  exact ⟨B, m, c, h1.kept (ho.block g h1.lt (hx g h1.lt h4).1), h2, rd_out h3 ho fun a ha h0 => (hx _ (h5 a ha h0).2 (h5 a ha h0).1).1, (hx g h1.lt h4).2, fun a ha h0 => ⟨(hx _ (h5 a ha h0).2 (h5 a ha h0).1).2, Nat.lt_of_lt_of_le (h5 a ha h0).2 ho.size⟩⟩
theorem LtK.next {O O' : Nat → Prop} {w w' : World} {g : Nat} {l : Lt} (h : LtK O w g l) (hg : Go_ O O' w w') : LtK O' w' g l :=
  h.out hg.1 fun b hb hn => ⟨hn, fun hq => (hg.2 b hq).elim hn (by omega)⟩
theorem LtK.later {O : Nat → Prop} {w w' : World} {g : Nat} {l : Lt} (h : LtK O w g l) (hb : Below w.heap.size w w') : LtK O w' g l :=
  h.out (X := fun _ => False) (Out.of_below hb) fun _ _ hn => ⟨fun q => q, hn⟩
theorem LtK.new {O : Nat → Prop} {w : World} {l : Lt} {B : Option Addr} {m c : Nat} (hm : m ≤ c) (hr : Rd w B m l.bs) (hn : ∀ a, B = some a → ¬ O a.block) (hO : ∀ b, O b → b < w.heap.size) : LtK O (w.alloc (.cells (ltA l (.slice B m c)) 37)) w.heap.size l := by
  have hb : Below w.heap.size w (w.alloc (.cells (ltA l (.slice B m c)) 37)) := (Below.refl _ _).alloc (Nat.le_refl _) _
  refine ⟨B, m, c, Bk.new _ _ _, hm, hr.below hb, fun h => by have := hO _ h; omega, fun a ha h0 => ⟨hn a ha, ?_⟩⟩
  obtain ⟨ad, e1, hc⟩ := (hr.below hb).cells h0
  rw [ha] at e1
  injection e1 with e1
  subst e1
  have hlt : 0 < l.bs.length := by have := hr.len; omega
  have := World.block_lt_of_cell? _ _ (hc 0 _ (List.getElem?_eq_getElem hlt))
  rwa [addr_add_block] at this
theorem LtK.load {O : Nat → Prop} {w : World} {g : Nat} {l : Lt} (h : LtK O w g l) : ∃ B m c, w.cell? ⟨g, 4, none⟩ = some (.slice B m c) ∧ (convert 35 9 (.slice B m c)).run Try.prog w = .ok (.string (S l.bs)) w ∧ Bk w g 37 (ltA l (.slice B m c)) ∧ Rd w B m l.bs ∧ m ≤ c := by
  obtain ⟨B, m, c, h1, h2, h3, _⟩ := h
  exact ⟨B, m, c, (bk_cells5 h1).2.2.2.2, conv_string h3 c, h1, h3, h2⟩
def gA : Lt := ⟨⟨0, 0⟩, ⟨1, 0⟩, [97]⟩
def gB : Lt := ⟨⟨1, 0⟩, ⟨1, 1⟩, [98]⟩
def g0 : Nt := Nt.new [1, 2]
def g1 : Nt := (g0.send gA).1
def g2 : Nt := (g1.send gB).1
def g3 : Nt := (g2.hold 0).1
def g4 : Nt := (g3.take 0).1
def g5 : Nt := (g4.turn ⟨1, 0⟩ ⟨0, 0⟩ true).1
def g6 : Nt := (g5.take 0).1
def g7 : Nt := (g6.turn ⟨0, 0⟩ ⟨1, 0⟩ false).1
def g8 : Nt := (g7.take 0).1
theorem f1 : (g0.send gA).2 = 0 := by kernel_rfl
theorem f2 : (g1.send gB).2 = 0 := by kernel_rfl
theorem f3 : (g2.hold 0).2 = 0 := by kernel_rfl
theorem f4 : g3.take 0 = (g4, gB, 0) := rfl
theorem f5 : (g4.turn ⟨1, 0⟩ ⟨0, 0⟩ true).2 = 0 := by kernel_rfl
theorem f6 : g5.take 0 = (g6, lt0, 65) := rfl
theorem f7 : (g6.turn ⟨0, 0⟩ ⟨1, 0⟩ false).2 = 0 := by kernel_rfl
theorem f8 : g7.take 0 = (g8, gA, 0) := rfl
theorem f9 : g8.row.length = 0 := by kernel_rfl
set_option maxRecDepth 100000 in
set_option maxHeartbeats 4000000 in
theorem goes_any (w : World) : Calls Try.prog 7 #[] w fun e w' => e = .returned (.bool true) ∧ Below w.heap.size w w' := by
  have CN := Lib.hid (new_lit [1, 2] (by decide) w)
  have HW0 : Hid (Below w.heap.size w (w.alloc (.cells (iv [1, 2]).toArray 3))) := (Below.refl _ _).alloc (Nat.le_refl _) _
  have C1 := Lib.hid (letter_any 0 0 1 0 [97])
  have C2 := Lib.hid (letter_any 1 0 1 1 [98])
  have hS1 : S [97] = ⟨#[97]⟩ := rfl
  have hS2 : S [98] = ⟨#[98]⟩ := rfl
  simp only [hS1] at C1
  simp only [hS2] at C2
  clear hS1 hS2
  obtain ⟨W0, hW0⟩ : ∃ W0, W0 = w.alloc (.cells (iv [1, 2]).toArray 3) := ⟨_, rfl⟩
  rw [← hW0] at CN HW0
  have hw := hW0.symm
  clear hW0
  unfold iv at hw
  simp only [List.map_cons, List.map_nil] at hw
  go_enter Try.func7, Try.ntmps7
  go_wp2_with fail
  refine CN.out.mono ?_
  rintro e w1 ⟨gz, O, rfl, hs⟩
  have HS : Hid (Sn W0 w1 O gz g0 0) := hs
  clear hs CN hw
  go_wp2_with fail
  refine (C1.out _).mono ?_
  rintro e w2 ⟨B, m, c, rfl, hmc, hm, hr, -, hb⟩
  have CS0 := Sn.send (HS.out.later hb) (l := gA) hr hmc (by rw [hm]; decide)
  rw [f1] at CS0
  have CS := Lib.hid CS0
  clear hmc hm hr hb C1 CS0
  go_wp2_with fail
  refine CS.out.mono ?_
  rintro e w3 ⟨O3, rfl, hs, -⟩
  have HS3 : Hid (Sn W0 w3 O3 gz g1 0) := hs
  clear hs CS HS
  go_wp2_with fail
  refine (C2.out _).mono ?_
  rintro e w4 ⟨B, m, c, rfl, hmc, hm, hr, -, hb⟩
  have CS0 := Sn.send (HS3.out.later hb) (l := gB) hr hmc (by rw [hm]; decide)
  rw [f2] at CS0
  have CS := Lib.hid CS0
  clear hmc hm hr hb C2 CS0
  go_wp2_with fail
  refine CS.out.mono ?_
  rintro e w5 ⟨O5, rfl, hs, -⟩
  have HS5 : Hid (Sn W0 w5 O5 gz g2 0) := hs
  have CH0 := Sn.hold HS5.out 0
  rw [f3] at CH0
  have CH := Lib.hid CH0
  clear hs CS HS3 CH0
  go_wp2_with fail
  refine CH.out.mono ?_
  rintro e w6 ⟨O6, rfl, hs, -⟩
  have HS6 : Hid (Sn W0 w6 O6 gz g3 0) := hs
  have CT0 := Sn.take HS6.out 0
  rw [f4] at CT0
  have CT := Lib.hid CT0
  clear CT0 hs CH HS5
  go_wp2_with fail
  refine CT.out.mono ?_
  rintro e w7 ⟨O7, B, m, c, rfl, hmc, hr, hn, hs, -⟩
  have HS7 := Lib.hid hs
  have HK7 := Lib.hid (LtK.new hmc hr (fun a ha => (hn a ha).2) fun b hb => (hs.nt.low b hb).2)
  have CC0 := Sn.cut (hs.later ((Below.refl _ _).alloc (Nat.le_refl _) (.cells (ltA gB (.slice B m c)) 37))) (by decide) ⟨1, 0⟩ ⟨0, 0⟩
  dsimp only at CC0
  rw [f5] at CC0
  have CC := Lib.hid CC0
  unfold adV ltA gB at CC
  unfold ltV ltA gB
  clear hmc hr hn hs CT HS6 CC0
  dsimp only at CC ⊢
  go_wp2_with fail
  refine CC.out.mono ?_
  rintro e w8 ⟨O8, rfl, hs, hg⟩
  have HK8 := Lib.hid (HK7.out.next hg)
  have HS8 : Hid (Sn W0 w8 O8 gz g5 1) := hs
  have CT0 := Sn.take HS8.out 0
  rw [f6] at CT0
  have CT := Lib.hid CT0
  clear CT0 hs hg CC HK7 HS7
  go_wp2_with fail
  refine CT.out.mono ?_
  rintro e w9 ⟨O9, B2, m2, c2, rfl, -, -, -, hs, hg⟩
  have hbn := (Below.refl w9.heap.size w9).alloc (Nat.le_refl _) (.cells (ltA lt0 (.slice B2 m2 c2)) 37)
  have HK9 := Lib.hid ((HK8.out.next hg).later hbn)
  have CC0 := Sn.heal (hs.later hbn) (by decide) ⟨0, 0⟩ ⟨1, 0⟩
  dsimp only at CC0
  rw [f7] at CC0
  have CC := Lib.hid CC0
  unfold adV ltA lt0 ad0 at CC
  unfold ltV ltA lt0 ad0
  clear hs hg CT HK8 HS8 hbn CC0
  dsimp only at CC ⊢
  go_wp2_with fail
  refine CC.out.mono ?_
  rintro e w10 ⟨O10, rfl, hs, hg⟩
  have HK10 := Lib.hid (HK9.out.next hg)
  have HS10 : Hid (Sn W0 w10 O10 gz g7 2) := hs
  have CT0 := Sn.take HS10.out 0
  rw [f8] at CT0
  have CT := Lib.hid CT0
  clear CT0 hs hg CC HK9
  go_wp2_with fail
  refine CT.out.mono ?_
  rintro e w11 ⟨O11, B3, m3, c3, rfl, hmc, hr, hn, hs, hg⟩
  have hbn := (Below.refl w11.heap.size w11).alloc (Nat.le_refl _) (.cells (ltA gA (.slice B3 m3 c3)) 37)
  obtain ⟨Ba, ma, ca, la, sa, -⟩ := ((HK10.out.next hg).later hbn).load
  obtain ⟨Bb, mb, cb, lb, sb, -⟩ := (LtK.new hmc hr (fun a ha => (hn a ha).2) fun b hb => (hs.nt.low b hb).2).load
  have HS11 := Lib.hid (hs.later hbn)
  have CL0 := Len_any HS11.out.nt
  rw [f9] at CL0
  have CL := Lib.hid CL0
  clear CL0 hmc hr hn hs hg CT HK10 HS10 hbn
  unfold gA gB at *
  unfold ltV ltA
  unfold ltA at la sa lb sb CL HS11
  dsimp only at *
  have hS1 : S [97] = ⟨#[97]⟩ := rfl
  have hS2 : S [98] = ⟨#[98]⟩ := rfl
  rw [hS2] at sa
  rw [hS1] at sb
  go_wp2_with fail
  refine CL.out.mono ?_
  rintro e w12 ⟨rfl, rfl⟩
  go_wp2_with fail
  go_ret
  exact ⟨rfl, HW0.out.trans (HS11.out.bl.mono HW0.out.size)⟩
end Go.Proofs.Ytmjipeagbogpmaa.Net

namespace Go.Proofs.Ytmjipeagbogpmaa
open Go.RowKit


end Go.Proofs.Ytmjipeagbogpmaa

namespace Go.Proofs.Ytmjipeagbogpmaa
open Go.RowKit

def val (bs : List UInt8) : Nat := bs.foldl (fun v b => v * 256 + b.toNat) 0

end Go.Proofs.Ytmjipeagbogpmaa

namespace Go.Proofs.Ytmjipeagbogpmaa
open Go.RowKit

end Go.Proofs.Ytmjipeagbogpmaa

namespace Go.Proofs.Ytmjipeagbogpmaa.Log
open Go.RowKit Disk

end Go.Proofs.Ytmjipeagbogpmaa.Log
namespace Go.Proofs.Ytmjipeagbogpmaa.Sto
open Go.RowKit Disk Log

end Go.Proofs.Ytmjipeagbogpmaa.Sto

namespace Go.Proofs.Ytmjipeagbogpmaa.Sto
open Go.ChangeShapes Go.WideShapes Go.ChangeAt Go.RowKit Disk Log

theorem aty_bytes : Try.prog.underlying 35 = some (.slice 5) := by kernel_rfl
theorem aty_u8 : Try.prog.underlying 5 = some (.int .u8) := by kernel_rfl
theorem ace_u8 : Try.prog.cellsOf 5 = 1 := by kernel_rfl
theorem ace_bytes : Try.prog.cellsOf 35 = 1 := by kernel_rfl
theorem asz_u8 : Try.prog.bytesOf 5 = 1 := by kernel_rfl
theorem alist2 {α : Type} {l : List α} (h : l.length = 2) : ∃ a b, l = [a, b] := by
  match l, h with
  | [a, b], _ => exact ⟨a, b, rfl⟩
theorem alist3 {α : Type} {l : List α} (h : l.length = 3) : ∃ a b c, l = [a, b, c] := by
  match l, h with
  | [a, b, c], _ => exact ⟨a, b, c, rfl⟩
theorem weights_mem {H : Type} {P : Program} {e : TypeId} : ∀ {l : List (DataW H)} {d : DataW H}, d ∈ l → ∀ n ∈ d.weights P e, n ∈ DataW.weightsAll P e l
  | d :: l, _, h, n, hn => by
    simp only [DataW.weightsAll, List.mem_append]
    rcases List.mem_cons.1 h with rfl | h
    · exact .inl hn
    · exact .inr (weights_mem h n hn)
def Wt {H : Type} (t : TypeId) (d : DataW H) : Prop := ∀ n ∈ d.weights Try.prog t, n ≤ reachBytes
theorem a_plain {w : World} {a : Addr} {v : Value} (h : w.cell? a = some v) : a = ⟨a.block, a.off, none⟩ := by
  obtain ⟨b, o, s⟩ := a
  cases s with
  | none => rfl
  | some x =>
    unfold World.cell? at h
    split at h
    · simp at h
    · cases h
theorem a_add (b o k : Nat) : (⟨b, o, none⟩ : Addr).add k = ⟨b, o + k, none⟩ := by
  unfold Addr.add
  by_cases h : k = 0
  · subst h; simp
  · simp [h]

section
variable {H : Type} {enc : TypeId × Value → H} {w : World} {base : Nat} {spare : Nat → Bool} {held : Bool}

theorem open_bs {fuel : Nat} {cs : List Value} {x : DataW H × List MemPlace} (h : DataW.trod enc Try.prog w base spare held fuel 35 cs = some x) (hw : Wt 35 x.1) : ∃ B m c bs, cs = [.slice B m c] ∧ m ≤ c ∧ m ≤ reachBytes ∧ Rd w B m bs ∧ ∀ b, B = some b → 1 ≤ m → b.block < w.heap.size := by
  rcases open_ints aty_bytes aty_u8 ace_u8 h with ⟨rfl, _⟩ | ⟨a, len, cap, zs, rfl, _, hl, _, hz, hx, hc, hwf⟩
  · exact ⟨none, 0, 0, [], rfl, Nat.le_refl _, Nat.zero_le _, Rd.nil_ _ _, fun b hb => by cases hb⟩
  · have hlz : len ≤ zs.length := by rw [hz]; split <;> omega
    have hr : len ≤ reachBytes := by
      have := hw ((lits (H := H) .u8 (zs.take len)).length + (lits (H := H) .u8 (zs.drop len)).length) (by rw [hx]; simp [DataW.weights, asz_u8])
      simp [lits] at this
      omega
    refine ⟨some a, len, cap, (zs.take len).map (fun z => UInt8.ofNat z.toNat), rfl, hl, hr, ⟨by simp; omega, fun _ => ⟨a, rfl, fun j b hb => ?_⟩⟩, fun b hb h1 => ?_⟩
    · rw [List.getElem?_map, List.getElem?_take] at hb
      split at hb
      · next hj =>
        have hjl : j < zs.length := by omega
        rw [List.getElem?_eq_getElem hjl] at hb
        injection hb with hb
        rw [hc j hjl, ← hb]
        have hw := hwf zs[j] (List.getElem_mem hjl)
        simp [Lit.wf, IntKind.min, IntKind.max, IntKind.signed, IntKind.bits] at hw
        unfold U
        congr 2
        rw [List.getD_eq_getElem?_getD, List.getElem?_eq_getElem hjl]
        simp
        omega
      · cases hb
    · injection hb with hb
      subst hb
      have := World.block_lt_of_cell? w _ (hc 0 (by omega))
      rwa [addr_add_block] at this
theorem open_u8n {fuel : Nat} {cs : List Value} {x : DataW H × List MemPlace} (h : DataW.trod enc Try.prog w base spare held fuel 5 cs = some x) : ∃ e : Nat, cs = [.int .u8 (e : Int)] ∧ e < 256 := by
  obtain ⟨z, rfl, _, hz⟩ := DataW.trod_int aty_u8 h
  simp [Lit.wf, IntKind.min, IntKind.max, IntKind.signed, IntKind.bits] at hz
  exact ⟨z.toNat, by congr 2; omega, by omega⟩
end
end Go.Proofs.Ytmjipeagbogpmaa.Sto

namespace Go.Proofs.Ytmjipeagbogpmaa.Net
open Go.ChangeShapes Go.WideShapes Go.ChangeAt Go.RowKit Disk Zab Sto

def actC (x : A1) (v : Value) : List Value := [.int .u8 (x.do_ : Int), .int .i64 x.i, .int .i64 x.l.fr.g, .int .i64 x.l.fr.n, .int .i64 x.l.to.g, .int .i64 x.l.to.n, v]
structure A1.Ok (x : A1) : Prop where
  d : x.do_ < 256
  i : -9223372036854775808 ≤ x.i ∧ x.i ≤ 9223372036854775807
  f : x.l.fr.Wf
  t : x.l.to.Wf
structure ActS (P : Nat → Prop) (w : World) (A : Option Addr) (n : Nat) (xs : List A1) : Prop where
  len : xs.length = n
  at_ : ∀ (j : Nat) (x : A1), xs[j]? = some x → ∃ b o B m c, A = some ⟨b, o, none⟩ ∧ P b ∧ (∀ i v, (actC x (.slice B m c))[i]? = some v → w.cell? ⟨b, o + j * 7 + i, none⟩ = some v) ∧ m ≤ c ∧ Rd w B m x.l.bs ∧ (∀ b, B = some b → 1 ≤ m → P b.block) ∧ x.Ok
theorem ActS.out {P X : Nat → Prop} {w w' : World} {A : Option Addr} {n : Nat} {xs : List A1} (h : ActS P w A n xs) (ho : Out X w w') (hx : ∀ k, P k → ¬ X k) : ActS P w' A n xs :=
  ⟨h.len, fun j x hj => by
    obtain ⟨b, o, B, m, c, h1, h2, h3, h4, h5, h6, h7⟩ := h.at_ j x hj
    exact ⟨b, o, B, m, c, h1, h2, fun i v hv => (ho.cell (World.block_lt_of_cell? w _ (h3 i v hv)) (hx _ h2)).trans (h3 i v hv), h4, rd_out h5 ho (fun a ha h0 => hx _ (h6 a ha h0)), h6, h7⟩⟩
theorem ActS.below {P : Nat → Prop} {w w' : World} {A : Option Addr} {n : Nat} {xs : List A1} (h : ActS P w A n xs) (hb : Below w.heap.size w w') : ActS P w' A n xs := h.out (X := fun _ => False) (Out.of_below hb) fun _ _ q => q
theorem ActS.get {P : Nat → Prop} {w : World} {A : Option Addr} {n : Nat} {xs : List A1} (h : ActS P w A n xs) {j : Nat} {x : A1} (hj : xs[j]? = some x) : ∃ b o B m c, A = some ⟨b, o, none⟩ ∧ P b ∧ w.cell? ⟨b, o + j * 7, none⟩ = some (.int .u8 (x.do_ : Int)) ∧ w.cell? ⟨b, o + j * 7 + 1, none⟩ = some (.int .i64 x.i) ∧ w.cell? ⟨b, o + j * 7 + 2, none⟩ = some (.int .i64 x.l.fr.g) ∧ w.cell? ⟨b, o + j * 7 + 3, none⟩ = some (.int .i64 x.l.fr.n) ∧ w.cell? ⟨b, o + j * 7 + 4, none⟩ = some (.int .i64 x.l.to.g) ∧ w.cell? ⟨b, o + j * 7 + 5, none⟩ = some (.int .i64 x.l.to.n) ∧ w.cell? ⟨b, o + j * 7 + 6, none⟩ = some (.slice B m c) ∧ m ≤ c ∧ Rd w B m x.l.bs ∧ (∀ b, B = some b → 1 ≤ m → P b.block) ∧ x.Ok := by
  obtain ⟨b, o, B, m, c, h1, h2, h3, h4, h5, h6, h7⟩ := h.at_ j x hj
  exact ⟨b, o, B, m, c, h1, h2, h3 0 _ rfl, h3 1 _ rfl, h3 2 _ rfl, h3 3 _ rfl, h3 4 _ rfl, h3 5 _ rfl, h3 6 _ rfl, h4, h5, h6, h7⟩
theorem nty_acts : Try.prog.underlying 23 = some (.slice 39) := by kernel_rfl
theorem nce_act : Try.prog.cellsOf 39 = 7 := by kernel_rfl
theorem nsz_act : Try.prog.bytesOf 39 = 72 := by kernel_rfl
theorem nce_letter : Try.prog.cellsOf 37 = 5 := by kernel_rfl
section
variable {H : Type} {enc : TypeId × Value → H} {w : World} {base : Nat} {spare : Nat → Bool} {held : Bool}
theorem open_i64 {fuel : Nat} {cs : List Value} {x : DataW H × List MemPlace} (h : DataW.trod enc Try.prog w base spare held fuel 3 cs = some x) : ∃ z : Int, cs = [.int .i64 z] ∧ -9223372036854775808 ≤ z ∧ z ≤ 9223372036854775807 := by
  obtain ⟨z, rfl, _, hz⟩ := DataW.trod_int ty_int h
  simp [Lit.wf, IntKind.min, IntKind.max, IntKind.signed, IntKind.bits] at hz
  exact ⟨z, rfl, by omega, by omega⟩
theorem open_addr {fuel : Nat} {cs : List Value} {x : DataW H × List MemPlace} (h : DataW.trod enc Try.prog w base spare held fuel 34 cs = some x) : ∃ a : Ad, cs = adC a ∧ a.Wf := by
  obtain ⟨xs, m, _, hx, hlen, hxl, hf⟩ := DataW.trod_struct Try.underlying34 h
  rw [cells_addr] at hlen
  have hxl : xs.length = 2 := hxl
  obtain ⟨y0, y1, rfl⟩ := alist2 hxl
  obtain ⟨v0, v1, rfl⟩ := alist2 hlen
  have g0 := hf 0 _ rfl
  have g1 := hf 1 _ rfl
  simp [cells_int] at g0 g1
  obtain ⟨a, e0, ha⟩ := open_i64 g0
  obtain ⟨b, e1, hb⟩ := open_i64 g1
  simp at e0 e1
  subst e0 e1
  exact ⟨⟨a, b⟩, rfl, ha, hb⟩
theorem alist5 {α : Type} {l : List α} (h : l.length = 5) : ∃ a b c d e, l = [a, b, c, d, e] := by
  match l, h with
  | [a, b, c, d, e], _ => exact ⟨a, b, c, d, e, rfl⟩
theorem alist7 {α : Type} {l : List α} (h : l.length = 7) : ∃ a b c d e f g, l = [a, b, c, d, e, f, g] := by
  match l, h with
  | [a, b, c, d, e, f, g], _ => exact ⟨a, b, c, d, e, f, g, rfl⟩
theorem open_letter {fuel : Nat} {cs : List Value} {x : DataW H × List MemPlace} (h : DataW.trod enc Try.prog w base spare held fuel 37 cs = some x) (hw : Wt 37 x.1) : ∃ (l : Lt) (B : Option Addr) (m c : Nat), cs = ltC l (.slice B m c) ∧ m ≤ c ∧ l.fr.Wf ∧ l.to.Wf ∧ l.bs.length ≤ reachBytes ∧ Rd w B m l.bs ∧ ∀ b, B = some b → 1 ≤ m → b.block < w.heap.size := by
  obtain ⟨xs, m, _, hx, hlen, hxl, hf⟩ := DataW.trod_struct Try.underlying37 h
  rw [nce_letter] at hlen
  have hxl : xs.length = 3 := hxl
  obtain ⟨y0, y1, y2, rfl⟩ := alist3 hxl
  obtain ⟨v0, v1, v2, v3, v4, rfl⟩ := alist5 hlen
  have g0 := hf 0 _ rfl
  have g1 := hf 1 _ rfl
  have g2 := hf 2 _ rfl
  simp [cells_addr, ace_bytes] at g0 g1 g2
  have hw2 : Wt 35 y2.1 := fun n hn => hw n (by rw [hx]; simp [DataW.weights, Try.underlying37, DataW.weightsEach, hn])
  obtain ⟨a, e0, ha⟩ := open_addr g0
  obtain ⟨b, e1, hb⟩ := open_addr g1
  obtain ⟨B, k, c, bs, e2, h1, h2, h3, h4⟩ := open_bs g2 hw2
  simp [adC] at e0 e1 e2
  obtain ⟨rfl, rfl⟩ := e0
  obtain ⟨rfl, rfl⟩ := e1
  subst e2
  exact ⟨⟨a, b, bs⟩, B, k, c, rfl, h1, ha, hb, by show bs.length ≤ _; rw [h3.len]; exact h2, h3, h4⟩
theorem open_act {fuel : Nat} {cs : List Value} {x : DataW H × List MemPlace} (h : DataW.trod enc Try.prog w base spare held fuel 39 cs = some x) (hw : Wt 39 x.1) : ∃ (y : A1) (B : Option Addr) (m c : Nat), cs = actC y (.slice B m c) ∧ m ≤ c ∧ y.Ok ∧ y.l.bs.length ≤ reachBytes ∧ Rd w B m y.l.bs ∧ ∀ b, B = some b → 1 ≤ m → b.block < w.heap.size := by
  obtain ⟨xs, m, _, hx, hlen, hxl, hf⟩ := DataW.trod_struct Try.underlying39 h
  rw [nce_act] at hlen
  have hxl : xs.length = 3 := hxl
  obtain ⟨y0, y1, y2, rfl⟩ := alist3 hxl
  obtain ⟨v0, v1, v2, v3, v4, v5, v6, rfl⟩ := alist7 hlen
  have g0 := hf 0 _ rfl
  have g1 := hf 1 _ rfl
  have g2 := hf 2 _ rfl
  simp [ace_u8, cells_int, nce_letter] at g0 g1 g2
  have hw2 : Wt 37 y2.1 := fun n hn => hw n (by rw [hx]; simp [DataW.weights, Try.underlying39, DataW.weightsEach, hn])
  obtain ⟨d, e0, hd⟩ := open_u8n g0
  obtain ⟨i, e1, hi⟩ := open_i64 g1
  obtain ⟨l, B, k, c, e2, h1, h2, h3, h4, h5, h6⟩ := open_letter g2 hw2
  simp [ltC] at e0 e1 e2
  subst e0 e1
  obtain ⟨rfl, rfl, rfl, rfl, rfl⟩ := e2
  exact ⟨⟨d, i, l⟩, B, k, c, rfl, h1, ⟨hd, hi, h2, h3⟩, h4, h5, h6⟩
theorem open_acts {fuel : Nat} {cs : List Value} {x : DataW H × List MemPlace} (h : DataW.trod enc Try.prog w base spare held fuel 23 cs = some x) (hw : Wt 23 x.1) : ∃ A n c ls, cs = [.slice A n c] ∧ n ≤ c ∧ n ≤ reachBytes ∧ ActS (fun b => b < w.heap.size) w A n ls ∧ ∀ x ∈ ls, x.l.bs.length ≤ reachBytes := by
  rcases Go.Deep.open_slice nty_acts h with ⟨rfl, _⟩ | ⟨a, len, cap, m, n, D, Pl, rfl, _, hl, _, hmm, hx, hel⟩
  · exact ⟨none, 0, 0, [], rfl, Nat.le_refl _, Nat.zero_le _, ⟨rfl, fun j x hj => by simp at hj⟩, fun y hy => by cases hy⟩
  · have hml : len ≤ m := by rw [hmm]; split <;> omega
    have hr : len ≤ reachBytes := by
      have := hw _ (by rw [hx]; simp only [DataW.weights, nty_acts]; exact List.mem_cons_self)
      rw [nsz_act] at this
      simp at this
      omega
    have each : ∀ i, i < len → ∃ y : A1, ∃ B k c, (∀ q v, (actC y (.slice B k c))[q]? = some v → w.cell? (a.add (7 * i + q)) = some v) ∧ k ≤ c ∧ y.Ok ∧ y.l.bs.length ≤ reachBytes ∧ Rd w B k y.l.bs ∧ ∀ b, B = some b → 1 ≤ k → b.block < w.heap.size := by
      intro i hi
      obtain ⟨cs', h1, h2⟩ := hel i (by omega)
      rw [nce_act] at h1
      obtain ⟨_, hlen, hcell⟩ := World.cells?_some h1
      obtain ⟨y, B, k, c, rfl, q1, q2, q3, q4, q5⟩ := open_act h2 fun v hv => hw v (by
        rw [hx]
        simp only [DataW.weights, nty_acts, List.mem_cons, List.mem_append]
        exact .inr (.inl (weights_mem (List.mem_map.2 ⟨i, List.mem_range.2 hi, rfl⟩) v hv)))
      refine ⟨y, B, k, c, fun q v hq => ?_, q1, q2, q3, q4, q5⟩
      have hq7 : q < 7 := (List.getElem?_eq_some_iff.1 hq).1
      have := hcell q hq7
      rw [Go.Deep.add_add, Nat.mul_comm] at this
      rw [this]
      have e := (List.getElem?_eq_some_iff.1 hq).2
      first
        | exact hq
        | (rw [← e]; rfl)
    haveI : Inhabited A1 := ⟨⟨0, 0, lt0⟩⟩
    obtain ⟨q, hq⟩ := Go.Deep.choose_lt each
    refine ⟨some a, len, cap, (List.range len).map q, rfl, hl, hr, ⟨by simp, fun j y hj => ?_⟩, fun y hy => ?_⟩
    · have hjl : j < len := by simpa using (List.getElem?_eq_some_iff.1 hj).1
      rw [List.getElem?_map, List.getElem?_range hjl] at hj
      injection hj with hj
      subst hj
      obtain ⟨B, k, c, q1, q2, q3, q4, q5, q6⟩ := hq j hjl
      have hp : a = ⟨a.block, a.off, none⟩ := a_plain (q1 0 _ rfl |> fun z => by
        obtain ⟨_, _, _, z1, _⟩ := hq 0 (by omega)
        simpa [Addr.add] using z1 0 _ rfl)
      have hlt : a.block < w.heap.size := by
        obtain ⟨_, _, _, z1, _⟩ := hq 0 (by omega)
        have := World.block_lt_of_cell? w _ (z1 0 _ rfl)
        rwa [addr_add_block] at this
      rw [hp] at q1
      exact ⟨a.block, a.off, B, k, c, congrArg some hp, hlt, fun i v hv => by
        have := q1 i v hv
        rw [a_add] at this
        rw [show a.off + j * 7 + i = a.off + (7 * j + i) from by omega]
        exact this, q2, q5, q6, q3⟩
    · obtain ⟨i, hi, rfl⟩ := List.mem_map.1 hy
      obtain ⟨_, _, _, _, _, _, q4, _⟩ := hq i (List.mem_range.1 hi)
      exact q4
set_option maxRecDepth 100000 in
theorem arg_acts {b0 : Nat} {r : Reach} {v : Value} {d : DataW H} {ps : List MemPlace} (hv : Value.okWide Try.prog w r b0 23 v) (h : DataW.Trod enc Try.prog w base spare held 23 v d ps) (hw : Wt 23 d) : ∃ A n c ls, v = .slice A n c ∧ n ≤ c ∧ n ≤ reachBytes ∧ ActS (fun b => b < w.heap.size) w A n ls ∧ ∀ x ∈ ls, x.l.bs.length ≤ reachBytes := by
  obtain ⟨A, n, c, rfl⟩ := okWide_slice nty_acts hv
  obtain ⟨fuel, h⟩ := h
  obtain ⟨A', n', c', xs, e, h1, h2, h3, h4⟩ := open_acts h hw
  simp [Value.cells] at e
  obtain ⟨rfl, rfl, rfl⟩ := e
  exact ⟨_, _, _, xs, rfl, h1, h2, h3, h4⟩
end
end Go.Proofs.Ytmjipeagbogpmaa.Net
