/- net: Letters. -/
import Derived.Test.YtephciglcikllaaNetCodeC
import Derived.Test.YtephciglcikllaaNetLts
import Derived.Deep.MidRow
import Derived.Laws.MakeOwn
namespace Go.Proofs.Ytephciglcikllaa.Net
open Go.RowKit Disk Zab Sto

/-- V is W, told so that nothing is rewritten by it. -/
def SameW (V W : World) : Prop := V = W
theorem wpList_store_nm {P : Program} {ops : Array Oper} {rest : List Oper} {op : Oper} {a : Act} {w : World} {Q : Exit → Act → World → Prop} (hgd : op.guard = none) (ty : TypeId) (x y : Operand) (ho : op.op = .store ty x y)
    (b o : Nat) (cells : Array Value) (hx : a.eval x = .pointer (some ⟨b, o, none⟩)) (hy : a.eval y = .agg cells)
    (ht : w.there b o cells.size) (hi : (P.info? ty).map (·.size) = some cells.size) (h1 : cells.all (·.oneCell') = true)
    (h : Hid (∀ V, SameW V (w.setCells b o cells.toList) → wpList P ops Q rest (a.put op.dst undef) V)) : wpList P ops Q (op :: rest) a w :=
  wpList_store_mid hgd ty x y ho b o cells hx hy ht hi h1 (h.out _ rfl)
theorem bk_setCells {w : World} {g : Nat} {t : TypeId} : ∀ (vs : List Value) (o : Nat) (W : World) (cs : Array Value), Bk W g t cs → ∃ cs', Bk (W.setCells g o vs) g t cs' ∧ cs'.size = cs.size
  | [], _, W, cs, h => ⟨cs, h, rfl⟩
  | v :: r, o, W, cs, h => by
    obtain ⟨cs', h1, h2⟩ := bk_setCells (w := w) r (o + 1) (W.setCell ⟨g, o, none⟩ v) _ (h.set o v)
    exact ⟨cs', h1, by rw [h2]; simp⟩
theorem there_bk {w : World} {g : Nat} {t : TypeId} {cs : Array Value} (h : Bk w g t cs) {o n : Nat} (hn : o + n ≤ cs.size) : w.there g o n := by
  intro j hj
  refine ⟨?_, h.frozen _⟩
  rw [h.cell, Array.getElem?_eq_getElem (by omega)]
  rfl
/-- Letters of one's own, in block g; their bytes behind it. -/
structure LtO (w : World) (g n : Nat) (ls : List Lt) : Prop where
  len : ls.length ≤ n
  bk : ∃ cur, Bk w g 37 cur ∧ cur.size = n * 5
  at_ : ∀ j x, ls[j]? = some x → ∃ B m c, w.rangeAt g (j * 5) (ltC x (.slice B m c)) ∧ w.ownsRow (g + 1) 5 1 (.slice B m c) m (x.bs.map U)
theorem LtO.out {w w' : World} {g n : Nat} {ls : List Lt} {X : Nat → Prop} (h : LtO w g n ls) (ho : Out X w w') (hx : ∀ b, g ≤ b → ¬ X b) : LtO w' g n ls := by
  obtain ⟨h1, ⟨cur, h2, h3⟩, h4⟩ := h
  refine ⟨h1, ⟨cur, h2.kept (ho.block g h2.lt (hx g (Nat.le_refl _))), h3⟩, fun j x hj => ?_⟩
  obtain ⟨B, m, c, q1, q2⟩ := h4 j x hj
  refine ⟨B, m, c, fun i v hv => (World.cell?_of_block (w := w) (ho.block g h2.lt (hx g (Nat.le_refl _)))).trans (q1 i v hv), (own_out q2 ho fun b hb => hx b (by have := (q2.lt b hb).1; omega)).1⟩
theorem LtO.below {w w' : World} {g n : Nat} {ls : List Lt} (h : LtO w g n ls) (hb : Below w.heap.size w w') : LtO w' g n ls := h.out (X := fun _ => False) (Out.of_below hb) fun _ _ q => q
theorem own_slice_le {w : World} {base : Nat} {e : TypeId} {A : Option Addr} {n c m : Nat} {xs : List Value} (h : w.ownsRow base e 1 (.slice A n c) m xs) : n ≤ c := by
  rcases h.2 with ⟨e1, rfl⟩ | ⟨g, cap, cur, e1, _, _, hnc, _⟩
  · injection e1 with _ e2 e3
    omega
  · injection e1 with _ e2 e3
    omega
theorem LtO.lts {w : World} {g n : Nat} {ls : List Lt} (h : LtO w g n ls) : LtS (fun b => g ≤ b ∧ b < w.heap.size) w (some ⟨g, 0, none⟩) ls.length ls := by
  obtain ⟨h1, ⟨cur, h2, h3⟩, h4⟩ := h
  refine ⟨rfl, fun j x hj => ?_⟩
  obtain ⟨B, m, c, q1, q2⟩ := h4 j x hj
  exact ⟨g, 0, B, m, c, rfl, ⟨Nat.le_refl _, h2.lt⟩, fun i v hv => by rw [Nat.zero_add]; exact q1 i v hv, own_slice_le q2, (Rd.of_own q2).1, fun b hb h0 => by
    obtain ⟨r1, r2⟩ := q2.lt b.block (by rw [hb]; rfl)
    exact ⟨by omega, r2⟩⟩
theorem LtO.snoc {w w1 : World} {g n : Nat} {ls : List Lt} (h : LtO w1 g n ls) (hl : ls.length < n) {x : Lt} {B : Option Addr} {m c : Nat} (ho : w1.ownsRow (g + 1) 5 1 (.slice B m c) m (x.bs.map U)) (hw : w = w1.setCells g (ls.length * 5) (ltC x (.slice B m c))) : LtO w g n (ls ++ [x]) := by
  obtain ⟨h1, ⟨cur, h2, h3⟩, h4⟩ := h
  have hthere : w1.there g (ls.length * 5) (ltC x (.slice B m c)).length := there_bk h2 (by show ls.length * 5 + 5 ≤ _; omega)
  have hout : Out (fun b => b = g) w1 w := by rw [hw]; exact Out.setCells (X := fun b => b = g) rfl _ _ _
  refine ⟨by rw [List.length_append, List.length_singleton]; omega, ?_, fun j y hj => ?_⟩
  · obtain ⟨cs', q1, q2⟩ := bk_setCells (w := w1) (ltC x (.slice B m c)) (ls.length * 5) w1 cur h2
    exact ⟨cs', by rw [hw]; exact q1, by rw [q2, h3]⟩
  · rcases Nat.lt_or_ge j ls.length with hl2 | hl2
    · rw [List.getElem?_append_left hl2] at hj
      obtain ⟨B2, m2, c2, q1, q2⟩ := h4 j y hj
      refine ⟨B2, m2, c2, ?_, (own_out q2 hout fun b hb e => by have := (q2.lt b hb).1; omega).1⟩
      rw [hw]
      exact World.rangeAt_setCells_apart q1 g _ _ (.inr (.inl (by show j * 5 + 5 ≤ _; omega)))
    · have hlt : j < (ls ++ [x]).length := (List.getElem?_eq_some_iff.1 hj).1
      rw [List.length_append, List.length_singleton] at hlt
      have e : j = ls.length := by omega
      subst e
      rw [List.getElem?_append_right (Nat.le_refl _), Nat.sub_self] at hj
      simp at hj
      subst hj
      refine ⟨B, m, c, ?_, (own_out ho hout fun b hb e => by have := (ho.lt b hb).1; omega).1⟩
      rw [hw]
      exact World.rangeAt_setCells_same _ _ _ _ hthere
section
variable {w0 w : World} {O F : Nat → Prop} {gz : Nat} {As : Option Addr} {cs : Nat} {Ar : Option Addr} {cr gm : Nat} {D : DataW Value} {ps : List Nat} {z : Nt} {N : Nat}
def LetP (row : List Lt) (w : World) (e : Ending) (w' : World) : Prop := ∃ g, e = .returned (.slice (some ⟨g, 0, none⟩) row.length row.length) ∧ w.heap.size ≤ g ∧ LtO w' g row.length row ∧ Below w.heap.size w w'
def RelL (w : World) (g n : Nat) (row : List Lt) (i : Value) (wr : World) : Prop := ∃ k : Nat, k ≤ n ∧ i = .int .i64 (k : Int) ∧ LtO wr g n (row.take k) ∧ Below w.heap.size w wr ∧ w.heap.size ≤ g
set_option maxRecDepth 100000 in
set_option maxHeartbeats 2000000 in
theorem Letters_any (h : NtAt w0 w O gz z N) : Calls Try.prog 17 #[.pointer (some ⟨gz, 0, none⟩)] w (LetP z.row w) := by
  have HH := Lib.hid h
  have hlen4 := h.ok.few
  have HEACH := Lib.hid h.ok.each
  obtain ⟨hz, _, hlow, F, As, cs, Ar, cr, gm, D, ps, hm⟩ := h
  obtain ⟨-, c1, -, -⟩ := hm.cells
  have HM := Lib.hid hm
  obtain ⟨i0, hi0, hz0, hz1, hz2⟩ := infos info_letter
  have hrun := fun W : World => run_make (P := Try.prog) W 46 37 i0 _ ty_letters hi0 hz0 .i64 .i64 (z.row.length : Int) (z.row.length : Int) (by omega) (Int.le_refl _) (by rw [hz2]; omega) (by omega)
  rw [hz1] at hrun
  simp only [Int.toNat_natCast] at hrun
  obtain ⟨Z, hZ⟩ : ∃ Z : Array Value, Z = madeCells (Value.agg #[.int .i64 0, .int .i64 0, .int .i64 0, .int .i64 0, .slice none 0 0]).cells (z.row.length * 5) := ⟨_, rfl⟩
  rw [← hZ] at hrun
  have HRUN := Lib.hid (hrun w)
  have HZS : Hid (Z.size = z.row.length * 5) := by show _ = _; rw [hZ, size_madeCells]
  have hB1 : Below w.heap.size w (w.alloc (.cells Z 37)) := (Below.refl _ _).alloc (Nat.le_refl _) _
  have HB1 := Lib.hid hB1
  have c1' : (w.alloc (.cells Z 37)).cell? ⟨gz, 1, none⟩ = some (.slice Ar z.row.length cr) := (hm.below hB1).cells.2.1
  have H0 : Hid (LtO (w.alloc (.cells Z 37)) w.heap.size z.row.length []) := ⟨Nat.zero_le _, ⟨Z, Bk.new _ _ _, HZS.out⟩, fun j x hj => by simp at hj⟩
  obtain ⟨row, hrow⟩ : ∃ row, row = z.row := ⟨_, rfl⟩
  have HROW := Lib.hid hrow
  have hn4 : (row.length : Int) ≤ 4096 := by rw [hrow]; omega
  rw [← hrow] at HRUN H0 c1 c1' ⊢
  clear hz hlow hi0 hz0 hz1 hz2 hrun hZ hm hB1 hrow hlen4
  obtain ⟨n, hn⟩ : ∃ n, n = row.length := ⟨_, rfl⟩
  rw [← hn] at HRUN H0 c1 c1' hn4
  have HN := Lib.hid hn
  clear hn
  have hmk := HRUN.out
  go_enter Try.func17, Try.ntmps17
  go_wp2_with fail
  generalize hW1 : w.alloc (.cells Z 37) = W1 at *
  go_loopw [19] (fun i wr => RelL w w.heap.size n row i wr) (fun i _ => n - (intOf i).toNat)
  case atStart => exact ⟨0, Nat.zero_le _, rfl, H0.out, HB1.out, Nat.le_refl _⟩
  case round =>
    obtain ⟨k, hk, rfl, hlto, hb, -⟩ := hrel
    by_cases hlt : k < n
    · have hkr : k < z.row.length := by rw [← HROW.out, ← HN.out]; exact hlt
      have hmr := HM.out.below hb
      obtain ⟨p, g, hp, rfl, hc, hF, hl⟩ := hmr.at_ hkr
      obtain ⟨l, hl0⟩ : ∃ l, l = z.row.getD k lt0 := ⟨_, rfl⟩
      rw [← hl0] at hl
      have hrk : row[k]? = some l := by rw [HROW.out, hl0, List.getD_eq_getElem?_getD, List.getElem?_eq_getElem hkr]; rfl
      have hlb := (HEACH.out l (by rw [← HROW.out]; exact List.mem_of_getElem? hrk)).2
      have CC := Lib.hid (copyOf_any hl hlb)
      have HLTO := Lib.hid hlto
      have HB := Lib.hid hb
      have HRK := Lib.hid hrk
      have hk0 : (0 : Int) ≤ (k : Int) := by omega
      have hk1 : (k : Int) < (n : Int) := by omega
      unfold P1 at hc CC
      clear hmr hp hF hl hl0 hrk hlb hlto hb hkr H0 c1 c1'
      go_wp2_with fail
      refine CC.out.mono ?_
      rintro e w3 ⟨B, m, c, rfl, -, -, -, hb3, ho3⟩
      have HLT3 := Lib.hid (HLTO.out.below hb3)
      have HB3 := Lib.hid (HB.out.trans (hb3.mono HB.out.size))
      have hglt : w.heap.size < wr.heap.size := by
        obtain ⟨_, ⟨cur, q, _⟩, _⟩ := HLTO.out
        exact q.lt
      have HO3 := Lib.hid (own_mono ho3 (base' := w.heap.size + 1) (by omega))
      have hlk : (row.take k).length = k := by rw [List.length_take, ← HN.out]; omega
      have HTH : Hid (w3.there w.heap.size (k * 5) 5) := by
        obtain ⟨_, ⟨cur, q1, q2⟩, _⟩ := HLT3.out
        exact there_bk q1 (by omega)
      have HLK := Lib.hid hlk
      clear hb3 ho3 hglt hlk CC HLTO HB
      unfold ltV ltA
      go_wp2_with ((with_reducible refine wpList_store_nm ?_ 37 (.tmp 28) (.tmp 27) ?_ w.heap.size (k * 5) #[.int .i64 l.fr.g, .int .i64 l.fr.n, .int .i64 l.to.g, .int .i64 l.to.n, .slice B m c] ?_ ?_ ?_ ?_ ?_ ?_); (exact rfl); (exact rfl); (exact rfl); (exact rfl); (exact HTH.out); (exact size_letter); (simp [Value.oneCell']))
      refine Lib.hid ?_
      intro V hV
      have hV : V = w3.setCells w.heap.size (k * 5) (ltC l (.slice B m c)) := hV
      have HREL : Hid (RelL w w.heap.size n row (.int .i64 ((k + 1 : Nat) : Int)) V) := by
        refine ⟨k + 1, by omega, rfl, ?_, ?_, Nat.le_refl _⟩
        · have e : row.take (k + 1) = row.take k ++ [l] := by
            have h1 : k < row.length := by rw [← HN.out]; exact hlt
            rw [List.take_succ_eq_append_getElem h1]
            have := HRK.out
            rw [List.getElem?_eq_getElem h1] at this
            injection this with this
            rw [this]
          rw [e]
          refine HLT3.out.snoc (by rw [HLK.out]; exact hlt) HO3.out ?_
          rw [HLK.out, hV]
        · rw [hV]
          exact (Out.setCells (X := fun b => b = w.heap.size) rfl _ _ _).below HB3.out (fun b hb => by rw [hb]; exact Nat.le_refl _) HB3.out.size
      clear hV HLT3 HB3 HO3 HTH HLK HRK
      go_wp2_with fail
      exact ⟨HREL.out, by simp [intOf]; omega⟩
    · obtain rfl : k = n := by omega
      have HLTO := Lib.hid hlto
      have HB := Lib.hid hb
      have v1 : ¬ (k : Int) < (k : Int) := by omega
      clear hlto hb H0 c1 c1' hlt
      go_wp2_with fail
      go_ret
      refine ⟨w.heap.size, by rw [← HN.out]; exact rfl, Nat.le_refl _, ?_, HB.out⟩
      have := HLTO.out
      rw [List.take_of_length_le (by rw [HN.out]; exact Nat.le_refl _), HN.out] at this
      exact this
set_option maxRecDepth 8000 in
theorem Letters_nil (w : World) : Calls Try.prog 17 #[.pointer none] w fun e w' => e = .returned (.slice none 0 0) ∧ w' = w := by
  go_enter Try.func17, Try.ntmps17
  go_wp2_with fail
  go_ret
  exact ⟨rfl, rfl⟩
end
end Go.Proofs.Ytephciglcikllaa.Net
