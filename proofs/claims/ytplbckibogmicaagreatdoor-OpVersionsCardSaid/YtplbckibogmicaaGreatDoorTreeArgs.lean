/- Arguments that are rows of effects. -/
import Derived.Test.YtplbckibogmicaaGreatDoorTreeBase
import Derived.Test.YtplbckibogmicaaGreatDoorPathFrame
import Derived.Deep.Slices
namespace Go.Proofs.YtplbckibogmicaaGreatDoor.Tree
open Go.ChangeShapes Go.WideShapes Go.ChangeAt Go.RowKit Path

theorem ty_effs : Tryz.prog.underlying 32 = some (.slice 41) := by kernel_rfl
theorem ty_effss : Tryz.prog.underlying 22 = some (.slice 32) := by kernel_rfl
theorem ce_eff : Tryz.prog.cellsOf 41 = 11 := by kernel_rfl
theorem ce_effs : Tryz.prog.cellsOf 32 = 1 := by kernel_rfl
theorem ce_zn : Tryz.prog.cellsOf 39 = 9 := by kernel_rfl
theorem ce_ses : Tryz.prog.cellsOf 36 = 2 := by kernel_rfl
theorem ce_str : Tryz.prog.cellsOf 9 = 1 := by kernel_rfl
theorem ce_bool : Tryz.prog.cellsOf 4 = 1 := by kernel_rfl
theorem ce_u8 : Tryz.prog.cellsOf 5 = 1 := by kernel_rfl
theorem ce_bytes : Tryz.prog.cellsOf 33 = 1 := by kernel_rfl
theorem ce_u32 : Tryz.prog.cellsOf 34 = 1 := by kernel_rfl
theorem ce_u64 : Tryz.prog.cellsOf 37 = 1 := by kernel_rfl
theorem ce_int : Tryz.prog.cellsOf 3 = 1 := by kernel_rfl
theorem ty_u32 : Tryz.prog.underlying 34 = some (.int .u32) := by kernel_rfl
theorem ty_u64 : Tryz.prog.underlying 37 = some (.int .u64) := by kernel_rfl
theorem ty_i : Tryz.prog.underlying 3 = some (.int .i64) := by kernel_rfl

theorem EfS.any {P : Nat → Prop} {w : World} {A : Option Addr} {n : Nat} {xs : List Ef} (h : EfS P w A n xs) : EfS (fun _ => True) w A n xs :=
  ⟨h.len, fun j hj => by
    obtain ⟨ad, d, e, _, hd, hc⟩ := h.cells j hj
    exact ⟨ad, d, e, trivial, hd.mono (fun _ _ => trivial), hc⟩⟩
/-- The slice '.slice A n c' reads as these rows of effects, in blocks of P. -/
structure EfSS (P : Nat → Prop) (w : World) (A : Option Addr) (n : Nat) (xss : List (List Ef)) : Prop where
  len : xss.length = n
  cells : ∀ j, (h : j < xss.length) → ∃ ad B m c, A = some ad ∧ P ad.block ∧ w.cell? (ad.add j) = some (.slice B m c) ∧ m ≤ c ∧ c ≤ maxLen ∧ EfS P w B m xss[j]
theorem EfSS.nil_ (P : Nat → Prop) (w : World) (A : Option Addr) : EfSS P w A 0 [] := ⟨rfl, fun j h => absurd h (by simp)⟩
theorem EfSS.out {P X : Nat → Prop} {w w' : World} {A : Option Addr} {n : Nat} {xss : List (List Ef)} (h : EfSS P w A n xss) (ho : Out X w w') (hx : ∀ k, P k → ¬ X k) : EfSS P w' A n xss :=
  ⟨h.len, fun j hj => by
    obtain ⟨ad, B, m, c, e, hP, hc, h1, h2, h3⟩ := h.cells j hj
    exact ⟨ad, B, m, c, e, hP, (ho.cell (World.block_lt_of_cell? w _ hc) (by rw [add_block]; exact hx _ hP)).trans hc, h1, h2, h3.out ho hx⟩⟩
theorem EfSS.below {P : Nat → Prop} {w w' : World} {A : Option Addr} {n : Nat} {xss : List (List Ef)} (h : EfSS P w A n xss) (hb : Below w.heap.size w w') : EfSS P w' A n xss := h.out (X := fun _ => False) (.of_below hb) (fun _ _ h => h)
theorem addr_plain {w : World} {a : Addr} {v : Value} (h : w.cell? a = some v) : a = ⟨a.block, a.off, none⟩ := by
  obtain ⟨b, o, s⟩ := a
  cases s with
  | none => rfl
  | some x =>
    unfold World.cell? at h
    split at h
    · simp at h
    · cases h
theorem add_plain (b o k : Nat) : (⟨b, o, none⟩ : Addr).add k = ⟨b, o + k, none⟩ := by
  unfold Addr.add
  by_cases h : k = 0
  · subst h; simp
  · simp [h]
/-- One effect's cells, by their places. -/
theorem EfS.at_ {P : Nat → Prop} {w : World} {A : Option Addr} {n : Nat} {xs : List Ef} (h : EfS P w A n xs) {j : Nat} (hj : j < xs.length) : ∃ b o D m c, A = some ⟨b, o, none⟩ ∧ P b ∧ DataS P w (.slice D m c) xs[j].node.data ∧ xs[j].node.data.length = m ∧
    ∀ (i : Nat) (v : Value), (efC xs[j] (.slice D m c))[i]? = some v → w.cell? ⟨b, o + (11 * j + i), none⟩ = some v := by
  obtain ⟨ad, d, rfl, hP, hd, hc⟩ := h.cells j hj
  obtain ⟨D, m, c, rfl, h1, h2, hr⟩ := hd
  have hq : ad = ⟨ad.block, ad.off, none⟩ := by
    obtain ⟨ad', d', e', _, _, hc'⟩ := h.cells 0 (by omega)
    injection e' with e'
    subst e'
    exact addr_plain (by simpa [Addr.add] using hc' 0 _ rfl)
  refine ⟨ad.block, ad.off, D, m, c, congrArg some hq, hP, ⟨D, m, c, rfl, h1, h2, hr⟩, hr.len, fun i v hv => ?_⟩
  have := hc i v hv
  rw [hq, add_plain] at this
  exact this
theorem EfSS.at_ {P : Nat → Prop} {w : World} {A : Option Addr} {n : Nat} {xss : List (List Ef)} (h : EfSS P w A n xss) {j : Nat} (hj : j < xss.length) : ∃ b o B m c, A = some ⟨b, o, none⟩ ∧ w.cell? ⟨b, o + j, none⟩ = some (.slice B m c) ∧ m ≤ c ∧ c ≤ maxLen ∧ EfS P w B m xss[j] := by
  obtain ⟨ad, B, m, c, rfl, hP, hc, h1, h2, h3⟩ := h.cells j hj
  have hq : ad = ⟨ad.block, ad.off, none⟩ := by
    obtain ⟨ad', _, _, _, e', _, hc', _⟩ := h.cells 0 (by omega)
    injection e' with e'
    subst e'
    exact addr_plain (by simpa [Addr.add] using hc')
  refine ⟨ad.block, ad.off, B, m, c, congrArg some hq, ?_, h1, h2, h3⟩
  rw [hq, add_plain] at hc
  exact hc
/-- '[][]api.Effect{x, y}'. -/
theorem EfSS.two {P : Nat → Prop} {w : World} {A B : Option Addr} {n c m d : Nat} {l k : List Ef} {e : TypeId} (hl : EfS P w A n l) (hm : EfS P w B m k) (h1 : n ≤ c) (h2 : m ≤ d) (h3 : c ≤ maxLen) (h4 : d ≤ maxLen) : EfSS (fun _ => True) (w.alloc (.cells #[.slice A n c, .slice B m d] e)) (some ⟨w.heap.size, 0, none⟩) 2 [l, k] := by
  have hcell : ∀ (o : Obj), (w.alloc o).heap[w.heap.size]? = some o := fun o => by
    show (w.heap.push o)[w.heap.size]? = some o
    simp
  have hb := (Below.refl w.heap.size w).alloc (Nat.le_refl _) (.cells #[.slice A n c, .slice B m d] e)
  refine ⟨rfl, fun j hj => ?_⟩
  match j, hj with
  | 0, _ => exact ⟨_, A, n, c, rfl, trivial, by rw [add_off]; simp only [World.cell?, hcell]; rfl, h1, h3, (hl.below hb).any⟩
  | 1, _ => exact ⟨_, B, m, d, rfl, trivial, by rw [add_off]; simp only [World.cell?, hcell]; rfl, h2, h4, (hm.below hb).any⟩
theorem list2 {α : Type} {l : List α} (h : l.length = 2) : ∃ a b, l = [a, b] := by
  match l, h with
  | [a, b], _ => exact ⟨a, b, rfl⟩
theorem list3 {α : Type} {l : List α} (h : l.length = 3) : ∃ a b c, l = [a, b, c] := by
  match l, h with
  | [a, b, c], _ => exact ⟨a, b, c, rfl⟩
theorem list8 {α : Type} {l : List α} (h : l.length = 8) : ∃ a b c d e f g i, l = [a, b, c, d, e, f, g, i] := by
  match l, h with
  | [a, b, c, d, e, f, g, i], _ => exact ⟨a, b, c, d, e, f, g, i, rfl⟩
theorem list9 {α : Type} {l : List α} (h : l.length = 9) : ∃ a b c d e f g i j, l = [a, b, c, d, e, f, g, i, j] := by
  match l, h with
  | [a, b, c, d, e, f, g, i, j], _ => exact ⟨a, b, c, d, e, f, g, i, j, rfl⟩
theorem list11 {α : Type} {l : List α} (h : l.length = 11) : ∃ a b r, l = a :: b :: r ∧ r.length = 9 := by
  match l, h with
  | a :: b :: r, h => exact ⟨a, b, r, rfl, by simpa using h⟩

section
variable {H : Type} {enc : TypeId × Value → H} {w : World} {base : Nat} {spare : Nat → Bool} {held : Bool}

theorem open_data {fuel : Nat} {cs : List Value} {x : DataW H × List MemPlace} (h : DataW.trod enc Tryz.prog w base spare held fuel 33 cs = some x) : ∃ d bs, cs = [d] ∧ DataS (fun k => k < w.heap.size) w d bs := by
  rcases open_ints Tree.ty_bytes Tree.ty_byte ce_u8 h with ⟨rfl, _⟩ | ⟨a, len, cap, zs, rfl, _, hl, _, hz, _, hc, hw⟩
  · exact ⟨_, [], rfl, DataS.nil_ _ _⟩
  · have hlz : len ≤ zs.length := by rw [hz]; split <;> omega
    refine ⟨_, (zs.take len).map (fun z => UInt8.ofNat z.toNat), rfl, some a, len, cap, rfl, hl, fun h0 ad e => ?_, ⟨by simp; omega, fun _ => ⟨a, rfl, fun j b hb => ?_⟩⟩⟩
    · injection e with e
      subst e
      have := World.block_lt_of_cell? w _ (hc 0 (by omega))
      rwa [add_block] at this
    · rw [List.getElem?_map, List.getElem?_take] at hb
      split at hb
      · next hj =>
        have hjl : j < zs.length := by omega
        rw [List.getElem?_eq_getElem hjl] at hb
        injection hb with hb
        rw [hc j hjl, ← hb]
        have hw := hw zs[j] (List.getElem_mem hjl)
        simp [Lit.wf, IntKind.min, IntKind.max, IntKind.signed, IntKind.bits] at hw
        unfold U
        congr 2
        rw [List.getD_eq_getElem?_getD, List.getElem?_eq_getElem hjl]
        simp
        omega
      · cases hb
theorem open_zn {fuel : Nat} {cs : List Value} {x : DataW H × List MemPlace} (h : DataW.trod enc Tryz.prog w base spare held fuel 39 cs = some x) : ∃ n d, cs = znC n d ∧ DataS (fun k => k < w.heap.size) w d n.data := by
  obtain ⟨xs, m, _, _, hlen, hxl, hf⟩ := DataW.trod_struct Tryz.underlying39 h
  rw [ce_zn] at hlen
  have hxl : xs.length = 8 := hxl
  obtain ⟨y0, y1, y2, y3, y4, y5, y6, y7, rfl⟩ := list8 hxl
  obtain ⟨v0, v1, v2, v3, v4, v5, v6, v7, v8, rfl⟩ := list9 hlen
  · skip
    have g0 := hf 0 _ rfl
    have g1 := hf 1 _ rfl
    have g2 := hf 2 _ rfl
    have g3 := hf 3 _ rfl
    have g4 := hf 4 _ rfl
    have g5 := hf 5 _ rfl
    have g6 := hf 6 _ rfl
    have g7 := hf 7 _ rfl
    simp [ce_bytes, ce_u32, ce_u64, ce_ses] at g0 g1 g2 g3 g4 g5 g6 g7
    obtain ⟨d, bs, e0, hd⟩ := open_data g0
    obtain ⟨z1, e1, _, _⟩ := DataW.trod_int ty_u32 g1
    obtain ⟨z2, e2, _, _⟩ := DataW.trod_int ty_u32 g2
    obtain ⟨z3, e3, _, _⟩ := DataW.trod_int ty_u32 g3
    obtain ⟨z6, e6, _, _⟩ := DataW.trod_int ty_u64 g5
    obtain ⟨z7, e7, _, _⟩ := DataW.trod_int ty_u64 g6
    obtain ⟨z8, e8, _, _⟩ := DataW.trod_int ty_u64 g7
    obtain ⟨xs', m', _, _, hlen', hxl', hf'⟩ := DataW.trod_struct Tryz.underlying36 g4
    have hxl' : xs'.length = 2 := hxl'
    obtain ⟨q0, q1, rfl⟩ := list2 hxl'
    · skip
      have k0 := hf' 0 _ rfl
      have k1 := hf' 1 _ rfl
      simp [ce_int, ce_u32] at k0 k1
      obtain ⟨z4, e4, _, _⟩ := DataW.trod_int ty_i k0
      obtain ⟨z5, e5, _, _⟩ := DataW.trod_int ty_u32 k1
      simp at e0 e1 e2 e3 e4 e5 e6 e7 e8
      subst e0 e1 e2 e3 e4 e5 e6 e7 e8
      exact ⟨⟨bs, z1, z2, z3, z4, z5, z6, z7, z8⟩, _, rfl, hd⟩
theorem open_eff {fuel : Nat} {cs : List Value} {x : DataW H × List MemPlace} (h : DataW.trod enc Tryz.prog w base spare held fuel 41 cs = some x) : ∃ y d, cs = efC y d ∧ DataS (fun k => k < w.heap.size) w d y.node.data := by
  obtain ⟨xs, m, _, _, hlen, hxl, hf⟩ := DataW.trod_struct Tryz.underlying41 h
  rw [ce_eff] at hlen
  have hxl : xs.length = 3 := hxl
  obtain ⟨y0, y1, y2, rfl⟩ := list3 hxl
  obtain ⟨v0, v1, r, rfl, hlen⟩ := list11 hlen
  · skip
    have g0 := hf 0 _ rfl
    have g1 := hf 1 _ rfl
    have g2 := hf 2 _ rfl
    simp [ce_str, ce_bool, ce_zn] at g0 g1 g2
    rw [List.take_of_length_le (by omega)] at g2
    obtain ⟨s, e0, _, _⟩ := DataW.trod_string ty_string g0
    obtain ⟨b, e1, _⟩ := DataW.trod_bool Go.Proofs.YtplbckibogmicaaGreatDoor.ty_bool g1
    obtain ⟨n, d, e2, hd⟩ := open_zn g2
    simp at e0 e1
    subst e0 e1 e2
    exact ⟨⟨s.data.toList, b, n⟩, d, by unfold efC; congr 1, hd⟩
theorem open_effs {fuel : Nat} {cs : List Value} {x : DataW H × List MemPlace} (h : DataW.trod enc Tryz.prog w base spare held fuel 32 cs = some x) : ∃ A n c xs, cs = [.slice A n c] ∧ n ≤ c ∧ c ≤ maxLen ∧ EfS (fun k => k < w.heap.size) w A n xs := by
  rcases Go.Deep.open_slice ty_effs h with ⟨rfl, _⟩ | ⟨a, len, cap, m, n, D, Pl, rfl, _, hl, hm, hmm, _, hx⟩
  · exact ⟨none, 0, 0, [], rfl, Nat.le_refl _, Nat.zero_le _, EfS.nil_ _ _ _⟩
  · have hml : len ≤ m := by rw [hmm]; split <;> omega
    have each : ∀ i, i < len → ∃ (q : Ef × Value), DataS (fun k => k < w.heap.size) w q.2 q.1.node.data ∧ ∀ (j : Nat) (v : Value), (efC q.1 q.2)[j]? = some v → w.cell? (a.add (11 * i + j)) = some v := by
      intro i hi
      obtain ⟨cs', h1, h2⟩ := hx i (by omega)
      rw [ce_eff] at h1
      obtain ⟨_, hlen, hcell⟩ := World.cells?_some h1
      obtain ⟨y, d, rfl, hd⟩ := open_eff h2
      refine ⟨(y, d), hd, fun j v hv => ?_⟩
      have hj : j < 11 := by
        have := (List.getElem?_eq_some_iff.1 hv).1
        rwa [efC_length] at this
      have := hcell j hj
      rw [Go.Deep.add_add, Nat.mul_comm] at this
      rw [this]
      exact hv
    haveI : Inhabited (Ef × Value) := ⟨(⟨[], false, ZN.zero⟩, .nilIface)⟩
    obtain ⟨q, hq⟩ := Go.Deep.choose_lt each
    refine ⟨some a, len, cap, (List.range len).map (fun i => (q i).1), rfl, hl, hm, ⟨by simp, fun j hj => ?_⟩⟩
    have hj' : j < len := by simpa using hj
    obtain ⟨hd, hc⟩ := hq j hj'
    simp only [List.getElem_map, List.getElem_range]
    refine ⟨a, (q j).2, rfl, ?_, hd, hc⟩
    have := World.block_lt_of_cell? w _ (hc 0 _ rfl)
    rwa [add_block] at this
theorem open_effss {fuel : Nat} {cs : List Value} {x : DataW H × List MemPlace} (h : DataW.trod enc Tryz.prog w base spare held fuel 22 cs = some x) : ∃ A n c xss, cs = [.slice A n c] ∧ n ≤ c ∧ c ≤ maxLen ∧ EfSS (fun k => k < w.heap.size) w A n xss ∧ (n = 0 ∨ ∃ es sp, x.1 = .slice es sp ∧ es.length = n) := by
  rcases Go.Deep.open_slice1 ty_effss ce_effs h with ⟨rfl, _⟩ | ⟨a, len, cap, m, n, V, D, Pl, rfl, _, hl, hm, hmm, rfl, hx⟩
  · exact ⟨none, 0, 0, [], rfl, Nat.le_refl _, Nat.zero_le _, EfSS.nil_ _ _ _, .inl rfl⟩
  · have hml : len ≤ m := by rw [hmm]; split <;> omega
    have each : ∀ i, i < len → ∃ (q : (Option Addr × Nat × Nat) × List Ef), w.cell? (a.add i) = some (.slice q.1.1 q.1.2.1 q.1.2.2) ∧ q.1.2.1 ≤ q.1.2.2 ∧ q.1.2.2 ≤ maxLen ∧ EfS (fun k => k < w.heap.size) w q.1.1 q.1.2.1 q.2 := by
      intro i hi
      obtain ⟨h1, h2⟩ := hx i (by omega)
      obtain ⟨A, n', c, xs, e, h3, h4, h5⟩ := open_effs h2
      injection e with e
      exact ⟨((A, n', c), xs), by rw [h1, e], h3, h4, h5⟩
    haveI : Inhabited ((Option Addr × Nat × Nat) × List Ef) := ⟨((none, 0, 0), [])⟩
    obtain ⟨q, hq⟩ := Go.Deep.choose_lt each
    refine ⟨some a, len, cap, (List.range len).map (fun i => (q i).2), rfl, hl, hm, ⟨by simp, fun j hj => ?_⟩, .inr ⟨_, _, rfl, by simp⟩⟩
    have hj' : j < len := by simpa using hj
    obtain ⟨h1, h2, h3, h4⟩ := hq j hj'
    simp only [List.getElem_map, List.getElem_range]
    refine ⟨a, _, _, _, rfl, ?_, h1, h2, h3, h4⟩
    have := World.block_lt_of_cell? w _ h1
    rwa [add_block] at this
set_option maxRecDepth 100000 in
theorem arg_effs {b0 : Nat} {r : Reach} {v : Value} {d : DataW H} {ps : List MemPlace} (hv : Value.okWide Tryz.prog w r b0 32 v) (h : DataW.Trod enc Tryz.prog w base spare held 32 v d ps) : ∃ A n c xs, v = .slice A n c ∧ n ≤ c ∧ c ≤ maxLen ∧ EfS (fun k => k < w.heap.size) w A n xs := by
  obtain ⟨A, n, c, rfl⟩ := okWide_slice ty_effs hv
  obtain ⟨fuel, h⟩ := h
  obtain ⟨A', n', c', xs, e, h1, h2, h3⟩ := open_effs h
  simp [Value.cells] at e
  obtain ⟨rfl, rfl, rfl⟩ := e
  exact ⟨_, _, _, xs, rfl, h1, h2, h3⟩
set_option maxRecDepth 100000 in
theorem arg_effss {b0 : Nat} {r : Reach} {v : Value} {d : DataW H} {ps : List MemPlace} (hv : Value.okWide Tryz.prog w r b0 22 v) (h : DataW.Trod enc Tryz.prog w base spare held 22 v d ps) : ∃ A n c xss, v = .slice A n c ∧ n ≤ c ∧ c ≤ maxLen ∧ EfSS (fun k => k < w.heap.size) w A n xss ∧ (n = 0 ∨ ∃ es sp, d = .slice es sp ∧ es.length = n) := by
  obtain ⟨A, n, c, rfl⟩ := okWide_slice ty_effss hv
  obtain ⟨fuel, h⟩ := h
  obtain ⟨A', n', c', xs, e, h1, h2, h3, h4⟩ := open_effss h
  simp [Value.cells] at e
  obtain ⟨rfl, rfl, rfl⟩ := e
  exact ⟨_, _, _, xs, rfl, h1, h2, h3, h4⟩
end
end Go.Proofs.YtplbckibogmicaaGreatDoor.Tree
