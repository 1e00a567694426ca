/- Arguments of layer 13's statements: rows of acts. -/
import Derived.Test.YtephciglcikllaaNetLts
import Derived.Test.YtephciglcikllaaLineArgs
namespace Go.Proofs.Ytephciglcikllaa.Net
open Go.ChangeShapes Go.WideShapes Go.ChangeAt Go.RowKit Disk Zab Sto

/-- An act's cells. -/
def actC (x : A1) (v : Value) : List Value := [.int .u8 (x.do_ : Int), .int .i64 x.i, .int .i64 x.l.fr.g, .int .i64 x.l.fr.n, .int .i64 x.l.to.g, .int .i64 x.l.to.n, v]
structure A1.Ok (x : A1) : Prop where
  d : x.do_ < 256
  i : -9223372036854775808 ≤ x.i ∧ x.i ≤ 9223372036854775807
  f : x.l.fr.Wf
  t : x.l.to.Wf
/-- Acts that are read. -/
structure ActS (P : Nat → Prop) (w : World) (A : Option Addr) (n : Nat) (xs : List A1) : Prop where
  len : xs.length = n
  at_ : ∀ (j : Nat) (x : A1), xs[j]? = some x → ∃ b o B m c, A = some ⟨b, o, none⟩ ∧ P b ∧ (∀ i v, (actC x (.slice B m c))[i]? = some v → w.cell? ⟨b, o + j * 7 + i, none⟩ = some v) ∧ m ≤ c ∧ Rd w B m x.l.bs ∧ (∀ b, B = some b → 1 ≤ m → P b.block) ∧ x.Ok
theorem ActS.out {P X : Nat → Prop} {w w' : World} {A : Option Addr} {n : Nat} {xs : List A1} (h : ActS P w A n xs) (ho : Out X w w') (hx : ∀ k, P k → ¬ X k) : ActS P w' A n xs :=
  ⟨h.len, fun j x hj => by
    obtain ⟨b, o, B, m, c, h1, h2, h3, h4, h5, h6, h7⟩ := h.at_ j x hj
    exact ⟨b, o, B, m, c, h1, h2, fun i v hv => (ho.cell (World.block_lt_of_cell? w _ (h3 i v hv)) (hx _ h2)).trans (h3 i v hv), h4, rd_out h5 ho (fun a ha h0 => hx _ (h6 a ha h0)), h6, h7⟩⟩
theorem ActS.below {P : Nat → Prop} {w w' : World} {A : Option Addr} {n : Nat} {xs : List A1} (h : ActS P w A n xs) (hb : Below w.heap.size w w') : ActS P w' A n xs := h.out (X := fun _ => False) (Out.of_below hb) fun _ _ q => q
/-- One act: its cells. -/
theorem ActS.get {P : Nat → Prop} {w : World} {A : Option Addr} {n : Nat} {xs : List A1} (h : ActS P w A n xs) {j : Nat} {x : A1} (hj : xs[j]? = some x) : ∃ b o B m c, A = some ⟨b, o, none⟩ ∧ P b ∧ w.cell? ⟨b, o + j * 7, none⟩ = some (.int .u8 (x.do_ : Int)) ∧ w.cell? ⟨b, o + j * 7 + 1, none⟩ = some (.int .i64 x.i) ∧ w.cell? ⟨b, o + j * 7 + 2, none⟩ = some (.int .i64 x.l.fr.g) ∧ w.cell? ⟨b, o + j * 7 + 3, none⟩ = some (.int .i64 x.l.fr.n) ∧ w.cell? ⟨b, o + j * 7 + 4, none⟩ = some (.int .i64 x.l.to.g) ∧ w.cell? ⟨b, o + j * 7 + 5, none⟩ = some (.int .i64 x.l.to.n) ∧ w.cell? ⟨b, o + j * 7 + 6, none⟩ = some (.slice B m c) ∧ m ≤ c ∧ Rd w B m x.l.bs ∧ (∀ b, B = some b → 1 ≤ m → P b.block) ∧ x.Ok := by
  obtain ⟨b, o, B, m, c, h1, h2, h3, h4, h5, h6, h7⟩ := h.at_ j x hj
  exact ⟨b, o, B, m, c, h1, h2, h3 0 _ rfl, h3 1 _ rfl, h3 2 _ rfl, h3 3 _ rfl, h3 4 _ rfl, h3 5 _ rfl, h3 6 _ rfl, h4, h5, h6, h7⟩
theorem nty_acts : Try.prog.underlying 23 = some (.slice 39) := by kernel_rfl
theorem nce_act : Try.prog.cellsOf 39 = 7 := by kernel_rfl
theorem nsz_act : Try.prog.bytesOf 39 = 72 := by kernel_rfl
theorem nce_letter : Try.prog.cellsOf 37 = 5 := by kernel_rfl
section
variable {H : Type} {enc : TypeId × Value → H} {w : World} {base : Nat} {spare : Nat → Bool} {held : Bool}
theorem open_i64 {fuel : Nat} {cs : List Value} {x : DataW H × List MemPlace} (h : DataW.trod enc Try.prog w base spare held fuel 3 cs = some x) : ∃ z : Int, cs = [.int .i64 z] ∧ -9223372036854775808 ≤ z ∧ z ≤ 9223372036854775807 := by
  obtain ⟨z, rfl, _, hz⟩ := DataW.trod_int ty_int h
  simp [Lit.wf, IntKind.min, IntKind.max, IntKind.signed, IntKind.bits] at hz
  exact ⟨z, rfl, by omega, by omega⟩
theorem open_addr {fuel : Nat} {cs : List Value} {x : DataW H × List MemPlace} (h : DataW.trod enc Try.prog w base spare held fuel 34 cs = some x) : ∃ a : Ad, cs = adC a ∧ a.Wf := by
  obtain ⟨xs, m, _, hx, hlen, hxl, hf⟩ := DataW.trod_struct Try.underlying34 h
  rw [cells_addr] at hlen
  have hxl : xs.length = 2 := hxl
  obtain ⟨y0, y1, rfl⟩ := alist2 hxl
  obtain ⟨v0, v1, rfl⟩ := alist2 hlen
  have g0 := hf 0 _ rfl
  have g1 := hf 1 _ rfl
  simp [cells_int] at g0 g1
  obtain ⟨a, e0, ha⟩ := open_i64 g0
  obtain ⟨b, e1, hb⟩ := open_i64 g1
  simp at e0 e1
  subst e0 e1
  exact ⟨⟨a, b⟩, rfl, ha, hb⟩
theorem alist5 {α : Type} {l : List α} (h : l.length = 5) : ∃ a b c d e, l = [a, b, c, d, e] := by
  match l, h with
  | [a, b, c, d, e], _ => exact ⟨a, b, c, d, e, rfl⟩
theorem alist7 {α : Type} {l : List α} (h : l.length = 7) : ∃ a b c d e f g, l = [a, b, c, d, e, f, g] := by
  match l, h with
  | [a, b, c, d, e, f, g], _ => exact ⟨a, b, c, d, e, f, g, rfl⟩
theorem open_letter {fuel : Nat} {cs : List Value} {x : DataW H × List MemPlace} (h : DataW.trod enc Try.prog w base spare held fuel 37 cs = some x) (hw : Wt 37 x.1) : ∃ (l : Lt) (B : Option Addr) (m c : Nat), cs = ltC l (.slice B m c) ∧ m ≤ c ∧ l.fr.Wf ∧ l.to.Wf ∧ l.bs.length ≤ reachBytes ∧ Rd w B m l.bs ∧ ∀ b, B = some b → 1 ≤ m → b.block < w.heap.size := by
  obtain ⟨xs, m, _, hx, hlen, hxl, hf⟩ := DataW.trod_struct Try.underlying37 h
  rw [nce_letter] at hlen
  have hxl : xs.length = 3 := hxl
  obtain ⟨y0, y1, y2, rfl⟩ := alist3 hxl
  obtain ⟨v0, v1, v2, v3, v4, rfl⟩ := alist5 hlen
  have g0 := hf 0 _ rfl
  have g1 := hf 1 _ rfl
  have g2 := hf 2 _ rfl
  simp [cells_addr, ace_bytes] at g0 g1 g2
  have hw2 : Wt 35 y2.1 := fun n hn => hw n (by rw [hx]; simp [DataW.weights, Try.underlying37, DataW.weightsEach, hn])
  obtain ⟨a, e0, ha⟩ := open_addr g0
  obtain ⟨b, e1, hb⟩ := open_addr g1
  obtain ⟨B, k, c, bs, e2, h1, h2, h3, h4⟩ := open_bs g2 hw2
  simp [adC] at e0 e1 e2
  obtain ⟨rfl, rfl⟩ := e0
  obtain ⟨rfl, rfl⟩ := e1
  subst e2
  exact ⟨⟨a, b, bs⟩, B, k, c, rfl, h1, ha, hb, by show bs.length ≤ _; rw [h3.len]; exact h2, h3, h4⟩
theorem open_act {fuel : Nat} {cs : List Value} {x : DataW H × List MemPlace} (h : DataW.trod enc Try.prog w base spare held fuel 39 cs = some x) (hw : Wt 39 x.1) : ∃ (y : A1) (B : Option Addr) (m c : Nat), cs = actC y (.slice B m c) ∧ m ≤ c ∧ y.Ok ∧ y.l.bs.length ≤ reachBytes ∧ Rd w B m y.l.bs ∧ ∀ b, B = some b → 1 ≤ m → b.block < w.heap.size := by
  obtain ⟨xs, m, _, hx, hlen, hxl, hf⟩ := DataW.trod_struct Try.underlying39 h
  rw [nce_act] at hlen
  have hxl : xs.length = 3 := hxl
  obtain ⟨y0, y1, y2, rfl⟩ := alist3 hxl
  obtain ⟨v0, v1, v2, v3, v4, v5, v6, rfl⟩ := alist7 hlen
  have g0 := hf 0 _ rfl
  have g1 := hf 1 _ rfl
  have g2 := hf 2 _ rfl
  simp [ace_u8, cells_int, nce_letter] at g0 g1 g2
  have hw2 : Wt 37 y2.1 := fun n hn => hw n (by rw [hx]; simp [DataW.weights, Try.underlying39, DataW.weightsEach, hn])
  obtain ⟨d, e0, hd⟩ := open_u8n g0
  obtain ⟨i, e1, hi⟩ := open_i64 g1
  obtain ⟨l, B, k, c, e2, h1, h2, h3, h4, h5, h6⟩ := open_letter g2 hw2
  simp [ltC] at e0 e1 e2
  subst e0 e1
  obtain ⟨rfl, rfl, rfl, rfl, rfl⟩ := e2
  exact ⟨⟨d, i, l⟩, B, k, c, rfl, h1, ⟨hd, hi, h2, h3⟩, h4, h5, h6⟩
theorem open_acts {fuel : Nat} {cs : List Value} {x : DataW H × List MemPlace} (h : DataW.trod enc Try.prog w base spare held fuel 23 cs = some x) (hw : Wt 23 x.1) : ∃ A n c ls, cs = [.slice A n c] ∧ n ≤ c ∧ n ≤ reachBytes ∧ ActS (fun b => b < w.heap.size) w A n ls ∧ ∀ x ∈ ls, x.l.bs.length ≤ reachBytes := by
  rcases Go.Deep.open_slice nty_acts h with ⟨rfl, _⟩ | ⟨a, len, cap, m, n, D, Pl, rfl, _, hl, _, hmm, hx, hel⟩
  · exact ⟨none, 0, 0, [], rfl, Nat.le_refl _, Nat.zero_le _, ⟨rfl, fun j x hj => by simp at hj⟩, fun y hy => by cases hy⟩
  · have hml : len ≤ m := by rw [hmm]; split <;> omega
    have hr : len ≤ reachBytes := by
      have := hw _ (by rw [hx]; simp only [DataW.weights, nty_acts]; exact List.mem_cons_self)
      rw [nsz_act] at this
      simp at this
      omega
    have each : ∀ i, i < len → ∃ y : A1, ∃ B k c, (∀ q v, (actC y (.slice B k c))[q]? = some v → w.cell? (a.add (7 * i + q)) = some v) ∧ k ≤ c ∧ y.Ok ∧ y.l.bs.length ≤ reachBytes ∧ Rd w B k y.l.bs ∧ ∀ b, B = some b → 1 ≤ k → b.block < w.heap.size := by
      intro i hi
      obtain ⟨cs', h1, h2⟩ := hel i (by omega)
      rw [nce_act] at h1
      obtain ⟨_, hlen, hcell⟩ := World.cells?_some h1
      obtain ⟨y, B, k, c, rfl, q1, q2, q3, q4, q5⟩ := open_act h2 fun v hv => hw v (by
        rw [hx]
        simp only [DataW.weights, nty_acts, List.mem_cons, List.mem_append]
        exact .inr (.inl (weights_mem (List.mem_map.2 ⟨i, List.mem_range.2 hi, rfl⟩) v hv)))
      refine ⟨y, B, k, c, fun q v hq => ?_, q1, q2, q3, q4, q5⟩
      have hq7 : q < 7 := (List.getElem?_eq_some_iff.1 hq).1
      have := hcell q hq7
      rw [Go.Deep.add_add, Nat.mul_comm] at this
      rw [this]
      have e := (List.getElem?_eq_some_iff.1 hq).2
      first
        | exact hq
        | (rw [← e]; rfl)
    haveI : Inhabited A1 := ⟨⟨0, 0, lt0⟩⟩
    obtain ⟨q, hq⟩ := Go.Deep.choose_lt each
    refine ⟨some a, len, cap, (List.range len).map q, rfl, hl, hr, ⟨by simp, fun j y hj => ?_⟩, fun y hy => ?_⟩
    · have hjl : j < len := by simpa using (List.getElem?_eq_some_iff.1 hj).1
      rw [List.getElem?_map, List.getElem?_range hjl] at hj
      injection hj with hj
      subst hj
      obtain ⟨B, k, c, q1, q2, q3, q4, q5, q6⟩ := hq j hjl
      have hp : a = ⟨a.block, a.off, none⟩ := a_plain (q1 0 _ rfl |> fun z => by
        obtain ⟨_, _, _, z1, _⟩ := hq 0 (by omega)
        simpa [Addr.add] using z1 0 _ rfl)
      have hlt : a.block < w.heap.size := by
        obtain ⟨_, _, _, z1, _⟩ := hq 0 (by omega)
        have := World.block_lt_of_cell? w _ (z1 0 _ rfl)
        rwa [addr_add_block] at this
      rw [hp] at q1
      exact ⟨a.block, a.off, B, k, c, congrArg some hp, hlt, fun i v hv => by
        have := q1 i v hv
        rw [a_add] at this
        rw [show a.off + j * 7 + i = a.off + (7 * j + i) from by omega]
        exact this, q2, q5, q6, q3⟩
    · obtain ⟨i, hi, rfl⟩ := List.mem_map.1 hy
      obtain ⟨_, _, _, _, _, _, q4, _⟩ := hq i (List.mem_range.1 hi)
      exact q4
set_option maxRecDepth 100000 in
theorem arg_acts {b0 : Nat} {r : Reach} {v : Value} {d : DataW H} {ps : List MemPlace} (hv : Value.okWide Try.prog w r b0 23 v) (h : DataW.Trod enc Try.prog w base spare held 23 v d ps) (hw : Wt 23 d) : ∃ A n c ls, v = .slice A n c ∧ n ≤ c ∧ n ≤ reachBytes ∧ ActS (fun b => b < w.heap.size) w A n ls ∧ ∀ x ∈ ls, x.l.bs.length ≤ reachBytes := by
  obtain ⟨A, n, c, rfl⟩ := okWide_slice nty_acts hv
  obtain ⟨fuel, h⟩ := h
  obtain ⟨A', n', c', xs, e, h1, h2, h3, h4⟩ := open_acts h hw
  simp [Value.cells] at e
  obtain ⟨rfl, rfl, rfl⟩ := e
  exact ⟨_, _, _, xs, rfl, h1, h2, h3, h4⟩
theorem arg_bs {b0 : Nat} {r : Reach} {v : Value} {d : DataW H} {ps : List MemPlace} (hv : Value.okWide Try.prog w r b0 35 v) (h : DataW.Trod enc Try.prog w base spare held 35 v d ps) (hw : Wt 35 d) : ∃ B m c bs, v = .slice B m c ∧ m ≤ c ∧ m ≤ reachBytes ∧ Rd w B m bs := by
  obtain ⟨A, n, c, rfl⟩ := okWide_slice aty_bytes hv
  obtain ⟨fuel, h⟩ := h
  obtain ⟨A', n', c', xs, e, h1, h2, h3, h4⟩ := open_bs h hw
  simp [Value.cells] at e
  obtain ⟨rfl, rfl, rfl⟩ := e
  exact ⟨_, _, _, xs, rfl, h1, h2, h3⟩
theorem arg_addr {b0 : Nat} {r : Reach} {v : Value} {d : DataW H} {ps : List MemPlace} (hv : Value.okWide Try.prog w r b0 34 v) (h : DataW.Trod enc Try.prog w base spare held 34 v d ps) : ∃ a : Ad, v = adV a ∧ a.Wf := by
  obtain ⟨cs, rfl, _⟩ : ∃ cs, v = .agg cs ∧ True := by
    simp only [Value.okWide, Try.underlying34] at hv
    obtain ⟨cs, h, _⟩ := hv
    exact ⟨cs, h, trivial⟩
  obtain ⟨fuel, h⟩ := h
  obtain ⟨a, e, h1⟩ := open_addr h
  refine ⟨a, ?_, h1⟩
  simp only [Value.cells] at e
  unfold adV
  congr 1
  exact Array.toList_inj.1 e
end
end Go.Proofs.Ytephciglcikllaa.Net
