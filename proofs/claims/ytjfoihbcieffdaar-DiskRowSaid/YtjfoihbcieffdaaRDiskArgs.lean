/- Arguments that are rows of acts. -/
import Derived.Test.YtjfoihbcieffdaaRDiskDoes
import Derived.Deep.Slices
namespace Go.Proofs.YtjfoihbcieffdaaR.Disk
open Go.ChangeShapes Go.WideShapes Go.ChangeAt Go.RowKit

/-- The slice '.slice A n c' reads as these acts. -/
structure ActS (w : World) (A : Option Addr) (n : Nat) (xs : List Act1) : Prop where
  len : xs.length = n
  cells : ∀ j, (h : j < xs.length) → ∃ b o B m c, A = some ⟨b, o, none⟩ ∧ RdI w B m xs[j].fates ∧ m ≤ maxLen ∧ xs[j].Ok ∧ ∀ (i : Nat) (v : Value), (actC xs[j] (.slice B m c))[i]? = some v → w.cell? ⟨b, o + j * 5 + i, none⟩ = some v
theorem ActS.nil_ (w : World) (A : Option Addr) : ActS w A 0 [] := ⟨rfl, fun j h => absurd h (by simp)⟩
theorem ActS.below {w w' : World} {A : Option Addr} {n : Nat} {xs : List Act1} (h : ActS w A n xs) (hb : Below w.heap.size w w') : ActS w' A n xs :=
  ⟨h.len, fun j hj => by
    obtain ⟨b, o, B, m, c, e, h1, h2, h3, hc⟩ := h.cells j hj
    exact ⟨b, o, B, m, c, e, h1.below hb, h2, h3, fun i v hv => (hb.cell (World.block_lt_of_cell? w _ (hc i v hv))).trans (hc i v hv)⟩⟩
theorem ty_acts : Try.prog.underlying 22 = some (.slice 35) := by kernel_rfl
theorem ty_ints : Try.prog.underlying 33 = some (.slice 3) := by kernel_rfl
theorem ty_int : Try.prog.underlying 3 = some (.int .i64) := by kernel_rfl
theorem ce_act : Try.prog.cellsOf 35 = 5 := by kernel_rfl
theorem ce_u8 : Try.prog.cellsOf 5 = 1 := by kernel_rfl
theorem ce_int : Try.prog.cellsOf 3 = 1 := by kernel_rfl
theorem ce_ints : Try.prog.cellsOf 33 = 1 := by kernel_rfl
theorem list5 {α : Type} {l : List α} (h : l.length = 5) : ∃ a b c d e, l = [a, b, c, d, e] := by
  match l, h with
  | [a, b, c, d, e], _ => exact ⟨a, b, c, d, e, rfl⟩
theorem addr_plain {w : World} {a : Addr} {v : Value} (h : w.cell? a = some v) : a = ⟨a.block, a.off, none⟩ := by
  obtain ⟨b, o, s⟩ := a
  cases s with
  | none => rfl
  | some x =>
    unfold World.cell? at h
    split at h
    · simp at h
    · cases h
theorem add_plain (b o k : Nat) : (⟨b, o, none⟩ : Addr).add k = ⟨b, o + k, none⟩ := by
  unfold Addr.add
  by_cases h : k = 0
  · subst h; simp
  · simp [h]
section
variable {H : Type} {enc : TypeId × Value → H} {w : World} {base : Nat} {spare : Nat → Bool} {held : Bool}
theorem open_fates {fuel : Nat} {cs : List Value} {x : DataW H × List MemPlace} (h : DataW.trod enc Try.prog w base spare held fuel 33 cs = some x) : ∃ A n c zs, cs = [.slice A n c] ∧ n ≤ c ∧ c ≤ maxLen ∧ RdI w A n zs := by
  rcases open_ints ty_ints ty_int ce_int h with ⟨rfl, _⟩ | ⟨a, len, cap, zs, rfl, _, hl, hm, hz, _, hc, hw⟩
  · exact ⟨none, 0, 0, [], rfl, Nat.le_refl _, Nat.zero_le _, RdI.nil_ _ _⟩
  · have hlz : len ≤ zs.length := by rw [hz]; split <;> omega
    refine ⟨some a, len, cap, zs.take len, rfl, hl, hm, ⟨by simp; omega, fun _ => ⟨a, rfl, fun j z hb => ?_⟩, fun z hzm => ?_⟩⟩
    · rw [List.getElem?_take] at hb
      split at hb
      · next hj =>
        have hjl : j < zs.length := by omega
        rw [List.getElem?_eq_getElem hjl] at hb
        injection hb with hb
        rw [hc j hjl, ← hb, List.getD_eq_getElem?_getD, List.getElem?_eq_getElem hjl]
        rfl
      · cases hb
    · have := hw z (List.mem_of_mem_take hzm)
      simp [Lit.wf, IntKind.min, IntKind.max, IntKind.signed, IntKind.bits] at this
      omega
theorem open_act {fuel : Nat} {cs : List Value} {x : DataW H × List MemPlace} (h : DataW.trod enc Try.prog w base spare held fuel 35 cs = some x) : ∃ (y : Act1) (B : Option Addr) (m c : Nat), cs = actC y (.slice B m c) ∧ RdI w B m y.fates ∧ m ≤ maxLen ∧ y.Ok := by
  obtain ⟨ys, m, _, _, hlen, hxl, hf⟩ := DataW.trod_struct Try.underlying35 h
  rw [ce_act] at hlen
  have hxl : ys.length = 5 := hxl
  obtain ⟨y0, y1, y2, y3, y4, rfl⟩ := list5 hxl
  obtain ⟨v0, v1, v2, v3, v4, rfl⟩ := list5 hlen
  have g0 := hf 0 _ rfl
  have g1 := hf 1 _ rfl
  have g2 := hf 2 _ rfl
  have g3 := hf 3 _ rfl
  have g4 := hf 4 _ rfl
  simp [ce_u8, ce_int, ce_ints] at g0 g1 g2 g3 g4
  obtain ⟨z0, e0, _, w0⟩ := DataW.trod_int ty_byte g0
  obtain ⟨z1, e1, _, w1⟩ := DataW.trod_int ty_int g1
  obtain ⟨z2, e2, _, w2⟩ := DataW.trod_int ty_byte g2
  obtain ⟨z3, e3, _, w3⟩ := DataW.trod_int ty_byte g3
  obtain ⟨B, m', c', zs, e4, hl, hm, hz⟩ := open_fates g4
  simp at e0 e1 e2 e3 e4
  subst e0 e1 e2 e3 e4
  simp [Lit.wf, IntKind.min, IntKind.max, IntKind.signed, IntKind.bits] at w0 w1 w2 w3
  have hu : ∀ z : Int, 0 ≤ z → z ≤ 255 → Value.int .u8 z = U (UInt8.ofNat z.toNat) := fun z h1 h2 => by
    unfold U
    congr 1
    simp
    omega
  refine ⟨⟨z0.toNat, z1, UInt8.ofNat z2.toNat, UInt8.ofNat z3.toNat, zs⟩, B, m', c', ?_, hz, by omega, ⟨by show z0.toNat < 256; omega, by show _ ≤ z1; omega, by show z1 ≤ _; omega⟩⟩
  unfold actC
  dsimp only
  rw [← hu z2 (by omega) (by omega), ← hu z3 (by omega) (by omega)]
  have e : ((z0.toNat : Nat) : Int) = z0 := by omega
  rw [e]
theorem open_acts {fuel : Nat} {cs : List Value} {x : DataW H × List MemPlace} (h : DataW.trod enc Try.prog w base spare held fuel 22 cs = some x) : ∃ A n c xs, cs = [.slice A n c] ∧ n ≤ c ∧ c ≤ maxLen ∧ ActS w A n xs := by
  rcases Go.Deep.open_slice ty_acts h with ⟨rfl, _⟩ | ⟨a, len, cap, m, n, D, Pl, rfl, _, hl, hm, hmm, _, hx⟩
  · exact ⟨none, 0, 0, [], rfl, Nat.le_refl _, Nat.zero_le _, ActS.nil_ _ _⟩
  · have hml : len ≤ m := by rw [hmm]; split <;> omega
    have each : ∀ i, i < len → ∃ q : Act1, ∃ (B : Option Addr) (m c : Nat), RdI w B m q.fates ∧ m ≤ maxLen ∧ q.Ok ∧ ∀ (j : Nat) (v : Value), (actC q (.slice B m c))[j]? = some v → w.cell? (a.add (5 * i + j)) = some v := by
      intro i hi
      obtain ⟨cs', h1, h2⟩ := hx i (by omega)
      rw [ce_act] at h1
      obtain ⟨_, hlen, hcell⟩ := World.cells?_some h1
      obtain ⟨q, B, m', c', rfl, h3, h4, h5⟩ := open_act h2
      refine ⟨q, B, m', c', h3, h4, h5, fun j v hv => ?_⟩
      have hj : j < 5 := (List.getElem?_eq_some_iff.1 hv).1
      have := hcell j hj
      rw [Go.Deep.add_add, Nat.mul_comm] at this
      rw [this]
      exact hv
    haveI : Inhabited Act1 := ⟨⟨0, 0, 0, 0, []⟩⟩
    obtain ⟨q, hq⟩ := Go.Deep.choose_lt each
    refine ⟨some a, len, cap, (List.range len).map q, rfl, hl, hm, ⟨by simp, fun j hj => ?_⟩⟩
    have hj' : j < len := by simpa using hj
    obtain ⟨B0, m0, c0, _, _, _, hc0⟩ := hq 0 (by omega)
    have hp : a = ⟨a.block, a.off, none⟩ := addr_plain (by simpa [Addr.add] using hc0 0 _ rfl)
    obtain ⟨B, m', c', h1, h2, h3, hc⟩ := hq j hj'
    simp only [List.getElem_map, List.getElem_range]
    refine ⟨a.block, a.off, B, m', c', congrArg some hp, h1, h2, h3, fun i v hv => ?_⟩
    have := hc i v hv
    rw [hp, add_plain] at this
    rw [Nat.add_assoc, Nat.mul_comm j 5]
    exact this
theorem arg_acts {b0 : Nat} {r : Reach} {v : Value} {d : DataW H} {ps : List MemPlace} (hv : Value.okWide Try.prog w r b0 22 v) (h : DataW.Trod enc Try.prog w base spare held 22 v d ps) : ∃ A n c xs, v = .slice A n c ∧ n ≤ c ∧ c ≤ maxLen ∧ ActS w A n xs := by
  obtain ⟨A, n, c, rfl⟩ := okWide_slice ty_acts hv
  obtain ⟨fuel, h⟩ := h
  obtain ⟨A', n', c', xs, e, h1, h2, h3⟩ := open_acts h
  simp [Value.cells] at e
  obtain ⟨rfl, rfl, rfl⟩ := e
  exact ⟨A, n, c, xs, rfl, h1, h2, h3⟩
theorem arg_ints {b0 : Nat} {r : Reach} {v : Value} {d : DataW H} {ps : List MemPlace} (hv : Value.okWide Try.prog w r b0 33 v) (h : DataW.Trod enc Try.prog w base spare held 33 v d ps) : ∃ A n c zs, v = .slice A n c ∧ n ≤ c ∧ c ≤ maxLen ∧ RdI w A n zs := by
  obtain ⟨A, n, c, rfl⟩ := okWide_slice ty_ints hv
  obtain ⟨fuel, h⟩ := h
  obtain ⟨A', n', c', zs, e, h1, h2, h3⟩ := open_fates h
  simp [Value.cells] at e
  obtain ⟨rfl, rfl, rfl⟩ := e
  exact ⟨A, n, c, zs, rfl, h1, h2, h3⟩
end
/-- More acts, or numbers, than a law looks at? -/
def bigB (xs : List Act1) : Bool := (xs.take 81).any (fun a => decide (60 < a.fates.length)) || decide (80 < xs.length)
theorem bigB_no {xs : List Act1} (h : bigB xs = false) : xs.length ≤ 80 ∧ ∀ a ∈ xs, a.fates.length ≤ 60 := by
  unfold bigB at h
  rw [Bool.or_eq_false_iff] at h
  have h2 : ¬ 80 < xs.length := of_decide_eq_false h.2
  refine ⟨by omega, fun a ha => ?_⟩
  have h1 := h.1
  rw [List.take_of_length_le (by omega), List.any_eq_false] at h1
  have := h1 a ha
  simp at this
  exact this
def RelMany (xs : List Act1) (i : Value) : Prop := ∃ m : Nat, m ≤ xs.length ∧ m ≤ 81 ∧ i = .int .i64 (m : Int) ∧ (xs.take m).any (fun a => decide (60 < a.fates.length)) = false
set_option maxRecDepth 100000 in
theorem many_any (xs : List Act1) (A : Option Addr) (n c : Nat) (w : World) (h : ActS w A n xs) (hc : n ≤ maxLen) : Calls Try.prog 8 #[.slice A n c] w fun e w' => ∃ z : Int, e = .returned (.int .i64 z) ∧ (bigB xs = true ↔ 0 < z) ∧ w = w' := by
  have HA := Lib.hid h
  have hl := h.len
  have hc2 : (n : Int) ≤ 9223372036854775807 := by unfold maxLen at hc; omega
  clear h hc
  go_enter Try.func8, Try.ntmps8
  go_wp2_with fail
  go_loop [3] (fun i => RelMany xs i) (fun i => 81 - (intOf i).toNat)
  case atStart => exact ⟨0, Nat.zero_le _, by omega, rfl, rfl⟩
  case round =>
    obtain ⟨m, hm, hm81, rfl, hno⟩ := hrel
    by_cases hlt : m < n ∧ m < 81
    · obtain ⟨hlt1, hlt2⟩ := hlt
      obtain ⟨b, o, B, m', c', rfl, h1, h2, h3, hcell⟩ := HA.out.cells m (by omega)
      have hc4 := hcell 4 _ rfl
      have hlf := h1.len
      have hsn : (xs.take (m + 1)).any (fun a => decide (60 < a.fates.length)) = decide (60 < m') := by
        rw [List.take_succ_eq_append_getElem (by omega), List.any_append, hno, Bool.false_or]
        simp [hlf]
      by_cases h60 : 60 < m'
      · have hmem : xs[m] ∈ xs.take 81 := by
          have h9 : (xs.take 81)[m]? = some xs[m] := by rw [List.getElem?_take, if_pos hlt2, List.getElem?_eq_getElem (by omega)]
          exact List.mem_of_getElem? h9
        have hbig : bigB xs = true := by
          unfold bigB
          rw [Bool.or_eq_true]
          left
          rw [List.any_eq_true]
          exact ⟨xs[m], hmem, by simp [hlf, h60]⟩
        have HBIG := Lib.hid hbig
        clear hbig
        go_wp2_with fail
        go_ret
        exact ⟨1, rfl, ⟨fun _ => by decide, fun _ => HBIG.out⟩, rfl⟩
      · have hsn2 : (xs.take (m + 1)).any (fun a => decide (60 < a.fates.length)) = false := by rw [hsn]; exact decide_eq_false h60
        clear hsn
        have HSN := Lib.hid hsn2
        clear hsn2 hno hcell
        go_wp2_with fail
        exact ⟨⟨m + 1, by omega, by omega, rfl, HSN.out⟩, by simp [intOf]; omega⟩
    · have hbig : bigB xs = true ↔ 0 < max 0 ((n : Int) - 80) := by
        unfold bigB
        have e : xs.take 81 = xs.take m := by
          rcases Nat.lt_or_ge m n with h1 | h1
          · have : m = 81 := by omega
            rw [this]
          · rw [List.take_of_length_le (i := 81) (by omega), List.take_of_length_le (by omega)]
        rw [e, hno, Bool.false_or, hl, decide_eq_true_iff]
        omega
      have HBIG := Lib.hid hbig
      clear hbig hno
      by_cases hmn : m < n
      · have hm9 : ¬ m < 81 := by omega
        go_wp2_with fail
        go_ret
        exact ⟨_, rfl, HBIG.out, rfl⟩
      · go_wp2_with fail
        go_ret
        exact ⟨_, rfl, HBIG.out, rfl⟩
end Go.Proofs.YtjfoihbcieffdaaR.Disk
