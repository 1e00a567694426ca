/- A line that is read goes behind the lines of a message that lies in a variable: what each operation of that region yields and owns. -/
import Derived.Test.YtobdkgmlkchggaaZmMay2
import Derived.Test.YtobdkgmlkchggaaRdrQ
import Derived.Test.YtobdkgmlkchggaaPoolWords
namespace Go.Proofs.Ytobdkgmlkchggaa.Zm
open Go.RowKit Disk Log Sto
open PhaseG (own_same own_out own_lt own_slice)
open PhaseP (GG)

/-- A reader's predicate: it is kept where the reader's block r is not written, nor one of K. -/
def Keeps (RD : World → Prop) (r : Nat) (K : Nat → Prop) : Prop := ∀ (Z : Nat → Prop) (W W' : World), RD W → Out Z W W' → ¬ Z r → (∀ b, K b → ¬ Z b) → RD W'
theorem keeps_rdrQ (Q : Nat → Prop) (r : Nat) (s : List UInt8 × Bool) : Keeps (fun W => RdrQ Q W r s) r Q := fun _ _ _ h ho hr hq => h.out ho hr hq
/-- The text that was read, and the reader behind it. -/
def TX (RD : World → Prop) (B : Nat) (t : List UInt8) (y : Value) (W : World) : Prop := W.ownsRow B 5 1 y t.length (t.map U) ∧ RD W
def OT (r : Nat) (y : Value) (b : Nat) : Prop := b = r ∨ y.ownBlock = some b
theorem TX.out {RD : World → Prop} {B : Nat} {t : List UInt8} {y : Value} {r : Nat} {K : Nat → Prop} (hk : Keeps RD r K) {W W' : World} {Z : Nat → Prop} (h : TX RD B t y W) (ho : Out Z W W') (hK : ∀ b, K b → ¬ Z b) (hn : ∀ b, OT r y b → ¬ Z b) : TX RD B t y W' :=
  ⟨own_out h.1 ho fun b hb => hn b (.inr hb), hk Z W W' h.2 ho (hn r (.inl rfl)) hK⟩
/-- A new row of one line. -/
def One (RD : World → Prop) (B : Nat) (e : Nat) (t : List UInt8) (x : Value) (W : World) : Prop := ∃ nb y, x = .slice (some ⟨nb, 0, none⟩) 1 1 ∧ Bk W nb 37 #[.int .u64 (e : Int), y] ∧ TX RD B t y W
def OOne (r : Nat) (x : Value) (W : World) (b : Nat) : Prop := b = r ∨ ∃ nb, x = .slice (some ⟨nb, 0, none⟩) 1 1 ∧ (b = nb ∨ ∃ y, W.cell? ⟨nb, 1, none⟩ = some y ∧ y.ownBlock = some b)
theorem One.out {RD : World → Prop} {B e : Nat} {t : List UInt8} {x : Value} {r : Nat} {K : Nat → Prop} (hk : Keeps RD r K) {W W' : World} {Z : Nat → Prop} (h : One RD B e t x W) (ho : Out Z W W') (hK : ∀ b, K b → ¬ Z b) (hn : ∀ b, OOne r x W b → ¬ Z b) : One RD B e t x W' ∧ ∀ b, OOne r x W' b → OOne r x W b := by
  obtain ⟨nb, y, rfl, hb, ht⟩ := h
  have hc : W.cell? ⟨nb, 1, none⟩ = some y := hb.cell 1
  have hnb : ¬ Z nb := hn nb (.inr ⟨nb, rfl, .inl rfl⟩)
  have hb' := hb.kept (ho.block nb hb.lt hnb)
  have hc' : W'.cell? ⟨nb, 1, none⟩ = some y := hb'.cell 1
  refine ⟨⟨nb, y, rfl, hb', ht.out hk ho hK fun b hob => hn b (hob.elim .inl fun q => .inr ⟨nb, rfl, .inr ⟨y, hc, q⟩⟩)⟩, fun b hob => ?_⟩
  rcases hob with h | ⟨nb', e1, h⟩
  · exact .inl h
  · injection e1 with e1
    injection e1 with e1
    injection e1 with e1
    subst e1
    refine .inr ⟨nb, rfl, h.imp id ?_⟩
    rintro ⟨y', h1, h2⟩
    rw [hc'] at h1
    injection h1 with h1
    subst h1
    exact ⟨y, hc, h2⟩
/-- The row with the line behind it. -/
def RowT (RD : World → Prop) (B e k : Nat) (t : List UInt8) (cs : List Value) (x : Value) (W : World) : Prop := ∃ g cap y, x = .slice (some ⟨g, 0, none⟩) (k + 1) cap ∧ W.ownsRow B 37 2 x (k + 1) (cs ++ [.int .u64 (e : Int), y]) ∧ TX RD B t y W
def ORow (r k : Nat) (x : Value) (W : World) (b : Nat) : Prop := b = r ∨ ∃ g cap, x = .slice (some ⟨g, 0, none⟩) (k + 1) cap ∧ (b = g ∨ ∃ y, W.cell? ⟨g, 2 * k + 1, none⟩ = some y ∧ y.ownBlock = some b)
theorem rowT_cell {B k e : Nat} {cs : List Value} {g cap : Nat} {y : Value} {W : World} (h : W.ownsRow B 37 2 (.slice (some ⟨g, 0, none⟩) (k + 1) cap) (k + 1) (cs ++ [.int .u64 (e : Int), y])) (hc : cs.length = 2 * k) : W.cell? ⟨g, 2 * k + 1, none⟩ = some y := by
  have := h.cells (g := g) rfl (2 * k + 1) y (by rw [List.getElem?_append_right (by omega), hc]; simp)
  rwa [add_plain] at this
theorem RowT.out {RD : World → Prop} {B e k : Nat} {t : List UInt8} {cs : List Value} {x : Value} {r : Nat} {K : Nat → Prop} (hk : Keeps RD r K) (hcs : cs.length = 2 * k) {W W' : World} {Z : Nat → Prop} (h : RowT RD B e k t cs x W) (ho : Out Z W W') (hK : ∀ b, K b → ¬ Z b) (hn : ∀ b, ORow r k x W b → ¬ Z b) : RowT RD B e k t cs x W' ∧ ∀ b, ORow r k x W' b → ORow r k x W b := by
  obtain ⟨g, cap, y, rfl, hb, ht⟩ := h
  have hc := rowT_cell hb hcs
  have hg : ¬ Z g := hn g (.inr ⟨g, cap, rfl, .inl rfl⟩)
  have hb' := own_out hb ho fun b hob => by injection hob with hob; subst hob; exact hg
  have hc' := rowT_cell hb' hcs
  refine ⟨⟨g, cap, y, rfl, hb', ht.out hk ho hK fun b hob => hn b (hob.elim .inl fun q => .inr ⟨g, cap, rfl, .inr ⟨y, hc, q⟩⟩)⟩, fun b hob => ?_⟩
  rcases hob with h | ⟨g', cap', e1, h⟩
  · exact .inl h
  · injection e1 with e1 _ e3
    injection e1 with e1
    injection e1 with e1
    subst e1
    subst e3
    refine .inr ⟨g, cap, rfl, h.imp id ?_⟩
    rintro ⟨y', h1, h2⟩
    rw [hc'] at h1
    injection h1 with h1
    subst h1
    exact ⟨y, hc, h2⟩
theorem fresh_base {B B' : Nat} {w : World} {vs : List Value} {bs : List (List UInt8)} (h : Fresh B w vs bs) (hb : B' ≤ B) : Fresh B' w vs bs :=
  ⟨h.len, fun j b hj => by
    obtain ⟨A, n, c, h1, h2⟩ := h.at_ j b hj
    exact ⟨A, n, c, h1, own_base h2 hb⟩⟩
/-- Texts of one's own are kept where nothing but blocks of another kind is written. -/
theorem fresh_out {B : Nat} {w w' : World} {vs : List Value} {bs : List (List UInt8)} (h : Fresh B w vs bs) {X : Nat → Prop} (ho : Out X w w') (hX : ∀ b, X b → b < B ∨ ∃ T c fz, T ≠ 5 ∧ w.heap[b]? = some (.cells c T fz)) : Fresh B w' vs bs :=
  ⟨h.len, fun j b hj => by
    obtain ⟨A, n, c, h1, h2⟩ := h.at_ j b hj
    refine ⟨A, n, c, h1, own_out h2 ho fun k hk hx => ?_⟩
    rcases hX k hx with q | ⟨T, c2, f2, hT, q⟩
    · have := (own_lt h2 hk).1
      omega
    · obtain ⟨c1, f1, q1⟩ := Lib.ownsRow_kind h2 k hk
      rw [q1] at q
      injection q with q
      injection q with _ q3
      exact hT q3.symm⟩
end Go.Proofs.Ytobdkgmlkchggaa.Zm
