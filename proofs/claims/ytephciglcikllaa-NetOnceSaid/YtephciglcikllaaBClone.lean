/- bytes.Clone. -/
import Derived.Test.YtephciglcikllaaPathTexts
import Derived.Test.YtephciglcikllaaCrcBase
import Derived.Lib.SliceRun
import Derived.Lib.Hide
namespace Go.Proofs.Ytephciglcikllaa
open Go.RowKit

theorem own_lit1 (w : World) (e : TypeId) : (w.alloc (.cells #[] e)).ownsRow w.heap.size e 1 (.slice (some ⟨w.heap.size, 0, none⟩) 0 0) 0 ([] : List Value) :=
  ⟨rfl, .inr ⟨w.heap.size, 0, #[], rfl, Nat.le_refl _, heap_alloc_new w _, Nat.le_refl _, by unfold maxLen; omega, rfl, rfl⟩⟩
/-- A copy of bytes in memory of its own. -/
def CopyP (bs : List UInt8) (w : World) (e : Ending) (w' : World) : Prop := ∃ B m k, e = .returned (.slice B m k) ∧ m ≤ k ∧ Rd w' B m bs ∧ (∀ a, B = some a → w.heap.size ≤ a.block) ∧ Below w.heap.size w w' ∧ w'.ownsRow w.heap.size 5 1 (.slice B m k) m (bs.map U)
set_option maxRecDepth 8000 in
theorem clone_bytes (A : Option Addr) (n c : Nat) (bs : List UInt8) (w : World) (hr : Rd w A n bs) (hle : n ≤ 140737488355328) :
    Calls Try.prog 43 #[.slice A n c] w (CopyP bs w) := by
  have H := Lib.hid hr
  cases A with
  | none =>
    have h0 : n = 0 := by
      rcases Nat.eq_zero_or_pos n with h | h
      · exact h
      · obtain ⟨_, e', _⟩ := hr.cells h
        cases e'
    subst h0
    have hb0 : bs = [] := List.eq_nil_of_length_eq_zero hr.len
    subst hb0
    clear hr
    have heq := Lib.run_eql_slice_nil (P := Try.prog) w 35 5 none 0 c 0 0 ty_bytes
    go_enter Try.func43, Try.ntmps43
    go_wp2_with fail
    go_ret
    exact ⟨none, 0, 0, rfl, Nat.le_refl _, Rd.nil_ _ _, (fun a h => by cases h), Below.refl _ _, ⟨rfl, .inl ⟨rfl, rfl⟩⟩⟩
  | some ad =>
    clear hr
    obtain ⟨i, hi, hz0, hz1, hz2⟩ := infos info_byte
    have HI := Lib.hid hi
    have HZ0 := Lib.hid hz0
    have HZ1 := Lib.hid hz1
    have HZ2 := Lib.hid hz2
    clear hi hz0 hz1 hz2
    have heq := Lib.run_eql_slice_nil (P := Try.prog) w 35 5 (some ad) n c 0 0 ty_bytes
    go_enter Try.func43, Try.ntmps43
    have HBa := Lib.hid ((Below.refl w.heap.size w).alloc (Nat.le_refl _) (.cells #[] 5))
    go_wp2_with (at_builtin; refine wpList_append_Rd rfl (.tmp 5) (.tmp 6) _ rfl ty_bytes HI.out HZ0.out HZ1.out HZ2.out rfl rfl (own_lit1 w 5) rfl (H.out.below HBa.out) (by omega) (by simp) ?_)
    intro v' w3 hown3 hgr3
    have HO3 := Lib.hid hown3
    have HB3 := Lib.hid (HBa.out.grown hgr3 HBa.out.size (fun g hg => ((own_lit1 w 5).lt g hg).1))
    clear hown3 hgr3
    go_wp2_with fail
    go_ret
    obtain ⟨B, k, e1⟩ := own_slice HO3.out
    have ho := HO3.out
    rw [e1] at ho ⊢
    have hle2 : n ≤ k := by
      rcases ho.2 with ⟨e2, e3⟩ | ⟨g, cap, cur, e2, _, _, h4, _⟩
      · omega
      · injection e2 with _ _ e2; omega
    exact ⟨B, n, k, rfl, hle2, (Rd.of_own ho).1, fun a ha => (ho.lt a.block (by rw [ha]; rfl)).1, HB3.out, ho⟩
end Go.Proofs.Ytephciglcikllaa
