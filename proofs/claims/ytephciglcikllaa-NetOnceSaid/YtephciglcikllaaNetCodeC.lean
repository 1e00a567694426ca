/- net: New itself. -/
import Derived.Test.YtephciglcikllaaNetCodeB
namespace Go.Proofs.Ytephciglcikllaa.Net
open Go.RowKit Disk Zab Sto

/-- What New comes to. -/
def NewP (zs : List Int) (w : World) (e : Ending) (w' : World) : Prop := Below w.heap.size w w' ∧ ((sizesOk zs = false ∧ e = .returned (.tuple #[.pointer none, .int .i64 1])) ∨ (sizesOk zs = true ∧ ∃ g O, e = .returned (.tuple #[.pointer (some ⟨g, 0, none⟩), .int .i64 0]) ∧ NtAt w w' O g (Nt.new zs) 0))
theorem any_noSize {zs : List Int} : zs.any noSize = false ↔ ∀ x ∈ zs, 1 ≤ x ∧ x ≤ 3 := by
  unfold noSize
  rw [List.any_eq_false]
  constructor
  · intro h x hx
    have := h x hx
    simp at this
    omega
  · intro h x hx
    have := h x hx
    simp
    omega
theorem new_nt {w w1 w' : World} {zs : List Int} (hz : sizesOk zs = true) {A : Option Addr} {c : Nat} (hr : RdV w1 A zs.length (iv zs)) (ha : ∀ a, A = some a → w.heap.size ≤ a.block) (hb : Below w.heap.size w w1) (hw : w' = (w1.alloc (.map #[] 0)).alloc (.cells #[.slice A zs.length c, .slice none 0 0, .map (some w1.heap.size)] 69)) : NtAt w w' (fun b => w.heap.size ≤ b ∧ b < w'.heap.size) (w1.heap.size + 1) (Nt.new zs) 0 ∧ Below w.heap.size w w' := by
  have hs1 := hb.size
  have hb1 : Below w1.heap.size w1 w' := by rw [hw]; exact ((Below.refl _ _).alloc (Nat.le_refl _) _).alloc (by simp) _
  have hsz : w'.heap.size = w1.heap.size + 2 := by rw [hw]; simp
  have hbk : Bk w' (w1.heap.size + 1) 69 #[.slice A zs.length c, .slice none 0 0, .map (some w1.heap.size)] := by
    rw [hw]
    simpa using Bk.new (w1.alloc (.map #[] 0)) 69 #[.slice A zs.length c, .slice none 0 0, .map (some w1.heap.size)]
  have hmap : KMap linkT w' w1.heap.size (cutV fun _ => false) 0 (.map []) := by
    rw [hw]
    have := (KMap.new linkT w1).below ((Below.refl _ _).alloc (Nat.le_refl _) (.cells #[.slice A zs.length c, .slice none 0 0, .map (some w1.heap.size)] 69))
    exact this.congr (by funext x; rfl)
  have hlen : (Nt.new zs).row.length = 0 := rfl
  refine ⟨⟨Nt.Ok.new hz, ⟨by omega, by omega⟩, fun b hb => hb, fun b => w.heap.size ≤ b ∧ b < w1.heap.size, A, c, none, 0, w1.heap.size, .map [], [], hbk, fun b hb => ⟨⟨hb.1, by omega⟩, by omega, by omega, fun a ha => by cases ha⟩, hr.below hb1, fun a e h0 => ?_, RowE.nil_ _ _, (fun a e => by cases e), (fun i p l hp hl => by cases hl), ⟨⟨by omega, by omega⟩, ⟨by omega, by omega⟩, by omega⟩, hmap⟩, hb.trans (hb1.mono hs1)⟩
  refine ⟨ha a e, ?_⟩
  obtain ⟨ad, e1, hc⟩ := hr.cells h0
  rw [e] at e1
  injection e1 with e1
  subst e1
  have hi : (iv zs)[0]? = some (.int .i64 (zs.getD 0 0)) := by
    have h0' : 0 < zs.length := h0
    unfold iv
    rw [List.getElem?_map, List.getElem?_eq_getElem h0', List.getD_eq_getElem?_getD, List.getElem?_eq_getElem h0']
    rfl
  have := World.block_lt_of_cell? _ _ (hc 0 _ hi)
  rwa [addr_add_block] at this
set_option maxRecDepth 8000 in
set_option maxHeartbeats 1000000 in
theorem New_any (zs : List Int) (A : Option Addr) (n c : Nat) (w : World) (hS : RdV w A n (iv zs)) (hn : n ≤ 1000000) : Calls Try.prog 9 #[.slice A n c] w (NewP zs w) := by
  have hl : zs.length = n := by rw [← hS.len]; simp [iv]
  by_cases h1 : n < 1
  · have hno : sizesOk zs = false := by
      rw [Bool.eq_false_iff]
      intro h
      have := (sizesOk_iff.1 h).1
      omega
    have HF : Hid (NewP zs w (.returned (.tuple #[.pointer none, .int .i64 1])) w) := ⟨Below.refl _ _, .inl ⟨hno, rfl⟩⟩
    have h1' : (n : Int) < 1 := by omega
    clear hno hl hS
    go_enter Try.func9, Try.ntmps9
    go_wp2_with fail
    go_ret2
    exact HF.out
  by_cases h2 : 4 < n
  · have hno : sizesOk zs = false := by
      rw [Bool.eq_false_iff]
      intro h
      have := (sizesOk_iff.1 h).2.1
      omega
    have HF : Hid (NewP zs w (.returned (.tuple #[.pointer none, .int .i64 1])) w) := ⟨Below.refl _ _, .inl ⟨hno, rfl⟩⟩
    have h1' : ¬ (n : Int) < 1 := by omega
    have h2' : (4 : Int) < (n : Int) := by omega
    clear hno hl hS
    go_enter Try.func9, Try.ntmps9
    go_wp2_with fail
    go_ret2
    exact HF.out
  have CA := Lib.hid (contains_sizes zs A n c w hS hn)
  have CC := Lib.hid (clone_ints A n c zs w hS hn)
  have h1' : ¬ (n : Int) < 1 := by omega
  have h2' : ¬ (4 : Int) < (n : Int) := by omega
  obtain ⟨r, hr⟩ : ∃ r, r = zs.any noSize := ⟨_, rfl⟩
  rw [← hr] at CA
  have HZ : Hid (sizesOk zs = !r) := by
    show _ = _
    cases hq : zs.any noSize
    · rw [hr, hq]
      exact sizesOk_iff.2 ⟨by omega, by omega, any_noSize.1 hq⟩
    · rw [hr, hq]
      rw [Bool.not_true, Bool.eq_false_iff]
      intro h
      rw [any_noSize.2 (sizesOk_iff.1 h).2.2] at hq
      cases hq
  have HL := Lib.hid hl
  clear hr hS hl h1 h2
  cases r
  · have hmm := @run_makeMap Try.prog
    go_enter Try.func9, Try.ntmps9
    go_wp2_with fail
    refine CA.out.mono ?_
    rintro e w1 ⟨rfl, rfl⟩
    clear CA
    go_wp2_with fail
    refine CC.out.mono ?_
    rintro e w2 ⟨B, m, k, rfl, hm, hr2, hn2, hb2⟩
    have HX := Lib.hid (new_nt (c := k) HZ.out (by rw [← hm]; exact hr2) hn2 hb2 rfl)
    have HM := Lib.hid hm
    clear CC hm hr2 hn2 hb2
    go_wp2_with fail
    go_ret2
    have hx := HX.out
    rw [← HM.out] at hx
    exact ⟨hx.2, .inr ⟨HZ.out, _, _, rfl, hx.1⟩⟩
  · clear CC
    go_enter Try.func9, Try.ntmps9
    go_wp2_with fail
    refine CA.out.mono ?_
    rintro e w1 ⟨rfl, rfl⟩
    clear CA
    go_wp2_with fail
    go_ret2
    exact ⟨Below.refl _ _, .inl ⟨HZ.out, rfl⟩⟩
end Go.Proofs.Ytephciglcikllaa.Net
