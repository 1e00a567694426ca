/- A page as it is read. -/
import Derived.Test.YtikpedkckijioaaDiskWide
namespace Go.Proofs.Ytikpedkckijioaa.Disk
open Go.RowKit

def RelSeen (d : DK) (k : Nat) (i : Value) : Prop := ∃ m : Nat, m ≤ d.row.length ∧ i = .int .i64 ((m : Int) - 1) ∧ ∀ x ∈ d.row.drop m, x.1 ≠ k
theorem seen_at {d : DK} {k m : Nat} (hm : m < d.row.length) (h : ∀ x ∈ d.row.drop (m + 1), x.1 ≠ k) (he : (d.row[m]).1 = k) : d.seen k = (d.row[m]).2 := by
  unfold DK.seen
  have e : d.row = d.row.take m ++ (d.row[m] :: d.row.drop (m + 1)) := by rw [List.getElem_cons_drop, List.take_append_drop]
  generalize d.row[m] = x at *
  rw [e, seenL_append]
  show seenL (d.row.drop (m + 1)) k (if x.1 = k then x.2 else _) = x.2
  rw [if_pos he, seenL_none h]
theorem seen_none {d : DK} {k : Nat} (h : ∀ x ∈ d.row.drop 0, x.1 ≠ k) : d.seen k = d.pages.getD k [] := seenL_none (by simpa using h) _
set_option maxRecDepth 100000 in
set_option maxHeartbeats 1000000 in
theorem seen_any {w : World} {X : Nat → Prop} {g : Nat} {d : DK} (h : DkAt w X g d) (k : Nat) (hk : k < d.pages.length) (hn : d.row.length ≤ 1000000) :
    Calls Try.prog 48 #[.pointer (some ⟨g, 0, none⟩), .int .i64 (k : Int)] w fun e w' => e = .returned (.agg ((d.seen k).map U).toArray) ∧ Below w.heap.size w w' := by
  have hlen := Lib.hid (h.ok.seen hk)
  obtain ⟨p, A, c, h⟩ := h
  have H := Lib.hid h
  have HK := Lib.hid hk
  have hmany := h.ok.many
  obtain ⟨RES, hres⟩ : ∃ RES, RES = d.seen k := ⟨_, rfl⟩
  have HRES := Lib.hid hres
  rw [← hres] at hlen ⊢
  clear h hres
  obtain ⟨V, hV⟩ : ∃ V, V = w.alloc (.cells (zeros.map U).toArray 92) := ⟨_, rfl⟩
  have HVE := Lib.hid hV
  have HVB : Hid (Below w.heap.size w V) := by show Below _ _ _; rw [hV]; exact (Below.refl _ _).alloc (Nat.le_refl _) _
  have HA := Lib.hid (H.out.below HVB.out)
  have BV2 : Hid (∀ b : List UInt8, b.length = 512 → Below w.heap.size w (w.alloc (.cells (b.map U).toArray 92)) ∧ (w.alloc (.cells (b.map U).toArray 92)).heap[w.heap.size]? = some (.cells (b.map U).toArray 92 (0, 0))) := fun b _ => ⟨(Below.refl _ _).alloc (Nat.le_refl _) _, heap_alloc_last _ _⟩
  go_enter Try.func48, Try.ntmps48
  go_wp2_with ((with_reducible refine wpList_alloc_named ?_ 92 ?_ _ zero_page ?_); (exact rfl); (exact rfl))
  refine Lib.hid ?_
  rw [← hV]
  generalize hsz : w.heap.size = N at *
  clear hV
  obtain ⟨h0, h1, -, -, -⟩ := HA.out.cells
  generalize hL : d.row.length = L at *
  generalize hPL : d.pages.length = PL at *
  have hw1 : wrap64 ((L : Int) - 1) = (L : Int) - 1 := IntWalk.wrap64_in _ (by omega)
  go_wp2_with fail
  go_loop [5] (fun i => RelSeen d k i) (fun i => (intOf i + 1).toNat)
  case atStart => exact ⟨d.row.length, Nat.le_refl _, by rw [hL], by simp⟩
  case round =>
    obtain ⟨m, hm, rfl, hno⟩ := hrel
    cases m with
    | zero =>
      have hsn := seen_none hno
      rw [← HRES.out] at hsn
      have hr := HA.out.pg.range (k := k) (by omega)
      rw [← hsn] at hr
      have HR := Lib.hid hr
      clear hr hsn hno
      have h00 : ((0 : Nat) : Int) - 1 = -1 := rfl
      rw [h00]
      go_wp2_with (first
        | ((with_reducible refine wpList_load_named ?_ 92 (.tmp 39) ?_ p (k * 512) ?_ (RES.map U) _ ?_ Try.underlying92 rfl (size_page' hlen.out) ?_); (exact rfl); (exact rfl); (exact rfl); (exact HR.out))
        | ((with_reducible refine wpList_store_new ?_ 92 (.tmp 4) (.tmp 40) ?_ w _ _ _ HVE.out ?_ ?_ (size_pageA hlen.out) (by simp [hlen.out, zeros_length]) (one_page _) ?_); (exact rfl); (exact rfl); (show Value.pointer (some ⟨N, 0, none⟩) = _; rw [hsz]); (exact rfl)))
      refine Lib.hid ?_
      obtain ⟨hb, hkk⟩ := BV2.out RES hlen.out
      generalize w.alloc (.cells (RES.map U).toArray 92) = W2 at *
      go_wp2_with fail
      refine bodyPost_ret (results_cell_row rfl _ _ N 92 _ (0, 0) _ rfl hkk Try.underlying92 rfl (size_pageA hlen.out)) rfl ?_
      exact ⟨rfl, by rw [hsz]; exact hb⟩
    | succ m =>
      have hmL : m < d.row.length := hm
      have hmL2 : m < L := by omega
      obtain ⟨r, rfl, hxr, hrg, hrp, hrange, hLc⟩ := HA.out.row_at (List.getElem?_eq_getElem hmL)
      rw [hL] at hLc
      have hi : (((m + 1 : Nat) : Int) - 1) = (m : Int) := by omega
      rw [hi]
      have hc := hrange 0 _ rfl
      rw [Nat.add_zero] at hc
      have hrg2 := rangeAt_drop hrange 1
      have hsn := fun he => seen_at (k := k) hmL hno he
      rw [← HRES.out] at hsn
      unfold wrC at hrg2
      simp only [List.drop_succ_cons, List.drop_zero] at hrg2
      have HNO : Hid (∀ he : (d.row[m]).1 ≠ k, ∀ x ∈ d.row.drop m, x.1 ≠ k) := by
        intro he x hx
        rw [← List.getElem_cons_drop hmL] at hx
        rcases List.mem_cons.1 hx with rfl | hx
        · exact he
        · exact hno x hx
      clear hno hrange
      generalize d.row[m] = x at *
      by_cases he : x.1 = k
      · have e2 := hsn he
        rw [← e2] at hrg2
        have HR := Lib.hid hrg2
        clear hrg2 hsn e2 HNO
        rw [he] at hc
        go_wp2_with (first
          | ((with_reducible refine wpList_load_named ?_ 92 (.tmp 32) ?_ r (m * 513 + 1) ?_ (RES.map U) _ ?_ Try.underlying92 rfl (size_page' hlen.out) ?_); (exact rfl); (exact rfl); (exact rfl); (exact HR.out))
          | ((with_reducible refine wpList_store_new ?_ 92 (.tmp 4) (.tmp 33) ?_ w _ _ _ HVE.out ?_ ?_ (size_pageA hlen.out) (by simp [hlen.out, zeros_length]) (one_page _) ?_); (exact rfl); (exact rfl); (show Value.pointer (some ⟨N, 0, none⟩) = _; rw [hsz]); (exact rfl)))
        refine Lib.hid ?_
        obtain ⟨hb, hkk⟩ := BV2.out RES hlen.out
        generalize w.alloc (.cells (RES.map U).toArray 92) = W2 at *
        go_wp2_with fail
        refine bodyPost_ret (results_cell_row rfl _ _ N 92 _ (0, 0) _ rfl hkk Try.underlying92 rfl (size_pageA hlen.out)) rfl ?_
        exact ⟨rfl, by rw [hsz]; exact hb⟩
      · clear hrg2 hsn
        have hne : ¬ ((x.1 : Int) = (k : Int)) := by omega
        go_wp2_with fail
        exact ⟨⟨m, by omega, rfl, HNO.out he⟩, by simp [intOf]⟩
end Go.Proofs.Ytikpedkckijioaa.Disk
