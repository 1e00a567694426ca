/- The document's own disk: Seen, Read, Write, Sync. -/
import Derived.Test.YtjfoihbcieffdaaRDiskRef
import Derived.Deep.RegionHeld3
namespace Go.Proofs.YtjfoihbcieffdaaR.Disk
open Go.RowKit

def RelRS (d : DK) (P : List UInt8) (k : Nat) (v i : Value) : Prop := ∃ m : Nat, m ≤ d.row.length ∧ i = .int .i64 (m : Int) ∧ v = .string (S (seenL (d.row.take m) k P))
set_option maxRecDepth 100000 in
theorem rseen_any {w : World} {X : Nat → Prop} {g : Nat} {d : DK} (h : RkAt w X g d) (k : Nat) (hk : k < d.pages.length) (hn : d.row.length ≤ 1000000) :
    Calls Try.prog 31 #[.pointer (some ⟨g, 0, none⟩), .int .i64 (k : Int)] w (Ans (.string (S (d.seen k))) w) := by
  obtain ⟨p, cp, A, c, h⟩ := h
  have H := Lib.hid h
  have hmany := h.ok.many
  obtain ⟨h0, h1, -, -, -⟩ := h.cells
  obtain ⟨hp, -, hcp⟩ := h.page hk
  have hS : ∀ m x, d.row[m]? = some x → seenL (d.row.take (m + 1)) k (d.pages.getD k []) = if x.1 = k then x.2 else seenL (d.row.take m) k (d.pages.getD k []) := fun m x hx => by
    obtain ⟨hlt', hx'⟩ := List.getElem?_eq_some_iff.1 hx
    rw [← List.take_append_getElem hlt', hx', seenL_append]
    rfl
  have HS := Lib.hid hS
  have HE : Hid (seenL (d.row.take d.row.length) k (d.pages.getD k []) = d.seen k) := by show _ = _; rw [List.take_length]; rfl
  clear h hS
  generalize d.pages.getD k [] = P at *
  generalize hL : d.row.length = L at *
  generalize hPL : d.pages.length = PL at *
  go_enter Try.func31, Try.ntmps31
  go_wp2_with fail
  go_loop [5, 6] (fun v i => RelRS d P k v i) (fun _ i => L - (intOf i).toNat)
  case atStart => exact ⟨0, Nat.zero_le _, rfl, rfl⟩
  case round =>
    obtain ⟨m, hm, rfl, rfl⟩ := hrel
    rw [hL] at hm
    by_cases hlt : m < L
    · obtain ⟨x, hx⟩ : ∃ x, d.row[m]? = some x := ⟨_, List.getElem?_eq_getElem (by omega)⟩
      obtain ⟨r, rfl, -, -, -, c1, c2, hLc⟩ := H.out.row_at hx
      rw [hL] at hLc
      have hs := HS.out m x hx
      have HX := Lib.hid hs
      clear hs hx
      by_cases he : x.1 = k
      · have he2 : (x.1 : Int) = (k : Int) := by omega
        rw [he2] at c1
        go_wp2_with fail
        exact ⟨⟨m + 1, by omega, rfl, by rw [HX.out, if_pos he]⟩, by simp [intOf]; omega⟩
      · have he2 : ¬ ((x.1 : Int) = (k : Int)) := by omega
        go_wp2_with fail
        exact ⟨⟨m + 1, by omega, rfl, by rw [HX.out, if_neg he]⟩, by simp [intOf]; omega⟩
    · obtain rfl : m = L := by omega
      rw [HE.out]
      go_wp2_with fail
      go_ret
      exact ⟨rfl, rfl⟩
theorem rread_any {w : World} {X : Nat → Prop} {g : Nat} {d : DK} (h : RkAt w X g d) (k : Int) (hn : d.row.length ≤ 1000000) :
    Calls Try.prog 18 #[.pointer (some ⟨g, 0, none⟩), .int .i64 k] w (Ans (if d.faultAt k = 0 then .tuple #[.string (S (d.seen k.toNat)), .int .i64 0] else .tuple #[.string ⟨#[]⟩, .int .i64 (d.faultAt k)]) w) := by
  have hS := h
  obtain ⟨p, cp, A, c, h⟩ := h
  have hmany := h.ok.many
  obtain ⟨h0, h1, -, h3, -⟩ := h.cells
  have hcp : d.pages.length ≤ cp := (h.page (k := 0) (by have := h.ok.some_; omega)).2.2
  unfold DK.faultAt
  clear h
  by_cases hd : d.dead = true
  · rw [hd] at h3
    rw [if_pos hd, if_neg (by decide)]
    clear hd hS
    go_enter Try.func18, Try.ntmps18
    go_wp2_with fail
    go_ret2
    exact ⟨rfl, rfl⟩
  · have hd2 : d.dead = false := by simpa using hd
    rw [hd2] at h3
    rw [if_neg hd]
    clear hd hd2
    by_cases hk : k < 0
    · have hz : (if k < 0 ∨ (d.pages.length : Int) ≤ k then (1 : Int) else 0) = 1 := if_pos (.inl hk)
      rw [hz, if_neg (by decide)]
      clear hz
      clear hS
      go_enter Try.func18, Try.ntmps18
      go_wp2_with fail
      go_ret2
      exact ⟨rfl, rfl⟩
    · by_cases hk2 : (d.pages.length : Int) ≤ k
      · have hz : (if k < 0 ∨ (d.pages.length : Int) ≤ k then (1 : Int) else 0) = 1 := if_pos (.inr hk2)
        rw [hz, if_neg (by decide)]
        clear hz
        clear hS
        go_enter Try.func18, Try.ntmps18
        go_wp2_with fail
        go_ret2
        exact ⟨rfl, rfl⟩
      · have hz : (if k < 0 ∨ (d.pages.length : Int) ≤ k then (1 : Int) else 0) = 0 := if_neg (fun hh => hh.elim hk hk2)
        rw [hz, if_pos rfl]
        clear hz
        obtain ⟨q, rfl⟩ : ∃ q : Nat, k = (q : Int) := ⟨k.toNat, by omega⟩
        have cs := rseen_any hS q (by omega) hn
        rw [Int.toNat_natCast]
        generalize d.seen q = b at *
        clear hS
        go_enter Try.func18, Try.ntmps18
        go_wp2_with fail
        refine cs.mono ?_
        rintro e w1 ⟨rfl, rfl⟩
        go_wp2_with fail
        go_ret2
        exact ⟨rfl, rfl⟩
end Go.Proofs.YtjfoihbcieffdaaR.Disk
