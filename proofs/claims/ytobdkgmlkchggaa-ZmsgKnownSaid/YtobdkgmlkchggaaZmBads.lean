/- Chapter 11's examples: messages that may not be, messages that may; rows of messages in memory. -/
import Derived.Test.YtobdkgmlkchggaaZmAll
namespace Go.Proofs.Ytobdkgmlkchggaa.Zm
open Go.RowKit Disk Log Sto

def zs (n : Nat) : List UInt8 := List.replicate n 0
theorem zs_len (n : Nat) : (zs n).length = n := List.length_replicate
def l7 : Ln := ⟨1, [7]⟩
def bads : List Mg := [⟨0, 0, 0, 0, 0, []⟩, ⟨7, 1, 0, 0, 0, []⟩, ⟨1, 0, 0, 0, 0, []⟩, ⟨1, 281474976710657, 0, 0, 0, []⟩, ⟨1, 3, 0, 1, 0, []⟩, ⟨1, 3, 0, 0, 0, [l7]⟩, ⟨3, 3, 0, 0, 1, []⟩, ⟨2, 3, 4, 0, 0, []⟩, ⟨2, 3, 0, 1, 0, []⟩, ⟨4, 3, 1, 0, 0, []⟩, ⟨5, 3, 0, -1, 0, []⟩, ⟨5, 3, 0, 257, 0, []⟩, ⟨5, 3, 0, 0, 257, []⟩, ⟨6, 3, 0, 0, 0, [l7]⟩, ⟨4, 3, 0, 0, 0, [⟨0, []⟩]⟩, ⟨4, 3, 0, 0, 0, [⟨1, []⟩]⟩, ⟨4, 3, 0, 0, 0, [⟨1, zs 4097⟩]⟩]
def goods : List Mg := [⟨3, 281474976710656, 0, 0, 0, []⟩, ⟨2, 3, 3, 0, 0, [l7]⟩, ⟨4, 3, 0, 0, 0, [l7]⟩, ⟨5, 3, 0, 256, 256, [l7]⟩, ⟨6, 3, 0, 256, 0, []⟩, ⟨4, 1, 0, 0, 0, [⟨281474976710656, zs 4096⟩]⟩]
def st3 : Mg := ⟨1, 3, 0, 0, 0, []⟩
theorem ok_of {m : Mg} (h1 : m.kind < 256) (h2 : m.epoch < 18446744073709551616) (h3 : m.current < 18446744073709551616) (h4 : -9223372036854775808 ≤ m.at_ ∧ m.at_ ≤ 9223372036854775807) (h5 : -9223372036854775808 ≤ m.commit ∧ m.commit ≤ 9223372036854775807) (h6 : m.lines.length ≤ 10) (h7 : ∀ x ∈ m.lines, x.epoch < 18446744073709551616 ∧ x.bytes.length ≤ 10000) : m.Ok :=
  ⟨h1, h2, h3, h4.1, h4.2, h5.1, h5.2, by omega, fun x hx => ⟨(h7 x hx).1, by have := (h7 x hx).2; omega⟩⟩
theorem bads_no : ∀ m ∈ bads, m.Ok ∧ ¬ m.may := by
  intro m hm
  unfold bads at hm
  simp only [List.mem_cons, List.not_mem_nil, or_false] at hm
  rcases hm with rfl | rfl | rfl | rfl | rfl | rfl | rfl | rfl | rfl | rfl | rfl | rfl | rfl | rfl | rfl | rfl | rfl
  iterate 16 exact ⟨ok_of (by decide) (by decide) (by decide) (by decide) (by decide) (by decide) (by decide), by decide⟩
  refine ⟨ok_of (by decide) (by decide) (by decide) (by decide) (by decide) (by simp) (fun x hx => ?_), fun h => ?_⟩
  · rw [List.mem_singleton.1 hx]
    exact ⟨by decide, by rw [zs_len]; decide⟩
  · have := h.2.2.2.2.2.2.2.2.2.2.1 ⟨1, zs 4097⟩ List.mem_cons_self
    rw [lineB_iff] at this
    simp only [zs_len] at this
    omega
theorem goods_yes : ∀ m ∈ goods, m.Ok ∧ m.may ∧ Few m := by
  intro m hm
  unfold goods at hm
  simp only [List.mem_cons, List.not_mem_nil, or_false] at hm
  rcases hm with rfl | rfl | rfl | rfl | rfl | rfl
  iterate 5 exact ⟨ok_of (by decide) (by decide) (by decide) (by decide) (by decide) (by decide) (by decide), by decide, by unfold Few; decide⟩
  refine ⟨ok_of (by decide) (by decide) (by decide) (by decide) (by decide) (by simp) (fun x hx => ?_), ⟨by decide, by decide, by decide, by decide, by decide, by decide, by decide, by decide, by decide, by simp, fun x hx => ?_, by decide, by decide, by decide, by simp⟩, by simp, ?_⟩
  · rw [List.mem_singleton.1 hx]
    exact ⟨by decide, by rw [zs_len]; decide⟩
  · rw [List.mem_singleton.1 hx, lineB_iff]
    simp only [zs_len]
    decide
  · simp [sumL, zs_len]
theorem st3_yes : st3.Ok ∧ st3.may ∧ st3.enc.length = 41 := ⟨ok_of (by decide) (by decide) (by decide) (by decide) (by decide) (by decide) (by decide), by decide, by kernel_rfl⟩
theorem st3_cells : (st3.enc.map U)[0]? = some (.int .u8 1) ∧ (st3.enc.map U)[8]? = some (.int .u8 3) := ⟨by kernel_rfl, by kernel_rfl⟩
theorem st3_turned : ¬ getOk (st3.enc.set 0 7) := by
  intro h
  obtain ⟨h1, h2⟩ := enc_get h
  obtain ⟨m, hm⟩ : ∃ m, m = said (st3.enc.set 0 7) := ⟨_, rfl⟩
  rw [← hm] at h1 h2
  have h3 : m.enc[0]? = some 7 := by rw [h2]; decide
  have h4 : m.enc[0]? = some (UInt8.ofNat m.kind) := by
    unfold Mg.enc
    rw [List.getElem?_append_left (by rw [be_length]; decide)]
    simp [be]
  rw [h4] at h3
  injection h3 with h3
  have h5 := h1.2.1
  have h6 := congrArg UInt8.toNat h3
  simp at h6
  omega
/-- A row of messages at block g. -/
def RowM (W : World) (g : Nat) (ms : List Mg) : Prop := ∀ k m, ms[k]? = some m → ∃ A c, (∀ i v, (mgC m A m.lines.length c)[i]? = some v → W.cell? ⟨g, k * 6 + i, none⟩ = some v) ∧ LnS (fun _ => True) W A m.lines.length m.lines
theorem RowM.below {W W' : World} {g : Nat} {ms : List Mg} (h : RowM W g ms) (hb : Below W.heap.size W W') : RowM W' g ms := by
  intro k m hm
  obtain ⟨A, c, h1, h2⟩ := h k m hm
  exact ⟨A, c, fun i v hv => (hb.cell (World.block_lt_of_cell? W _ (h1 i v hv))).trans (h1 i v hv), h2.below hb⟩
theorem row_at {W : World} {g : Nat} {t : TypeId} {cs : Array Value} (hb : Bk W g t cs) (k : Nat) (m : Mg) (A : Option Addr) (c : Nat) (h : ∀ i, i < 6 → cs[k * 6 + i]? = (mgC m A m.lines.length c)[i]?) (hl : LnS (fun _ => True) W A m.lines.length m.lines) : ∃ A c, (∀ i v, (mgC m A m.lines.length c)[i]? = some v → W.cell? ⟨g, k * 6 + i, none⟩ = some v) ∧ LnS (fun _ => True) W A m.lines.length m.lines :=
  ⟨A, c, fun i v hv => by
    have hi : i < 6 := (Array.getElem?_eq_some_iff.1 hv).1
    rw [hb.cell, h i hi, hv], hl⟩
/-- One line, in a block of its own. -/
theorem one_line {W : World} {g : Nat} {B : Option Addr} {n c : Nat} {x : Ln} (hb : Bk W g 37 #[.int .u64 (x.epoch : Int), .slice B n c]) (hn : n ≤ c) (hr : Rd W B n x.bytes) : LnS (fun _ => True) W (some ⟨g, 0, none⟩) 1 [x] := by
  refine ⟨rfl, fun j y hj => ?_⟩
  have hj0 : j = 0 := by
    have := (List.getElem?_eq_some_iff.1 hj).1
    simp at this
    exact this
  subst hj0
  simp at hj
  subst hj
  exact ⟨g, 0, B, n, c, rfl, trivial, hb.cell 0, hb.cell 1, hn, hr, fun _ _ _ => trivial⟩
end Go.Proofs.Ytobdkgmlkchggaa.Zm
