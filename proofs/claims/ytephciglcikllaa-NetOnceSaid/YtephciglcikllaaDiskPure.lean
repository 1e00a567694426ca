/- Chapter 7's disk as functions: pages, and a row of what was told. -/
import Derived.Test.YtephciglcikllaaCrcBase
namespace Go.Proofs.Ytephciglcikllaa.Disk
open Go.RowKit

/-- A disk: its pages, what waits, whether the power has gone, the countdown. -/
structure DK where
  pages : List (List UInt8)
  row : List (Nat × List UInt8)
  dead : Bool
  left : Int
/-- A page, of which this row waits. -/
def seenL (row : List (Nat × List UInt8)) (k : Nat) (p : List UInt8) : List UInt8 := row.foldl (fun s x => if x.1 = k then x.2 else s) p
def DK.seen (d : DK) (k : Nat) : List UInt8 := seenL d.row k (d.pages.getD k [])
def lay1 (ps : List (List UInt8)) (x : Nat × List UInt8) (n : Nat) : List (List UInt8) := ps.set x.1 (x.2.take n ++ (ps.getD x.1 []).drop n)
/-- What is left of a row: of the i-th write the first k i bytes. -/
def lay (k : Nat → Nat) : Nat → List (List UInt8) → List (Nat × List UInt8) → List (List UInt8)
  | _, ps, [] => ps
  | i, ps, x :: r => lay k (i + 1) (lay1 ps x (k i)) r
def takes (fates : List Int) (i : Nat) : Nat := match fates[i]? with
  | some z => (z % 513).toNat
  | none => 0
def DK.fault (d : DK) : Int := if d.dead = true then 9 else 0
def DK.faultAt (d : DK) (k : Int) : Int := if d.dead = true then 9 else if k < 0 ∨ (d.pages.length : Int) ≤ k then 1 else 0
def DK.burn (d : DK) : Int × DK := if d.left = 0 then (9, { d with dead := true }) else if 0 < d.left then (0, { d with left := d.left - 1 }) else (0, d)
def DK.write (d : DK) (k : Int) (b : List UInt8) : Int × DK :=
  if d.faultAt k ≠ 0 then (d.faultAt k, d) else if b.length ≠ 512 then (1, d) else if d.burn.1 ≠ 0 then d.burn else (0, { d.burn.2 with row := d.burn.2.row ++ [(k.toNat, b)] })
def DK.sync (d : DK) : Int × DK :=
  if d.dead = true then (9, d) else if d.burn.1 ≠ 0 then d.burn else (0, { d.burn.2 with pages := lay (fun _ => 512) 0 d.pages d.row, row := [] })
def DK.fuse (d : DK) (n : Int) : DK := if d.dead = true then d else { d with left := n }
def DK.kill (d : DK) : DK := { d with dead := true }
def DK.restart (d : DK) (fates : List Int) : DK := ⟨lay (takes fates) 0 d.pages d.row, [], false, -1⟩
def DK.new (n : Nat) : DK := ⟨List.replicate n (List.replicate 512 0), [], false, -1⟩

def OkP (ps : List (List UInt8)) : Prop := ∀ b ∈ ps, b.length = 512
def OkR (n : Nat) (r : List (Nat × List UInt8)) : Prop := ∀ x ∈ r, x.1 < n ∧ x.2.length = 512
/-- What holds of each. -/
structure Ok (d : DK) : Prop where
  pages : OkP d.pages
  row : OkR d.pages.length d.row
  many : d.pages.length ≤ 4096
  some_ : 1 ≤ d.pages.length
  low : -9223372036854775808 ≤ d.left
  high : d.left ≤ 9223372036854775807

theorem OkP.get {ps : List (List UInt8)} (h : OkP ps) {k : Nat} (hk : k < ps.length) : (ps.getD k []).length = 512 := by
  rw [List.getD_eq_getElem?_getD, List.getElem?_eq_getElem hk]
  exact h _ (List.getElem_mem hk)
theorem lay1_length (ps : List (List UInt8)) (x : Nat × List UInt8) (n : Nat) : (lay1 ps x n).length = ps.length := by simp [lay1]
theorem OkP.lay1 {ps : List (List UInt8)} (h : OkP ps) {x : Nat × List UInt8} (hk : x.1 < ps.length) (hb : x.2.length = 512) (n : Nat) (hn : n ≤ 512) : OkP (lay1 ps x n) := by
  intro b hm
  unfold Disk.lay1 at hm
  rcases List.mem_or_eq_of_mem_set hm with hm | hm
  · exact h b hm
  · have := h.get hk
    rw [hm, List.length_append, List.length_take, List.length_drop]
    omega
theorem lay_length (k : Nat → Nat) : ∀ (r : List (Nat × List UInt8)) (i : Nat) (ps : List (List UInt8)), (lay k i ps r).length = ps.length
  | [], _, _ => rfl
  | x :: r, i, ps => by rw [lay, lay_length k r, lay1_length]
theorem OkP.lay {k : Nat → Nat} (hk : ∀ i, k i ≤ 512) : ∀ {r : List (Nat × List UInt8)} {i : Nat} {ps : List (List UInt8)}, OkP ps → OkR ps.length r → OkP (lay k i ps r)
  | [], _, _, h, _ => h
  | x :: r, i, ps, h, hr => by
    rw [Disk.lay]
    exact OkP.lay hk (h.lay1 (hr x List.mem_cons_self).1 (hr x List.mem_cons_self).2 _ (hk i)) (by rw [lay1_length]; exact fun y hy => hr y (List.mem_cons_of_mem _ hy))
theorem lay_append (k : Nat → Nat) : ∀ (r s : List (Nat × List UInt8)) (i : Nat) (ps : List (List UInt8)), lay k i ps (r ++ s) = lay k (i + r.length) (lay k i ps r) s
  | [], _, _, _ => rfl
  | x :: r, s, i, ps => by
    rw [List.cons_append, lay, lay, lay_append k r s, List.length_cons]
    congr 1
    omega
theorem takes_le (f : List Int) (i : Nat) : takes f i ≤ 512 := by
  unfold takes
  split
  · next z _ =>
    have h1 := Int.emod_nonneg z (b := 513) (by decide)
    have h2 := Int.emod_lt_of_pos z (b := 513) (by decide)
    omega
  · omega
theorem Ok.new {n : Nat} (h1 : 1 ≤ n) (h2 : n ≤ 4096) : Ok (DK.new n) :=
  ⟨fun b hb => (by have := (List.mem_replicate.1 hb).2; rw [this, List.length_replicate]), fun x hx => (nomatch hx), (by show (List.replicate n _).length ≤ 4096; rw [List.length_replicate]; exact h2), (by show 1 ≤ (List.replicate n _).length; rw [List.length_replicate]; exact h1),
    (by show -9223372036854775808 ≤ (-1 : Int); omega), (by show (-1 : Int) ≤ 9223372036854775807; omega)⟩
theorem Ok.burn {d : DK} (h : Ok d) : Ok d.burn.2 := by
  have h1 := h.low
  have h2 := h.high
  unfold DK.burn
  split
  · exact ⟨h.pages, h.row, h.many, h.some_, h1, h2⟩
  · split
    · exact ⟨h.pages, h.row, h.many, h.some_, by show _ ≤ d.left - 1; omega, by show d.left - 1 ≤ _; omega⟩
    · exact h
theorem burn_pages (d : DK) : d.burn.2.pages = d.pages := by unfold DK.burn; split <;> (try split) <;> rfl
theorem burn_row (d : DK) : d.burn.2.row = d.row := by unfold DK.burn; split <;> (try split) <;> rfl
theorem Ok.set {d d' : DK} (h : Ok d) (hp : d'.pages.length = d.pages.length) (h1 : OkP d'.pages) (h2 : OkR d.pages.length d'.row) (h3 : -9223372036854775808 ≤ d'.left) (h4 : d'.left ≤ 9223372036854775807) : Ok d' :=
  ⟨h1, hp ▸ h2, hp ▸ h.many, hp ▸ h.some_, h3, h4⟩
theorem faultAt_zero {d : DK} {k : Int} (h : d.faultAt k = 0) : d.dead = false ∧ 0 ≤ k ∧ k < d.pages.length := by
  unfold DK.faultAt at h
  split at h
  · omega
  · next hd =>
    split at h
    · omega
    · exact ⟨by simpa using hd, by omega, by omega⟩
theorem write_pages (d : DK) (k : Int) (b : List UInt8) : (d.write k b).2.pages = d.pages := by
  unfold DK.write
  split
  · rfl
  · split
    · rfl
    · split
      · exact burn_pages d
      · exact burn_pages d
theorem Ok.write {d : DK} (h : Ok d) (k : Int) (b : List UInt8) : Ok (d.write k b).2 := by
  unfold DK.write
  split
  · exact h
  · next hf =>
    split
    · exact h
    · next hb =>
      split
      · exact h.burn
      · have h0 := faultAt_zero (by simpa using hf)
        refine h.burn.set rfl h.burn.pages ?_ h.burn.low h.burn.high
        rw [burn_pages]
        intro x hx
        rcases List.mem_append.1 hx with hx | hx
        · exact h.row x (burn_row d ▸ hx)
        · obtain rfl := List.mem_singleton.1 hx
          exact ⟨by have := h0.2; show k.toNat < _; omega, by simpa using hb⟩
theorem Ok.sync {d : DK} (h : Ok d) : Ok d.sync.2 := by
  unfold DK.sync
  split
  · exact h
  · split
    · exact h.burn
    · exact h.set (lay_length _ _ _ _) (h.pages.lay (fun _ => Nat.le_refl _) h.row) (fun x hx => by cases hx) h.burn.low h.burn.high
theorem Ok.fuse {d : DK} (h : Ok d) {n : Int} (h1 : -9223372036854775808 ≤ n) (h2 : n ≤ 9223372036854775807) : Ok (d.fuse n) := by
  unfold DK.fuse
  split
  · exact h
  · exact h.set rfl h.pages h.row h1 h2
theorem Ok.kill {d : DK} (h : Ok d) : Ok d.kill := h.set rfl h.pages h.row h.low h.high
theorem Ok.restart {d : DK} (h : Ok d) (f : List Int) : Ok (d.restart f) :=
  h.set (lay_length _ _ _ _) (h.pages.lay (takes_le f) h.row) (fun x hx => by cases hx) (by show -9223372036854775808 ≤ (-1 : Int); omega) (by show (-1 : Int) ≤ 9223372036854775807; omega)
theorem seenL_append (r s : List (Nat × List UInt8)) (k : Nat) (p : List UInt8) : seenL (r ++ s) k p = seenL s k (seenL r k p) := by unfold seenL; rw [List.foldl_append]
theorem seenL_none {r : List (Nat × List UInt8)} {k : Nat} (h : ∀ x ∈ r, x.1 ≠ k) (p : List UInt8) : seenL r k p = p := by
  induction r with
  | nil => rfl
  | cons x r ih =>
    show seenL r k (if x.1 = k then x.2 else p) = p
    rw [if_neg (h x List.mem_cons_self)]
    exact ih fun y hy => h y (List.mem_cons_of_mem _ hy)
theorem seenL_length {r : List (Nat × List UInt8)} {n k : Nat} (hr : OkR n r) : ∀ {p : List UInt8}, p.length = 512 → (seenL r k p).length = 512 := by
  induction r with
  | nil => exact fun h => h
  | cons x r ih =>
    intro p hp
    show (seenL r k (if x.1 = k then x.2 else p)).length = 512
    refine ih (fun y hy => hr y (List.mem_cons_of_mem _ hy)) ?_
    split
    · exact (hr x List.mem_cons_self).2
    · exact hp
theorem Ok.seen {d : DK} (h : Ok d) {k : Nat} (hk : k < d.pages.length) : (d.seen k).length = 512 := seenL_length h.row (h.pages.get hk)
end Go.Proofs.Ytephciglcikllaa.Disk
