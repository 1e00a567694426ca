/- The document's own disk in memory, and its small functions. -/
import Derived.Test.YtjfoihbcieffdaaRDiskArgs
import Derived.Lib.Strings
namespace Go.Proofs.YtjfoihbcieffdaaR.Disk
open Go.RowKit

def strs (ps : List (List UInt8)) : List Value := ps.map fun l => .string (S l)
def rowS (r : List (Nat × List UInt8)) : List Value := r.flatMap fun x => [.int .i64 (x.1 : Int), .string (S x.2)]
theorem rowS_length (r : List (Nat × List UInt8)) : (rowS r).length = r.length * 2 := by
  induction r with
  | nil => rfl
  | cons x r ih =>
    unfold rowS at ih ⊢
    rw [List.flatMap_cons, List.length_append, ih]
    simp
    omega
theorem rowS_snoc (r : List (Nat × List UInt8)) (x : Nat × List UInt8) : rowS (r ++ [x]) = rowS r ++ [.int .i64 (x.1 : Int), .string (S x.2)] := by
  unfold rowS
  rw [List.flatMap_append]
  simp
theorem rowS_at {r : List (Nat × List UInt8)} : ∀ {i : Nat} {x : Nat × List UInt8}, r[i]? = some x → (rowS r)[i * 2]? = some (.int .i64 (x.1 : Int)) ∧ (rowS r)[i * 2 + 1]? = some (.string (S x.2)) := by
  induction r with
  | nil => intro i x hx; simp at hx
  | cons y r ih =>
    intro i x hx
    have hrow : rowS (y :: r) = [.int .i64 (y.1 : Int), .string (S y.2)] ++ rowS r := by unfold rowS; rw [List.flatMap_cons]
    cases i with
    | zero =>
      simp only [List.getElem?_cons_zero, Option.some.injEq] at hx
      subst hx
      exact ⟨by rw [hrow]; rfl, by rw [hrow]; rfl⟩
    | succ i =>
      simp only [List.getElem?_cons_succ] at hx
      obtain ⟨h1, h2⟩ := ih hx
      have e1 : (i + 1) * 2 = i * 2 + 2 := by omega
      have e2 : (i + 1) * 2 + 1 = i * 2 + 1 + 2 := by omega
      rw [hrow]
      constructor
      · rw [e1, List.getElem?_append_right (by simp)]; exact h1
      · rw [e2, List.getElem?_append_right (by simp)]; exact h2
/-- The reference's disk at block g, its memory within X. -/
structure RAt (w : World) (X : Nat → Prop) (g p cp : Nat) (A : Option Addr) (c : Nat) (d : DK) : Prop where
  bk : Bk w g 40 #[.slice (some ⟨p, 0, none⟩) d.pages.length cp, .slice A d.row.length c, .int .i64 d.left, .bool d.dead]
  pgs : w.ownsRow 0 9 1 (.slice (some ⟨p, 0, none⟩) d.pages.length cp) d.pages.length (strs d.pages)
  own : w.ownsRow 0 71 2 (.slice A d.row.length c) d.row.length (rowS d.row)
  xg : X g
  xp : X p
  xr : ∀ a, A = some a → X a.block ∧ a.block ≠ g ∧ a.block ≠ p
  ne : g ≠ p
  ok : Ok d
  lt : ∀ k, X k → k < w.heap.size
def RkAt (w : World) (X : Nat → Prop) (g : Nat) (d : DK) : Prop := ∃ p cp A c, RAt w X g p cp A c d
theorem own_kept {w w' : World} {e : TypeId} {size : Nat} {A : Option Addr} {n c m : Nat} {xs : List Value} (h : w.ownsRow 0 e size (.slice A n c) m xs) (hb : ∀ a, A = some a → a.block < w.heap.size → w'.heap[a.block]? = w.heap[a.block]?) : w'.ownsRow 0 e size (.slice A n c) m xs := by
  refine ⟨h.1, ?_⟩
  rcases h.2 with h1 | ⟨r, cap, cur, h1, h2, h3, h4⟩
  · exact .inl h1
  · refine .inr ⟨r, cap, cur, h1, h2, ?_, h4⟩
    injection h1 with e1
    rw [hb ⟨r, 0, none⟩ e1 (Array.getElem?_eq_some_iff.1 h3).1]
    exact h3
theorem RAt.kept {w w' : World} {X : Nat → Prop} {g p cp : Nat} {A : Option Addr} {c : Nat} {d : DK} (h : RAt w X g p cp A c d) (hb : ∀ k, X k → w'.heap[k]? = w.heap[k]?) (hs : w.heap.size ≤ w'.heap.size) : RAt w' X g p cp A c d :=
  ⟨h.bk.kept (hb g h.xg), own_kept h.pgs (fun a ha _ => by injection ha with ha; subst ha; exact hb p h.xp), own_kept h.own (fun a ha _ => hb _ (h.xr a ha).1), h.xg, h.xp, h.xr, h.ne, h.ok, fun k hk => Nat.lt_of_lt_of_le (h.lt k hk) hs⟩
theorem RkAt.out {w w' : World} {X Y : Nat → Prop} {g : Nat} {d : DK} (h : RkAt w X g d) (ho : Out Y w w') (hy : ∀ k, X k → ¬ Y k) : RkAt w' X g d := by
  obtain ⟨p, cp, A, c, h⟩ := h
  exact ⟨p, cp, A, c, h.kept (fun k hk => ho.block k (h.lt k hk) (hy k hk)) ho.size⟩
theorem RkAt.below {w w' : World} {X : Nat → Prop} {g : Nat} {d : DK} (h : RkAt w X g d) (hb : Below w.heap.size w w') : RkAt w' X g d := h.out (X := X) (Y := fun _ => False) (Out.of_below hb) (fun _ _ h => h)
theorem RkAt.lt {w : World} {X : Nat → Prop} {g : Nat} {d : DK} (h : RkAt w X g d) : ∀ k, X k → k < w.heap.size := by
  obtain ⟨_, _, _, _, h⟩ := h
  exact h.lt
theorem RkAt.ok {w : World} {X : Nat → Prop} {g : Nat} {d : DK} (h : RkAt w X g d) : Ok d := by
  obtain ⟨_, _, _, _, h⟩ := h
  exact h.ok
theorem RAt.cells {w : World} {X : Nat → Prop} {g p cp : Nat} {A : Option Addr} {c : Nat} {d : DK} (h : RAt w X g p cp A c d) :
    w.cell? ⟨g, 0, none⟩ = some (.slice (some ⟨p, 0, none⟩) d.pages.length cp) ∧ w.cell? ⟨g, 1, none⟩ = some (.slice A d.row.length c) ∧ w.cell? ⟨g, 2, none⟩ = some (.int .i64 d.left) ∧ w.cell? ⟨g, 3, none⟩ = some (.bool d.dead) ∧ (∀ i, w.frozen? ⟨g, i, none⟩ = false) :=
  ⟨h.bk.cell 0, h.bk.cell 1, h.bk.cell 2, h.bk.cell 3, h.bk.frozen⟩
theorem RAt.page {w : World} {X : Nat → Prop} {g p cp : Nat} {A : Option Addr} {c : Nat} {d : DK} (h : RAt w X g p cp A c d) {k : Nat} (hk : k < d.pages.length) : w.cell? ⟨p, k, none⟩ = some (.string (S (d.pages.getD k []))) ∧ w.frozen? ⟨p, k, none⟩ = false ∧ d.pages.length ≤ cp := by
  rcases h.pgs.2 with ⟨h1, _⟩ | ⟨r, cap, cur, h1, h2, h3, h4, h5, h6, h7⟩
  · cases h1
  · injection h1 with e1 _ e3
    injection e1 with e1
    injection e1 with e1
    subst e1 e3
    refine ⟨?_, (show Bk w p _ _ from h3).frozen k, h4⟩
    rw [cell_of_row w p _ _ _ _ h3]
    have hc : (strs d.pages)[k]? = some (.string (S (d.pages.getD k []))) := by
      unfold strs
      rw [List.getElem?_map, List.getElem?_eq_getElem hk, List.getD_eq_getElem?_getD, List.getElem?_eq_getElem hk]
      rfl
    rw [← h7, List.getElem?_take, if_pos (by omega)] at hc
    simpa using hc
theorem RAt.row_at {w : World} {X : Nat → Prop} {g p cp : Nat} {A : Option Addr} {c : Nat} {d : DK} (h : RAt w X g p cp A c d) {i : Nat} {x : Nat × List UInt8} (hx : d.row[i]? = some x) :
    ∃ r, A = some ⟨r, 0, none⟩ ∧ X r ∧ r ≠ g ∧ r ≠ p ∧ w.cell? ⟨r, i * 2, none⟩ = some (.int .i64 (x.1 : Int)) ∧ w.cell? ⟨r, i * 2 + 1, none⟩ = some (.string (S x.2)) ∧ d.row.length ≤ c := by
  have hi : i < d.row.length := (List.getElem?_eq_some_iff.1 hx).1
  rcases h.own.2 with ⟨_, h1⟩ | ⟨r, cap, cur, h1, h2, h3, h4, h5, h6, h7⟩
  · omega
  · injection h1 with e1 _ e3
    subst e1 e3
    have hxr := h.xr ⟨r, 0, none⟩ rfl
    obtain ⟨c1, c2⟩ := rowS_at hx
    rw [← h7, List.getElem?_take, if_pos (by omega)] at c1 c2
    refine ⟨r, rfl, hxr.1, hxr.2.1, hxr.2.2, ?_, ?_, h4⟩
    · rw [cell_of_row w r _ _ _ _ h3]; simpa using c1
    · rw [cell_of_row w r _ _ _ _ h3]; simpa using c2
theorem RAt.set {w : World} {X : Nat → Prop} {g p cp : Nat} {A : Option Addr} {c : Nat} {d : DK} (h : RAt w X g p cp A c d) (i : Nat) (u : Value) {d' : DK} (hb : (#[.slice (some ⟨p, 0, none⟩) d.pages.length cp, .slice A d.row.length c, .int .i64 d.left, .bool d.dead] : Array Value).setIfInBounds i u = #[.slice (some ⟨p, 0, none⟩) d'.pages.length cp, .slice A d'.row.length c, .int .i64 d'.left, .bool d'.dead]) (hp : d'.pages = d.pages) (hr : d'.row = d.row) (hok : Ok d') :
    RAt (w.setCell ⟨g, i, none⟩ u) X g p cp A c d' := by
  have ho := Out.setCell (X := (· = g)) w (p := ⟨g, i, none⟩) rfl u
  refine ⟨by rw [← hb]; exact h.bk.set i u, ?_, ?_, h.xg, h.xp, h.xr, h.ne, hok, fun k hk => Nat.lt_of_lt_of_le (h.lt k hk) ho.size⟩
  · rw [hp]
    exact own_kept h.pgs (fun a ha hl => ho.block _ hl (fun e => by injection ha with ha; subst ha; exact h.ne e.symm))
  · rw [hr]
    exact own_kept h.own (fun a ha hl => ho.block _ hl (h.xr a ha).2.1)
theorem RAt.setPage {w : World} {X : Nat → Prop} {g p cp : Nat} {A : Option Addr} {c : Nat} {d : DK} (h : RAt w X g p cp A c d) {k : Nat} {b : List UInt8} (hb : b.length = 512) :
    RAt (w.setCell ⟨p, k, none⟩ (.string (S b))) X g p cp A c { d with pages := d.pages.set k b } := by
  have ho := Out.setCell (X := (· = p)) w (p := ⟨p, k, none⟩) rfl (.string (S b))
  have hl : (d.pages.set k b).length = d.pages.length := List.length_set
  have hs := (h.pgs.stored k (.string (S b))).1
  have e : (strs d.pages).set k (.string (S b)) = strs (d.pages.set k b) := by unfold strs; rw [List.map_set]
  rw [e] at hs
  refine ⟨?_, ?_, own_kept h.own (fun a ha hl => ho.block _ hl (h.xr a ha).2.2), h.xg, h.xp, h.xr, h.ne, h.ok.set hl ?_ h.ok.row h.ok.low h.ok.high, fun k hk => Nat.lt_of_lt_of_le (h.lt k hk) ho.size⟩
  · show Bk _ g _ #[.slice (some ⟨p, 0, none⟩) (d.pages.set k b).length cp, _, _, _]
    rw [hl]
    exact h.bk.kept (ho.block g h.bk.lt h.ne)
  · show World.ownsRow _ 0 _ 1 (.slice (some ⟨p, 0, none⟩) (d.pages.set k b).length cp) (d.pages.set k b).length (strs (d.pages.set k b))
    rw [hl]
    exact hs
  · intro y hy
    rcases List.mem_or_eq_of_mem_set hy with hy | hy
    · exact h.ok.pages y hy
    · rw [hy]; exact hb
/-- What a call of the reference leaves that turns its disk into d'. -/
def RTurns (v : Value) (X : Nat → Prop) (g : Nat) (d' : DK) (w : World) (e : Ending) (w' : World) : Prop :=
  e = .returned v ∧ ∃ X', RkAt w' X' g d' ∧ Out X w w' ∧ ∀ k, X' k → X k ∨ w.heap.size ≤ k
theorem counts_any {w : World} {X : Nat → Prop} {g : Nat} {d : DK} (h : RkAt w X g d) : Calls Try.prog 37 #[.pointer (some ⟨g, 0, none⟩)] w (RTurns (.bool (decide (d.burn.1 = 0))) X g d.burn.2 w) := by
  have hok := h.ok.burn
  obtain ⟨p, cp, A, c, h⟩ := h
  obtain ⟨-, -, h2, h3, hf⟩ := h.cells
  have hx := Lib.hid (Out.setCell (X := X) w (p := ⟨g, 3, none⟩) h.xg (.bool true))
  have hy := Lib.hid (Out.setCell (X := X) w (p := ⟨g, 2, none⟩) h.xg (.int .i64 (d.left - 1)))
  have hlow := h.ok.low
  have hhigh := h.ok.high
  have H := Lib.hid h
  unfold DK.burn at hok ⊢
  clear h
  by_cases h0 : d.left = 0
  · rw [if_pos h0] at hok ⊢
    have HR : Hid (RAt (w.setCell ⟨g, 3, none⟩ (.bool true)) X g p cp A c { d with dead := true }) := H.out.set 3 (.bool true) rfl rfl rfl hok
    clear hok
    go_enter Try.func37, Try.ntmps37
    go_wp2_with fail
    go_ret
    exact ⟨rfl, X, ⟨p, cp, A, c, HR.out⟩, hx.out, fun k hk => .inl hk⟩
  · rw [if_neg h0] at hok ⊢
    by_cases h1 : 0 < d.left
    · rw [if_pos h1] at hok ⊢
      have hw : wrap64 (d.left - 1) = d.left - 1 := IntWalk.wrap64_in _ (by omega)
      have HR : Hid (RAt (w.setCell ⟨g, 2, none⟩ (.int .i64 (d.left - 1))) X g p cp A c { d with left := d.left - 1 }) := H.out.set 2 _ rfl rfl rfl hok
      clear hok
      go_enter Try.func37, Try.ntmps37
      go_wp2_with fail
      go_ret
      exact ⟨rfl, X, ⟨p, cp, A, c, HR.out⟩, hy.out, fun k hk => .inl hk⟩
    · rw [if_neg h1] at hok ⊢
      clear hok
      go_enter Try.func37, Try.ntmps37
      go_wp2_with fail
      go_ret
      exact ⟨rfl, X, ⟨p, cp, A, c, H.out⟩, Out.refl X w, fun k hk => .inl hk⟩
def DK.rfuse (d : DK) (n : Int) : DK := if d.dead = true then d else { d with left := max n (-1) }
def RDone (X : Nat → Prop) (g : Nat) (d' : DK) (w : World) (e : Ending) (w' : World) : Prop := RTurns (.tuple #[]) X g d' w e w'
theorem rfuse_any {w : World} {X : Nat → Prop} {g : Nat} {d : DK} (h : RkAt w X g d) (n : Int) (h1 : -9223372036854775808 ≤ n) (h2 : n ≤ 9223372036854775807) :
    Calls Try.prog 27 #[.pointer (some ⟨g, 0, none⟩), .int .i64 n] w (RDone X g (d.rfuse n) w) := by
  obtain ⟨p, cp, A, c, h⟩ := h
  obtain ⟨-, -, h3, h4, hf⟩ := h.cells
  have hx := Lib.hid (Out.setCell (X := X) w (p := ⟨g, 2, none⟩) h.xg (.int .i64 (max n (-1))))
  have H := Lib.hid h
  unfold DK.rfuse
  clear h
  cases hd : d.dead
  · rw [if_neg (by decide)]
    have HR : Hid (RAt (w.setCell ⟨g, 2, none⟩ (.int .i64 (max n (-1)))) X g p cp A c { d with left := max n (-1) }) := H.out.set 2 _ (by rfl) rfl rfl (H.out.ok.set rfl H.out.ok.pages H.out.ok.row (by show _ ≤ max n (-1); omega) (by show max n (-1) ≤ _; omega))
    rw [hd] at h4 HR
    clear hd
    go_enter Try.func27, Try.ntmps27
    go_wp2_with fail
    go_end0
    exact ⟨rfl, X, ⟨p, cp, A, c, HR.out⟩, hx.out, fun k hk => .inl hk⟩
  · rw [if_pos rfl]
    rw [hd] at h4
    clear hd
    go_enter Try.func27, Try.ntmps27
    go_wp2_with fail
    go_end0
    exact ⟨rfl, X, ⟨p, cp, A, c, H.out⟩, Out.refl X w, fun k hk => .inl hk⟩
end Go.Proofs.YtjfoihbcieffdaaR.Disk
