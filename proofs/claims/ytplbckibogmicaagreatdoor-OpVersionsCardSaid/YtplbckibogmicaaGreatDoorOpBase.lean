/- Operations, replies and work in memory. -/
import Derived.Test.YtplbckibogmicaaGreatDoorTreeGrows
import Derived.Test.YtplbckibogmicaaGreatDoorTreeArgs
import Derived.Test.YtplbckibogmicaaGreatDoorTreeGonePure
import Derived.Test.YtplbckibogmicaaGreatDoorOpFit
import Derived.Maps.AppendAt
namespace Go.Proofs.YtplbckibogmicaaGreatDoor.Opn
open Go.RowKit Path Tree

/-! ### Values -/
def opC (o : O1) (d ps : Value) : List Value := [.int .u8 (o.kind : Int), .string (S o.path), d, .int .i64 o.ver, .bool o.seq, .bool o.eph, ps]
def opV (o : O1) (d ps : Value) : Value := .agg (opC o d ps).toArray
def whoC (who : Who) : List Value := [.int .i64 who.site, .int .u32 who.n]
def whoV (who : Who) : Value := .agg (whoC who).toArray
def rpC (r : R1) (d k p : Value) : List Value := .int .i64 r.e :: .string (S r.path) :: (znC r.node d ++ [k, p])
def rpV (r : R1) (d k p : Value) : Value := .agg (rpC r d k p).toArray
def nilS : Value := .slice none 0 0
/-- The work's cells: tree, at, op, who, effects, reply. -/
def wkC (tp : Addr) (at_ : Int) (o : O1) (d ps : Value) (who : Who) (fx : Value) (r : R1) (rd rk rp : Value) : List Value :=
  .pointer (some tp) :: .int .u64 at_ :: (opC o d ps ++ (whoC who ++ (fx :: rpC r rd rk rp)))

/-! ### Texts in blocks of P -/
def TextS (P : Nat → Prop) (w : World) (v : Value) (xs : List (List UInt8)) : Prop := ∃ A n c, v = .slice A n c ∧ (0 < n → ∀ ad, A = some ad → P ad.block) ∧ RdV w A n (sv xs)
theorem TextS.nil_ (P : Nat → Prop) (w : World) : TextS P w nilS [] := ⟨none, 0, 0, rfl, (fun _ ad h => by cases h), RdV.nil_ _ _⟩
theorem TextS.out {P X : Nat → Prop} {w w' : World} {v : Value} {xs : List (List UInt8)} (h : TextS P w v xs) (ho : Out X w w') (hx : ∀ k, P k → ¬ X k) : TextS P w' v xs := by
  obtain ⟨A, n, c, e, hP, hr⟩ := h
  refine ⟨A, n, c, e, hP, hr.len, fun h0 => ?_⟩
  obtain ⟨ad, rfl, hcell⟩ := hr.cells h0
  exact ⟨ad, rfl, fun j b hb => (ho.cell (World.block_lt_of_cell? w _ (hcell j b hb)) (by rw [add_block]; exact hx _ (hP h0 ad rfl))).trans (hcell j b hb)⟩
theorem TextS.below {P : Nat → Prop} {w w' : World} {v : Value} {xs : List (List UInt8)} (h : TextS P w v xs) (hb : Below w.heap.size w w') : TextS P w' v xs := h.out (X := fun _ => False) (.of_below hb) (fun _ _ h => h)
theorem TextS.mono {P Q : Nat → Prop} {w : World} {v : Value} {xs : List (List UInt8)} (h : TextS P w v xs) (hpq : ∀ k, P k → Q k) : TextS Q w v xs := by
  obtain ⟨A, n, c, e, hP, hr⟩ := h
  exact ⟨A, n, c, e, fun h0 ad e => hpq _ (hP h0 ad e), hr⟩
theorem TextS.lt {P : Nat → Prop} {w : World} {v : Value} {xs : List (List UInt8)} (h : TextS P w v xs) : TextS (fun k => P k ∧ k < w.heap.size) w v xs := by
  obtain ⟨A, n, c, e, hP, hr⟩ := h
  refine ⟨A, n, c, e, fun h0 ad e => ⟨hP h0 ad e, ?_⟩, hr⟩
  obtain ⟨ad', e', hcell⟩ := hr.cells h0
  rw [e] at e'
  injection e' with e'
  subst e'
  have hl : 0 < (sv xs).length := by rw [hr.len]; exact h0
  have := World.block_lt_of_cell? w _ (hcell 0 _ (List.getElem?_eq_getElem hl))
  rwa [add_block] at this

/-! ### Rows of operations -/
structure OpS (P : Nat → Prop) (w : World) (A : Option Addr) (n : Nat) (os : List O1) : Prop where
  len : os.length = n
  cells : ∀ j, (h : j < os.length) → ∃ ad d B c, A = some ad ∧ P ad.block ∧ DataS P w d os[j].data ∧ ∀ (i : Nat) (v : Value), (opC os[j] d (.slice B os[j].np c))[i]? = some v → w.cell? (ad.add (7 * j + i)) = some v
theorem OpS.nil_ (P : Nat → Prop) (w : World) (A : Option Addr) : OpS P w A 0 [] := ⟨rfl, fun j h => absurd h (by simp)⟩
theorem OpS.out {P X : Nat → Prop} {w w' : World} {A : Option Addr} {n : Nat} {os : List O1} (h : OpS P w A n os) (ho : Out X w w') (hx : ∀ k, P k → ¬ X k) : OpS P w' A n os :=
  ⟨h.len, fun j hj => by
    obtain ⟨ad, d, B, c, e, hP, hd, hc⟩ := h.cells j hj
    exact ⟨ad, d, B, c, e, hP, hd.out ho hx, fun i v hv => (ho.cell (World.block_lt_of_cell? w _ (hc i v hv)) (by rw [add_block]; exact hx _ hP)).trans (hc i v hv)⟩⟩
theorem OpS.below {P : Nat → Prop} {w w' : World} {A : Option Addr} {n : Nat} {os : List O1} (h : OpS P w A n os) (hb : Below w.heap.size w w') : OpS P w' A n os := h.out (X := fun _ => False) (.of_below hb) (fun _ _ h => h)
theorem OpS.mono {P Q : Nat → Prop} {w : World} {A : Option Addr} {n : Nat} {os : List O1} (h : OpS P w A n os) (hpq : ∀ k, P k → Q k) : OpS Q w A n os :=
  ⟨h.len, fun j hj => by
    obtain ⟨ad, d, B, c, e, hP, hd, hc⟩ := h.cells j hj
    exact ⟨ad, d, B, c, e, hpq _ hP, hd.mono hpq, hc⟩⟩
theorem OpS.at_ {P : Nat → Prop} {w : World} {A : Option Addr} {n : Nat} {os : List O1} (h : OpS P w A n os) {j : Nat} (hj : j < os.length) : ∃ b o D m c B c', A = some ⟨b, o, none⟩ ∧ P b ∧ DataS P w (.slice D m c) os[j].data ∧ os[j].data.length = m ∧
    ∀ (i : Nat) (v : Value), (opC os[j] (.slice D m c) (.slice B os[j].np c'))[i]? = some v → w.cell? ⟨b, o + (7 * j + i), none⟩ = some v := by
  obtain ⟨ad, d, B, c', rfl, hP, hd, hc⟩ := h.cells j hj
  obtain ⟨D, m, c, rfl, h1, h2, hr⟩ := hd
  have hq : ad = ⟨ad.block, ad.off, none⟩ := by
    obtain ⟨ad', d', _, _, e', _, _, hc'⟩ := h.cells 0 (by omega)
    injection e' with e'
    subst e'
    exact addr_plain (by simpa [Addr.add] using hc' 0 _ rfl)
  refine ⟨ad.block, ad.off, D, m, c, B, c', congrArg some hq, hP, ⟨D, m, c, rfl, h1, h2, hr⟩, hr.len, fun i v hv => ?_⟩
  have := hc i v hv
  rw [hq, add_plain] at this
  exact this
/-- An operation's value, and its parts. -/
def OpAt (P : Nat → Prop) (w : World) (v : Value) (o : O1) (os : List O1) : Prop := ∃ d A c, v = opV o d (.slice A o.np c) ∧ DataS P w d o.data ∧ OpS P w A o.np os
theorem OpAt.out {P X : Nat → Prop} {w w' : World} {v : Value} {o : O1} {os : List O1} (h : OpAt P w v o os) (ho : Out X w w') (hx : ∀ k, P k → ¬ X k) : OpAt P w' v o os := by
  obtain ⟨d, A, c, e, h1, h2⟩ := h
  exact ⟨d, A, c, e, h1.out ho hx, h2.out ho hx⟩
theorem OpAt.below {P : Nat → Prop} {w w' : World} {v : Value} {o : O1} {os : List O1} (h : OpAt P w v o os) (hb : Below w.heap.size w w') : OpAt P w' v o os := h.out (X := fun _ => False) (.of_below hb) (fun _ _ h => h)

/-! ### Effects of one's own: in blocks of Q -/
def OwnE (Q : Nat → Prop) (w : World) (fx : Value) (xs : List Ef) : Prop :=
  ∃ xds : List (Ef × Value), xds.map (·.1) = xs ∧ w.ownsRow 0 41 11 fx xs.length (xds.flatMap fun y => efC y.1 y.2) ∧ (∀ g, fx.ownBlock = some g → Q g) ∧ ∀ y ∈ xds, DataS (fun k => Q k ∧ fx.ownBlock ≠ some k) w y.2 y.1.node.data
theorem OwnE.nil_ (Q : Nat → Prop) (w : World) : OwnE Q w nilS [] := ⟨[], rfl, ⟨rfl, .inl ⟨rfl, rfl⟩⟩, (fun g h => by cases h), fun y hy => by cases hy⟩
theorem flat_len (l : List (Ef × Value)) : (l.flatMap fun y => efC y.1 y.2).length = 11 * l.length := by
  induction l with
  | nil => rfl
  | cons y l ih => rw [List.flatMap_cons, List.length_append, ih, efC_length, List.length_cons]; omega
theorem OwnE.efS {Q : Nat → Prop} {w : World} {fx : Value} {xs : List Ef} (h : OwnE Q w fx xs) : ∃ A c, fx = .slice A xs.length c ∧ xs.length ≤ c ∧ c ≤ maxLen ∧ EfS (fun k => Q k ∧ k < w.heap.size) w A xs.length xs := by
  obtain ⟨xds, rfl, hown, hq, hd⟩ := h
  have hn : xds.length = (xds.map (·.1)).length := by simp
  rcases hown.2 with ⟨rfl, h0⟩ | ⟨g, cap, cur, rfl, hg, hh, hnc, hm, hs, ht⟩
  · have : xds = [] := by simpa using h0
    subst this
    exact ⟨none, 0, rfl, Nat.le_refl _, Nat.zero_le _, EfS.nil_ _ _ _⟩
  · refine ⟨_, cap, rfl, hnc, hm, rfl, fun j hj => ?_⟩
    have hj' : j < xds.length := by simpa using hj
    refine ⟨_, xds[j].2, rfl, ⟨hq g rfl, heap_lt hh⟩, ?_, fun i v hv => ?_⟩
    · rw [List.getElem_map]
      exact ((hd _ (List.getElem_mem hj')).lt).mono fun k hk => ⟨hk.1.1, hk.2⟩
    · rw [List.getElem_map] at hv
      have hi : i < 11 := by
        have := (List.getElem?_eq_some_iff.1 hv).1
        rwa [efC_length] at this
      rw [add_off]
      simp only [World.cell?, hh]
      have h2 : (cur.toList.take ((xds.map (·.1)).length * 11))[11 * j + i]? = some v := by rw [ht, flat_at xds j hj' hi]; exact hv
      rw [List.getElem?_take, if_pos (by omega)] at h2
      simpa using h2
theorem OwnE.blk {Q : Nat → Prop} {w : World} {fx : Value} {xs : List Ef} (h : OwnE Q w fx xs) : ∀ g, fx.ownBlock = some g → Q g ∧ g < w.heap.size := by
  obtain ⟨xds, _, hown, hq, _⟩ := h
  intro g hg
  exact ⟨hq g hg, (hown.lt g hg).2⟩
theorem own_out {w w' : World} {base size : Nat} {e : TypeId} {v : Value} {n : Nat} {xs : List Value} {X : Nat → Prop} (h : w.ownsRow base e size v n xs) (ho : Out X w w') (hx : ∀ g, v.ownBlock = some g → ¬ X g) : w'.ownsRow base e size v n xs :=
  ⟨h.1, by
    rcases h.2 with h1 | ⟨g, cap, cur, e1, e2, hh, r⟩
    · exact .inl h1
    · exact .inr ⟨g, cap, cur, e1, e2, (ho.block g (heap_lt hh) (hx g (by rw [e1]; rfl))).trans hh, r⟩⟩
theorem OwnE.out {Q : Nat → Prop} {w w' : World} {fx : Value} {xs : List Ef} {X : Nat → Prop} (h : OwnE Q w fx xs) (ho : Out X w w') (hx : ∀ k, Q k → ¬ X k) : OwnE Q w' fx xs := by
  obtain ⟨xds, e, hown, hq, hd⟩ := h
  exact ⟨xds, e, own_out hown ho (fun g hg => hx g (hq g hg)), hq, fun y hy => (hd y hy).out ho (fun k hk => hx k hk.1)⟩
theorem OwnE.below {Q : Nat → Prop} {w w' : World} {fx : Value} {xs : List Ef} (h : OwnE Q w fx xs) (hb : Below w.heap.size w w') : OwnE Q w' fx xs := h.out (X := fun _ => False) (.of_below hb) (fun _ _ h => h)
theorem OwnE.mono {Q Q' : Nat → Prop} {w : World} {fx : Value} {xs : List Ef} (h : OwnE Q w fx xs) (hQ : ∀ k, Q k → Q' k) : OwnE Q' w fx xs := by
  obtain ⟨xds, e, hown, hq, hd⟩ := h
  exact ⟨xds, e, hown, fun g hg => hQ g (hq g hg), fun y hy => (hd y hy).mono fun k hk => ⟨hQ k hk.1, hk.2⟩⟩
theorem OwnE.lt {Q : Nat → Prop} {w : World} {fx : Value} {xs : List Ef} (h : OwnE Q w fx xs) : OwnE (fun k => Q k ∧ k < w.heap.size) w fx xs := by
  have hb := h.blk
  obtain ⟨xds, e, hown, hq, hd⟩ := h
  exact ⟨xds, e, hown, hb, fun y hy => (hd y hy).lt.mono fun k hk => ⟨⟨hk.1.1, hk.2⟩, hk.1.2⟩⟩
/-- One effect more, in the row. -/
theorem OwnE.snoc {Q : Nat → Prop} {w w' : World} {fx fx' : Value} {xds : List (Ef × Value)} {x : Ef} {d : Value} (hq : ∀ g, fx.ownBlock = some g → Q g) (hd : ∀ y ∈ xds, DataS (fun k => Q k ∧ fx.ownBlock ≠ some k) w y.2 y.1.node.data)
    (hx : DataS (fun k => Q k ∧ fx.ownBlock ≠ some k) w d x.node.data) (hown : w'.ownsRow 0 41 11 fx' (xds.length + 1) ((xds ++ [(x, d)]).flatMap fun y => efC y.1 y.2)) (hg : w.grownBy w' fx.ownBlock) (hat : fx'.ownBlock = fx.ownBlock ∨ fx'.ownBlock = some w.heap.size) :
    OwnE (fun k => Q k ∨ k = w.heap.size) w' fx' (xds.map (·.1) ++ [x]) := by
  have hk : ∀ (v : Value) (bs : List UInt8), DataS (fun k => Q k ∧ fx.ownBlock ≠ some k) w v bs → DataS (fun k => (Q k ∨ k = w.heap.size) ∧ fx'.ownBlock ≠ some k) w' v bs := fun v bs h => by
    have h2 := h.lt
    refine (h2.kept fun k hk => hg.block k hk.2 (fun e => hk.1.2 e.symm)).mono fun k hk => ⟨.inl hk.1.1, ?_⟩
    rcases hat with e | e
    · rw [e]; exact hk.1.2
    · rw [e]; intro e2; injection e2 with e2; have := hk.2; omega
  refine ⟨xds ++ [(x, d)], by simp, by simpa using hown, fun g hg' => ?_, fun y hy => ?_⟩
  · rcases hat with e | e
    · rw [e] at hg'; exact .inl (hq g hg')
    · rw [e] at hg'; injection hg' with hg'; exact .inr hg'.symm
  · rcases List.mem_append.1 hy with hy | hy
    · exact hk _ _ (hd y hy)
    · simp at hy; subst hy; exact hk _ _ hx
end Go.Proofs.YtplbckibogmicaaGreatDoor.Opn
