/- The document's own disk: Write and Sync. -/
import Derived.Test.YtjfoihbcieffdaaRDiskRef2
namespace Go.Proofs.YtjfoihbcieffdaaR.Disk
open Go.RowKit

theorem info_rw : (Try.prog.info? 71).map (fun i => (i.zero, i.size, i.bytes)) = some (some (.agg #[.int .i64 0, .string ⟨#[]⟩]), 2, 24) := by kernel_rfl
theorem ty_rws : Try.prog.underlying 38 = some (.slice 71) := by kernel_rfl
theorem S_size' (l : List UInt8) : (S l).size = l.length := by simp [S, ByteArray.size]
/-- Behind the append. -/
theorem RAt.append {w w' w4 : World} {X : Nat → Prop} {g p cp : Nat} {A : Option Addr} {c : Nat} {d : DK} (h : RAt w X g p cp A c d) (hb : Below w.heap.size w w') (k : Nat) (b : List UInt8) (hk : k < d.pages.length) (hbl : b.length = 512) {G cap n : Nat} (hn : n = d.row.length)
    (h4 : w4.ownsRow 0 71 2 (.slice (some ⟨G, 0, none⟩) (n + 1) cap) (n + 1) (rowS d.row ++ [.int .i64 (k : Int), .string (S b)])) (hg : w'.grownBy w4 (Value.slice A n c).ownBlock) (hl : (Value.slice A n c).ownBlock = some G ∨ G = w'.heap.size) (hlt : G < w4.heap.size) :
    ∃ X', RAt (w4.setCell ⟨g, 1, none⟩ (.slice (some ⟨G, 0, none⟩) (n + 1) cap)) X' g p cp (some ⟨G, 0, none⟩) cap { d with row := d.row ++ [(k, b)] } ∧ Out X w (w4.setCell ⟨g, 1, none⟩ (.slice (some ⟨G, 0, none⟩) (n + 1) cap)) ∧ ∀ j, X' j → X j ∨ w.heap.size ≤ j := by
  subst hn
  have hob : ∀ j, (Value.slice A d.row.length c).ownBlock = some j → X j ∧ j ≠ g ∧ j ≠ p := fun j hj => by
    cases A with
    | none => cases hj
    | some a =>
      have e : a.block = j := by simpa [Value.ownBlock] using hj
      subst e
      exact h.xr a rfl
  have hG : (X G ∨ w.heap.size ≤ G) ∧ G ≠ g ∧ G ≠ p := by
    rcases hl with hl | hl
    · exact ⟨.inl (hob G hl).1, (hob G hl).2⟩
    · have := hb.size
      have h1 := h.lt g h.xg
      have h2 := h.lt p h.xp
      exact ⟨.inr (by omega), by omega, by omega⟩
  have o1 : Out X w w' := Out.of_below hb
  have o2 : Out X w w4 := o1.trans (out_grown hg) (fun j hj => .inl (hob j hj).1)
  have o3 := Out.setCell (X := (· = g)) w4 (p := ⟨g, 1, none⟩) rfl (.slice (some ⟨G, 0, none⟩) (d.row.length + 1) cap)
  have hgw := h.lt g h.xg
  have hpw := h.lt p h.xp
  have hg4 : w4.heap[g]? = w.heap[g]? := ((out_grown hg).block g (Nat.lt_of_lt_of_le hgw hb.size) (fun e => (hob g e).2.1 rfl)).trans (hb.block g hgw)
  have hp4 : w4.heap[p]? = w.heap[p]? := ((out_grown hg).block p (Nat.lt_of_lt_of_le hpw hb.size) (fun e => (hob p e).2.2 rfl)).trans (hb.block p hpw)
  have e : (d.row ++ [(k, b)]).length = d.row.length + 1 := by simp
  refine ⟨fun j => (X j ∨ j = G) ∧ j < w4.heap.size, ⟨?_, own_kept (own_kept h.pgs (fun a ha _ => by injection ha with ha; subst ha; exact hp4)) (fun a ha hl' => by injection ha with ha; subst ha; exact o3.block p hl' (fun e => h.ne e.symm)), ?_, ⟨.inl h.xg, Nat.lt_of_lt_of_le hgw o2.size⟩, ⟨.inl h.xp, Nat.lt_of_lt_of_le hpw o2.size⟩, ?_, h.ne, ?_, fun j hj => Nat.lt_of_lt_of_le hj.2 o3.size⟩, o2.trans o3 (fun j hj => .inl (hj ▸ h.xg)), ?_⟩
  · have := (h.bk.kept hg4).set 1 (.slice (some ⟨G, 0, none⟩) (d.row.length + 1) cap)
    rw [e]
    exact this
  · rw [e]
    dsimp only
    rw [rowS_snoc]
    exact own_kept h4 (fun a ha hl' => by injection ha with ha; subst ha; exact o3.block G hl' hG.2.1)
  · intro a ha
    injection ha with ha
    subst ha
    exact ⟨⟨.inr rfl, hlt⟩, hG.2⟩
  · refine h.ok.set rfl h.ok.pages ?_ h.ok.low h.ok.high
    intro x hx
    rcases List.mem_append.1 hx with hx | hx
    · exact h.ok.row x hx
    · obtain rfl := List.mem_singleton.1 hx
      exact ⟨hk, hbl⟩
  · intro j hj
    rcases hj.1 with hj | rfl
    · exact .inl hj
    · exact hG.1
set_option maxRecDepth 100000 in
set_option maxHeartbeats 1000000 in
theorem rwrite_any {w : World} {X : Nat → Prop} {g : Nat} {d : DK} (h : RkAt w X g d) (k : Int) (b : List UInt8) (hn : d.row.length ≤ 1000000) :
    Calls Try.prog 25 #[.pointer (some ⟨g, 0, none⟩), .int .i64 k, .string (S b)] w (RTurns (.int .i64 (d.write k b).1) X g (d.write k b).2 w) := by
  have hS := Lib.hid h
  have hRk := h
  obtain ⟨p, cp, A, c, h⟩ := h
  have hmany := h.ok.many
  obtain ⟨h0, h1, -, h3, -⟩ := h.cells
  have hsz := S_size' b
  obtain ⟨RES, hres⟩ : ∃ RES, RES = d.write k b := ⟨_, rfl⟩
  rw [← hres]
  unfold DK.write at hres
  have hfa : d.faultAt k = if d.dead = true then 9 else if k < 0 ∨ (d.pages.length : Int) ≤ k then 1 else 0 := rfl
  by_cases hd : d.dead = true
  · rw [if_pos hd] at hfa
    rw [hfa, if_pos (by decide)] at hres
    rw [hd] at h3
    subst hres
    clear h hd hfa hRk
    go_enter Try.func25, Try.ntmps25
    go_wp2_with fail
    go_ret
    exact ⟨rfl, X, hS.out, Out.refl X w, fun k hk => .inl hk⟩
  · rw [if_neg hd] at hfa
    have hd2 : d.dead = false := by simpa using hd
    rw [hd2] at h3
    by_cases hk : k < 0 ∨ (d.pages.length : Int) ≤ k
    · rw [if_pos hk] at hfa
      rw [hfa, if_pos (by decide)] at hres
      subst hres
      clear h hd hd2 hfa hRk
      by_cases hk0 : k < 0
      · clear hk
        go_enter Try.func25, Try.ntmps25
        go_wp2_with fail
        go_ret
        exact ⟨rfl, X, hS.out, Out.refl X w, fun k hk => .inl hk⟩
      · have hk1 := hk.resolve_left hk0
        clear hk
        go_enter Try.func25, Try.ntmps25
        go_wp2_with fail
        go_ret
        exact ⟨rfl, X, hS.out, Out.refl X w, fun k hk => .inl hk⟩
    · rw [if_neg hk] at hfa
      rw [hfa, if_neg (by decide)] at hres
      obtain ⟨q, rfl⟩ : ∃ q : Nat, k = (q : Int) := ⟨k.toNat, by omega⟩
      have hq : q < d.pages.length := by omega
      by_cases h2 : b.length ≠ 512
      · rw [if_pos h2] at hres
        subst hres
        have h2n : (((b.length : Nat) : Int) != 512) = true := bne_iff_ne.2 (by omega)
        clear h2
        clear h hd hd2 hfa hk hRk
        go_enter Try.func25, Try.ntmps25
        go_wp2_with fail
        go_ret
        exact ⟨rfl, X, hS.out, Out.refl X w, fun k hk => .inl hk⟩
      · rw [if_neg h2] at hres
        have h2 : b.length = 512 := by simpa using h2
        have cb := counts_any hRk
        by_cases hb1 : d.burn.1 ≠ 0
        · rw [if_pos hb1] at hres
          have hbd : decide (d.burn.1 = 0) = false := decide_eq_false hb1
          have hb9 : d.burn.1 = 9 := by
            unfold DK.burn at hb1 ⊢
            split
            · rfl
            · next hl => rw [if_neg hl] at hb1; split at hb1 <;> exact absurd rfl hb1
          rw [hbd] at cb
          have HRES := Lib.hid hres
          have HB9 := Lib.hid hb9
          rw [h2] at hsz
          clear h hd hd2 hfa hk hRk hb1 hres hbd hb9 h2
          go_enter Try.func25, Try.ntmps25
          go_wp2_with fail
          refine cb.mono ?_
          clear cb
          rintro e w1 ⟨rfl, X1, hs, ho, hx⟩
          have HS1 := Lib.hid hs
          have HO1 := Lib.hid ho
          have HX1 := Lib.hid hx
          clear hs ho hx
          go_wp2_with fail
          go_ret
          exact ⟨by rw [HRES.out, HB9.out]; rfl, X1, by rw [HRES.out]; exact HS1.out, HO1.out, HX1.out⟩
        · rw [if_neg hb1] at hres
          have hbd : decide (d.burn.1 = 0) = true := decide_eq_true (by simpa using hb1)
          rw [hbd] at cb
          have HROW := Lib.hid (burn_row d)
          have HPG := Lib.hid (burn_pages d)
          generalize d.burn.2 = d2 at *
          have HRES := Lib.hid hres
          have HN : Hid (d2.row.length ≤ 1000000) := by show _ ≤ _; rw [HROW.out]; exact hn
          have HB := Lib.hid h2
          have HQ : Hid (q < d2.pages.length) := by show _ < _; rw [HPG.out]; exact hq
          rw [h2] at hsz
          clear h hd hd2 hfa hk hRk hb1 hres hbd h2
          go_enter Try.func25, Try.ntmps25
          go_wp2_with fail
          refine cb.mono ?_
          clear cb
          rintro e w1 ⟨rfl, X1, ⟨p1, cp1, A1, c1, hs⟩, ho, hx⟩
          have HS1 := Lib.hid hs
          have HO1 := Lib.hid ho
          have HX1 := Lib.hid hx
          obtain ⟨-, h1b, -, -, hfb⟩ := hs.cells
          obtain ⟨i0, hi0, hi1, hi2, hi3⟩ := info_three info_rw
          have HI0 := Lib.hid hi0
          have HI1 := Lib.hid hi1
          have HI2 := Lib.hid hi2
          have HI3 := Lib.hid hi3
          have HBA : Hid (Below w1.heap.size w1 (w1.alloc (.cells #[.int .i64 (q : Int), .string (S b)] 71))) := (Below.refl _ _).alloc (Nat.le_refl _) _
          have HOA : Hid ((w1.alloc (.cells #[.int .i64 (q : Int), .string (S b)] 71)).ownsRow 0 71 2 (.slice A1 d2.row.length c1) d2.row.length (rowS d2.row)) := hs.own.alloc _
          have HNB : Hid ((w1.alloc (.cells #[.int .i64 (q : Int), .string (S b)] 71)).heap[w1.heap.size]? = some (.cells #[.int .i64 (q : Int), .string (S b)] 71 (0, 0))) := heap_alloc_last _ _
          have HSA : Hid ((w1.alloc (.cells #[.int .i64 (q : Int), .string (S b)] 71)).heap.size = w1.heap.size + 1) := size_new _ _
          have HGK : Hid (∀ w4, (w1.alloc (.cells #[.int .i64 (q : Int), .string (S b)] 71)).grownBy w4 (Value.slice A1 d2.row.length c1).ownBlock → w4.heap[g]? = w1.heap[g]?) := fun w4 hg => by
            have hgn : (Value.slice A1 d2.row.length c1).ownBlock ≠ some g := fun e => by
              cases A1 with
              | none => cases e
              | some a =>
                have e : a.block = g := by simpa [Value.ownBlock] using e
                exact (HS1.out.xr a rfl).2.1 e
            rw [hg.block g (Nat.lt_of_lt_of_le HS1.out.bk.lt HBA.out.size) (fun e => hgn e.symm)]
            exact HBA.out.block g HS1.out.bk.lt
          clear hs ho hx hi0 hi1 hi2 hi3 hfb h0 h1 h3
          go_wp2_with (at_builtin; refine wpList_append_lies _ rfl (.tmp 34) (.tmp 38) 38 rfl 0 71 i0 _ 2 24 ty_rws HI0.out HI1.out HI2.out HI3.out rfl (by decide) (.slice A1 d2.row.length c1) d2.row.length (rowS d2.row) rfl HOA.out ⟨w1.heap.size, 0, none⟩ 1 1 [.int .i64 (q : Int), .string (S b)] rfl rfl (World.news_of_block HNB.out) (by simp [Value.oneCell']) (by decide) (by have := HN.out; unfold maxLen; omega) (by have := HN.out; omega) (Nat.zero_le _) (w1.heap.size + 1) HSA.out ?_)
          intro G cap w4 hown4 hg4 hloc4 hlt4
          obtain ⟨X4, hA4, hO4, hX4⟩ := HS1.out.append HBA.out q b HQ.out HB.out rfl hown4 hg4 (by rw [HSA.out]; exact hloc4) hlt4
          have hbk4 := HS1.out.bk.kept (HGK.out w4 hg4)
          have k1 := hbk4.cell 1
          have k2 := hbk4.frozen 1
          have H4 := Lib.hid hA4
          have H5 := Lib.hid hO4
          have H6 := Lib.hid hX4
          clear hA4 hO4 hX4 hown4 hg4 hloc4 hlt4 hbk4 HOA HNB HSA HGK
          have hqt : Hid ((q : Int).toNat = q) := Int.toNat_natCast q
          go_wp2_with fail
          go_ret
          exact ⟨by rw [HRES.out]; rfl, X4, ⟨p1, cp1, _, _, by rw [HRES.out, hqt.out]; exact H4.out⟩, HO1.out.trans H5.out HX1.out, fun j hj => (H6.out j hj).elim (fun h => HX1.out j h) (fun h => .inr (Nat.le_trans HO1.out.size h))⟩
end Go.Proofs.YtjfoihbcieffdaaR.Disk
