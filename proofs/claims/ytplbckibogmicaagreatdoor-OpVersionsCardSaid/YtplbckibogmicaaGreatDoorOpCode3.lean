/- The node of an operation's path; its version. -/
import Derived.Test.YtplbckibogmicaaGreatDoorOpCode2
import Derived.Deep.QuietTactic
import Derived.BigQuiet
namespace Go.Proofs.YtplbckibogmicaaGreatDoor.Opn
open Go.RowKit Path Tree

theorem get_copied (p : List UInt8) (i : Nat) (a : Addr) (t : TR) (w : World) (L : List (Addr × TR)) (X : Nat → Prop) (hT : Trees w L X) (hi : L[i]? = some (a, t)) (hp : p.length ≤ 1000000) :
    Calls Tryz.prog 32 #[.pointer (some a), .string (S p)] w fun e w' => ∃ A k c, e = .returned (.tuple #[znV (nodeAt t p) (.slice A k c), .bool (has t.row p)]) ∧ Below w.heap.size w w' ∧ Copied w.heap.size w' (.slice A k c) (nodeAt t p).data := by
  cases hh : has t.row p
  · rw [nodeAt_none hh]
    have hg : get t.row p = none := by
      have := has_get (l := t.row) (p := p)
      rw [hh] at this
      cases hg : get t.row p with
      | none => rfl
      | some n => rw [hg] at this; cases this
    exact (Get_no p i a t w L X hT hi hp hg).mono fun _ _ ⟨A, c, he, hb⟩ => ⟨A, 0, c, he, hb, A, 0, c, rfl, Nat.zero_le _, Rd.nil_ _ _, fun h => absurd h (by omega)⟩
  · exact (Get_yes p (nodeAt t p) i a t w L X hT hi hp (get_nodeAt hh)).mono fun _ _ ⟨A, k, c, he, hb, hk, hr, hf⟩ => ⟨A, k, c, he, hb, A, k, c, rfl, hk, hr, hf⟩
/-- A node is answered, or an error is thrown. -/
def NodePost (q : Bool) (n : ZN) (x : Int) (w : World) (e : Ending) (w' : World) : Prop := (q = true ∧ ∃ d', e = .returned (znV n d') ∧ Below w.heap.size w w' ∧ Copied w.heap.size w' d' n.data) ∨ (q = false ∧ e = thrown x ∧ Below w.heap.size w w')
/-- What is handed back: the result's block b, filled. -/
theorem node_tail {n : ZN} {A : Option Addr} {k c z : Nat} {w W V : World} (_KN : Bk V z 39 #[.slice A k c, .int .u32 n.ver, .int .u32 n.kin, .int .u32 n.next, .int .i64 n.site, .int .u32 n.own, .int .u64 n.made, .int .u64 n.chg, .int .u64 n.tch]) (_hwz : W.heap.size ≤ z) (hbV : Below W.heap.size W V) (hC : Copied W.heap.size V (.slice A k c) n.data) (hbA : Below w.heap.size w W)
    (K2 : Bk W w.heap.size 39 #[.slice none 0 0, .int .u32 0, .int .u32 0, .int .u32 0, .int .i64 0, .int .u32 0, .int .u64 0, .int .u64 0, .int .u64 0]) (hsz : W.heap.size = w.heap.size + 1) :
    Bk (((((((((V.setCell ⟨w.heap.size, 0, none⟩ (.slice A k c)).setCell ⟨w.heap.size, 1, none⟩ (.int .u32 n.ver)).setCell ⟨w.heap.size, 2, none⟩ (.int .u32 n.kin)).setCell ⟨w.heap.size, 3, none⟩ (.int .u32 n.next)).setCell ⟨w.heap.size, 4, none⟩ (.int .i64 n.site)).setCell ⟨w.heap.size, 5, none⟩ (.int .u32 n.own)).setCell ⟨w.heap.size, 6, none⟩ (.int .u64 n.made)).setCell ⟨w.heap.size, 7, none⟩ (.int .u64 n.chg)).setCell ⟨w.heap.size, 8, none⟩ (.int .u64 n.tch)) w.heap.size 39 #[.slice A k c, .int .u32 n.ver, .int .u32 n.kin, .int .u32 n.next, .int .i64 n.site, .int .u32 n.own, .int .u64 n.made, .int .u64 n.chg, .int .u64 n.tch] ∧
    Below w.heap.size w (((((((((V.setCell ⟨w.heap.size, 0, none⟩ (.slice A k c)).setCell ⟨w.heap.size, 1, none⟩ (.int .u32 n.ver)).setCell ⟨w.heap.size, 2, none⟩ (.int .u32 n.kin)).setCell ⟨w.heap.size, 3, none⟩ (.int .u32 n.next)).setCell ⟨w.heap.size, 4, none⟩ (.int .i64 n.site)).setCell ⟨w.heap.size, 5, none⟩ (.int .u32 n.own)).setCell ⟨w.heap.size, 6, none⟩ (.int .u64 n.made)).setCell ⟨w.heap.size, 7, none⟩ (.int .u64 n.chg)).setCell ⟨w.heap.size, 8, none⟩ (.int .u64 n.tch)) ∧
    Copied w.heap.size (((((((((V.setCell ⟨w.heap.size, 0, none⟩ (.slice A k c)).setCell ⟨w.heap.size, 1, none⟩ (.int .u32 n.ver)).setCell ⟨w.heap.size, 2, none⟩ (.int .u32 n.kin)).setCell ⟨w.heap.size, 3, none⟩ (.int .u32 n.next)).setCell ⟨w.heap.size, 4, none⟩ (.int .i64 n.site)).setCell ⟨w.heap.size, 5, none⟩ (.int .u32 n.own)).setCell ⟨w.heap.size, 6, none⟩ (.int .u64 n.made)).setCell ⟨w.heap.size, 7, none⟩ (.int .u64 n.chg)).setCell ⟨w.heap.size, 8, none⟩ (.int .u64 n.tch)) (.slice A k c) n.data := by
  have h9 := ((((((((((Out.refl (· = w.heap.size) V).set (p := ⟨w.heap.size, 0, none⟩) rfl (.slice A k c)).set (p := ⟨w.heap.size, 1, none⟩) rfl (.int .u32 n.ver)).set (p := ⟨w.heap.size, 2, none⟩) rfl (.int .u32 n.kin)).set (p := ⟨w.heap.size, 3, none⟩) rfl (.int .u32 n.next)).set (p := ⟨w.heap.size, 4, none⟩) rfl (.int .i64 n.site)).set (p := ⟨w.heap.size, 5, none⟩) rfl (.int .u32 n.own)).set (p := ⟨w.heap.size, 6, none⟩) rfl (.int .u64 n.made)).set (p := ⟨w.heap.size, 7, none⟩) rfl (.int .u64 n.chg)).set (p := ⟨w.heap.size, 8, none⟩) rfl (.int .u64 n.tch))
  refine ⟨set9 (K2.below hbV) (.slice A k c) (.int .u32 n.ver) (.int .u32 n.kin) (.int .u32 n.next) (.int .i64 n.site) (.int .u32 n.own) (.int .u64 n.made) (.int .u64 n.chg) (.int .u64 n.tch), ?_, ?_⟩
  · exact h9.below (B := w.heap.size) (hbA.trans (hbV.mono hbA.size)) (fun j hj => Nat.le_of_eq hj.symm) (Nat.le_trans hbA.size hbV.size)
  · exact (copied_keep hC fun j hj hz => h9.block j hz (by omega)).mono (by omega)
set_option maxRecDepth 100000 in
set_option maxHeartbeats 1000000 in
theorem node_any (i : Nat) (t : TR) (L : List (Addr × TR)) (X : Nat → Prop) (g : Nat) (tp : Addr) (at_ : Int) (o : O1) (od ops : Value) (who : Who) (fx : Value) (r : R1) (rd rk rp : Value) (w : World)
    (h : Bk w g 104 (wkC tp at_ o od ops who fx r rd rk rp).toArray) (hT : Trees w L X) (hi : L[i]? = some (tp, t)) (hp : o.path.length ≤ 1000000) :
    Calls Tryz.prog 117 #[.pointer (some ⟨g, 0, none⟩)] w (NodePost (has t.row o.path) (nodeAt t o.path) 31 w) := by
  have hlt := h.lt
  have hbA : Below w.heap.size w (w.alloc (.cells (znC ZN.zero (.slice none 0 0)).toArray 39)) := (Below.refl _ _).alloc (Nat.le_refl _) _
  have K1 := h.below hbA
  have K2 : Bk (w.alloc (.cells (znC ZN.zero (.slice none 0 0)).toArray 39)) w.heap.size 39 (znC ZN.zero (.slice none 0 0)).toArray := Bk.new _ _ _
  have HBA := Lib.hid hbA
  have CC := Lib.hid (fun V (hV : Below w.heap.size w V) => get_copied o.path i tp t V L X (hT.below hV) hi hp)
  clear h hbA hT hi hp
  obtain ⟨n, hn⟩ : ∃ n, n = nodeAt t o.path := ⟨_, rfl⟩
  rw [← hn] at CC ⊢
  clear hn
  obtain ⟨q, hq⟩ : ∃ q, q = has t.row o.path := ⟨_, rfl⟩
  rw [← hq] at CC ⊢
  clear hq
  dsimp only [znV, znC, ZN.zero] at K1 K2 HBA CC
  go_enter Tryz.func117, Tryz.ntmps117
  go_wp2_with fail
  obtain ⟨W, hW⟩ : ∃ W, W = w.alloc (.cells #[.slice none 0 0, .int .u32 0, .int .u32 0, .int .u32 0, .int .i64 0, .int .u32 0, .int .u64 0, .int .u64 0, .int .u64 0] 39) := ⟨_, rfl⟩
  have hsz : W.heap.size = w.heap.size + 1 := by rw [hW]; simp
  have HSZ := Lib.hid hsz
  rw [← hW] at K1 K2 HBA ⊢
  have k0 : W.cell? ⟨g, 0, none⟩ = some (.pointer (some tp)) := K1.cell 0
  have k3 : W.cell? ⟨g, 3, none⟩ = some (.string (S o.path)) := K1.cell 3
  have HC : Hid (∀ V, Below W.heap.size W V → V.cell? ⟨g, 0, none⟩ = some (.pointer (some tp)) ∧ V.cell? ⟨g, 3, none⟩ = some (.string (S o.path))) := fun V hV => ⟨(K1.below hV).cell 0, (K1.below hV).cell 3⟩
  have BD : Hid (Below W.heap.size W W.drew) := (Below.refl _ _).drew
  have BZ : Hid (∀ o, Below W.heap.size W (W.alloc o).drew) := fun o => ((Below.refl _ _).alloc (Nat.le_refl _) o).drew
  have HK2 := Lib.hid K2
  have hgz : ¬ g = W.heap.size := by omega
  have C0 := Lib.hid (CC.out _ (HBA.out.trans (BD.out.mono HBA.out.size)))
  have C1 := Lib.hid (CC.out _ (HBA.out.trans ((BZ.out (.cells #[.slice none 0 0, .int .u32 0, .int .u32 0, .int .u32 0, .int .i64 0, .int .u32 0, .int .u64 0, .int .u64 0, .int .u64 0] 39)).mono HBA.out.size)))
  have HZ := Lib.hid (bk_drew (Bk.new W 39 #[.slice none 0 0, .int .u32 0, .int .u32 0, .int .u32 0, .int .i64 0, .int .u32 0, .int .u64 0, .int .u64 0, .int .u64 0]))
  clear K1 K2 hsz hW
  go_region_held3 (fun V => V.cell? ⟨g, 0, none⟩ = some (.pointer (some tp)) ∧ V.cell? ⟨g, 3, none⟩ = some (.string (S o.path)))
    (first | (with_reducible assumption) | (with_reducible exact HC.out _ BD.out) | (with_reducible exact HC.out _ (BZ.out _)) | (with_reducible exact HC.out _ BE.out) | (with_reducible exact HC.out _ (BA.out _)) | (with_reducible exact HS9.out _ _ _ _ _ _ _ _ _))
    (first
      | (go_at_call 32; (with_reducible refine C1.out.mono ?_); rintro e we ⟨A2, k2, c2, rfl, hb2, hc2⟩; have BE : Hid (Below W.heap.size W we) := (BZ.out _).trans (hb2.mono (by simp)); have BA : Hid (∀ o, Below W.heap.size W (we.alloc o)) := (fun o => BE.out.alloc BE.out.size o); have HC2 := Lib.hid hc2; have kz := HZ.out.below hb2; have kzc := kz.cell; have kzf := kz.frozen; have HKZ := Lib.hid kz; have HS9 : Hid (∀ v0 v1 v2 v3 v4 v5 v6 v7 v8, (((((((((we.setCell ⟨W.heap.size, 0, none⟩ v0).setCell ⟨W.heap.size, 1, none⟩ v1).setCell ⟨W.heap.size, 2, none⟩ v2).setCell ⟨W.heap.size, 3, none⟩ v3).setCell ⟨W.heap.size, 4, none⟩ v4).setCell ⟨W.heap.size, 5, none⟩ v5).setCell ⟨W.heap.size, 6, none⟩ v6).setCell ⟨W.heap.size, 7, none⟩ v7).setCell ⟨W.heap.size, 8, none⟩ v8).cell? ⟨g, 0, none⟩ = some (.pointer (some tp)) ∧ (((((((((we.setCell ⟨W.heap.size, 0, none⟩ v0).setCell ⟨W.heap.size, 1, none⟩ v1).setCell ⟨W.heap.size, 2, none⟩ v2).setCell ⟨W.heap.size, 3, none⟩ v3).setCell ⟨W.heap.size, 4, none⟩ v4).setCell ⟨W.heap.size, 5, none⟩ v5).setCell ⟨W.heap.size, 6, none⟩ v6).setCell ⟨W.heap.size, 7, none⟩ v7).setCell ⟨W.heap.size, 8, none⟩ v8).cell? ⟨g, 3, none⟩ = some (.string (S o.path))) := (fun v0 v1 v2 v3 v4 v5 v6 v7 v8 => HC.out _ (((((((((BE.out.setCell (p := ⟨W.heap.size, 0, none⟩) (Nat.le_refl _) v0).setCell (p := ⟨W.heap.size, 1, none⟩) (Nat.le_refl _) v1).setCell (p := ⟨W.heap.size, 2, none⟩) (Nat.le_refl _) v2).setCell (p := ⟨W.heap.size, 3, none⟩) (Nat.le_refl _) v3).setCell (p := ⟨W.heap.size, 4, none⟩) (Nat.le_refl _) v4).setCell (p := ⟨W.heap.size, 5, none⟩) (Nat.le_refl _) v5).setCell (p := ⟨W.heap.size, 6, none⟩) (Nat.le_refl _) v6).setCell (p := ⟨W.heap.size, 7, none⟩) (Nat.le_refl _) v7).setCell (p := ⟨W.heap.size, 8, none⟩) (Nat.le_refl _) v8)); clear kz hb2 hc2)
      | (go_at_call 32; (with_reducible refine C0.out.mono ?_); rintro e we ⟨A2, k2, c2, rfl, hb2, hc2⟩; have BE : Hid (Below W.heap.size W we) := BD.out.trans (hb2.mono (by simp)); have BA : Hid (∀ o, Below W.heap.size W (we.alloc o)) := (fun o => BE.out.alloc BE.out.size o); have HC2 := Lib.hid hc2; clear hb2 hc2))
  · obtain ⟨V, hV⟩ : ∃ V, V = we.alloc (.cells #[.slice A2 k2 c2, .int .u32 n.ver, .int .u32 n.kin, .int .u32 n.next, .int .i64 n.site, .int .u32 n.own, .int .u64 n.made, .int .u64 n.chg, .int .u64 n.tch] 39) := ⟨_, rfl⟩
    have hbV : Below W.heap.size W V := by rw [hV]; exact BA.out _
    have hC : Copied W.heap.size V (.slice A2 k2 c2) n.data := by rw [hV]; exact HC2.out.below ((Below.refl _ _).alloc (Nat.le_refl _) _)
    have KN : Bk V we.heap.size 39 #[.slice A2 k2 c2, .int .u32 n.ver, .int .u32 n.kin, .int .u32 n.next, .int .i64 n.site, .int .u32 n.own, .int .u64 n.made, .int .u64 n.chg, .int .u64 n.tch] := by rw [hV]; exact Bk.new _ _ _
    rw [← hV]
    obtain ⟨z, hz⟩ : ∃ z, z = we.heap.size := ⟨_, rfl⟩
    rw [← hz] at KN ⊢
    have hwz : W.heap.size ≤ z := by rw [hz]; exact BE.out.size
    have HBW := HBA.out.trans (hbV.mono HBA.out.size)
    have HNT := Lib.hid (node_tail KN hwz hbV hC HBA.out HK2.out HSZ.out)
    have zc := KN.cell
    have bc := (HK2.out.below hbV).cell
    have bf := (HK2.out.below hbV).frozen
    have hbz : ¬ w.heap.size = z := by have := HSZ.out; omega
    have hzb : ¬ z = w.heap.size := fun e => hbz e.symm
    clear hV hbV hC KN hz hwz k0 k3
    have HBV := Lib.hid HBW
    clear HBW
    cases q
    · go_wp2_with (go_at_call 77; refine (throw_yes _ _).mono ?_; rintro e w1 ⟨rfl, rfl⟩)
      exact ⟨rfl, .inr ⟨rfl, rfl, HBV.out⟩⟩
    · go_wp2_with (go_at_call 77; refine (throw_no _ _).mono ?_; rintro e w1 ⟨rfl, rfl⟩)
      refine bodyPost_ret (results_cell_row rfl _ _ w.heap.size 39 _ (0, 0) _ rfl HNT.out.1 Tryz.underlying39 rfl size_znode) rfl ?_
      exact .inl ⟨rfl, _, rfl, HNT.out.2.1, HNT.out.2.2⟩
  · obtain ⟨V, hV⟩ : ∃ V, V = (((((((((we.setCell ⟨W.heap.size, 0, none⟩ (.slice A2 k2 c2)).setCell ⟨W.heap.size, 1, none⟩ (.int .u32 n.ver)).setCell ⟨W.heap.size, 2, none⟩ (.int .u32 n.kin)).setCell ⟨W.heap.size, 3, none⟩ (.int .u32 n.next)).setCell ⟨W.heap.size, 4, none⟩ (.int .i64 n.site)).setCell ⟨W.heap.size, 5, none⟩ (.int .u32 n.own)).setCell ⟨W.heap.size, 6, none⟩ (.int .u64 n.made)).setCell ⟨W.heap.size, 7, none⟩ (.int .u64 n.chg)).setCell ⟨W.heap.size, 8, none⟩ (.int .u64 n.tch)) := ⟨_, rfl⟩
    have h9 : Out (· = W.heap.size) we V := by
      rw [hV]
      exact ((((((((((Out.refl (· = W.heap.size) we).set (p := ⟨W.heap.size, 0, none⟩) rfl (.slice A2 k2 c2)).set (p := ⟨W.heap.size, 1, none⟩) rfl (.int .u32 n.ver)).set (p := ⟨W.heap.size, 2, none⟩) rfl (.int .u32 n.kin)).set (p := ⟨W.heap.size, 3, none⟩) rfl (.int .u32 n.next)).set (p := ⟨W.heap.size, 4, none⟩) rfl (.int .i64 n.site)).set (p := ⟨W.heap.size, 5, none⟩) rfl (.int .u32 n.own)).set (p := ⟨W.heap.size, 6, none⟩) rfl (.int .u64 n.made)).set (p := ⟨W.heap.size, 7, none⟩) rfl (.int .u64 n.chg)).set (p := ⟨W.heap.size, 8, none⟩) rfl (.int .u64 n.tch))
    have hbV : Below W.heap.size W V := h9.below BE.out (fun j hj => Nat.le_of_eq hj.symm) BE.out.size
    have hC : Copied W.heap.size V (.slice A2 k2 c2) n.data := (copied_keep HC2.out fun j hj hz => h9.block j hz (by simp at hj; omega)).mono (by simp)
    have KN : Bk V W.heap.size 39 #[.slice A2 k2 c2, .int .u32 n.ver, .int .u32 n.kin, .int .u32 n.next, .int .i64 n.site, .int .u32 n.own, .int .u64 n.made, .int .u64 n.chg, .int .u64 n.tch] := by rw [hV]; exact set9 HKZ.out _ _ _ _ _ _ _ _ _
    rw [← hV]
    obtain ⟨z, hz⟩ : ∃ z, z = W.heap.size := ⟨_, rfl⟩
    have hwz : W.heap.size ≤ z := by rw [hz]; exact Nat.le_refl _
    have HBW := HBA.out.trans (hbV.mono HBA.out.size)
    have HNT := Lib.hid (node_tail (by rw [hz]; exact KN) hwz hbV hC HBA.out HK2.out HSZ.out)
    rw [← hz] at KN ⊢
    have zc := KN.cell
    have bc := (HK2.out.below hbV).cell
    have bf := (HK2.out.below hbV).frozen
    have hbz : ¬ w.heap.size = z := by have := HSZ.out; omega
    have hzb : ¬ z = w.heap.size := fun e => hbz e.symm
    clear hV hbV hC KN hz hwz k0 k3 kzc kzf h9 HS9 hgz
    have HBV := Lib.hid HBW
    clear HBW
    cases q
    · go_wp2_with (go_at_call 77; refine (throw_yes _ _).mono ?_; rintro e w1 ⟨rfl, rfl⟩)
      exact ⟨rfl, .inr ⟨rfl, rfl, HBV.out⟩⟩
    · go_wp2_with (go_at_call 77; refine (throw_no _ _).mono ?_; rintro e w1 ⟨rfl, rfl⟩)
      refine bodyPost_ret (results_cell_row rfl _ _ w.heap.size 39 _ (0, 0) _ rfl HNT.out.1 Tryz.underlying39 rfl size_znode) rfl ?_
      exact .inl ⟨rfl, _, rfl, HNT.out.2.1, HNT.out.2.2⟩
end Go.Proofs.YtplbckibogmicaaGreatDoor.Opn
