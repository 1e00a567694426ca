/- create at the root's path. -/
import Derived.Test.YtplbckibogmicaaGreatDoorOpCodeA
namespace Go.Proofs.YtplbckibogmicaaGreatDoor.Opn
open Go.RowKit Path Tree

set_option maxRecDepth 100000 in
set_option maxHeartbeats 1000000 in
theorem create_root (i : Nat) (t : TR) (L : List (Addr × TR)) (X : Nat → Prop) (g : Nat) (tp : Addr) (at_ : Int) (o : O1) (od ops : Value) (who : Who) (w : World) (h : Bk w g 104 (wk0 tp at_ o od ops who).toArray) (hT : Trees w L X) (hi : L[i]? = some (tp, t)) (hr : o.path = t.root) (hp : o.path.length ≤ 100000) (ht : Tab w)
    (hn0 : 0 ≤ (nodeAt t (parentF o.path)).next) (hn1 : (nodeAt t (parentF o.path)).next < 4294967296) :
    Calls Tryz.prog 97 #[.pointer (some ⟨g, 0, none⟩)] w (Meth g tp at_ o od ops who (create t at_ who o) w) := by
  have hE : create t at_ who o = if o.seq = false then ([], .no 32) else ([], .no 30) := by
    unfold create
    cases hs : o.seq
    · rw [if_pos ⟨hr, rfl⟩, if_pos rfl]
    · rw [if_neg (fun h => by cases h.2), if_pos (.inl hr), if_neg (by decide)]
  have HE := Lib.hid hE
  have k0 : w.cell? ⟨g, 0, none⟩ = some (.pointer (some tp)) := h.cell 0
  have k3 : w.cell? ⟨g, 3, none⟩ = some (.string (S o.path)) := h.cell 3
  have k6 : w.cell? ⟨g, 6, none⟩ = some (.bool o.seq) := h.cell 6
  have cr := Lib.hid ((Root_quiet i tp t w L X hT hi).mono (R' := fun e w' => e = .returned (.string (S t.root)) ∧ w = w') fun _ _ ⟨h, e⟩ => ⟨h, e.symm⟩)
  have s1 := S_list o.path
  have s2 := S_list t.root
  have h1 : (o.path == t.root) = true := by simpa using hr
  have HK := Lib.hid h
  have HT := Lib.hid hT
  have HI := Lib.hid hi
  have HPL := Lib.hid hp
  have HTB := Lib.hid ht
  have HN0 := Lib.hid hn0
  have HN1 := Lib.hid hn1
  have cpar := Lib.hid (Parent_any o.path w (by omega))
  clear h hT hi hr hp ht hn0 hn1 hE
  obtain ⟨x, hx⟩ : ∃ x, x = create t at_ who o := ⟨_, rfl⟩
  rw [← hx] at HE ⊢
  clear hx
  cases hs : o.seq
  · have hx := HE.out
    rw [if_pos hs] at hx
    have HXX := Lib.hid hx
    rw [hs] at k6
    clear hx
    go_enter Tryz.func97, Tryz.ntmps97
    go_wp2_with (first
      | (go_at_call 46; (with_reducible refine cr.out.mono ?_); rintro e w1 ⟨rfl, rfl⟩)
      | (go_at_call 77; (with_reducible refine (throw_yes _ _).mono ?_); rintro e w1 ⟨rfl, rfl⟩))
    exact ⟨rfl, meth_no HXX.out (by decide) (Below.refl _ _)⟩
  · have hx := HE.out
    rw [if_neg (by rw [hs]; decide)] at hx
    have HXX := Lib.hid hx
    rw [hs] at k6
    clear hx
    go_enter Tryz.func97, Tryz.ntmps97
    go_wp2_with (first
      | (go_at_call 46; (with_reducible refine cr.out.mono ?_); rintro e w1 ⟨rfl, rfl⟩)
      | (go_at_call 77; (with_reducible refine (throw_no _ _).mono ?_); rintro e w1 ⟨rfl, rfl⟩))
    refine cpar.out.mono ?_
    rintro e w2 ⟨rfl, hb2⟩
    have HB2 := Lib.hid hb2
    have k20 : w2.cell? ⟨g, 0, none⟩ = some (.pointer (some tp)) := (HK.out.below hb2).cell 0
    have cget := get_copied (parentF o.path) i tp t w2 L X (HT.out.below hb2) HI.out (parentF_len _ (by have := HPL.out; omega))
    clear hb2 k0 k3 k6 s1 s2 h1 cr cpar
    go_wp2_with fail
    refine cget.mono ?_
    rintro e w3 ⟨A3, q3, c3, rfl, hb3, _⟩
    obtain ⟨n, hn⟩ : ∃ n, n = nodeAt t (parentF o.path) := ⟨_, rfl⟩
    rw [← hn] at HN0 HN1 ⊢
    clear hn
    have HB3 := Lib.hid (HB2.out.trans (hb3.mono HB2.out.size))
    have hlt3 : g < w3.heap.size := (HK.out.below HB3.out).lt
    have k36 : w3.cell? ⟨g, 6, none⟩ = some (.bool true) := ((HK.out.below HB3.out).cell 6).trans (by show some (Value.bool o.seq) = _; rw [hs])
    have MID : ∃ b, b = w3.heap.size ∧ Hid (Bk (w3.alloc (.cells (znC n (.slice A3 q3 c3)).toArray 39)) b 39 (znC n (.slice A3 q3 c3)).toArray) := ⟨_, rfl, Bk.new _ _ _⟩
    obtain ⟨b, hb, HBX⟩ := MID
    have HBA := Lib.hid ((Below.refl w3.heap.size w3).alloc (Nat.le_refl _) (.cells (znC n (.slice A3 q3 c3)).toArray 39))
    have HBS := Lib.hid hb
    have hgb : ¬ g = b := by omega
    clear hb3 cget k20
    dsimp only [znV, znC] at HBX HBA ⊢
    have cten := ten_any n.next HN0.out HN1.out _ ((HTB.out.below HB3.out).below HBA.out)
    go_wp2_with fail
    refine cten.mono ?_
    rintro e w4 ⟨rfl, hb4⟩
    have kb4 := HBX.out.below hb4
    rw [← hb]
    have bc := kb4.cell
    have bf := kb4.frozen
    have e2 : ¬ 9223372036854775807 < (S o.path).size + (S (ten n.next.toNat)).size := by
      rw [S_size, S_size, len_ten]
      have := HPL.out
      omega
    have e3 := up_wrap n.next
    have HB4 := Lib.hid hb4
    clear hb4 cten kb4 hb k36 hlt3
    go_wp2_with (go_at_call 77; (with_reducible refine (throw_yes _ _).mono ?_); rintro e w6 ⟨rfl, rfl⟩)
    refine ⟨rfl, meth_no HXX.out (by decide) ?_⟩
    exact (HB3.out.trans ((HBA.out.trans (HB4.out.mono HBA.out.size)).mono HB3.out.size)).setCell (by rw [HBS.out]; exact HB3.out.size) _
end Go.Proofs.YtplbckibogmicaaGreatDoor.Opn
