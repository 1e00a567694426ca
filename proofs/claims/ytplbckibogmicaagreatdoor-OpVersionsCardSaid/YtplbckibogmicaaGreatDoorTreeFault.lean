/- One effect: whether it fits, and what it does. -/
import Derived.Test.YtplbckibogmicaaGreatDoorTreeKids2
namespace Go.Proofs.YtplbckibogmicaaGreatDoor.Tree
open Go.Op Go.RowKit Path

def goneE (root : List UInt8) (l : Row) (p : List UInt8) : Int := if p = root then 30 else if has l p = false then 31 else if (paths l).any (isKidOf p) = true then 33 else 0
def putE (l : Row) (p : List UInt8) : Int := if has l p = true then 0 else if has l (parentF p) = false then 31 else if 48 ≤ l.length then 36 else 0
def faultE (root : List UInt8) (l : Row) (x : Ef) : Int := if underF x.path root = false then 30 else if x.gone = true then goneE root l x.path else putE l x.path
theorem fault_one {root : List UInt8} {l : Row} (hG : Good root l) (x : Ef) : faultE root l x = (one root l x).1 := by
  unfold faultE one goneE putE
  cases hu : underF x.path root with
  | false => simp
  | true =>
    cases hg : x.gone with
    | true =>
      by_cases hr : x.path = root
      · simp [hr]
      · cases hh : has l x.path with
        | false => simp [hr]
        | true =>
          rw [kids_any hG hh]
          by_cases hk : kids root l x.path = []
          · simp [hr, hk]
          · simp [hr, hk]
    | false =>
      cases hh : has l x.path with
      | true =>
        have hp : ¬ (x.path ≠ root ∧ has l (parentF x.path) = false) := fun h => by
          have := hG.par x.path (has_iff.1 hh) h.1
          rw [← has_iff, h.2] at this
          cases this
        simp [hp]
      | false =>
        have hr : x.path ≠ root := fun e => by
          have := has_iff.2 hG.has_root
          rw [← e, hh] at this
          cases this
        cases hp : has l (parentF x.path) with
        | false => simp [hr]
        | true =>
          by_cases h48 : 48 ≤ l.length
          · simp [h48]
          · simp [h48]

theorem parentF_len (p : List UInt8) (_hp : p.length ≤ 1000000) : (parentF p).length ≤ 1000000 := by
  unfold parentF
  cases h : partsF p with
  | none => simp
  | some ps => exact Nat.le_trans (parent_len h) (by decide)
set_option maxRecDepth 8000 in
theorem faultGone_at (p : List UInt8) {D : Nat → Prop} {g b : Nat} {t : TR} (w : World) (h : TreeAt w D g b t) (hp : p.length ≤ 1000000) :
    Calls Tryz.prog 70 #[.pointer (some ⟨g, 0, none⟩), .string (S p)] w fun e w' => e = .returned (.int .i64 (goneE t.root t.row p)) ∧ Below w.heap.size w w' := by
  have hc : w.cell? ⟨g, 0, none⟩ = some (.string (S t.root)) := h.bk.cell 0
  have s1 := S_list p
  have s2 := S_list t.root
  obtain ⟨r, hr⟩ : ∃ r, goneE t.root t.row p = r := ⟨_, rfl⟩
  rw [hr]
  unfold goneE at hr
  by_cases h1 : p = t.root
  · rw [if_pos h1] at hr
    subst hr
    have h1' : (p == t.root) = true := by simpa using h1
    clear h h1
    go_enter Tryz.func70, Tryz.ntmps70
    go_wp2_with fail
    go_ret
    exact ⟨rfl, Below.refl _ _⟩
  · have h1' : (p == t.root) = false := by simpa using h1
    have c1 := has_any p w h hp
    have H := Lib.hid h
    have HR := Lib.hid hr
    have HN1 := Lib.hid h1
    clear h h1 hr
    go_enter Tryz.func70, Tryz.ntmps70
    go_wp2_with fail
    cases hh : has t.row p with
    | false =>
      have hr := HR.out
      rw [if_neg HN1.out, if_pos hh] at hr
      subst hr
      rw [hh] at c1
      refine c1.mono ?_
      rintro e w1 ⟨rfl, hb⟩
      have HB := Lib.hid hb
      clear hb c1 HR hh
      go_wp2_with fail
      go_ret
      exact ⟨rfl, HB.out⟩
    | true =>
      rw [hh] at c1
      refine c1.mono ?_
      rintro e w1 ⟨rfl, hb⟩
      have HB := Lib.hid hb
      have c2 := hasKid_any p w1 (H.out.below hb)
      have hr := HR.out
      rw [if_neg HN1.out, if_neg (by rw [hh]; exact Bool.noConfusion)] at hr
      clear hb c1 HR hh
      go_wp2_with fail
      cases ha : (paths t.row).any (isKidOf p) with
      | true =>
        rw [if_pos ha] at hr
        subst hr
        rw [ha] at c2
        refine c2.mono ?_
        rintro e w2 ⟨rfl, hb⟩
        have HB2 := Lib.hid (HB.out.trans (hb.mono HB.out.size))
        clear hb c2 ha
        go_wp2_with fail
        go_ret
        exact ⟨rfl, HB2.out⟩
      | false =>
        rw [if_neg (by rw [ha]; exact Bool.noConfusion)] at hr
        subst hr
        rw [ha] at c2
        refine c2.mono ?_
        rintro e w2 ⟨rfl, hb⟩
        have HB2 := Lib.hid (HB.out.trans (hb.mono HB.out.size))
        clear hb c2 ha
        go_wp2_with fail
        go_ret
        exact ⟨rfl, HB2.out⟩

set_option maxRecDepth 8000 in
theorem faultPut_at (p : List UInt8) {D : Nat → Prop} {g b : Nat} {t : TR} (w : World) (h : TreeAt w D g b t) (hp : p.length ≤ 1000000) :
    Calls Tryz.prog 71 #[.pointer (some ⟨g, 0, none⟩), .string (S p)] w fun e w' => e = .returned (.int .i64 (putE t.row p)) ∧ Below w.heap.size w w' := by
  obtain ⟨r, hr⟩ : ∃ r, putE t.row p = r := ⟨_, rfl⟩
  rw [hr]
  unfold putE at hr
  have c1 := has_any p w h hp
  have H := Lib.hid h
  have HR := Lib.hid hr
  clear h hr
  go_enter Tryz.func71, Tryz.ntmps71
  go_wp2_with fail
  cases hh : has t.row p with
  | true =>
    have hr := HR.out
    rw [if_pos hh] at hr
    subst hr
    rw [hh] at c1
    refine c1.mono ?_
    rintro e w1 ⟨rfl, hb⟩
    have HB := Lib.hid hb
    clear hb c1 HR hh
    go_wp2_with fail
    go_ret
    exact ⟨rfl, HB.out⟩
  | false =>
    rw [hh] at c1
    refine c1.mono ?_
    rintro e w1 ⟨rfl, hb⟩
    have HB := Lib.hid hb
    have hr := HR.out
    rw [if_neg (by rw [hh]; exact Bool.noConfusion)] at hr
    have HR2 := Lib.hid hr
    clear hb c1 HR hh hr
    go_wp2_with fail
    refine (Parent_any p w1 hp).mono ?_
    rintro e w2 ⟨rfl, hb⟩
    have HB2 := Lib.hid (HB.out.trans (hb.mono HB.out.size))
    have h2 := H.out.below HB2.out
    have c2 := has_any (parentF p) w2 h2 (parentF_len p hp)
    have hc : w2.cell? ⟨g, 2, none⟩ = some (.map (some b)) := h2.bk.cell 2
    have HT2 := Lib.hid h2
    clear hb h2
    go_wp2_with fail
    cases hpar : has t.row (parentF p) with
    | false =>
      have hr := HR2.out
      rw [if_pos hpar] at hr
      subst hr
      rw [hpar] at c2
      refine c2.mono ?_
      rintro e w3 ⟨rfl, hb⟩
      have HB3 := Lib.hid (HB2.out.trans (hb.mono HB2.out.size))
      clear hb c2 HR2 hpar
      go_wp2_with fail
      go_ret
      exact ⟨rfl, HB3.out⟩
    | true =>
      have hr := HR2.out
      rw [if_neg (by rw [hpar]; exact Bool.noConfusion)] at hr
      rw [hpar] at c2
      refine c2.mono ?_
      rintro e w3 ⟨rfl, hb⟩
      have HB3 := Lib.hid (HB2.out.trans (hb.mono HB2.out.size))
      have h3 := HT2.out.below hb
      have hc3 : w3.cell? ⟨g, 2, none⟩ = some (.map (some b)) := h3.bk.cell 2
      have hln := fun ty => h3.size ty
      clear hb c2 HR2 hpar h3 hc
      by_cases h48 : 48 ≤ t.row.length
      · rw [if_pos h48] at hr
        subst hr
        have v1 : (48 : Int) ≤ (t.row.length : Int) := by omega
        go_wp2_with fail
        go_ret
        exact ⟨rfl, HB3.out⟩
      · rw [if_neg h48] at hr
        subst hr
        have v1 : (t.row.length : Int) < 48 := by omega
        go_wp2_with fail
        go_ret
        exact ⟨rfl, HB3.out⟩
set_option maxRecDepth 8000 in
theorem fault_at {P : Nat → Prop} (x : Ef) (d : Value) {D : Nat → Prop} {g b : Nat} {t : TR} (w : World) (h : TreeAt w D g b t) (hd : DataS P w d x.node.data) (hp : x.path.length ≤ 1000000) :
    Calls Tryz.prog 43 #[.pointer (some ⟨g, 0, none⟩), efV x d] w fun e w' => e = .returned (.int .i64 (one t.root t.row x).1) ∧ Below w.heap.size w w' := by
  rw [← fault_one h.good x]
  obtain ⟨r, hr⟩ : ∃ r, faultE t.root t.row x = r := ⟨_, rfl⟩
  rw [hr]
  unfold faultE at hr
  obtain ⟨A, k, c, rfl, _⟩ := hd
  have hroot : t.root.length ≤ 1000000 := by
    obtain ⟨rs, hrs⟩ := Option.isSome_iff_exists.1 h.good.isPath
    exact Nat.le_trans ((parts_iff _ _).1 hrs).2.1 (by decide)
  have B0 := Lib.hid ((Below.refl w.heap.size w).alloc (Nat.le_refl _) (.cells (efC x (.slice A k c)).toArray 41))
  have K0 : Bk (w.alloc (.cells (efC x (.slice A k c)).toArray 41)) w.heap.size 41 (efC x (.slice A k c)).toArray := Bk.new _ _ _
  have hgc : w.cell? ⟨g, 0, none⟩ = some (.string (S t.root)) := h.bk.cell 0
  have HC : Hid (∀ W, Below (w.heap.size + 1) (w.alloc (.cells (efC x (.slice A k c)).toArray 41)) W → W.cell? ⟨w.heap.size, 0, none⟩ = some (.string (S x.path)) ∧ W.cell? ⟨w.heap.size, 1, none⟩ = some (.bool x.gone) ∧ W.cell? ⟨g, 0, none⟩ = some (.string (S t.root))) := fun W hW =>
    ⟨(hW.cell (p := ⟨w.heap.size, 0, none⟩) (by simp)).trans (K0.cell 0), (hW.cell (p := ⟨w.heap.size, 1, none⟩) (by simp)).trans (K0.cell 1), (hW.cell (p := ⟨g, 0, none⟩) (by have := h.bk.lt; simp; omega)).trans ((B0.out.cell (p := ⟨g, 0, none⟩) h.bk.lt).trans hgc)⟩
  have B1 : Hid (Below (w.heap.size + 1) (w.alloc (.cells (efC x (.slice A k c)).toArray 41)) (w.alloc (.cells (efC x (.slice A k c)).toArray 41)).drew) := by
    have := (Below.refl (w.alloc (.cells (efC x (.slice A k c)).toArray 41)).heap.size (w.alloc (.cells (efC x (.slice A k c)).toArray 41))).drew
    show Below _ _ _
    simpa using this
  have CU := Lib.hid (fun W => Under_any x.path t.root W hp hroot)
  have H := Lib.hid h
  have HR := Lib.hid hr
  clear hr h hgc K0
  unfold efV
  dsimp only [efC, znC] at HC B0 B1 ⊢
  go_enter Tryz.func43, Tryz.ntmps43
  go_wp2_with fail
  go_region_held3 (fun w' => w'.cell? ⟨w.heap.size, 0, none⟩ = some (.string (S x.path)) ∧ w'.cell? ⟨w.heap.size, 1, none⟩ = some (.bool x.gone) ∧ w'.cell? ⟨g, 0, none⟩ = some (.string (S t.root)))
    (first | assumption | exact HC.out _ B1.out | exact HC.out _ BE.out)
    (first | (go_at_call 34; refine (CU.out _).mono ?_; rintro e we ⟨rfl, hg⟩; have BE : Hid (Below (w.heap.size + 1) (w.alloc (.cells (efC x (.slice A k c)).toArray 41)) we) := B1.out.trans (hg.mono (by simp)); clear hg))
  rename_i hHeld
  obtain ⟨q0, q1, q2⟩ := hHeld
  have HBE : Hid (Below w.heap.size w we) := B0.out.trans (BE.out.mono (by omega))
  have hT := H.out.below HBE.out
  cases hu : underF x.path t.root with
  | false =>
    have hr := HR.out
    rw [if_pos hu] at hr
    subst hr
    clear HR hu hT
    go_wp2_with fail
    go_ret
    exact ⟨rfl, HBE.out⟩
  | true =>
    cases hg : x.gone with
    | true =>
      have hr := HR.out
      rw [if_neg (by rw [hu]; exact Bool.noConfusion), if_pos hg] at hr
      have cg := faultGone_at x.path we hT hp
      rw [hr] at cg
      rw [hg] at q1
      clear HR hu hT hr hg
      go_wp2_with fail
      refine cg.mono ?_
      rintro e w3 ⟨rfl, hb⟩
      have HB3 := Lib.hid (HBE.out.trans (hb.mono HBE.out.size))
      clear cg hb
      go_wp2_with fail
      go_ret
      exact ⟨rfl, HB3.out⟩
    | false =>
      have hr := HR.out
      rw [if_neg (by rw [hu]; exact Bool.noConfusion), if_neg (by rw [hg]; exact Bool.noConfusion)] at hr
      have cg := faultPut_at x.path we hT hp
      rw [hr] at cg
      rw [hg] at q1
      clear HR hu hT hr hg
      go_wp2_with fail
      refine cg.mono ?_
      rintro e w3 ⟨rfl, hb⟩
      have HB3 := Lib.hid (HBE.out.trans (hb.mono HBE.out.size))
      clear cg hb
      go_wp2_with fail
      go_ret
      exact ⟨rfl, HB3.out⟩
end Go.Proofs.YtplbckibogmicaaGreatDoor.Tree
