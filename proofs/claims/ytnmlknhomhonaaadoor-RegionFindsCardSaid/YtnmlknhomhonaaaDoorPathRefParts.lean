/- The document's own answers for paths: its parts. -/
import Derived.Test.YtnmlknhomhonaaaDoorPathTexts
import Derived.Test.YtnmlknhomhonaaaDoorPathRefName
namespace Go.Proofs.YtnmlknhomhonaaaDoor.Path
open Go.RowKit

def seg (l : List UInt8) (f k : Nat) : List UInt8 := (l.drop f).take (k - f)
theorem at0_get (l : List UInt8) {k : Nat} (h : k < l.length) : at0 l k = (l[k]).toNat := by
  unfold at0
  rw [List.getD_eq_getElem?_getD, List.getElem?_eq_getElem h]
  rfl
theorem seg_no {l : List UInt8} {f k : Nat} (h : ∀ j, f ≤ j → j < k → at0 l j ≠ 47) : ∀ b ∈ seg l f k, b ≠ 47 := by
  intro b hb e
  obtain ⟨j, hj, he⟩ := List.getElem_of_mem hb
  unfold seg at hj he
  rw [List.length_take, List.length_drop] at hj
  apply h (f + j) (by omega) (by omega)
  rw [at0_get l (by omega)]
  have e2 : l[f + j]? = some b := by
    have := List.getElem?_eq_getElem (l := (l.drop f).take (k - f)) (i := j) (by rw [List.length_take, List.length_drop]; exact hj)
    rw [he, List.getElem?_take, if_pos (by omega), List.getElem?_drop] at this
    exact this
  rw [List.getElem?_eq_getElem (by omega)] at e2
  injection e2 with e2
  rw [e2, e]
  rfl
theorem segs_at {l : List UInt8} {f k : Nat} (hf : f ≤ k) (hk : k < l.length) (h : ∀ j, f ≤ j → j < k → at0 l j ≠ 47) (h47 : at0 l k = 47) : segs (l.drop f) = seg l f k :: segs (l.drop (k + 1)) := by
  have e : l.drop f = seg l f k ++ 47 :: l.drop (k + 1) := by
    have e1 : l.drop k = 47 :: l.drop (k + 1) := by
      rw [List.drop_eq_getElem_cons hk]
      congr 1
      rw [at0_get l hk] at h47
      exact UInt8.toNat_inj.1 h47
    rw [← e1]
    unfold seg
    have := List.take_append_drop (k - f) (l.drop f)
    rw [List.drop_drop, show f + (k - f) = k by omega] at this
    exact this.symm
  rw [e, segs_cut _ _ (seg_no h)]
theorem segs_end {l : List UInt8} {f : Nat} (h : ∀ j, f ≤ j → j < l.length → at0 l j ≠ 47) : segs (l.drop f) = [seg l f l.length] := by
  have e : l.drop f = seg l f l.length := by
    unfold seg
    rw [List.take_of_length_le (by rw [List.length_drop]; omega)]
  have h2 := segs_last _ (seg_no h)
  rw [← e] at h2
  rw [h2, ← e]

/-- What is known behind some rounds: all before the place f is cut; between f and k there is no '/'. -/
def Cut (l : List UInt8) (f k : Nat) (out : List (List UInt8)) : Prop :=
  (∀ s ∈ out, name s = true) ∧ ((k ≤ l.length ∧ f ≤ k ∧ segs (l.drop 1) = out ++ segs (l.drop f) ∧ ∀ j, f ≤ j → j < k → at0 l j ≠ 47) ∨ (k = l.length + 1 ∧ segs (l.drop 1) = out))
theorem Cut.start {l : List UInt8} (h : 1 ≤ l.length) : Cut l 1 1 [] := ⟨by simp, .inl ⟨h, Nat.le_refl _, rfl, fun j h1 h2 => by omega⟩⟩
theorem Cut.on {l : List UInt8} {f k : Nat} {out : List (List UInt8)} (h : Cut l f k out) (hk : k < l.length) (h47 : ¬ at0 l k = 47) : Cut l f (k + 1) out := by
  refine ⟨h.1, ?_⟩
  rcases h.2 with ⟨a, b, c, d⟩ | ⟨a, _⟩
  · refine .inl ⟨hk, by omega, c, fun j h1 h2 => ?_⟩
    by_cases hj : j = k
    · rw [hj]; exact h47
    · exact d j h1 (by omega)
  · omega
theorem Cut.part {l : List UInt8} {f k : Nat} {out : List (List UInt8)} (h : Cut l f k out) (hk : k ≤ l.length) (h47 : k = l.length ∨ at0 l k = 47) (hn : name (seg l f k) = true) : Cut l (k + 1) (k + 1) (out ++ [seg l f k]) := by
  refine ⟨fun s hs => ?_, ?_⟩
  · rcases List.mem_append.1 hs with hs | hs
    · exact h.1 s hs
    · rw [List.mem_singleton.1 hs]; exact hn
  · rcases h.2 with ⟨a, b, c, d⟩ | ⟨a, _⟩
    · by_cases e : k = l.length
      · subst e
        exact .inr ⟨rfl, by rw [c, segs_end d]⟩
      · refine .inl ⟨by omega, Nat.le_refl _, ?_, fun j h1 h2 => by omega⟩
        rw [c, segs_at b (by omega) d (by omega)]
        simp
    · omega
theorem Cut.le {l : List UInt8} {f k : Nat} {out : List (List UInt8)} (h : Cut l f k out) (hk : k ≤ l.length) : f ≤ k := by
  rcases h.2 with ⟨a, b, c, d⟩ | ⟨a, _⟩ <;> omega
theorem parts_of_cons {l : List UInt8} (h1 : at0 l 0 = 47) (h0 : 0 < l.length) (h64 : l.length ≤ 64) (h2 : l ≠ [47]) : partsF l = if (segs (l.drop 1)).all name then some (segs (l.drop 1)) else none := by
  cases l with
  | nil => simp at h0
  | cons b t =>
    have hb : b = 47 := UInt8.toNat_inj.1 h1
    subst hb
    have ht : t ≠ [] := by rintro rfl; exact h2 rfl
    unfold partsF
    simp only [List.drop_succ_cons, List.drop_zero]
    rw [if_pos ⟨trivial, by simp at h64; omega⟩, if_neg ht]
theorem Cut.none {l : List UInt8} {f k : Nat} {out : List (List UInt8)} (h : Cut l f k out) (hk : k ≤ l.length) (h47 : k = l.length ∨ at0 l k = 47) (hn : ¬ name (seg l f k) = true) (h1 : at0 l 0 = 47) (h0 : 0 < l.length) (h64 : l.length ≤ 64) (h2 : l ≠ [47]) : partsF l = none := by
  rw [parts_of_cons h1 h0 h64 h2, if_neg ?_]
  intro ha
  apply hn
  rw [List.all_eq_true] at ha
  apply ha
  rcases h.2 with ⟨a, b, c, d⟩ | ⟨a, _⟩
  · rw [c]
    by_cases e : k = l.length
    · subst e; rw [segs_end d]; simp
    · rw [segs_at b (by omega) d (by omega)]; simp
  · omega
theorem Cut.done {l : List UInt8} {f k : Nat} {out : List (List UInt8)} (h : Cut l f k out) (hk : ¬ k ≤ l.length) (h1 : at0 l 0 = 47) (h0 : 0 < l.length) (h64 : l.length ≤ 64) (h2 : l ≠ [47]) : partsF l = some out := by
  rcases h.2 with ⟨a, _⟩ | ⟨_, b⟩
  · omega
  · rw [parts_of_cons h1 h0 h64 h2, b, if_pos (List.all_eq_true.2 h.1)]
theorem parts_bad {l : List UInt8} (h : l.length = 0 ∨ ¬ at0 l 0 = 47 ∨ 64 < l.length) : partsF l = none := by
  cases l with
  | nil => rfl
  | cons b t =>
    unfold partsF
    simp only
    rw [if_neg ?_]
    rintro ⟨rfl, h64⟩
    rcases h with h | h | h
    · simp at h
    · exact h rfl
    · simp at h; omega

/-- What the document's Parts hands back. -/
def PartsPost (w : World) (l : List UInt8) (e : Ending) (w' : World) : Prop :=
  ∃ A n c ok, e = .returned (.tuple #[.slice A n c, .bool ok]) ∧ Below w.heap.size w w' ∧ (∀ ps, partsF l = some ps → ok = true ∧ w'.ownsRow w.heap.size 9 1 (.slice A n c) n (sv ps)) ∧ (partsF l = none → ok = false ∧ A = none ∧ n = 0 ∧ c = 0)
theorem PartsPost.no {w : World} {l : List UInt8} (h : partsF l = none) {w' : World} (hb : Below w.heap.size w w') : PartsPost w l (.returned (.tuple #[.slice none 0 0, .bool false])) w' :=
  ⟨_, _, _, _, rfl, hb, (fun ps hp => by rw [h] at hp; cases hp), fun _ => ⟨rfl, rfl, rfl, rfl⟩⟩

def Rel (w : World) (l : List UInt8) (o f i : Value) (wr : World) : Prop :=
  ∃ (ff k : Nat) (out : List (List UInt8)), f = .int .i64 (ff : Int) ∧ i = .int .i64 (k : Int) ∧ 1 ≤ k ∧ k ≤ l.length + 1 ∧ out.length ≤ k ∧ Cut l ff k out ∧ wr.ownsRow w.heap.size 9 1 o out.length (sv out) ∧ Below w.heap.size w wr

set_option maxRecDepth 8000 in
set_option maxHeartbeats 1000000 in
theorem refParts_any (l : List UInt8) (w : World) (hl : l.length ≤ 1000000) : Calls Tryd.prog 22 #[.string (S l)] w (PartsPost w l) := by
  have hz : ((S l).size : Int) = (l.length : Int) := by rw [S_size]
  have hzn : (S l).size = l.length := S_size l
  have hsl := S_list l
  obtain ⟨i0, hi, hz0, hz1, hz2⟩ := infos info_text
  have HI := Lib.hid hi
  have HZ0 := Lib.hid hz0
  have HZ1 := Lib.hid hz1
  have HZ2 := Lib.hid hz2
  clear hi hz0 hz1 hz2
  have HX : Hid (∀ i W, i < l.length → (Instr.index 9 (.string (S l)) (.int .i64 (i : Int))).run Tryd.prog W = .ok (.int .u8 (at0 l i : Int)) W) := fun i W hi => idx_any (P := Tryd.prog) 9 ty_string l i hi W
  have HXT : Hid (∀ f k, (S l).extract f k = S (seg l f k)) := fun f k => S_extract l f k
  generalize S l = s at *
  by_cases h0 : l.length = 0
  · have HP := Lib.hid (parts_bad (l := l) (Or.inl h0))
    go_enter Tryd.func22, Tryd.ntmps22
    go_wp2_with fail
    go_ret2
    exact PartsPost.no HP.out (Below.refl _ _)
  · have x0 := fun W => HX.out 0 W (by omega)
    simp only [Int.natCast_zero] at x0
    have z0 : ((l.length : Int) == 0) = false := beq_eq_false_iff_ne.2 (by omega)
    by_cases h1 : at0 l 0 = 47
    · by_cases h64 : 64 < l.length
      · have HP := Lib.hid (parts_bad (l := l) (Or.inr (Or.inr h64)))
        go_enter Tryd.func22, Tryd.ntmps22
        go_wp2_with fail
        go_ret2
        exact PartsPost.no HP.out (Below.refl _ _)
      · by_cases h2 : l = [47]
        · have HP : Hid (partsF l = some []) := by subst h2; rfl
          go_enter Tryd.func22, Tryd.ntmps22
          go_wp2_with fail
          go_ret2
          exact ⟨_, _, _, _, rfl, Below.refl _ _, fun ps hp => by rw [HP.out] at hp; injection hp with hp; subst hp; exact ⟨rfl, own_nil _ _ _⟩, fun hp => by rw [HP.out] at hp; cases hp⟩
        · have z64 : ¬ (64 : Int) < (l.length : Int) := by omega
          have e2 : (l == [47]) = false := beq_eq_false_iff_ne.2 h2
          have HST := Lib.hid (Cut.start (l := l) (by omega))
          have HNO : Hid (∀ f k out, Cut l f k out → k ≤ l.length → (k = l.length ∨ at0 l k = 47) → ¬ name (seg l f k) = true → partsF l = none) := fun f k out h a b c => h.none a b c h1 (by omega) (by omega) h2
          have HDN : Hid (∀ f k out, Cut l f k out → ¬ k ≤ l.length → partsF l = some out) := fun f k out h a => h.done a h1 (by omega) (by omega) h2
          clear h2
          go_enter Tryd.func22, Tryd.ntmps22
          go_wp2_with fail
          clear x0
          go_loopw [4, 5, 6] (fun o f i wr => Rel w l o f i wr) (fun _ _ i _ => l.length + 1 - (intOf i).toNat)
          case atStart => exact ⟨1, 1, [], rfl, rfl, Nat.le_refl _, by omega, by simp, HST.out, own_nil _ _ _, Below.refl _ _⟩
          case round =>
            obtain ⟨ff, k, out, rfl, rfl, hk1, hk2, hout, hcut, hown, hbel⟩ := hrel
            obtain ⟨A, c, rfl⟩ := own_slice hown
            have HC := Lib.hid hcut
            have HO := Lib.hid hown
            have HB := Lib.hid hbel
            clear hcut hown hbel
            by_cases hk : k ≤ l.length
            · have hff := HC.out.le hk
              have hx := HXT.out ff k
              have hkz : (k : Int) ≤ (l.length : Int) := by omega
              by_cases hp : k = l.length ∨ at0 l k = 47
              · have hp1 : (((k : Int) == (l.length : Int)) = true) ∨ (((k : Int) == (l.length : Int)) = false ∧ k < l.length ∧ at0 l k = 47) := by
                  by_cases e : k = l.length
                  · exact .inl (beq_iff_eq.2 (by omega))
                  · exact .inr ⟨beq_eq_false_iff_ne.2 (by omega), by omega, by omega⟩
                have HP := Lib.hid hp
                clear hp
                have hsl2 : (seg l ff k).length ≤ 1000000 := by unfold seg; rw [List.length_take, List.length_drop]; omega
                have HN1 : Hid (∀ W, Calls Tryd.prog 38 #[.string (S (seg l ff k))] W fun e w' => e = .returned (.bool (name (seg l ff k))) ∧ W = w') := fun W => refName_any (seg l ff k) W hsl2
                have HNX : Hid (name (seg l ff k) = true → Cut l (k + 1) (k + 1) (out ++ [seg l ff k])) := fun h => HC.out.part hk HP.out h
                have HNZ : Hid (name (seg l ff k) = false → partsF l = none) := fun h => HNO.out ff k out HC.out hk HP.out (by rw [h]; exact Bool.false_ne_true)
                generalize seg l ff k = g at *
                clear hsl2
                rcases hp1 with hp1 | ⟨hp1, hkl, h47⟩
                · cases hnm : name g
                  · rw [hnm] at HN1
                    have HZ := Lib.hid (HNZ.out hnm)
                    clear hnm HNX HNZ
                    go_wp2_with fail
                    refine (HN1.out wr).mono ?_
                    rintro e we ⟨rfl, rfl⟩
                    go_wp2_with fail
                    go_ret2
                    exact PartsPost.no HZ.out HB.out
                  · rw [hnm] at HN1
                    have HZ := Lib.hid (HNX.out hnm)
                    clear hnm HNX HNZ
                    go_wp2_with fail
                    refine (HN1.out wr).mono ?_
                    rintro e we ⟨rfl, rfl⟩
                    go_wp2_with (at_builtin; refine wpList_append_own _ rfl (.tmp 45) (.tmp 50) _ rfl w.heap.size 9 i0 _ 1 16 ty_texts HI.out HZ0.out HZ1.out HZ2.out rfl (by decide) _ out.length _ rfl (HO.out.alloc _) ⟨wr.heap.size, 0, none⟩ 1 1 _ rfl rfl (one_new _ _ _) (by simp [Value.oneCell']) (by unfold maxLen; omega) (by omega) (by simp; have := HB.out.size; omega) ?_)
                    intro v' w1 hown1 hgr1 _
                    have hown2 : w1.ownsRow w.heap.size 9 1 v' (out ++ [g]).length (sv (out ++ [g])) := by
                      rw [sv_append]
                      simpa [sv] using hown1
                    have hb2 : Below w.heap.size w w1 := (HB.out.alloc HB.out.size _).grown hgr1 (by simp; have := HB.out.size; omega) (fun g hg => (HO.out.lt g hg).1)
                    have HO1 := Lib.hid hown2
                    have HB1 := Lib.hid hb2
                    clear hown1 hgr1 hown2 hb2
                    go_wp2_with fail
                    exact ⟨⟨k + 1, k + 1, out ++ [g], rfl, rfl, by omega, by omega, by simp; omega, HZ.out, HO1.out, HB1.out⟩, by simp [intOf]; omega⟩
                · have hxk := fun W => HX.out k W hkl
                  rw [h47] at hxk
                  cases hnm : name g
                  · rw [hnm] at HN1
                    have HZ := Lib.hid (HNZ.out hnm)
                    clear hnm HNX HNZ
                    go_wp2_with fail
                    refine (HN1.out wr).mono ?_
                    rintro e we ⟨rfl, rfl⟩
                    go_wp2_with fail
                    go_ret2
                    exact PartsPost.no HZ.out HB.out
                  · rw [hnm] at HN1
                    have HZ := Lib.hid (HNX.out hnm)
                    clear hnm HNX HNZ
                    go_wp2_with fail
                    refine (HN1.out wr).mono ?_
                    rintro e we ⟨rfl, rfl⟩
                    go_wp2_with (at_builtin; refine wpList_append_own _ rfl (.tmp 45) (.tmp 50) _ rfl w.heap.size 9 i0 _ 1 16 ty_texts HI.out HZ0.out HZ1.out HZ2.out rfl (by decide) _ out.length _ rfl (HO.out.alloc _) ⟨wr.heap.size, 0, none⟩ 1 1 _ rfl rfl (one_new _ _ _) (by simp [Value.oneCell']) (by unfold maxLen; omega) (by omega) (by simp; have := HB.out.size; omega) ?_)
                    intro v' w1 hown1 hgr1 _
                    have hown2 : w1.ownsRow w.heap.size 9 1 v' (out ++ [g]).length (sv (out ++ [g])) := by
                      rw [sv_append]
                      simpa [sv] using hown1
                    have hb2 : Below w.heap.size w w1 := (HB.out.alloc HB.out.size _).grown hgr1 (by simp; have := HB.out.size; omega) (fun g hg => (HO.out.lt g hg).1)
                    have HO1 := Lib.hid hown2
                    have HB1 := Lib.hid hb2
                    clear hown1 hgr1 hown2 hb2
                    go_wp2_with fail
                    exact ⟨⟨k + 1, k + 1, out ++ [g], rfl, rfl, by omega, by omega, by simp; omega, HZ.out, HO1.out, HB1.out⟩, by simp [intOf]; omega⟩
              · have hne : ¬ k = l.length := fun h => hp (Or.inl h)
                have h47 : ¬ at0 l k = 47 := fun h => hp (Or.inr h)
                have hkl : k < l.length := by omega
                have hp1 : ((k : Int) == (l.length : Int)) = false := beq_eq_false_iff_ne.2 (by omega)
                have hxk := fun W => HX.out k W hkl
                have hp2 : ((at0 l k : Int) == 47) = false := beq_eq_false_iff_ne.2 (by omega)
                have HCN := Lib.hid (HC.out.on hkl h47)
                clear hp hne h47 hx
                generalize at0 l k = bk at *
                go_wp2_with fail
                exact ⟨⟨ff, k + 1, out, rfl, rfl, by omega, by omega, by omega, HCN.out, HO.out, HB.out⟩, by simp [intOf]; omega⟩
            · have HD := Lib.hid (HDN.out ff k out HC.out hk)
              have hkz : ¬ (k : Int) ≤ (l.length : Int) := by omega
              go_wp2_with fail
              go_ret2
              exact ⟨_, _, _, _, rfl, HB.out, (fun ps hp => by rw [HD.out] at hp; injection hp with hp; subst hp; exact ⟨rfl, HO.out⟩), fun hp => by rw [HD.out] at hp; cases hp⟩
    · have HP := Lib.hid (parts_bad (l := l) (Or.inr (Or.inl h1)))
      have e1 : ((at0 l 0 : Int) == 47) = false := beq_eq_false_iff_ne.2 (by omega)
      have e3 : ((at0 l 0 : Int) != 47) = true := bne_iff_ne.2 (by omega)
      generalize at0 l 0 = b0 at *
      go_enter Tryd.func22, Tryd.ntmps22
      go_wp2_with fail
      go_ret2
      exact PartsPost.no HP.out (Below.refl _ _)
end Go.Proofs.YtnmlknhomhonaaaDoor.Path
