/- Trees that are held against each other. -/
import Derived.Test.YtplbckibogmicaaGreatDoorTreeCode1
namespace Go.Proofs.YtplbckibogmicaaGreatDoor.Tree
open Go.RowKit Path

set_option maxRecDepth 8000 in
theorem bequal_any (A B : Option Addr) (n m c c' : Nat) (a b : List UInt8) (w : World) (ha : Rd w A n a) (hb : Rd w B m b) :
    Calls Tryz.prog 82 #[.slice A n c, .slice B m c'] w fun e w' => e = .returned (.bool (decide (a = b))) ∧ w' = w := by
  have h1 := run_string_Rd (P := Tryz.prog) 33 9 5 ty_bytes ty_byte ty_string ha c
  have h2 := run_string_Rd (P := Tryz.prog) 33 9 5 ty_bytes ty_byte ty_string hb c'
  have s1 := S_list a
  have s2 := S_list b
  clear ha hb
  by_cases h : a = b
  · subst h
    rw [decide_eq_true rfl]
    go_enter Tryz.func82, Tryz.ntmps82
    go_wp2_with fail
    go_ret
    exact ⟨rfl, rfl⟩
  · have hne : (a == b) = false := by simpa using h
    rw [decide_eq_false h]
    clear h
    go_enter Tryz.func82, Tryz.ntmps82
    go_wp2_with fail
    go_ret
    exact ⟨rfl, rfl⟩

set_option maxRecDepth 8000 in
theorem sameNode_any {P Q : Nat → Prop} (n m : ZN) (d d' : Value) (w : World) (hd : DataS P w d n.data) (hd' : DataS Q w d' m.data) :
    Calls Tryz.prog 55 #[znV n d, znV m d'] w fun e w' => e = .returned (.bool (decide (n = m))) ∧ Below w.heap.size w w' := by
  obtain ⟨A, k, c, rfl, _, _, hr⟩ := hd
  obtain ⟨A', k', c', rfl, _, _, hr'⟩ := hd'
  have B2 := Lib.hid (((Below.refl w.heap.size w).alloc (Nat.le_refl _) (.cells (znC n (.slice A k c)).toArray 39)).alloc (by simp) (.cells (znC m (.slice A' k' c')).toArray 39))
  have HR := Lib.hid (fun W (hW : Below w.heap.size w W) => bequal_any A A' k k' c c' n.data m.data W (hr.below hW) (hr'.below hW))
  clear hr hr'
  have HE : Hid (n = m ↔ n.data = m.data ∧ n.ver = m.ver ∧ n.kin = m.kin ∧ n.next = m.next ∧ n.site = m.site ∧ n.own = m.own ∧ n.made = m.made ∧ n.chg = m.chg ∧ n.tch = m.tch) := by
    show _ ↔ _
    cases n
    cases m
    simp
  generalize hres : decide (n = m) = res
  have HRES := Lib.hid hres
  clear hres
  dsimp only [znV, znC]
  go_enter Tryz.func55, Tryz.ntmps55
  go_wp2_with fail
  have c1 := HR.out _ B2.out
  dsimp only [znC] at c1
  refine c1.mono ?_
  rintro e w' ⟨rfl, rfl⟩
  clear c1
  by_cases h0 : n.data = m.data
  · rw [decide_eq_true h0]
    by_cases h1 : n.ver = m.ver
    · by_cases h2 : n.kin = m.kin
      · by_cases h3 : n.next = m.next
        · by_cases h4 : n.site = m.site
          · by_cases h5 : n.own = m.own
            · by_cases h6 : n.made = m.made
              · by_cases h7 : n.chg = m.chg
                · by_cases h8 : n.tch = m.tch
                  · obtain rfl : res = true := by rw [← HRES.out]; exact decide_eq_true (HE.out.2 ⟨h0, h1, h2, h3, h4, h5, h6, h7, h8⟩)
                    clear HE HRES
                    go_wp2_with fail
                    go_ret
                    exact ⟨rfl, ((Below.refl _ _).alloc (Nat.le_refl _) _).alloc (by simp) _⟩
                  · obtain rfl : res = false := by rw [← HRES.out]; exact decide_eq_false fun e => h8 (HE.out.1 e).2.2.2.2.2.2.2.2
                    have hq : (n.tch == m.tch) = false := by simpa using h8
                    clear HE HRES
                    go_wp2_with fail
                    go_ret
                    exact ⟨rfl, ((Below.refl _ _).alloc (Nat.le_refl _) _).alloc (by simp) _⟩
                · obtain rfl : res = false := by rw [← HRES.out]; exact decide_eq_false fun e => h7 (HE.out.1 e).2.2.2.2.2.2.2.1
                  have hq : (n.chg == m.chg) = false := by simpa using h7
                  clear HE HRES
                  go_wp2_with fail
                  go_ret
                  exact ⟨rfl, ((Below.refl _ _).alloc (Nat.le_refl _) _).alloc (by simp) _⟩
              · obtain rfl : res = false := by rw [← HRES.out]; exact decide_eq_false fun e => h6 (HE.out.1 e).2.2.2.2.2.2.1
                have hq : (n.made == m.made) = false := by simpa using h6
                clear HE HRES
                go_wp2_with fail
                go_ret
                exact ⟨rfl, ((Below.refl _ _).alloc (Nat.le_refl _) _).alloc (by simp) _⟩
            · obtain rfl : res = false := by rw [← HRES.out]; exact decide_eq_false fun e => h5 (HE.out.1 e).2.2.2.2.2.1
              have hq : (n.own == m.own) = false := by simpa using h5
              clear HE HRES
              go_wp2_with fail
              go_ret
              exact ⟨rfl, ((Below.refl _ _).alloc (Nat.le_refl _) _).alloc (by simp) _⟩
          · obtain rfl : res = false := by rw [← HRES.out]; exact decide_eq_false fun e => h4 (HE.out.1 e).2.2.2.2.1
            have hq : (n.site == m.site) = false := by simpa using h4
            clear HE HRES
            go_wp2_with fail
            go_ret
            exact ⟨rfl, ((Below.refl _ _).alloc (Nat.le_refl _) _).alloc (by simp) _⟩
        · obtain rfl : res = false := by rw [← HRES.out]; exact decide_eq_false fun e => h3 (HE.out.1 e).2.2.2.1
          have hq : (n.next == m.next) = false := by simpa using h3
          clear HE HRES
          go_wp2_with fail
          go_ret
          exact ⟨rfl, ((Below.refl _ _).alloc (Nat.le_refl _) _).alloc (by simp) _⟩
      · obtain rfl : res = false := by rw [← HRES.out]; exact decide_eq_false fun e => h2 (HE.out.1 e).2.2.1
        have hq : (n.kin == m.kin) = false := by simpa using h2
        clear HE HRES
        go_wp2_with fail
        go_ret
        exact ⟨rfl, ((Below.refl _ _).alloc (Nat.le_refl _) _).alloc (by simp) _⟩
    · obtain rfl : res = false := by rw [← HRES.out]; exact decide_eq_false fun e => h1 (HE.out.1 e).2.1
      have hq : (n.ver == m.ver) = false := by simpa using h1
      clear HE HRES
      go_wp2_with fail
      go_ret
      exact ⟨rfl, ((Below.refl _ _).alloc (Nat.le_refl _) _).alloc (by simp) _⟩
  · rw [decide_eq_false h0]
    obtain rfl : res = false := by rw [← HRES.out]; exact decide_eq_false fun e => h0 (HE.out.1 e).1
    clear HE HRES
    go_wp2_with fail
    go_ret
    exact ⟨rfl, ((Below.refl _ _).alloc (Nat.le_refl _) _).alloc (by simp) _⟩
end Go.Proofs.YtplbckibogmicaaGreatDoor.Tree
