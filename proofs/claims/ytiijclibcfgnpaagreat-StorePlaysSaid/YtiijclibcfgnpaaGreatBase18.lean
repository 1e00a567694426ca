/- Lemmas, part 18: StoAdopt, StoAppend, StoMake -/
import Derived.Test.YtiijclibcfgnpaaGreatBase17
import Derived.Deep.RegionLaw
namespace Go.Proofs.YtiijclibcfgnpaaGreat.Sto
open Go.RowKit Disk Log

theorem OwnL.caps {base : Nat} {w : World} {A : Option Addr} {n c : Nat} {ls : List Ln} (h : OwnL base w (.slice A n c) ls) : ls.length ≤ c ∧ (A = none → c = 0) := by
  obtain ⟨xs, hown, _⟩ := h
  rcases hown.2 with ⟨e, h0⟩ | ⟨g, cap, cur, e, hg, hh, hnc, _⟩
  · injection e with e1 e2 e3
    exact ⟨by omega, fun _ => e3⟩
  · injection e with e1 e2 e3
    exact ⟨by omega, fun q => by rw [q] at e1; cases e1⟩
theorem out3 (g : Nat) (w : World) (x y z : Value) : Out (· = g) w (((w.setCell ⟨g, 0, none⟩ x).setCell ⟨g, 1, none⟩ y).setCell ⟨g, 2, none⟩ z) :=
  ((Out.setCell (X := (· = g)) w (p := ⟨g, 0, none⟩) rfl x).trans (Out.setCell (X := (· = g)) _ (p := ⟨g, 1, none⟩) rfl y) fun _ h => .inl h).trans (Out.setCell (X := (· = g)) _ (p := ⟨g, 2, none⟩) rfl z) fun _ h => .inl h
set_option maxRecDepth 8000 in
set_option maxHeartbeats 4000000 in
theorem adopt_run (P Q : Nat → Prop) (g b b2 : Nat) (e : Nat) (l : List Ln) (A2 : Option Addr) (c2 : Nat) (k : Kp) (w : World) (hk : KpAt Q w g k) (hb : Bk w b 32 #[.int .u64 (e : Int)]) (hb2 : Bk w b2 33 #[.slice A2 l.length c2]) (hl2 : LnS P w A2 l.length l) (hs : Small l) (hgb : b ≠ g) (hgb2 : b2 ≠ g) :
    Calls Tryz.prog 145 #[.pointer (some ⟨g, 0, none⟩), .pointer (some ⟨b, 0, none⟩), .pointer (some ⟨b2, 0, none⟩)] w (RanPost Q g k (.adopt e l) w) := by
  obtain ⟨A, c, hg, -, -, -⟩ := hk.at_
  have HG := Lib.hid hg
  have HB := Lib.hid hb
  have HB2 := Lib.hid hb2
  have HL2 := Lib.hid hl2
  have HS := Lib.hid hs
  have kb : w.cell? ⟨b, 0, none⟩ = some (.int .u64 (e : Int)) := hb.cell 0
  have kb2 : w.cell? ⟨b2, 0, none⟩ = some (.slice A2 l.length c2) := hb2.cell 0
  have k0 : w.cell? ⟨g, 0, none⟩ = some (.int .u64 (k.promised : Int)) := hg.cell 0
  have k1 : w.cell? ⟨g, 1, none⟩ = some (.int .u64 (k.current : Int)) := hg.cell 1
  have HM : Hid ((Deed.adopt e l).may k = true ↔ k.promised ≤ e ∧ k.current < e ∧ e ≤ 281474976710656 ∧ l.length ≤ 256 ∧ ∀ x ∈ l, lineB x = true ∧ x.epoch ≤ e) := may_adopt
  have HNO : Hid (∀ (_ : ¬ (k.promised ≤ e ∧ k.current < e ∧ e ≤ 281474976710656 ∧ l.length ≤ 256 ∧ ∀ x ∈ l, lineB x = true ∧ x.epoch ≤ e)), (Deed.adopt e l).may k = false) := fun h => by
    rw [Bool.eq_false_iff]
    exact fun h2 => h (HM.out.1 h2)
  have HBD : Hid (Below w.heap.size w w.drew) := (Below.refl _ w).drew
  have HLN : Hid (l.length ≤ 300000) := hs.1
  have hns : ¬ b = g := hgb
  obtain ⟨n2, hn2⟩ : ∃ n2, n2 = l.length := ⟨_, rfl⟩
  have HN2 := Lib.hid hn2
  rw [← hn2] at kb2 HLN HNO HM HB2 HL2
  clear hk hg hb hb2 hl2 hs hn2
  go_enter Tryz.func145, Tryz.ntmps145
  go_wp2_with fail
  by_cases h1 : e < k.promised
  · have h1d : decide ((e : Int) < (k.promised : Int)) = true := decide_eq_true (by omega)
    have HF := Lib.hid (HNO.out fun h => by omega)
    refine ws_tail 18 (by kernel_rfl) (by kernel_rfl) ?_
    simp only [List.take_succ_cons, List.take_zero, List.drop_succ_cons, List.drop_zero]
    refine ws_want (by kernel_rfl) ?_
    apply Exists.intro
    refine And.intro ?_ ?_
    · unfold StillAt
      first
       | (go_simp; done)
       | (go_simp; exact rfl)
    try simp only [Act.put, List.setIfInBounds_toArray, List.set_cons_zero, List.set_cons_succ]
    refine ws_want (by kernel_rfl) ?_
    apply Exists.intro
    refine And.intro ?_ ?_
    · unfold StillAt
      first
       | (go_simp; done)
       | (go_simp; exact rfl)
    try simp only [Act.put, List.setIfInBounds_toArray, List.set_cons_zero, List.set_cons_succ]
    refine ws_want (by kernel_rfl) ?_
    apply Exists.intro
    refine And.intro ?_ ?_
    · unfold StillAt
      first
       | (go_simp; done)
       | (go_simp; exact rfl)
    try simp only [Act.put, List.setIfInBounds_toArray, List.set_cons_zero, List.set_cons_succ]
    refine ws_want (by kernel_rfl) ?_
    apply Exists.intro
    refine And.intro ?_ ?_
    · unfold StillAt
      first
       | (go_simp; done)
       | (go_simp; exact rfl)
    try simp only [Act.put, List.setIfInBounds_toArray, List.set_cons_zero, List.set_cons_succ]
    refine ws_want (by kernel_rfl) ?_
    apply Exists.intro
    refine And.intro ?_ ?_
    · unfold StillAt
      first
       | (go_simp; done)
       | (go_simp; exact rfl)
    try simp only [Act.put, List.setIfInBounds_toArray, List.set_cons_zero, List.set_cons_succ]
    refine ws_want (by kernel_rfl) ?_
    apply Exists.intro
    refine And.intro ?_ ?_
    · unfold StillAt
      first
       | (go_simp; done)
       | (go_simp; exact rfl)
    try simp only [Act.put, List.setIfInBounds_toArray, List.set_cons_zero, List.set_cons_succ]
    refine ws_want (by kernel_rfl) ?_
    apply Exists.intro
    refine And.intro ?_ ?_
    · unfold StillAt
      first
       | (go_simp; done)
       | (go_simp; exact rfl)
    try simp only [Act.put, List.setIfInBounds_toArray, List.set_cons_zero, List.set_cons_succ]
    refine ws_skip (by kernel_rfl) ?_
    try simp only [Act.put, List.setIfInBounds_toArray, List.set_cons_zero, List.set_cons_succ]
    refine ws_skip (by kernel_rfl) ?_
    try simp only [Act.put, List.setIfInBounds_toArray, List.set_cons_zero, List.set_cons_succ]
    refine ws_skip (by kernel_rfl) ?_
    try simp only [Act.put, List.setIfInBounds_toArray, List.set_cons_zero, List.set_cons_succ]
    refine ws_skip (by kernel_rfl) ?_
    try simp only [Act.put, List.setIfInBounds_toArray, List.set_cons_zero, List.set_cons_succ]
    refine ws_skip (by kernel_rfl) ?_
    try simp only [Act.put, List.setIfInBounds_toArray, List.set_cons_zero, List.set_cons_succ]
    refine ws_skip (by kernel_rfl) ?_
    try simp only [Act.put, List.setIfInBounds_toArray, List.set_cons_zero, List.set_cons_succ]
    refine ws_want (by kernel_rfl) ?_
    apply Exists.intro
    refine And.intro ?_ ?_
    · unfold StillAt
      first
       | (go_simp; done)
       | (go_simp; exact rfl)
    try simp only [Act.put, List.setIfInBounds_toArray, List.set_cons_zero, List.set_cons_succ]
    refine ws_want (by kernel_rfl) ?_
    apply Exists.intro
    refine And.intro ?_ ?_
    · unfold StillAt
      first
       | (go_simp; done)
       | (go_simp; exact rfl)
    try simp only [Act.put, List.setIfInBounds_toArray, List.set_cons_zero, List.set_cons_succ]
    refine ws_skip (by kernel_rfl) ?_
    try simp only [Act.put, List.setIfInBounds_toArray, List.set_cons_zero, List.set_cons_succ]
    refine ws_skip (by kernel_rfl) ?_
    try simp only [Act.put, List.setIfInBounds_toArray, List.set_cons_zero, List.set_cons_succ]
    refine ws_want (by kernel_rfl) ?_
    apply Exists.intro
    refine And.intro ?_ ?_
    · unfold StillAt
      first
       | (go_simp; done)
       | (go_simp; exact rfl)
    try simp only [Act.put, List.setIfInBounds_toArray, List.set_cons_zero, List.set_cons_succ]
    refine ws_nil ?_
    change wpList _ _ _ _ _ w.drew
    go_wp2_with (go_at_call 91; (with_reducible refine (throw_yes _ _).mono ?_); rintro e _ ⟨rfl, rfl⟩)
    exact ⟨rfl, .inr ⟨HF.out, rfl, HBD.out⟩⟩
  · have h1d : decide ((e : Int) < (k.promised : Int)) = false := decide_eq_false (by omega)
    by_cases h2 : e ≤ k.current
    · have h2d : decide ((e : Int) ≤ (k.current : Int)) = true := decide_eq_true (by omega)
      have HF := Lib.hid (HNO.out fun h => by omega)
      refine ws_tail 18 (by kernel_rfl) (by kernel_rfl) ?_
      simp only [List.take_succ_cons, List.take_zero, List.drop_succ_cons, List.drop_zero]
      refine ws_want (by kernel_rfl) ?_
      apply Exists.intro
      refine And.intro ?_ ?_
      · unfold StillAt
        first
         | (go_simp; done)
         | (go_simp; exact rfl)
      try simp only [Act.put, List.setIfInBounds_toArray, List.set_cons_zero, List.set_cons_succ]
      refine ws_want (by kernel_rfl) ?_
      apply Exists.intro
      refine And.intro ?_ ?_
      · unfold StillAt
        first
         | (go_simp; done)
         | (go_simp; exact rfl)
      try simp only [Act.put, List.setIfInBounds_toArray, List.set_cons_zero, List.set_cons_succ]
      refine ws_want (by kernel_rfl) ?_
      apply Exists.intro
      refine And.intro ?_ ?_
      · unfold StillAt
        first
         | (go_simp; done)
         | (go_simp; exact rfl)
      try simp only [Act.put, List.setIfInBounds_toArray, List.set_cons_zero, List.set_cons_succ]
      refine ws_want (by kernel_rfl) ?_
      apply Exists.intro
      refine And.intro ?_ ?_
      · unfold StillAt
        first
         | (go_simp; done)
         | (go_simp; exact rfl)
      try simp only [Act.put, List.setIfInBounds_toArray, List.set_cons_zero, List.set_cons_succ]
      refine ws_want (by kernel_rfl) ?_
      apply Exists.intro
      refine And.intro ?_ ?_
      · unfold StillAt
        first
         | (go_simp; done)
         | (go_simp; exact rfl)
      try simp only [Act.put, List.setIfInBounds_toArray, List.set_cons_zero, List.set_cons_succ]
      refine ws_want (by kernel_rfl) ?_
      apply Exists.intro
      refine And.intro ?_ ?_
      · unfold StillAt
        first
         | (go_simp; done)
         | (go_simp; exact rfl)
      try simp only [Act.put, List.setIfInBounds_toArray, List.set_cons_zero, List.set_cons_succ]
      refine ws_want (by kernel_rfl) ?_
      apply Exists.intro
      refine And.intro ?_ ?_
      · unfold StillAt
        first
         | (go_simp; done)
         | (go_simp; exact rfl)
      try simp only [Act.put, List.setIfInBounds_toArray, List.set_cons_zero, List.set_cons_succ]
      refine ws_want (by kernel_rfl) ?_
      apply Exists.intro
      refine And.intro ?_ ?_
      · unfold StillAt
        first
         | (go_simp; done)
         | (go_simp; exact rfl)
      try simp only [Act.put, List.setIfInBounds_toArray, List.set_cons_zero, List.set_cons_succ]
      refine ws_want (by kernel_rfl) ?_
      apply Exists.intro
      refine And.intro ?_ ?_
      · unfold StillAt
        first
         | (go_simp; done)
         | (go_simp; exact rfl)
      try simp only [Act.put, List.setIfInBounds_toArray, List.set_cons_zero, List.set_cons_succ]
      refine ws_want (by kernel_rfl) ?_
      apply Exists.intro
      refine And.intro ?_ ?_
      · unfold StillAt
        first
         | (go_simp; done)
         | (go_simp; exact rfl)
      try simp only [Act.put, List.setIfInBounds_toArray, List.set_cons_zero, List.set_cons_succ]
      refine ws_want (by kernel_rfl) ?_
      apply Exists.intro
      refine And.intro ?_ ?_
      · unfold StillAt
        first
         | (go_simp; done)
         | (go_simp; exact rfl)
      try simp only [Act.put, List.setIfInBounds_toArray, List.set_cons_zero, List.set_cons_succ]
      refine ws_want (by kernel_rfl) ?_
      apply Exists.intro
      refine And.intro ?_ ?_
      · unfold StillAt
        first
         | (go_simp; done)
         | (go_simp; exact rfl)
      try simp only [Act.put, List.setIfInBounds_toArray, List.set_cons_zero, List.set_cons_succ]
      refine ws_want (by kernel_rfl) ?_
      apply Exists.intro
      refine And.intro ?_ ?_
      · unfold StillAt
        first
         | (go_simp; done)
         | (go_simp; exact rfl)
      try simp only [Act.put, List.setIfInBounds_toArray, List.set_cons_zero, List.set_cons_succ]
      refine ws_want (by kernel_rfl) ?_
      apply Exists.intro
      refine And.intro ?_ ?_
      · unfold StillAt
        first
         | (go_simp; done)
         | (go_simp; exact rfl)
      try simp only [Act.put, List.setIfInBounds_toArray, List.set_cons_zero, List.set_cons_succ]
      refine ws_want (by kernel_rfl) ?_
      apply Exists.intro
      refine And.intro ?_ ?_
      · unfold StillAt
        first
         | (go_simp; done)
         | (go_simp; exact rfl)
      try simp only [Act.put, List.setIfInBounds_toArray, List.set_cons_zero, List.set_cons_succ]
      refine ws_skip (by kernel_rfl) ?_
      try simp only [Act.put, List.setIfInBounds_toArray, List.set_cons_zero, List.set_cons_succ]
      refine ws_skip (by kernel_rfl) ?_
      try simp only [Act.put, List.setIfInBounds_toArray, List.set_cons_zero, List.set_cons_succ]
      refine ws_want (by kernel_rfl) ?_
      apply Exists.intro
      refine And.intro ?_ ?_
      · unfold StillAt
        first
         | (go_simp; done)
         | (go_simp; exact rfl)
      try simp only [Act.put, List.setIfInBounds_toArray, List.set_cons_zero, List.set_cons_succ]
      refine ws_nil ?_
      change wpList _ _ _ _ _ w.drew
      go_wp2_with (go_at_call 91; (with_reducible refine (throw_yes _ _).mono ?_); rintro e _ ⟨rfl, rfl⟩)
      exact ⟨rfl, .inr ⟨HF.out, rfl, HBD.out⟩⟩
    · have h2d : decide ((e : Int) ≤ (k.current : Int)) = false := decide_eq_false (by omega)
      by_cases h3 : (281474976710656 : Int) < (e : Int)
      · have h3d : decide ((281474976710656 : Int) < (e : Int)) = true := decide_eq_true h3
        have HF := Lib.hid (HNO.out fun h => by omega)
        clear h3
        refine ws_tail 18 (by kernel_rfl) (by kernel_rfl) ?_
        simp only [List.take_succ_cons, List.take_zero, List.drop_succ_cons, List.drop_zero]
        refine ws_want (by kernel_rfl) ?_
        apply Exists.intro
        refine And.intro ?_ ?_
        · unfold StillAt
          first
           | (go_simp; done)
           | (go_simp; exact rfl)
        try simp only [Act.put, List.setIfInBounds_toArray, List.set_cons_zero, List.set_cons_succ]
        refine ws_want (by kernel_rfl) ?_
        apply Exists.intro
        refine And.intro ?_ ?_
        · unfold StillAt
          first
           | (go_simp; done)
           | (go_simp; exact rfl)
        try simp only [Act.put, List.setIfInBounds_toArray, List.set_cons_zero, List.set_cons_succ]
        refine ws_want (by kernel_rfl) ?_
        apply Exists.intro
        refine And.intro ?_ ?_
        · unfold StillAt
          first
           | (go_simp; done)
           | (go_simp; exact rfl)
        try simp only [Act.put, List.setIfInBounds_toArray, List.set_cons_zero, List.set_cons_succ]
        refine ws_want (by kernel_rfl) ?_
        apply Exists.intro
        refine And.intro ?_ ?_
        · unfold StillAt
          first
           | (go_simp; done)
           | (go_simp; exact rfl)
        try simp only [Act.put, List.setIfInBounds_toArray, List.set_cons_zero, List.set_cons_succ]
        refine ws_want (by kernel_rfl) ?_
        apply Exists.intro
        refine And.intro ?_ ?_
        · unfold StillAt
          first
           | (go_simp; done)
           | (go_simp; exact rfl)
        try simp only [Act.put, List.setIfInBounds_toArray, List.set_cons_zero, List.set_cons_succ]
        refine ws_want (by kernel_rfl) ?_
        apply Exists.intro
        refine And.intro ?_ ?_
        · unfold StillAt
          first
           | (go_simp; done)
           | (go_simp; exact rfl)
        try simp only [Act.put, List.setIfInBounds_toArray, List.set_cons_zero, List.set_cons_succ]
        refine ws_want (by kernel_rfl) ?_
        apply Exists.intro
        refine And.intro ?_ ?_
        · unfold StillAt
          first
           | (go_simp; done)
           | (go_simp; exact rfl)
        try simp only [Act.put, List.setIfInBounds_toArray, List.set_cons_zero, List.set_cons_succ]
        refine ws_want (by kernel_rfl) ?_
        apply Exists.intro
        refine And.intro ?_ ?_
        · unfold StillAt
          first
           | (go_simp; done)
           | (go_simp; exact rfl)
        try simp only [Act.put, List.setIfInBounds_toArray, List.set_cons_zero, List.set_cons_succ]
        refine ws_want (by kernel_rfl) ?_
        apply Exists.intro
        refine And.intro ?_ ?_
        · unfold StillAt
          first
           | (go_simp; done)
           | (go_simp; exact rfl)
        try simp only [Act.put, List.setIfInBounds_toArray, List.set_cons_zero, List.set_cons_succ]
        refine ws_want (by kernel_rfl) ?_
        apply Exists.intro
        refine And.intro ?_ ?_
        · unfold StillAt
          first
           | (go_simp; done)
           | (go_simp; exact rfl)
        try simp only [Act.put, List.setIfInBounds_toArray, List.set_cons_zero, List.set_cons_succ]
        refine ws_want (by kernel_rfl) ?_
        apply Exists.intro
        refine And.intro ?_ ?_
        · unfold StillAt
          first
           | (go_simp; done)
           | (go_simp; exact rfl)
        try simp only [Act.put, List.setIfInBounds_toArray, List.set_cons_zero, List.set_cons_succ]
        refine ws_want (by kernel_rfl) ?_
        apply Exists.intro
        refine And.intro ?_ ?_
        · unfold StillAt
          first
           | (go_simp; done)
           | (go_simp; exact rfl)
        try simp only [Act.put, List.setIfInBounds_toArray, List.set_cons_zero, List.set_cons_succ]
        refine ws_want (by kernel_rfl) ?_
        apply Exists.intro
        refine And.intro ?_ ?_
        · unfold StillAt
          first
           | (go_simp; done)
           | (go_simp; exact rfl)
        try simp only [Act.put, List.setIfInBounds_toArray, List.set_cons_zero, List.set_cons_succ]
        refine ws_want (by kernel_rfl) ?_
        apply Exists.intro
        refine And.intro ?_ ?_
        · unfold StillAt
          first
           | (go_simp; done)
           | (go_simp; exact rfl)
        try simp only [Act.put, List.setIfInBounds_toArray, List.set_cons_zero, List.set_cons_succ]
        refine ws_want (by kernel_rfl) ?_
        apply Exists.intro
        refine And.intro ?_ ?_
        · unfold StillAt
          first
           | (go_simp; done)
           | (go_simp; exact rfl)
        try simp only [Act.put, List.setIfInBounds_toArray, List.set_cons_zero, List.set_cons_succ]
        refine ws_want (by kernel_rfl) ?_
        apply Exists.intro
        refine And.intro ?_ ?_
        · unfold StillAt
          first
           | (go_simp; done)
           | (go_simp; exact rfl)
        try simp only [Act.put, List.setIfInBounds_toArray, List.set_cons_zero, List.set_cons_succ]
        refine ws_want (by kernel_rfl) ?_
        apply Exists.intro
        refine And.intro ?_ ?_
        · unfold StillAt
          first
           | (go_simp; done)
           | (go_simp; exact rfl)
        try simp only [Act.put, List.setIfInBounds_toArray, List.set_cons_zero, List.set_cons_succ]
        refine ws_want (by kernel_rfl) ?_
        apply Exists.intro
        refine And.intro ?_ ?_
        · unfold StillAt
          first
           | (go_simp; done)
           | (go_simp; exact rfl)
        try simp only [Act.put, List.setIfInBounds_toArray, List.set_cons_zero, List.set_cons_succ]
        refine ws_nil ?_
        change wpList _ _ _ _ _ w.drew
        go_wp2_with (go_at_call 91; (with_reducible refine (throw_yes _ _).mono ?_); rintro e _ ⟨rfl, rfl⟩)
        exact ⟨rfl, .inr ⟨HF.out, rfl, HBD.out⟩⟩
      · have h3d : decide ((281474976710656 : Int) < (e : Int)) = false := decide_eq_false h3
        have h3' : (e : Int) ≤ 281474976710656 := by omega
        clear h3
        refine ws_tail 18 (by kernel_rfl) (by kernel_rfl) ?_
        simp only [List.take_succ_cons, List.take_zero, List.drop_succ_cons, List.drop_zero]
        refine ws_want (by kernel_rfl) ?_
        apply Exists.intro
        refine And.intro ?_ ?_
        · unfold StillAt
          first
           | (go_simp; done)
           | (go_simp; exact rfl)
        try simp only [Act.put, List.setIfInBounds_toArray, List.set_cons_zero, List.set_cons_succ]
        refine ws_want (by kernel_rfl) ?_
        apply Exists.intro
        refine And.intro ?_ ?_
        · unfold StillAt
          first
           | (go_simp; done)
           | (go_simp; exact rfl)
        try simp only [Act.put, List.setIfInBounds_toArray, List.set_cons_zero, List.set_cons_succ]
        refine ws_want (by kernel_rfl) ?_
        apply Exists.intro
        refine And.intro ?_ ?_
        · unfold StillAt
          first
           | (go_simp; done)
           | (go_simp; exact rfl)
        try simp only [Act.put, List.setIfInBounds_toArray, List.set_cons_zero, List.set_cons_succ]
        refine ws_want (by kernel_rfl) ?_
        apply Exists.intro
        refine And.intro ?_ ?_
        · unfold StillAt
          first
           | (go_simp; done)
           | (go_simp; exact rfl)
        try simp only [Act.put, List.setIfInBounds_toArray, List.set_cons_zero, List.set_cons_succ]
        refine ws_want (by kernel_rfl) ?_
        apply Exists.intro
        refine And.intro ?_ ?_
        · unfold StillAt
          first
           | (go_simp; done)
           | (go_simp; exact rfl)
        try simp only [Act.put, List.setIfInBounds_toArray, List.set_cons_zero, List.set_cons_succ]
        refine ws_want (by kernel_rfl) ?_
        apply Exists.intro
        refine And.intro ?_ ?_
        · unfold StillAt
          first
           | (go_simp; done)
           | (go_simp; exact rfl)
        try simp only [Act.put, List.setIfInBounds_toArray, List.set_cons_zero, List.set_cons_succ]
        refine ws_want (by kernel_rfl) ?_
        apply Exists.intro
        refine And.intro ?_ ?_
        · unfold StillAt
          first
           | (go_simp; done)
           | (go_simp; exact rfl)
        try simp only [Act.put, List.setIfInBounds_toArray, List.set_cons_zero, List.set_cons_succ]
        refine ws_want (by kernel_rfl) ?_
        apply Exists.intro
        refine And.intro ?_ ?_
        · unfold StillAt
          first
           | (go_simp; done)
           | (go_simp; exact rfl)
        try simp only [Act.put, List.setIfInBounds_toArray, List.set_cons_zero, List.set_cons_succ]
        refine ws_want (by kernel_rfl) ?_
        apply Exists.intro
        refine And.intro ?_ ?_
        · unfold StillAt
          first
           | (go_simp; done)
           | (go_simp; exact rfl)
        try simp only [Act.put, List.setIfInBounds_toArray, List.set_cons_zero, List.set_cons_succ]
        refine ws_want (by kernel_rfl) ?_
        apply Exists.intro
        refine And.intro ?_ ?_
        · unfold StillAt
          first
           | (go_simp; done)
           | (go_simp; exact rfl)
        try simp only [Act.put, List.setIfInBounds_toArray, List.set_cons_zero, List.set_cons_succ]
        refine ws_want (by kernel_rfl) ?_
        apply Exists.intro
        refine And.intro ?_ ?_
        · unfold StillAt
          first
           | (go_simp; done)
           | (go_simp; exact rfl)
        try simp only [Act.put, List.setIfInBounds_toArray, List.set_cons_zero, List.set_cons_succ]
        refine ws_want (by kernel_rfl) ?_
        apply Exists.intro
        refine And.intro ?_ ?_
        · unfold StillAt
          first
           | (go_simp; done)
           | (go_simp; exact rfl)
        try simp only [Act.put, List.setIfInBounds_toArray, List.set_cons_zero, List.set_cons_succ]
        refine ws_want (by kernel_rfl) ?_
        apply Exists.intro
        refine And.intro ?_ ?_
        · unfold StillAt
          first
           | (go_simp; done)
           | (go_simp; exact rfl)
        try simp only [Act.put, List.setIfInBounds_toArray, List.set_cons_zero, List.set_cons_succ]
        refine ws_want (by kernel_rfl) ?_
        apply Exists.intro
        refine And.intro ?_ ?_
        · unfold StillAt
          first
           | (go_simp; done)
           | (go_simp; exact rfl)
        try simp only [Act.put, List.setIfInBounds_toArray, List.set_cons_zero, List.set_cons_succ]
        refine ws_want (by kernel_rfl) ?_
        apply Exists.intro
        refine And.intro ?_ ?_
        · unfold StillAt
          first
           | (go_simp; done)
           | (go_simp; exact rfl)
        try simp only [Act.put, List.setIfInBounds_toArray, List.set_cons_zero, List.set_cons_succ]
        refine ws_want (by kernel_rfl) ?_
        apply Exists.intro
        refine And.intro ?_ ?_
        · unfold StillAt
          first
           | (go_simp; done)
           | (go_simp; exact rfl)
        try simp only [Act.put, List.setIfInBounds_toArray, List.set_cons_zero, List.set_cons_succ]
        refine ws_want (by kernel_rfl) ?_
        apply Exists.intro
        refine And.intro ?_ ?_
        · unfold StillAt
          first
           | (go_simp; done)
           | (go_simp; exact rfl)
        try simp only [Act.put, List.setIfInBounds_toArray, List.set_cons_zero, List.set_cons_succ]
        refine ws_want (by kernel_rfl) ?_
        apply Exists.intro
        refine And.intro ?_ ?_
        · unfold StillAt
          first
           | (go_simp; done)
           | (go_simp; exact rfl)
        try simp only [Act.put, List.setIfInBounds_toArray, List.set_cons_zero, List.set_cons_succ]
        refine ws_nil ?_
        change wpList _ _ _ _ _ w.drew
        have kb3 : w.drew.cell? ⟨b, 0, none⟩ = some (.int .u64 (e : Int)) := kb
        have kb4 : w.drew.cell? ⟨b2, 0, none⟩ = some (.slice A2 n2 c2) := kb2
        by_cases h4 : (256 : Int) < (n2 : Int)
        · have HF := Lib.hid (HNO.out fun h => by omega)
          go_wp2_with (first | (go_at_call 91; (with_reducible refine (throw_no _ _).mono ?_); rintro e _ ⟨rfl, rfl⟩) | (go_at_call 91; (with_reducible refine (throw_yes _ _).mono ?_); rintro e _ ⟨rfl, rfl⟩))
          exact ⟨rfl, .inr ⟨HF.out, rfl, HBD.out⟩⟩
        · have h4b : ((256 : Int) < (n2 : Int)) = False := eq_false h4
          have h4' : (n2 : Int) ≤ 256 := by omega
          clear h4
          have HDM : Hid (Calls Tryz.prog 146 #[.slice A2 n2 c2, .func (.func 147) #[] #[.pointer (some ⟨b, 0, none⟩)]] w.drew (DemPost l (fun x => decide (x.epoch ≤ e)) w.drew)) :=
            demand_any P A2 n2 c2 _ _ l _ w.drew (HL2.out.below HBD.out) (by omega) (HS.out.2) calls_adopt (fun V x _ hV => suits_adopt x.epoch e b V ((HB.out.below HBD.out).below hV))
          go_wp2_with (first | (go_at_call 91; (with_reducible refine (throw_no _ _).mono ?_); rintro e _ ⟨rfl, rfl⟩))
          refine HDM.out.mono ?_
          rintro r w1 ⟨hbel, hr⟩
          have HB1 := Lib.hid (HBD.out.trans hbel)
          clear hbel
          rcases hr with ⟨rfl, hall⟩ | ⟨rfl, x, hx, hbad⟩
          · have HT : Hid ((Deed.adopt e l).may k = true) := HM.out.2 ⟨by omega, by omega, by omega, by omega, fun x hx => ⟨(hall x hx).1, of_decide_eq_true (hall x hx).2⟩⟩
            clear hall
            have HC : Hid (∀ V, Below w.heap.size w V → V.cell? ⟨b, 0, none⟩ = some (.int .u64 (e : Int)) ∧ V.cell? ⟨b2, 0, none⟩ = some (.slice A2 n2 c2)) := fun V hV => ⟨(HB.out.below hV).cell 0, (HB2.out.below hV).cell 0⟩
            obtain ⟨q0, q1⟩ := HC.out w1 HB1.out
            have HB1D : Hid (Below w.heap.size w w1.drew) := HB1.out.drew
            have HSD := Lib.hid (HC.out _ HB1D.out)
            have HCP := Lib.hid (copy_any P A2 n2 c2 l w1.drew (HL2.out.below HB1D.out) (by omega) HS.out.2)
            clear kb kb2 kb3 kb4 k0 k1
            go_wp2_with fail
            go_region_held3 (fun V => V.cell? ⟨b, 0, none⟩ = some (.int .u64 (e : Int)) ∧ V.cell? ⟨b2, 0, none⟩ = some (.slice A2 n2 c2))
              (first | (with_reducible assumption) | (with_reducible exact HSD.out) | (with_reducible exact HS2.out) | (with_reducible exact HST.out _ _ _))
              (first
                | (go_at_call 81; (with_reducible refine HCP.out.mono ?_); rintro e w2 ⟨A3, c3, rfl, hown, hb3⟩; have HO := Lib.hid hown; have HB3 := Lib.hid (HB1D.out.trans (hb3.mono HB1D.out.size)); have HS2 := Lib.hid (HC.out _ HB3.out); have HG2 := Lib.hid (HG.out.below HB3.out); have HST : Hid (∀ x y z, (((w2.setCell ⟨g, 0, none⟩ x).setCell ⟨g, 1, none⟩ y).setCell ⟨g, 2, none⟩ z).cell? ⟨b, 0, none⟩ = some (.int .u64 (e : Int)) ∧ (((w2.setCell ⟨g, 0, none⟩ x).setCell ⟨g, 1, none⟩ y).setCell ⟨g, 2, none⟩ z).cell? ⟨b2, 0, none⟩ = some (.slice A2 n2 c2)) := (fun x y z => ⟨((out3 g w2 x y z).cell (p := ⟨b, 0, none⟩) (HB.out.below HB3.out).lt hgb).trans HS2.out.1, ((out3 g w2 x y z).cell (p := ⟨b2, 0, none⟩) (HB2.out.below HB3.out).lt hgb2).trans HS2.out.2⟩); have hg0 : w2.cell? ⟨g, 0, none⟩ = some (.int .u64 (k.promised : Int)) := HG2.out.cell 0; have hg1 : w2.cell? ⟨g, 1, none⟩ = some (.int .u64 (k.current : Int)) := HG2.out.cell 1; have hg2 : w2.cell? ⟨g, 2, none⟩ = some (.slice A k.lines.length c) := HG2.out.cell 2; have hf0 : w2.frozen? ⟨g, 0, none⟩ = false := HG2.out.frozen 0; have hf1 : w2.frozen? ⟨g, 1, none⟩ = false := HG2.out.frozen 1; have hf2 : w2.frozen? ⟨g, 2, none⟩ = false := HG2.out.frozen 2; clear hown hb3))
            go_end0
            have h3 : Bk (((w2.setCell ⟨g, 0, none⟩ (.int .u64 (e : Int))).setCell ⟨g, 1, none⟩ (.int .u64 (e : Int))).setCell ⟨g, 2, none⟩ (.slice A3 l.length c3)) g 83 #[.int .u64 (e : Int), .int .u64 (e : Int), .slice A3 l.length c3] := by simpa using ((HG2.out.set 0 (.int .u64 (e : Int))).set 1 (.int .u64 (e : Int))).set 2 (.slice A3 l.length c3)
            have ho := out3 g w2 (.int .u64 (e : Int)) (.int .u64 (e : Int)) (.slice A3 l.length c3)
            have hgl := HG.out.lt
            have hw1 : w.heap.size ≤ w1.heap.size := HB1.out.size
            have hl := HO.out.lns.out ho (fun j hj e => by
              have : w1.heap.size ≤ j := hj.1
              omega)
            exact Or.inl ⟨HT.out, rfl, ⟨A3, c3, h3, hl.mono (fun j hj => Or.inr (by have : w1.heap.size ≤ j := hj.1; omega)), HO.out.caps.1, HO.out.caps.2⟩, (Out.of_below (X := (· = g)) HB3.out).trans ho fun _ h => .inl h⟩
          · have HF := Lib.hid (HNO.out fun h => hbad ⟨(h.2.2.2.2 x hx).1, decide_eq_true (h.2.2.2.2 x hx).2⟩)
            clear hbad hx
            unfold thrown
            go_wp2_with fail
            exact ⟨rfl, .inr ⟨HF.out, rfl, HB1.out⟩⟩
end Go.Proofs.YtiijclibcfgnpaaGreat.Sto

namespace Go.Proofs.YtiijclibcfgnpaaGreat.Sto
open Go.RowKit Disk Log

theorem calls_append : ∀ args w, (callFunc 149 args).run Tryz.prog w = .ok (.enter 149 args) w := by intro args w; kernel_rfl
set_option maxRecDepth 8000 in
theorem suits_append (x cur b g : Nat) (w : World) (hb : Bk w b 195 #[.pointer (some ⟨g, 0, none⟩)]) (hg : w.cell? ⟨g, 1, none⟩ = some (.int .u64 (cur : Int))) :
    Calls Tryz.prog 149 #[.int .u64 (x : Int), .pointer (some ⟨b, 0, none⟩)] w fun r w' => r = .returned (.bool (decide (x = cur))) ∧ Below w.heap.size w w' := by
  have kb : w.cell? ⟨b, 0, none⟩ = some (.pointer (some ⟨g, 0, none⟩)) := hb.cell 0
  have hd : ((x : Int) == (cur : Int)) = decide (x = cur) := by
    rw [Bool.eq_iff_iff]
    simp only [beq_iff_eq, decide_eq_true_eq]
    omega
  have HD := Lib.hid hd
  clear hb hd
  go_enter Tryz.func149, Tryz.ntmps149
  go_wp2_with fail
  go_ret
  refine ⟨?_, Below.refl _ _⟩
  rw [← HD.out]
  rfl
set_option maxRecDepth 8000 in
set_option maxHeartbeats 4000000 in
theorem append_run (P Q : Nat → Prop) (g b2 : Nat) (l : List Ln) (A2 : Option Addr) (c2 : Nat) (k : Kp) (w : World) (hk : KpAt Q w g k) (hkm : k.lines.length ≤ 256) (hb2 : Bk w b2 33 #[.slice A2 l.length c2]) (hl2 : LnS P w A2 l.length l) (hs : Small l) (hgq : ¬ Q g) :
    Calls Tryz.prog 148 #[.pointer (some ⟨g, 0, none⟩), .pointer (some ⟨b2, 0, none⟩)] w (RanPost Q g k (.add l) w) := by
  obtain ⟨A, c, hg, hlk, hlc, hnil⟩ := hk.at_
  have HGl : Hid (g < w.heap.size) := hg.lt
  have hbw : Below w.heap.size w (w.alloc (.cells #[.pointer (some ⟨g, 0, none⟩)] 195)) := (Below.refl _ _).alloc (Nat.le_refl _) _
  have hbk : Bk (w.alloc (.cells #[.pointer (some ⟨g, 0, none⟩)] 195)) w.heap.size 195 #[.pointer (some ⟨g, 0, none⟩)] := Bk.new w _ _
  obtain ⟨W, hW⟩ : ∃ W, W = w.alloc (.cells #[.pointer (some ⟨g, 0, none⟩)] 195) := ⟨_, rfl⟩
  have HWE := Lib.hid hW
  rw [← hW] at hbw hbk
  have HW := Lib.hid hbw
  have HBX := Lib.hid hbk
  have HG := Lib.hid (hg.below hbw)
  have HB2 := Lib.hid (hb2.below hbw)
  have HL2 := Lib.hid (hl2.below hbw)
  have HLK := Lib.hid (hlk.below hbw)
  have HNIL := Lib.hid hnil
  have HS := Lib.hid hs
  have HM : Hid ((Deed.add l).may k = true ↔ 0 < l.length ∧ l.length + k.lines.length ≤ 256 ∧ ∀ x ∈ l, lineB x = true ∧ x.epoch = k.current) := may_add
  have HNO : Hid (∀ (_ : ¬ (0 < l.length ∧ l.length + k.lines.length ≤ 256 ∧ ∀ x ∈ l, lineB x = true ∧ x.epoch = k.current)), (Deed.add l).may k = false) := fun h => by
    rw [Bool.eq_false_iff]
    exact fun h2 => h (HM.out.1 h2)
  have HLN : Hid (l.length ≤ 300000) := hs.1
  have HKM : Hid (k.lines.length ≤ 256) := hkm
  obtain ⟨n2, hn2⟩ : ∃ n2, n2 = l.length := ⟨_, rfl⟩
  obtain ⟨n1, hn1⟩ : ∃ n1, n1 = k.lines.length := ⟨_, rfl⟩
  have HN2 := Lib.hid hn2
  have HN1 := Lib.hid hn1
  rw [← hn2] at HLN HNO HM HB2 HL2
  rw [← hn1] at HNO HM HG HLK HKM
  have HBD : Hid (Below w.heap.size w W.drew) := HW.out.drew
  have HC : Hid (∀ V, Below W.heap.size W V → V.cell? ⟨w.heap.size, 0, none⟩ = some (.pointer (some ⟨g, 0, none⟩)) ∧ V.cell? ⟨b2, 0, none⟩ = some (.slice A2 n2 c2) ∧ V.cell? ⟨g, 1, none⟩ = some (.int .u64 (k.current : Int)) ∧ V.cell? ⟨g, 2, none⟩ = some (.slice A n1 c)) := fun V hV => ⟨(HBX.out.below hV).cell 0, (HB2.out.below hV).cell 0, (HG.out.below hV).cell 1, (HG.out.below hV).cell 2⟩
  have HWD : Hid (Below W.heap.size W W.drew) := (Below.refl _ W).drew
  obtain ⟨k0, k1, k2, k3⟩ := HC.out W (Below.refl _ _)
  clear hk hg hb2 hl2 hs hn2 hn1 hbw hbk hlk hlc hnil hkm hW
  go_enter Tryz.func148, Tryz.ntmps148
  go_wp2_with fail
  rw [← HWE.out]
  by_cases h1 : n2 = 0
  · have h1d : ((n2 : Int) == 0) = true := by simpa using (by omega : (n2 : Int) = 0)
    have HF := Lib.hid (HNO.out fun h => by omega)
    clear h1
    refine ws_tail 14 (by kernel_rfl) (by kernel_rfl) ?_
    simp only [List.take_succ_cons, List.take_zero, List.drop_succ_cons, List.drop_zero]
    refine ws_want (by kernel_rfl) ?_
    apply Exists.intro
    refine And.intro ?_ ?_
    · unfold StillAt
      first
       | (go_simp; done)
       | (go_simp; exact rfl)
    try simp only [Act.put, List.setIfInBounds_toArray, List.set_cons_zero, List.set_cons_succ]
    refine ws_want (by kernel_rfl) ?_
    apply Exists.intro
    refine And.intro ?_ ?_
    · unfold StillAt
      first
       | (go_simp; done)
       | (go_simp; exact rfl)
    try simp only [Act.put, List.setIfInBounds_toArray, List.set_cons_zero, List.set_cons_succ]
    refine ws_want (by kernel_rfl) ?_
    apply Exists.intro
    refine And.intro ?_ ?_
    · unfold StillAt
      first
       | (go_simp; done)
       | (go_simp; exact rfl)
    try simp only [Act.put, List.setIfInBounds_toArray, List.set_cons_zero, List.set_cons_succ]
    refine ws_want (by kernel_rfl) ?_
    apply Exists.intro
    refine And.intro ?_ ?_
    · unfold StillAt
      first
       | (go_simp; done)
       | (go_simp; exact rfl)
    try simp only [Act.put, List.setIfInBounds_toArray, List.set_cons_zero, List.set_cons_succ]
    refine ws_skip (by kernel_rfl) ?_
    try simp only [Act.put, List.setIfInBounds_toArray, List.set_cons_zero, List.set_cons_succ]
    refine ws_skip (by kernel_rfl) ?_
    try simp only [Act.put, List.setIfInBounds_toArray, List.set_cons_zero, List.set_cons_succ]
    refine ws_skip (by kernel_rfl) ?_
    try simp only [Act.put, List.setIfInBounds_toArray, List.set_cons_zero, List.set_cons_succ]
    refine ws_skip (by kernel_rfl) ?_
    try simp only [Act.put, List.setIfInBounds_toArray, List.set_cons_zero, List.set_cons_succ]
    refine ws_skip (by kernel_rfl) ?_
    try simp only [Act.put, List.setIfInBounds_toArray, List.set_cons_zero, List.set_cons_succ]
    refine ws_skip (by kernel_rfl) ?_
    try simp only [Act.put, List.setIfInBounds_toArray, List.set_cons_zero, List.set_cons_succ]
    refine ws_skip (by kernel_rfl) ?_
    try simp only [Act.put, List.setIfInBounds_toArray, List.set_cons_zero, List.set_cons_succ]
    refine ws_skip (by kernel_rfl) ?_
    try simp only [Act.put, List.setIfInBounds_toArray, List.set_cons_zero, List.set_cons_succ]
    refine ws_skip (by kernel_rfl) ?_
    try simp only [Act.put, List.setIfInBounds_toArray, List.set_cons_zero, List.set_cons_succ]
    refine ws_want (by kernel_rfl) ?_
    apply Exists.intro
    refine And.intro ?_ ?_
    · unfold StillAt
      first
       | (go_simp; done)
       | (go_simp; exact rfl)
    try simp only [Act.put, List.setIfInBounds_toArray, List.set_cons_zero, List.set_cons_succ]
    refine ws_nil ?_
    change wpList _ _ _ _ _ W.drew
    go_wp2_with (go_at_call 91; (with_reducible refine (throw_yes _ _).mono ?_); rintro e _ ⟨rfl, rfl⟩)
    exact ⟨rfl, .inr ⟨HF.out, rfl, HBD.out⟩⟩
  · have h1d : ((n2 : Int) == 0) = false := by simpa using (by omega : ¬ (n2 : Int) = 0)
    have hsub : IntKind.i64.wrap (256 - (n1 : Int)) = 256 - (n1 : Int) := IntWalk.i64_in _ (by have := HKM.out; omega)
    have hsub2 : wrap64 (256 - (n1 : Int)) = 256 - (n1 : Int) := IntWalk.wrap64_in _ (by have := HKM.out; omega)
    by_cases h2 : 256 - (n1 : Int) < (n2 : Int)
    · have h2d : decide (256 - (n1 : Int) < (n2 : Int)) = true := decide_eq_true h2
      have HF := Lib.hid (HNO.out fun h => by omega)
      clear h2
      refine ws_tail 14 (by kernel_rfl) (by kernel_rfl) ?_
      simp only [List.take_succ_cons, List.take_zero, List.drop_succ_cons, List.drop_zero]
      refine ws_want (by kernel_rfl) ?_
      apply Exists.intro
      refine And.intro ?_ ?_
      · unfold StillAt
        first
         | (go_simp; done)
         | (go_simp; exact rfl)
      try simp only [Act.put, List.setIfInBounds_toArray, List.set_cons_zero, List.set_cons_succ]
      refine ws_want (by kernel_rfl) ?_
      apply Exists.intro
      refine And.intro ?_ ?_
      · unfold StillAt
        first
         | (go_simp; done)
         | (go_simp; exact rfl)
      try simp only [Act.put, List.setIfInBounds_toArray, List.set_cons_zero, List.set_cons_succ]
      refine ws_want (by kernel_rfl) ?_
      apply Exists.intro
      refine And.intro ?_ ?_
      · unfold StillAt
        first
         | (go_simp; done)
         | (go_simp; exact rfl)
      try simp only [Act.put, List.setIfInBounds_toArray, List.set_cons_zero, List.set_cons_succ]
      refine ws_want (by kernel_rfl) ?_
      apply Exists.intro
      refine And.intro ?_ ?_
      · unfold StillAt
        first
         | (go_simp; done)
         | (go_simp; exact rfl)
      try simp only [Act.put, List.setIfInBounds_toArray, List.set_cons_zero, List.set_cons_succ]
      refine ws_want (by kernel_rfl) ?_
      apply Exists.intro
      refine And.intro ?_ ?_
      · unfold StillAt
        first
         | (go_simp; done)
         | (go_simp; exact rfl)
      try simp only [Act.put, List.setIfInBounds_toArray, List.set_cons_zero, List.set_cons_succ]
      refine ws_want (by kernel_rfl) ?_
      apply Exists.intro
      refine And.intro ?_ ?_
      · unfold StillAt
        first
         | (go_simp; done)
         | (go_simp; exact rfl)
      try simp only [Act.put, List.setIfInBounds_toArray, List.set_cons_zero, List.set_cons_succ]
      refine ws_want (by kernel_rfl) ?_
      apply Exists.intro
      refine And.intro ?_ ?_
      · unfold StillAt
        first
         | (go_simp; done)
         | (go_simp; exact rfl)
      try simp only [Act.put, List.setIfInBounds_toArray, List.set_cons_zero, List.set_cons_succ]
      refine ws_want (by kernel_rfl) ?_
      apply Exists.intro
      refine And.intro ?_ ?_
      · unfold StillAt
        first
         | (go_simp; done)
         | (go_simp; exact rfl)
      try simp only [Act.put, List.setIfInBounds_toArray, List.set_cons_zero, List.set_cons_succ]
      refine ws_want (by kernel_rfl) ?_
      apply Exists.intro
      refine And.intro ?_ ?_
      · unfold StillAt
        first
         | (go_simp; done)
         | (go_simp; exact rfl)
      try simp only [Act.put, List.setIfInBounds_toArray, List.set_cons_zero, List.set_cons_succ]
      refine ws_want (by kernel_rfl) ?_
      apply Exists.intro
      refine And.intro ?_ ?_
      · unfold StillAt
        first
         | (go_simp; done)
         | (go_simp; exact rfl)
      try simp only [Act.put, List.setIfInBounds_toArray, List.set_cons_zero, List.set_cons_succ]
      refine ws_want (by kernel_rfl) ?_
      apply Exists.intro
      refine And.intro ?_ ?_
      · unfold StillAt
        first
         | (go_simp; done)
         | (go_simp; exact rfl)
      try simp only [Act.put, List.setIfInBounds_toArray, List.set_cons_zero, List.set_cons_succ]
      refine ws_want (by kernel_rfl) ?_
      apply Exists.intro
      refine And.intro ?_ ?_
      · unfold StillAt
        first
         | (go_simp; done)
         | (go_simp; exact rfl)
      try simp only [Act.put, List.setIfInBounds_toArray, List.set_cons_zero, List.set_cons_succ]
      refine ws_want (by kernel_rfl) ?_
      apply Exists.intro
      refine And.intro ?_ ?_
      · unfold StillAt
        first
         | (go_simp; done)
         | (go_simp; exact rfl)
      try simp only [Act.put, List.setIfInBounds_toArray, List.set_cons_zero, List.set_cons_succ]
      refine ws_want (by kernel_rfl) ?_
      apply Exists.intro
      refine And.intro ?_ ?_
      · unfold StillAt
        first
         | (go_simp; done)
         | (go_simp; exact rfl)
      try simp only [Act.put, List.setIfInBounds_toArray, List.set_cons_zero, List.set_cons_succ]
      refine ws_nil ?_
      change wpList _ _ _ _ _ W.drew
      go_wp2_with (go_at_call 91; (with_reducible refine (throw_yes _ _).mono ?_); rintro e _ ⟨rfl, rfl⟩)
      exact ⟨rfl, .inr ⟨HF.out, rfl, HBD.out⟩⟩
    · have h2d : decide (256 - (n1 : Int) < (n2 : Int)) = false := decide_eq_false h2
      have h2' : (n2 : Int) ≤ 256 - (n1 : Int) := by omega
      clear h2
      refine ws_tail 14 (by kernel_rfl) (by kernel_rfl) ?_
      simp only [List.take_succ_cons, List.take_zero, List.drop_succ_cons, List.drop_zero]
      refine ws_want (by kernel_rfl) ?_
      apply Exists.intro
      refine And.intro ?_ ?_
      · unfold StillAt
        first
         | (go_simp; done)
         | (go_simp; exact rfl)
      try simp only [Act.put, List.setIfInBounds_toArray, List.set_cons_zero, List.set_cons_succ]
      refine ws_want (by kernel_rfl) ?_
      apply Exists.intro
      refine And.intro ?_ ?_
      · unfold StillAt
        first
         | (go_simp; done)
         | (go_simp; exact rfl)
      try simp only [Act.put, List.setIfInBounds_toArray, List.set_cons_zero, List.set_cons_succ]
      refine ws_want (by kernel_rfl) ?_
      apply Exists.intro
      refine And.intro ?_ ?_
      · unfold StillAt
        first
         | (go_simp; done)
         | (go_simp; exact rfl)
      try simp only [Act.put, List.setIfInBounds_toArray, List.set_cons_zero, List.set_cons_succ]
      refine ws_want (by kernel_rfl) ?_
      apply Exists.intro
      refine And.intro ?_ ?_
      · unfold StillAt
        first
         | (go_simp; done)
         | (go_simp; exact rfl)
      try simp only [Act.put, List.setIfInBounds_toArray, List.set_cons_zero, List.set_cons_succ]
      refine ws_want (by kernel_rfl) ?_
      apply Exists.intro
      refine And.intro ?_ ?_
      · unfold StillAt
        first
         | (go_simp; done)
         | (go_simp; exact rfl)
      try simp only [Act.put, List.setIfInBounds_toArray, List.set_cons_zero, List.set_cons_succ]
      refine ws_want (by kernel_rfl) ?_
      apply Exists.intro
      refine And.intro ?_ ?_
      · unfold StillAt
        first
         | (go_simp; done)
         | (go_simp; exact rfl)
      try simp only [Act.put, List.setIfInBounds_toArray, List.set_cons_zero, List.set_cons_succ]
      refine ws_want (by kernel_rfl) ?_
      apply Exists.intro
      refine And.intro ?_ ?_
      · unfold StillAt
        first
         | (go_simp; done)
         | (go_simp; exact rfl)
      try simp only [Act.put, List.setIfInBounds_toArray, List.set_cons_zero, List.set_cons_succ]
      refine ws_want (by kernel_rfl) ?_
      apply Exists.intro
      refine And.intro ?_ ?_
      · unfold StillAt
        first
         | (go_simp; done)
         | (go_simp; exact rfl)
      try simp only [Act.put, List.setIfInBounds_toArray, List.set_cons_zero, List.set_cons_succ]
      refine ws_want (by kernel_rfl) ?_
      apply Exists.intro
      refine And.intro ?_ ?_
      · unfold StillAt
        first
         | (go_simp; done)
         | (go_simp; exact rfl)
      try simp only [Act.put, List.setIfInBounds_toArray, List.set_cons_zero, List.set_cons_succ]
      refine ws_want (by kernel_rfl) ?_
      apply Exists.intro
      refine And.intro ?_ ?_
      · unfold StillAt
        first
         | (go_simp; done)
         | (go_simp; exact rfl)
      try simp only [Act.put, List.setIfInBounds_toArray, List.set_cons_zero, List.set_cons_succ]
      refine ws_want (by kernel_rfl) ?_
      apply Exists.intro
      refine And.intro ?_ ?_
      · unfold StillAt
        first
         | (go_simp; done)
         | (go_simp; exact rfl)
      try simp only [Act.put, List.setIfInBounds_toArray, List.set_cons_zero, List.set_cons_succ]
      refine ws_want (by kernel_rfl) ?_
      apply Exists.intro
      refine And.intro ?_ ?_
      · unfold StillAt
        first
         | (go_simp; done)
         | (go_simp; exact rfl)
      try simp only [Act.put, List.setIfInBounds_toArray, List.set_cons_zero, List.set_cons_succ]
      refine ws_want (by kernel_rfl) ?_
      apply Exists.intro
      refine And.intro ?_ ?_
      · unfold StillAt
        first
         | (go_simp; done)
         | (go_simp; exact rfl)
      try simp only [Act.put, List.setIfInBounds_toArray, List.set_cons_zero, List.set_cons_succ]
      refine ws_want (by kernel_rfl) ?_
      apply Exists.intro
      refine And.intro ?_ ?_
      · unfold StillAt
        first
         | (go_simp; done)
         | (go_simp; exact rfl)
      try simp only [Act.put, List.setIfInBounds_toArray, List.set_cons_zero, List.set_cons_succ]
      refine ws_nil ?_
      change wpList _ _ _ _ _ W.drew
      have HDM : Hid (Calls Tryz.prog 146 #[.slice A2 n2 c2, .func (.func 149) #[] #[.pointer (some ⟨w.heap.size, 0, none⟩)]] W.drew (DemPost l (fun x => decide (x.epoch = k.current)) W.drew)) :=
        demand_any P A2 n2 c2 _ _ l _ W.drew (HL2.out.below HWD.out) (by have := HLN.out; omega) (HS.out.2) calls_append (fun V x _ hV => suits_append x.epoch k.current w.heap.size g V ((HBX.out.below HWD.out).below hV) ((HG.out.below HWD.out).below hV |>.cell 1))
      obtain ⟨q0, q1, q2, q3⟩ := HC.out _ HWD.out
      clear hsub hsub2
      go_wp2_with (first | (go_at_call 91; (with_reducible refine (throw_no _ _).mono ?_); rintro e _ ⟨rfl, rfl⟩))
      refine HDM.out.mono ?_
      rintro r w1 ⟨hbel, hr⟩
      have HB1 := Lib.hid (HWD.out.trans hbel)
      clear hbel
      rcases hr with ⟨rfl, hall⟩ | ⟨hr, x, hx, hbad⟩
      · have HT : Hid ((Deed.add l).may k = true) := HM.out.2 ⟨by omega, by omega, fun x hx => ⟨(hall x hx).1, of_decide_eq_true (hall x hx).2⟩⟩
        clear hall
        obtain ⟨r0, r1, -, r3⟩ := HC.out w1 HB1.out
        have HB1D : Hid (Below W.heap.size W w1.drew) := HB1.out.drew
        obtain ⟨s0, s1, -, s3⟩ := HC.out _ HB1D.out
        have HCP := Lib.hid (copy_any P A2 n2 c2 l w1.drew (HL2.out.below HB1D.out) (by have := HLN.out; omega) HS.out.2)
        clear k0 k1 k2 k3 q0 q1 q2 q3
        go_wp2_with fail
        have HCC : Hid (∀ (w2 : World) (A3 : Option Addr) (c3 : Nat), Below W.heap.size W w2 → OwnL w1.drew.heap.size w2 (.slice A3 l.length c3) l → Calls Tryz.prog 150 #[.slice (some ⟨w2.heap.size, 0, none⟩) 2 2] (w2.alloc (.cells #[.slice A n1 c, .slice A3 l.length c3] 33)) (ConcatPost Q (fun j => w.heap.size ≤ j) k.lines l (w2.alloc (.cells #[.slice A n1 c, .slice A3 l.length c3] 33)))) := fun w2 A3 c3 hb ho => by
          have hal : Below w2.heap.size w2 (w2.alloc (.cells #[.slice A n1 c, .slice A3 l.length c3] 33)) := (Below.refl _ _).alloc (Nat.le_refl _) _
          have hbk : Bk (w2.alloc (.cells #[.slice A n1 c, .slice A3 l.length c3] 33)) w2.heap.size 33 #[.slice A n1 c, .slice A3 l.length c3] := Bk.new w2 _ _
          have h1 := ((HLK.out.below hb).below hal)
          rw [HN1.out] at h1 hbk hal ⊢
          have hww : w.heap.size ≤ w1.heap.size := Nat.le_trans HW.out.size HB1.out.size
          exact concat_any Q (fun j => w.heap.size ≤ j) A A3 c c3 w2.heap.size k.lines l _ hbk h1 ((ho.lns.mono fun j hj => Nat.le_trans hww hj.1).below hal) HNIL.out ho.caps.2 (by have := HKM.out; have := HN1.out; omega) (by have := HLN.out; have := HN2.out; omega) (by have := HN2.out; omega)
        go_region_law (first
          | (go_simp; go_at_call 81; (with_reducible refine HCP.out.mono ?_); rintro e w2 ⟨A3, c3, rfl, hown, hb3⟩; have HO := Lib.hid hown; have HB3 := Lib.hid (HB1D.out.trans (hb3.mono HB1D.out.size)); obtain ⟨t0, t1, -, t3⟩ := HC.out _ HB3.out; have ta : ∀ ob : Obj, (w2.alloc ob).cell? ⟨w.heap.size, 0, none⟩ = some (.pointer (some ⟨g, 0, none⟩)) := (fun ob => (HC.out _ (HB3.out.alloc HB3.out.size ob)).1); clear hown hb3)
          | (go_simp; go_at_call 150; (with_reducible refine (HCC.out _ _ _ HB3.out HO.out).mono ?_); rintro e w4 ⟨A4, c4, rfl, hlen, hne, hls, hb4⟩; have HLEN := Lib.hid hlen; have HNE := Lib.hid hne; have HLS := Lib.hid hls; have HB4 := Lib.hid (HB3.out.trans (((Below.refl w2.heap.size w2).alloc (Nat.le_refl _) (.cells #[.slice A n1 c, .slice A3 l.length c3] 33)).trans (hb4.mono (by simp)) |>.mono HB3.out.size)); have HG4 := Lib.hid (HG.out.below HB4.out); obtain ⟨u0, -, -, -⟩ := HC.out _ HB4.out; have u3 : w4.cell? ⟨g, 2, none⟩ = some (.slice A n1 c) := HG4.out.cell 2; have uf : w4.frozen? ⟨g, 2, none⟩ = false := HG4.out.frozen 2; clear hlen hne hls hb4))
        all_goals
          have HWW : Hid (w.heap.size ≤ w2.heap.size) := Nat.le_trans HW.out.size HB3.out.size
          have h3 : Bk (w4.setCell ⟨g, 2, none⟩ (.slice A4 (k.lines.length + l.length) c4)) g 83 #[.int .u64 (k.promised : Int), .int .u64 (k.current : Int), .slice A4 (k.lines ++ l).length c4] := by
            rw [List.length_append]
            simpa using HG4.out.set 2 (.slice A4 (k.lines.length + l.length) c4)
          have ho : Out (· = g) w4 (w4.setCell ⟨g, 2, none⟩ (.slice A4 (k.lines.length + l.length) c4)) := Out.setCell (X := (· = g)) w4 (p := ⟨g, 2, none⟩) rfl _
          have hl := HLS.out.out ho (fun j hj e => by
            have hj : (Q j ∨ w.heap.size ≤ j) ∨ w2.heap.size + 1 ≤ j := by simpa using hj
            have := HGl.out
            have := HWW.out
            rcases hj with (q | q) | q
            · exact hgq (e ▸ q)
            · omega
            · omega)
          have hfin : RanPost Q g k (.add l) w (.returned (.tuple #[])) (w4.setCell ⟨g, 2, none⟩ (.slice A4 (k.lines.length + l.length) c4)) :=
            Or.inl ⟨HT.out, rfl, ⟨A4, c4, h3, hl.mono (fun j hj => by
              have hj : (Q j ∨ w.heap.size ≤ j) ∨ w2.heap.size + 1 ≤ j := by simpa using hj
              have := HWW.out
              rcases hj with (q | q) | q
              · exact Or.inl q
              · exact Or.inr q
              · exact Or.inr (by omega)), HLEN.out, fun h => absurd h HNE.out⟩, (Out.of_below (X := (· = g)) (HW.out.trans (HB4.out.mono HW.out.size))).trans ho fun _ h => .inl h⟩
          have HFIN := Lib.hid hfin
          clear hfin h3 ho hl
          go_end0
          exact HFIN.out
      · have HF := Lib.hid (HNO.out fun h => hbad ⟨(h.2.2 x hx).1, decide_eq_true (h.2.2 x hx).2⟩)
        clear hbad hx
        have hr' : r = .panicked [{ v := .iface 25 (.int .i64 1), recovered := false }] := hr
        subst hr'
        clear hr
        go_wp2_with fail
        exact ⟨rfl, .inr ⟨HF.out, rfl, HW.out.trans (HB1.out.mono HW.out.size)⟩⟩
end Go.Proofs.YtiijclibcfgnpaaGreat.Sto

namespace Go.Proofs.YtiijclibcfgnpaaGreat.Sto
open Go.RowKit Disk Log

def DeedV (P : Nat → Prop) (w : World) (v : Value) : Rec → Prop
  | .deed (.prom e) => ∃ b, v = .func (.func 137) #[] #[.pointer (some ⟨b, 0, none⟩)] ∧ Bk w b 32 #[.int .u64 (e : Int)] ∧ P b
  | .deed (.adopt e l) => ∃ b b2 A c, v = .func (.func 145) #[] #[.pointer (some ⟨b, 0, none⟩), .pointer (some ⟨b2, 0, none⟩)] ∧ Bk w b 32 #[.int .u64 (e : Int)] ∧ Bk w b2 33 #[.slice A l.length c] ∧ LnS P w A l.length l ∧ P b ∧ P b2
  | .deed (.add l) => ∃ b2 A c, v = .func (.func 148) #[] #[.pointer (some ⟨b2, 0, none⟩)] ∧ Bk w b2 33 #[.slice A l.length c] ∧ LnS P w A l.length l ∧ P b2
  | .whole a => ∃ b A c, v = .func (.func 254) #[] #[.pointer (some ⟨b, 0, none⟩)] ∧ Bk w b 83 #[.int .u64 (a.promised : Int), .int .u64 (a.current : Int), .slice A a.lines.length c] ∧ LnS P w A a.lines.length a.lines ∧ P b
theorem bk_out' {w w' : World} {g : Nat} {t : TypeId} {cs : Array Value} {X : Nat → Prop} (h : Bk w g t cs) (ho : Out X w w') (hx : ¬ X g) : Bk w' g t cs := h.kept (ho.block g h.lt hx)
theorem DeedV.out {P X : Nat → Prop} {w w' : World} {v : Value} {r : Rec} (h : DeedV P w v r) (ho : Out X w w') (hx : ∀ k, P k → ¬ X k) : DeedV P w' v r := by
  match r, h with
  | .deed (.prom e), ⟨b, h1, h2, h3⟩ => exact ⟨b, h1, bk_out' h2 ho (hx _ h3), h3⟩
  | .deed (.adopt e l), ⟨b, b2, A, c, h1, h2, h3, h4, h5, h6⟩ => exact ⟨b, b2, A, c, h1, bk_out' h2 ho (hx _ h5), bk_out' h3 ho (hx _ h6), h4.out ho hx, h5, h6⟩
  | .deed (.add l), ⟨b2, A, c, h1, h3, h4, h6⟩ => exact ⟨b2, A, c, h1, bk_out' h3 ho (hx _ h6), h4.out ho hx, h6⟩
  | .whole a, ⟨b, A, c, h1, h3, h4, h6⟩ => exact ⟨b, A, c, h1, bk_out' h3 ho (hx _ h6), h4.out ho hx, h6⟩
theorem DeedV.below {P : Nat → Prop} {w w' : World} {v : Value} {r : Rec} (h : DeedV P w v r) (hb : Below w.heap.size w w') : DeedV P w' v r :=
  h.out (X := fun _ => False) (Out.of_below hb) fun _ _ q => q
theorem DeedV.mono {P Q : Nat → Prop} {w : World} {v : Value} {r : Rec} (h : DeedV P w v r) (hq : ∀ k, P k → Q k) : DeedV Q w v r := by
  match r, h with
  | .deed (.prom e), ⟨b, h1, h2, h3⟩ => exact ⟨b, h1, h2, hq _ h3⟩
  | .deed (.adopt e l), ⟨b, b2, A, c, h1, h2, h3, h4, h5, h6⟩ => exact ⟨b, b2, A, c, h1, h2, h3, h4.mono hq, hq _ h5, hq _ h6⟩
  | .deed (.add l), ⟨b2, A, c, h1, h3, h4, h6⟩ => exact ⟨b2, A, c, h1, h3, h4.mono hq, hq _ h6⟩
  | .whole a, ⟨b, A, c, h1, h3, h4, h6⟩ => exact ⟨b, A, c, h1, h3, h4.mono hq, hq _ h6⟩
def MakePost (P : Nat → Prop) (r : Rec) (w : World) (e : Ending) (w' : World) : Prop :=
  ∃ v, e = .returned v ∧ DeedV (fun b => P b ∨ w.heap.size ≤ b) w' v r ∧ Below w.heap.size w w'
set_option maxRecDepth 8000 in
theorem prom_make (P : Nat → Prop) (e : Nat) (w : World) : Calls Tryz.prog 84 #[.int .u64 (e : Int)] w (MakePost P (.deed (.prom e)) w) := by
  have HF : Hid (MakePost P (.deed (.prom e)) w (.returned (.func (.func 137) #[] #[.pointer (some ⟨w.heap.size, 0, none⟩)])) (w.alloc (.cells #[.int .u64 (e : Int)] 32))) :=
    ⟨_, rfl, ⟨w.heap.size, rfl, Bk.new w _ _, .inr (Nat.le_refl _)⟩, (Below.refl _ _).alloc (Nat.le_refl _) _⟩
  have hmf : ∀ (fn : Fn) (first cap : Array Value) (w : World), (Instr.makeFunc fn first cap).run Tryz.prog w = .ok (.func fn first cap) w := fun _ _ _ _ => rfl
  go_enter Tryz.func84, Tryz.ntmps84
  go_wp2_with fail
  go_ret
  exact HF.out
set_option maxRecDepth 8000 in
theorem adopt_make (P : Nat → Prop) (e : Nat) (l : List Ln) (A : Option Addr) (c : Nat) (w : World) (h : LnS P w A l.length l) : Calls Tryz.prog 92 #[.int .u64 (e : Int), .slice A l.length c] w (MakePost P (.deed (.adopt e l)) w) := by
  have hb : Below w.heap.size w ((w.alloc (.cells #[.int .u64 (e : Int)] 32)).alloc (.cells #[.slice A l.length c] 33)) := ((Below.refl _ _).alloc (Nat.le_refl _) _).alloc (by simp) _
  have h2 : Bk ((w.alloc (.cells #[.int .u64 (e : Int)] 32)).alloc (.cells #[.slice A l.length c] 33)) (w.heap.size + 1) 33 #[.slice A l.length c] := by
    have := Bk.new (w.alloc (.cells #[.int .u64 (e : Int)] 32)) 33 #[.slice A l.length c]
    rwa [World.size_alloc] at this
  have HF : Hid (MakePost P (.deed (.adopt e l)) w (.returned (.func (.func 145) #[] #[.pointer (some ⟨w.heap.size, 0, none⟩), .pointer (some ⟨w.heap.size + 1, 0, none⟩)])) ((w.alloc (.cells #[.int .u64 (e : Int)] 32)).alloc (.cells #[.slice A l.length c] 33))) :=
    ⟨_, rfl, ⟨w.heap.size, w.heap.size + 1, A, c, rfl, (Bk.new w _ _).alloc _, h2, (h.below hb).mono fun _ q => .inl q, .inr (Nat.le_refl _), .inr (Nat.le_succ _)⟩, hb⟩
  have hmf : ∀ (fn : Fn) (first cap : Array Value) (w : World), (Instr.makeFunc fn first cap).run Tryz.prog w = .ok (.func fn first cap) w := fun _ _ _ _ => rfl
  clear hb h2
  go_enter Tryz.func92, Tryz.ntmps92
  go_wp2_with fail
  go_ret
  exact HF.out
set_option maxRecDepth 8000 in
theorem add_make (P : Nat → Prop) (l : List Ln) (A : Option Addr) (c : Nat) (w : World) (h : LnS P w A l.length l) : Calls Tryz.prog 95 #[.slice A l.length c] w (MakePost P (.deed (.add l)) w) := by
  have hb : Below w.heap.size w (w.alloc (.cells #[.slice A l.length c] 33)) := (Below.refl _ _).alloc (Nat.le_refl _) _
  have HF : Hid (MakePost P (.deed (.add l)) w (.returned (.func (.func 148) #[] #[.pointer (some ⟨w.heap.size, 0, none⟩)])) (w.alloc (.cells #[.slice A l.length c] 33))) :=
    ⟨_, rfl, ⟨w.heap.size, A, c, rfl, Bk.new w _ _, (h.below hb).mono fun _ q => .inl q, .inr (Nat.le_refl _)⟩, hb⟩
  have hmf : ∀ (fn : Fn) (first cap : Array Value) (w : World), (Instr.makeFunc fn first cap).run Tryz.prog w = .ok (.func fn first cap) w := fun _ _ _ _ => rfl
  clear hb
  go_enter Tryz.func95, Tryz.ntmps95
  go_wp2_with fail
  go_ret
  exact HF.out
set_option maxRecDepth 8000 in
theorem become_make (P : Nat → Prop) (a : Kp) (A : Option Addr) (c : Nat) (w : World) (h : LnS P w A a.lines.length a.lines) : Calls Tryz.prog 237 #[kpV a A c] w (MakePost P (.whole a) w) := by
  have hb : Below w.heap.size w (w.alloc (.cells #[.int .u64 (a.promised : Int), .int .u64 (a.current : Int), .slice A a.lines.length c] 83)) := (Below.refl _ _).alloc (Nat.le_refl _) _
  have HF : Hid (MakePost P (.whole a) w (.returned (.func (.func 254) #[] #[.pointer (some ⟨w.heap.size, 0, none⟩)])) (w.alloc (.cells #[.int .u64 (a.promised : Int), .int .u64 (a.current : Int), .slice A a.lines.length c] 83))) :=
    ⟨_, rfl, ⟨w.heap.size, A, c, rfl, Bk.new w _ _, (h.below hb).mono fun _ q => .inl q, .inr (Nat.le_refl _)⟩, hb⟩
  have hmf : ∀ (fn : Fn) (first cap : Array Value) (w : World), (Instr.makeFunc fn first cap).run Tryz.prog w = .ok (.func fn first cap) w := fun _ _ _ _ => rfl
  clear hb
  unfold kpV
  go_enter Tryz.func237, Tryz.ntmps237
  go_wp2_with fail
  go_ret
  exact HF.out
end Go.Proofs.YtiijclibcfgnpaaGreat.Sto
