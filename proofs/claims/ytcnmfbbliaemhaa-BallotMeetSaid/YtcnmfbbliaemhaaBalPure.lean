/- Chapter 10's numbers: the next epoch of a node, the number that a quorum has. No program in this text. -/
import Derived.WalkKit
namespace Go.Proofs.Ytcnmfbbliaemhaa.Bal

/-- The least epoch above a that the node i of n owns. -/
def next (a i n : Nat) : Nat := a + 1 + (i + (n - (a + 1) % n)) % n
theorem next_own {a i n : Nat} (hi : i < n) : next a i n % n = i := by
  have h1 := Nat.mod_lt (a + 1) (show 0 < n by omega)
  have h2 := Nat.div_add_mod (a + 1) n
  unfold next
  rw [Nat.add_mod, Nat.mod_mod, ← Nat.add_mod]
  by_cases h : (a + 1) % n ≤ i
  · have e : i + (n - (a + 1) % n) = (i - (a + 1) % n) + n := by omega
    rw [e, ← Nat.add_assoc, Nat.add_mod_right]
    have e2 : a + 1 + (i - (a + 1) % n) = i + n * ((a + 1) / n) := by omega
    rw [e2, Nat.add_mul_mod_self_left, Nat.mod_eq_of_lt hi]
  · have e2 : a + 1 + (i + (n - (a + 1) % n)) = i + n * ((a + 1) / n + 1) := by rw [Nat.mul_add, Nat.mul_one]; omega
    rw [e2, Nat.add_mul_mod_self_left, Nat.mod_eq_of_lt hi]
theorem next_range {a i n : Nat} (hi : i < n) : a < next a i n ∧ next a i n ≤ a + n := by
  have h1 := Nat.mod_lt (i + (n - (a + 1) % n)) (show 0 < n by omega)
  unfold next
  omega
/-- It is the only one so near. -/
theorem near_one {a i n x y : Nat} (hx : a < x ∧ x ≤ a + n) (hy : a < y ∧ y ≤ a + n) (h1 : x % n = i) (h2 : y % n = i) : x = y := by
  have key : ∀ u v : Nat, u ≤ v → v - u < n → u % n = v % n → u = v := by
    intro u v huv hd he
    have a1 := Nat.div_add_mod u n
    have a2 := Nat.div_add_mod v n
    have hle : u / n ≤ v / n := Nat.div_le_div_right huv
    rcases Nat.lt_or_ge (u / n) (v / n) with h | h
    · have := Nat.mul_le_mul_left n h
      rw [Nat.mul_succ] at this
      omega
    · have : u / n = v / n := by omega
      rw [this] at a1
      omega
  rcases Nat.le_total x y with h | h
  · exact key x y h (by omega) (by omega)
  · exact (key y x h (by omega) (by omega)).symm
theorem next_only {a i n x : Nat} (hi : i < n) (hx : a < x ∧ x ≤ a + n) (h1 : x % n = i) : x = next a i n := near_one hx (next_range hi) h1 (next_own hi)
/-- None of the node's own lies between. -/
theorem next_least {a i n x : Nat} (hi : i < n) (hx : a < x) (h1 : x % n = i) : next a i n ≤ x := by
  rcases Nat.lt_or_ge x (a + n + 1) with h | h
  · rw [← next_only hi ⟨hx, by omega⟩ h1]
    exact Nat.le_refl _
  · have := next_range (a := a) hi
    omega
theorem next_mono {a b i n : Nat} (hi : i < n) (h : a ≤ b) : next a i n ≤ next b i n := next_least hi (by have := next_range (a := b) hi; omega) (next_own hi)

/-- How many are at least x, or above it. -/
def geN (l : List Int) (x : Int) : Nat := l.countP fun y => decide (x ≤ y)
def gtN (l : List Int) (x : Int) : Nat := l.countP fun y => decide (x < y)
def quorum (n : Nat) : Nat := n / 2 + 1
/-- The number that a quorum has. -/
structure Has (l : List Int) (c : Int) : Prop where
  mem : c ∈ l
  at_ : quorum l.length ≤ geN l c
  above : gtN l c < quorum l.length
theorem count_le {p q : Int → Bool} (h : ∀ x, p x = true → q x = true) : ∀ l : List Int, l.countP p ≤ l.countP q
  | [] => Nat.le_refl _
  | x :: l => by
    rw [List.countP_cons, List.countP_cons]
    have := count_le h l
    by_cases hp : p x = true
    · rw [if_pos hp, if_pos (h x hp)]; omega
    · rw [if_neg hp]; omega
theorem Has.only {l : List Int} {c d : Int} (hc : Has l c) (hd : Has l d) : c = d := by
  have key : ∀ {c d : Int}, Has l c → Has l d → ¬ c < d := by
    intro c d hc hd h
    have : geN l d ≤ gtN l c := count_le (fun x hx => by simp at hx ⊢; omega) l
    have h1 := hd.at_
    have h2 := hc.above
    omega
  have h1 := key hc hd
  have h2 := key hd hc
  omega
/-- The greatest that a quorum is at. -/
theorem Has.greatest {l : List Int} {c : Int} (hm : c ∈ l) (ha : quorum l.length ≤ geN l c) (hg : ∀ x ∈ l, quorum l.length ≤ geN l x → x ≤ c) : Has l c := by
  refine ⟨hm, ha, ?_⟩
  rcases Nat.lt_or_ge (gtN l c) (quorum l.length) with h | h
  · exact h
  · exfalso
    -- the least of those above c
    have hex : ∃ y ∈ l, c < y ∧ ∀ z ∈ l, c < z → y ≤ z := by
      have hpos : 0 < gtN l c := by unfold quorum at h; omega
      have key : ∀ l : List Int, 0 < gtN l c → ∃ y ∈ l, c < y ∧ ∀ z ∈ l, c < z → y ≤ z := by
        intro l
        induction l with
        | nil => intro h; cases h
        | cons x l ih =>
          intro h
          by_cases hx : c < x
          · by_cases hl : 0 < gtN l c
            · obtain ⟨y, y1, y2, y3⟩ := ih hl
              by_cases hxy : x ≤ y
              · exact ⟨x, List.mem_cons_self, hx, fun z hz hcz => by
                  rcases List.mem_cons.1 hz with rfl | hz
                  · omega
                  · have := y3 z hz hcz; omega⟩
              · exact ⟨y, List.mem_cons_of_mem _ y1, y2, fun z hz hcz => by
                  rcases List.mem_cons.1 hz with rfl | hz
                  · omega
                  · exact y3 z hz hcz⟩
            · exact ⟨x, List.mem_cons_self, hx, fun z hz hcz => by
                rcases List.mem_cons.1 hz with rfl | hz
                · omega
                · exfalso
                  have : 0 < gtN l c := List.countP_pos_iff.2 ⟨z, hz, by simpa using hcz⟩
                  omega⟩
          · unfold gtN at h
            rw [List.countP_cons, if_neg (by simpa using hx)] at h
            obtain ⟨y, y1, y2, y3⟩ := ih h
            exact ⟨y, List.mem_cons_of_mem _ y1, y2, fun z hz hcz => by
              rcases List.mem_cons.1 hz with rfl | hz
              · exact absurd hcz hx
              · exact y3 z hz hcz⟩
      exact key l hpos
    obtain ⟨y, y1, y2, y3⟩ := hex
    have hge : gtN l c ≤ geN l y := by
      have : ∀ m : List Int, (∀ z ∈ m, c < z → y ≤ z) → gtN m c ≤ geN m y := by
        intro m
        induction m with
        | nil => intro _; exact Nat.le_refl _
        | cons x m ih =>
          intro hm
          have := ih fun z hz => hm z (List.mem_cons_of_mem _ hz)
          unfold gtN geN at this ⊢
          rw [List.countP_cons, List.countP_cons]
          by_cases hx : c < x
          · have h5 := hm x List.mem_cons_self hx
            rw [if_pos (by simpa using hx), if_pos (by simpa using h5)]
            omega
          · rw [if_neg (by simpa using hx)]
            omega
      exact this l y3
    have := hg y y1 (by omega)
    omega
/-- There is one: in order, the one with a quorum from it on. -/
theorem Has.sorted {l s : List Int} (hp : s.Perm l) (hs : s.Pairwise (· ≤ ·)) (h0 : l ≠ []) : ∃ c, s[s.length - quorum s.length]? = some c ∧ Has l c := by
  have hlen : 0 < l.length := List.length_pos_iff.2 h0
  have hsl : s.length = l.length := hp.length_eq
  have hi : s.length - quorum s.length < s.length := by unfold quorum; omega
  have hq : quorum s.length ≤ s.length := by unfold quorum; omega
  refine ⟨s[s.length - quorum s.length], List.getElem?_eq_getElem hi, hp.mem_iff.1 (List.getElem_mem hi), ?_, ?_⟩
  · unfold geN
    rw [← hp.countP_eq]
    have h1 : (s.drop (s.length - quorum s.length)).countP (fun y => decide (s[s.length - quorum s.length] ≤ y)) = quorum s.length := by
      have hall : ∀ y ∈ s.drop (s.length - quorum s.length), s[s.length - quorum s.length] ≤ y := by
        intro y hy
        obtain ⟨k, hk, rfl⟩ := List.getElem_of_mem hy
        rw [List.getElem_drop]
        by_cases hk0 : k = 0
        · subst hk0; exact Int.le_refl _
        · rw [List.length_drop] at hk
          exact List.pairwise_iff_getElem.1 hs _ _ hi (by omega) (by omega)
      rw [List.countP_eq_length.2 (fun y hy => by simpa using hall y hy), List.length_drop]
      omega
    have h2 : s.countP (fun y => decide (s[s.length - quorum s.length] ≤ y)) = (s.take (s.length - quorum s.length)).countP (fun y => decide (s[s.length - quorum s.length] ≤ y)) + (s.drop (s.length - quorum s.length)).countP (fun y => decide (s[s.length - quorum s.length] ≤ y)) := by
      rw [← List.countP_append, List.take_append_drop]
    have hq2 : quorum l.length = quorum s.length := by rw [hsl]
    rw [h2, h1, hq2]
    omega
  · unfold gtN
    rw [← hp.countP_eq]
    have h2 : s.countP (fun y => decide (s[s.length - quorum s.length] < y)) = (s.take (s.length - quorum s.length + 1)).countP (fun y => decide (s[s.length - quorum s.length] < y)) + (s.drop (s.length - quorum s.length + 1)).countP (fun y => decide (s[s.length - quorum s.length] < y)) := by
      rw [← List.countP_append, List.take_append_drop]
    have h3 : (s.take (s.length - quorum s.length + 1)).countP (fun y => decide (s[s.length - quorum s.length] < y)) = 0 := by
      rw [List.countP_eq_zero]
      intro y hy
      obtain ⟨k, hk, rfl⟩ := List.getElem_of_mem hy
      rw [List.length_take] at hk
      rw [List.getElem_take]
      have : s[k]'(by omega) ≤ s[s.length - quorum s.length] := by
        by_cases hk0 : k = s.length - quorum s.length
        · subst hk0; exact Int.le_refl _
        · exact List.pairwise_iff_getElem.1 hs _ _ (by omega) hi (by omega)
      simpa using this
    have h4 := List.countP_le_length (p := fun y => decide (s[s.length - quorum s.length] < y)) (l := s.drop (s.length - quorum s.length + 1))
    rw [List.length_drop] at h4
    rw [h2, h3, ← hsl]
    omega
end Go.Proofs.Ytcnmfbbliaemhaa.Bal
