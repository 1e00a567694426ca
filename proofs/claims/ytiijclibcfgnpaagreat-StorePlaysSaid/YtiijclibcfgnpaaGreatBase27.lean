/- Lemmas, part 27: StoActs, StoGreat, LineArgs, StoArgs, StoAgain, StoNils, StoKill -/
import Derived.Test.YtiijclibcfgnpaaGreatBase26
import Derived.Test.YtiijclibcfgnpaaGreatBase2
import Derived.Deep.Slices
import Derived.SizedLaws
import Derived.Test.YtiijclibcfgnpaaGreatBase25
import Derived.Lib.SlBytesConst
import Derived.Deep.AppendSrc
import Derived.ArgAppend
namespace Go.Proofs.YtiijclibcfgnpaaGreat.Sto
open Go.RowKit Disk Log

def textK (k : Kp) : List UInt8 := textL k.promised k.current k.lines
theorem fine_text {k : Kp} (h : Fine k) : Small k.lines ∧ ∀ x ∈ k.lines, x.epoch < 18446744073709551616 :=
  ⟨⟨by have := h.many; omega, fun x hx => by have := lineB_iff.1 (h.each x hx).1; omega⟩, fun x hx => by have := lineB_iff.1 (h.each x hx).1; unfold top at this; omega⟩
set_option maxRecDepth 8000 in
set_option maxHeartbeats 1000000 in
theorem text_any {w : World} {gs : Nat} {k : Kp} (hk : Calls Tryz.prog 44 #[.pointer (some ⟨gs, 0, none⟩)] w (KeptPost k w)) (hf : Fine k) :
    Calls Tryz.prog 18 #[.pointer (some ⟨gs, 0, none⟩)] w fun e w' => e = .returned (.string (S (textK k))) ∧ Below w.heap.size w w' := by
  have CK := Lib.hid hk
  have HF := Lib.hid hf
  clear hk hf
  go_enter Tryz.func18, Tryz.ntmps18
  go_wp2_with fail
  refine CK.out.mono ?_
  rintro e w1 ⟨A, c, rfl, hown, hb⟩
  have HB := Lib.hid hb
  have hln := hown.lns
  have hbw : Below w1.heap.size w1 (w1.alloc (.cells #[.int .u64 (k.promised : Int), .int .u64 (k.current : Int), .slice A k.lines.length c] 83)) := (Below.refl _ _).alloc (Nat.le_refl _) _
  have HBW := Lib.hid hbw
  have CT := Lib.hid (refText_any _ k.promised k.current k.lines A k.lines.length c _ (hln.below hbw) (fine_text HF.out).1 (by have := HF.out.prom; unfold top at this; omega) (by have := HF.out.prom; have := HF.out.cur; unfold top at *; omega) (fine_text HF.out).2)
  clear hown hb hln hbw CK
  unfold kpV
  go_wp2_with fail
  refine CT.out.mono ?_
  rintro e w2 ⟨rfl, hb⟩
  have HB2 := Lib.hid ((HB.out.trans (HBW.out.mono HB.out.size)).trans (hb.mono (Nat.le_trans HB.out.size HBW.out.size)))
  clear hb CT
  go_wp2_with fail
  go_ret
  exact ⟨rfl, HB2.out⟩
structure A1 where
  do_ : Nat
  e : Nat
  l : List Ln
structure A1.Ok (x : A1) : Prop where
  do_ : x.do_ < 256
  e : x.e < 18446744073709551616
  l : ∀ y ∈ x.l, y.epoch < 18446744073709551616
def actV (x : A1) (B : Option Addr) (c : Nat) : Value := .agg #[.int .u8 (x.do_ : Int), .int .u64 (x.e : Int), .slice B x.l.length c]
structure ActS (P : Nat → Prop) (w : World) (A : Option Addr) (n : Nat) (xs : List A1) : Prop where
  len : xs.length = n
  at_ : ∀ (j : Nat) (x : A1), xs[j]? = some x → ∃ b o B c, A = some ⟨b, o, none⟩ ∧ w.cell? ⟨b, o + j * 3, none⟩ = some (.int .u8 (x.do_ : Int)) ∧ w.cell? ⟨b, o + j * 3 + 1, none⟩ = some (.int .u64 (x.e : Int)) ∧ w.cell? ⟨b, o + j * 3 + 2, none⟩ = some (.slice B x.l.length c) ∧ LnS P w B x.l.length x.l ∧ x.Ok
theorem ActS.below {P : Nat → Prop} {w w' : World} {A : Option Addr} {n : Nat} {xs : List A1} (h : ActS P w A n xs) (hb : Below w.heap.size w w') : ActS P w' A n xs :=
  ⟨h.len, fun j x hj => by
    obtain ⟨b, o, B, c, q1, q2, q3, q4, q5, q6⟩ := h.at_ j x hj
    have hk : ∀ i v, w.cell? ⟨b, i, none⟩ = some v → w'.cell? ⟨b, i, none⟩ = some v := fun i v hv => (hb.cell (World.block_lt_of_cell? w _ hv)).trans hv
    exact ⟨b, o, B, c, q1, hk _ _ q2, hk _ _ q3, hk _ _ q4, q5.below hb, q6⟩⟩
def bytesOf (l : List Ln) : Nat := (l.map fun x => x.bytes.length).sum
def allOf (xs : List A1) : Nat := (xs.map fun x => bytesOf x.l).sum
def greatF (xs : List A1) : Bool := (xs.take 100).any (fun x => decide (300 < x.l.length)) || decide (60 < xs.length) || decide (40000 < allOf (xs.take 100))
theorem bytes_snoc (l : List Ln) {j : Nat} (h : j < l.length) : bytesOf (l.take (j + 1)) = bytesOf (l.take j) + l[j].bytes.length := by
  unfold bytesOf
  rw [← List.take_append_getElem h, List.map_append, List.sum_append]
  simp
theorem all_snoc (l : List A1) {j : Nat} (h : j < l.length) : allOf (l.take (j + 1)) = allOf (l.take j) + bytesOf l[j].l := by
  unfold allOf
  rw [← List.take_append_getElem h, List.map_append, List.sum_append]
  simp
theorem bytes_le {l : List Ln} (h : ∀ x ∈ l, x.bytes.length ≤ 140737488355328) : bytesOf l ≤ l.length * 140737488355328 := by
  induction l with
  | nil => simp [bytesOf]
  | cons x l ih =>
    have h1 := h x List.mem_cons_self
    have h2 := ih fun y hy => h y (List.mem_cons_of_mem _ hy)
    unfold bytesOf at *
    rw [List.map_cons, List.sum_cons, List.length_cons]
    omega
theorem mem_bytes {l : List Ln} {x : Ln} (h : x ∈ l) : x.bytes.length ≤ bytesOf l := by
  induction l with
  | nil => cases h
  | cons y l ih =>
    unfold bytesOf at *
    rw [List.map_cons, List.sum_cons]
    rcases List.mem_cons.1 h with rfl | h
    · omega
    · have := ih h; omega
theorem mem_all {l : List A1} {x : A1} (h : x ∈ l) : bytesOf x.l ≤ allOf l := by
  induction l with
  | nil => cases h
  | cons y l ih =>
    unfold allOf at *
    rw [List.map_cons, List.sum_cons]
    rcases List.mem_cons.1 h with rfl | h
    · omega
    · have := ih h; omega
theorem great_no {xs : List A1} (h : greatF xs = false) : xs.length ≤ 60 ∧ ∀ x ∈ xs, x.Ok → x.l.length ≤ 300 ∧ (∀ y ∈ x.l, y.bytes.length ≤ 40000) ∧ Laid x.l := by
  unfold greatF at h
  simp only [Bool.or_eq_false_iff, decide_eq_false_iff_not] at h
  obtain ⟨⟨h1, h2⟩, h3⟩ := h
  have ht : xs.take 100 = xs := List.take_of_length_le (by omega)
  rw [ht] at h1 h3
  refine ⟨by omega, fun x hx hok => ?_⟩
  have h4 : ¬ 300 < x.l.length := by
    have := List.any_eq_false.1 h1 x hx
    simpa using this
  have h5 : ∀ y ∈ x.l, y.bytes.length ≤ 40000 := fun y hy => by
    have a := mem_bytes hy
    have b := mem_all hx
    omega
  exact ⟨by omega, h5, by omega, fun y hy => ⟨by have := h5 y hy; omega, hok.l y hy⟩⟩
def deedA (x : A1) : Option Deed := if x.do_ % 5 = 0 then some (.prom x.e) else if x.do_ % 5 = 1 then some (.adopt x.e x.l) else if x.do_ % 5 = 4 then none else some (.add x.l)
def ActP (w0 : World) (Z : Nat → Prop) (gs gd : Nat) (d : DK) (p : Nat) (k : Kp) (N : Nat) (x : A1) (w : World) (e : Ending) (w' : World) : Prop :=
  (deedA x = none ∧ e = .returned (.int .i64 0) ∧ Below w.heap.size w w') ∨ ∃ D y, deedA x = some D ∧ e = .returned (.int .i64 y) ∧ AfterP w0 Z gs gd d p k N D y w w'
theorem AfterP.from_ {w0 : World} {Z : Nat → Prop} {gs gd : Nat} {d : DK} {p : Nat} {k : Kp} {N : Nat} {D : Deed} {x : Int} {w w1 w' : World} (h : AfterP w0 Z gs gd d p k N D x w1 w') (hb : Below w.heap.size w w1) : AfterP w0 Z gs gd d p k N D x w w' := by
  obtain ⟨Z', ⟨h1, h2⟩, h3⟩ := h
  exact ⟨Z', ⟨(Out.of_below (X := Z) hb).trans h1 fun _ q => .inl q, fun b hb' => (h2 b hb').imp id fun q => Nat.le_trans hb.size q⟩, h3⟩
set_option maxRecDepth 8000 in
set_option maxHeartbeats 2000000 in
theorem does_any {w0 w : World} {Z P : Nat → Prop} {gs gd : Nat} {d : DK} {p : Nat} {k : Kp} {N : Nat} (h : Sv w0 w Z gs gd d p k N) (hN : N + 4 < 65536) (x : A1) (hx : x.Ok) (hs : Laid x.l) (B : Option Addr) (c : Nat) (hl : LnS P w B x.l.length x.l) (hP : ∀ b, P b → ¬ Z b ∧ b < w.heap.size) :
    Calls Tryz.prog 16 #[.pointer (some ⟨gs, 0, none⟩), actV x B c] w (ActP w0 Z gs gd d p k N x w) := by
  obtain ⟨W, hW⟩ : ∃ W, W = w.alloc (.cells #[.int .u8 (x.do_ : Int), .int .u64 (x.e : Int), .slice B x.l.length c] 39) := ⟨_, rfl⟩
  have hb : Below w.heap.size w W := by rw [hW]; exact (Below.refl _ _).alloc (Nat.le_refl _) _
  have hsv := h.below_ hb
  have hP2 : ∀ b, P b → ¬ Z b ∧ b < W.heap.size := fun b q => ⟨(hP b q).1, Nat.lt_of_lt_of_le (hP b q).2 hb.size⟩
  have CP := Lib.hid (hsv.promise hN x.e hx.e)
  have CA := Lib.hid (hsv.adopt hN x.e x.l hx.e B c (hl.below hb) hs hP2)
  have CD := Lib.hid (hsv.append hN x.l B c (hl.below hb) hs hP2)
  have HB := Lib.hid hb
  have HW := Lib.hid hW
  have HDE : Hid (deedA x = if x.do_ % 5 = 0 then some (.prom x.e) else if x.do_ % 5 = 1 then some (.adopt x.e x.l) else if x.do_ % 5 = 4 then none else some (.add x.l)) := rfl
  have hd := hx.do_
  have hm : (x.do_ : Int) % 5 = ((x.do_ % 5 : Nat) : Int) := by omega
  obtain ⟨q, hq⟩ : ∃ q, q = x.do_ % 5 := ⟨_, rfl⟩
  have hq5 : q < 5 := by omega
  rw [← hq] at hm HDE
  unfold actV
  clear h hs hl hP hb hsv hP2 hW hx
  rcases (show q = 0 ∨ q = 1 ∨ q = 4 ∨ (q = 2 ∨ q = 3) by omega) with rfl | rfl | rfl | hq23
  · have HE := HDE.out
    rw [if_pos rfl] at HE
    have HD := Lib.hid HE
    clear HE hq HDE
    go_enter Tryz.func16, Tryz.ntmps16
    go_wp2_with fail
    rw [← HW.out]
    refine CP.out.mono ?_
    rintro e w2 ⟨y, rfl, ha⟩
    have HA := Lib.hid (ha.from_ HB.out)
    clear ha
    go_wp2_with fail
    go_ret
    exact .inr ⟨_, y, HD.out, rfl, HA.out⟩
  · have HE := HDE.out
    rw [if_neg (by decide), if_pos rfl] at HE
    have HD := Lib.hid HE
    clear HE hq HDE
    go_enter Tryz.func16, Tryz.ntmps16
    go_wp2_with fail
    rw [← HW.out]
    refine CA.out.mono ?_
    rintro e w2 ⟨y, rfl, ha⟩
    have HA := Lib.hid (ha.from_ HB.out)
    clear ha
    go_wp2_with fail
    go_ret
    exact .inr ⟨_, y, HD.out, rfl, HA.out⟩
  · have HE := HDE.out
    rw [if_neg (by decide), if_neg (by decide), if_pos rfl] at HE
    have HD := Lib.hid HE
    clear HE hq HDE
    go_enter Tryz.func16, Tryz.ntmps16
    go_wp2_with fail
    rw [← HW.out]
    go_ret
    exact .inl ⟨HD.out, rfl, HB.out⟩
  · have HE := HDE.out
    rw [if_neg (by omega), if_neg (by omega), if_neg (by omega)] at HE
    have HD := Lib.hid HE
    clear HE hq HDE
    rcases hq23 with rfl | rfl
    all_goals
      go_enter Tryz.func16, Tryz.ntmps16
      go_wp2_with fail
      rw [← HW.out]
      refine CD.out.mono ?_
      rintro e w2 ⟨y, rfl, ha⟩
      have HA := Lib.hid (ha.from_ HB.out)
      clear ha
      go_wp2_with fail
      go_ret
      exact .inr ⟨_, y, HD.out, rfl, HA.out⟩
end Go.Proofs.YtiijclibcfgnpaaGreat.Sto

namespace Go.Proofs.YtiijclibcfgnpaaGreat.Sto
open Go.RowKit Disk Log

theorem all_le {l : List A1} {a : Nat} (h : ∀ x ∈ l, bytesOf x.l ≤ a) : allOf l ≤ l.length * a := by
  induction l with
  | nil => simp [allOf]
  | cons x l ih =>
    have h1 := h x List.mem_cons_self
    have h2 := ih fun y hy => h y (List.mem_cons_of_mem _ hy)
    unfold allOf at *
    rw [List.map_cons, List.sum_cons, List.length_cons, Nat.add_mul]
    omega
theorem great_has {xs : List A1} {j : Nat} (hj : j < xs.length) (h1 : j < 100) (h3 : 300 < xs[j].l.length) : greatF xs = true := by
  unfold greatF
  have : (xs.take 100).any (fun x => decide (300 < x.l.length)) = true := List.any_eq_true.2 ⟨xs[j], List.mem_take_iff_getElem.2 ⟨j, by omega, rfl⟩, by simpa using h3⟩
  rw [this]
  rfl
theorem great_many {xs : List A1} (h : 60 < xs.length) : greatF xs = true := by
  unfold greatF
  simp [h]
theorem great_few {xs : List A1} {j : Nat} (hj : xs.length = j) (h100 : j ≤ 100) (h60 : ¬ 60 < j) (h : ∀ x ∈ xs.take j, x.l.length ≤ 300) : greatF xs = decide (40000 < allOf (xs.take j)) := by
  unfold greatF
  have ht : xs.take 100 = xs.take j := by rw [List.take_of_length_le (by omega), List.take_of_length_le (by omega)]
  have h1 : (xs.take 100).any (fun x => decide (300 < x.l.length)) = false := List.any_eq_false.2 fun x hx => by
    rw [ht] at hx
    have := h x hx
    simp
    omega
  rw [h1, ht, hj]
  simp [h60]
set_option maxRecDepth 100000 in
set_option maxHeartbeats 4000000 in
theorem great_any {P : Nat → Prop} {w : World} {A : Option Addr} {n : Nat} {xs : List A1} (c : Nat) (h : ActS P w A n xs) (hn : n ≤ 140737488355328) (hy : ∀ x ∈ xs, ∀ y ∈ x.l, y.bytes.length ≤ 140737488355328) :
    Calls Tryz.prog 11 #[.slice A n c] w fun e w' => e = .returned (.bool (greatF xs)) ∧ w' = w := by
  have H := Lib.hid h
  have HN := Lib.hid h.len
  have HY := Lib.hid hy
  clear h hy
  go_enter Tryz.func11, Tryz.ntmps11
  go_wp2_with fail
  go_loop [3, 4] (fun v i => ∃ j : Nat, j ≤ n ∧ j ≤ 100 ∧ i = .int .i64 (j : Int) ∧ v = .int .i64 (allOf (xs.take j) : Int) ∧ Hid (∀ x ∈ xs.take j, x.l.length ≤ 300)) (fun _ i => n - (intOf i).toNat)
  case atStart => exact ⟨0, by omega, by omega, rfl, rfl, by intro x hx; simp at hx⟩
  case round =>
    obtain ⟨j, hj, h100, rfl, rfl, hold⟩ := hrel
    have HOLD := Lib.hid hold.out
    clear hold
    have hal : allOf (xs.take j) ≤ 100 * 42221246506598400 := by
      refine Nat.le_trans (all_le (a := 42221246506598400) fun x hx => ?_) (Nat.mul_le_mul_right _ (by rw [List.length_take]; omega))
      refine Nat.le_trans (bytes_le (HY.out x (List.mem_of_mem_take hx))) ?_
      have := HOLD.out x hx
      omega
    by_cases hlt : j < n
    · by_cases hl1 : j < 100
      · have hkl : j < xs.length := by have := HN.out; omega
        obtain ⟨b, o, B, c2, hA, -, -, hc, hls, -⟩ := H.out.at_ j _ (List.getElem?_eq_getElem hkl)
        subst hA
        have hk0 : (0 : Int) ≤ (j : Int) := Int.natCast_nonneg _
        have hk1 : (j : Int) < (n : Int) := by omega
        have hk2 : (j : Int) < 100 := by omega
        have HTR := Lib.hid (fun h3 => great_has hkl hl1 h3)
        have hst := all_snoc xs hkl
        have hbl := bytes_le (HY.out _ (List.getElem_mem hkl))
        have hby := HY.out _ (List.getElem_mem hkl)
        have htk : ∀ q : Nat, q ∈ [j] → (∀ y ∈ xs.take (j + 1), y ∈ xs.take j ∨ y = xs[j]) := fun q _ y hy => by
          rw [← List.take_append_getElem hkl] at hy
          rcases List.mem_append.1 hy with h | h
          · exact .inl h
          · exact .inr (List.mem_singleton.1 h)
        have HTK := Lib.hid (htk j List.mem_cons_self)
        generalize hx : xs[j] = x at *
        have HX := Lib.hid hx
        clear htk hx
        have HLS := Lib.hid hls
        have HBY := Lib.hid hby
        have HST := Lib.hid hst
        have hm := hls.len
        clear hls hby hst
        by_cases h3 : 300 < x.l.length
        · have h3' : (300 : Int) < (x.l.length : Int) := by omega
          have HT2 := Lib.hid (HTR.out h3)
          clear hal hbl hm HTR
          go_wp2_with fail
          go_ret
          exact ⟨by rw [HT2.out]; rfl, rfl⟩
        · have h3' : ¬ (300 : Int) < (x.l.length : Int) := by omega
          generalize allOf (xs.take j) = t at *
          generalize hmm : x.l.length = m at *
          have HMM := Lib.hid hmm
          clear hmm hm HTR
          go_wp2_with fail
          go_loop [3, 5] (fun v i => ∃ q : Nat, q ≤ m ∧ i = .int .i64 (q : Int) ∧ v = .int .i64 ((t + bytesOf (x.l.take q) : Nat) : Int)) (fun _ i => m - (intOf i).toNat)
          case atStart => exact ⟨0, by omega, rfl, rfl⟩
          case round =>
            obtain ⟨q, hq, rfl, rfl⟩ := hrel
            have hbq : bytesOf (x.l.take q) ≤ 300 * 140737488355328 := by
              refine Nat.le_trans (bytes_le fun y hy => HBY.out y (List.mem_of_mem_take hy)) (Nat.mul_le_mul_right _ (by rw [List.length_take, HMM.out]; omega))
            by_cases hqm : q < m
            · have hql : q < x.l.length := by have := HMM.out; omega
              obtain ⟨b2, o2, B2, m2, c3, hB, -, -, hd, -, hr, -⟩ := HLS.out.at_ q _ (List.getElem?_eq_getElem hql)
              subst hB
              have hq0 : (0 : Int) ≤ (q : Int) := Int.natCast_nonneg _
              have hq1 : (q : Int) < (m : Int) := by omega
              have hm2 := hr.len
              have hsn := bytes_snoc x.l hql
              have hy2 := HBY.out _ (List.getElem_mem hql)
              have HV : Hid (wrap64 (((t + bytesOf (x.l.take q) : Nat) : Int) + (m2 : Int)) = ((t + bytesOf (x.l.take (q + 1)) : Nat) : Int)) := by
                show _ = _
                rw [IntWalk.wrap64_in _ (by omega)]
                omega
              clear hsn hy2 hm2 hr hbq hbl hal
              generalize (t + bytesOf (x.l.take q) : Nat) = u at *
              go_wp2_with fail
              rw [HV.out]
              exact ⟨⟨q + 1, by omega, rfl, rfl⟩, by simp [intOf]; omega⟩
            · obtain rfl : q = m := by omega
              have hq1 : ¬ (q : Int) < (q : Int) := by omega
              have htk : x.l.take q = x.l := List.take_of_length_le (by have := HMM.out; omega)
              rw [htk]
              have HS2 : Hid (t + bytesOf x.l = allOf (xs.take (j + 1))) := HST.out.symm
              have HO2 : Hid (∀ y ∈ xs.take (j + 1), y.l.length ≤ 300) := by
                intro y hy
                rcases HTK.out y hy with h | h
                · exact HOLD.out y h
                · rw [h, HMM.out]; omega
              clear htk hbq hbl hal
              generalize (t + bytesOf x.l : Nat) = u at *
              go_wp2_with fail
              exact ⟨⟨j + 1, by omega, by omega, rfl, by rw [HS2.out], HO2.out⟩, by simp [intOf]; omega⟩
      · obtain rfl : j = 100 := by omega
        have h60 : (60 : Int) < (n : Int) := by omega
        have hk1 : ((100 : Nat) : Int) < (n : Int) := by omega
        have hk2 : ¬ ((100 : Nat) : Int) < 100 := by omega
        have HT2 := Lib.hid (great_many (xs := xs) (by have := HN.out; omega))
        clear hal
        go_wp2_with fail
        go_ret
        exact ⟨by rw [HT2.out]; rfl, rfl⟩
    · obtain rfl : j = n := by omega
      have hk1 : ¬ (j : Int) < (j : Int) := by omega
      by_cases h6 : 60 < j
      · have h60 : (60 : Int) < (j : Int) := by omega
        have HT2 := Lib.hid (great_many (xs := xs) (by have := HN.out; omega))
        clear hal
        go_wp2_with fail
        go_ret
        exact ⟨by rw [HT2.out]; rfl, rfl⟩
      · have h60 : ¬ (60 : Int) < (j : Int) := by omega
        have HT2 := Lib.hid (great_few HN.out h100 h6 HOLD.out)
        clear hal
        generalize allOf (xs.take j) = t at *
        go_wp2_with fail
        go_ret
        exact ⟨by rw [HT2.out]; show Ending.returned (.bool (decide ((40000 : Int) < (t : Int)))) = _; congr 2; apply decide_eq_decide.2; omega, rfl⟩
end Go.Proofs.YtiijclibcfgnpaaGreat.Sto

namespace Go.Proofs.YtiijclibcfgnpaaGreat.Sto
open Go.ChangeShapes Go.WideShapes Go.ChangeAt Go.RowKit Disk Log

theorem aty_lines : Tryz.prog.underlying 33 = some (.slice 80) := by kernel_rfl
theorem aty_bytes : Tryz.prog.underlying 54 = some (.slice 5) := by kernel_rfl
theorem aty_u8 : Tryz.prog.underlying 5 = some (.int .u8) := by kernel_rfl
theorem aty_u64 : Tryz.prog.underlying 32 = some (.int .u64) := by kernel_rfl
theorem ace_line : Tryz.prog.cellsOf 80 = 2 := by kernel_rfl
theorem ace_u8 : Tryz.prog.cellsOf 5 = 1 := by kernel_rfl
theorem ace_u64 : Tryz.prog.cellsOf 32 = 1 := by kernel_rfl
theorem ace_bytes : Tryz.prog.cellsOf 54 = 1 := by kernel_rfl
theorem ace_lines : Tryz.prog.cellsOf 33 = 1 := by kernel_rfl
theorem asz_line : Tryz.prog.bytesOf 80 = 32 := by kernel_rfl
theorem asz_u8 : Tryz.prog.bytesOf 5 = 1 := by kernel_rfl
theorem alist2 {α : Type} {l : List α} (h : l.length = 2) : ∃ a b, l = [a, b] := by
  match l, h with
  | [a, b], _ => exact ⟨a, b, rfl⟩
theorem alist3 {α : Type} {l : List α} (h : l.length = 3) : ∃ a b c, l = [a, b, c] := by
  match l, h with
  | [a, b, c], _ => exact ⟨a, b, c, rfl⟩
theorem weights_mem {H : Type} {P : Program} {e : TypeId} : ∀ {l : List (DataW H)} {d : DataW H}, d ∈ l → ∀ n ∈ d.weights P e, n ∈ DataW.weightsAll P e l
  | d :: l, _, h, n, hn => by
    simp only [DataW.weightsAll, List.mem_append]
    rcases List.mem_cons.1 h with rfl | h
    · exact .inl hn
    · exact .inr (weights_mem h n hn)
def Wt {H : Type} (t : TypeId) (d : DataW H) : Prop := ∀ n ∈ d.weights Tryz.prog t, n ≤ reachBytes
theorem a_plain {w : World} {a : Addr} {v : Value} (h : w.cell? a = some v) : a = ⟨a.block, a.off, none⟩ := by
  obtain ⟨b, o, s⟩ := a
  cases s with
  | none => rfl
  | some x =>
    unfold World.cell? at h
    split at h
    · simp at h
    · cases h
theorem a_add (b o k : Nat) : (⟨b, o, none⟩ : Addr).add k = ⟨b, o + k, none⟩ := by
  unfold Addr.add
  by_cases h : k = 0
  · subst h; simp
  · simp [h]

section
variable {H : Type} {enc : TypeId × Value → H} {w : World} {base : Nat} {spare : Nat → Bool} {held : Bool}

theorem open_bs {fuel : Nat} {cs : List Value} {x : DataW H × List MemPlace} (h : DataW.trod enc Tryz.prog w base spare held fuel 54 cs = some x) (hw : Wt 54 x.1) : ∃ B m c bs, cs = [.slice B m c] ∧ m ≤ c ∧ m ≤ reachBytes ∧ Rd w B m bs ∧ ∀ b, B = some b → 1 ≤ m → b.block < w.heap.size := by
  rcases open_ints aty_bytes aty_u8 ace_u8 h with ⟨rfl, _⟩ | ⟨a, len, cap, zs, rfl, _, hl, _, hz, hx, hc, hwf⟩
  · exact ⟨none, 0, 0, [], rfl, Nat.le_refl _, Nat.zero_le _, Rd.nil_ _ _, fun b hb => by cases hb⟩
  · have hlz : len ≤ zs.length := by rw [hz]; split <;> omega
    have hr : len ≤ reachBytes := by
      have := hw ((lits (H := H) .u8 (zs.take len)).length + (lits (H := H) .u8 (zs.drop len)).length) (by rw [hx]; simp [DataW.weights, asz_u8])
      simp [lits] at this
      omega
    refine ⟨some a, len, cap, (zs.take len).map (fun z => UInt8.ofNat z.toNat), rfl, hl, hr, ⟨by simp; omega, fun _ => ⟨a, rfl, fun j b hb => ?_⟩⟩, fun b hb h1 => ?_⟩
    · rw [List.getElem?_map, List.getElem?_take] at hb
      split at hb
      · next hj =>
        have hjl : j < zs.length := by omega
        rw [List.getElem?_eq_getElem hjl] at hb
        injection hb with hb
        rw [hc j hjl, ← hb]
        have hw := hwf zs[j] (List.getElem_mem hjl)
        simp [Lit.wf, IntKind.min, IntKind.max, IntKind.signed, IntKind.bits] at hw
        unfold U
        congr 2
        rw [List.getD_eq_getElem?_getD, List.getElem?_eq_getElem hjl]
        simp
        omega
      · cases hb
    · injection hb with hb
      subst hb
      have := World.block_lt_of_cell? w _ (hc 0 (by omega))
      rwa [addr_add_block] at this
theorem open_u64n {fuel : Nat} {cs : List Value} {x : DataW H × List MemPlace} (h : DataW.trod enc Tryz.prog w base spare held fuel 32 cs = some x) : ∃ e : Nat, cs = [.int .u64 (e : Int)] ∧ e < 18446744073709551616 := by
  obtain ⟨z, rfl, _, hz⟩ := DataW.trod_int aty_u64 h
  simp [Lit.wf, IntKind.min, IntKind.max, IntKind.signed, IntKind.bits] at hz
  exact ⟨z.toNat, by congr 2; omega, by omega⟩
theorem open_u8n {fuel : Nat} {cs : List Value} {x : DataW H × List MemPlace} (h : DataW.trod enc Tryz.prog w base spare held fuel 5 cs = some x) : ∃ e : Nat, cs = [.int .u8 (e : Int)] ∧ e < 256 := by
  obtain ⟨z, rfl, _, hz⟩ := DataW.trod_int aty_u8 h
  simp [Lit.wf, IntKind.min, IntKind.max, IntKind.signed, IntKind.bits] at hz
  exact ⟨z.toNat, by congr 2; omega, by omega⟩
theorem open_line {fuel : Nat} {cs : List Value} {x : DataW H × List MemPlace} (h : DataW.trod enc Tryz.prog w base spare held fuel 80 cs = some x) (hw : Wt 80 x.1) : ∃ (y : Ln) (B : Option Addr) (m c : Nat), cs = [.int .u64 (y.epoch : Int), .slice B m c] ∧ m ≤ c ∧ y.epoch < 18446744073709551616 ∧ y.bytes.length ≤ reachBytes ∧ Rd w B m y.bytes ∧ ∀ b, B = some b → 1 ≤ m → b.block < w.heap.size := by
  obtain ⟨xs, m, _, hx, hlen, hxl, hf⟩ := DataW.trod_struct Tryz.underlying80 h
  rw [ace_line] at hlen
  have hxl : xs.length = 2 := hxl
  obtain ⟨y0, y1, rfl⟩ := alist2 hxl
  obtain ⟨v0, v1, rfl⟩ := alist2 hlen
  have g0 := hf 0 _ rfl
  have g1 := hf 1 _ rfl
  simp [ace_u64, ace_bytes] at g0 g1
  have hw1 : Wt 54 y1.1 := fun n hn => hw n (by rw [hx]; simp [DataW.weights, Tryz.underlying80, DataW.weightsEach, hn])
  obtain ⟨e, e0, he⟩ := open_u64n g0
  obtain ⟨B, k, c, bs, e1, h1, h2, h3, h4⟩ := open_bs g1 hw1
  simp at e0 e1
  subst e0 e1
  exact ⟨⟨e, bs⟩, B, k, c, rfl, h1, he, by show bs.length ≤ _; rw [h3.len]; exact h2, h3, h4⟩
theorem open_lines {fuel : Nat} {cs : List Value} {x : DataW H × List MemPlace} (h : DataW.trod enc Tryz.prog w base spare held fuel 33 cs = some x) (hw : Wt 33 x.1) : ∃ A n c ls, cs = [.slice A n c] ∧ n ≤ c ∧ LnS (fun b => b < w.heap.size) w A n ls ∧ (∀ y ∈ ls, y.epoch < 18446744073709551616 ∧ y.bytes.length ≤ reachBytes) ∧ n ≤ reachBytes := by
  rcases Go.Deep.open_slice aty_lines h with ⟨rfl, _⟩ | ⟨a, len, cap, m, n, D, Pl, rfl, _, hl, _, hmm, hx, hel⟩
  · exact ⟨none, 0, 0, [], rfl, Nat.le_refl _, LnS.nil_ _ _ _, (fun y hy => by cases hy), Nat.zero_le _⟩
  · have hml : len ≤ m := by rw [hmm]; split <;> omega
    have hrn : len ≤ reachBytes := by
      have := hw _ (by rw [hx]; simp only [DataW.weights, aty_lines]; exact List.mem_cons_self)
      rw [asz_line] at this
      simp at this
      omega
    have each : ∀ i, i < len → ∃ y : Ln, ∃ B k c, w.cell? (a.add (2 * i)) = some (.int .u64 (y.epoch : Int)) ∧ w.cell? (a.add (2 * i + 1)) = some (.slice B k c) ∧ k ≤ c ∧ y.epoch < 18446744073709551616 ∧ y.bytes.length ≤ reachBytes ∧ Rd w B k y.bytes ∧ ∀ b, B = some b → 1 ≤ k → b.block < w.heap.size := by
      intro i hi
      obtain ⟨cs', h1, h2⟩ := hel i (by omega)
      rw [ace_line] at h1
      obtain ⟨_, hlen, hcell⟩ := World.cells?_some h1
      obtain ⟨y, B, k, c, rfl, q1, q2, q3, q4, q5⟩ := open_line h2 fun v hv => hw v (by
        rw [hx]
        simp only [DataW.weights, aty_lines, List.mem_cons, List.mem_append]
        exact .inr (.inl (weights_mem (List.mem_map.2 ⟨i, List.mem_range.2 hi, rfl⟩) v hv)))
      refine ⟨y, B, k, c, ?_, ?_, q1, q2, q3, q4, q5⟩
      · have := hcell 0 (by omega)
        rw [Go.Deep.add_add, Nat.mul_comm] at this
        exact this
      · have := hcell 1 (by omega)
        rw [Go.Deep.add_add, Nat.mul_comm] at this
        exact this
    haveI : Inhabited Ln := ⟨⟨0, []⟩⟩
    obtain ⟨q, hq⟩ := Go.Deep.choose_lt each
    refine ⟨some a, len, cap, (List.range len).map q, rfl, hl, ⟨by simp, fun j y hj => ?_⟩, fun y hy => ?_, hrn⟩
    · have hjl : j < len := by simpa using (List.getElem?_eq_some_iff.1 hj).1
      rw [List.getElem?_map, List.getElem?_range hjl] at hj
      injection hj with hj
      subst hj
      obtain ⟨B, k, c, q1, q2, q3, q4, q5, q6, q7⟩ := hq j hjl
      have hp : a = ⟨a.block, a.off, none⟩ := by
        obtain ⟨_, _, _, z1, _⟩ := hq 0 (by omega)
        exact a_plain (by simpa [Addr.add] using z1)
      rw [hp, a_add] at q1 q2
      exact ⟨a.block, a.off, B, k, c, congrArg some hp, World.block_lt_of_cell? w ⟨a.block, a.off + 2 * j, none⟩ q1, by rw [Nat.mul_comm j 2]; exact q1, by rw [Nat.mul_comm j 2]; exact q2, q3, q6, q7⟩
    · obtain ⟨i, hi, rfl⟩ := List.mem_map.1 hy
      obtain ⟨_, _, _, _, _, _, q4, q5, _⟩ := hq i (List.mem_range.1 hi)
      exact ⟨q4, q5⟩
end
end Go.Proofs.YtiijclibcfgnpaaGreat.Sto

namespace Go.Proofs.YtiijclibcfgnpaaGreat.Sto
open Go.ChangeShapes Go.WideShapes Go.ChangeAt Go.RowKit Disk Log

theorem aty_acts : Tryz.prog.underlying 22 = some (.slice 39) := by kernel_rfl
theorem ace_act : Tryz.prog.cellsOf 39 = 3 := by kernel_rfl
theorem asz_act : Tryz.prog.bytesOf 39 = 40 := by kernel_rfl
section
variable {H : Type} {enc : TypeId × Value → H} {w : World} {base : Nat} {spare : Nat → Bool} {held : Bool}

theorem open_act {fuel : Nat} {cs : List Value} {x : DataW H × List MemPlace} (h : DataW.trod enc Tryz.prog w base spare held fuel 39 cs = some x) (hw : Wt 39 x.1) : ∃ (y : A1) (B : Option Addr) (c : Nat), cs = [.int .u8 (y.do_ : Int), .int .u64 (y.e : Int), .slice B y.l.length c] ∧ LnS (fun b => b < w.heap.size) w B y.l.length y.l ∧ y.Ok ∧ ∀ z ∈ y.l, z.bytes.length ≤ reachBytes := by
  obtain ⟨xs, m, _, hx, hlen, hxl, hf⟩ := DataW.trod_struct Tryz.underlying39 h
  rw [ace_act] at hlen
  have hxl : xs.length = 3 := hxl
  obtain ⟨y0, y1, y2, rfl⟩ := alist3 hxl
  obtain ⟨v0, v1, v2, rfl⟩ := alist3 hlen
  have g0 := hf 0 _ rfl
  have g1 := hf 1 _ rfl
  have g2 := hf 2 _ rfl
  simp [ace_u64, ace_u8, ace_lines] at g0 g1 g2
  have hw2 : Wt 33 y2.1 := fun n hn => hw n (by rw [hx]; simp [DataW.weights, Tryz.underlying39, DataW.weightsEach, hn])
  obtain ⟨d, e0, hd⟩ := open_u8n g0
  obtain ⟨e, e1, he⟩ := open_u64n g1
  obtain ⟨A, n, c, ls, e2, h1, h2, h3, -⟩ := open_lines g2 hw2
  simp at e0 e1 e2
  subst e0 e1 e2
  have hn := h2.len
  subst hn
  exact ⟨⟨d, e, ls⟩, A, c, rfl, h2, ⟨hd, he, fun y hy => (h3 y hy).1⟩, fun y hy => (h3 y hy).2⟩
theorem open_acts {fuel : Nat} {cs : List Value} {x : DataW H × List MemPlace} (h : DataW.trod enc Tryz.prog w base spare held fuel 22 cs = some x) (hw : Wt 22 x.1) : ∃ A n c ls, cs = [.slice A n c] ∧ n ≤ c ∧ n ≤ reachBytes ∧ ActS (fun b => b < w.heap.size) w A n ls ∧ ∀ x ∈ ls, ∀ y ∈ x.l, y.bytes.length ≤ reachBytes := by
  rcases Go.Deep.open_slice aty_acts h with ⟨rfl, _⟩ | ⟨a, len, cap, m, n, D, Pl, rfl, _, hl, _, hmm, hx, hel⟩
  · exact ⟨none, 0, 0, [], rfl, Nat.le_refl _, Nat.zero_le _, ⟨rfl, fun j x hj => by simp at hj⟩, fun y hy => by cases hy⟩
  · have hml : len ≤ m := by rw [hmm]; split <;> omega
    have hr : len ≤ reachBytes := by
      have := hw _ (by rw [hx]; simp only [DataW.weights, aty_acts]; exact List.mem_cons_self)
      rw [asz_act] at this
      simp at this
      omega
    have each : ∀ i, i < len → ∃ y : A1, ∃ B c, w.cell? (a.add (3 * i)) = some (.int .u8 (y.do_ : Int)) ∧ w.cell? (a.add (3 * i + 1)) = some (.int .u64 (y.e : Int)) ∧ w.cell? (a.add (3 * i + 2)) = some (.slice B y.l.length c) ∧ LnS (fun b => b < w.heap.size) w B y.l.length y.l ∧ y.Ok ∧ ∀ z ∈ y.l, z.bytes.length ≤ reachBytes := by
      intro i hi
      obtain ⟨cs', h1, h2⟩ := hel i (by omega)
      rw [ace_act] at h1
      obtain ⟨_, hlen, hcell⟩ := World.cells?_some h1
      obtain ⟨y, B, c, rfl, q1, q2, q3⟩ := open_act h2 fun v hv => hw v (by
        rw [hx]
        simp only [DataW.weights, aty_acts, List.mem_cons, List.mem_append]
        exact .inr (.inl (weights_mem (List.mem_map.2 ⟨i, List.mem_range.2 hi, rfl⟩) v hv)))
      refine ⟨y, B, c, ?_, ?_, ?_, q1, q2, q3⟩
      · have := hcell 0 (by omega)
        rw [Go.Deep.add_add, Nat.mul_comm] at this
        exact this
      · have := hcell 1 (by omega)
        rw [Go.Deep.add_add, Nat.mul_comm] at this
        exact this
      · have := hcell 2 (by omega)
        rw [Go.Deep.add_add, Nat.mul_comm] at this
        exact this
    haveI : Inhabited A1 := ⟨⟨0, 0, []⟩⟩
    obtain ⟨q, hq⟩ := Go.Deep.choose_lt each
    refine ⟨some a, len, cap, (List.range len).map q, rfl, hl, hr, ⟨by simp, fun j y hj => ?_⟩, fun y hy => ?_⟩
    · have hjl : j < len := by simpa using (List.getElem?_eq_some_iff.1 hj).1
      rw [List.getElem?_map, List.getElem?_range hjl] at hj
      injection hj with hj
      subst hj
      obtain ⟨B, c, q1, q2, q3, q4, q5, q6⟩ := hq j hjl
      have hp : a = ⟨a.block, a.off, none⟩ := by
        obtain ⟨_, _, z1, _⟩ := hq 0 (by omega)
        exact a_plain (by simpa [Addr.add] using z1)
      rw [hp, a_add] at q1 q2 q3
      exact ⟨a.block, a.off, B, c, congrArg some hp, by rw [Nat.mul_comm j 3]; exact q1, by rw [Nat.mul_comm j 3]; exact q2, by rw [Nat.mul_comm j 3]; exact q3, q4, q5⟩
    · obtain ⟨i, hi, rfl⟩ := List.mem_map.1 hy
      obtain ⟨_, _, _, _, _, _, _, q6⟩ := hq i (List.mem_range.1 hi)
      exact q6
set_option maxRecDepth 100000 in
theorem arg_acts {b0 : Nat} {r : Reach} {v : Value} {d : DataW H} {ps : List MemPlace} (hv : Value.okWide Tryz.prog w r b0 22 v) (h : DataW.Trod enc Tryz.prog w base spare held 22 v d ps) (hw : Wt 22 d) : ∃ A n c ls, v = .slice A n c ∧ n ≤ c ∧ n ≤ reachBytes ∧ ActS (fun b => b < w.heap.size) w A n ls ∧ ∀ x ∈ ls, ∀ y ∈ x.l, y.bytes.length ≤ reachBytes := by
  obtain ⟨A, n, c, rfl⟩ := okWide_slice aty_acts hv
  obtain ⟨fuel, h⟩ := h
  obtain ⟨A', n', c', xs, e, h1, h2, h3, h4⟩ := open_acts h hw
  simp [Value.cells] at e
  obtain ⟨rfl, rfl, rfl⟩ := e
  exact ⟨_, _, _, xs, rfl, h1, h2, h3, h4⟩
end
end Go.Proofs.YtiijclibcfgnpaaGreat.Sto

namespace Go.Proofs.YtiijclibcfgnpaaGreat.Sto
open Go.RowKit Disk Log

section
variable {w0 w w' : World} {Z P : Nat → Prop} {gs gd n : Nat} {k : Kp} {N : Nat}
def thnA (x : A1) (k : Kp) (p : Nat) : Kp := match deedA x with | none => k | some D => thn D k p
def ansA (x : A1) (k : Kp) (p : Nat) : Int := match deedA x with | none => 0 | some D => ans D k p
theorem does_ss (h : Ss w0 w Z gs gd n k N) (hN : N + 4 < 65536) (x : A1) (hx : x.Ok) (hs : Laid x.l) (B : Option Addr) (c : Nat) (hl : LnS P w B x.l.length x.l) (hP : ∀ b, P b → ¬ Z b ∧ b < w.heap.size) :
    Calls Tryz.prog 16 #[.pointer (some ⟨gs, 0, none⟩), actV x B c] w (SsTo (.int .i64 (ansA x k (n / 2))) w0 Z gs gd n (thnA x k (n / 2)) (N + 4) w) := by
  obtain ⟨d, h1, h2, h3⟩ := h
  refine (does_any h1 hN x hx hs B c hl hP).mono fun e w' q => ?_
  unfold ansA thnA
  rcases q with ⟨q1, q2, q3⟩ | ⟨D, y, q1, q2, q3⟩
  · rw [q1]
    exact ⟨q2, Z, ⟨d, (h1.below_ q3).mono (by omega), h2, h3⟩, Grow.of_below q3⟩
  · rw [q1]
    exact ss_after h2 h3 q2 q3
end
end Go.Proofs.YtiijclibcfgnpaaGreat.Sto

namespace Go.Proofs.YtiijclibcfgnpaaGreat.Sto
open Go.RowKit Disk Log

set_option maxRecDepth 8000 in
set_option maxHeartbeats 1000000 in
theorem append_nil (w : World) : Calls Tryz.prog 55 #[.pointer none, .slice none 0 0] w fun r w' => r = .returned (.int .i64 8) ∧ Below w.heap.size w w' := by
  obtain ⟨W, hW⟩ : ∃ W, W = (w.alloc (.cells #[.slice none 0 0] 33)) := ⟨_, rfl⟩
  have hb1 : Below w.heap.size w W := by rw [hW]; exact (Below.refl _ _).alloc (Nat.le_refl _) _
  have k1 : Bk W w.heap.size 33 #[.slice none 0 0] := by rw [hW]; exact Bk.new w _ _
  have CM := Lib.hid (add_make2 (fun _ => False) [] none 0 W (LnS.nil_ _ _ _))
  have kc0 : W.cell? ⟨w.heap.size, 0, none⟩ = some (.slice none 0 0) := k1.cell 0
  have hmf : ∀ (fn : Fn) (first cap : Array Value) (w : World), (Instr.makeFunc fn first cap).run Tryz.prog w = .ok (.func fn first cap) w := fun _ _ _ _ => rfl
  rw [hW] at kc0
  have HWE := Lib.hid hW
  have HB1 := Lib.hid hb1
  clear hb1 k1 hW
  go_enter Tryz.func55, Tryz.ntmps55
  go_wp2_with fail
  rw [← HWE.out]
  refine CM.out.mono ?_
  rintro _ w2 ⟨v, rfl, hv, hb⟩
  obtain ⟨b2, A, c, rfl, -, -, -⟩ := hv
  have HB2 := Lib.hid (HB1.out.trans (hb.mono HB1.out.size))
  clear hb CM
  go_wp2_with fail
  refine (keep_nil _ _ _ _ w2).mono ?_
  rintro _ w3 ⟨rfl, hb⟩
  have HB3 := Lib.hid (HB2.out.trans (hb.mono HB2.out.size))
  clear hb
  go_wp2_with fail
  go_ret
  exact ⟨rfl, HB3.out⟩
section
variable {w0 w w' : World} {Z Q : Nat → Prop} {gs gd n : Nat} {d : DK} {p : Nat} {La Lb : LK} {lv : Bool} {k : Kp} {met : Bool} {N : Nat}
theorem Sw.out (h : Sw w0 w Z gs gd d p La Lb lv k met) (ho : Out Q w w') (hq : ∀ b, Q b → ¬ Z b ∧ w0.heap.size ≤ b) : Sw w0 w' Z gs gd d p La Lb lv k met := by
  obtain ⟨⟨ga, gb, X, Ya, Yb, V, h1, h2⟩, h6, h7, h8⟩ := h
  exact ⟨⟨ga, gb, X, Ya, Yb, V, h1.out ho fun b hb q => (hq b q).1 (h2 b hb), h2⟩, ho.below h6 (fun b hb => (hq b hb).2) h6.size, h7, fun b hb => Nat.lt_of_lt_of_le (h8 b hb) ho.size⟩
theorem Ss.out (h : Ss w0 w Z gs gd n k N) (ho : Out Q w w') (hq : ∀ b, Q b → ¬ Z b ∧ w0.heap.size ≤ b) : Ss w0 w' Z gs gd n k N := by
  obtain ⟨d, ⟨La, Lb, lv, h1, h2⟩, h3⟩ := h
  exact ⟨d, ⟨La, Lb, lv, h1.out ho hq, h2⟩, h3⟩
end
end Go.Proofs.YtiijclibcfgnpaaGreat.Sto

namespace Go.Proofs.YtiijclibcfgnpaaGreat.Sto
open Go.RowKit Disk Log

section
variable {w0 w w' : World} {Z X : Nat → Prop} {gs gd n : Nat} {k : Kp} {N : Nat}
end
theorem small_new {w0 w : World} {n : Nat} (h1 : 1 ≤ n) (h8 : n < 8) (hb : Below w0.heap.size w0 w) : Calls Tryz.prog 12 #[.int .i64 (n : Int)] w fun e w' => ∃ gd X, e = .returned (.tuple #[.pointer (some ⟨gd, 0, none⟩), .int .i64 0]) ∧ St w0 w' X gd (DK.new n) := 
  (new_st n w0 w h1 (by omega) hb).mono fun e w' ⟨gd, X, he, h1, h2, h3⟩ => ⟨gd, X, he, h1⟩
theorem small_open {w0 w : World} {X : Nat → Prop} {gd n : Nat} (h : St w0 w X gd (DK.new n)) (h8 : n < 8) : Calls Tryz.prog 13 #[.pointer (some ⟨gd, 0, none⟩)] w fun e w' => e = .returned (.tuple #[.pointer none, .int .i64 1]) ∧ w = w' :=
  sopen_small h.at_ rfl (by show (List.replicate _ _).length < 8; rw [List.length_replicate]; exact h8)
end Go.Proofs.YtiijclibcfgnpaaGreat.Sto
