/- RegionBelow: below a path that has a region all have one, under the same root. For every input the call returns true, and each argument reads afterwards as it read before. No conditions. -/
import Derived.Test.YtnmlknhomhonaaaDoorRegQuiet
import Derived.Test.YtnmlknhomhonaaaDoorPathFrame
namespace Go.Proofs.YtnmlknhomhonaaaDoor.regionBelow
open Go.ChangeShapes Go.WideShapes Go.ChangeAt Go.RowKit Path Reg

theorem join_ok {p m q : List UInt8} (h : joinF p m = (q, 0)) : q.length ≤ 64 ∧ underF q p = true := by
  unfold joinF at h
  cases hp : partsF p with
  | none => rw [hp] at h; cases h
  | some ps =>
    rw [hp] at h
    dsimp only at h
    by_cases hm : name m = true
    · rw [if_pos hm] at h
      by_cases hl : (ofL (ps ++ [m])).length ≤ 64
      · rw [if_pos hl] at h
        injection h with h _
        subst h
        have hps := ((parts_iff p ps).1 hp).2.2
        refine ⟨hl, (under_iff _ _).2 ⟨ps ++ [m], ps, (parts_iff _ _).2 ⟨rfl, hl, fun s hs => ?_⟩, hp, by simp⟩⟩
        rcases List.mem_append.1 hs with h | h
        · exact hps s h
        · rw [List.mem_singleton.1 h]; exact hm
      · rw [if_neg hl] at h
        cases h
    · rw [if_neg hm] at h
      cases h
theorem of_under {ls : List (List UInt8)} {p q : List UInt8} {i : Nat} (hi : i < ls.length) (h2 : underF p (ls.getD i []) = true) (hq : underF q p = true) : ∃ j : Nat, j < ls.length ∧ ofF ls q = (j : Int) ∧ underF (ls.getD j []) (ls.getD i []) = true := by
  have h3 := under_on hq h2
  rcases ofF_spec ls q with ⟨_, h⟩ | ⟨j, hj, h, _, h4⟩
  · rw [h i hi] at h3; cases h3
  · exact ⟨j, hj, h, (h4 i hi h3).1⟩
theorem all3 {ls : List (List UInt8)} {p q : List UInt8} {i j : Nat} (hp : ofF ls p = (i : Int)) (hq : ofF ls q = (j : Int)) : allF ls [] [p, q, p] = (if j = i then (i : Int) else 0, if j = i then (0 : Int) else 60) := by
  unfold allF pathsF
  rw [if_neg (show ¬ [p, q, p].length = 0 by simp)]
  simp only [List.headD_cons, List.any_cons, List.any_nil, hp, hq]
  by_cases h : j = i
  · subst h
    simp
  · have : ¬ (j : Int) = (i : Int) := by omega
    simp [h]
    exact this
theorem all3_any (ls : List (List UInt8)) (p q : List UInt8) (i j : Nat) (hp : ofF ls p = (i : Int)) (hq : ofF ls q = (j : Int)) (A : Option Addr) (n c g : Nat) (w : World) (hS : RdV w A n (sv ls)) (hn : n ≤ 1000000) (hl : ∀ x ∈ ls, x.length ≤ 1000000) (hpl : p.length ≤ 1000000) (hql : q.length ≤ 1000000)
    (hO : OrS w (some ⟨g, 0, none⟩) 3 [⟨0, p, none, 0, 0, 0, false, false, none, 0, 0⟩, ⟨0, q, none, 0, 0, 0, false, false, none, 0, 0⟩, ⟨0, p, none, 0, 0, 0, false, false, none, 0, 0⟩]) :
    Calls Tryd.prog 15 #[.slice A n c, orV ⟨7, [], none, 0, 0, 0, false, false, some ⟨g, 0, none⟩, 3, 3⟩] w fun e w' => e = .returned (.tuple #[.int .i64 (if j = i then (i : Int) else 0), .int .i64 (if j = i then (0 : Int) else 60)]) ∧ Below w.heap.size w w' := by
  have h := all_any ls ⟨7, [], none, 0, 0, 0, false, false, some ⟨g, 0, none⟩, 3, 3⟩ [⟨0, p, none, 0, 0, 0, false, false, none, 0, 0⟩, ⟨0, q, none, 0, 0, 0, false, false, none, 0, 0⟩, ⟨0, p, none, 0, 0, 0, false, false, none, 0, 0⟩] A n c w hS hn hl hO (show 3 ≤ 1000000 by decide) (show ([] : List UInt8).length ≤ 1000000 by decide) (fun o ho => by
    rcases List.mem_cons.1 ho with rfl | ho
    · exact hpl
    · rcases List.mem_cons.1 ho with rfl | ho
      · exact hql
      · rw [List.mem_singleton.1 ho]; exact hpl)
  have e : allF ls (OR.path ⟨7, [], none, 0, 0, 0, false, false, some ⟨g, 0, none⟩, 3, 3⟩) (pathsL [⟨0, p, none, 0, 0, 0, false, false, none, 0, 0⟩, ⟨0, q, none, 0, 0, 0, false, false, none, 0, 0⟩, ⟨0, p, none, 0, 0, 0, false, false, none, 0, 0⟩]) = _ := all3 hp hq
  rw [e] at h
  exact h
set_option maxRecDepth 100000 in
set_option maxHeartbeats 1500000 in
theorem walk (ls : List (List UInt8)) (p m : List UInt8) (A : Option Addr) (n c : Nat)  (w : World) (hS : RdV w A n (sv ls)) (hc : n ≤ c) : Calls Tryd.prog 6 #[.slice A n c, .string (S p), .string (S m)] w fun e w' => e = .returned (.bool true) ∧ Below w.heap.size w w' := by
  have HS := Lib.hid hS
  have hln : ls.length = n := by rw [← hS.len, sv_length]
  have HLN := Lib.hid hln
  have cl := long_any ls A n c w hS
  have hsznp : (S p).size = p.length := S_size p
  have hszp : ((S p).size : Int) = (p.length : Int) := by rw [S_size]
  have hsznm : (S m).size = m.length := S_size m
  have hszm : ((S m).size : Int) = (m.length : Int) := by rw [S_size]
  cases hlo : longF ls
  · have HLG := Lib.hid (long_no hlo)
    rw [hlo] at cl
    by_cases hpp : 200 < p.length
    · have hpip : (200 : Int) < (p.length : Int) := by omega
      clear hS hln hlo hpp
      generalize S p = sp at *
      generalize S m = sm at *
      go_enter Tryd.func6, Tryd.ntmps6
      go_wp2_with fail
      refine cl.mono ?_
      rintro e w1 ⟨rfl, hb⟩
      have B1 := Lib.hid hb
      clear hb cl
      go_wp2_with fail
      refine (finds_any _).mono ?_
      rintro e wf ⟨rfl, hb⟩
      have BF := Lib.hid (B1.out.trans (hb.mono B1.out.size))
      clear hb
      go_wp2_with fail
      go_ret
      exact ⟨rfl, BF.out⟩
    · have hpip : ¬ (200 : Int) < (p.length : Int) := by omega
      have hpjp : decide ((200 : Int) < (p.length : Int)) = false := decide_eq_false hpip
      have HPp : Hid (p.length ≤ 200) := by show _ ≤ _; omega
      clear hpp
      by_cases hpm : 60 < m.length
      · have hpim : (60 : Int) < (m.length : Int) := by omega
        clear hS hln hlo hpm
        generalize S p = sp at *
        generalize S m = sm at *
        go_enter Tryd.func6, Tryd.ntmps6
        go_wp2_with fail
        refine cl.mono ?_
        rintro e w1 ⟨rfl, hb⟩
        have B1 := Lib.hid hb
        clear hb cl
        go_wp2_with fail
        refine (finds_any _).mono ?_
        rintro e wf ⟨rfl, hb⟩
        have BF := Lib.hid (B1.out.trans (hb.mono B1.out.size))
        clear hb
        go_wp2_with fail
        go_ret
        exact ⟨rfl, BF.out⟩
      · have hpim : ¬ (60 : Int) < (m.length : Int) := by omega
        have hpjm : decide ((60 : Int) < (m.length : Int)) = false := decide_eq_false hpim
        have HPm : Hid (m.length ≤ 60) := by show _ ≤ _; omega
        clear hpm
        have HN : Hid (n ≤ 1000000) := by show _ ≤ _; have := HLG.out.1; omega
        have CK := Lib.hid (fun W (hW : Below w.heap.size w W) => check_any ls A n c W (hS.below hW) HN.out hc (fun x hx => by have := HLG.out.2 x hx; omega))
        obtain ⟨z, hz⟩ : ∃ z, z = chkF ls := ⟨_, rfl⟩
        rw [← hz] at CK
        have HZ := Lib.hid hz
        by_cases h0 : z = 0
        · subst h0
          have HC0 : Hid (chkF ls = 0) := HZ.out.symm
          clear hS hln hlo hz HZ
          obtain ⟨sp, hsp⟩ : ∃ sp, sp = S p := ⟨_, rfl⟩
          have HSp := Lib.hid hsp
          rw [← hsp] at hsznp hszp ⊢
          clear hsp
          obtain ⟨sm, hsm⟩ : ∃ sm, sm = S m := ⟨_, rfl⟩
          have HSm := Lib.hid hsm
          rw [← hsm] at hsznm hszm ⊢
          clear hsm
          go_enter Tryd.func6, Tryd.ntmps6
          go_wp2_with fail
          refine cl.mono ?_
          rintro e w1 ⟨rfl, hb⟩
          have B1 := Lib.hid hb
          clear hb cl
          have ck := CK.out w1 B1.out
          go_wp2_with fail
          refine ck.mono ?_
          rintro e w2 ⟨rfl, hb⟩
          have B2 := Lib.hid (B1.out.trans (hb.mono B1.out.size))
          clear hb ck CK
          obtain ⟨q, e0, hj⟩ : ∃ q e0, joinF p m = (q, e0) := ⟨_, _, rfl⟩
          have cj := Join_any p m w2 (by have := HPp.out; omega) (by have := HPm.out; omega)
          rw [hj] at cj
          dsimp only at cj
          obtain ⟨sq, hsq⟩ : ∃ sq, sq = S q := ⟨_, rfl⟩
          have HSq := Lib.hid hsq
          rw [← HSp.out, ← HSm.out, ← hsq] at cj
          have HJ := Lib.hid hj
          have CO := Lib.hid (fun W (hW : Below w.heap.size w W) => of_any ls p A n c W (HS.out.below hW) HN.out (by have := HPp.out; omega) (fun x hx => by have := HLG.out.2 x hx; omega))
          rw [← HSp.out] at CO
          have HSPC := Lib.hid (ofF_spec ls p)
          clear hj hsq
          go_wp2_with fail
          refine cj.mono ?_
          rintro e w3 ⟨rfl, hb⟩
          have B3 := Lib.hid (B2.out.trans (hb.mono B2.out.size))
          clear hb cj
          have co := CO.out w3 B3.out
          clear CO
          rcases HSPC.out with ⟨h1, _⟩ | ⟨i, hi, h1, h2, _⟩
          · rw [h1] at co
            clear h1
            go_wp2_with fail
            refine co.mono ?_
            rintro e w4 ⟨rfl, hb⟩
            have B4 := Lib.hid (B3.out.trans (hb.mono B3.out.size))
            clear hb co
            by_cases he : e0 = 0
            · subst he
              go_wp2_with fail
              refine (finds_any _).mono ?_
              rintro e wf ⟨rfl, hb⟩
              have BF := Lib.hid (B4.out.trans (hb.mono B4.out.size))
              clear hb
              go_wp2_with fail
              go_ret
              exact ⟨rfl, BF.out⟩
            · have z1 : (e0 == 0) = false := beq_eq_false_iff_ne.2 he
              have z2 : (e0 != 0) = true := by rw [bne, z1]; rfl
              go_wp2_with fail
              refine (finds_any _).mono ?_
              rintro e wf ⟨rfl, hb⟩
              have BF := Lib.hid (B4.out.trans (hb.mono B4.out.size))
              clear hb
              go_wp2_with fail
              go_ret
              exact ⟨rfl, BF.out⟩
          · by_cases he : e0 = 0
            · subst he
              obtain ⟨hql, hqu⟩ := join_ok HJ.out
              obtain ⟨j, hj, h3, h4⟩ := of_under hi h2 hqu
              have hin : i < n := by rw [← HLN.out]; exact hi
              have hjn : j < n := by rw [← HLN.out]; exact hj
              have vi : (i : Int) < (n : Int) := by omega
              have vj : (j : Int) < (n : Int) := by omega
              have vi2 : ¬ (n : Int) ≤ (i : Int) := by omega
              have vj2 : ¬ (n : Int) ≤ (j : Int) := by omega
              have vj3 : ¬ n ≤ j := by omega
              have CQ := Lib.hid (fun W (hW : Below w.heap.size w W) => of_any ls q A n c W (HS.out.below hW) HN.out (by omega) (fun x hx => by have := HLG.out.2 x hx; omega))
              rw [← HSq.out, h3] at CQ
              rw [h1] at co
              rw [getD_at ls [] hj, getD_at ls [] hi] at h4
              have hx : ls[j].length ≤ 200 := HLG.out.2 _ (List.getElem_mem hj)
              have hy : ls[i].length ≤ 200 := HLG.out.2 _ (List.getElem_mem hi)
              have CU := Lib.hid (fun W => Under_any ls[j] ls[i] W (by omega) (by omega))
              rw [h4] at CU
              have CF := Lib.hid (fun W => finds_any W)
              have HQL := Lib.hid hql
              have HPQ : Hid (p.length ≤ 1000000) := by show _ ≤ _; have := HPp.out; omega
              have HA := Lib.hid (fun g W hW hO => all3_any ls p q i j h1 h3 A n c g W hW HN.out (fun x hx => by have := HLG.out.2 x hx; omega) HPQ.out (by have := HQL.out; omega) hO)
              clear h1 h2 h3 h4 hqu hql hx hy
              go_wp2_with fail
              refine co.mono ?_
              rintro e w4 ⟨rfl, hb⟩
              have B4 := Lib.hid (B3.out.trans (hb.mono B3.out.size))
              have cq := CQ.out w4 B4.out
              clear hb co CQ
              go_wp2_with fail
              refine cq.mono ?_
              rintro e w5 ⟨rfl, hb⟩
              have B5 := Lib.hid (B4.out.trans (hb.mono B4.out.size))
              clear hb cq
              obtain ⟨W6, hW6⟩ : ∃ x, w5.alloc (.cells #[.int .u8 0, .string sp, .slice none 0 0, .int .i64 0, .bool false, .bool false, .slice none 0 0, .int .u8 0, .string sq, .slice none 0 0, .int .i64 0, .bool false, .bool false, .slice none 0 0, .int .u8 0, .string sp, .slice none 0 0, .int .i64 0, .bool false, .bool false, .slice none 0 0] 32) = x := ⟨_, rfl⟩
              have OX6 : Hid (OrS W6 (some ⟨w5.heap.size, 0, none⟩) 3 [⟨0, p, none, 0, 0, 0, false, false, none, 0, 0⟩, ⟨0, q, none, 0, 0, 0, false, false, none, 0, 0⟩, ⟨0, p, none, 0, 0, 0, false, false, none, 0, 0⟩]) := by show OrS _ _ _ _; rw [← hW6, HSp.out, HSq.out]; exact or_lit w5 [⟨0, p, none, 0, 0, 0, false, false, none, 0, 0⟩, ⟨0, q, none, 0, 0, 0, false, false, none, 0, 0⟩, ⟨0, p, none, 0, 0, 0, false, false, none, 0, 0⟩]
              have BX6 : Hid (Below w.heap.size w W6) := by show Below _ _ _; rw [← hW6]; exact B5.out.alloc B5.out.size _
              have ca := HA.out w5.heap.size W6 (HS.out.below BX6.out) OX6.out
              obtain ⟨bb, oo, rfl, hca⟩ := text_at (HS.out.below BX6.out) hj
              obtain ⟨bb', oo', e', hcb⟩ := text_at (HS.out.below BX6.out) hi
              injection e' with e'
              injection e' with e1 e2
              subst e1 e2
              by_cases hji : j = i
              · rw [if_pos hji, if_pos hji] at ca
                subst hji
                generalize ls[j] = x at *
                have HCE : Hid (∀ W, Below W6.heap.size W6 W → W.cell? ⟨bb, oo + j, none⟩ = some (.string (S x)) ∧ W.cell? ⟨bb, oo + j, none⟩ = some (.string (S x))) := fun W hW => ⟨by simpa only [World.drewN_zero] using hca W hW 0, by simpa only [World.drewN_zero] using hcb W hW 0⟩
                clear hca hcb HA OX6
                generalize S x = sx at *
                have vji : ((j : Int) == (j : Int)) = true := beq_self_eq_true _
                go_wp2_with fail
                refine ca.mono ?_
                rintro e w7 ⟨rfl, hb⟩
                have HC : Hid (∀ W, Below w7.heap.size w7 W → W.cell? ⟨bb, oo + j, none⟩ = some (.string sx) ∧ W.cell? ⟨bb, oo + j, none⟩ = some (.string sx)) := fun W hW => HCE.out W (hb.trans (hW.mono hb.size))
                have B7 := Lib.hid (BX6.out.trans (hb.mono BX6.out.size))
                clear hb ca HCE
                go_wp2_with fail
                refine wq_lit (C := fun W => Below w7.heap.size w7 W) (by kernel_rfl) (by kernel_rfl) (Below.refl w7.heap.size w7).drew ?_
                refine wq_want (by kernel_rfl) ?_
                apply Exists.intro
                refine And.intro (fun W hW => ?_) ?_
                · unfold Oper.quietAt
                  go_simp
                  exact rfl
                try simp only [Act.put, List.setIfInBounds_toArray, List.set_cons_zero, List.set_cons_succ]
                refine wq_want (by kernel_rfl) ?_
                apply Exists.intro
                refine And.intro (fun W hW => ?_) ?_
                · unfold Oper.quietAt
                  go_simp
                  exact rfl
                try simp only [Act.put, List.setIfInBounds_toArray, List.set_cons_zero, List.set_cons_succ]
                refine wq_want (by kernel_rfl) ?_
                apply Exists.intro
                refine And.intro (fun W hW => ?_) ?_
                · have hh := HC.out W hW
                  obtain ⟨hq1, hq3⟩ := hh
                  unfold Oper.quietAt
                  first
                   | (go_simp; done)
                   | (go_simp; exact rfl)
                try simp only [Act.put, List.setIfInBounds_toArray, List.set_cons_zero, List.set_cons_succ]
                refine wq_want (by kernel_rfl) ?_
                apply Exists.intro
                refine And.intro (fun W hW => ?_) ?_
                · have hh := HC.out W hW
                  obtain ⟨hq1, hq3⟩ := hh
                  unfold Oper.quietAt
                  first
                   | (go_simp; done)
                   | (go_simp; exact rfl)
                try simp only [Act.put, List.setIfInBounds_toArray, List.set_cons_zero, List.set_cons_succ]
                refine wq_want (by kernel_rfl) ?_
                apply Exists.intro
                refine And.intro (fun W hW => ?_) ?_
                · unfold Oper.quietAt
                  go_simp
                  exact rfl
                try simp only [Act.put, List.setIfInBounds_toArray, List.set_cons_zero, List.set_cons_succ]
                refine wq_want (by kernel_rfl) ?_
                apply Exists.intro
                refine And.intro (fun W hW => ?_) ?_
                · unfold Oper.quietAt
                  go_simp
                  exact rfl
                try simp only [Act.put, List.setIfInBounds_toArray, List.set_cons_zero, List.set_cons_succ]
                refine wq_want (by kernel_rfl) ?_
                apply Exists.intro
                refine And.intro (fun W hW => ?_) ?_
                · have hh := HC.out W hW
                  obtain ⟨hq1, hq3⟩ := hh
                  unfold Oper.quietAt
                  first
                   | (go_simp; done)
                   | (go_simp; exact rfl)
                try simp only [Act.put, List.setIfInBounds_toArray, List.set_cons_zero, List.set_cons_succ]
                refine wq_want (by kernel_rfl) ?_
                apply Exists.intro
                refine And.intro (fun W hW => ?_) ?_
                · have hh := HC.out W hW
                  obtain ⟨hq1, hq3⟩ := hh
                  unfold Oper.quietAt
                  first
                   | (go_simp; done)
                   | (go_simp; exact rfl)
                try simp only [Act.put, List.setIfInBounds_toArray, List.set_cons_zero, List.set_cons_succ]
                refine wq_want (by kernel_rfl) ?_
                apply Exists.intro
                refine And.intro (fun W hW => ?_) ?_
                · unfold Oper.quietAt
                  go_simp
                  refine (CU.out W).mono ?_
                  rintro e w'' ⟨rfl, hg⟩
                  exact ⟨rfl, hW.trans (hg.mono hW.size)⟩
                try simp only [Act.put, List.setIfInBounds_toArray, List.set_cons_zero, List.set_cons_succ]
                refine wq_want (by kernel_rfl) ?_
                apply Exists.intro
                refine And.intro (fun W hW => ?_) ?_
                · unfold Oper.quietAt
                  go_simp
                  exact rfl
                try simp only [Act.put, List.setIfInBounds_toArray, List.set_cons_zero, List.set_cons_succ]
                refine wq_want (by kernel_rfl) ?_
                apply Exists.intro
                refine And.intro (fun W hW => ?_) ?_
                · unfold Oper.quietAt
                  go_simp
                  exact rfl
                try simp only [Act.put, List.setIfInBounds_toArray, List.set_cons_zero, List.set_cons_succ]
                refine wq_want (by kernel_rfl) ?_
                apply Exists.intro
                refine And.intro (fun W hW => ?_) ?_
                · have hh := HC.out W hW
                  obtain ⟨hq1, hq3⟩ := hh
                  unfold Oper.quietAt
                  first
                   | (go_simp; done)
                   | (go_simp; exact rfl)
                try simp only [Act.put, List.setIfInBounds_toArray, List.set_cons_zero, List.set_cons_succ]
                refine wq_want (by kernel_rfl) ?_
                apply Exists.intro
                refine And.intro (fun W hW => ?_) ?_
                · unfold Oper.quietAt
                  go_simp
                  exact rfl
                try simp only [Act.put, List.setIfInBounds_toArray, List.set_cons_zero, List.set_cons_succ]
                refine wq_want (by kernel_rfl) ?_
                apply Exists.intro
                refine And.intro (fun W hW => ?_) ?_
                · unfold Oper.quietAt
                  go_simp
                  exact rfl
                try simp only [Act.put, List.setIfInBounds_toArray, List.set_cons_zero, List.set_cons_succ]
                refine wq_want (by kernel_rfl) ?_
                apply Exists.intro
                refine And.intro (fun W hW => ?_) ?_
                · have hh := HC.out W hW
                  obtain ⟨hq1, hq3⟩ := hh
                  unfold Oper.quietAt
                  first
                   | (go_simp; done)
                   | (go_simp; exact rfl)
                try simp only [Act.put, List.setIfInBounds_toArray, List.set_cons_zero, List.set_cons_succ]
                refine wq_want (by kernel_rfl) ?_
                apply Exists.intro
                refine And.intro (fun W hW => ?_) ?_
                · have hh := HC.out W hW
                  obtain ⟨hq1, hq3⟩ := hh
                  unfold Oper.quietAt
                  first
                   | (go_simp; done)
                   | (go_simp; exact rfl)
                try simp only [Act.put, List.setIfInBounds_toArray, List.set_cons_zero, List.set_cons_succ]
                refine wq_want (by kernel_rfl) ?_
                apply Exists.intro
                refine And.intro (fun W hW => ?_) ?_
                · have hh := HC.out W hW
                  obtain ⟨hq1, hq3⟩ := hh
                  unfold Oper.quietAt
                  first
                   | (go_simp; done)
                   | (go_simp; exact rfl)
                try simp only [Act.put, List.setIfInBounds_toArray, List.set_cons_zero, List.set_cons_succ]
                refine wq_want (by kernel_rfl) ?_
                apply Exists.intro
                refine And.intro (fun W hW => ?_) ?_
                · unfold Oper.quietAt
                  go_simp
                  exact rfl
                try simp only [Act.put, List.setIfInBounds_toArray, List.set_cons_zero, List.set_cons_succ]
                refine wq_want (by kernel_rfl) ?_
                apply Exists.intro
                refine And.intro (fun W hW => ?_) ?_
                · unfold Oper.quietAt
                  go_simp
                  exact rfl
                try simp only [Act.put, List.setIfInBounds_toArray, List.set_cons_zero, List.set_cons_succ]
                refine wq_want (by kernel_rfl) ?_
                apply Exists.intro
                refine And.intro (fun W hW => ?_) ?_
                · have hh := HC.out W hW
                  obtain ⟨hq1, hq3⟩ := hh
                  unfold Oper.quietAt
                  first
                   | (go_simp; done)
                   | (go_simp; exact rfl)
                try simp only [Act.put, List.setIfInBounds_toArray, List.set_cons_zero, List.set_cons_succ]
                refine wq_want (by kernel_rfl) ?_
                apply Exists.intro
                refine And.intro (fun W hW => ?_) ?_
                · unfold Oper.quietAt
                  go_simp
                  exact rfl
                try simp only [Act.put, List.setIfInBounds_toArray, List.set_cons_zero, List.set_cons_succ]
                refine wq_want (by kernel_rfl) ?_
                apply Exists.intro
                refine And.intro (fun W hW => ?_) ?_
                · unfold Oper.quietAt
                  go_simp
                  exact rfl
                try simp only [Act.put, List.setIfInBounds_toArray, List.set_cons_zero, List.set_cons_succ]
                refine wq_want (by kernel_rfl) ?_
                apply Exists.intro
                refine And.intro (fun W hW => ?_) ?_
                · unfold Oper.quietAt
                  go_simp
                  exact rfl
                try simp only [Act.put, List.setIfInBounds_toArray, List.set_cons_zero, List.set_cons_succ]
                refine wq_want (by kernel_rfl) ?_
                apply Exists.intro
                refine And.intro (fun W hW => ?_) ?_
                · have hh := HC.out W hW
                  obtain ⟨hq1, hq3⟩ := hh
                  unfold Oper.quietAt
                  first
                   | (go_simp; done)
                   | (go_simp; exact rfl)
                try simp only [Act.put, List.setIfInBounds_toArray, List.set_cons_zero, List.set_cons_succ]
                refine wq_want (by kernel_rfl) ?_
                apply Exists.intro
                refine And.intro (fun W hW => ?_) ?_
                · have hh := HC.out W hW
                  obtain ⟨hq1, hq3⟩ := hh
                  unfold Oper.quietAt
                  first
                   | (go_simp; done)
                   | (go_simp; exact rfl)
                try simp only [Act.put, List.setIfInBounds_toArray, List.set_cons_zero, List.set_cons_succ]
                refine wq_want (by kernel_rfl) ?_
                apply Exists.intro
                refine And.intro (fun W hW => ?_) ?_
                · have hh := HC.out W hW
                  obtain ⟨hq1, hq3⟩ := hh
                  unfold Oper.quietAt
                  first
                   | (go_simp; done)
                   | (go_simp; exact rfl)
                try simp only [Act.put, List.setIfInBounds_toArray, List.set_cons_zero, List.set_cons_succ]
                refine wq_want (by kernel_rfl) ?_
                apply Exists.intro
                refine And.intro (fun W hW => ?_) ?_
                · unfold Oper.quietAt
                  go_simp
                  exact rfl
                try simp only [Act.put, List.setIfInBounds_toArray, List.set_cons_zero, List.set_cons_succ]
                refine wq_want (by kernel_rfl) ?_
                apply Exists.intro
                refine And.intro (fun W hW => ?_) ?_
                · unfold Oper.quietAt
                  go_simp
                  refine (CF.out W).mono ?_
                  rintro e w'' ⟨rfl, hg⟩
                  exact ⟨rfl, hW.trans (hg.mono hW.size)⟩
                try simp only [Act.put, List.setIfInBounds_toArray, List.set_cons_zero, List.set_cons_succ]
                refine wq_want (by kernel_rfl) ?_
                apply Exists.intro
                refine And.intro (fun W hW => ?_) ?_
                · have hh := HC.out W hW
                  obtain ⟨hq1, hq3⟩ := hh
                  unfold Oper.quietAt
                  first
                   | (go_simp; done)
                   | (go_simp; exact rfl)
                try simp only [Act.put, List.setIfInBounds_toArray, List.set_cons_zero, List.set_cons_succ]
                refine wq_want (by kernel_rfl) ?_
                apply Exists.intro
                refine And.intro (fun W hW => ?_) ?_
                · unfold Oper.quietAt
                  go_simp
                  exact rfl
                try simp only [Act.put, List.setIfInBounds_toArray, List.set_cons_zero, List.set_cons_succ]
                refine wq_nil ?_
                intro wq hwq
                have B8 := Lib.hid (B7.out.trans (hwq.mono B7.out.size))
                clear hwq
                go_wp2_with fail
                go_ret
                exact ⟨rfl, B8.out⟩
              · rw [if_neg hji, if_neg hji] at ca
                generalize ls[j] = x at *
                generalize ls[i] = y at *
                have HCE : Hid (∀ W, Below W6.heap.size W6 W → W.cell? ⟨bb, oo + j, none⟩ = some (.string (S x)) ∧ W.cell? ⟨bb, oo + i, none⟩ = some (.string (S y))) := fun W hW => ⟨by simpa only [World.drewN_zero] using hca W hW 0, by simpa only [World.drewN_zero] using hcb W hW 0⟩
                clear hca hcb HA OX6
                generalize S x = sx at *
                generalize S y = sy at *
                have vji : ((j : Int) == (i : Int)) = false := beq_eq_false_iff_ne.2 (by omega)
                have vji2 : (j == i) = false := beq_eq_false_iff_ne.2 hji
                go_wp2_with fail
                refine ca.mono ?_
                rintro e w7 ⟨rfl, hb⟩
                have HC : Hid (∀ W, Below w7.heap.size w7 W → W.cell? ⟨bb, oo + j, none⟩ = some (.string sx) ∧ W.cell? ⟨bb, oo + i, none⟩ = some (.string sy)) := fun W hW => HCE.out W (hb.trans (hW.mono hb.size))
                have B7 := Lib.hid (BX6.out.trans (hb.mono BX6.out.size))
                clear hb ca HCE
                go_wp2_with fail
                refine wq_lit (C := fun W => Below w7.heap.size w7 W) (by kernel_rfl) (by kernel_rfl) (Below.refl w7.heap.size w7).drew ?_
                refine wq_want (by kernel_rfl) ?_
                apply Exists.intro
                refine And.intro (fun W hW => ?_) ?_
                · unfold Oper.quietAt
                  go_simp
                  exact rfl
                try simp only [Act.put, List.setIfInBounds_toArray, List.set_cons_zero, List.set_cons_succ]
                refine wq_want (by kernel_rfl) ?_
                apply Exists.intro
                refine And.intro (fun W hW => ?_) ?_
                · unfold Oper.quietAt
                  go_simp
                  exact rfl
                try simp only [Act.put, List.setIfInBounds_toArray, List.set_cons_zero, List.set_cons_succ]
                refine wq_want (by kernel_rfl) ?_
                apply Exists.intro
                refine And.intro (fun W hW => ?_) ?_
                · have hh := HC.out W hW
                  obtain ⟨hq1, hq3⟩ := hh
                  unfold Oper.quietAt
                  first
                   | (go_simp; done)
                   | (go_simp; exact rfl)
                try simp only [Act.put, List.setIfInBounds_toArray, List.set_cons_zero, List.set_cons_succ]
                refine wq_want (by kernel_rfl) ?_
                apply Exists.intro
                refine And.intro (fun W hW => ?_) ?_
                · have hh := HC.out W hW
                  obtain ⟨hq1, hq3⟩ := hh
                  unfold Oper.quietAt
                  first
                   | (go_simp; done)
                   | (go_simp; exact rfl)
                try simp only [Act.put, List.setIfInBounds_toArray, List.set_cons_zero, List.set_cons_succ]
                refine wq_want (by kernel_rfl) ?_
                apply Exists.intro
                refine And.intro (fun W hW => ?_) ?_
                · unfold Oper.quietAt
                  go_simp
                  exact rfl
                try simp only [Act.put, List.setIfInBounds_toArray, List.set_cons_zero, List.set_cons_succ]
                refine wq_want (by kernel_rfl) ?_
                apply Exists.intro
                refine And.intro (fun W hW => ?_) ?_
                · unfold Oper.quietAt
                  go_simp
                  exact rfl
                try simp only [Act.put, List.setIfInBounds_toArray, List.set_cons_zero, List.set_cons_succ]
                refine wq_want (by kernel_rfl) ?_
                apply Exists.intro
                refine And.intro (fun W hW => ?_) ?_
                · have hh := HC.out W hW
                  obtain ⟨hq1, hq3⟩ := hh
                  unfold Oper.quietAt
                  first
                   | (go_simp; done)
                   | (go_simp; exact rfl)
                try simp only [Act.put, List.setIfInBounds_toArray, List.set_cons_zero, List.set_cons_succ]
                refine wq_want (by kernel_rfl) ?_
                apply Exists.intro
                refine And.intro (fun W hW => ?_) ?_
                · have hh := HC.out W hW
                  obtain ⟨hq1, hq3⟩ := hh
                  unfold Oper.quietAt
                  first
                   | (go_simp; done)
                   | (go_simp; exact rfl)
                try simp only [Act.put, List.setIfInBounds_toArray, List.set_cons_zero, List.set_cons_succ]
                refine wq_want (by kernel_rfl) ?_
                apply Exists.intro
                refine And.intro (fun W hW => ?_) ?_
                · unfold Oper.quietAt
                  go_simp
                  refine (CU.out W).mono ?_
                  rintro e w'' ⟨rfl, hg⟩
                  exact ⟨rfl, hW.trans (hg.mono hW.size)⟩
                try simp only [Act.put, List.setIfInBounds_toArray, List.set_cons_zero, List.set_cons_succ]
                refine wq_want (by kernel_rfl) ?_
                apply Exists.intro
                refine And.intro (fun W hW => ?_) ?_
                · unfold Oper.quietAt
                  go_simp
                  exact rfl
                try simp only [Act.put, List.setIfInBounds_toArray, List.set_cons_zero, List.set_cons_succ]
                refine wq_want (by kernel_rfl) ?_
                apply Exists.intro
                refine And.intro (fun W hW => ?_) ?_
                · unfold Oper.quietAt
                  go_simp
                  exact rfl
                try simp only [Act.put, List.setIfInBounds_toArray, List.set_cons_zero, List.set_cons_succ]
                refine wq_want (by kernel_rfl) ?_
                apply Exists.intro
                refine And.intro (fun W hW => ?_) ?_
                · have hh := HC.out W hW
                  obtain ⟨hq1, hq3⟩ := hh
                  unfold Oper.quietAt
                  first
                   | (go_simp; done)
                   | (go_simp; exact rfl)
                try simp only [Act.put, List.setIfInBounds_toArray, List.set_cons_zero, List.set_cons_succ]
                refine wq_want (by kernel_rfl) ?_
                apply Exists.intro
                refine And.intro (fun W hW => ?_) ?_
                · unfold Oper.quietAt
                  go_simp
                  exact rfl
                try simp only [Act.put, List.setIfInBounds_toArray, List.set_cons_zero, List.set_cons_succ]
                refine wq_want (by kernel_rfl) ?_
                apply Exists.intro
                refine And.intro (fun W hW => ?_) ?_
                · unfold Oper.quietAt
                  go_simp
                  exact rfl
                try simp only [Act.put, List.setIfInBounds_toArray, List.set_cons_zero, List.set_cons_succ]
                refine wq_want (by kernel_rfl) ?_
                apply Exists.intro
                refine And.intro (fun W hW => ?_) ?_
                · have hh := HC.out W hW
                  obtain ⟨hq1, hq3⟩ := hh
                  unfold Oper.quietAt
                  first
                   | (go_simp; done)
                   | (go_simp; exact rfl)
                try simp only [Act.put, List.setIfInBounds_toArray, List.set_cons_zero, List.set_cons_succ]
                refine wq_want (by kernel_rfl) ?_
                apply Exists.intro
                refine And.intro (fun W hW => ?_) ?_
                · have hh := HC.out W hW
                  obtain ⟨hq1, hq3⟩ := hh
                  unfold Oper.quietAt
                  first
                   | (go_simp; done)
                   | (go_simp; exact rfl)
                try simp only [Act.put, List.setIfInBounds_toArray, List.set_cons_zero, List.set_cons_succ]
                refine wq_want (by kernel_rfl) ?_
                apply Exists.intro
                refine And.intro (fun W hW => ?_) ?_
                · have hh := HC.out W hW
                  obtain ⟨hq1, hq3⟩ := hh
                  unfold Oper.quietAt
                  first
                   | (go_simp; done)
                   | (go_simp; exact rfl)
                try simp only [Act.put, List.setIfInBounds_toArray, List.set_cons_zero, List.set_cons_succ]
                refine wq_want (by kernel_rfl) ?_
                apply Exists.intro
                refine And.intro (fun W hW => ?_) ?_
                · unfold Oper.quietAt
                  go_simp
                  exact rfl
                try simp only [Act.put, List.setIfInBounds_toArray, List.set_cons_zero, List.set_cons_succ]
                refine wq_want (by kernel_rfl) ?_
                apply Exists.intro
                refine And.intro (fun W hW => ?_) ?_
                · unfold Oper.quietAt
                  go_simp
                  exact rfl
                try simp only [Act.put, List.setIfInBounds_toArray, List.set_cons_zero, List.set_cons_succ]
                refine wq_want (by kernel_rfl) ?_
                apply Exists.intro
                refine And.intro (fun W hW => ?_) ?_
                · have hh := HC.out W hW
                  obtain ⟨hq1, hq3⟩ := hh
                  unfold Oper.quietAt
                  first
                   | (go_simp; done)
                   | (go_simp; exact rfl)
                try simp only [Act.put, List.setIfInBounds_toArray, List.set_cons_zero, List.set_cons_succ]
                refine wq_want (by kernel_rfl) ?_
                apply Exists.intro
                refine And.intro (fun W hW => ?_) ?_
                · unfold Oper.quietAt
                  go_simp
                  exact rfl
                try simp only [Act.put, List.setIfInBounds_toArray, List.set_cons_zero, List.set_cons_succ]
                refine wq_skip (by kernel_rfl) ?_
                try simp only [Act.put, List.setIfInBounds_toArray, List.set_cons_zero, List.set_cons_succ]
                refine wq_skip (by kernel_rfl) ?_
                try simp only [Act.put, List.setIfInBounds_toArray, List.set_cons_zero, List.set_cons_succ]
                refine wq_skip (by kernel_rfl) ?_
                try simp only [Act.put, List.setIfInBounds_toArray, List.set_cons_zero, List.set_cons_succ]
                refine wq_want (by kernel_rfl) ?_
                apply Exists.intro
                refine And.intro (fun W hW => ?_) ?_
                · have hh := HC.out W hW
                  obtain ⟨hq1, hq3⟩ := hh
                  unfold Oper.quietAt
                  first
                   | (go_simp; done)
                   | (go_simp; exact rfl)
                try simp only [Act.put, List.setIfInBounds_toArray, List.set_cons_zero, List.set_cons_succ]
                refine wq_want (by kernel_rfl) ?_
                apply Exists.intro
                refine And.intro (fun W hW => ?_) ?_
                · have hh := HC.out W hW
                  obtain ⟨hq1, hq3⟩ := hh
                  unfold Oper.quietAt
                  first
                   | (go_simp; done)
                   | (go_simp; exact rfl)
                try simp only [Act.put, List.setIfInBounds_toArray, List.set_cons_zero, List.set_cons_succ]
                refine wq_want (by kernel_rfl) ?_
                apply Exists.intro
                refine And.intro (fun W hW => ?_) ?_
                · unfold Oper.quietAt
                  go_simp
                  exact rfl
                try simp only [Act.put, List.setIfInBounds_toArray, List.set_cons_zero, List.set_cons_succ]
                refine wq_want (by kernel_rfl) ?_
                apply Exists.intro
                refine And.intro (fun W hW => ?_) ?_
                · unfold Oper.quietAt
                  go_simp
                  refine (CF.out W).mono ?_
                  rintro e w'' ⟨rfl, hg⟩
                  exact ⟨rfl, hW.trans (hg.mono hW.size)⟩
                try simp only [Act.put, List.setIfInBounds_toArray, List.set_cons_zero, List.set_cons_succ]
                refine wq_want (by kernel_rfl) ?_
                apply Exists.intro
                refine And.intro (fun W hW => ?_) ?_
                · have hh := HC.out W hW
                  obtain ⟨hq1, hq3⟩ := hh
                  unfold Oper.quietAt
                  first
                   | (go_simp; done)
                   | (go_simp; exact rfl)
                try simp only [Act.put, List.setIfInBounds_toArray, List.set_cons_zero, List.set_cons_succ]
                refine wq_want (by kernel_rfl) ?_
                apply Exists.intro
                refine And.intro (fun W hW => ?_) ?_
                · unfold Oper.quietAt
                  go_simp
                  exact rfl
                try simp only [Act.put, List.setIfInBounds_toArray, List.set_cons_zero, List.set_cons_succ]
                refine wq_nil ?_
                intro wq hwq
                have B8 := Lib.hid (B7.out.trans (hwq.mono B7.out.size))
                clear hwq
                go_wp2_with fail
                go_ret
                exact ⟨rfl, B8.out⟩
            · rw [h1] at co
              have z1 : (e0 == 0) = false := beq_eq_false_iff_ne.2 he
              have z2 : (e0 != 0) = true := by rw [bne, z1]; rfl
              clear h1 h2
              go_wp2_with fail
              refine co.mono ?_
              rintro e w4 ⟨rfl, hb⟩
              have B4 := Lib.hid (B3.out.trans (hb.mono B3.out.size))
              clear hb co
              go_wp2_with fail
              refine (finds_any _).mono ?_
              rintro e wf ⟨rfl, hb⟩
              have BF := Lib.hid (B4.out.trans (hb.mono B4.out.size))
              clear hb
              go_wp2_with fail
              go_ret
              exact ⟨rfl, BF.out⟩
        · have hz2 : (z == 0) = false := beq_eq_false_iff_ne.2 h0
          have hz3 : (z != 0) = true := by rw [bne, hz2]; rfl
          clear hS hln hlo hz HZ
          generalize S p = sp at *
          generalize S m = sm at *
          go_enter Tryd.func6, Tryd.ntmps6
          go_wp2_with fail
          refine cl.mono ?_
          rintro e w1 ⟨rfl, hb⟩
          have B1 := Lib.hid hb
          clear hb cl
          have ck := CK.out w1 B1.out
          go_wp2_with fail
          refine ck.mono ?_
          rintro e w2 ⟨rfl, hb⟩
          have B2 := Lib.hid (B1.out.trans (hb.mono B1.out.size))
          clear hb ck CK
          go_wp2_with fail
          refine (finds_any _).mono ?_
          rintro e wf ⟨rfl, hb⟩
          have BF := Lib.hid (B2.out.trans (hb.mono B2.out.size))
          clear hb
          go_wp2_with fail
          go_ret
          exact ⟨rfl, BF.out⟩
  · rw [hlo] at cl
    clear hS hln hlo
    generalize S p = sp at *
    generalize S m = sm at *
    go_enter Tryd.func6, Tryd.ntmps6
    go_wp2_with fail
    refine cl.mono ?_
    rintro e w1 ⟨rfl, hb⟩
    have B1 := Lib.hid hb
    clear hb cl
    go_wp2_with fail
    refine (finds_any _).mono ?_
    rintro e wf ⟨rfl, hb⟩
    have BF := Lib.hid (B1.out.trans (hb.mono B1.out.size))
    clear hb
    go_wp2_with fail
    go_ret
    exact ⟨rfl, BF.out⟩

set_option maxRecDepth 100000 in
theorem lifted (os : Os) (started : os.Started) (H : Type) (enc : TypeId × Value → H) :
    ReturnsInHanded {} Tryd.checked os 6 .any (fun w args => (Rows.regionBelowSpec.pre enc Tryd.prog Tryd.f6 Rows.regionBelowRow.domain false w args ∧ laidMetH Tryd.prog Rows.regionBelowRow.laid w) ∧ sizedMet enc Tryd.prog Tryd.f6 (OpenSpec.ofChange Rows.regionBelowSpec) false w args) (Rows.regionBelowSpec.post enc Tryd.prog Tryd.f6 false true false false) := by
  refine returnsInHanded_of_change_and (C := Tryd.checked) (X := fun w _ => laidMetH Tryd.prog Rows.regionBelowRow.laid w) (fun _ _ _ hh h => h.of_heap hh) own started (by kernel_rfl) Tryd.func6
    (ChangeSpec.witness_shaped (enc := enc) (C := Tryd.checked) (os := os) (X := fun w _ => laidMetH Tryd.prog Rows.regionBelowRow.laid w) false (World.laidAll Tryd.prog os Rows.regionBelowRow.laid) #[.slice none 0 0, .string ⟨#[]⟩, .string ⟨#[]⟩] 8 (World.laidAll_os _ _ _)
      (World.shaped_of_ZipB (by kernel_rfl) (by kernel_rfl)) (by kernel_rfl) (by kernel_rfl) (by kernel_rfl)
      (by rw [MakeChecks.laidMetH_plain _ _ _ (by kernel_rfl)]; exact laidMet_laidAll _ (by kernel_rfl) (by kernel_rfl))) ?_
  intro W base args ds gs before hval0 hW _ _ _ _
  have hval : ∀ (j : Nat) t v, Tryd.f6.params[j]? = some t → args[j]? = some v → Value.okWide Tryd.prog W .any base t v := hval0
  have hW' := hW
  obtain ⟨p, q, hA0, hV, rfl, hfz, hnd⟩ := hW
  have hA : DataW.TrodAll enc Tryd.prog W 0 (fun _ => true) true Tryd.f6.params.toList args.toList ds p := hA0
  rw [Tryd.params6] at hA hval
  obtain ⟨v0, v1, v2, d0, d1, d2, p0, p1, p2, rfl, rfl, rfl, h0, h1, h2⟩ := trodAll_three hA
  obtain ⟨rfl, rfl⟩ := trodVars_none hV
  obtain ⟨A, n, c, ls, rfl, hc, hcm, hS⟩ := arg_texts (hval 0 _ v0 rfl rfl) h0
  obtain ⟨l, rfl⟩ := open_text ty_string (hval 1 _ v1 rfl rfl)
  obtain ⟨m, rfl⟩ := open_text ty_string (hval 2 _ v2 rfl rfl)
  refine (walk ls l m A n c W hS hc).mono fun e W' ⟨he, hb⟩ => ?_
  subst he
  exact ⟨_, rfl, post_true laidOut (by kernel_rfl) ty_bool (by kernel_rfl) rfl hW' hb rfl⟩

theorem over : Rows.regionBelowRow.holds Tryd.pinned (OpenSpec.ofChange Rows.regionBelowSpec) :=
  OpenClaim.holds_of_wide 6 Tryd.f6 rfl rfl rfl rfl rfl rfl rfl ⟨rfl, rfl, rfl, rfl, rfl⟩ rfl rfl rfl rfl rfl (by kernel_rfl) Tryd.func6 (by kernel_rfl)
    (of_decide_eq_true (by kernel_rfl)) (by unfold Func.isWrapper; first | (rw [if_pos (by decide +kernel)]; kernel_rfl) | (rw [if_neg (by decide +kernel)]; exact ⟨rfl, rfl⟩))
    (fun os started H enc _ => lifted os started H enc)

theorem proved : Rows.RegionBelowCardSaid :=
  Claim7.holds_tied_plain_at .later [] Rows.regionBelowCard.laidKinds true Rows.regionBelowCard.stood.harness Rows.regionBelowCard.stood.looks over (fun _ h => by cases h) (by kernel_rfl) (fun _ h => by cases h) regionBelow_row_tie rfl ⟨rfl, rfl⟩ (by kernel_rfl) rfl
    (fun f fn hf hfn => by
      obtain rfl : f = 6 := Option.some.inj ((show Tryd.pinned.checked.prog.funcNamed Rows.regionBelowRow.func = some 6 by kernel_rfl).symm.trans hf) |>.symm
      obtain rfl : fn = Tryd.f6 := (Option.some.inj (Tryd.func6.symm.trans hfn)).symm
      exact ⟨by kernel_rfl, fun j t ht => by
        have hall : (Tryd.f6.params.toList.all fun u => !Tryd.prog.wantsStandIn u) = true := by kernel_rfl
        exact (show Tryd.prog.wantsStandIn t = false by simpa using List.all_eq_true.1 hall t (by simpa using Array.mem_of_getElem? ht))⟩)
    (by kernel_rfl)
end Go.Proofs.YtnmlknhomhonaaaDoor.regionBelow
