/- RegionLongest: a path has the region of a root that it is under, and all other roots that it is under that one is under; it has none just if it is under none; a root's region is its own. For every input the call returns true, and each argument reads afterwards as it read before. No conditions. -/
import Derived.Test.YtnmlknhomhonaaaDoorRegQuiet
import Derived.Test.YtnmlknhomhonaaaDoorPathFrame
namespace Go.Proofs.YtnmlknhomhonaaaDoor.regionLongest
open Go.ChangeShapes Go.WideShapes Go.ChangeAt Go.RowKit Path Reg

def RelB (w : World) (n : Nat) (i : Value) (wr : World) : Prop := ∃ k : Nat, k ≤ n ∧ i = .int .i64 (k : Int) ∧ Below w.heap.size w wr
set_option maxRecDepth 100000 in
set_option maxHeartbeats 8000000 in
theorem walk (ls : List (List UInt8)) (p : List UInt8) (A : Option Addr) (n c : Nat) (w : World) (hS : RdV w A n (sv ls)) (hc : n ≤ c) : Calls Tryd.prog 5 #[.slice A n c, .string (S p)] w fun e w' => e = .returned (.bool true) ∧ Below w.heap.size w w' := by
  have HS := Lib.hid hS
  have hln : ls.length = n := by rw [← hS.len, sv_length]
  have HLN := Lib.hid hln
  have cl := long_any ls A n c w hS
  have hszn : (S p).size = p.length := S_size p
  have hsz : ((S p).size : Int) = (p.length : Int) := by rw [S_size]
  cases hlo : longF ls
  · have HLG := Lib.hid (long_no hlo)
    rw [hlo] at cl
    by_cases hp : 200 < p.length
    · have hpi : (200 : Int) < (p.length : Int) := by omega
      generalize S p = sp at *
      clear hS hln hlo hp
      go_enter Tryd.func5, Tryd.ntmps5
      go_wp2_with fail
      refine cl.mono ?_
      rintro e w1 ⟨rfl, hb⟩
      have B1 := Lib.hid hb
      clear hb cl
      go_wp2_with fail
      refine (finds_any _).mono ?_
      rintro e wf ⟨rfl, hb⟩
      have BF := Lib.hid (B1.out.trans (hb.mono B1.out.size))
      clear hb
      go_wp2_with fail
      go_ret
      exact ⟨rfl, BF.out⟩
    · have hpi : ¬ (200 : Int) < (p.length : Int) := by omega
      have hpi' : decide ((200 : Int) < (p.length : Int)) = false := decide_eq_false hpi
      have HP : Hid (p.length ≤ 200) := by show _ ≤ _; omega
      have hN : n ≤ 1000000 := by have := HLG.out.1; omega
      have HN := Lib.hid hN
      have CK := Lib.hid (fun W (hW : Below w.heap.size w W) => check_any ls A n c W (hS.below hW) hN hc (fun x hx => by have := HLG.out.2 x hx; omega))
      obtain ⟨z, hz⟩ : ∃ z, z = chkF ls := ⟨_, rfl⟩
      rw [← hz] at CK
      have HZ := Lib.hid hz
      by_cases h0 : z = 0
      · subst h0
        have HC0 : Hid (chkF ls = 0) := HZ.out.symm
        clear hS hln hlo hp hz
        obtain ⟨sp, hsp⟩ : ∃ sp, sp = S p := ⟨_, rfl⟩
        have HSP := Lib.hid hsp
        rw [← hsp] at hszn hsz ⊢
        clear hsp
        go_enter Tryd.func5, Tryd.ntmps5
        go_wp2_with fail
        refine cl.mono ?_
        rintro e w1 ⟨rfl, hb⟩
        have B1 := Lib.hid hb
        clear hb cl
        have ck := CK.out w1 B1.out
        go_wp2_with fail
        refine ck.mono ?_
        rintro e w2 ⟨rfl, hb⟩
        have B2 := Lib.hid (B1.out.trans (hb.mono B1.out.size))
        clear hb ck CK hszn hsz hpi hpi'
        have co := of_any ls p A n c w2 (HS.out.below B2.out) HN.out (by have := HP.out; omega) (fun x hx => by have := HLG.out.2 x hx; omega)
        rw [← HSP.out] at co
        have HSPC := Lib.hid (ofF_spec ls p)
        obtain ⟨at_, hat⟩ : ∃ at_, at_ = ofF ls p := ⟨_, rfl⟩
        rw [← hat] at co HSPC
        clear hat
        go_wp2_with fail
        refine co.mono ?_
        rintro e w3 ⟨rfl, hb⟩
        have B3 := Lib.hid (B2.out.trans (hb.mono B2.out.size))
        clear hb co
        rcases HSPC.out with ⟨e1, hall⟩ | ⟨a, ha, e1, hua, hall⟩
        · subst e1
          have HALL := Lib.hid hall
          have vn : ¬ (n : Int) ≤ -1 := by omega
          have vn2 : (-1 : Int) < (n : Int) := by omega
          clear hall HSPC
          go_wp2_with fail
          go_loopw [6] (fun i wr => RelB w n i wr) (fun i _ => n - (intOf i).toNat)
          case atStart => exact ⟨0, Nat.zero_le _, rfl, B3.out⟩
          case round =>
            obtain ⟨k, hk, rfl, hbr⟩ := hrel
            have BR := Lib.hid hbr
            clear hbr
            by_cases hlt : k < n
            · have hjx : k < ls.length := by rw [HLN.out]; exact hlt
              obtain ⟨bb, oo, rfl, hcells⟩ := text_at (HS.out.below BR.out) hjx
              have q1 := hcells _ (Below.refl _ _) 0
              simp only [World.drewN_zero] at q1
              have co := of_any ls ls[k] _ n c wr (HS.out.below BR.out) HN.out (by have := HLG.out.2 _ (List.getElem_mem hjx); omega) (fun x hx => by have := HLG.out.2 x hx; omega)
              have HRT := of_root HC0.out hjx
              have hgk := getD_at ls [] hjx
              rw [hgk] at HRT
              rw [HRT] at co
              have HXU : underF p ls[k] = false := by
                have := HALL.out k hjx
                rwa [hgk] at this
              have hyl : ls[k].length ≤ 200 := HLG.out.2 _ (List.getElem_mem _)
              generalize ls[k] = y at *
              have CU := Lib.hid (fun W => Under_any p y W (by have := HP.out; omega) (by omega))
              rw [← HSP.out] at CU
              clear HRT hgk
              have vk : (k : Int) < (n : Int) := by omega
              go_wp2_with fail
              refine co.mono ?_
              rintro e w4 ⟨rfl, hb⟩
              rw [HXU] at CU
              clear HXU
              have HC : Hid (∀ W, Below w4.heap.size w4 W → W.cell? ⟨bb, oo + k, none⟩ = some (.string (S y))) := fun W hW => by simpa only [World.drewN_zero] using hcells W ((hb.trans (hW.mono hb.size))) 0
              have B4 := Lib.hid (BR.out.trans (hb.mono BR.out.size))
              clear hb co q1 hcells
              go_wp2_with fail
              refine wq_lit (C := fun W => Below w4.heap.size w4 W) (by kernel_rfl) (by kernel_rfl) (Below.refl w4.heap.size w4).drew ?_
              refine wq_want (by kernel_rfl) ?_
              apply Exists.intro
              refine And.intro (fun W hW => ?_) ?_
              · unfold Oper.quietAt
                go_simp
                exact rfl
              try simp only [Act.put, List.setIfInBounds_toArray, List.set_cons_zero, List.set_cons_succ]
              refine wq_want (by kernel_rfl) ?_
              apply Exists.intro
              refine And.intro (fun W hW => ?_) ?_
              · unfold Oper.quietAt
                go_simp
                exact rfl
              try simp only [Act.put, List.setIfInBounds_toArray, List.set_cons_zero, List.set_cons_succ]
              refine wq_want (by kernel_rfl) ?_
              apply Exists.intro
              refine And.intro (fun W hW => ?_) ?_
              · unfold Oper.quietAt
                go_simp
                exact rfl
              try simp only [Act.put, List.setIfInBounds_toArray, List.set_cons_zero, List.set_cons_succ]
              refine wq_want (by kernel_rfl) ?_
              apply Exists.intro
              refine And.intro (fun W hW => ?_) ?_
              · have hh := HC.out W hW
                have hq1 := hh
                unfold Oper.quietAt
                first
                 | (go_simp; done)
                 | (go_simp; exact rfl)
              try simp only [Act.put, List.setIfInBounds_toArray, List.set_cons_zero, List.set_cons_succ]
              refine wq_want (by kernel_rfl) ?_
              apply Exists.intro
              refine And.intro (fun W hW => ?_) ?_
              · have hh := HC.out W hW
                have hq1 := hh
                unfold Oper.quietAt
                first
                 | (go_simp; done)
                 | (go_simp; exact rfl)
              try simp only [Act.put, List.setIfInBounds_toArray, List.set_cons_zero, List.set_cons_succ]
              refine wq_want (by kernel_rfl) ?_
              apply Exists.intro
              refine And.intro (fun W hW => ?_) ?_
              · unfold Oper.quietAt
                go_simp
                refine (CU.out W).mono ?_
                rintro e w'' ⟨rfl, hg⟩
                exact ⟨rfl, hW.trans (hg.mono hW.size)⟩
              try simp only [Act.put, List.setIfInBounds_toArray, List.set_cons_zero, List.set_cons_succ]
              refine wq_want (by kernel_rfl) ?_
              apply Exists.intro
              refine And.intro (fun W hW => ?_) ?_
              · unfold Oper.quietAt
                go_simp
                exact rfl
              try simp only [Act.put, List.setIfInBounds_toArray, List.set_cons_zero, List.set_cons_succ]
              refine wq_skip (by kernel_rfl) ?_
              try simp only [Act.put, List.setIfInBounds_toArray, List.set_cons_zero, List.set_cons_succ]
              refine wq_skip (by kernel_rfl) ?_
              try simp only [Act.put, List.setIfInBounds_toArray, List.set_cons_zero, List.set_cons_succ]
              refine wq_skip (by kernel_rfl) ?_
              try simp only [Act.put, List.setIfInBounds_toArray, List.set_cons_zero, List.set_cons_succ]
              refine wq_skip (by kernel_rfl) ?_
              try simp only [Act.put, List.setIfInBounds_toArray, List.set_cons_zero, List.set_cons_succ]
              refine wq_skip (by kernel_rfl) ?_
              try simp only [Act.put, List.setIfInBounds_toArray, List.set_cons_zero, List.set_cons_succ]
              refine wq_skip (by kernel_rfl) ?_
              try simp only [Act.put, List.setIfInBounds_toArray, List.set_cons_zero, List.set_cons_succ]
              refine wq_skip (by kernel_rfl) ?_
              try simp only [Act.put, List.setIfInBounds_toArray, List.set_cons_zero, List.set_cons_succ]
              refine wq_skip (by kernel_rfl) ?_
              try simp only [Act.put, List.setIfInBounds_toArray, List.set_cons_zero, List.set_cons_succ]
              refine wq_skip (by kernel_rfl) ?_
              try simp only [Act.put, List.setIfInBounds_toArray, List.set_cons_zero, List.set_cons_succ]
              refine wq_skip (by kernel_rfl) ?_
              try simp only [Act.put, List.setIfInBounds_toArray, List.set_cons_zero, List.set_cons_succ]
              refine wq_skip (by kernel_rfl) ?_
              try simp only [Act.put, List.setIfInBounds_toArray, List.set_cons_zero, List.set_cons_succ]
              refine wq_skip (by kernel_rfl) ?_
              try simp only [Act.put, List.setIfInBounds_toArray, List.set_cons_zero, List.set_cons_succ]
              refine wq_skip (by kernel_rfl) ?_
              try simp only [Act.put, List.setIfInBounds_toArray, List.set_cons_zero, List.set_cons_succ]
              refine wq_skip (by kernel_rfl) ?_
              try simp only [Act.put, List.setIfInBounds_toArray, List.set_cons_zero, List.set_cons_succ]
              refine wq_want (by kernel_rfl) ?_
              apply Exists.intro
              refine And.intro (fun W hW => ?_) ?_
              · have hh := HC.out W hW
                have hq1 := hh
                unfold Oper.quietAt
                first
                 | (go_simp; done)
                 | (go_simp; exact rfl)
              try simp only [Act.put, List.setIfInBounds_toArray, List.set_cons_zero, List.set_cons_succ]
              refine wq_nil ?_
              intro wq hwq
              have B5 := Lib.hid (B4.out.trans (hwq.mono B4.out.size))
              clear hwq
              go_wp2_with fail
              go_roundw
              case rel => exact ⟨k + 1, by omega, by go_num, B5.out⟩
              case measure => simp [intOf]; omega
            · obtain rfl : k = n := by omega
              clear hlt
              have v1 : ¬ (k : Int) < (k : Int) := by omega
              go_wp2_with fail
              refine (finds_any _).mono ?_
              rintro e wf ⟨rfl, hb⟩
              have BF := Lib.hid (BR.out.trans (hb.mono BR.out.size))
              clear hb
              go_wp2_with fail
              go_ret
              exact ⟨rfl, BF.out⟩
        · subst e1
          have HALL := Lib.hid hall
          have HUA := Lib.hid hua
          rw [HLN.out] at ha
          have va : (a : Int) < (n : Int) := by omega
          have va2 : ¬ (n : Int) ≤ (a : Int) := by omega
          have va5 : ¬ n ≤ a := by omega
          have va6 : decide (n ≤ a) = false := decide_eq_false va5
          have va3 : ¬ (a : Int) < -1 := by omega
          have va4 : decide ((a : Int) < -1) = false := decide_eq_false va3
          clear hall hua HSPC
          go_wp2_with fail
          go_loopw [6] (fun i wr => RelB w n i wr) (fun i _ => n - (intOf i).toNat)
          case atStart => exact ⟨0, Nat.zero_le _, rfl, B3.out⟩
          case round =>
            obtain ⟨k, hk, rfl, hbr⟩ := hrel
            have BR := Lib.hid hbr
            clear hbr
            by_cases hlt : k < n
            · have hjx : k < ls.length := by rw [HLN.out]; exact hlt
              obtain ⟨bb, oo, rfl, hcells⟩ := text_at (HS.out.below BR.out) hjx
              have q1 := hcells _ (Below.refl _ _) 0
              simp only [World.drewN_zero] at q1
              have co := of_any ls ls[k] _ n c wr (HS.out.below BR.out) HN.out (by have := HLG.out.2 _ (List.getElem_mem hjx); omega) (fun x hx => by have := HLG.out.2 x hx; omega)
              have HRT := of_root HC0.out hjx
              have hgk := getD_at ls [] hjx
              rw [hgk] at HRT
              rw [HRT] at co
              have hax : a < ls.length := by rw [HLN.out]; exact ha
              obtain ⟨bb', oo', e', hca⟩ := text_at (HS.out.below BR.out) hax
              injection e' with e'
              injection e' with e1 e2
              subst e1 e2
              have hga := getD_at ls [] (show a < ls.length by rw [HLN.out]; exact ha)
              have q2 := hca _ (Below.refl _ _) 0
              simp only [World.drewN_zero] at q2
              have HXU : underF p ls[k] = true → underF ls[a] ls[k] = true := fun h => by
                have := (HALL.out k hjx (by rw [hgk]; exact h)).1
                rwa [hgk, hga] at this
              have hya : ls[a].length ≤ 200 := HLG.out.2 _ (List.getElem_mem _)
              generalize ls[a] = ya at *
              have hyl : ls[k].length ≤ 200 := HLG.out.2 _ (List.getElem_mem _)
              generalize ls[k] = y at *
              have CU := Lib.hid (fun W => Under_any p y W (by have := HP.out; omega) (by omega))
              rw [← HSP.out] at CU
              clear HRT hgk
              have vk : (k : Int) < (n : Int) := by omega
              go_wp2_with fail
              refine co.mono ?_
              rintro e w4 ⟨rfl, hb⟩
              have CU2 := Lib.hid (fun W => Under_any ya y W (by omega) (by omega))
              have va : (a : Int) < (n : Int) := by omega
              have va0 : ¬ (a : Int) < 0 := by omega
              have va1 : decide ((a : Int) < 0) = false := decide_eq_false va0
              cases hu : underF p y
              · rw [hu] at CU
                clear hu HXU q2
                have HC : Hid (∀ W, Below w4.heap.size w4 W → W.cell? ⟨bb, oo + k, none⟩ = some (.string (S y)) ∧ W.cell? ⟨bb, oo + a, none⟩ = some (.string (S ya))) := fun W hW => ⟨by simpa only [World.drewN_zero] using hcells W ((hb.trans (hW.mono hb.size))) 0, by simpa only [World.drewN_zero] using hca W ((hb.trans (hW.mono hb.size))) 0⟩
                have B4 := Lib.hid (BR.out.trans (hb.mono BR.out.size))
                clear hb co q1 hcells hca
                go_wp2_with fail
                refine wq_lit (C := fun W => Below w4.heap.size w4 W) (by kernel_rfl) (by kernel_rfl) (Below.refl w4.heap.size w4).drew ?_
                refine wq_want (by kernel_rfl) ?_
                apply Exists.intro
                refine And.intro (fun W hW => ?_) ?_
                · unfold Oper.quietAt
                  go_simp
                  exact rfl
                try simp only [Act.put, List.setIfInBounds_toArray, List.set_cons_zero, List.set_cons_succ]
                refine wq_want (by kernel_rfl) ?_
                apply Exists.intro
                refine And.intro (fun W hW => ?_) ?_
                · unfold Oper.quietAt
                  go_simp
                  exact rfl
                try simp only [Act.put, List.setIfInBounds_toArray, List.set_cons_zero, List.set_cons_succ]
                refine wq_want (by kernel_rfl) ?_
                apply Exists.intro
                refine And.intro (fun W hW => ?_) ?_
                · unfold Oper.quietAt
                  go_simp
                  exact rfl
                try simp only [Act.put, List.setIfInBounds_toArray, List.set_cons_zero, List.set_cons_succ]
                refine wq_want (by kernel_rfl) ?_
                apply Exists.intro
                refine And.intro (fun W hW => ?_) ?_
                · have hh := HC.out W hW
                  obtain ⟨hq1, hq2⟩ := hh
                  unfold Oper.quietAt
                  first
                   | (go_simp; done)
                   | (go_simp; exact rfl)
                try simp only [Act.put, List.setIfInBounds_toArray, List.set_cons_zero, List.set_cons_succ]
                refine wq_want (by kernel_rfl) ?_
                apply Exists.intro
                refine And.intro (fun W hW => ?_) ?_
                · have hh := HC.out W hW
                  obtain ⟨hq1, hq2⟩ := hh
                  unfold Oper.quietAt
                  first
                   | (go_simp; done)
                   | (go_simp; exact rfl)
                try simp only [Act.put, List.setIfInBounds_toArray, List.set_cons_zero, List.set_cons_succ]
                refine wq_want (by kernel_rfl) ?_
                apply Exists.intro
                refine And.intro (fun W hW => ?_) ?_
                · unfold Oper.quietAt
                  go_simp
                  refine (CU.out W).mono ?_
                  rintro e w'' ⟨rfl, hg⟩
                  exact ⟨rfl, hW.trans (hg.mono hW.size)⟩
                try simp only [Act.put, List.setIfInBounds_toArray, List.set_cons_zero, List.set_cons_succ]
                refine wq_want (by kernel_rfl) ?_
                apply Exists.intro
                refine And.intro (fun W hW => ?_) ?_
                · unfold Oper.quietAt
                  go_simp
                  exact rfl
                try simp only [Act.put, List.setIfInBounds_toArray, List.set_cons_zero, List.set_cons_succ]
                refine wq_skip (by kernel_rfl) ?_
                try simp only [Act.put, List.setIfInBounds_toArray, List.set_cons_zero, List.set_cons_succ]
                refine wq_skip (by kernel_rfl) ?_
                try simp only [Act.put, List.setIfInBounds_toArray, List.set_cons_zero, List.set_cons_succ]
                refine wq_skip (by kernel_rfl) ?_
                try simp only [Act.put, List.setIfInBounds_toArray, List.set_cons_zero, List.set_cons_succ]
                refine wq_skip (by kernel_rfl) ?_
                try simp only [Act.put, List.setIfInBounds_toArray, List.set_cons_zero, List.set_cons_succ]
                refine wq_skip (by kernel_rfl) ?_
                try simp only [Act.put, List.setIfInBounds_toArray, List.set_cons_zero, List.set_cons_succ]
                refine wq_skip (by kernel_rfl) ?_
                try simp only [Act.put, List.setIfInBounds_toArray, List.set_cons_zero, List.set_cons_succ]
                refine wq_skip (by kernel_rfl) ?_
                try simp only [Act.put, List.setIfInBounds_toArray, List.set_cons_zero, List.set_cons_succ]
                refine wq_skip (by kernel_rfl) ?_
                try simp only [Act.put, List.setIfInBounds_toArray, List.set_cons_zero, List.set_cons_succ]
                refine wq_skip (by kernel_rfl) ?_
                try simp only [Act.put, List.setIfInBounds_toArray, List.set_cons_zero, List.set_cons_succ]
                refine wq_skip (by kernel_rfl) ?_
                try simp only [Act.put, List.setIfInBounds_toArray, List.set_cons_zero, List.set_cons_succ]
                refine wq_skip (by kernel_rfl) ?_
                try simp only [Act.put, List.setIfInBounds_toArray, List.set_cons_zero, List.set_cons_succ]
                refine wq_skip (by kernel_rfl) ?_
                try simp only [Act.put, List.setIfInBounds_toArray, List.set_cons_zero, List.set_cons_succ]
                refine wq_skip (by kernel_rfl) ?_
                try simp only [Act.put, List.setIfInBounds_toArray, List.set_cons_zero, List.set_cons_succ]
                refine wq_skip (by kernel_rfl) ?_
                try simp only [Act.put, List.setIfInBounds_toArray, List.set_cons_zero, List.set_cons_succ]
                refine wq_want (by kernel_rfl) ?_
                apply Exists.intro
                refine And.intro (fun W hW => ?_) ?_
                · have hh := HC.out W hW
                  obtain ⟨hq1, hq2⟩ := hh
                  unfold Oper.quietAt
                  first
                   | (go_simp; done)
                   | (go_simp; exact rfl)
                try simp only [Act.put, List.setIfInBounds_toArray, List.set_cons_zero, List.set_cons_succ]
                refine wq_nil ?_
                intro wq hwq
                have B5 := Lib.hid (B4.out.trans (hwq.mono B4.out.size))
                clear hwq
                go_wp2_with fail
                go_roundw
                case rel => exact ⟨k + 1, by omega, by go_num, B5.out⟩
                case measure => simp [intOf]; omega
              · rw [hu] at CU
                have hu2 := HXU hu
                rw [hu2] at CU2
                clear hu HXU hu2 q2
                have HC : Hid (∀ W, Below w4.heap.size w4 W → W.cell? ⟨bb, oo + k, none⟩ = some (.string (S y)) ∧ W.cell? ⟨bb, oo + a, none⟩ = some (.string (S ya))) := fun W hW => ⟨by simpa only [World.drewN_zero] using hcells W ((hb.trans (hW.mono hb.size))) 0, by simpa only [World.drewN_zero] using hca W ((hb.trans (hW.mono hb.size))) 0⟩
                have B4 := Lib.hid (BR.out.trans (hb.mono BR.out.size))
                clear hb co q1 hcells hca
                go_wp2_with fail
                refine wq_lit (C := fun W => Below w4.heap.size w4 W) (by kernel_rfl) (by kernel_rfl) (Below.refl w4.heap.size w4).drew ?_
                refine wq_want (by kernel_rfl) ?_
                apply Exists.intro
                refine And.intro (fun W hW => ?_) ?_
                · unfold Oper.quietAt
                  go_simp
                  exact rfl
                try simp only [Act.put, List.setIfInBounds_toArray, List.set_cons_zero, List.set_cons_succ]
                refine wq_want (by kernel_rfl) ?_
                apply Exists.intro
                refine And.intro (fun W hW => ?_) ?_
                · unfold Oper.quietAt
                  go_simp
                  exact rfl
                try simp only [Act.put, List.setIfInBounds_toArray, List.set_cons_zero, List.set_cons_succ]
                refine wq_want (by kernel_rfl) ?_
                apply Exists.intro
                refine And.intro (fun W hW => ?_) ?_
                · unfold Oper.quietAt
                  go_simp
                  exact rfl
                try simp only [Act.put, List.setIfInBounds_toArray, List.set_cons_zero, List.set_cons_succ]
                refine wq_want (by kernel_rfl) ?_
                apply Exists.intro
                refine And.intro (fun W hW => ?_) ?_
                · have hh := HC.out W hW
                  obtain ⟨hq1, hq2⟩ := hh
                  unfold Oper.quietAt
                  first
                   | (go_simp; done)
                   | (go_simp; exact rfl)
                try simp only [Act.put, List.setIfInBounds_toArray, List.set_cons_zero, List.set_cons_succ]
                refine wq_want (by kernel_rfl) ?_
                apply Exists.intro
                refine And.intro (fun W hW => ?_) ?_
                · have hh := HC.out W hW
                  obtain ⟨hq1, hq2⟩ := hh
                  unfold Oper.quietAt
                  first
                   | (go_simp; done)
                   | (go_simp; exact rfl)
                try simp only [Act.put, List.setIfInBounds_toArray, List.set_cons_zero, List.set_cons_succ]
                refine wq_want (by kernel_rfl) ?_
                apply Exists.intro
                refine And.intro (fun W hW => ?_) ?_
                · unfold Oper.quietAt
                  go_simp
                  refine (CU.out W).mono ?_
                  rintro e w'' ⟨rfl, hg⟩
                  exact ⟨rfl, hW.trans (hg.mono hW.size)⟩
                try simp only [Act.put, List.setIfInBounds_toArray, List.set_cons_zero, List.set_cons_succ]
                refine wq_want (by kernel_rfl) ?_
                apply Exists.intro
                refine And.intro (fun W hW => ?_) ?_
                · unfold Oper.quietAt
                  go_simp
                  exact rfl
                try simp only [Act.put, List.setIfInBounds_toArray, List.set_cons_zero, List.set_cons_succ]
                refine wq_want (by kernel_rfl) ?_
                apply Exists.intro
                refine And.intro (fun W hW => ?_) ?_
                · unfold Oper.quietAt
                  go_simp
                  exact rfl
                try simp only [Act.put, List.setIfInBounds_toArray, List.set_cons_zero, List.set_cons_succ]
                refine wq_want (by kernel_rfl) ?_
                apply Exists.intro
                refine And.intro (fun W hW => ?_) ?_
                · have hh := HC.out W hW
                  obtain ⟨hq1, hq2⟩ := hh
                  unfold Oper.quietAt
                  first
                   | (go_simp; done)
                   | (go_simp; exact rfl)
                try simp only [Act.put, List.setIfInBounds_toArray, List.set_cons_zero, List.set_cons_succ]
                refine wq_want (by kernel_rfl) ?_
                apply Exists.intro
                refine And.intro (fun W hW => ?_) ?_
                · unfold Oper.quietAt
                  go_simp
                  exact rfl
                try simp only [Act.put, List.setIfInBounds_toArray, List.set_cons_zero, List.set_cons_succ]
                refine wq_want (by kernel_rfl) ?_
                apply Exists.intro
                refine And.intro (fun W hW => ?_) ?_
                · unfold Oper.quietAt
                  go_simp
                  exact rfl
                try simp only [Act.put, List.setIfInBounds_toArray, List.set_cons_zero, List.set_cons_succ]
                refine wq_want (by kernel_rfl) ?_
                apply Exists.intro
                refine And.intro (fun W hW => ?_) ?_
                · unfold Oper.quietAt
                  go_simp
                  exact rfl
                try simp only [Act.put, List.setIfInBounds_toArray, List.set_cons_zero, List.set_cons_succ]
                refine wq_want (by kernel_rfl) ?_
                apply Exists.intro
                refine And.intro (fun W hW => ?_) ?_
                · have hh := HC.out W hW
                  obtain ⟨hq1, hq2⟩ := hh
                  unfold Oper.quietAt
                  first
                   | (go_simp; done)
                   | (go_simp; exact rfl)
                try simp only [Act.put, List.setIfInBounds_toArray, List.set_cons_zero, List.set_cons_succ]
                refine wq_want (by kernel_rfl) ?_
                apply Exists.intro
                refine And.intro (fun W hW => ?_) ?_
                · have hh := HC.out W hW
                  obtain ⟨hq1, hq2⟩ := hh
                  unfold Oper.quietAt
                  first
                   | (go_simp; done)
                   | (go_simp; exact rfl)
                try simp only [Act.put, List.setIfInBounds_toArray, List.set_cons_zero, List.set_cons_succ]
                refine wq_want (by kernel_rfl) ?_
                apply Exists.intro
                refine And.intro (fun W hW => ?_) ?_
                · unfold Oper.quietAt
                  go_simp
                  exact rfl
                try simp only [Act.put, List.setIfInBounds_toArray, List.set_cons_zero, List.set_cons_succ]
                refine wq_want (by kernel_rfl) ?_
                apply Exists.intro
                refine And.intro (fun W hW => ?_) ?_
                · unfold Oper.quietAt
                  go_simp
                  exact rfl
                try simp only [Act.put, List.setIfInBounds_toArray, List.set_cons_zero, List.set_cons_succ]
                refine wq_want (by kernel_rfl) ?_
                apply Exists.intro
                refine And.intro (fun W hW => ?_) ?_
                · have hh := HC.out W hW
                  obtain ⟨hq1, hq2⟩ := hh
                  unfold Oper.quietAt
                  first
                   | (go_simp; done)
                   | (go_simp; exact rfl)
                try simp only [Act.put, List.setIfInBounds_toArray, List.set_cons_zero, List.set_cons_succ]
                refine wq_want (by kernel_rfl) ?_
                apply Exists.intro
                refine And.intro (fun W hW => ?_) ?_
                · have hh := HC.out W hW
                  obtain ⟨hq1, hq2⟩ := hh
                  unfold Oper.quietAt
                  first
                   | (go_simp; done)
                   | (go_simp; exact rfl)
                try simp only [Act.put, List.setIfInBounds_toArray, List.set_cons_zero, List.set_cons_succ]
                refine wq_want (by kernel_rfl) ?_
                apply Exists.intro
                refine And.intro (fun W hW => ?_) ?_
                · unfold Oper.quietAt
                  go_simp
                  refine (CU2.out W).mono ?_
                  rintro e w'' ⟨rfl, hg⟩
                  exact ⟨rfl, hW.trans (hg.mono hW.size)⟩
                try simp only [Act.put, List.setIfInBounds_toArray, List.set_cons_zero, List.set_cons_succ]
                refine wq_want (by kernel_rfl) ?_
                apply Exists.intro
                refine And.intro (fun W hW => ?_) ?_
                · have hh := HC.out W hW
                  obtain ⟨hq1, hq2⟩ := hh
                  unfold Oper.quietAt
                  first
                   | (go_simp; done)
                   | (go_simp; exact rfl)
                try simp only [Act.put, List.setIfInBounds_toArray, List.set_cons_zero, List.set_cons_succ]
                refine wq_want (by kernel_rfl) ?_
                apply Exists.intro
                refine And.intro (fun W hW => ?_) ?_
                · have hh := HC.out W hW
                  obtain ⟨hq1, hq2⟩ := hh
                  unfold Oper.quietAt
                  first
                   | (go_simp; done)
                   | (go_simp; exact rfl)
                try simp only [Act.put, List.setIfInBounds_toArray, List.set_cons_zero, List.set_cons_succ]
                refine wq_want (by kernel_rfl) ?_
                apply Exists.intro
                refine And.intro (fun W hW => ?_) ?_
                · have hh := HC.out W hW
                  obtain ⟨hq1, hq2⟩ := hh
                  unfold Oper.quietAt
                  first
                   | (go_simp; done)
                   | (go_simp; exact rfl)
                try simp only [Act.put, List.setIfInBounds_toArray, List.set_cons_zero, List.set_cons_succ]
                refine wq_nil ?_
                intro wq hwq
                have B5 := Lib.hid (B4.out.trans (hwq.mono B4.out.size))
                clear hwq
                go_wp2_with fail
                go_roundw
                case rel => exact ⟨k + 1, by omega, by go_num, B5.out⟩
                case measure => simp [intOf]; omega
            · obtain rfl : k = n := by omega
              clear hlt
              have v1 : ¬ (k : Int) < (k : Int) := by omega
              have hax : a < ls.length := by rw [HLN.out]; exact ha
              obtain ⟨bb, oo, rfl, hca⟩ := text_at (HS.out.below BR.out) hax
              have hga := getD_at ls [] (show a < ls.length by rw [HLN.out]; exact ha)
              have q2 := hca _ (Below.refl _ _) 0
              simp only [World.drewN_zero] at q2
              have hya : ls[a].length ≤ 200 := HLG.out.2 _ (List.getElem_mem _)
              have hua := HUA.out
              rw [hga] at hua
              generalize ls[a] = ya at *
              have cu := Under_any p ya wr (by have := HP.out; omega) (by omega)
              rw [← HSP.out, hua] at cu
              have va : (a : Int) < (k : Int) := by omega
              have va0 : ¬ (a : Int) < 0 := by omega
              have va1 : decide ((a : Int) < 0) = false := decide_eq_false va0
              clear hca hga hua
              go_wp2_with fail
              refine cu.mono ?_
              rintro e w4 ⟨rfl, hb⟩
              have B4 := Lib.hid (BR.out.trans (hb.mono BR.out.size))
              clear hb cu q2
              go_wp2_with fail
              refine (finds_any _).mono ?_
              rintro e wf ⟨rfl, hb⟩
              have BF := Lib.hid (B4.out.trans (hb.mono B4.out.size))
              clear hb
              go_wp2_with fail
              go_ret
              exact ⟨rfl, BF.out⟩
      · have hz2 : (z == 0) = false := beq_eq_false_iff_ne.2 h0
        have hz3 : (z != 0) = true := by rw [bne, hz2]; rfl
        clear hS hln hlo hp hz HZ
        generalize S p = sp at *
        go_enter Tryd.func5, Tryd.ntmps5
        go_wp2_with fail
        refine cl.mono ?_
        rintro e w1 ⟨rfl, hb⟩
        have B1 := Lib.hid hb
        clear hb cl
        have ck := CK.out w1 B1.out
        go_wp2_with fail
        refine ck.mono ?_
        rintro e w2 ⟨rfl, hb⟩
        have B2 := Lib.hid (B1.out.trans (hb.mono B1.out.size))
        clear hb ck
        go_wp2_with fail
        refine (finds_any _).mono ?_
        rintro e wf ⟨rfl, hb⟩
        have BF := Lib.hid (B2.out.trans (hb.mono B2.out.size))
        clear hb
        go_wp2_with fail
        go_ret
        exact ⟨rfl, BF.out⟩
  · rw [hlo] at cl
    generalize S p = sp at *
    clear hS hln hlo
    go_enter Tryd.func5, Tryd.ntmps5
    go_wp2_with fail
    refine cl.mono ?_
    rintro e w1 ⟨rfl, hb⟩
    have B1 := Lib.hid hb
    clear hb cl
    go_wp2_with fail
    refine (finds_any _).mono ?_
    rintro e wf ⟨rfl, hb⟩
    have BF := Lib.hid (B1.out.trans (hb.mono B1.out.size))
    clear hb
    go_wp2_with fail
    go_ret
    exact ⟨rfl, BF.out⟩

set_option maxRecDepth 100000 in
theorem lifted (os : Os) (started : os.Started) (H : Type) (enc : TypeId × Value → H) :
    ReturnsInHanded {} Tryd.checked os 5 .any (fun w args => (Rows.regionLongestSpec.pre enc Tryd.prog Tryd.f5 Rows.regionLongestRow.domain false w args ∧ laidMetH Tryd.prog Rows.regionLongestRow.laid w) ∧ sizedMet enc Tryd.prog Tryd.f5 (OpenSpec.ofChange Rows.regionLongestSpec) false w args) (Rows.regionLongestSpec.post enc Tryd.prog Tryd.f5 false true false false) := by
  refine returnsInHanded_of_change_and (C := Tryd.checked) (X := fun w _ => laidMetH Tryd.prog Rows.regionLongestRow.laid w) (fun _ _ _ hh h => h.of_heap hh) own started (by kernel_rfl) Tryd.func5
    (ChangeSpec.witness_shaped (enc := enc) (C := Tryd.checked) (os := os) (X := fun w _ => laidMetH Tryd.prog Rows.regionLongestRow.laid w) false (World.laidAll Tryd.prog os Rows.regionLongestRow.laid) #[.slice none 0 0, .string ⟨#[]⟩] 8 (World.laidAll_os _ _ _)
      (World.shaped_of_ZipB (by kernel_rfl) (by kernel_rfl)) (by kernel_rfl) (by kernel_rfl) (by kernel_rfl)
      (by rw [MakeChecks.laidMetH_plain _ _ _ (by kernel_rfl)]; exact laidMet_laidAll _ (by kernel_rfl) (by kernel_rfl))) ?_
  intro W base args ds gs before hval0 hW _ _ _ _
  have hval : ∀ (j : Nat) t v, Tryd.f5.params[j]? = some t → args[j]? = some v → Value.okWide Tryd.prog W .any base t v := hval0
  have hW' := hW
  obtain ⟨p, q, hA0, hV, rfl, hfz, hnd⟩ := hW
  have hA : DataW.TrodAll enc Tryd.prog W 0 (fun _ => true) true Tryd.f5.params.toList args.toList ds p := hA0
  rw [Tryd.params5] at hA hval
  obtain ⟨v0, v1, d0, d1, p0, p1, rfl, rfl, rfl, h0, h1⟩ := trodAll_two hA
  obtain ⟨rfl, rfl⟩ := trodVars_none hV
  obtain ⟨A, n, c, ls, rfl, hc, hcm, hS⟩ := arg_texts (hval 0 _ v0 rfl rfl) h0
  obtain ⟨l, rfl⟩ := open_text ty_string (hval 1 _ v1 rfl rfl)
  refine (walk ls l A n c W hS hc).mono fun e W' ⟨he, hb⟩ => ?_
  subst he
  exact ⟨_, rfl, post_true laidOut (by kernel_rfl) ty_bool (by kernel_rfl) rfl hW' hb rfl⟩

theorem over : Rows.regionLongestRow.holds Tryd.pinned (OpenSpec.ofChange Rows.regionLongestSpec) :=
  OpenClaim.holds_of_wide 5 Tryd.f5 rfl rfl rfl rfl rfl rfl rfl ⟨rfl, rfl, rfl, rfl, rfl⟩ rfl rfl rfl rfl rfl (by kernel_rfl) Tryd.func5 (by kernel_rfl)
    (of_decide_eq_true (by kernel_rfl)) (by unfold Func.isWrapper; first | (rw [if_pos (by decide +kernel)]; kernel_rfl) | (rw [if_neg (by decide +kernel)]; exact ⟨rfl, rfl⟩))
    (fun os started H enc _ => lifted os started H enc)

theorem proved : Rows.RegionLongestCardSaid :=
  Claim7.holds_tied_plain_at .later [] Rows.regionLongestCard.laidKinds true Rows.regionLongestCard.stood.harness Rows.regionLongestCard.stood.looks over (fun _ h => by cases h) (by kernel_rfl) (fun _ h => by cases h) regionLongest_row_tie rfl ⟨rfl, rfl⟩ (by kernel_rfl) rfl
    (fun f fn hf hfn => by
      obtain rfl : f = 5 := Option.some.inj ((show Tryd.pinned.checked.prog.funcNamed Rows.regionLongestRow.func = some 5 by kernel_rfl).symm.trans hf) |>.symm
      obtain rfl : fn = Tryd.f5 := (Option.some.inj (Tryd.func5.symm.trans hfn)).symm
      exact ⟨by kernel_rfl, fun j t ht => by
        have hall : (Tryd.f5.params.toList.all fun u => !Tryd.prog.wantsStandIn u) = true := by kernel_rfl
        exact (show Tryd.prog.wantsStandIn t = false by simpa using List.all_eq_true.1 hall t (by simpa using Array.mem_of_getElem? ht))⟩)
    (by kernel_rfl)
end Go.Proofs.YtnmlknhomhonaaaDoor.regionLongest
