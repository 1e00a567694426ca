/- The document's own answers of layer 6: Check, Of, All, as functions. -/
import Derived.Test.YtnmlknhomhonaaaDoorRegQuiet
import Derived.Test.YtnmlknhomhonaaaDoorPathRefUnder
namespace Go.Proofs.YtnmlknhomhonaaaDoor.Reg
open Go.RowKit Path

def RelOf (w : World) (ls : List (List UInt8)) (p : List UInt8) (n : Nat) (z i : Value) (wr : World) : Prop := ∃ k : Nat, k ≤ n ∧ i = .int .i64 (k : Int) ∧ z = .int .i64 (ofK ls p k) ∧ Below w.heap.size w wr
set_option maxRecDepth 100000 in
set_option maxHeartbeats 8000000 in
theorem refOfNo_any (ls : List (List UInt8)) (p : List UInt8) (A : Option Addr) (n c : Nat) (w : World) (hS : RdV w A n (sv ls)) (hn : n ≤ 1000000) (hp : p.length ≤ 1000000) (hl : ∀ x ∈ ls, x.length ≤ 1000000) :
    Calls Tryd.prog 13 #[.slice A n c, .string (S p)] w fun e w' => e = .returned (.int .i64 (ofF ls p)) ∧ Below w.heap.size w w' := by
  have HS := Lib.hid hS
  have hln : ls.length = n := by rw [← hS.len, sv_length]
  have HLN := Lib.hid hln
  have HP := Lib.hid hp
  have HN := Lib.hid hn
  have HXL := Lib.hid hl
  have hr : ofK ls p n = ofF ls p := by unfold ofF; rw [hln]
  have HR := Lib.hid hr
  obtain ⟨r, hr'⟩ : ∃ r, r = ofF ls p := ⟨_, rfl⟩
  rw [← hr'] at HR ⊢
  obtain ⟨sp, hsp⟩ : ∃ sp, sp = S p := ⟨_, rfl⟩
  have HSP := Lib.hid hsp
  rw [← hsp]
  clear hsp hS hln hp hn hl hr hr'
  go_enter Tryd.func13, Tryd.ntmps13
  go_wp2_with fail
  go_loopw [5, 6] (fun z i wr => RelOf w ls p n z i wr) (fun _ i _ => n - (intOf i).toNat)
  case atStart => exact ⟨0, Nat.zero_le _, rfl, rfl, Below.refl _ _⟩
  case round =>
    obtain ⟨k, hk, rfl, rfl, hb⟩ := hrel
    have HB := Lib.hid hb
    clear hb
    by_cases hlt : k < n
    · have hjx : k < ls.length := by rw [HLN.out]; exact hlt
      obtain ⟨bb, oo, rfl, hcells⟩ := text_at (HS.out.below HB.out) hjx
      have q1 := hcells _ (Below.refl _ _) 0
      simp only [World.drewN_zero] at q1
      have vk : (k : Int) < (n : Int) := by omega
      have hkm : k < 1000000 := by have := HN.out; omega
      have hgk := getD_at ls [] hjx
      have hyl : ls[k].length ≤ 1000000 := HXL.out _ (List.getElem_mem hjx)
      have cu := refUnder_any p ls[k] wr HP.out hyl
      rw [← HSP.out] at cu
      by_cases hu : underF p ls[k] = true
      · rw [hu] at cu
        have HST := Lib.hid (ofK_step ls p k hjx (by rw [hgk]; exact hu))
        rcases ofK_spec ls p k (by omega) with ⟨h1, _⟩ | ⟨i, hi, h1, h2, _⟩
        · rw [h1] at HST ⊢
          have HOK : Hid (ofK ls p (k + 1) = (k : Int)) := by show _ = _; rw [HST.out, if_pos (.inl (by omega))]
          clear HST h1 hu hgk hyl
          generalize ls[k] = y at *
          go_wp2_with fail
          refine cu.mono ?_
          rintro e w2 ⟨rfl, hb⟩
          have HC : Hid (∀ W, Below w2.heap.size w2 W → True) := fun _ _ => trivial
          have B2 := Lib.hid (HB.out.trans (hb.mono HB.out.size))
          clear hb cu q1 hcells
          go_wp2_with fail
          refine wq_lit (C := fun W => Below w2.heap.size w2 W) (by kernel_rfl) (by kernel_rfl) (Below.refl w2.heap.size w2).drew ?_
          refine wq_want (by kernel_rfl) ?_
          apply Exists.intro
          refine And.intro (fun W hW => ?_) ?_
          · unfold Oper.quietAt
            go_simp
            exact rfl
          try simp only [Act.put, List.setIfInBounds_toArray, List.set_cons_zero, List.set_cons_succ]
          refine wq_want (by kernel_rfl) ?_
          apply Exists.intro
          refine And.intro (fun W hW => ?_) ?_
          · have hh := HC.out W hW
            clear hh
            unfold Oper.quietAt
            first
             | (go_simp; done)
             | (go_simp; exact rfl)
          try simp only [Act.put, List.setIfInBounds_toArray, List.set_cons_zero, List.set_cons_succ]
          refine wq_want (by kernel_rfl) ?_
          apply Exists.intro
          refine And.intro (fun W hW => ?_) ?_
          · unfold Oper.quietAt
            go_simp
            exact rfl
          try simp only [Act.put, List.setIfInBounds_toArray, List.set_cons_zero, List.set_cons_succ]
          refine wq_skip (by kernel_rfl) ?_
          try simp only [Act.put, List.setIfInBounds_toArray, List.set_cons_zero, List.set_cons_succ]
          refine wq_skip (by kernel_rfl) ?_
          try simp only [Act.put, List.setIfInBounds_toArray, List.set_cons_zero, List.set_cons_succ]
          refine wq_skip (by kernel_rfl) ?_
          try simp only [Act.put, List.setIfInBounds_toArray, List.set_cons_zero, List.set_cons_succ]
          refine wq_skip (by kernel_rfl) ?_
          try simp only [Act.put, List.setIfInBounds_toArray, List.set_cons_zero, List.set_cons_succ]
          refine wq_skip (by kernel_rfl) ?_
          try simp only [Act.put, List.setIfInBounds_toArray, List.set_cons_zero, List.set_cons_succ]
          refine wq_skip (by kernel_rfl) ?_
          try simp only [Act.put, List.setIfInBounds_toArray, List.set_cons_zero, List.set_cons_succ]
          refine wq_skip (by kernel_rfl) ?_
          try simp only [Act.put, List.setIfInBounds_toArray, List.set_cons_zero, List.set_cons_succ]
          refine wq_skip (by kernel_rfl) ?_
          try simp only [Act.put, List.setIfInBounds_toArray, List.set_cons_zero, List.set_cons_succ]
          refine wq_skip (by kernel_rfl) ?_
          try simp only [Act.put, List.setIfInBounds_toArray, List.set_cons_zero, List.set_cons_succ]
          refine wq_skip (by kernel_rfl) ?_
          try simp only [Act.put, List.setIfInBounds_toArray, List.set_cons_zero, List.set_cons_succ]
          refine wq_skip (by kernel_rfl) ?_
          try simp only [Act.put, List.setIfInBounds_toArray, List.set_cons_zero, List.set_cons_succ]
          refine wq_skip (by kernel_rfl) ?_
          try simp only [Act.put, List.setIfInBounds_toArray, List.set_cons_zero, List.set_cons_succ]
          refine wq_skip (by kernel_rfl) ?_
          try simp only [Act.put, List.setIfInBounds_toArray, List.set_cons_zero, List.set_cons_succ]
          refine wq_skip (by kernel_rfl) ?_
          try simp only [Act.put, List.setIfInBounds_toArray, List.set_cons_zero, List.set_cons_succ]
          refine wq_skip (by kernel_rfl) ?_
          try simp only [Act.put, List.setIfInBounds_toArray, List.set_cons_zero, List.set_cons_succ]
          refine wq_skip (by kernel_rfl) ?_
          try simp only [Act.put, List.setIfInBounds_toArray, List.set_cons_zero, List.set_cons_succ]
          refine wq_skip (by kernel_rfl) ?_
          try simp only [Act.put, List.setIfInBounds_toArray, List.set_cons_zero, List.set_cons_succ]
          refine wq_skip (by kernel_rfl) ?_
          try simp only [Act.put, List.setIfInBounds_toArray, List.set_cons_zero, List.set_cons_succ]
          refine wq_skip (by kernel_rfl) ?_
          try simp only [Act.put, List.setIfInBounds_toArray, List.set_cons_zero, List.set_cons_succ]
          refine wq_skip (by kernel_rfl) ?_
          try simp only [Act.put, List.setIfInBounds_toArray, List.set_cons_zero, List.set_cons_succ]
          refine wq_want (by kernel_rfl) ?_
          apply Exists.intro
          refine And.intro (fun W hW => ?_) ?_
          · have hh := HC.out W hW
            clear hh
            unfold Oper.quietAt
            first
             | (go_simp; done)
             | (go_simp; exact rfl)
          try simp only [Act.put, List.setIfInBounds_toArray, List.set_cons_zero, List.set_cons_succ]
          refine wq_nil ?_
          intro wq hwq
          have B3 := Lib.hid (B2.out.trans (hwq.mono B2.out.size))
          clear hwq
          go_wp2_with fail
          go_roundw
          case rel => exact ⟨k + 1, by omega, by go_num, by rw [HOK.out], B3.out⟩
          case measure => simp [intOf]; omega
        · rw [h1] at HST ⊢
          have hix : i < ls.length := by omega
          have hgi := getD_at ls [] hix
          rw [Int.toNat_natCast, hgk, hgi] at HST
          have hxl : ls[i].length ≤ 1000000 := HXL.out _ (List.getElem_mem hix)
          obtain ⟨bb', oo', e', hca⟩ := text_at (HS.out.below HB.out) hix
          injection e' with e'
          injection e' with e1 e2
          subst e1 e2
          have vi : (i : Int) < (n : Int) := by omega
          have vi0 : ¬ (i : Int) < 0 := by omega
          have vi1 : decide ((i : Int) < 0) = false := decide_eq_false vi0
          have s1 := S_list ls[k]
          have s2 := S_list ls[i]
          have CU2 := Lib.hid (fun W => refUnder_any ls[k] ls[i] W hyl hxl)
          clear h2 hu hgk hgi h1 hyl hxl
          generalize ls[k] = y at *
          generalize ls[i] = x at *
          by_cases he : y = x
          · have hq : ((S y).toList == (S x).toList) = true := by rw [s1, s2, he]; simp
            have HOK : Hid (ofK ls p (k + 1) = (i : Int)) := by
              show _ = _
              rw [HST.out, if_neg]
              rintro (h | h)
              · omega
              · exact h.1 he
            have hq2 : (!((S y).toList == (S x).toList)) = false := by rw [hq]; rfl
            clear HST he s1 s2 CU2
            have HCE : Hid (∀ W, Below wr.heap.size wr W → W.cell? ⟨bb, oo + k, none⟩ = some (.string (S y)) ∧ W.cell? ⟨bb, oo + i, none⟩ = some (.string (S x))) := fun W hW => ⟨by simpa only [World.drewN_zero] using hcells W hW 0, by simpa only [World.drewN_zero] using hca W hW 0⟩
            clear hcells hca
            generalize S x = sx at *
            generalize S y = sy at *
            go_wp2_with fail
            refine cu.mono ?_
            rintro e w2 ⟨rfl, hb⟩
            have HC : Hid (∀ W, Below w2.heap.size w2 W → W.cell? ⟨bb, oo + k, none⟩ = some (.string sy) ∧ W.cell? ⟨bb, oo + i, none⟩ = some (.string sx)) := fun W hW => HCE.out W (hb.trans (hW.mono hb.size))
            have B2 := Lib.hid (HB.out.trans (hb.mono HB.out.size))
            clear hb cu q1 HCE
            go_wp2_with fail
            refine wq_lit (C := fun W => Below w2.heap.size w2 W) (by kernel_rfl) (by kernel_rfl) (Below.refl w2.heap.size w2).drew ?_
            refine wq_want (by kernel_rfl) ?_
            apply Exists.intro
            refine And.intro (fun W hW => ?_) ?_
            · unfold Oper.quietAt
              go_simp
              exact rfl
            try simp only [Act.put, List.setIfInBounds_toArray, List.set_cons_zero, List.set_cons_succ]
            refine wq_want (by kernel_rfl) ?_
            apply Exists.intro
            refine And.intro (fun W hW => ?_) ?_
            · have hh := HC.out W hW
              obtain ⟨hq1, hq3⟩ := hh
              unfold Oper.quietAt
              first
               | (go_simp; done)
               | (go_simp; exact rfl)
            try simp only [Act.put, List.setIfInBounds_toArray, List.set_cons_zero, List.set_cons_succ]
            refine wq_want (by kernel_rfl) ?_
            apply Exists.intro
            refine And.intro (fun W hW => ?_) ?_
            · unfold Oper.quietAt
              go_simp
              exact rfl
            try simp only [Act.put, List.setIfInBounds_toArray, List.set_cons_zero, List.set_cons_succ]
            refine wq_want (by kernel_rfl) ?_
            apply Exists.intro
            refine And.intro (fun W hW => ?_) ?_
            · unfold Oper.quietAt
              go_simp
              exact rfl
            try simp only [Act.put, List.setIfInBounds_toArray, List.set_cons_zero, List.set_cons_succ]
            refine wq_want (by kernel_rfl) ?_
            apply Exists.intro
            refine And.intro (fun W hW => ?_) ?_
            · unfold Oper.quietAt
              go_simp
              exact rfl
            try simp only [Act.put, List.setIfInBounds_toArray, List.set_cons_zero, List.set_cons_succ]
            refine wq_want (by kernel_rfl) ?_
            apply Exists.intro
            refine And.intro (fun W hW => ?_) ?_
            · have hh := HC.out W hW
              obtain ⟨hq1, hq3⟩ := hh
              unfold Oper.quietAt
              first
               | (go_simp; done)
               | (go_simp; exact rfl)
            try simp only [Act.put, List.setIfInBounds_toArray, List.set_cons_zero, List.set_cons_succ]
            refine wq_want (by kernel_rfl) ?_
            apply Exists.intro
            refine And.intro (fun W hW => ?_) ?_
            · have hh := HC.out W hW
              obtain ⟨hq1, hq3⟩ := hh
              unfold Oper.quietAt
              first
               | (go_simp; done)
               | (go_simp; exact rfl)
            try simp only [Act.put, List.setIfInBounds_toArray, List.set_cons_zero, List.set_cons_succ]
            refine wq_want (by kernel_rfl) ?_
            apply Exists.intro
            refine And.intro (fun W hW => ?_) ?_
            · unfold Oper.quietAt
              go_simp
              exact rfl
            try simp only [Act.put, List.setIfInBounds_toArray, List.set_cons_zero, List.set_cons_succ]
            refine wq_want (by kernel_rfl) ?_
            apply Exists.intro
            refine And.intro (fun W hW => ?_) ?_
            · unfold Oper.quietAt
              go_simp
              exact rfl
            try simp only [Act.put, List.setIfInBounds_toArray, List.set_cons_zero, List.set_cons_succ]
            refine wq_want (by kernel_rfl) ?_
            apply Exists.intro
            refine And.intro (fun W hW => ?_) ?_
            · have hh := HC.out W hW
              obtain ⟨hq1, hq3⟩ := hh
              unfold Oper.quietAt
              first
               | (go_simp; done)
               | (go_simp; exact rfl)
            try simp only [Act.put, List.setIfInBounds_toArray, List.set_cons_zero, List.set_cons_succ]
            refine wq_want (by kernel_rfl) ?_
            apply Exists.intro
            refine And.intro (fun W hW => ?_) ?_
            · have hh := HC.out W hW
              obtain ⟨hq1, hq3⟩ := hh
              unfold Oper.quietAt
              first
               | (go_simp; done)
               | (go_simp; exact rfl)
            try simp only [Act.put, List.setIfInBounds_toArray, List.set_cons_zero, List.set_cons_succ]
            refine wq_want (by kernel_rfl) ?_
            apply Exists.intro
            refine And.intro (fun W hW => ?_) ?_
            · have hh := HC.out W hW
              obtain ⟨hq1, hq3⟩ := hh
              unfold Oper.quietAt
              first
               | (go_simp; done)
               | (go_simp; exact rfl)
            try simp only [Act.put, List.setIfInBounds_toArray, List.set_cons_zero, List.set_cons_succ]
            refine wq_want (by kernel_rfl) ?_
            apply Exists.intro
            refine And.intro (fun W hW => ?_) ?_
            · unfold Oper.quietAt
              go_simp
              exact rfl
            try simp only [Act.put, List.setIfInBounds_toArray, List.set_cons_zero, List.set_cons_succ]
            refine wq_skip (by kernel_rfl) ?_
            try simp only [Act.put, List.setIfInBounds_toArray, List.set_cons_zero, List.set_cons_succ]
            refine wq_skip (by kernel_rfl) ?_
            try simp only [Act.put, List.setIfInBounds_toArray, List.set_cons_zero, List.set_cons_succ]
            refine wq_skip (by kernel_rfl) ?_
            try simp only [Act.put, List.setIfInBounds_toArray, List.set_cons_zero, List.set_cons_succ]
            refine wq_skip (by kernel_rfl) ?_
            try simp only [Act.put, List.setIfInBounds_toArray, List.set_cons_zero, List.set_cons_succ]
            refine wq_skip (by kernel_rfl) ?_
            try simp only [Act.put, List.setIfInBounds_toArray, List.set_cons_zero, List.set_cons_succ]
            refine wq_skip (by kernel_rfl) ?_
            try simp only [Act.put, List.setIfInBounds_toArray, List.set_cons_zero, List.set_cons_succ]
            refine wq_skip (by kernel_rfl) ?_
            try simp only [Act.put, List.setIfInBounds_toArray, List.set_cons_zero, List.set_cons_succ]
            refine wq_skip (by kernel_rfl) ?_
            try simp only [Act.put, List.setIfInBounds_toArray, List.set_cons_zero, List.set_cons_succ]
            refine wq_skip (by kernel_rfl) ?_
            try simp only [Act.put, List.setIfInBounds_toArray, List.set_cons_zero, List.set_cons_succ]
            refine wq_want (by kernel_rfl) ?_
            apply Exists.intro
            refine And.intro (fun W hW => ?_) ?_
            · have hh := HC.out W hW
              obtain ⟨hq1, hq3⟩ := hh
              unfold Oper.quietAt
              first
               | (go_simp; done)
               | (go_simp; exact rfl)
            try simp only [Act.put, List.setIfInBounds_toArray, List.set_cons_zero, List.set_cons_succ]
            refine wq_want (by kernel_rfl) ?_
            apply Exists.intro
            refine And.intro (fun W hW => ?_) ?_
            · have hh := HC.out W hW
              obtain ⟨hq1, hq3⟩ := hh
              unfold Oper.quietAt
              first
               | (go_simp; done)
               | (go_simp; exact rfl)
            try simp only [Act.put, List.setIfInBounds_toArray, List.set_cons_zero, List.set_cons_succ]
            refine wq_nil ?_
            intro wq hwq
            have B3 := Lib.hid (B2.out.trans (hwq.mono B2.out.size))
            clear hwq
            go_wp2_with fail
            go_roundw
            case rel => exact ⟨k + 1, by omega, by go_num, by rw [HOK.out], B3.out⟩
            case measure => simp [intOf]; omega
          · have hq : ((S y).toList == (S x).toList) = false := by rw [s1, s2]; simpa using he
            have hq2 : (!((S y).toList == (S x).toList)) = true := by rw [hq]; rfl
            clear s1 s2
            by_cases hv : underF y x = true
            · have HOK : Hid (ofK ls p (k + 1) = (k : Int)) := by show _ = _; rw [HST.out, if_pos (.inr ⟨he, hv⟩)]
              rw [hv] at CU2
              clear HST he hv
              have HCE : Hid (∀ W, Below wr.heap.size wr W → W.cell? ⟨bb, oo + k, none⟩ = some (.string (S y)) ∧ W.cell? ⟨bb, oo + i, none⟩ = some (.string (S x))) := fun W hW => ⟨by simpa only [World.drewN_zero] using hcells W hW 0, by simpa only [World.drewN_zero] using hca W hW 0⟩
              clear hcells hca
              generalize S x = sx at *
              generalize S y = sy at *
              go_wp2_with fail
              refine cu.mono ?_
              rintro e w2 ⟨rfl, hb⟩
              have HC : Hid (∀ W, Below w2.heap.size w2 W → W.cell? ⟨bb, oo + k, none⟩ = some (.string sy) ∧ W.cell? ⟨bb, oo + i, none⟩ = some (.string sx)) := fun W hW => HCE.out W (hb.trans (hW.mono hb.size))
              have B2 := Lib.hid (HB.out.trans (hb.mono HB.out.size))
              clear hb cu q1 HCE
              go_wp2_with fail
              refine wq_lit (C := fun W => Below w2.heap.size w2 W) (by kernel_rfl) (by kernel_rfl) (Below.refl w2.heap.size w2).drew ?_
              refine wq_want (by kernel_rfl) ?_
              apply Exists.intro
              refine And.intro (fun W hW => ?_) ?_
              · unfold Oper.quietAt
                go_simp
                exact rfl
              try simp only [Act.put, List.setIfInBounds_toArray, List.set_cons_zero, List.set_cons_succ]
              refine wq_want (by kernel_rfl) ?_
              apply Exists.intro
              refine And.intro (fun W hW => ?_) ?_
              · have hh := HC.out W hW
                obtain ⟨hq1, hq3⟩ := hh
                unfold Oper.quietAt
                first
                 | (go_simp; done)
                 | (go_simp; exact rfl)
              try simp only [Act.put, List.setIfInBounds_toArray, List.set_cons_zero, List.set_cons_succ]
              refine wq_want (by kernel_rfl) ?_
              apply Exists.intro
              refine And.intro (fun W hW => ?_) ?_
              · unfold Oper.quietAt
                go_simp
                exact rfl
              try simp only [Act.put, List.setIfInBounds_toArray, List.set_cons_zero, List.set_cons_succ]
              refine wq_want (by kernel_rfl) ?_
              apply Exists.intro
              refine And.intro (fun W hW => ?_) ?_
              · unfold Oper.quietAt
                go_simp
                exact rfl
              try simp only [Act.put, List.setIfInBounds_toArray, List.set_cons_zero, List.set_cons_succ]
              refine wq_want (by kernel_rfl) ?_
              apply Exists.intro
              refine And.intro (fun W hW => ?_) ?_
              · unfold Oper.quietAt
                go_simp
                exact rfl
              try simp only [Act.put, List.setIfInBounds_toArray, List.set_cons_zero, List.set_cons_succ]
              refine wq_want (by kernel_rfl) ?_
              apply Exists.intro
              refine And.intro (fun W hW => ?_) ?_
              · have hh := HC.out W hW
                obtain ⟨hq1, hq3⟩ := hh
                unfold Oper.quietAt
                first
                 | (go_simp; done)
                 | (go_simp; exact rfl)
              try simp only [Act.put, List.setIfInBounds_toArray, List.set_cons_zero, List.set_cons_succ]
              refine wq_want (by kernel_rfl) ?_
              apply Exists.intro
              refine And.intro (fun W hW => ?_) ?_
              · have hh := HC.out W hW
                obtain ⟨hq1, hq3⟩ := hh
                unfold Oper.quietAt
                first
                 | (go_simp; done)
                 | (go_simp; exact rfl)
              try simp only [Act.put, List.setIfInBounds_toArray, List.set_cons_zero, List.set_cons_succ]
              refine wq_want (by kernel_rfl) ?_
              apply Exists.intro
              refine And.intro (fun W hW => ?_) ?_
              · unfold Oper.quietAt
                go_simp
                exact rfl
              try simp only [Act.put, List.setIfInBounds_toArray, List.set_cons_zero, List.set_cons_succ]
              refine wq_want (by kernel_rfl) ?_
              apply Exists.intro
              refine And.intro (fun W hW => ?_) ?_
              · unfold Oper.quietAt
                go_simp
                exact rfl
              try simp only [Act.put, List.setIfInBounds_toArray, List.set_cons_zero, List.set_cons_succ]
              refine wq_want (by kernel_rfl) ?_
              apply Exists.intro
              refine And.intro (fun W hW => ?_) ?_
              · have hh := HC.out W hW
                obtain ⟨hq1, hq3⟩ := hh
                unfold Oper.quietAt
                first
                 | (go_simp; done)
                 | (go_simp; exact rfl)
              try simp only [Act.put, List.setIfInBounds_toArray, List.set_cons_zero, List.set_cons_succ]
              refine wq_want (by kernel_rfl) ?_
              apply Exists.intro
              refine And.intro (fun W hW => ?_) ?_
              · have hh := HC.out W hW
                obtain ⟨hq1, hq3⟩ := hh
                unfold Oper.quietAt
                first
                 | (go_simp; done)
                 | (go_simp; exact rfl)
              try simp only [Act.put, List.setIfInBounds_toArray, List.set_cons_zero, List.set_cons_succ]
              refine wq_want (by kernel_rfl) ?_
              apply Exists.intro
              refine And.intro (fun W hW => ?_) ?_
              · have hh := HC.out W hW
                obtain ⟨hq1, hq3⟩ := hh
                unfold Oper.quietAt
                first
                 | (go_simp; done)
                 | (go_simp; exact rfl)
              try simp only [Act.put, List.setIfInBounds_toArray, List.set_cons_zero, List.set_cons_succ]
              refine wq_want (by kernel_rfl) ?_
              apply Exists.intro
              refine And.intro (fun W hW => ?_) ?_
              · unfold Oper.quietAt
                go_simp
                exact rfl
              try simp only [Act.put, List.setIfInBounds_toArray, List.set_cons_zero, List.set_cons_succ]
              refine wq_want (by kernel_rfl) ?_
              apply Exists.intro
              refine And.intro (fun W hW => ?_) ?_
              · unfold Oper.quietAt
                go_simp
                exact rfl
              try simp only [Act.put, List.setIfInBounds_toArray, List.set_cons_zero, List.set_cons_succ]
              refine wq_want (by kernel_rfl) ?_
              apply Exists.intro
              refine And.intro (fun W hW => ?_) ?_
              · unfold Oper.quietAt
                go_simp
                exact rfl
              try simp only [Act.put, List.setIfInBounds_toArray, List.set_cons_zero, List.set_cons_succ]
              refine wq_want (by kernel_rfl) ?_
              apply Exists.intro
              refine And.intro (fun W hW => ?_) ?_
              · have hh := HC.out W hW
                obtain ⟨hq1, hq3⟩ := hh
                unfold Oper.quietAt
                first
                 | (go_simp; done)
                 | (go_simp; exact rfl)
              try simp only [Act.put, List.setIfInBounds_toArray, List.set_cons_zero, List.set_cons_succ]
              refine wq_want (by kernel_rfl) ?_
              apply Exists.intro
              refine And.intro (fun W hW => ?_) ?_
              · have hh := HC.out W hW
                obtain ⟨hq1, hq3⟩ := hh
                unfold Oper.quietAt
                first
                 | (go_simp; done)
                 | (go_simp; exact rfl)
              try simp only [Act.put, List.setIfInBounds_toArray, List.set_cons_zero, List.set_cons_succ]
              refine wq_want (by kernel_rfl) ?_
              apply Exists.intro
              refine And.intro (fun W hW => ?_) ?_
              · unfold Oper.quietAt
                go_simp
                exact rfl
              try simp only [Act.put, List.setIfInBounds_toArray, List.set_cons_zero, List.set_cons_succ]
              refine wq_want (by kernel_rfl) ?_
              apply Exists.intro
              refine And.intro (fun W hW => ?_) ?_
              · unfold Oper.quietAt
                go_simp
                exact rfl
              try simp only [Act.put, List.setIfInBounds_toArray, List.set_cons_zero, List.set_cons_succ]
              refine wq_want (by kernel_rfl) ?_
              apply Exists.intro
              refine And.intro (fun W hW => ?_) ?_
              · have hh := HC.out W hW
                obtain ⟨hq1, hq3⟩ := hh
                unfold Oper.quietAt
                first
                 | (go_simp; done)
                 | (go_simp; exact rfl)
              try simp only [Act.put, List.setIfInBounds_toArray, List.set_cons_zero, List.set_cons_succ]
              refine wq_want (by kernel_rfl) ?_
              apply Exists.intro
              refine And.intro (fun W hW => ?_) ?_
              · have hh := HC.out W hW
                obtain ⟨hq1, hq3⟩ := hh
                unfold Oper.quietAt
                first
                 | (go_simp; done)
                 | (go_simp; exact rfl)
              try simp only [Act.put, List.setIfInBounds_toArray, List.set_cons_zero, List.set_cons_succ]
              refine wq_want (by kernel_rfl) ?_
              apply Exists.intro
              refine And.intro (fun W hW => ?_) ?_
              · unfold Oper.quietAt
                go_simp
                refine (CU2.out W).mono ?_
                rintro e w'' ⟨rfl, hg⟩
                exact ⟨rfl, hW.trans (hg.mono hW.size)⟩
              try simp only [Act.put, List.setIfInBounds_toArray, List.set_cons_zero, List.set_cons_succ]
              refine wq_want (by kernel_rfl) ?_
              apply Exists.intro
              refine And.intro (fun W hW => ?_) ?_
              · have hh := HC.out W hW
                obtain ⟨hq1, hq3⟩ := hh
                unfold Oper.quietAt
                first
                 | (go_simp; done)
                 | (go_simp; exact rfl)
              try simp only [Act.put, List.setIfInBounds_toArray, List.set_cons_zero, List.set_cons_succ]
              refine wq_want (by kernel_rfl) ?_
              apply Exists.intro
              refine And.intro (fun W hW => ?_) ?_
              · have hh := HC.out W hW
                obtain ⟨hq1, hq3⟩ := hh
                unfold Oper.quietAt
                first
                 | (go_simp; done)
                 | (go_simp; exact rfl)
              try simp only [Act.put, List.setIfInBounds_toArray, List.set_cons_zero, List.set_cons_succ]
              refine wq_nil ?_
              intro wq hwq
              have B3 := Lib.hid (B2.out.trans (hwq.mono B2.out.size))
              clear hwq
              go_wp2_with fail
              go_roundw
              case rel => exact ⟨k + 1, by omega, by go_num, by rw [HOK.out], B3.out⟩
              case measure => simp [intOf]; omega
            · have HOK : Hid (ofK ls p (k + 1) = (i : Int)) := by
                show _ = _
                rw [HST.out, if_neg]
                rintro (h | h)
                · omega
                · exact hv h.2
              rw [Bool.not_eq_true] at hv
              rw [hv] at CU2
              clear HST he hv
              have HCE : Hid (∀ W, Below wr.heap.size wr W → W.cell? ⟨bb, oo + k, none⟩ = some (.string (S y)) ∧ W.cell? ⟨bb, oo + i, none⟩ = some (.string (S x))) := fun W hW => ⟨by simpa only [World.drewN_zero] using hcells W hW 0, by simpa only [World.drewN_zero] using hca W hW 0⟩
              clear hcells hca
              generalize S x = sx at *
              generalize S y = sy at *
              go_wp2_with fail
              refine cu.mono ?_
              rintro e w2 ⟨rfl, hb⟩
              have HC : Hid (∀ W, Below w2.heap.size w2 W → W.cell? ⟨bb, oo + k, none⟩ = some (.string sy) ∧ W.cell? ⟨bb, oo + i, none⟩ = some (.string sx)) := fun W hW => HCE.out W (hb.trans (hW.mono hb.size))
              have B2 := Lib.hid (HB.out.trans (hb.mono HB.out.size))
              clear hb cu q1 HCE
              go_wp2_with fail
              refine wq_lit (C := fun W => Below w2.heap.size w2 W) (by kernel_rfl) (by kernel_rfl) (Below.refl w2.heap.size w2).drew ?_
              refine wq_want (by kernel_rfl) ?_
              apply Exists.intro
              refine And.intro (fun W hW => ?_) ?_
              · unfold Oper.quietAt
                go_simp
                exact rfl
              try simp only [Act.put, List.setIfInBounds_toArray, List.set_cons_zero, List.set_cons_succ]
              refine wq_want (by kernel_rfl) ?_
              apply Exists.intro
              refine And.intro (fun W hW => ?_) ?_
              · have hh := HC.out W hW
                obtain ⟨hq1, hq3⟩ := hh
                unfold Oper.quietAt
                first
                 | (go_simp; done)
                 | (go_simp; exact rfl)
              try simp only [Act.put, List.setIfInBounds_toArray, List.set_cons_zero, List.set_cons_succ]
              refine wq_want (by kernel_rfl) ?_
              apply Exists.intro
              refine And.intro (fun W hW => ?_) ?_
              · unfold Oper.quietAt
                go_simp
                exact rfl
              try simp only [Act.put, List.setIfInBounds_toArray, List.set_cons_zero, List.set_cons_succ]
              refine wq_want (by kernel_rfl) ?_
              apply Exists.intro
              refine And.intro (fun W hW => ?_) ?_
              · unfold Oper.quietAt
                go_simp
                exact rfl
              try simp only [Act.put, List.setIfInBounds_toArray, List.set_cons_zero, List.set_cons_succ]
              refine wq_want (by kernel_rfl) ?_
              apply Exists.intro
              refine And.intro (fun W hW => ?_) ?_
              · unfold Oper.quietAt
                go_simp
                exact rfl
              try simp only [Act.put, List.setIfInBounds_toArray, List.set_cons_zero, List.set_cons_succ]
              refine wq_want (by kernel_rfl) ?_
              apply Exists.intro
              refine And.intro (fun W hW => ?_) ?_
              · have hh := HC.out W hW
                obtain ⟨hq1, hq3⟩ := hh
                unfold Oper.quietAt
                first
                 | (go_simp; done)
                 | (go_simp; exact rfl)
              try simp only [Act.put, List.setIfInBounds_toArray, List.set_cons_zero, List.set_cons_succ]
              refine wq_want (by kernel_rfl) ?_
              apply Exists.intro
              refine And.intro (fun W hW => ?_) ?_
              · have hh := HC.out W hW
                obtain ⟨hq1, hq3⟩ := hh
                unfold Oper.quietAt
                first
                 | (go_simp; done)
                 | (go_simp; exact rfl)
              try simp only [Act.put, List.setIfInBounds_toArray, List.set_cons_zero, List.set_cons_succ]
              refine wq_want (by kernel_rfl) ?_
              apply Exists.intro
              refine And.intro (fun W hW => ?_) ?_
              · unfold Oper.quietAt
                go_simp
                exact rfl
              try simp only [Act.put, List.setIfInBounds_toArray, List.set_cons_zero, List.set_cons_succ]
              refine wq_want (by kernel_rfl) ?_
              apply Exists.intro
              refine And.intro (fun W hW => ?_) ?_
              · unfold Oper.quietAt
                go_simp
                exact rfl
              try simp only [Act.put, List.setIfInBounds_toArray, List.set_cons_zero, List.set_cons_succ]
              refine wq_want (by kernel_rfl) ?_
              apply Exists.intro
              refine And.intro (fun W hW => ?_) ?_
              · have hh := HC.out W hW
                obtain ⟨hq1, hq3⟩ := hh
                unfold Oper.quietAt
                first
                 | (go_simp; done)
                 | (go_simp; exact rfl)
              try simp only [Act.put, List.setIfInBounds_toArray, List.set_cons_zero, List.set_cons_succ]
              refine wq_want (by kernel_rfl) ?_
              apply Exists.intro
              refine And.intro (fun W hW => ?_) ?_
              · have hh := HC.out W hW
                obtain ⟨hq1, hq3⟩ := hh
                unfold Oper.quietAt
                first
                 | (go_simp; done)
                 | (go_simp; exact rfl)
              try simp only [Act.put, List.setIfInBounds_toArray, List.set_cons_zero, List.set_cons_succ]
              refine wq_want (by kernel_rfl) ?_
              apply Exists.intro
              refine And.intro (fun W hW => ?_) ?_
              · have hh := HC.out W hW
                obtain ⟨hq1, hq3⟩ := hh
                unfold Oper.quietAt
                first
                 | (go_simp; done)
                 | (go_simp; exact rfl)
              try simp only [Act.put, List.setIfInBounds_toArray, List.set_cons_zero, List.set_cons_succ]
              refine wq_want (by kernel_rfl) ?_
              apply Exists.intro
              refine And.intro (fun W hW => ?_) ?_
              · unfold Oper.quietAt
                go_simp
                exact rfl
              try simp only [Act.put, List.setIfInBounds_toArray, List.set_cons_zero, List.set_cons_succ]
              refine wq_want (by kernel_rfl) ?_
              apply Exists.intro
              refine And.intro (fun W hW => ?_) ?_
              · unfold Oper.quietAt
                go_simp
                exact rfl
              try simp only [Act.put, List.setIfInBounds_toArray, List.set_cons_zero, List.set_cons_succ]
              refine wq_want (by kernel_rfl) ?_
              apply Exists.intro
              refine And.intro (fun W hW => ?_) ?_
              · unfold Oper.quietAt
                go_simp
                exact rfl
              try simp only [Act.put, List.setIfInBounds_toArray, List.set_cons_zero, List.set_cons_succ]
              refine wq_want (by kernel_rfl) ?_
              apply Exists.intro
              refine And.intro (fun W hW => ?_) ?_
              · have hh := HC.out W hW
                obtain ⟨hq1, hq3⟩ := hh
                unfold Oper.quietAt
                first
                 | (go_simp; done)
                 | (go_simp; exact rfl)
              try simp only [Act.put, List.setIfInBounds_toArray, List.set_cons_zero, List.set_cons_succ]
              refine wq_want (by kernel_rfl) ?_
              apply Exists.intro
              refine And.intro (fun W hW => ?_) ?_
              · have hh := HC.out W hW
                obtain ⟨hq1, hq3⟩ := hh
                unfold Oper.quietAt
                first
                 | (go_simp; done)
                 | (go_simp; exact rfl)
              try simp only [Act.put, List.setIfInBounds_toArray, List.set_cons_zero, List.set_cons_succ]
              refine wq_want (by kernel_rfl) ?_
              apply Exists.intro
              refine And.intro (fun W hW => ?_) ?_
              · unfold Oper.quietAt
                go_simp
                exact rfl
              try simp only [Act.put, List.setIfInBounds_toArray, List.set_cons_zero, List.set_cons_succ]
              refine wq_want (by kernel_rfl) ?_
              apply Exists.intro
              refine And.intro (fun W hW => ?_) ?_
              · unfold Oper.quietAt
                go_simp
                exact rfl
              try simp only [Act.put, List.setIfInBounds_toArray, List.set_cons_zero, List.set_cons_succ]
              refine wq_want (by kernel_rfl) ?_
              apply Exists.intro
              refine And.intro (fun W hW => ?_) ?_
              · have hh := HC.out W hW
                obtain ⟨hq1, hq3⟩ := hh
                unfold Oper.quietAt
                first
                 | (go_simp; done)
                 | (go_simp; exact rfl)
              try simp only [Act.put, List.setIfInBounds_toArray, List.set_cons_zero, List.set_cons_succ]
              refine wq_want (by kernel_rfl) ?_
              apply Exists.intro
              refine And.intro (fun W hW => ?_) ?_
              · have hh := HC.out W hW
                obtain ⟨hq1, hq3⟩ := hh
                unfold Oper.quietAt
                first
                 | (go_simp; done)
                 | (go_simp; exact rfl)
              try simp only [Act.put, List.setIfInBounds_toArray, List.set_cons_zero, List.set_cons_succ]
              refine wq_want (by kernel_rfl) ?_
              apply Exists.intro
              refine And.intro (fun W hW => ?_) ?_
              · unfold Oper.quietAt
                go_simp
                refine (CU2.out W).mono ?_
                rintro e w'' ⟨rfl, hg⟩
                exact ⟨rfl, hW.trans (hg.mono hW.size)⟩
              try simp only [Act.put, List.setIfInBounds_toArray, List.set_cons_zero, List.set_cons_succ]
              refine wq_want (by kernel_rfl) ?_
              apply Exists.intro
              refine And.intro (fun W hW => ?_) ?_
              · have hh := HC.out W hW
                obtain ⟨hq1, hq3⟩ := hh
                unfold Oper.quietAt
                first
                 | (go_simp; done)
                 | (go_simp; exact rfl)
              try simp only [Act.put, List.setIfInBounds_toArray, List.set_cons_zero, List.set_cons_succ]
              refine wq_want (by kernel_rfl) ?_
              apply Exists.intro
              refine And.intro (fun W hW => ?_) ?_
              · have hh := HC.out W hW
                obtain ⟨hq1, hq3⟩ := hh
                unfold Oper.quietAt
                first
                 | (go_simp; done)
                 | (go_simp; exact rfl)
              try simp only [Act.put, List.setIfInBounds_toArray, List.set_cons_zero, List.set_cons_succ]
              refine wq_nil ?_
              intro wq hwq
              have B3 := Lib.hid (B2.out.trans (hwq.mono B2.out.size))
              clear hwq
              go_wp2_with fail
              go_roundw
              case rel => exact ⟨k + 1, by omega, by go_num, by rw [HOK.out], B3.out⟩
              case measure => simp [intOf]; omega
      · have HOK : Hid (ofK ls p (k + 1) = ofK ls p k) := by
          show _ = _
          rw [ofK, if_neg (by rw [hgk]; exact hu)]
        rw [Bool.not_eq_true] at hu
        rw [hu] at cu
        clear hu hgk hyl
        generalize ls[k] = y at *
        generalize ofK ls p k = z at *
        clear hcells
        go_wp2_with fail
        refine cu.mono ?_
        rintro e w2 ⟨rfl, hb⟩
        have B2 := Lib.hid (HB.out.trans (hb.mono HB.out.size))
        clear hb cu q1
        go_wp2_with fail
        go_roundw
        case rel => exact ⟨k + 1, by omega, by go_num, by rw [HOK.out], B2.out⟩
        case measure => simp [intOf]; omega
    · obtain rfl : k = n := by omega
      rw [HR.out]
      clear hlt
      have v1 : ¬ (k : Int) < (k : Int) := by omega
      go_wp2_with fail
      go_ret
      exact ⟨rfl, HB.out⟩
theorem twiceK_le {ls : List (List UInt8)} {i n : Nat} (h : i ≤ n) (ht : twiceK ls i = true) : twiceK ls n = true := by
  unfold twiceK at ht ⊢
  obtain ⟨x, hx, hc⟩ := List.any_eq_true.1 ht
  exact List.any_eq_true.2 ⟨x, List.mem_range.2 (by have := List.mem_range.1 hx; omega), hc⟩
theorem twiceK_at {ls : List (List UInt8)} {j k : Nat} (hj : j < k) (hk : k < ls.length) (he : ls[k] = ls[j]) : twiceK ls (k + 1) = true := by
  rw [twiceK_succ, getD_at ls [] hk, he]
  have : (ls.take k).contains ls[j] = true := List.contains_iff_mem.2 (List.mem_take_iff_getElem.2 ⟨j, by omega, rfl⟩)
  rw [this, Bool.or_true]
def RelIn (w : World) (ls : List (List UInt8)) (y : List UInt8) (k : Nat) (i : Value) (wr : World) : Prop := ∃ j : Nat, j ≤ k ∧ i = .int .i64 (j : Int) ∧ (ls.take j).contains y = false ∧ Below w.heap.size w wr
set_option maxRecDepth 100000 in
set_option maxHeartbeats 8000000 in
theorem refCheck_any (ls : List (List UInt8)) (A : Option Addr) (n c : Nat) (w : World) (hS : RdV w A n (sv ls)) (hl : ∀ x ∈ ls, x.length ≤ 1000000) :
    Calls Tryd.prog 11 #[.slice A n c] w fun e w' => e = .returned (.int .i64 (chkF ls)) ∧ Below w.heap.size w w' := by
  have HS := Lib.hid hS
  have hln : ls.length = n := by rw [← hS.len, sv_length]
  have HLN := Lib.hid hln
  have HXL := Lib.hid hl
  have hr0 : chkF ls = if n < 1 ∨ 4 < n ∨ twiceK ls n = true then 1 else if (ls.any fun p => (partsF p).isNone) = true then 30 else 0 := by unfold chkF; rw [hln]
  obtain ⟨r, hr⟩ : ∃ r, r = chkF ls := ⟨_, rfl⟩
  rw [← hr] at hr0 ⊢
  have HR := Lib.hid hr0
  clear hr hr0 hS hln hl
  by_cases h1 : n < 1
  · have hr : r = 1 := by rw [HR.out, if_pos (.inl h1)]
    subst hr
    have i1 : (n : Int) < 1 := by omega
    clear h1
    go_enter Tryd.func11, Tryd.ntmps11
    go_wp2_with fail
    go_ret
    exact ⟨rfl, Below.refl _ _⟩
  · by_cases h4 : 4 < n
    · have hr : r = 1 := by rw [HR.out, if_pos (.inr (.inl h4))]
      subst hr
      have i1 : ¬ (n : Int) < 1 := by omega
      have i2 : (4 : Int) < (n : Int) := by omega
      clear h1 h4
      go_enter Tryd.func11, Tryd.ntmps11
      go_wp2_with fail
      go_ret
      exact ⟨rfl, Below.refl _ _⟩
    · have HR2 : Hid (r = if twiceK ls n = true then 1 else if (ls.any fun p => (partsF p).isNone) = true then 30 else 0) := by
        show _ = _
        rw [HR.out]
        simp only [h1, h4, false_or]
      have i1 : ¬ (n : Int) < 1 := by omega
      have i2 : ¬ (4 : Int) < (n : Int) := by omega
      have i3 : decide ((4 : Int) < (n : Int)) = false := decide_eq_false i2
      clear HR h1 h4
      go_enter Tryd.func11, Tryd.ntmps11
      go_wp2_with fail
      go_loopw [3, 4] (fun i _ wr => RelTwice w ls n i wr) (fun i _ _ => n - (intOf i).toNat)
      case atStart => exact ⟨0, Nat.zero_le _, rfl, rfl, Below.refl _ _⟩
      case round =>
        obtain ⟨k, hk, rfl, htw, hb⟩ := hrel
        have HTW := Lib.hid htw
        have HB := Lib.hid hb
        clear htw hb
        by_cases hlt : k < n
        · have hjx : k < ls.length := by rw [HLN.out]; exact hlt
          have vk : (k : Int) < (n : Int) := by omega
          obtain ⟨bb, oo, hA, hcells⟩ := text_at (HS.out.below HB.out) hjx
          have HCK := Lib.hid hcells
          clear hcells
          go_wp2_with fail
          go_loopw [4] (fun i wr => RelIn w ls ls[k] k i wr) (fun i _ => k - (intOf i).toNat)
          case atStart => exact ⟨0, Nat.zero_le _, rfl, by simp, HB.out⟩
          case round =>
            obtain ⟨j, hj, rfl, hcn, hb2⟩ := hrel
            have HCN := Lib.hid hcn
            have HB2 := Lib.hid hb2
            clear hcn hb2
            by_cases hlj : j < k
            · have hjj : j < ls.length := by omega
              have vj : (j : Int) < (k : Int) := by omega
              have vj2 : (j : Int) < (n : Int) := by omega
              obtain ⟨bb', oo', hA', hcj0⟩ := text_at (HS.out.below HB2.out) hjj
              obtain ⟨bb2, oo2, hA2, hck0⟩ := text_at (HS.out.below HB2.out) hjx
              rw [hA] at hA' hA2
              injection hA' with hA'
              injection hA' with e1 e2
              subst e1 e2
              injection hA2 with hA2
              injection hA2 with e1 e2
              subst e1 e2
              have hcj := fun r => hcj0 wr (Below.refl _ _) r
              have hck := fun r => hck0 wr (Below.refl _ _) r
              clear hcj0 hck0
              have s1 := S_list ls[k]
              have s2 := S_list ls[j]
              have HAT := Lib.hid (contains_take (x := ls[k]) hjj)
              generalize S ls[k] = X at *
              generalize S ls[j] = Y at *
              subst hA
              by_cases he : ls[k] = ls[j]
              · have hr : r = 1 := by rw [HR2.out, if_pos (twiceK_le (show k + 1 ≤ n by omega) (twiceK_at hlj hjx he))]
                subst hr
                have hq : (X.toList == Y.toList) = true := by rw [s1, s2, he]; simp
                clear s1 s2 he HAT
                go_wp2_with fail
                go_quiet (fail)
                have HBq := Lib.hid (below_drewN HB2.out nq)
                generalize wr.drewN nq = wq at *
                clear hcj hck
                go_wp2_with fail
                go_ret
                exact ⟨rfl, HBq.out⟩
              · have hq : (X.toList == Y.toList) = false := by rw [s1, s2]; simpa using he
                have HREL : Hid ((ls.take (j + 1)).contains ls[k] = false) := by
                  show _ = _
                  rw [HAT.out, HCN.out, beq_eq_false_iff_ne.2 he]
                  rfl
                clear s1 s2 he HAT
                go_wp2_with fail
                go_quiet (fail)
                have HBq := Lib.hid (below_drewN HB2.out nq)
                generalize wr.drewN nq = wq at *
                clear hcj hck
                go_wp2_with fail
                exact ⟨⟨j + 1, by omega, by go_num, HREL.out, HBq.out⟩, by simp [intOf]; omega⟩
            · obtain rfl : j = k := by omega
              have HT2 : Hid (twiceK ls (j + 1) = false) := by
                show _ = _
                rw [twiceK_succ, HTW.out, getD_at ls [] hjx, HCN.out]
                rfl
              clear hlj
              have vj : ¬ (j : Int) < (j : Int) := by omega
              go_wp2_with fail
              exact ⟨⟨j + 1, by omega, by go_num, HT2.out, HB2.out⟩, by simp [intOf]; omega⟩
        · obtain rfl : k = n := by omega
          have HR3 : Hid (r = if (ls.any fun p => (partsF p).isNone) = true then 30 else 0) := by
            show _ = _
            rw [HR2.out, if_neg (by rw [HTW.out]; decide)]
          clear hlt HR2 HTW
          have v1 : ¬ (k : Int) < (k : Int) := by omega
          go_wp2_with fail
          go_loopw [5, 6, 7] (fun i _ _ wr => RelAny w ls (fun p => (partsF p).isNone) k i wr) (fun i _ _ _ => k - (intOf i).toNat)
          case atStart => exact ⟨0, Nat.zero_le _, rfl, by simp, HB.out⟩
          case round =>
            obtain ⟨j, hj, rfl, hall, hb2⟩ := hrel
            have HALL := Lib.hid hall
            have HB2 := Lib.hid hb2
            clear hall hb2
            by_cases hlj : j < k
            · have hjj : j < ls.length := by rw [HLN.out]; exact hlj
              have vj : (j : Int) < (k : Int) := by omega
              obtain ⟨bb, oo, rfl, hcells⟩ := text_at (HS.out.below HB2.out) hjj
              have q1 := hcells _ (Below.refl _ _) 0
              simp only [World.drewN_zero] at q1
              have HAT := Lib.hid (any_take (p := fun p : List UInt8 => (partsF p).isNone) hjj)
              have HMEM := Lib.hid (List.getElem_mem hjj)
              have cp := refParts_any ls[j] wr (HXL.out _ (List.getElem_mem hjj))
              clear hcells
              generalize ls[j] = y at *
              generalize S y = Y at *
              go_wp2_with fail
              refine cp.mono ?_
              rintro e w4 ⟨A', m, c', ok, rfl, hb, hyes, hno⟩
              have HB4 := Lib.hid (HB2.out.trans (hb.mono HB2.out.size))
              clear hb cp q1
              cases hp : partsF y with
              | none =>
                obtain ⟨rfl, rfl, rfl, rfl⟩ := hno hp
                have hr : r = 30 := by
                  rw [HR3.out, if_pos (List.any_eq_true.2 ⟨y, HMEM.out, by rw [hp]; rfl⟩)]
                subst hr
                clear hyes hno
                go_wp2_with fail
                go_ret
                exact ⟨rfl, HB4.out⟩
              | some ps =>
                obtain ⟨rfl, _⟩ := hyes ps hp
                have HREL : Hid ((ls.take (j + 1)).any (fun p => (partsF p).isNone) = false) := by
                  show _ = _
                  rw [HAT.out, HALL.out, hp]
                  rfl
                clear hyes hno
                go_wp2_with fail
                go_roundw
                case rel => exact ⟨j + 1, by omega, by go_num, HREL.out, HB4.out⟩
                case measure => simp [intOf]; omega
            · obtain rfl : j = k := by omega
              have hr : r = 0 := by
                have := HALL.out
                rw [List.take_of_length_le (by rw [HLN.out]; exact Nat.le_refl _)] at this
                rw [HR3.out, if_neg (by rw [this]; decide)]
              subst hr
              clear hlj
              have vj : ¬ (j : Int) < (j : Int) := by omega
              go_wp2_with fail
              go_ret
              exact ⟨rfl, HB2.out⟩
end Go.Proofs.YtnmlknhomhonaaaDoor.Reg
