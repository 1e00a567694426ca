/- RegionTurned: in whatever order roots stand, a path's region has the same root. For every input the call returns true, and each argument reads afterwards as it read before. No conditions. -/
import Derived.Test.YtnmlknhomhonaaaDoorRegQuiet
import Derived.Test.YtnmlknhomhonaaaDoorPathFrame
namespace Go.Proofs.YtnmlknhomhonaaaDoor.regionTurned
open Go.ChangeShapes Go.WideShapes Go.ChangeAt Go.RowKit Path Reg

theorem step_append_RdV {P : Program} {w : World} {ops : Array Oper} {o : Oper} {a : Act} {K : Act → World → Prop} {Q : Exit → Act → World → Prop} {E : Prop} (hgd : o.guard = none) (s x : Operand) (t : TypeId)
    (ho : o.op = .call { callee := .builtin .append, args := #[s, x], argTypes := #[t, t] }) {e : TypeId} {i : TypeInfo} {z : Value} {bytes : Nat} (ht : P.underlying t = some (.slice e)) (hi : P.info? e = some i) (hz : i.zero = some z) (hsz : i.size = 1) (hb : i.bytes = bytes) (hzs : z.cells.size = 1)
    {base : Nat} {v : Value} {n : Nat} {xs : List Value} (hs : a.eval s = v) (hown : w.ownsRow base e 1 v n xs) {A : Option Addr} {m c : Nat} {vs : List Value} (hx : a.eval x = .slice A m c) (h : RdV w A m vs) (h1 : ∀ u ∈ vs, u.oneCell' = true) (h63 : n + m ≤ maxLen) (hm : (n + m) * bytes ≤ 140737488355328) (hbase : base ≤ w.heap.size)
    (hK : ∀ v' w', w'.ownsRow base e 1 v' (n + m) (xs ++ vs) → w.grownBy w' v.ownBlock → K (a.put o.dst v') w') : if Region.wanted o (yielded ops a.tmps) = true then Oper.wp P o a w K Q else E := by
  have hw : Region.wanted o (yielded ops a.tmps) = true := by simp [Region.wanted, hgd]
  rw [if_pos hw]
  obtain ⟨v', w', h1, h2, h3⟩ := run_append_RdV (ty := o.type) ht hi hz hsz hb hzs hown h h1 c h63 hm hbase
  unfold Oper.wp execOp
  simp only [ho, resolve, invoke, builtin, Sem.run_bind, Sem.run_pure, Result.andThen_ok, List.map_toArray, List.map_cons, List.map_nil, hs, hx, h1]
  exact hK v' w' h2 h3
theorem own_lit0 (w : World) (e : TypeId) : (w.alloc (.cells #[] e)).ownsRow w.heap.size e 1 (.slice (some ⟨w.heap.size, 0, none⟩) 0 0) 0 [] := World.ownsRow_lit w #[] 0 (Nat.le_refl _) (Nat.zero_le _) rfl
theorem own_cap {w : World} {base n m d : Nat} {e : TypeId} {B : Option Addr} {xs : List Value} (h : w.ownsRow base e 1 (.slice B n d) m xs) : n ≤ d := by
  rcases h.2 with ⟨h1, h2⟩ | ⟨g, cap, cur, h1, _, _, h2, _⟩
  · injection h1 with _ h1 h3
    omega
  · injection h1 with _ h1 h3
    omega
theorem RdV.drop {w : World} {A : Option Addr} {n : Nat} {ls : List (List UInt8)} (h : RdV w A n (sv ls)) {k : Nat} (hk : k < n) : ∃ ad, A = some ad ∧ RdV w (some (ad.add k)) (n - k) (sv (ls.drop k)) := by
  obtain ⟨ad, rfl, hcells⟩ := h.cells (by omega)
  have hl := h.len
  rw [sv_length] at hl
  refine ⟨ad, rfl, by rw [sv_length, List.length_drop, hl], fun _ => ⟨_, rfl, fun j v hv => ?_⟩⟩
  rw [addr_add_add]
  refine hcells (k + j) v ?_
  unfold sv at hv ⊢
  rw [List.getElem?_map] at hv ⊢
  rwa [List.getElem?_drop] at hv
set_option maxRecDepth 100000 in
set_option maxHeartbeats 8000000 in
theorem walk (ls : List (List UInt8)) (p : List UInt8) (A : Option Addr) (n c : Nat) (b : Nat) (w : World) (hS : RdV w A n (sv ls)) (hc : n ≤ c) (hb8 : b < 256) : Calls Tryd.prog 8 #[.slice A n c, .string (S p), .int .u8 (b : Int)] w fun e w' => e = .returned (.bool true) ∧ Below w.heap.size w w' := by
  have HB8 := Lib.hid hb8
  clear hb8
  have HS := Lib.hid hS
  have hln : ls.length = n := by rw [← hS.len, sv_length]
  have HLN := Lib.hid hln
  have cl := long_any ls A n c w hS
  have hsznp : (S p).size = p.length := S_size p
  have hszp : ((S p).size : Int) = (p.length : Int) := by rw [S_size]
  cases hlo : longF ls
  · have HLG := Lib.hid (long_no hlo)
    rw [hlo] at cl
    by_cases hpp : 200 < p.length
    · have hpip : (200 : Int) < (p.length : Int) := by omega
      clear hS hln hlo hpp
      generalize S p = sp at *
      go_enter Tryd.func8, Tryd.ntmps8
      go_wp2_with fail
      refine cl.mono ?_
      rintro e w1 ⟨rfl, hb⟩
      have B1 := Lib.hid hb
      clear hb cl
      go_wp2_with fail
      refine (finds_any _).mono ?_
      rintro e wf ⟨rfl, hb⟩
      have BF := Lib.hid (B1.out.trans (hb.mono B1.out.size))
      clear hb
      go_wp2_with fail
      go_ret
      exact ⟨rfl, BF.out⟩
    · have hpip : ¬ (200 : Int) < (p.length : Int) := by omega
      have hpjp : decide ((200 : Int) < (p.length : Int)) = false := decide_eq_false hpip
      have HPp : Hid (p.length ≤ 200) := by show _ ≤ _; omega
      clear hpp
      have HN : Hid (n ≤ 1000000) := by show _ ≤ _; have := HLG.out.1; omega
      have CK := Lib.hid (fun W (hW : Below w.heap.size w W) => check_any ls A n c W (hS.below hW) HN.out hc (fun x hx => by have := HLG.out.2 x hx; omega))
      obtain ⟨z, hz⟩ : ∃ z, z = chkF ls := ⟨_, rfl⟩
      rw [← hz] at CK
      have HZ := Lib.hid hz
      by_cases h0 : z = 0
      · subst h0
        have HC0 : Hid (chkF ls = 0) := HZ.out.symm
        clear hS hln hlo hz HZ
        obtain ⟨sp, hsp⟩ : ∃ sp, sp = S p := ⟨_, rfl⟩
        have HSp := Lib.hid hsp
        rw [← hsp] at hsznp hszp ⊢
        clear hsp
        go_enter Tryd.func8, Tryd.ntmps8
        go_wp2_with fail
        refine cl.mono ?_
        rintro e w1 ⟨rfl, hb⟩
        have B1 := Lib.hid hb
        clear hb cl
        have ck := CK.out w1 B1.out
        go_wp2_with fail
        refine ck.mono ?_
        rintro e w2 ⟨rfl, hb⟩
        have B2 := Lib.hid (B1.out.trans (hb.mono B1.out.size))
        clear hb ck CK
        have HK1 := Lib.hid (chk_ok HC0.out)
        have hn1 : 1 ≤ n := by have := HK1.out.1; rw [HLN.out] at this; exact this
        have hn2 : n ≤ 4 := by have := HK1.out.2.1; rw [HLN.out] at this; exact this
        obtain ⟨k, hk⟩ : ∃ k, k = b % n := ⟨_, rfl⟩
        have hkn : k < n := by rw [hk]; exact Nat.mod_lt _ (by omega)
        have vz : ((n : Int) == 0) = false := beq_eq_false_iff_ne.2 (by omega)
        have vz2 : ¬ (n : Int) = 0 := by omega
        have vr : (b : Int).tmod (n : Int) = (k : Int) := by rw [hk]; exact (Int.ofNat_tmod b n).symm
        have vk0 : ¬ (k : Int) < 0 := by omega
        have vk1 : ¬ (n : Int) < (k : Int) := by omega
        have vk2 : (k : Int) ≤ (n : Int) := by omega
        have vk3 : (n : Int) ≤ (c : Int) := by omega
        have hb8 : b < 256 := HB8.out
        have vck : ¬ c = k := by omega
        have vkc : k ≤ c := by omega
        have hbm : Hid (Below w2.heap.size w2 (w2.alloc (.cells #[] 9)).drew) := ((Below.refl _ w2).alloc (Nat.le_refl _) _).drew
        have hown0 : Hid ((w2.alloc (.cells #[] 9)).drew.ownsRow w2.heap.size 9 1 (.slice (some ⟨w2.heap.size, 0, none⟩) 0 0) 0 []) := own_lit0 w2 9
        have vw : wrap64 (b : Int) = (b : Int) := by unfold wrap64; omega
        clear hb8
        obtain ⟨ad, rfl, hdr⟩ := RdV.drop (HS.out.below B2.out) hkn
        have hpr := Reg.RdV.pre (HS.out.below B2.out) (Nat.le_of_lt hkn)
        obtain ⟨i0, hi, hz0, hz1, hz2⟩ := infos info_text
        have HI := Lib.hid hi
        have HZ0 := Lib.hid hz0
        have HZ1 := Lib.hid hz1
        have HZ2 := Lib.hid hz2
        have HDR := Lib.hid hdr
        have HPR := Lib.hid hpr
        clear hi hz0 hz1 hz2 hdr hpr hk
        go_wp2_with fail
        go_region_law (first
          | (refine step_append_RdV (by rfl) (.tmp 34) (.tmp 37) _ (by rfl) ty_texts HI.out HZ0.out HZ1.out HZ2.out rfl (by rfl) hown0.out (by rfl) (HDR.out.below hbm.out) (sv_all _) (by unfold maxLen; omega) (by omega) (by simp) ?_; intro v4 w4 hown4 hgr4; have HO4 := Lib.hid hown4; have HG4 : Hid (Below w2.heap.size w2 w4) := hbm.out.grown hgr4 hbm.out.size (fun g hg => (hown0.out.lt g hg).1); clear hown4 hgr4)
          | (refine step_append_RdV (by rfl) (.tmp 38) (.tmp 41) _ (by rfl) ty_texts HI.out HZ0.out HZ1.out HZ2.out rfl (by rfl) HO4.out (by rfl) (HPR.out.below HG4.out) (sv_all _) (by unfold maxLen; omega) (by omega) HG4.out.size ?_; intro v5 w5 hown5 hgr5; have HO5 := Lib.hid hown5; have HG5 : Hid (Below w2.heap.size w2 w5) := HG4.out.grown hgr5 HG4.out.size (fun g hg => (HO4.out.lt g hg).1); clear hown5 hgr5)
          | fail)
        have h5 : w5.ownsRow w2.heap.size 9 1 v5 n (sv (ls.drop k ++ ls.take k)) := by
          have := HO5.out
          rw [show 0 + (n - k) + k = n by omega] at this
          simpa [sv] using this
        obtain ⟨B, d, rfl⟩ := own_slice h5
        have HM := Lib.hid (RdV.of_own h5).1
        have B5 : Hid (Below w.heap.size w w5) := B2.out.trans (HG5.out.mono B2.out.size)
        have HML : Hid ((ls.drop k ++ ls.take k).length = n) := by show _ = _; rw [List.length_append, List.length_drop, List.length_take, HLN.out]; omega
        have HMX : Hid (∀ x ∈ ls.drop k ++ ls.take k, x.length ≤ 200) := by
          intro x hx
          rcases List.mem_append.1 hx with h | h
          · exact HLG.out.2 x (List.drop_subset _ _ h)
          · exact HLG.out.2 x (List.take_subset _ _ h)
        have HTU := Lib.hid (of_turned (ls := ls) (ms := ls.drop k ++ ls.take k) (fun x => by rw [List.mem_append, or_comm, ← List.mem_append, List.take_append_drop]) p)
        generalize ls.drop k ++ ls.take k = ms at *
        clear h5 HO4 HO5 HG4 HG5 hbm hown0 HDR HPR HI HZ0 HZ1 HZ2 vw vr
        have co1 := of_any ls p (some ad) n c w5 (HS.out.below B5.out) HN.out (by have := HPp.out; omega) (fun x hx => by have := HLG.out.2 x hx; omega)
        have CO2 := Lib.hid (fun W (hW : Below w5.heap.size w5 W) => of_any ms p B n d W (HM.out.below hW) HN.out (by have := HPp.out; omega) (fun x hx => by have := HMX.out x hx; omega))
        rw [← HSp.out] at co1 CO2
        rcases HTU.out with ⟨h1, h2⟩ | ⟨i, j, hi, hj, h1, h2, h3⟩
        · rw [h1] at co1
          rw [h2] at CO2
          clear h1 h2
          go_wp2_with fail
          refine co1.mono ?_
          rintro e w6 ⟨rfl, hb⟩
          have B6 := Lib.hid hb
          have co2 := CO2.out w6 hb
          clear hb co1
          go_wp2_with fail
          refine co2.mono ?_
          rintro e w7 ⟨rfl, hb⟩
          have B7 := Lib.hid (B5.out.trans ((B6.out.trans (hb.mono B6.out.size)).mono B5.out.size))
          clear hb co2
          go_wp2_with fail
          refine (finds_any _).mono ?_
          rintro e wf ⟨rfl, hb⟩
          have BF := Lib.hid (B7.out.trans (hb.mono B7.out.size))
          clear hb
          go_wp2_with fail
          go_ret
          exact ⟨rfl, BF.out⟩
        · rw [h1] at co1
          rw [h2] at CO2
          have hin : i < n := by rw [← HLN.out]; exact hi
          have hjn : j < n := by rw [← HML.out]; exact hj
          have vi : (i : Int) < (n : Int) := by omega
          have vj : (j : Int) < (n : Int) := by omega
          rw [getD_at ls [] hi, getD_at ms [] hj] at h3
          clear h1 h2
          go_wp2_with fail
          refine co1.mono ?_
          rintro e w6 ⟨rfl, hb⟩
          have B6 := Lib.hid hb
          have co2 := CO2.out w6 hb
          clear hb co1
          go_wp2_with fail
          refine co2.mono ?_
          rintro e w7 ⟨rfl, hb⟩
          have B67 := Lib.hid (B6.out.trans (hb.mono B6.out.size))
          have B7 := Lib.hid (B5.out.trans (B67.out.mono B5.out.size))
          clear hb co2
          obtain ⟨bb, oo, e1, hca⟩ := text_at (HS.out.below B7.out) hi
          injection e1 with e1
          subst e1
          obtain ⟨bb2, oo2, rfl, hcb⟩ := text_at (HM.out.below B67.out) hj
          rw [h3] at hca
          generalize ms[j] = y at *
          have HC : Hid (∀ W, Below w7.heap.size w7 W → W.cell? ⟨bb, oo + i, none⟩ = some (.string (S y)) ∧ W.cell? ⟨bb2, oo2 + j, none⟩ = some (.string (S y))) := fun W hW => ⟨by simpa only [World.drewN_zero] using hca W hW 0, by simpa only [World.drewN_zero] using hcb W hW 0⟩
          clear hca hcb h3
          generalize S y = sy at *
          have hq : (sy.toList == sy.toList) = true := by simp
          have CF := Lib.hid (fun W => finds_any W)
          go_wp2_with fail
          refine wq_lit (C := fun W => Below w7.heap.size w7 W) (by kernel_rfl) (by kernel_rfl) (Below.refl w7.heap.size w7).drew ?_
          refine wq_want (by kernel_rfl) ?_
          apply Exists.intro
          refine And.intro (fun W hW => ?_) ?_
          · unfold Oper.quietAt
            go_simp
            exact rfl
          try simp only [Act.put, List.setIfInBounds_toArray, List.set_cons_zero, List.set_cons_succ]
          refine wq_want (by kernel_rfl) ?_
          apply Exists.intro
          refine And.intro (fun W hW => ?_) ?_
          · unfold Oper.quietAt
            go_simp
            exact rfl
          try simp only [Act.put, List.setIfInBounds_toArray, List.set_cons_zero, List.set_cons_succ]
          refine wq_want (by kernel_rfl) ?_
          apply Exists.intro
          refine And.intro (fun W hW => ?_) ?_
          · have hh := HC.out W hW
            obtain ⟨hq1, hq3⟩ := hh
            unfold Oper.quietAt
            first
             | (go_simp; done)
             | (go_simp; exact rfl)
          try simp only [Act.put, List.setIfInBounds_toArray, List.set_cons_zero, List.set_cons_succ]
          refine wq_want (by kernel_rfl) ?_
          apply Exists.intro
          refine And.intro (fun W hW => ?_) ?_
          · have hh := HC.out W hW
            obtain ⟨hq1, hq3⟩ := hh
            unfold Oper.quietAt
            first
             | (go_simp; done)
             | (go_simp; exact rfl)
          try simp only [Act.put, List.setIfInBounds_toArray, List.set_cons_zero, List.set_cons_succ]
          refine wq_want (by kernel_rfl) ?_
          apply Exists.intro
          refine And.intro (fun W hW => ?_) ?_
          · unfold Oper.quietAt
            go_simp
            exact rfl
          try simp only [Act.put, List.setIfInBounds_toArray, List.set_cons_zero, List.set_cons_succ]
          refine wq_want (by kernel_rfl) ?_
          apply Exists.intro
          refine And.intro (fun W hW => ?_) ?_
          · unfold Oper.quietAt
            go_simp
            exact rfl
          try simp only [Act.put, List.setIfInBounds_toArray, List.set_cons_zero, List.set_cons_succ]
          refine wq_want (by kernel_rfl) ?_
          apply Exists.intro
          refine And.intro (fun W hW => ?_) ?_
          · unfold Oper.quietAt
            go_simp
            exact rfl
          try simp only [Act.put, List.setIfInBounds_toArray, List.set_cons_zero, List.set_cons_succ]
          refine wq_want (by kernel_rfl) ?_
          apply Exists.intro
          refine And.intro (fun W hW => ?_) ?_
          · have hh := HC.out W hW
            obtain ⟨hq1, hq3⟩ := hh
            unfold Oper.quietAt
            first
             | (go_simp; done)
             | (go_simp; exact rfl)
          try simp only [Act.put, List.setIfInBounds_toArray, List.set_cons_zero, List.set_cons_succ]
          refine wq_want (by kernel_rfl) ?_
          apply Exists.intro
          refine And.intro (fun W hW => ?_) ?_
          · have hh := HC.out W hW
            obtain ⟨hq1, hq3⟩ := hh
            unfold Oper.quietAt
            first
             | (go_simp; done)
             | (go_simp; exact rfl)
          try simp only [Act.put, List.setIfInBounds_toArray, List.set_cons_zero, List.set_cons_succ]
          refine wq_want (by kernel_rfl) ?_
          apply Exists.intro
          refine And.intro (fun W hW => ?_) ?_
          · have hh := HC.out W hW
            obtain ⟨hq1, hq3⟩ := hh
            unfold Oper.quietAt
            first
             | (go_simp; done)
             | (go_simp; exact rfl)
          try simp only [Act.put, List.setIfInBounds_toArray, List.set_cons_zero, List.set_cons_succ]
          refine wq_want (by kernel_rfl) ?_
          apply Exists.intro
          refine And.intro (fun W hW => ?_) ?_
          · unfold Oper.quietAt
            go_simp
            exact rfl
          try simp only [Act.put, List.setIfInBounds_toArray, List.set_cons_zero, List.set_cons_succ]
          refine wq_want (by kernel_rfl) ?_
          apply Exists.intro
          refine And.intro (fun W hW => ?_) ?_
          · unfold Oper.quietAt
            go_simp
            exact rfl
          try simp only [Act.put, List.setIfInBounds_toArray, List.set_cons_zero, List.set_cons_succ]
          refine wq_want (by kernel_rfl) ?_
          apply Exists.intro
          refine And.intro (fun W hW => ?_) ?_
          · unfold Oper.quietAt
            go_simp
            exact rfl
          try simp only [Act.put, List.setIfInBounds_toArray, List.set_cons_zero, List.set_cons_succ]
          refine wq_want (by kernel_rfl) ?_
          apply Exists.intro
          refine And.intro (fun W hW => ?_) ?_
          · have hh := HC.out W hW
            obtain ⟨hq1, hq3⟩ := hh
            unfold Oper.quietAt
            first
             | (go_simp; done)
             | (go_simp; exact rfl)
          try simp only [Act.put, List.setIfInBounds_toArray, List.set_cons_zero, List.set_cons_succ]
          refine wq_want (by kernel_rfl) ?_
          apply Exists.intro
          refine And.intro (fun W hW => ?_) ?_
          · have hh := HC.out W hW
            obtain ⟨hq1, hq3⟩ := hh
            unfold Oper.quietAt
            first
             | (go_simp; done)
             | (go_simp; exact rfl)
          try simp only [Act.put, List.setIfInBounds_toArray, List.set_cons_zero, List.set_cons_succ]
          refine wq_want (by kernel_rfl) ?_
          apply Exists.intro
          refine And.intro (fun W hW => ?_) ?_
          · unfold Oper.quietAt
            go_simp
            exact rfl
          try simp only [Act.put, List.setIfInBounds_toArray, List.set_cons_zero, List.set_cons_succ]
          refine wq_want (by kernel_rfl) ?_
          apply Exists.intro
          refine And.intro (fun W hW => ?_) ?_
          · unfold Oper.quietAt
            go_simp
            exact rfl
          try simp only [Act.put, List.setIfInBounds_toArray, List.set_cons_zero, List.set_cons_succ]
          refine wq_want (by kernel_rfl) ?_
          apply Exists.intro
          refine And.intro (fun W hW => ?_) ?_
          · have hh := HC.out W hW
            obtain ⟨hq1, hq3⟩ := hh
            unfold Oper.quietAt
            first
             | (go_simp; done)
             | (go_simp; exact rfl)
          try simp only [Act.put, List.setIfInBounds_toArray, List.set_cons_zero, List.set_cons_succ]
          refine wq_want (by kernel_rfl) ?_
          apply Exists.intro
          refine And.intro (fun W hW => ?_) ?_
          · have hh := HC.out W hW
            obtain ⟨hq1, hq3⟩ := hh
            unfold Oper.quietAt
            first
             | (go_simp; done)
             | (go_simp; exact rfl)
          try simp only [Act.put, List.setIfInBounds_toArray, List.set_cons_zero, List.set_cons_succ]
          refine wq_want (by kernel_rfl) ?_
          apply Exists.intro
          refine And.intro (fun W hW => ?_) ?_
          · have hh := HC.out W hW
            obtain ⟨hq1, hq3⟩ := hh
            unfold Oper.quietAt
            first
             | (go_simp; done)
             | (go_simp; exact rfl)
          try simp only [Act.put, List.setIfInBounds_toArray, List.set_cons_zero, List.set_cons_succ]
          refine wq_want (by kernel_rfl) ?_
          apply Exists.intro
          refine And.intro (fun W hW => ?_) ?_
          · have hh := HC.out W hW
            obtain ⟨hq1, hq3⟩ := hh
            unfold Oper.quietAt
            first
             | (go_simp; done)
             | (go_simp; exact rfl)
          try simp only [Act.put, List.setIfInBounds_toArray, List.set_cons_zero, List.set_cons_succ]
          refine wq_want (by kernel_rfl) ?_
          apply Exists.intro
          refine And.intro (fun W hW => ?_) ?_
          · unfold Oper.quietAt
            go_simp
            exact rfl
          try simp only [Act.put, List.setIfInBounds_toArray, List.set_cons_zero, List.set_cons_succ]
          refine wq_want (by kernel_rfl) ?_
          apply Exists.intro
          refine And.intro (fun W hW => ?_) ?_
          · unfold Oper.quietAt
            go_simp
            refine (CF.out W).mono ?_
            rintro e w'' ⟨rfl, hg⟩
            exact ⟨rfl, hW.trans (hg.mono hW.size)⟩
          try simp only [Act.put, List.setIfInBounds_toArray, List.set_cons_zero, List.set_cons_succ]
          refine wq_want (by kernel_rfl) ?_
          apply Exists.intro
          refine And.intro (fun W hW => ?_) ?_
          · have hh := HC.out W hW
            obtain ⟨hq1, hq3⟩ := hh
            unfold Oper.quietAt
            first
             | (go_simp; done)
             | (go_simp; exact rfl)
          try simp only [Act.put, List.setIfInBounds_toArray, List.set_cons_zero, List.set_cons_succ]
          refine wq_want (by kernel_rfl) ?_
          apply Exists.intro
          refine And.intro (fun W hW => ?_) ?_
          · unfold Oper.quietAt
            go_simp
            exact rfl
          try simp only [Act.put, List.setIfInBounds_toArray, List.set_cons_zero, List.set_cons_succ]
          refine wq_nil ?_
          intro wq hwq
          have B8 := Lib.hid (B7.out.trans (hwq.mono B7.out.size))
          clear hwq
          go_wp2_with fail
          go_ret
          exact ⟨rfl, B8.out⟩
      · have hz2 : (z == 0) = false := beq_eq_false_iff_ne.2 h0
        have hz3 : (z != 0) = true := by rw [bne, hz2]; rfl
        clear hS hln hlo hz HZ
        generalize S p = sp at *
        go_enter Tryd.func8, Tryd.ntmps8
        go_wp2_with fail
        refine cl.mono ?_
        rintro e w1 ⟨rfl, hb⟩
        have B1 := Lib.hid hb
        clear hb cl
        have ck := CK.out w1 B1.out
        go_wp2_with fail
        refine ck.mono ?_
        rintro e w2 ⟨rfl, hb⟩
        have B2 := Lib.hid (B1.out.trans (hb.mono B1.out.size))
        clear hb ck CK
        go_wp2_with fail
        refine (finds_any _).mono ?_
        rintro e wf ⟨rfl, hb⟩
        have BF := Lib.hid (B2.out.trans (hb.mono B2.out.size))
        clear hb
        go_wp2_with fail
        go_ret
        exact ⟨rfl, BF.out⟩
  · rw [hlo] at cl
    clear hS hln hlo
    generalize S p = sp at *
    go_enter Tryd.func8, Tryd.ntmps8
    go_wp2_with fail
    refine cl.mono ?_
    rintro e w1 ⟨rfl, hb⟩
    have B1 := Lib.hid hb
    clear hb cl
    go_wp2_with fail
    refine (finds_any _).mono ?_
    rintro e wf ⟨rfl, hb⟩
    have BF := Lib.hid (B1.out.trans (hb.mono B1.out.size))
    clear hb
    go_wp2_with fail
    go_ret
    exact ⟨rfl, BF.out⟩

set_option maxRecDepth 100000 in
theorem lifted (os : Os) (started : os.Started) (H : Type) (enc : TypeId × Value → H) :
    ReturnsInHanded {} Tryd.checked os 8 .any (fun w args => (Rows.regionTurnedSpec.pre enc Tryd.prog Tryd.f8 Rows.regionTurnedRow.domain false w args ∧ laidMetH Tryd.prog Rows.regionTurnedRow.laid w) ∧ sizedMet enc Tryd.prog Tryd.f8 (OpenSpec.ofChange Rows.regionTurnedSpec) false w args) (Rows.regionTurnedSpec.post enc Tryd.prog Tryd.f8 false true false false) := by
  refine returnsInHanded_of_change_and (C := Tryd.checked) (X := fun w _ => laidMetH Tryd.prog Rows.regionTurnedRow.laid w) (fun _ _ _ hh h => h.of_heap hh) own started (by kernel_rfl) Tryd.func8
    (ChangeSpec.witness_shaped (enc := enc) (C := Tryd.checked) (os := os) (X := fun w _ => laidMetH Tryd.prog Rows.regionTurnedRow.laid w) false (World.laidAll Tryd.prog os Rows.regionTurnedRow.laid) #[.slice none 0 0, .string ⟨#[]⟩, .int .u8 0] 8 (World.laidAll_os _ _ _)
      (World.shaped_of_ZipB (by kernel_rfl) (by kernel_rfl)) (by kernel_rfl) (by kernel_rfl) (by kernel_rfl)
      (by rw [MakeChecks.laidMetH_plain _ _ _ (by kernel_rfl)]; exact laidMet_laidAll _ (by kernel_rfl) (by kernel_rfl))) ?_
  intro W base args ds gs before hval0 hW _ _ _ _
  have hval : ∀ (j : Nat) t v, Tryd.f8.params[j]? = some t → args[j]? = some v → Value.okWide Tryd.prog W .any base t v := hval0
  have hW' := hW
  obtain ⟨p, q, hA0, hV, rfl, hfz, hnd⟩ := hW
  have hA : DataW.TrodAll enc Tryd.prog W 0 (fun _ => true) true Tryd.f8.params.toList args.toList ds p := hA0
  rw [Tryd.params8] at hA hval
  obtain ⟨v0, v1, v2, d0, d1, d2, p0, p1, p2, rfl, rfl, rfl, h0, h1, h2⟩ := trodAll_three hA
  obtain ⟨rfl, rfl⟩ := trodVars_none hV
  obtain ⟨A, n, c, ls, rfl, hc, hcm, hS⟩ := arg_texts (hval 0 _ v0 rfl rfl) h0
  obtain ⟨l, rfl⟩ := open_text ty_string (hval 1 _ v1 rfl rfl)
  obtain ⟨b, rfl, hb8⟩ := open_u8 ty_byte (hval 2 _ v2 rfl rfl) h2
  refine (walk ls l A n c b W hS hc hb8).mono fun e W' ⟨he, hb⟩ => ?_
  subst he
  exact ⟨_, rfl, post_true laidOut (by kernel_rfl) ty_bool (by kernel_rfl) rfl hW' hb rfl⟩

theorem over : Rows.regionTurnedRow.holds Tryd.pinned (OpenSpec.ofChange Rows.regionTurnedSpec) :=
  OpenClaim.holds_of_wide 8 Tryd.f8 rfl rfl rfl rfl rfl rfl rfl ⟨rfl, rfl, rfl, rfl, rfl⟩ rfl rfl rfl rfl rfl (by kernel_rfl) Tryd.func8 (by kernel_rfl)
    (of_decide_eq_true (by kernel_rfl)) (by unfold Func.isWrapper; first | (rw [if_pos (by decide +kernel)]; kernel_rfl) | (rw [if_neg (by decide +kernel)]; exact ⟨rfl, rfl⟩))
    (fun os started H enc _ => lifted os started H enc)

theorem proved : Rows.RegionTurnedCardSaid :=
  Claim7.holds_tied_plain_at .later [] Rows.regionTurnedCard.laidKinds true Rows.regionTurnedCard.stood.harness Rows.regionTurnedCard.stood.looks over (fun _ h => by cases h) (by kernel_rfl) (fun _ h => by cases h) regionTurned_row_tie rfl ⟨rfl, rfl⟩ (by kernel_rfl) rfl
    (fun f fn hf hfn => by
      obtain rfl : f = 8 := Option.some.inj ((show Tryd.pinned.checked.prog.funcNamed Rows.regionTurnedRow.func = some 8 by kernel_rfl).symm.trans hf) |>.symm
      obtain rfl : fn = Tryd.f8 := (Option.some.inj (Tryd.func8.symm.trans hfn)).symm
      exact ⟨by kernel_rfl, fun j t ht => by
        have hall : (Tryd.f8.params.toList.all fun u => !Tryd.prog.wantsStandIn u) = true := by kernel_rfl
        exact (show Tryd.prog.wantsStandIn t = false by simpa using List.all_eq_true.1 hall t (by simpa using Array.mem_of_getElem? ht))⟩)
    (by kernel_rfl)
end Go.Proofs.YtnmlknhomhonaaaDoor.regionTurned
