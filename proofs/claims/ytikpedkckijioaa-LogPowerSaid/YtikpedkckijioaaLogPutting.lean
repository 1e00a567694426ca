/- A record's leaves as a row of steps. -/
import Derived.Test.YtikpedkckijioaaLogCut
import Derived.Stop.RegionWithIn
import Derived.Maps.AppendAt
namespace Go.Proofs.Ytikpedkckijioaa.Log
open Go.Op Go.RowKit Go.Maps Disk
attribute [local go_sem] Oper.semAt_some

theorem info_step : (Try.prog.info? 111).map (fun i => (i.zero, i.size, i.bytes)) = some (some Value.nilFunc, 1, 8) := by kernel_rfl
theorem ty_steps : Try.prog.underlying 83 = some (.slice 111) := by kernel_rfl
/-- append, under a name that the walk does not open: its run is laid as an equation. -/
def appendO (ats : Array TypeId) (ty : TypeId) (args : Array Value) : Sem Value := Builtin.append_ ats ty args
theorem call_appendO (ats : Array TypeId) (ty : TypeId) (cs : Array Bool) (args : Array Value) : builtin .append ats ty cs args = (do pure (.value (← appendO ats ty args))) := rfl
attribute [local go_sem ↓ 2000] call_appendO

theorem cut_any (A : Option Addr) (m c : Nat) (w : World) :
    Calls Try.prog 65 #[.slice A m c] w fun e w' => e = .returned (.func (.func 84) #[] #[.pointer (some ⟨w.heap.size, 0, none⟩)]) ∧ w' = w.alloc (.cells #[.slice A m c] 32) := by
  go_enter Try.func65, Try.ntmps65
  go_wp2_with fail
  go_ret
  exact ⟨rfl, rfl⟩

def clo66 (bl bi bf : Nat) : Value := .func (.func 66) #[] #[.pointer (some ⟨bl, 0, none⟩), .pointer (some ⟨bi, 0, none⟩), .pointer (some ⟨bf, 0, none⟩)]
def leafC (st M : Nat) (A : Option Addr) (m c x : Nat) : Array Value := #[.int .u64 (st : Int), .int .u16 (IntKind.u16.wrap (x : Int)), .int .u16 (IntKind.u16.wrap (M : Int)), slC A m c x]
/-- A closure that writes the x-th leaf. -/
def StepAt (B bl st M m c : Nat) (A : Option Addr) (W : World) (x : Nat) (v : Value) : Prop :=
  ∃ bi bf, v = clo66 bl bi bf ∧ B ≤ bi ∧ B ≤ bf ∧ Boxed W bi 3 (.int .i64 (x : Int)) ∧ Bk W bf 79 (leafC st M A m c x)
def StepsAt (B bl st M m c : Nat) (A : Option Addr) (W : World) (pre : List Nat) (vs : List Value) : Prop :=
  ∀ (j x : Nat), pre[j]? = some x → ∃ v, vs[j]? = some v ∧ StepAt B bl st M m c A W x v
structure PutI (w : World) (g st M m c : Nat) (A : Option Addr) (pre : List Nat) (W : World) : Prop where
  row : ∃ v vs, Boxed W (w.heap.size + 4) 83 v ∧ W.ownsRow (w.heap.size + 6) 111 1 v pre.length vs ∧ StepsAt (w.heap.size + 6) w.heap.size st M m c A W pre vs
  b0 : Boxed W w.heap.size 28 (.pointer (some ⟨g, 0, none⟩))
  b1 : Boxed W (w.heap.size + 1) 44 (.int .u64 (st : Int))
  b2 : Boxed W (w.heap.size + 2) 32 (.slice A m c)
  b3 : Boxed W (w.heap.size + 3) 3 (.int .i64 (M : Int))
  size : w.heap.size + 6 ≤ W.heap.size
  below : Below w.heap.size w W
theorem own_block {W W' : World} {row : Option Nat} {k : Nat} {cs : Array Value} {t : TypeId} {fz : Nat × Nat} (h : W.heap[k]? = some (.cells cs t fz)) (hg : W.grownBy W' row) (hr : ∀ r, row = some r → ∃ o : Obj, W.heap[r]? = some o ∧ o.isCells = false) : W'.heap[k]? = some (.cells cs t fz) := by
  refine (hg.block k (Array.getElem?_eq_some_iff.1 h).1 fun e => ?_).trans h
  obtain ⟨o, h1, h2⟩ := hr k e.symm
  rw [h] at h1
  cases h1
  cases h2
theorem PutI.own (w : World) (g st M m c : Nat) (A : Option Addr) : OwnFrom (w.heap.size + 6) (PutI w g st M m c A) := by
  intro pre W W' row h hg hr
  have hr2 := fun r e => (hr r e).2
  obtain ⟨⟨v, vs, kv, ho, hs⟩, k0, k1, k2, k3, hsz, hb⟩ := h
  refine ⟨⟨v, vs, own_block kv hg hr2, ho.kept hg ?_, fun j x hj => ?_⟩, own_block k0 hg hr2, own_block k1 hg hr2, own_block k2 hg hr2, own_block k3 hg hr2, Nat.le_trans hsz hg.size, hb.grown hg (by omega) (fun k e => by have := (hr k e).1; omega)⟩
  · rcases ho.2 with ⟨rfl, _⟩ | ⟨q, cap, cur, rfl, _, hgb, _⟩
    · exact .inl rfl
    · refine .inr fun e' => ?_
      obtain ⟨o, ho, hc⟩ := hr2 q (by simpa [Value.ownBlock] using e'.symm)
      rw [hgb] at ho; cases ho; cases hc
  · obtain ⟨v, h1, bi, bf, h2, h3, h4, h5, h6⟩ := hs j x hj
    exact ⟨v, h1, bi, bf, h2, h3, h4, own_block h5 hg hr2, own_block h6 hg hr2⟩
/-- A region that ends in the plain way. -/
def onlyN (K : Act → World → Prop) : Exit → Act → World → Prop
  | .normal, a, w => K a w
  | _, _, _ => False
theorem wpIn_onlyN {F : Fence} {n : Nat} {P : Program} {c : Code} {Q : Exit → Act → World → Prop} {a : Act} {w : World} (h : c.wpIn F n P (onlyN (Q .normal)) a w) : c.wpIn F n P Q a w :=
  wpIn_mono h fun e a w hq => by
    cases e with
    | normal => exact hq
    | _ => exact hq.elim
/-- What putting answers. -/
def PutPost (w : World) (g gd st m c : Nat) (A : Option Addr) (e : Ending) (w' : World) : Prop :=
  ∃ R cap vs, e = .returned (.slice R (manyOf m + 2) cap) ∧ w'.ownsRow w.heap.size 111 1 (.slice R (manyOf m + 2) cap) (manyOf m + 2) (vs ++ [.func (.func 62) #[.pointer (some ⟨gd, 0, none⟩)] #[], .func (.func 67) #[] #[.pointer (some ⟨w.heap.size, 0, none⟩), .pointer (some ⟨w.heap.size + 2, 0, none⟩), .pointer (some ⟨w.heap.size + 3, 0, none⟩)]]) ∧
    StepsAt (w.heap.size + 6) w.heap.size st (manyOf m) m c A w' (List.range (manyOf m)) vs ∧ vs.length = manyOf m ∧
    Boxed w' w.heap.size 28 (.pointer (some ⟨g, 0, none⟩)) ∧ Boxed w' (w.heap.size + 2) 32 (.slice A m c) ∧ Boxed w' (w.heap.size + 3) 3 (.int .i64 (manyOf m : Nat)) ∧ Below w.heap.size w w'
set_option maxRecDepth 100000 in
set_option maxHeartbeats 4000000 in
theorem putting_any (w : World) (g gd st m c : Nat) (A : Option Addr) (hm : m ≤ 10000000) (hmc : m ≤ c) (hM : manyOf m < 65536) (a0 : w.cell? ⟨g, 0, none⟩ = some (.pointer (some ⟨gd, 0, none⟩))) (hg : g < w.heap.size) :
    Calls Try.prog 38 #[.pointer (some ⟨g, 0, none⟩), .int .u64 (st : Int), .slice A m c] w (PutPost w g gd st m c A) := by
  refine (callsIn_wide (n := 12)).1 ?_
  have h1 : 1 ≤ 12 := by decide
  have cP := fun W => pieces_any m (by omega) W
  have HCUT := Lib.hid (fun n hn bt w hc => cut_stops n hn A m c bt w hc hm hmc)
  have HMM : Hid (manyOf m < 65536) := hM
  have HPO : Hid (∀ e w', PutPost w g gd st m c A e w' → PutPost w g gd st m c A e w') := fun _ _ h => h
  have HA := Lib.hid a0
  have HG := Lib.hid hg
  clear hM hm hmc a0 hg
  refine callsIn_of_wp_marks Try.func38 rfl trivial ?_ rfl
  simp only [Try.ntmps38, List.size_toArray, List.length_cons, List.length_nil, Nat.reduceAdd, Nat.reduceSub, Array.replicate_succ, Array.replicate_zero, List.push_toArray, List.append_toArray, List.nil_append, List.cons_append]
  gi_wp2_with (refine ⟨trivial, ?_⟩; first
    | (gi_at_call 64; refine (callsIn_wide.2 (cP _)).mono ?_; rintro e w' ⟨rfl, rfl⟩)
    | (gi_at_call 65; refine (callsIn_wide.2 (cut_any A m c _)).mono ?_; rintro e w' ⟨rfl, rfl⟩))
  have hB0 : Below w.heap.size w ((((((w.alloc (.cells #[.pointer (some ⟨g, 0, none⟩)] 28)).alloc (.cells #[.int .u64 (st : Int)] 44)).alloc (.cells #[.slice A m c] 32)).alloc (.cells #[.int .i64 ((manyOf m : Nat) : Int)] 3)).alloc (.cells #[.slice none 0 0] 83)).alloc (.cells #[.slice A m c] 32)) := ((((((Below.refl _ _).alloc (Nat.le_refl _) _).alloc (by simp) _).alloc (by simp; omega) _).alloc (by simp; omega) _).alloc (by simp; omega) _).alloc (by simp; omega) _
  obtain ⟨W0, hW0⟩ : ∃ W0, W0 = ((((((w.alloc (.cells #[.pointer (some ⟨g, 0, none⟩)] 28)).alloc (.cells #[.int .u64 (st : Int)] 44)).alloc (.cells #[.slice A m c] 32)).alloc (.cells #[.int .i64 ((manyOf m : Nat) : Int)] 3)).alloc (.cells #[.slice none 0 0] 83)).alloc (.cells #[.slice A m c] 32)) := ⟨_, rfl⟩
  have K0 : Boxed W0 w.heap.size 28 (.pointer (some ⟨g, 0, none⟩)) := by
    rw [hW0]; exact (((((Boxed.new w _ _).alloc _).alloc _).alloc _).alloc _).alloc _
  have K1 : Boxed W0 (w.heap.size + 1) 44 (.int .u64 (st : Int)) := by
    rw [hW0]; exact ((((by have := Boxed.new (w.alloc (.cells #[.pointer (some ⟨g, 0, none⟩)] 28)) 44 (.int .u64 (st : Int)); rwa [World.size_alloc] at this : Boxed ((w.alloc (.cells #[.pointer (some ⟨g, 0, none⟩)] 28)).alloc (.cells #[.int .u64 (st : Int)] 44)) (w.heap.size + 1) 44 (.int .u64 (st : Int))).alloc _).alloc _).alloc _).alloc _
  have K2 : Boxed W0 (w.heap.size + 2) 32 (.slice A m c) := by
    rw [hW0]
    refine Boxed.alloc (Boxed.alloc (Boxed.alloc ?_ _) _) _
    have := Boxed.new ((w.alloc (.cells #[.pointer (some ⟨g, 0, none⟩)] 28)).alloc (.cells #[.int .u64 (st : Int)] 44)) 32 (.slice A m c)
    simpa only [World.size_alloc] using this
  have K3 : Boxed W0 (w.heap.size + 3) 3 (.int .i64 ((manyOf m : Nat) : Int)) := by
    rw [hW0]
    refine Boxed.alloc (Boxed.alloc ?_ _) _
    have := Boxed.new (((w.alloc (.cells #[.pointer (some ⟨g, 0, none⟩)] 28)).alloc (.cells #[.int .u64 (st : Int)] 44)).alloc (.cells #[.slice A m c] 32)) 3 (.int .i64 ((manyOf m : Nat) : Int))
    simpa only [World.size_alloc] using this
  have K4 : Boxed W0 (w.heap.size + 4) 83 (.slice none 0 0) := by
    rw [hW0]
    refine Boxed.alloc ?_ _
    have := Boxed.new ((((w.alloc (.cells #[.pointer (some ⟨g, 0, none⟩)] 28)).alloc (.cells #[.int .u64 (st : Int)] 44)).alloc (.cells #[.slice A m c] 32)).alloc (.cells #[.int .i64 ((manyOf m : Nat) : Int)] 3)) 83 (.slice none 0 0)
    simpa only [World.size_alloc] using this
  have K5 : Boxed W0 (w.heap.size + 5) 32 (.slice A m c) := by
    rw [hW0]
    have := Boxed.new (((((w.alloc (.cells #[.pointer (some ⟨g, 0, none⟩)] 28)).alloc (.cells #[.int .u64 (st : Int)] 44)).alloc (.cells #[.slice A m c] 32)).alloc (.cells #[.int .i64 ((manyOf m : Nat) : Int)] 3)).alloc (.cells #[.slice none 0 0] 83)) 32 (.slice A m c)
    simpa only [World.size_alloc] using this
  have hsz : W0.heap.size = w.heap.size + 6 := by rw [hW0]; simp
  rw [← hW0] at hB0 ⊢
  clear hW0
  have hseq := HCUT.out 11 (by decide) (w.heap.size + 1 + 1 + 1 + 1 + 1) W0 K5.cell
  obtain ⟨i0, hi, hz0, hz1, hz2⟩ := infos info_step
  have HI := Lib.hid hi
  have HZ0 := Lib.hid hz0
  have HZ1 := Lib.hid hz1
  have HZ2 := Lib.hid hz2
  clear hi hz0 hz1 hz2
  have hPI : PutI w g st (manyOf m) m c A [] W0 := ⟨⟨_, [], K4, own_nil _ _ _, fun j x hj => by simp at hj⟩, K0, K1, K2, K3, by omega, hB0⟩
  have hOwn := PutI.own w g st (manyOf m) m c A
  rw [← hsz] at hOwn
  refine wpIn_rangeFunc_ownH rfl h1 (gf := 84) (lb := #[.pointer (some ⟨w.heap.size + 1 + 1 + 1 + 1 + 1, 0, none⟩)]) rfl trivial (enters_of Try.func84 (by kernel_rfl) rfl)
    hseq (fun h k => ⟨Nat.le_trans h.1 k.1, k.2.trans h.2⟩) (fun W l o o' hl h1 h2 h3 => ⟨by simp, World.putObj_heap_other (by omega)⟩) (Below.refl _ _) (fun _ => rfl)
    (PutI w g st (manyOf m) m c A) (fun _ _ _ => False) hOwn (fun c => fun _ _ _ _ hs _ _ => hs) hPI
    (fun x a' W => ∃ bi, a' = { tmps := #[.pointer (some ⟨g, 0, none⟩), .int .u64 (st : Int), .slice A m c, .pointer (some ⟨w.heap.size, 0, none⟩), .pointer (some ⟨w.heap.size + 1, 0, none⟩), .pointer (some ⟨w.heap.size + 1 + 1, 0, none⟩), .slice none 0 0, .pointer (some ⟨w.heap.size + 1 + 1 + 1, 0, none⟩), .pointer (some ⟨w.heap.size + 1 + 1 + 1 + 1, 0, none⟩), .pointer (some ⟨bi, 0, none⟩), slC A m c x, undef, .slice A m c, .int .i64 (m : Int), .int .i64 ((manyOf m : Nat) : Int), .slice A m c, .func (.func 84) #[] #[.pointer (some ⟨w.heap.size + 1 + 1 + 1 + 1 + 1, 0, none⟩)], .int .i64 (x : Int), slC A m c x, undef, undef, undef, undef, undef, undef, undef, undef, undef, undef, undef, undef, undef, undef, undef, undef, undef, undef, undef, undef], defers := [] } ∧ w.heap.size + 6 ≤ bi ∧ Boxed W bi 3 (.int .i64 (x : Int)))
    (fun x a' u W W' row ⟨bi, h1, h2, h3⟩ hg hr => ⟨bi, h1, h2, own_block h3 hg fun r e => (hr r e).2⟩) ?assign ?body ?done ?stop
  case assign =>
    intro l pre x W K hI hK
    dsimp only [encC]
    gi_wp2
    have hs0 := hI.size
    exact hK _ _ ((KeepsOthers.alloc W _).from _) ⟨by simp, Below.heap_alloc _ _ _ (by omega)⟩ (hOwn.alloc _ hI) ⟨W.heap.size, rfl, hs0, Boxed.new _ _ _⟩
  case body =>
    rintro l pre x a' W hl hrec hI ⟨bi, rfl, hbi, hBI⟩ hN
    clear hPI hOwn hseq K0 K1 K2 K3 K4 K5 hB0
    have HW := Lib.hid hI
    have HBI := Lib.hid hBI
    have c0 := hBI.cell
    have c1 := hI.b1.cell
    have c3 := hI.b3.cell
    obtain ⟨⟨v, vs, kv, ho, hst⟩, -, -, -, -, hszW, -⟩ := hI
    have c4 := kv.cell
    have KV := Lib.hid kv
    have HOW := Lib.hid ho
    have HST := Lib.hid hst
    clear kv ho hst
    have hlen : pre.length ≤ 65536 := by have := HMM.out; omega
    have hWl : W.heap.size < (W.alloc (.cells (leafC st (manyOf m) A m c x) 79)).heap.size := by simp
    obtain ⟨v', w5, hrun, hown5, hgrow5, -, -⟩ := run_append_own_at (P := Try.prog) ((W.alloc (.cells (leafC st (manyOf m) A m c x) 79)).alloc (.cells #[clo66 w.heap.size bi W.heap.size] 111)) (w.heap.size + 6) 83 83 111 i0 _ 1 8 ty_steps HI.out HZ0.out HZ1.out HZ2.out rfl (by omega) v _ _ ((HOW.out.alloc _).alloc _) ⟨W.heap.size + 1, 0, none⟩ 1 1 [clo66 w.heap.size bi W.heap.size] rfl
      (fun j u hu => by
        have := (rows_lit (W.alloc (.cells (leafC st (manyOf m) A m c x) 79)) 111 [clo66 w.heap.size bi W.heap.size]).cells (by simp)
        obtain ⟨ad, e, hc⟩ := this
        injection e with e
        subst e
        rw [World.size_alloc] at hc
        exact hc j u hu) (by simp [Value.oneCell', clo66]) (by unfold maxLen; omega) (by omega) (by simp; omega)
    obtain ⟨gg, cap, rfl⟩ := ownsRow_succ hown5
    have KV1 : Boxed ((W.alloc (.cells (leafC st (manyOf m) A m c x) 79)).alloc (.cells #[clo66 w.heap.size bi W.heap.size] 111)) (w.heap.size + 4) 83 v := (KV.out.alloc _).alloc _
    have KV5 : Boxed w5 (w.heap.size + 4) 83 v := KV1.kept hgrow5 (KV.out.not_row (by decide) HOW.out)
    have c4a := (KV.out.alloc (.cells (leafC st (manyOf m) A m c x) 79)).cell
    have c45 := KV5.cell
    have f45 := KV5.frozen
    have HOW5 := Lib.hid hown5
    have HG5 := Lib.hid hgrow5
    have HKV5 := Lib.hid KV5
    clear hown5 hgrow5 KV1 KV5 hBI
    obtain ⟨A2, n2, c2, he⟩ : ∃ A2 n2 c2, slC A m c x = .slice A2 n2 c2 := ⟨_, _, _, rfl⟩
    have HE := Lib.hid he
    unfold clo66 leafC at hrun c4a
    rw [he] at hrun c4a ⊢
    clear he
    change (appendO _ _ _).run _ _ = _ at hrun
    gi_wp2
    have HFK : Hid (∀ k, k < W.heap.size → k ≠ w.heap.size + 4 → some k ≠ v.ownBlock → (w5.setCell ⟨w.heap.size + 4, 0, none⟩ (.slice (some ⟨gg, 0, none⟩) (pre.length + 1) cap)).heap[k]? = W.heap[k]?) := fun k hk hne hr => by
      rw [Below.heap_setCell _ _ _ _ hne, HG5.out.block k (by simp; omega) hr, Below.heap_alloc _ _ _ (by simp; omega), Below.heap_alloc _ _ _ hk]
    have HFT : Hid (∀ (k : Nat) (cs : Array Value) (t : TypeId) (fz : Nat × Nat), W.heap[k]? = some (.cells cs t fz) → t ≠ 111 → k ≠ w.heap.size + 4 → (w5.setCell ⟨w.heap.size + 4, 0, none⟩ (.slice (some ⟨gg, 0, none⟩) (pre.length + 1) cap)).heap[k]? = some (.cells cs t fz)) := fun k cs t fz hk ht hne => by
      refine (HFK.out k (Array.getElem?_eq_some_iff.1 hk).1 hne fun e => ?_).trans hk
      obtain ⟨c1, f1, q1⟩ := Lib.ownsRow_kind HOW.out k e.symm
      rw [hk] at q1
      injection q1 with q1
      injection q1 with _ q3
      exact ht q3
    obtain ⟨-, b4, b5, b6, b7⟩ := Boxed.appended (KV.out.alloc (.cells (leafC st (manyOf m) A m c x) 79)) (by decide) (own_base (HOW.out.alloc _) (Nat.le_trans (Nat.le_add_right _ 2) (Nat.le_refl _))) (by simp; omega) (Nat.le_refl _) (own_base HOW5.out (Nat.le_trans (Nat.le_add_right _ 2) (Nat.le_refl _))) HG5.out
    have hW := HW.out
    refine ⟨((KeepsOthers.alloc W _).trans b6).from _, ⟨Nat.le_trans (Nat.le_of_lt hWl) b7.size, HFK.out _ (by omega) (by omega) fun e => ?_⟩, ⟨_, vs ++ [clo66 w.heap.size bi W.heap.size], b4, ?_, ?_⟩, HFT.out _ _ _ _ hW.b0 (by decide) (by omega), HFT.out _ _ _ _ hW.b1 (by decide) (by omega), HFT.out _ _ _ _ hW.b2 (by decide) (by omega), HFT.out _ _ _ _ hW.b3 (by decide) (by omega), ?_, ?_⟩
    · have := (HOW.out.lt _ e.symm).1
      omega
    · rw [List.length_append]
      exact HOW5.out.kept (grownBy_setCell' w5 _ _) (.inr (b4.not_row (by decide) b5).symm)
    · intro j y hj
      have hvl : vs.length = pre.length := by have := HOW.out.1; simpa using this
      rcases Nat.lt_or_ge j pre.length with hjl | hjl
      · rw [List.getElem?_append_left hjl] at hj
        obtain ⟨u, e1, bi', bf', e2, e3, e4, e5, e6⟩ := HST.out j y hj
        exact ⟨u, by rw [List.getElem?_append_left (by omega)]; exact e1, bi', bf', e2, e3, e4, HFT.out _ _ _ _ e5 (by decide) (by omega), HFT.out _ _ _ _ e6 (by decide) (by omega)⟩
      · rw [List.getElem?_append_right hjl] at hj
        have hj0 : j - pre.length = 0 := by
          have := (List.getElem?_eq_some_iff.1 hj).1
          simp at this
          omega
        rw [hj0] at hj
        simp at hj
        subst hj
        refine ⟨_, by rw [List.getElem?_append_right (by omega), hvl, hj0]; rfl, bi, W.heap.size, rfl, hbi, hszW, HFT.out _ _ _ _ HBI.out (by decide) (by omega), ?_⟩
        have hne9 : W.heap.size ≠ w.heap.size + 4 := by clear hrun; omega
        show (w5.setCell _ _).heap[_]? = _
        rw [Below.heap_setCell _ _ _ _ hne9, HG5.out.block _ (by simp; omega) fun e => ?_, Below.heap_alloc _ _ _ hWl]
        · exact Bk.new W 79 _
        · have := (HOW.out.lt _ e.symm).2
          omega
    · exact Nat.le_trans (Nat.le_trans hszW (Nat.le_of_lt hWl)) b7.size
    · refine hW.below.trans (((Below.refl _ W).alloc (by omega) _).trans (b7.mono (by omega)))
  case done =>
    rintro D ys W hD rfl hI hK
    clear hPI hOwn hseq K0 K1 K2 K3 K4 K5 hB0
    have HW := Lib.hid hI
    have hca := (hI.below.cell (p := ⟨g, 0, none⟩) HG.out).trans HA.out
    have c0 := hI.b0.cell
    obtain ⟨⟨v, vs, kv, ho, hst⟩, -, -, -, -, hszW, -⟩ := hI
    have c4 := kv.cell
    rw [List.length_range] at ho
    have HKK := Lib.hid hK
    have HOW := Lib.hid ho
    have HST := Lib.hid hst
    clear kv ho hst hK
    have hlen : manyOf m ≤ 65536 := by have := HMM.out; omega
    have hrow2 := rows_lit W.drew 111 [.func (.func 62) #[.pointer (some ⟨gd, 0, none⟩)] #[], .func (.func 67) #[] #[.pointer (some ⟨w.heap.size, 0, none⟩), .pointer (some ⟨w.heap.size + 1 + 1, 0, none⟩), .pointer (some ⟨w.heap.size + 1 + 1 + 1, 0, none⟩)]]
    have HOWd : Hid (W.drew.ownsRow (w.heap.size + 6) 111 1 v (manyOf m) vs) := HOW.out.kept (grown_of_below (Below.refl _ _).drew none) (Classical.em _)
    obtain ⟨v', w5, hrun, hown5, hgrow5, -, -⟩ := run_append_own_at (P := Try.prog) (W.drew.alloc (.cells #[.func (.func 62) #[.pointer (some ⟨gd, 0, none⟩)] #[], .func (.func 67) #[] #[.pointer (some ⟨w.heap.size, 0, none⟩), .pointer (some ⟨w.heap.size + 1 + 1, 0, none⟩), .pointer (some ⟨w.heap.size + 1 + 1 + 1, 0, none⟩)]] 111)) (w.heap.size + 6) 83 83 111 i0 _ 1 8 ty_steps HI.out HZ0.out HZ1.out HZ2.out rfl (by omega) v _ _ (HOWd.out.alloc _) ⟨W.heap.size, 0, none⟩ 2 2 [.func (.func 62) #[.pointer (some ⟨gd, 0, none⟩)] #[], .func (.func 67) #[] #[.pointer (some ⟨w.heap.size, 0, none⟩), .pointer (some ⟨w.heap.size + 1 + 1, 0, none⟩), .pointer (some ⟨w.heap.size + 1 + 1 + 1, 0, none⟩)]] rfl
      (fun j u hu => by
        obtain ⟨ad, e, hc⟩ := hrow2.cells (by simp)
        injection e with e
        subst e
        exact hc j u hu) (by simp [Value.oneCell']) (by unfold maxLen; omega) (by omega) (by simp; omega)
    clear hrow2
    obtain ⟨gg, cap, rfl⟩ := ownsRow_succ hown5
    have HOW5 := Lib.hid hown5
    have HG5 := Lib.hid hgrow5
    have HC4 : Hid (W.drew.cell? ⟨w.heap.size + 4, 0, none⟩ = some v) := c4
    have hrun2 : (appendO #[83, 83] 83 #[v, .slice (some ⟨W.heap.size, 0, none⟩) 2 2]).run Try.prog (W.alloc (.cells #[.func (.func 62) #[.pointer (some ⟨gd, 0, none⟩)] #[], .func (.func 67) #[] #[.pointer (some ⟨w.heap.size, 0, none⟩), .pointer (some ⟨w.heap.size + 1 + 1, 0, none⟩), .pointer (some ⟨w.heap.size + 1 + 1 + 1, 0, none⟩)]] 111)).drew = _ := hrun
    have c4b : (W.alloc (.cells #[.func (.func 62) #[.pointer (some ⟨gd, 0, none⟩)] #[], .func (.func 67) #[] #[.pointer (some ⟨w.heap.size, 0, none⟩), .pointer (some ⟨w.heap.size + 1 + 1, 0, none⟩), .pointer (some ⟨w.heap.size + 1 + 1 + 1, 0, none⟩)]] 111)).drew.cell? ⟨w.heap.size + 4, 0, none⟩ = some v :=
      (World.cell?_of_block (w := W) (Below.heap_alloc _ _ _ (by show w.heap.size + 4 < _; omega))).trans c4
    have hDl : D < W.heap.size := (Array.getElem?_eq_some_iff.1 HKK.out).1
    have hK5 : w5.heap[D]? = some (.deferred (some [])) := by
      rw [HG5.out.block D (by simp; omega) fun e => ?_, Below.heap_alloc _ _ _ (show D < W.drew.heap.size from hDl)]
      · exact HKK.out
      · obtain ⟨c1, f1, q1⟩ := Lib.ownsRow_kind HOW.out D e.symm
        rw [HKK.out] at q1
        cases q1
    have hb5 : Below w.heap.size w w5 := by
      refine (HW.out.below.trans ((Below.refl _ W).drew)).trans (((Below.refl _ W.drew).alloc (Nat.le_trans (by omega) (Nat.le_refl W.heap.size)) _).grown HG5.out (by simp; omega) fun k e => ?_)
      have := (HOW.out.lt k e).1
      omega
    have HFT : Hid (∀ (k : Nat) (cs : Array Value) (t : TypeId) (fz : Nat × Nat), W.heap[k]? = some (.cells cs t fz) → t ≠ 111 → (w5.putObj D (.deferred none)).heap[k]? = some (.cells cs t fz)) := fun k cs t fz hk ht => by
      have hkl : k < W.heap.size := (Array.getElem?_eq_some_iff.1 hk).1
      rw [World.putObj_heap_other (fun e => by rw [e, HKK.out] at hk; cases hk), HG5.out.block k (by simp; omega) fun e => ?_, Below.heap_alloc _ _ _ (show k < W.drew.heap.size from hkl)]
      · exact hk
      · obtain ⟨c1, f1, q1⟩ := Lib.ownsRow_kind HOW.out k e.symm
        rw [hk] at q1
        injection q1 with q1
        injection q1 with _ q3
        exact ht q3
    have HFIN : Hid (PutPost w g gd st m c A (.returned (.slice (some ⟨gg, 0, none⟩) (manyOf m + 1 + 1) cap)) (w5.putObj D (.deferred none))) := by
      have hW := HW.out
      refine ⟨_, cap, vs, rfl, own_base (ownsRow_putObj HOW5.out (.deferred none) hK5 rfl) (by omega), fun j x hj => ?_, ?_, HFT.out _ _ _ _ hW.b0 (by decide), HFT.out _ _ _ _ hW.b2 (by decide), HFT.out _ _ _ _ hW.b3 (by decide), hb5.grown (grownBy_putObj' w5 D (.deferred none)) hb5.size (fun k e => by cases e; omega)⟩
      · obtain ⟨u, e1, bi', bf', e2, e3, e4, e5, e6⟩ := HST.out j x hj
        exact ⟨u, e1, bi', bf', e2, e3, e4, HFT.out _ _ _ _ e5 (by decide), HFT.out _ _ _ _ e6 (by decide)⟩
      · have := HOW.out.1
        simpa using this
    have HK5 := Lib.hid hK5
    clear hown5 hgrow5 hrun hK5 hb5 hDl hD hsz
    gi_wp2_with fail
    refine wpIn_onlyN ?_
    gi_region_with (fail)
    all_goals unfold onlyN
    all_goals gi_wp2_with fail
    all_goals refine ⟨by simp, .inl ⟨_, _, rfl, run_takeDeferred HK5.out, ?_⟩⟩
    all_goals refine ⟨_, results_tmp rfl _ _ _, ?_⟩
    all_goals first
      | exact HFIN.out
      | (simp; exact HFIN.out)
      | trace_state
  case stop =>
    rintro D c pre W _ _ hx _
    exact hx.elim
end Go.Proofs.Ytikpedkckijioaa.Log
