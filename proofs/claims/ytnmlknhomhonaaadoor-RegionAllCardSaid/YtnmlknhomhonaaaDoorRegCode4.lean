/- Layer 6's code: All. -/
import Derived.Test.YtnmlknhomhonaaaDoorRegCode3
import Derived.Test.YtnmlknhomhonaaaDoorRegArgs
namespace Go.Proofs.YtnmlknhomhonaaaDoor.Reg
open Go.RowKit Path

def pathsL (os : List OR) : List (List UInt8) := os.map (·.path)
def RelPaths (w : World) (os : List OR) (n : Nat) (v i : Value) (wr : World) : Prop := ∃ k : Nat, k ≤ n ∧ i = .int .i64 (k : Int) ∧ wr.ownsRow w.heap.size 9 1 v k (sv (pathsL (os.take k))) ∧ Below w.heap.size w wr
theorem paths_take {os : List OR} {k : Nat} (hk : k < os.length) : pathsL (os.take (k + 1)) = pathsL (os.take k) ++ [os[k].path] := by
  unfold pathsL
  rw [List.take_succ_eq_append_getElem hk, List.map_append]
  rfl
/-- One text in a block of its own. -/
theorem rdV_one (w : World) (l : List UInt8) : RdV (w.alloc (.cells #[.string (S l)] 9)) (some ⟨w.heap.size, 0, none⟩) 1 (sv [l]) :=
  ⟨rfl, fun _ => ⟨_, rfl, fun j v hv => by
    have hb := (Boxed.new w 9 (.string (S l))).cell
    cases j with
    | zero =>
      injection hv with hv
      rw [← hv]
      exact hb
    | succ j => cases hv⟩⟩
set_option maxRecDepth 100000 in
set_option maxHeartbeats 2000000 in
theorem pathsOf_any (y : OR) (os : List OR) (w : World) (hS : OrS w y.pa y.pn os) (hn : y.pn ≤ 1000000) :
    Calls Tryd.prog 29 #[orV y] w fun e w' => ∃ B d, e = .returned (.slice B (pathsF y.path (pathsL os)).length d) ∧ Below w.heap.size w w' ∧ RdV w' B (pathsF y.path (pathsL os)).length (sv (pathsF y.path (pathsL os))) := by
  obtain ⟨knd, pth, da, dn, dc, ver, sq, ep, pa, pn, pc⟩ := y
  have hbA : Below w.heap.size w (w.alloc (.cells (orC ⟨knd, pth, da, dn, dc, ver, sq, ep, pa, pn, pc⟩).toArray 32)) := (Below.refl w.heap.size w).alloc (Nat.le_refl _) _
  have K : Bk (w.alloc (.cells (orC ⟨knd, pth, da, dn, dc, ver, sq, ep, pa, pn, pc⟩).toArray 32)) w.heap.size 32 (orC ⟨knd, pth, da, dn, dc, ver, sq, ep, pa, pn, pc⟩).toArray := Bk.new _ _ _
  unfold orV
  dsimp only [orC] at hbA K hS hn ⊢
  have HBA := Lib.hid hbA
  have HS := Lib.hid hS
  have HL := Lib.hid hS.len
  have kc := K.cell
  have k1 := kc 1
  have k6 := kc 6
  have HK := Lib.hid K
  generalize hW0 : w.alloc (.cells #[.int .u8 knd, .string (S pth), .slice da dn dc, .int .i64 ver, .bool sq, .bool ep, .slice pa pn pc] 32) = W0 at *
  clear hbA K hS kc
  by_cases h0 : pn = 0
  · have HP : Hid (pathsF pth (pathsL os) = [pth]) := by
      show _ = _
      unfold pathsF pathsL
      rw [if_pos (by rw [List.length_map, HL.out, h0])]
    subst h0
    rw [HP.out]
    go_enter Tryd.func29, Tryd.ntmps29
    go_wp2_with fail
    go_ret
    exact ⟨_, _, rfl, HBA.out.alloc HBA.out.size _, rdV_one _ _⟩
  · have HP : Hid (pathsF pth (pathsL os) = pathsL os ∧ (pathsL os).length = pn) := by
      show _ ∧ _
      unfold pathsF pathsL
      rw [if_neg (by rw [List.length_map, HL.out]; exact h0), List.length_map, HL.out]
      exact ⟨rfl, rfl⟩
    rw [HP.out.1, HP.out.2]
    have hz : ((pn : Int) == 0) = false := beq_eq_false_iff_ne.2 (by omega)
    obtain ⟨i0, hi, hz0, hz1, hz2⟩ := infos info_text
    have HI := Lib.hid hi
    have HZ0 := Lib.hid hz0
    have HZ1 := Lib.hid hz1
    have HZ2 := Lib.hid hz2
    clear hi hz0 hz1 hz2 h0
    go_enter Tryd.func29, Tryd.ntmps29
    go_wp2_with fail
    go_loopw [3, 16] (fun v i wr => RelPaths w os pn v i wr) (fun _ i _ => pn - (intOf i).toNat)
    case atStart => exact ⟨0, Nat.zero_le _, rfl, own_nil _ _ _, HBA.out⟩
    case round =>
      obtain ⟨k, hk, rfl, hown, hb⟩ := hrel
      obtain ⟨B, d, rfl⟩ := own_slice hown
      have HO := Lib.hid hown
      have HB := Lib.hid hb
      clear hown hb
      by_cases hlt : k < pn
      · have hjx : k < os.length := by rw [HL.out]; exact hlt
        obtain ⟨bb, oo, rfl, hcells⟩ := (HS.out.below HB.out).cells k hjx
        have HPT := Lib.hid (paths_take hjx)
        obtain ⟨x, hx⟩ : ∃ x, os[k] = x := ⟨_, rfl⟩
        rw [hx] at hcells HPT
        have q0 := hcells 0 _ rfl
        rw [show oo + (7 * k + 0) = oo + k * 7 by omega] at q0
        have q1 := hcells 1 _ rfl
        rw [show oo + (7 * k + 1) = oo + k * 7 + 1 by omega] at q1
        have q2 := hcells 2 _ rfl
        rw [show oo + (7 * k + 2) = oo + k * 7 + 2 by omega] at q2
        have q3 := hcells 3 _ rfl
        rw [show oo + (7 * k + 3) = oo + k * 7 + 3 by omega] at q3
        have q4 := hcells 4 _ rfl
        rw [show oo + (7 * k + 4) = oo + k * 7 + 4 by omega] at q4
        have q5 := hcells 5 _ rfl
        rw [show oo + (7 * k + 5) = oo + k * 7 + 5 by omega] at q5
        have q6 := hcells 6 _ rfl
        rw [show oo + (7 * k + 6) = oo + k * 7 + 6 by omega] at q6
        have hbX : Below wr.heap.size wr (wr.alloc (.cells (orC x).toArray 32)) := (Below.refl _ _).alloc (Nat.le_refl _) _
        have KX : Bk (wr.alloc (.cells (orC x).toArray 32)) wr.heap.size 32 (orC x).toArray := Bk.new _ _ _
        unfold orC at hbX KX
        have kx := KX.cell
        have x1 := kx 1
        have HBX := Lib.hid (HB.out.trans (hbX.mono HB.out.size))
        have HOX := Lib.hid (own_below HO.out hbX)
        have hpn : pn ≤ 1000000 := hn
        clear hcells hx hbX KX kx k1 k6
        generalize hW1 : wr.alloc (.cells #[.int .u8 x.kind, .string (S x.path), .slice x.da x.dn x.dc, .int .i64 x.ver, .bool x.seq, .bool x.eph, .slice x.pa x.pn x.pc] 32) = W1 at *
        go_wp2_with (at_builtin; refine wpList_append_own _ rfl (.tmp 20) (.tmp 23) _ rfl w.heap.size 9 i0 _ 1 16 ty_texts HI.out HZ0.out HZ1.out HZ2.out rfl (by decide) _ k _ rfl (HOX.out.alloc _) ⟨W1.heap.size, 0, none⟩ 1 1 _ rfl rfl (one_new _ _ _) (by simp [Value.oneCell']) (by unfold maxLen; omega) (by omega) (by simp; have := HBX.out.size; omega) ?_)
        intro v' w4 hown1 hgr1 _
        have hown2 : w4.ownsRow w.heap.size 9 1 v' (k + 1) (sv (pathsL (os.take (k + 1)))) := by
          rw [HPT.out, sv_append]
          simpa [sv] using hown1
        have hb2 : Below w.heap.size w w4 := (HBX.out.alloc HBX.out.size _).grown hgr1 (by simp; have := HBX.out.size; omega) (fun g hg => (HOX.out.lt g hg).1)
        have HO4 := Lib.hid hown2
        have HB4 := Lib.hid hb2
        clear hown1 hgr1 hown2 hb2 hW1 q0 q1 q2 q3 q4 q5 q6 x1
        go_wp2_with fail
        go_roundw
        case rel => exact ⟨k + 1, by omega, by go_num, HO4.out, HB4.out⟩
        case measure => simp [intOf]; omega
      · obtain rfl : k = pn := by omega
        clear hlt
        have v1 : ¬ (k : Int) < (k : Int) := by omega
        go_wp2_with fail
        go_ret
        have h1 := HO.out
        rw [List.take_of_length_le (by rw [HL.out]; exact Nat.le_refl _)] at h1
        exact ⟨_, ⟨_, rfl⟩, HB.out, (RdV.of_own h1).1⟩
set_option maxRecDepth 100000 in
set_option maxHeartbeats 2000000 in
theorem elsewhere_any (ls : List (List UInt8)) (p : List UInt8) (A : Option Addr) (n c L M : Nat) (z : Int) (w : World) (hS : RdV w A n (sv ls)) (hn : n ≤ 1000000) (hp : p.length ≤ 1000000) (hl : ∀ x ∈ ls, x.length ≤ 1000000) (hL : w.cell? ⟨L, 0, none⟩ = some (.slice A n c)) (hM : w.cell? ⟨M, 0, none⟩ = some (.int .i64 z)) :
    Calls Tryd.prog 30 #[.string (S p), .pointer (some ⟨L, 0, none⟩), .pointer (some ⟨M, 0, none⟩)] w fun e w' => e = .returned (.bool (ofF ls p != z)) ∧ Below w.heap.size w w' := by
  have CO := Lib.hid (fun W (hW : Below w.heap.size w W) => of_any ls p A n c W (hS.below hW) hn hp hl)
  have HC : Hid (∀ W, Below w.heap.size w W → W.cell? ⟨L, 0, none⟩ = some (.slice A n c) ∧ W.cell? ⟨M, 0, none⟩ = some (.int .i64 z)) :=
    fun W hW => ⟨(hW.cell (p := ⟨L, 0, none⟩) (World.block_lt_of_cell? w _ hL)).trans hL, (hW.cell (p := ⟨M, 0, none⟩) (World.block_lt_of_cell? w _ hM)).trans hM⟩
  have B1 := Lib.hid (Below.refl w.heap.size w).drew
  have HS0 := Lib.hid (HC.out _ B1.out)
  generalize S p = sp at *
  obtain ⟨v, hv⟩ : ∃ v, v = ofF ls p := ⟨_, rfl⟩
  rw [← hv] at CO ⊢
  clear hS hl hL hM hv
  go_enter Tryd.func30, Tryd.ntmps30
  go_wp2_with fail
  go_region_held3 (fun w' => w'.cell? ⟨L, 0, none⟩ = some (.slice A n c) ∧ w'.cell? ⟨M, 0, none⟩ = some (.int .i64 z))
    (first | assumption | exact HS0.out | (refine HC.out _ ?_; exact Hid.out (by assumption)))
    (first | (go_at_call 12; refine (CO.out _ (Hid.out (by assumption))).mono ?_; rintro e we ⟨rfl, hg⟩; have BE := below_on (n := w.heap.size) (w := w) (by assumption) (Nat.le_refl _) hg; clear hg))
  all_goals (go_wp2_with fail; go_ret; exact ⟨rfl, BE.out⟩)
end Go.Proofs.YtnmlknhomhonaaaDoor.Reg
