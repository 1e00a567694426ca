/- A record's bytes: its leaves' texts, one behind the other. -/
import Derived.Test.YtikpedkckijioaaLogFirst
namespace Go.Proofs.Ytikpedkckijioaa.Log
open Go.RowKit Disk

theorem flatten_le : ∀ (l : List (List UInt8)) (m : Nat), (∀ x ∈ l, x.length ≤ m) → l.flatten.length ≤ l.length * m
  | [], _, _ => by simp
  | x :: l, m, h => by
    have h1 := flatten_le l m fun y hy => h y (List.mem_cons_of_mem _ hy)
    have h2 := h x List.mem_cons_self
    rw [List.flatten_cons, List.length_append, List.length_cons, Nat.succ_mul]
    omega
def RelText (w : World) (m : Nat) (fs : List Lf) (v i : Value) (wr : World) : Prop :=
  ∃ (k : Nat) (vs : List Value), k ≤ m ∧ i = .int .i64 (k : Int) ∧ wr.ownsRow w.heap.size 32 1 v k vs ∧ Many w vs ((fs.take k).map (·.2.2.2)) ∧ Below w.heap.size w wr
set_option maxRecDepth 100000 in
set_option maxHeartbeats 2000000 in
theorem textOf_any (B o m c : Nat) (fs : List Lf) (w : World) (h : LvS w B o m fs) (hs : ∀ f ∈ fs, f.2.2.2.length ≤ 480) (hm : m ≤ 100000) :
    Calls Try.prog 58 #[.slice (some ⟨B, o, none⟩) m c] w (Put w ((fs.map (·.2.2.2)).flatten)) := by
  obtain ⟨i0, hi, hz0, hz1, hz2⟩ := infos info_row
  have HI := Lib.hid hi
  have HZ0 := Lib.hid hz0
  have HZ1 := Lib.hid hz1
  have HZ2 := Lib.hid hz2
  clear hi hz0 hz1 hz2
  have H := Lib.hid h
  have HFL : Hid ((fs.map (·.2.2.2)).flatten.length ≤ 100000000) := by
    have h1 := flatten_le (fs.map (·.2.2.2)) 480 (fun x hx => by
      obtain ⟨f, hf, rfl⟩ := List.mem_map.1 hx
      exact hs f hf)
    rw [List.length_map, h.len] at h1
    show _ ≤ _
    omega
  have HLEN : Hid (fs.length = m) := h.len
  clear h hs
  go_enter Try.func58, Try.ntmps58
  go_wp2_with fail
  go_loopw [3, 8] (fun v i wr => RelText w m fs v i wr) (fun _ i _ => m - (intOf i).toNat)
  case atStart => exact ⟨0, [], by omega, rfl, own_nil _ _ _, by simpa using Many.nil_ w, Below.refl _ _⟩
  case round =>
    obtain ⟨k, vs, hk, rfl, hown, hmany, hb⟩ := hrel
    have HO := Lib.hid hown
    have HM := Lib.hid hmany
    have HB := Lib.hid hb
    clear hown hmany hb
    by_cases hlt : k < m
    · have hkl : k < fs.length := by have := HLEN.out; omega
      obtain ⟨A1, m1, c1, hle, hr, x0, x1, x2, x3⟩ := H.out.at_ k _ (List.getElem?_eq_getElem hkl)
      have kc := fun (i : Nat) (v : Value) (hc : w.cell? ⟨B, i, none⟩ = some v) => (HB.out.cell (World.block_lt_of_cell? w _ hc)).trans hc
      have y0 := kc _ _ x0
      have y1 := kc _ _ x1
      have y2 := kc _ _ x2
      have y3 := kc _ _ x3
      have HM2 : Hid (Many w (vs ++ [.slice A1 m1 c1]) ((fs.take (k + 1)).map (·.2.2.2))) := by
        rw [← List.take_append_getElem hkl, List.map_append]
        exact HM.out.snoc hr hle
      clear x0 x1 x2 x3 kc hr hle
      generalize fs[k] = f at *
      have hbw : Below wr.heap.size wr ((wr.alloc (.cells #[.int .u64 (f.1 : Int), .int .u16 (f.2.1 : Int), .int .u16 (f.2.2.1 : Int), .slice A1 m1 c1] 79)).alloc (.cells #[.slice A1 m1 c1] 32)) := ((Below.refl _ _).alloc (Nat.le_refl _) _).alloc (by rw [size_new]; omega) _
      have HBW := Lib.hid (HB.out.trans (hbw.mono HB.out.size))
      have HOW : Hid (((wr.alloc (.cells #[.int .u64 (f.1 : Int), .int .u16 (f.2.1 : Int), .int .u16 (f.2.2.1 : Int), .slice A1 m1 c1] 79)).alloc (.cells #[.slice A1 m1 c1] 32)).ownsRow w.heap.size 32 1 u3 k vs) := (HO.out.alloc _).alloc _
      have HR1 : Hid (RdV ((wr.alloc (.cells #[.int .u64 (f.1 : Int), .int .u16 (f.2.1 : Int), .int .u16 (f.2.2.1 : Int), .slice A1 m1 c1] 79)).alloc (.cells #[.slice A1 m1 c1] 32)) (some ⟨wr.heap.size + 1, 0, none⟩) 1 [.slice A1 m1 c1]) := by
        have := rows_lit (wr.alloc (.cells #[.int .u64 (f.1 : Int), .int .u16 (f.2.1 : Int), .int .u16 (f.2.2.1 : Int), .slice A1 m1 c1] 79)) 32 [.slice A1 m1 c1]
        rw [size_new] at this
        exact this
      clear hbw
      go_wp2_with (at_builtin; refine wpList_append_RdV rfl (.tmp 12) (.tmp 15) _ rfl ty_rows HI.out HZ0.out HZ1.out HZ2.out (by have := HZ0.out; rfl) rfl HOW.out rfl HR1.out (by simp [Value.oneCell']) (by unfold maxLen; omega) (by omega) HBW.out.size ?_)
      intro v' w3 hown3 hgr3
      have HO3 := Lib.hid hown3
      have HB3 := Lib.hid (HBW.out.grown hgr3 HBW.out.size (fun g hg => (HOW.out.lt g hg).1))
      clear hown3 hgr3
      go_wp2_with fail
      exact ⟨⟨k + 1, vs ++ [.slice A1 m1 c1], by omega, rfl, HO3.out, HM2.out, HB3.out⟩, by simp [intOf]; omega⟩
    · obtain rfl : k = m := by omega
      have hm' := HM.out
      rw [List.take_of_length_le (by have := HLEN.out; omega)] at hm'
      obtain ⟨A3, c3, hv3⟩ := own_slice HO.out
      have HOS := HO.out
      rw [hv3] at HOS
      have hrd := (RdV.of_own HOS).1
      have HC := Lib.hid (together_any A3 k c3 vs _ wr hrd (hm'.below HB.out) HFL.out (by omega))
      clear hm' hrd HOS
      subst hv3
      go_wp2_with fail
      refine HC.out.mono ?_
      intro e w5 hp
      obtain ⟨x, rfl, hf⟩ := (hp.from HB.out).val
      have HF := Lib.hid hf
      obtain ⟨A5, n5, c5, e5, -⟩ := hf
      injection e5 with e5
      subst e5
      clear hp
      go_wp2_with fail
      go_ret
      exact HF.out
end Go.Proofs.Ytikpedkckijioaa.Log
