/- CrcAll: every Sum; what is handed in stays. For every input the call returns true, and each argument reads afterwards as it read before. No conditions. -/
import Derived.Test.YtnclphceglpchaaCrcGoes
import Derived.WalkLawsBesides
namespace Go.Proofs.Ytnclphceglpchaa.crcAll
open Go.ChangeShapes Go.WideShapes Go.ChangeAt Go.RowKit

theorem rd_bytesRow (w : World) (e : TypeId) (bs : List UInt8) (cap : Nat) (fr : Nat × Nat) : Rd (w.alloc (.cells (bytesRow (S bs) cap) e fr)) (some ⟨w.heap.size, 0, none⟩) bs.length bs :=
  ⟨rfl, fun _ => ⟨_, rfl, fun j b hb => by
    have hh : (w.alloc (.cells (bytesRow (S bs) cap) e fr)).heap[w.heap.size]? = some (.cells (bytesRow (S bs) cap) e fr) := heap_alloc_new w _
    have : ((⟨w.heap.size, 0, none⟩ : Addr).add j) = ⟨w.heap.size, j, none⟩ := by
      unfold Addr.add
      split
      · next h => rw [h]
      · simp
    rw [this]
    unfold World.cell?
    rw [hh]
    have hj := (List.getElem?_eq_some_iff.1 hb).1
    have h2 := bytesRow_at (S bs) cap j (by simpa [S] using hj)
    have h3 : (S bs).data[j]'(by simpa [S] using hj) = b := by
      have := (List.getElem?_eq_some_iff.1 hb).2
      simpa [S] using this
    rw [h3] at h2
    simpa [U] using h2⟩⟩

set_option maxHeartbeats 1000000 in
theorem walk (A : Option Addr) (n c : Nat) (bs : List UInt8) (w : World) (h : Rd w A n bs) : Calls Try.prog 3 #[.slice A n c] w fun e w' => e = .returned (.bool true) ∧ Below w.heap.size w w' := by
  have H := Lib.hid h
  clear h
  by_cases hn : 600 < n
  · go_enter Try.func3, Try.ntmps3
    go_wp2_with fail
    go_ret
    exact ⟨rfl, Below.refl _ _⟩
  · have s0 := conv_string H.out c
    have hsb := fun W => run_bytes_of_string (P := Try.prog) W 9 22 5 (S bs) ty_string ty_bytes ty_byte
    go_enter Try.func3, Try.ntmps3
    go_wp2_with fail
    refine (Crc.Sum_any A n c bs w H.out (by omega)).mono ?_
    rintro e w1 ⟨rfl, hb⟩
    have B1 := Lib.hid hb
    clear hb s0
    go_wp2_with fail
    have HZ : Hid ((S bs).size = bs.length) := by show _ = _; simp [S, ByteArray.size]
    have B2 := Lib.hid ((B1.out.alloc B1.out.size (.cells (bytesRow (S bs) (grownCap w1 (S bs).size 0 5)) 5 ((bytesRow (S bs) (grownCap w1 (S bs).size 0 5)).size, (bytesRow (S bs) (grownCap w1 (S bs).size 0 5)).size + 1))).drew)
    have HR : Hid (Rd (w1.alloc (.cells (bytesRow (S bs) (grownCap w1 (S bs).size 0 5)) 5 ((bytesRow (S bs) (grownCap w1 (S bs).size 0 5)).size, (bytesRow (S bs) (grownCap w1 (S bs).size 0 5)).size + 1))).drew (some ⟨w1.heap.size, 0, none⟩) (S bs).size bs) := by
      have h1 := (rd_bytesRow w1 5 bs (grownCap w1 (S bs).size 0 5) ((bytesRow (S bs) (grownCap w1 (S bs).size 0 5)).size, (bytesRow (S bs) (grownCap w1 (S bs).size 0 5)).size + 1)).keep (w' := (w1.alloc (.cells (bytesRow (S bs) (grownCap w1 (S bs).size 0 5)) 5 ((bytesRow (S bs) (grownCap w1 (S bs).size 0 5)).size, (bytesRow (S bs) (grownCap w1 (S bs).size 0 5)).size + 1))).drew) fun _ _ hp => hp
      rw [HZ.out]
      rw [HZ.out] at h1
      exact h1
    refine (Crc.refSum_any _ _ _ bs _ HR.out (by rw [HZ.out, H.out.len]; omega)).mono ?_
    rintro e w2 ⟨rfl, hb⟩
    have B3 := Lib.hid (B2.out.trans (hb.mono B2.out.size))
    have s1 := conv_string (H.out.below B3.out) c
    clear hb hsb
    go_wp2_with fail
    refine (Crc.goes_any w2).mono ?_
    rintro e w5 ⟨rfl, hb⟩
    have B9 := Lib.hid (B3.out.trans (hb.mono B3.out.size))
    clear hb
    go_wp2_with fail
    go_ret
    exact ⟨rfl, B9.out⟩

set_option maxRecDepth 100000 in
theorem lifted (os : Os) (started : os.Started) (H : Type) (enc : TypeId × Value → H) :
    ReturnsInHanded {} Try.checked os 3 .any (Rows.crcAllSpec.pre6 enc Try.prog Try.f3 Rows.crcAllRow.domain false) (Rows.crcAllSpec.post enc Try.prog Try.f3 false true false false) := by
  refine returnsInHanded_of_change (C := Try.checked) own started (by kernel_rfl) Try.func3
    (ChangeSpec.witness6 (enc := enc) (C := Try.checked) false ⟨#[], #[.slice none 0 0], []⟩ 8 (by kernel_rfl) (by kernel_rfl) (by kernel_rfl) (by kernel_rfl)) ?_
  intro W base args ds gs before hval0 hW hcnd _
  have hval : ∀ (j : Nat) t v, Try.f3.params[j]? = some t → args[j]? = some v → Value.okWide Try.prog W .any base t v := hval0
  have hW' := hW
  obtain ⟨p, q, hA0, hV, rfl, hfz, hnd⟩ := hW
  have hA : DataW.TrodAll enc Try.prog W 0 (fun _ => true) true Try.f3.params.toList args.toList ds p := hA0
  rw [Try.params3] at hA hval
  obtain ⟨v0, d0, rfl, rfl, h0⟩ := trodAll_one hA
  obtain ⟨rfl, rfl⟩ := trodVars_none hV
  obtain ⟨A, n, c, bs, rfl, _, _, hr⟩ := open_bytes ty_bytes ty_byte cells_byte (hval 0 _ v0 rfl rfl) h0
  refine (walk A n c bs W hr).mono fun e W' ⟨he, hb⟩ => ?_
  subst he
  exact ⟨_, rfl, post_true laidOut (by kernel_rfl) ty_bool (by kernel_rfl) rfl hW' hb rfl⟩

theorem over : Rows.crcAllRow.holds Try.pinned (OpenSpec.ofChange Rows.crcAllSpec) :=
  OpenClaim.holds_of_wide 3 Try.f3 rfl rfl rfl rfl rfl rfl rfl ⟨rfl, rfl, rfl, rfl, rfl⟩ rfl rfl rfl rfl rfl (by kernel_rfl) Try.func3 (by kernel_rfl)
    (of_decide_eq_true (by kernel_rfl)) (by unfold Func.isWrapper; first | (rw [if_pos (by decide +kernel)]; kernel_rfl) | (rw [if_neg (by decide +kernel)]; exact ⟨rfl, rfl⟩))
    (fun os started H enc _ => lifted os started H enc)

theorem proved : Rows.CrcAllSaid :=
  over
end Go.Proofs.Ytnclphceglpchaa.crcAll
