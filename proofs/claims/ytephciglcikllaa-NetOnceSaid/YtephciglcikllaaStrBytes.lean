/- A string's bytes, in memory of their own. -/
import Derived.Test.YtephciglcikllaaCrcBase
import Derived.Lib.ConvBytes
namespace Go.Proofs.Ytephciglcikllaa
open Go.RowKit

theorem str_bytes (bs : List UInt8) (w : World) : ∃ cap WB, (convert 9 35 (.string (S bs))).run Try.prog w = .ok (.slice (some ⟨w.heap.size, 0, none⟩) bs.length cap) WB ∧ bs.length ≤ cap ∧ Rd WB (some ⟨w.heap.size, 0, none⟩) bs.length bs ∧ Below w.heap.size w WB ∧ WB.heap.size = w.heap.size + 1 := by
  have hsz : (S bs).size = bs.length := by simp [S, ByteArray.size]
  have h := Lib.run_convert_string_bytes (P := Try.prog) w 9 35 5 (S bs) ty_string ty_bytes ty_byte
  rw [hsz] at h
  refine ⟨_, _, h, grownCap_ge w _ _ _, ⟨rfl, fun _ => ⟨_, rfl, fun j b hb => ?_⟩⟩, ⟨rfl, rfl, rfl, ?_, fun k hk => Lib.bytesWorld_at_old w _ _ k hk⟩, Lib.bytesWorld_size w _ _⟩
  · have hj : j < (S bs).size := by rw [hsz]; exact (List.getElem?_eq_some_iff.1 hb).1
    have hadd : ((⟨w.heap.size, 0, none⟩ : Addr).add j) = ⟨w.heap.size, j, none⟩ := by unfold Addr.add; split <;> simp_all
    rw [hadd, Lib.bytesWorld_cell w _ _ j hj]
    have : (S bs).data.toList.getD j 0 = b := by
      show bs.toArray.toList.getD j 0 = b
      rw [List.getD_eq_getElem?_getD, hb]
      rfl
    rw [this]
    rfl
  · rw [Lib.bytesWorld_size]
    omega
end Go.Proofs.Ytephciglcikllaa
