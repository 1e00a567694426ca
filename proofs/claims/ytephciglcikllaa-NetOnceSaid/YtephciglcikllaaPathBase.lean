/- Texts as values; small facts that all texts on paths lean on. -/
import Derived.Test.YtephciglcikllaaChecked
import Derived.Test.YtephciglcikllaaWords
import Derived.Test.YtephciglcikllaaPathPure
import Derived.KernelRfl
import Derived.Lib.Strings
import Derived.BigQuiet
namespace Go.Proofs.Ytephciglcikllaa.Path
open Go.RowKit

theorem S_list (l : List UInt8) : (S l).toList = l := ByteArray.toList_mk l
theorem S_size (l : List UInt8) : (S l).size = l.length := by simp [S, ByteArray.size]
theorem ty_string : Try.prog.underlying 9 = some .string := by kernel_rfl
theorem S_append (a b : List UInt8) : S a ++ S b = S (a ++ b) := by
  apply ByteArray.ext
  simp [S]
theorem below_drewN {B : Nat} {w w' : World} (h : Below B w w') (m : Nat) : Below B w (w'.drewN m) := ⟨h.os, h.tape, h.output, h.size, h.block⟩
end Go.Proofs.Ytephciglcikllaa.Path
