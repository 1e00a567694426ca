/-
  No cell of these rows narrows 'for every input' (looked for: loops, veiled, ifaces, maps, wideKeys, modest, calm, conditions, laid).
  DERIVED. THE GIVEN ROWS OF THIS SEAT. 6 by the template 'for every input the law returns true; each argument reads behind the call as it read before'; 0 by the template 'total and deterministic' (their statements: YtobdkgmlkchggaaTotals.lean).
  GIVEN WITH THE SEED: the statements are not yours to turn. If you find one false, say at which input.
  Laid BY PROGRAM, IN A SANDBOX (cutbox-rows.mjs): the forced cells as the released guide's own fill.sh prints them over the translation 27fdc7b438d1abee… (all of the seat's roots in one cut). By AI agents, Wed Nov 11 2026. No macro, syntax, notation, axiom, sorry.
-/
import Derived.Test.YtobdkgmlkchggaaChecked
import GoSem.Claim
import GoSem.ClaimJoined
import GoSem.ClaimMapViews
import Derived.JoinedTies
import Derived.KernelRfl
namespace Go.Proofs.Ytobdkgmlkchggaa
/- THE CELL 'sum', in the pinned program and in every row, IS THE sha256 OF THE DUMP (.gsa) THAT YtobdkgmlkchggaaProg.lean LOADS. Nothing in Lean hashes anything: it is a label: what it is worth is what the hold of that sum in a sandbox is worth. -/
noncomputable def Try.pinned : Pinned := { name := "ytobdkgmlkchggaa", sum := "27fdc7b438d1abeee43811b52b534510e9d8f06978f325f8db123fd825cc9494", checked := Try.checked }
namespace Rows
def none {H : Type} : Left H := { results := [], args := [] }

/-- 'outriderlaw11.ZmsgPuts': WHATEVER THE INPUT: true; the input reads as it did. -/
def zmsgPutsSpec : ChangeSpec := { name := "zmsgPuts", fn := fun _ => fun
  | [d] => { results := [.lit (.bool true)], args := [d] }
  | _ => none }
def zmsgPutsRow : OpenClaim := { program := "ytobdkgmlkchggaa", sum := "27fdc7b438d1abeee43811b52b534510e9d8f06978f325f8db123fd825cc9494", func := "outrider/outriderlaw11.ZmsgPuts", spec := "zmsgPuts", unfollowed := true, recurses := true, apart := false }
def ZmsgPutsSaid : Prop := zmsgPutsRow.holds Try.pinned (OpenSpec.ofChange zmsgPutsSpec)

/-- ITS FALSE NEIGHBOUR: 'it returns false'. Refute it at one input. -/
def zmsgPutsWrong : ChangeSpec := { name := "zmsgPuts", fn := fun _ => fun
  | [d] => { results := [.lit (.bool false)], args := [d] }
  | _ => none }
def ZmsgPutsWrongFalsely : Prop := zmsgPutsRow.holds Try.pinned (OpenSpec.ofChange zmsgPutsWrong)

/-- 'outriderlaw11.ZmsgGets': WHATEVER THE INPUT: true; the input reads as it did. -/
def zmsgGetsSpec : ChangeSpec := { name := "zmsgGets", fn := fun _ => fun
  | [d] => { results := [.lit (.bool true)], args := [d] }
  | _ => none }
def zmsgGetsRow : OpenClaim := { program := "ytobdkgmlkchggaa", sum := "27fdc7b438d1abeee43811b52b534510e9d8f06978f325f8db123fd825cc9494", func := "outrider/outriderlaw11.ZmsgGets", spec := "zmsgGets", unfollowed := true, recurses := true, apart := false }
def ZmsgGetsSaid : Prop := zmsgGetsRow.holds Try.pinned (OpenSpec.ofChange zmsgGetsSpec)

/-- ITS FALSE NEIGHBOUR: 'it returns false'. Refute it at one input. -/
def zmsgGetsWrong : ChangeSpec := { name := "zmsgGets", fn := fun _ => fun
  | [d] => { results := [.lit (.bool false)], args := [d] }
  | _ => none }
def ZmsgGetsWrongFalsely : Prop := zmsgGetsRow.holds Try.pinned (OpenSpec.ofChange zmsgGetsWrong)

/-- 'outriderlaw11.ZmsgBack': WHATEVER THE INPUT: true; the input reads as it did. -/
def zmsgBackSpec : ChangeSpec := { name := "zmsgBack", fn := fun _ => fun
  | [d] => { results := [.lit (.bool true)], args := [d] }
  | _ => none }
def zmsgBackRow : OpenClaim := { program := "ytobdkgmlkchggaa", sum := "27fdc7b438d1abeee43811b52b534510e9d8f06978f325f8db123fd825cc9494", func := "outrider/outriderlaw11.ZmsgBack", spec := "zmsgBack", unfollowed := true, recurses := true, apart := false }
def ZmsgBackSaid : Prop := zmsgBackRow.holds Try.pinned (OpenSpec.ofChange zmsgBackSpec)

/-- ITS FALSE NEIGHBOUR: 'it returns false'. Refute it at one input. -/
def zmsgBackWrong : ChangeSpec := { name := "zmsgBack", fn := fun _ => fun
  | [d] => { results := [.lit (.bool false)], args := [d] }
  | _ => none }
def ZmsgBackWrongFalsely : Prop := zmsgBackRow.holds Try.pinned (OpenSpec.ofChange zmsgBackWrong)

/-- 'outriderlaw11.ZmsgApart': WHATEVER THE INPUT: true; the input reads as it did. -/
def zmsgApartSpec : ChangeSpec := { name := "zmsgApart", fn := fun _ => fun
  | [d1, d2] => { results := [.lit (.bool true)], args := [d1, d2] }
  | _ => none }
def zmsgApartRow : OpenClaim := { program := "ytobdkgmlkchggaa", sum := "27fdc7b438d1abeee43811b52b534510e9d8f06978f325f8db123fd825cc9494", func := "outrider/outriderlaw11.ZmsgApart", spec := "zmsgApart", unfollowed := true, recurses := true, apart := false }
def ZmsgApartSaid : Prop := zmsgApartRow.holds Try.pinned (OpenSpec.ofChange zmsgApartSpec)

/-- ITS FALSE NEIGHBOUR: 'it returns false'. Refute it at one input. -/
def zmsgApartWrong : ChangeSpec := { name := "zmsgApart", fn := fun _ => fun
  | [d1, d2] => { results := [.lit (.bool false)], args := [d1, d2] }
  | _ => none }
def ZmsgApartWrongFalsely : Prop := zmsgApartRow.holds Try.pinned (OpenSpec.ofChange zmsgApartWrong)

/-- 'outriderlaw11.ZmsgSame': WHATEVER THE INPUT: true; the input reads as it did. -/
def zmsgSameSpec : ChangeSpec := { name := "zmsgSame", fn := fun _ => fun
  | [d] => { results := [.lit (.bool true)], args := [d] }
  | _ => none }
def zmsgSameRow : OpenClaim := { program := "ytobdkgmlkchggaa", sum := "27fdc7b438d1abeee43811b52b534510e9d8f06978f325f8db123fd825cc9494", func := "outrider/outriderlaw11.ZmsgSame", spec := "zmsgSame", unfollowed := true, recurses := true, apart := false }
def ZmsgSameSaid : Prop := zmsgSameRow.holds Try.pinned (OpenSpec.ofChange zmsgSameSpec)

/-- ITS FALSE NEIGHBOUR: 'it returns false'. Refute it at one input. -/
def zmsgSameWrong : ChangeSpec := { name := "zmsgSame", fn := fun _ => fun
  | [d] => { results := [.lit (.bool false)], args := [d] }
  | _ => none }
def ZmsgSameWrongFalsely : Prop := zmsgSameRow.holds Try.pinned (OpenSpec.ofChange zmsgSameWrong)

/-- 'outriderlaw11.ZmsgKnown': WHATEVER THE INPUT: true; the input reads as it did. -/
def zmsgKnownSpec : ChangeSpec := { name := "zmsgKnown", fn := fun _ => fun
  | [] => { results := [.lit (.bool true)], args := [] }
  | _ => none }
def zmsgKnownRow : OpenClaim := { program := "ytobdkgmlkchggaa", sum := "27fdc7b438d1abeee43811b52b534510e9d8f06978f325f8db123fd825cc9494", func := "outrider/outriderlaw11.ZmsgKnown", spec := "zmsgKnown", unfollowed := true, recurses := true, apart := false }
def ZmsgKnownSaid : Prop := zmsgKnownRow.holds Try.pinned (OpenSpec.ofChange zmsgKnownSpec)

/-- ITS FALSE NEIGHBOUR: 'it returns false'. Refute it at one input. -/
def zmsgKnownWrong : ChangeSpec := { name := "zmsgKnown", fn := fun _ => fun
  | [] => { results := [.lit (.bool false)], args := [] }
  | _ => none }
def ZmsgKnownWrongFalsely : Prop := zmsgKnownRow.holds Try.pinned (OpenSpec.ofChange zmsgKnownWrong)

/- THE SECOND FORM. 'bulk': how many values and letters a reading holds, each counted each time it is reached (what is shared counts as often as it is met; a slice's spare places count too). A statement '..UptoSaid' is the law's where the arguments, and the package variables that the reading takes, are together of bulk at most 1048576: NARROWER than '..Said'. Prove '..Said' where nothing that the law and all that it calls make is longer than what came in: it says more and counts as full. Else prove '..UptoSaid'. A law counts once. -/
mutual
def uptoBulk {H : Type} : DataW H → Nat
  | .lit (.string bytes) => bytes.length + 1
  | .lit _ => 1
  | .nil => 1
  | .ptr d => uptoBulk d + 1
  | .slice elems spare => uptoBulkAll elems + uptoBulkAll spare + 1
  | .agg parts => uptoBulkAll parts + 1
  | .iface _ d => uptoBulk d + 1
  | .map entries => uptoBulkEntries entries + 1
  | .held _ => 1
def uptoBulkAll {H : Type} : List (DataW H) → Nat
  | [] => 0
  | d :: r => uptoBulk d + uptoBulkAll r
def uptoBulkEntries {H : Type} : List (Lit × DataW H) → Nat
  | [] => 0
  | x :: r => uptoBulkEntry x + uptoBulkEntries r
def uptoBulkEntry {H : Type} : Lit × DataW H → Nat
  | (.string bytes, d) => bytes.length + uptoBulk d + 1
  | (_, d) => uptoBulk d + 1
 end
def uptoSmall : (H : Type) → List (DataW H) → Bool := fun _ ds => decide (uptoBulkAll ds ≤ 1048576)
def OpenSpec.upto (s : _root_.Go.ChangeSpec) : _root_.Go.OpenSpec := { _root_.Go.OpenSpec.ofChange s with cond := some uptoSmall }

/-- 'outriderlaw11.ZmsgPuts', WHERE WHAT IT READS IS OF BULK AT MOST 1048576: true; the input reads as it did. -/
def zmsgPutsUptoRow : OpenClaim := { program := "ytobdkgmlkchggaa", sum := "27fdc7b438d1abeee43811b52b534510e9d8f06978f325f8db123fd825cc9494", func := "outrider/outriderlaw11.ZmsgPuts", spec := "zmsgPuts", unfollowed := true, recurses := true, apart := false, narrowed := true }
def ZmsgPutsUptoSaid : Prop := zmsgPutsUptoRow.holds Try.pinned (OpenSpec.upto zmsgPutsSpec)

/-- 'outriderlaw11.ZmsgGets', WHERE WHAT IT READS IS OF BULK AT MOST 1048576: true; the input reads as it did. -/
def zmsgGetsUptoRow : OpenClaim := { program := "ytobdkgmlkchggaa", sum := "27fdc7b438d1abeee43811b52b534510e9d8f06978f325f8db123fd825cc9494", func := "outrider/outriderlaw11.ZmsgGets", spec := "zmsgGets", unfollowed := true, recurses := true, apart := false, narrowed := true }
def ZmsgGetsUptoSaid : Prop := zmsgGetsUptoRow.holds Try.pinned (OpenSpec.upto zmsgGetsSpec)

/-- 'outriderlaw11.ZmsgBack', WHERE WHAT IT READS IS OF BULK AT MOST 1048576: true; the input reads as it did. -/
def zmsgBackUptoRow : OpenClaim := { program := "ytobdkgmlkchggaa", sum := "27fdc7b438d1abeee43811b52b534510e9d8f06978f325f8db123fd825cc9494", func := "outrider/outriderlaw11.ZmsgBack", spec := "zmsgBack", unfollowed := true, recurses := true, apart := false, narrowed := true }
def ZmsgBackUptoSaid : Prop := zmsgBackUptoRow.holds Try.pinned (OpenSpec.upto zmsgBackSpec)

/-- 'outriderlaw11.ZmsgApart', WHERE WHAT IT READS IS OF BULK AT MOST 1048576: true; the input reads as it did. -/
def zmsgApartUptoRow : OpenClaim := { program := "ytobdkgmlkchggaa", sum := "27fdc7b438d1abeee43811b52b534510e9d8f06978f325f8db123fd825cc9494", func := "outrider/outriderlaw11.ZmsgApart", spec := "zmsgApart", unfollowed := true, recurses := true, apart := false, narrowed := true }
def ZmsgApartUptoSaid : Prop := zmsgApartUptoRow.holds Try.pinned (OpenSpec.upto zmsgApartSpec)

/-- 'outriderlaw11.ZmsgSame', WHERE WHAT IT READS IS OF BULK AT MOST 1048576: true; the input reads as it did. -/
def zmsgSameUptoRow : OpenClaim := { program := "ytobdkgmlkchggaa", sum := "27fdc7b438d1abeee43811b52b534510e9d8f06978f325f8db123fd825cc9494", func := "outrider/outriderlaw11.ZmsgSame", spec := "zmsgSame", unfollowed := true, recurses := true, apart := false, narrowed := true }
def ZmsgSameUptoSaid : Prop := zmsgSameUptoRow.holds Try.pinned (OpenSpec.upto zmsgSameSpec)

/-- 'outriderlaw11.ZmsgKnown', WHERE WHAT IT READS IS OF BULK AT MOST 1048576: true; the input reads as it did. -/
def zmsgKnownUptoRow : OpenClaim := { program := "ytobdkgmlkchggaa", sum := "27fdc7b438d1abeee43811b52b534510e9d8f06978f325f8db123fd825cc9494", func := "outrider/outriderlaw11.ZmsgKnown", spec := "zmsgKnown", unfollowed := true, recurses := true, apart := false, narrowed := true }
def ZmsgKnownUptoSaid : Prop := zmsgKnownUptoRow.holds Try.pinned (OpenSpec.upto zmsgKnownSpec)

end Rows
end Go.Proofs.Ytobdkgmlkchggaa
