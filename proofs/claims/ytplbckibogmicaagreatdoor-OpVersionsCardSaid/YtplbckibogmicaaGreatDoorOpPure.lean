/- Operations: the document's words over rows of nodes. No program in this text. -/
import Derived.Test.YtplbckibogmicaaGreatDoorTreeGood
namespace Go.Proofs.YtplbckibogmicaaGreatDoor.Opn
open Go.Op Path Tree

/-- What an operation says, but for its parts; of these their number. -/
structure O1 where
  kind : Nat
  path : List UInt8
  data : List UInt8
  ver : Int
  seq : Bool
  eph : Bool
  np : Nat
/-- A reply, but for its parts. -/
structure R1 where
  e : Int
  path : List UInt8
  node : ZN
  kids : List (List UInt8)
def R1.no (e : Int) : R1 := ⟨e, [], ZN.zero, []⟩
structure Who where
  site : Int
  n : Int
deriving DecidableEq
def Who.none_ : Who := ⟨0, 0⟩

def isSingle (o : O1) : Bool := decide (1 ≤ o.kind ∧ o.kind < 7 ∧ o.np = 0)
def isMulti (o : O1) (ps : List O1) : Bool := decide (o.kind = 7 ∧ 1 ≤ o.np ∧ o.np ≤ 6) && ps.all isSingle
def isLong (o : O1) : Bool := decide (64 < o.data.length)
def chk (o : O1) (ps : List O1) : Int := if isSingle o = false ∧ isMulti o ps = false then 1 else if isLong o = true ∨ ps.any isLong = true then 3 else 0

/-- Ten decimal digits. -/
def ten (n : Nat) : List UInt8 := (List.range 10).map fun i => UInt8.ofNat (48 + n / 10 ^ (9 - i) % 10)
def up32 (n : Int) : Int := (n + 1) % 4294967296
def nodeAt (t : TR) (p : List UInt8) : ZN := (get t.row p).getD ZN.zero
/-- The parent, of which the children change. -/
def touched (n : ZN) (at_ : Int) : ZN := { n with kin := up32 n.kin, tch := at_ }
def nexted (n : ZN) (seq : Bool) : ZN := if seq = true then { n with next := up32 n.next } else n
def newNode (o : O1) (who : Who) (at_ : Int) : ZN := ⟨o.data, 0, 0, 0, if o.eph = true then who.site else 0, if o.eph = true then who.n else 0, at_, at_, at_⟩
def seqPath (t : TR) (o : O1) : List UInt8 := if o.seq = true then o.path ++ ten (nodeAt t (parentF o.path)).next.toNat else o.path

def create (t : TR) (at_ : Int) (who : Who) (o : O1) : List Ef × R1 :=
  if o.path = t.root ∧ o.seq = false then ([], .no 32)
  else if o.path = t.root ∨ partsF (seqPath t o) = none then ([], .no 30)
  else if has t.row (parentF o.path) = false then ([], .no 31)
  else if (nodeAt t (parentF o.path)).site ≠ 0 ∨ (nodeAt t (parentF o.path)).own ≠ 0 then ([], .no 34)
  else if o.eph = true ∧ who = .none_ then ([], .no 63)
  else if has t.row (seqPath t o) = true then ([], .no 32)
  else if 48 ≤ t.row.length then ([], .no 36)
  else ([⟨parentF o.path, false, touched (nexted (nodeAt t (parentF o.path)) o.seq) at_⟩, ⟨seqPath t o, false, newNode o who at_⟩], ⟨0, seqPath t o, newNode o who at_, []⟩)
def badVer (o : O1) (n : ZN) : Bool := decide (0 ≤ o.ver ∧ o.ver ≠ n.ver)
def remove (t : TR) (at_ : Int) (o : O1) : List Ef × R1 :=
  if o.path = t.root then ([], .no 30)
  else if has t.row o.path = false then ([], .no 31)
  else if badVer o (nodeAt t o.path) = true then ([], .no 35)
  else if kids t.root t.row o.path ≠ [] then ([], .no 33)
  else ([⟨o.path, true, ZN.zero⟩, ⟨parentF o.path, false, touched (nodeAt t (parentF o.path)) at_⟩], ⟨0, o.path, ZN.zero, []⟩)
def setted (n : ZN) (o : O1) (at_ : Int) : ZN := { n with data := o.data, ver := up32 n.ver, chg := at_ }
def set_ (t : TR) (at_ : Int) (o : O1) : List Ef × R1 :=
  if has t.row o.path = false then ([], .no 31)
  else if badVer o (nodeAt t o.path) = true then ([], .no 35)
  else ([⟨o.path, false, setted (nodeAt t o.path) o at_⟩], ⟨0, o.path, setted (nodeAt t o.path) o at_, []⟩)
def check (t : TR) (o : O1) : List Ef × R1 :=
  if has t.row o.path = false then ([], .no 31)
  else if badVer o (nodeAt t o.path) = true then ([], .no 35)
  else ([], ⟨0, o.path, nodeAt t o.path, []⟩)
def get_ (t : TR) (o : O1) : List Ef × R1 :=
  if has t.row o.path = false then ([], .no 31) else ([], ⟨0, o.path, nodeAt t o.path, []⟩)
def kids_ (t : TR) (o : O1) : List Ef × R1 :=
  if has t.row o.path = false then ([], .no 31) else ([], ⟨0, o.path, nodeAt t o.path, kids t.root t.row o.path⟩)
/-- An operation that is no multi. -/
def single (t : TR) (at_ : Int) (who : Who) (o : O1) : List Ef × R1 :=
  if underF o.path t.root = false then ([], .no 30)
  else match o.kind with
  | 1 => create t at_ who o
  | 2 => remove t at_ o
  | 3 => set_ t at_ o
  | 4 => check t o
  | 5 => get_ t o
  | 6 => kids_ t o
  | _ => ([], .no 0)
/-- A multi's parts, from what was done on: the effects, the error, the replies. -/
def multi (at_ : Int) (who : Who) : TR → List O1 → List Ef → List R1 → List Ef × Int × List R1
  | _, [], xs, rs => (xs, 0, rs)
  | t, o :: os, xs, rs =>
    if (single t at_ who o).2.e ≠ 0 then ([], (single t at_ who o).2.e, rs ++ [(single t at_ who o).2])
    else multi at_ who (t.apply (single t at_ who o).1).2 os (xs ++ (single t at_ who o).1) (rs ++ [(single t at_ who o).2])
/-- What Do answers: the effects, the reply, its parts. -/
def doF (t : TR) (who : Who) (o : O1) (ps : List O1) : List Ef × R1 × List R1 :=
  if chk o ps ≠ 0 then ([], .no (chk o ps), [])
  else if o.kind = 7 then ((multi ((t.cnt + 1 : Nat) % 18446744073709551616 : Nat) who t ps [] []).1, .no (multi ((t.cnt + 1 : Nat) % 18446744073709551616 : Nat) who t ps [] []).2.1, (multi ((t.cnt + 1 : Nat) % 18446744073709551616 : Nat) who t ps [] []).2.2)
  else ((single t ((t.cnt + 1 : Nat) % 18446744073709551616 : Nat) who o).1, (single t ((t.cnt + 1 : Nat) % 18446744073709551616 : Nat) who o).2, [])
/-- The tree behind it: what has effects is applied. -/
def didF (t : TR) (who : Who) (o : O1) (ps : List O1) : TR := if (doF t who o ps).1 = [] then t else (t.apply (doF t who o ps).1).2
end Go.Proofs.YtplbckibogmicaaGreatDoor.Opn
