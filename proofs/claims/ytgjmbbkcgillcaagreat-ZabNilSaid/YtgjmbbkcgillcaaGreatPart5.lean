/- Lemmas, part 5: ZmSame, ZmHeavy, RdrQ, PhaseFreeC, PhasePool, PoolWords, ZmRow -/
import Derived.Test.YtgjmbbkcgillcaaGreatPart4
import Derived.BigQuiet
import Derived.Test.YtgjmbbkcgillcaaGreatPart2
import Derived.Test.YtgjmbbkcgillcaaGreatPart3
import Derived.Test.YtgjmbbkcgillcaaGreatPart1
import Derived.Maps.AppendAt
import Derived.Deep.AppendLies
set_option maxHeartbeats 16000000
namespace Go.Proofs.YtgjmbbkcgillcaaGreat.Zm
open Go.RowKit Disk Log Sto
end Go.Proofs.YtgjmbbkcgillcaaGreat.Zm
namespace Go.Proofs.YtgjmbbkcgillcaaGreat.Zm
open Go.RowKit Disk Log Sto
end Go.Proofs.YtgjmbbkcgillcaaGreat.Zm
namespace Go.Proofs.YtgjmbbkcgillcaaGreat.Sto
open Go.RowKit
def RdrQ (Q:Nat→Prop) (w:World) (r:Nat) (s:List UInt8×Bool):Prop:=
 ∃A n c,Bk w r 196 #[.slice A n c,.bool s.2]∧n≤c∧c≤1000000000000∧Rd w A n s.1∧∀a,A=some a→Q a.block
theorem RdrQ.rdr {Q:Nat→Prop} {w:World} {r:Nat} {s:List UInt8×Bool} (h:RdrQ Q w r s):Rdr w r s:=by
 obtain ⟨A,n,c,h1,h2,h3,h4,_⟩:=h;exact ⟨A,n,c,h1,h2,h3,h4⟩
theorem aZr {Q:Nat→Prop} {A:Option Addr} {k c:Nat} (hq:∀a,A=some a→Q a.block):∀a,(if c=k then A else A.map (·.add k))=some a→Q a.block:=by
 intro a ha;split at ha
 ·exact hq a ha
 ·cases A with
  |none=>cases ha
  |some b=>
   injection ha with ha;rw [←ha,aAa];exact hq b rfl
theorem RdrQ.lt {Q:Nat→Prop} {w:World} {r:Nat} {s:List UInt8×Bool} (h:RdrQ Q w r s):r<w.heap.size:=by
 obtain ⟨A,n,c,hb,_⟩:=h;exact hb.lt
theorem RdrQ.out {Q X:Nat→Prop} {w w':World} {r:Nat} {s:List UInt8×Bool} (h:RdrQ Q w r s) (ho:Disk.Out X w w') (hr:¬X r) (hx:∀k,Q k→¬X k):RdrQ Q w' r s:=by
 obtain ⟨A,n,c,h1,h2,h3,h4,h5⟩:=h;exact ⟨A,n,c,h1.kept (ho.block r h1.lt hr),h2,h3,Log.aGs h4 ho fun a ha=>hx _ (h5 a ha),h5⟩
theorem RdrQ.below {Q:Nat→Prop} {w w':World} {r:Nat} {s:List UInt8×Bool} (h:RdrQ Q w r s) (hb:Below w.heap.size w w'):RdrQ Q w' r s:=
 h.out (X:=fun _=>False) (Disk.Out.of_below hb) (fun q=>q) fun _ _ q=>q
theorem aNn {Q:Nat→Prop} {w:World} {r:Nat} {A A':Option Addr} {n c n' c':Nat} {b:Bool} {bs':List UInt8} (hb:Bk w r 196 #[.slice A n c,.bool b]) (hnc:n'≤c') (hc:c'≤1000000000000) (h:Rd w A' n' bs') (hq:∀a,A'=some a→Q a.block):
  RdrQ Q (w.setCell ⟨r,0,none⟩ (.slice A' n' c')) r (bs',b):=
 ⟨A',n',c',by simpa using hb.set 0 (.slice A' n' c'),hnc,hc,Rd.setCell hb (aDh _ _ _ _) h 0 _,hq⟩
theorem aJk {Q:Nat→Prop} {w:World} {r:Nat} {A:Option Addr} {n c:Nat} {b b':Bool} {bs:List UInt8} (hb:Bk w r 196 #[.slice A n c,.bool b]) (hnc:n≤c) (hc:c≤1000000000000) (h:Rd w A n bs) (hq:∀a,A=some a→Q a.block):
  RdrQ Q (w.setCell ⟨r,1,none⟩ (.bool b')) r (bs,b'):=
 ⟨A,n,c,by simpa using hb.set 1 (.bool b'),hnc,hc,Rd.setCell hb (aDh _ _ _ _) h 1 _,hq⟩
def RedQ (Q:Nat→Prop) (w:World) (r:Nat) (v:Value) (s:List UInt8×Bool) (e:Ending) (w':World):Prop:=e=.returned v∧RdrQ Q w' r s∧w.grownBy w' (some r)
theorem aSy {Q:Nat→Prop} (r k:Nat) (kk:Int) (s:List UInt8×Bool) (w:World) (h:RdrQ Q w r s) (hkk:kk=k) (hk8:k≤8):
  Calls Tryz.prog 164 #[.pointer (some ⟨r,0,none⟩),.int .u64 kk,.func (.func 165) #[] #[]] w (RedQ Q w r (.int .u64 (val (takeS k s).1:Int)) (takeS k s).2):=by
 obtain ⟨bs,bad⟩:=s;obtain ⟨A,n,c,hb,hnc,hc,hr,hq⟩:=h;have hl:=hr.len;simp only at hb hr hl;cases bad with
 |true=>
  refine (aNc r A n c kk _ w hb).mono ?_;rintro e w' ⟨rfl,rfl⟩;simp only [takeS,true_or,if_true];exact ⟨rfl,⟨A,n,c,hb,hnc,hc,hr,hq⟩,aEw _ _⟩
 |false=>
  by_cases hk:n<k
  ·refine (aJp r A n c k kk _ w hb (by omega) hkk hk).mono ?_;rintro e w' ⟨rfl,rfl⟩;simp only [takeS,hl,hk,or_true,if_true];exact ⟨rfl,aJk hb hnc hc hr hq,aBp _ _ _ _⟩
  ·refine (aQk r A n c k kk bs w hb hnc hc hr hkk (by omega) hk8).mono ?_;rintro e w' ⟨rfl,rfl⟩;have hs:takeS k (bs,false)=(bs.take k,(bs.drop k,false)):=by simp [takeS,hl,hk]
   rw [hs];exact ⟨rfl,aNn hb (by omega) (by omega) (hr.drop (by omega) hnc) (aZr hq),aBp _ _ _ _⟩
theorem aBz {Q:Nat→Prop} (r k:Nat) (kk:Int) (s:List UInt8×Bool) (w:World) (h:RdrQ Q w r s) (hkk:kk=k) (hk8:k≤8):
  Calls Tryz.prog 132 #[.pointer (some ⟨r,0,none⟩),.int .u64 kk] w (RedQ Q w r (.int .u64 (val (takeS k s).1:Int)) (takeS k s).2):=by
 have H:=Lib.hid h;have HE:=Lib.hid hkk;clear h hkk;go_enter Tryz.func132,Tryz.ntmps132
 go_wp2_with fail;refine (aSy r k kk s w H.out HE.out hk8).mono ?_;rintro e w' ⟨rfl,h1,h2⟩;have H1:=Lib.hid h1;have H2:=Lib.hid h2;clear h1 h2;go_wp2_with fail;go_ret;exact ⟨rfl,H1.out,H2.out⟩
theorem aKr {Q:Nat→Prop} (r:Nat) (s:List UInt8×Bool) (w:World) (h:RdrQ Q w r s):
  Calls Tryz.prog 84 #[.pointer (some ⟨r,0,none⟩)] w (RedQ Q w r (.int .u8 (val (takeS 1 s).1:Int)) (takeS 1 s).2):=by
 have H:=Lib.hid h;clear h;have hv:val (takeS 1 s).1<256:=Nat.lt_of_lt_of_le (aK6 _) (Nat.le_trans (Nat.pow_le_pow_right (by omega) (aFu 1 s)) (by decide));go_enter Tryz.func84,Tryz.ntmps84
 go_wp2_with fail;refine (aBz r 1 1 s w H.out rfl (by omega)).mono ?_;rintro e w' ⟨rfl,h1,h2⟩;have H1:=Lib.hid h1;have H2:=Lib.hid h2;clear h1 h2;go_wp2_with fail;go_ret;exact ⟨rfl,H1.out,H2.out⟩
theorem aF0 {Q:Nat→Prop} (r:Nat) (s:List UInt8×Bool) (w:World) (h:RdrQ Q w r s):
  Calls Tryz.prog 85 #[.pointer (some ⟨r,0,none⟩)] w (RedQ Q w r (.int .u64 (val (takeS 8 s).1:Int)) (takeS 8 s).2):=by
 have H:=Lib.hid h;clear h;go_enter Tryz.func85,Tryz.ntmps85
 go_wp2_with fail;refine (aBz r 8 8 s w H.out rfl (by omega)).mono ?_;rintro e w' ⟨rfl,h1,h2⟩;have H1:=Lib.hid h1;have H2:=Lib.hid h2;clear h1 h2;go_wp2_with fail;go_ret;exact ⟨rfl,H1.out,H2.out⟩
theorem aNs {Q:Nat→Prop} (r:Nat) (s:List UInt8×Bool) (w:World) (h:RdrQ Q w r s):
  Calls Tryz.prog 133 #[.pointer (some ⟨r,0,none⟩)] w (RedQ Q w r (.tuple #[]) (s.1,true)):=by
 obtain ⟨A,n,c,hb,hnc,hc,hr,hq⟩:=h;have HB:=Lib.hid hb;have HR:=Lib.hid hr;have c1:=hb.cell 1;have f0:=hb.frozen 1;clear hb hr;simp at c1;go_enter Tryz.func133,Tryz.ntmps133
 go_wp2_with fail
 go_end0
 exact ⟨rfl,aJk HB.out hnc hc HR.out hq,aBp _ _ _ _⟩
def RedBQ (Q:Nat→Prop) (w:World) (r:Nat) (bs:List UInt8) (s:List UInt8×Bool) (e:Ending) (w':World):Prop:=
 ∃A n c,e=.returned (.slice A n c)∧w'.ownsRow w.heap.size 5 1 (.slice A n c) n (bs.map U)∧RdrQ Q w' r s∧w.grownBy w' (some r)
theorem aTa {Q:Nat→Prop} (r k:Nat) (kk:Int) (s:List UInt8×Bool) (w:World) (h:RdrQ Q w r s) (hkk:kk=k):
  Calls Tryz.prog 134 #[.pointer (some ⟨r,0,none⟩),.int .u64 kk,.func (.func 135) #[] #[]] w (RedBQ Q w r (takeS k s).1 (takeS k s).2):=by
 obtain ⟨bs,bad⟩:=s;obtain ⟨A,n,c,hb,hnc,hc,hr,hq⟩:=h;have hl:=hr.len;simp only at hb hr hl;cases bad with
 |true=>
  refine (aMz r A n c kk _ w hb).mono ?_;rintro e w' ⟨rfl,rfl⟩;simp only [takeS,true_or,if_true];exact ⟨none,0,0,rfl,World.ownsRow_nil _ _ _ _,⟨A,n,c,hb,hnc,hc,hr,hq⟩,aEw _ _⟩
 |false=>
  by_cases hk:n<k
  ·refine (aHz r A n c k kk _ w hb (by omega) hkk hk).mono ?_;rintro e w' ⟨rfl,rfl⟩;simp only [takeS,hl,hk,or_true,if_true];exact ⟨none,0,0,rfl,World.ownsRow_nil _ _ _ _,aJk hb hnc hc hr hq,aBp _ _ _ _⟩
  ·refine (aQq r A n c k kk bs w hb hnc hc hr hkk (by omega)).mono ?_;rintro e w' ⟨w1,rfl,hown,hbel,rfl⟩;have hs:takeS k (bs,false)=(bs.take k,(bs.drop k,false)):=by simp [takeS,hl,hk]
   rw [hs];exact ⟨_,k,k,rfl,ownsRow_setCell_below hown hb.lt _,aNn (hb.below hbel) (by omega) (by omega) ((hr.below hbel).drop (by omega) hnc) (aZr hq),aBm (aA7 hbel _) (aBp _ _ _ _)⟩
theorem aL4 {Q:Nat→Prop} (r:Nat) (s:List UInt8×Bool) (w:World) (h:RdrQ Q w r s):
  Calls Tryz.prog 87 #[.pointer (some ⟨r,0,none⟩)] w (RedBQ Q w r (textS s).1 (textS s).2):=by
 have H:=Lib.hid h;clear h;go_enter Tryz.func87,Tryz.ntmps87
 go_wp2_with fail;refine (aBz r 4 4 s w H.out rfl (by omega)).mono ?_;rintro e w1 ⟨rfl,h1,h2⟩;have H1:=Lib.hid h1;have H2:=Lib.hid h2;clear h1 h2;go_wp2_with fail;refine (aTa r _ _ (takeS 4 s).2 w1 H1.out rfl).mono ?_;rintro e w2 ⟨A,n,c,rfl,hown,h3,h4⟩;have HO:=Lib.hid hown;have H3:=Lib.hid h3;have H4:=Lib.hid h4;clear hown h3 h4;go_wp2_with fail;go_ret;exact ⟨A,n,c,rfl,aAh HO.out H2.out.size,H3.out,aBm H2.out H4.out⟩
theorem aDv {Q:Nat→Prop} (r:Nat) (most:Int) (s:List UInt8×Bool) (w:World) (h:RdrQ Q w r s) (hm:most≤9223372036854775807) (hm2:-9223372036854775808≤most):
  Calls Tryz.prog 86 #[.pointer (some ⟨r,0,none⟩),.int .i64 most] w (RedQ Q w r (.int .i64 (countS most s).1) (countS most s).2):=by
 have H:=Lib.hid h;have hv:=aF3 8 s (by omega);clear h;by_cases h0:most<0
 ·have hs:countS most s=(0,((takeS 8 s).2.1,true)):=by unfold countS;rw [if_pos (.inl h0)]
  rw [hs];clear hs;go_enter Tryz.func86,Tryz.ntmps86
  go_wp2_with fail;refine (aBz r 8 8 s w H.out rfl (by omega)).mono ?_;rintro e w1 ⟨rfl,h1,h2⟩;have H1:=Lib.hid h1;have H2:=Lib.hid h2;clear h1 h2;go_wp2_with fail;refine (aNs r _ w1 H1.out).mono ?_;rintro e w2 ⟨rfl,h1,h2⟩;have H3:=Lib.hid h1;have H4:=Lib.hid h2;clear h1 h2;go_wp2_with fail;go_ret;exact ⟨rfl,H3.out,aBm H2.out H4.out⟩
 ·by_cases h1:most<(val (takeS 8 s).1:Int)
  ·have hs:countS most s=(0,((takeS 8 s).2.1,true)):=by unfold countS;rw [if_pos (.inr h1)]
   rw [hs];clear hs;go_enter Tryz.func86,Tryz.ntmps86
   go_wp2_with fail;refine (aBz r 8 8 s w H.out rfl (by omega)).mono ?_;rintro e w1 ⟨rfl,h1',h2⟩;have H1:=Lib.hid h1';have H2:=Lib.hid h2;clear h1' h2;go_wp2_with fail;refine (aNs r _ w1 H1.out).mono ?_;rintro e w2 ⟨rfl,h1',h2⟩;have H3:=Lib.hid h1';have H4:=Lib.hid h2;clear h1' h2;go_wp2_with fail;go_ret;exact ⟨rfl,H3.out,aBm H2.out H4.out⟩
  ·have hs:countS most s=(val (takeS 8 s).1,(takeS 8 s).2):=by unfold countS;rw [if_neg (by omega)]
   rw [hs];clear hs;go_enter Tryz.func86,Tryz.ntmps86
   go_wp2_with fail;refine (aBz r 8 8 s w H.out rfl (by omega)).mono ?_;rintro e w1 ⟨rfl,h1',h2⟩;have H1:=Lib.hid h1';have H2:=Lib.hid h2;clear h1' h2;go_wp2_with fail;go_ret;exact ⟨rfl,H1.out,H2.out⟩
theorem aVd (A:Option Addr) (n c:Nat) (bs:List UInt8) (w:World) (h:Rd w A n bs) (hn:n≤1000000000000):
  Calls Tryz.prog 83 #[.slice A n c] w (fun e w'=>∃r,e=.returned (.pointer (some ⟨r,0,none⟩))∧w.heap.size≤r∧RdrQ (fun b=>w.heap.size≤b∧b<r) w' r (bs,false)∧Below w.heap.size w w'):=by
 have H:=Lib.hid h;clear h;go_enter Tryz.func83,Tryz.ntmps83
 go_wp2_with fail;refine (aBc A n c 0 bs w H.out (by omega) (by omega)).mono ?_;rintro e w1 ⟨rfl,hown1,hb1⟩;have HO1:=Lib.hid hown1;have HB1:=Lib.hid hb1;clear hown1 hb1;go_wp2_with fail;go_ret;have hr1:=Rd.of_own HO1.out;have hlt:=(HO1.out.lt w.heap.size rfl).2;exact ⟨w1.heap.size,rfl,HB1.out.size,⟨_,n,n,Bk.new w1 _ _,Nat.le_refl _,hn,hr1.1.below ((Below.refl _ _).alloc (Nat.le_refl _) _),fun a ha=>by injection ha with ha;subst ha;exact ⟨Nat.le_refl _,hlt⟩⟩,HB1.out.alloc HB1.out.size _⟩
end Go.Proofs.YtgjmbbkcgillcaaGreat.Sto
namespace Go.Proofs.YtgjmbbkcgillcaaGreat.PhaseG
open Phase (aAu StepsL reachB Closed aA4)
open Go.RowKit
def laterB (l:List Oper) (f i d:Nat):Bool:=(List.range l.length).all fun k=>match l[k]? with
 |some p=>p.dst != some d||k==i||reachB l f k i
 |none=>true
section
variable {P:Program} {Q:Exit→Act→World→Prop}
end
end Go.Proofs.YtgjmbbkcgillcaaGreat.PhaseG
namespace Go.Proofs.YtgjmbbkcgillcaaGreat.PhaseP
open PhaseG (okB aB2 aDe aB4 laterB Fits aAf aAn final aA8)
open Phase (aAu StepsL reachB aA4 Closed)
open Go.RowKit
open Disk (Out)
def Took (con:Nat→List Nat) (O:Nat→Value→World→Nat→Prop) (v:Nat→Value) (W:World) (i:Nat) (b:Nat):Prop:=∃k,k∈con i∧O k (v k) W b
def GG (G:Nat→Nat→Prop) (b:Nat):Prop:=∃j,G j b
def soleB (n:Nat) (con:Nat→List Nat) (k i:Nat):Bool:=(List.range n).all fun j=>!(con j).contains k||j==i
structure DepP (l:List Oper) (v:Nat→Value) (a0:Act) (con:Nat→List Nat) (R:Nat→Value→World→Prop) (L:Nat→(Nat→Value)→Value→Prop) (i:Nat) (o:Oper) (a:Act) (W:World):Prop where
 done_:∀(k:Nat) (p:Oper) (d:Nat),(o.after.any fun e=>e.on==k&&Region.binds .any e)=true→l[k]? =some p→p.dst=some d→soleB l.length con k i=true→a.tmps.getD d undef=v k∧R k (v k) W
 told:∀(k:Nat) (p:Oper) (d:Nat),(o.after.any fun e=>e.on==k&&Region.binds .any e)=true→l[k]? =some p→p.dst=some d→a.tmps.getD d undef=v k∧L k v (v k)
 kept:∀f d,laterB l f i d=true→a.tmps.getD d undef=a0.tmps.getD d undef
def StepP (P:Program) (Q:Exit→Act→World→Prop) (l:List Oper) (a0:Act) (w:World) (con:Nat→List Nat) (R:Nat→Value→World→Prop) (O:Nat→Value→World→Nat→Prop) (L:Nat→(Nat→Value)→Value→Prop) (G:Nat→Nat→Prop) (f:Nat) (i:Nat) (o:Oper):Prop:=
 ∀(a:Act) (v:Nat→Value) (W:World),DepP l v a0 con R L i o a W→Out (GG G) w W→(∀j b,(j=i∨reachB l f j i=true)→G j b→W.heap[b]? =w.heap[b]?)→∀K:Act→World→Prop,(∀x W',Out (fun b=>Took con O v W i b∨G i b) W W'→R i x W'→L i v x→(∀b,O i x W' b→b<W'.heap.size∧(W.heap.size≤b∨Took con O v W i b∨G i b))→K (a.put o.dst x) W')→o.wp P a W K Q
section
variable {P:Program} {Q:Exit→Act→World→Prop}
def conB (l:List Oper) (con:Nat→List Nat):Bool:=(List.range l.length).all fun j=>(con j).all fun k=>soleB l.length con k j&&(match l[j]? with
  |none=>true
  |some o=>o.after.any fun e=>e.on==k&&Region.binds .any e)
theorem aD9 {l:List Oper} {con:Nat→List Nat} (h:conB l con=true) {j k:Nat} (hj:j<l.length) (hc:k∈con j):soleB l.length con k j=true:=by
 have h1:=List.all_eq_true.1 (List.all_eq_true.1 h j (List.mem_range.2 hj)) k hc;simp only [Bool.and_eq_true] at h1;exact h1.1
theorem aHa {n:Nat} {con:Nat→List Nat} {j k:Nat} (h:soleB n con k j=true) {i:Nat} (hi:i<n) (hc:k∈con i):i=j:=by
 have h1:=List.all_eq_true.1 h i (List.mem_range.2 hi);have h2:(con i).contains k=true:=by simpa using hc
 rw [h2] at h1;simpa using h1
theorem aC2 {l:List Oper} {con:Nat→List Nat} (h:conB l con=true) {j k:Nat} {o:Oper} (hj:l[j]? =some o) (hc:k∈con j):(o.after.any fun e=>e.on==k&&Region.binds .any e)=true:=by
 have hlt:=(List.getElem?_eq_some_iff.1 hj).1;have h1:=List.all_eq_true.1 (List.all_eq_true.1 h j (List.mem_range.2 hlt)) k hc;simp only [hj,Bool.and_eq_true] at h1;exact h1.2
def Lies (l:List Oper) (con:Nat→List Nat) (listed:Array Bool) (k:Nat):Prop:=k<l.length∧listed.getD k false=true∧∀j,j<l.length→k∈con j→listed.getD j false=false
theorem aC5 {l:List Oper} {a0:Act} {id:Nat} {w:World} (con:Nat→List Nat) (R:Nat→Value→World→Prop) (O:Nat→Value→World→Nat→Prop) (L:Nat→(Nat→Value)→Value→Prop) (G:Nat→Nat→Prop) (f:Nat) (hm:P.follows .mixedOrders=true) (hok:okB l.toArray a0.tmps.size=true) (hng:(l.all fun o=>o.guard.isNone)=true) (hcon:conB l con=true)
  (hG1:∀j b,G j b→b<w.heap.size) (hG2:∀i j b,G i b→G j b→i=j)
  (hR:∀k x (Z:Nat→Prop) W W',R k x W→Out (GG G) w W→Out Z W W'→(∀b,Z b→w.heap.size≤b∨GG G b)→(∀b,O k x W b→¬Z b)→R k x W'∧∀b,O k x W' b→O k x W b)
  (hL:∀i v v' x,(∀k,k∈con i→v' k=v k)→L i v x→L i v' x)
  (hsteps:StepsL (StepP P Q l a0 w con R O L G f) 0 l) (F:(Nat→Value)→Act) (hF:∀v,final l.toArray v l.length a0=F v)
  (hend:∀v W,Out (GG G) w W→(∀k,k<l.length→(∀j,j<l.length→k∉con j)→R k (v k) W)→(∀i,i<l.length→L i v (v i))→Q .normal (F v) W):
  (Code.region id l.toArray true).wp P Q a0 w:=by
 refine aA8 (v0:=fun _=>undef) (C:=fun v listed W=>Out (GG G) w W∧listed.size=l.length∧(∀k,Lies l con listed k→R k (v k) W∧∀b,O k (v k) W b→b<W.heap.size∧(w.heap.size≤b∨∃j,listed.getD j false=true∧G j b))∧(∀j k b,Lies l con listed j→Lies l con listed k→j≠k→O j (v j) W b→¬O k (v k) W b)∧(∀i,listed.getD i false=true→i<l.length→L i v (v i))∧Closed l listed∧∀j b,listed.getD j false=false→G j b→W.heap[b]? =w.heap[b]?) hm hok (fun v _ _ _=>aB4 (by simpa using hng) v) ⟨(Out.refl _ w).drew,by simp,(fun k h=>by have:=h.2.1;rw [aAf] at this;cases this),(fun j k b h=>by have:=h.2.1;rw [aAf] at this;cases this),(fun i h=>by rw [aAf] at h;cases h),(fun x o _ h=>by rw [aAf] at h;cases h),(fun j b _ _=>rfl)⟩ ?_ ?_
 ·intro i o hi v listed a W hun hdeps hf hC K hK;obtain ⟨hb,hsz,hr,hdis,hlk,hcl,hgk⟩:=hC;have hil:l[i]? =some o:=by simpa using hi
  have hlt:i<l.length:=(List.getElem?_eq_some_iff.1 hil).1;have hltl:i<listed.size:=by omega
  have hunf:listed.getD i false=false:=by
   have:listed[i]=false:=by simpa [hltl] using hun
   simp [hltl,this]
  have hlies:∀k,k<l.length→(o.after.any fun e=>e.on==k&&Region.binds .any e)=true→soleB l.length con k i=true→Lies l con listed k:=fun k hkl hk hone=>by
   obtain ⟨e,he,hek⟩:=aAu hk;simp only [Bool.and_eq_true,beq_iff_eq] at hek;have:=hdeps e he hek.2;rw [hek.1] at this;refine ⟨hkl,this,fun j hj hc=>?_⟩;rw [aHa hone hj hc];exact hunf
  have hD:DepP l v a0 con R L i o a W:=⟨fun k p d hk hp hd hone=>by
    have hL:=hlies k (List.getElem?_eq_some_iff.1 hp).1 hk hone;exact ⟨hf.yes k p d (by simpa using hp) hd hL.2.1,(hr k hL).1⟩,
   fun k p d hk hp hd=>by
    obtain ⟨e,he,hek⟩:=aAu hk;simp only [Bool.and_eq_true,beq_iff_eq] at hek;have:=hdeps e he hek.2;rw [hek.1] at this;exact ⟨hf.yes k p d (by simpa using hp) hd this,hlk k this (List.getElem?_eq_some_iff.1 hp).1⟩,
   fun f' d hlt'=>hf.no d fun k p hk hp=>by
    have hk':l[k]? =some p:=by simpa using hk
    have h5:=List.all_eq_true.1 hlt' k (List.mem_range.2 (List.getElem?_eq_some_iff.1 hk').1);rw [hk'] at h5;simp only [hp,bne_self_eq_false,Bool.false_or,Bool.or_eq_true,beq_iff_eq] at h5;rcases h5 with h5|h5
    ·rw [h5];exact hunf
    ·cases hlk:listed.getD k false with
     |false=>rfl
     |true=>
      have:=aA4 hcl f' k i h5 (fun o' ho' e he hb'=>hcl k o' ho' hlk e he hb');rw [hunf] at this;cases this⟩
  have hS:=StepsL.get hsteps hil;rw [Nat.zero_add] at hS;have hwait:∀j b,(j=i∨reachB l f j i=true)→G j b→W.heap[b]? =w.heap[b]? :=fun j b hj hg=>by
   refine hgk j b ?_ hg;rcases hj with rfl|hj
   ·exact hunf
   ·cases hlj:listed.getD j false with
    |false=>rfl
    |true=>
     have:=aA4 hcl f j i hj (fun o' ho' e he hbd=>hcl j o' ho' hlj e he hbd);rw [hunf] at this;cases this
  have hown:∀k,Lies l con listed k→∀b,O k (v k) W b→¬G i b:=fun k hL b hob hg=>by
   rcases ((hr k hL).2 b hob).2 with h|⟨j,hj,hgj⟩
   ·have:=hG1 i b hg;omega
   ·rw [hG2 j i b hgj hg,hunf] at hj;cases hj
  have hckl:∀k,k∈con i→k<l.length∧Lies l con listed k:=fun k hc=>by
   have hdep:=aC2 hcon hil hc;obtain ⟨e,he,hek⟩:=aAu hdep;simp only [Bool.and_eq_true,beq_iff_eq] at hek;have hon:=(aB2 hok hi).2.1 e he hek.2;exact ⟨by omega,hlies k (by omega) hdep (aD9 hcon hlt hc)⟩
  have htook:∀b,Took con O v W i b→∃k,Lies l con listed k∧k∈con i∧O k (v k) W b:=fun b ⟨k,hc,hob⟩=>⟨k,(hckl k hc).2,hc,hob⟩;have hZ:∀b,(Took con O v W i b∨G i b)→w.heap.size≤b∨GG G b:=fun b hz=>by
   rcases hz with ht|hg
   ·obtain ⟨k,hL,_,hob⟩:=htook b ht;rcases ((hr k hL).2 b hob).2 with h|⟨j,_,hgj⟩
    ·exact .inl h
    ·exact .inr ⟨j,hgj⟩
   ·exact .inr ⟨i,hg⟩
  refine hS a v W hD hb hwait K fun x W' hb' hx hlx hox=>?_;have hg:∀k,(listed.setIfInBounds i true).getD k false=if k=i then true else listed.getD k false:=fun k=>aAn _ _ _ hltl
  have hmono:∀k,listed.getD k false=true→(listed.setIfInBounds i true).getD k false=true:=fun k hk=>by
   rw [hg];split
   ·rfl
   ·exact hk
  have hold:∀k,Lies l con (listed.setIfInBounds i true) k→k≠i→Lies l con listed k∧k∉con i:=fun k hL e=>by
   have h2:=hL.2.1;rw [hg,if_neg e] at h2;refine ⟨⟨hL.1,h2,fun j hj hc=>?_⟩,fun hc=>?_⟩
   ·have h3:=hL.2.2 j hj hc;rw [hg] at h3;split at h3
    ·cases h3
    ·exact h3
   ·have h3:=hL.2.2 i hlt hc;rw [hg,if_pos rfl] at h3;cases h3
  have hnt:∀k,Lies l con listed k→k∉con i→∀b,O k (v k) W b→¬(Took con O v W i b∨G i b):=fun k hL hne b hob hz=>by
   rcases hz with ht|hgi
   ·obtain ⟨k',hL',hc,hob'⟩:=htook b ht;exact hdis k k' b hL hL' (fun e=>hne (e ▸ hc)) hob hob'
   ·exact hown k hL b hob hgi
  have hnew:∀k,Lies l con (listed.setIfInBounds i true) k→k≠i→R k (v k) W'∧∀b,O k (v k) W' b→O k (v k) W b:=fun k hL e=>by
   obtain ⟨hL',hne⟩:=hold k hL e;exact hR k _ _ W W' (hr k hL').1 hb hb' hZ (hnt k hL' hne)
  have:=hK (fun k=>if k=i then x else v k) W' (fun k hk=>by
   by_cases e:k=i
   ·rw [e,hunf] at hk;cases hk
   ·rw [if_neg e]) ⟨hb.trans hb' fun b hz=>(hZ b hz).symm,by simpa using hsz,fun k hL=>by
    by_cases e:k=i
    ·rw [if_pos e,e];refine ⟨hx,fun b hob=>⟨(hox b hob).1,?_⟩⟩;rcases (hox b hob).2 with h|h|h
     ·exact .inl (Nat.le_trans hb.size h)
     ·obtain ⟨k',hL',_,hob'⟩:=htook b h;rcases ((hr k' hL').2 b hob').2 with q|⟨j,hj,hgj⟩
      ·exact .inl q
      ·exact .inr ⟨j,hmono j hj,hgj⟩
     ·exact .inr ⟨i,by rw [hg,if_pos rfl],h⟩
    ·rw [if_neg e];obtain ⟨hL',hne⟩:=hold k hL e;obtain ⟨r1,r2⟩:=hr k hL';obtain ⟨n1,n2⟩:=hnew k hL e;refine ⟨n1,fun b hob=>⟨Nat.lt_of_lt_of_le (r2 b (n2 b hob)).1 hb'.size,?_⟩⟩;rcases (r2 b (n2 b hob)).2 with q|⟨j,hj,hgj⟩
     ·exact .inl q
     ·exact .inr ⟨j,hmono j hj,hgj⟩,fun j k b hj hk hjk h1 h2=>by
    by_cases ej:j=i
    ·by_cases ek:k=i
     ·exact hjk (ej.trans ek.symm)
     ·rw [if_pos ej] at h1;rw [if_neg ek] at h2;rw [ej] at h1;obtain ⟨hL',hne⟩:=hold k hk ek;have h2:=(hnew k hk ek).2 b h2;rcases (hox b h1).2 with h|h
      ·have:=((hr k hL').2 b h2).1;omega
      ·exact hnt k hL' hne b h2 h
    ·rw [if_neg ej] at h1;obtain ⟨hL',hne⟩:=hold j hj ej;have h1:=(hnew j hj ej).2 b h1;by_cases ek:k=i
     ·rw [if_pos ek,ek] at h2;rcases (hox b h2).2 with h|h
      ·have:=((hr j hL').2 b h1).1;omega
      ·exact hnt j hL' hne b h1 h
     ·rw [if_neg ek] at h2;have h2:=(hnew k hk ek).2 b h2;exact hdis j k b hL' (hold k hk ek).1 hjk h1 h2,fun j hj hjl=>by
    have hki:∀k,k∈con j→k≠i:=fun k hc e=>by
     have hdep:=aC2 hcon (List.getElem?_eq_getElem hjl) hc;obtain ⟨e1,he,hek⟩:=aAu hdep;simp only [Bool.and_eq_true,beq_iff_eq] at hek;by_cases ej:j=i
     ·subst ej;have hjo:l[j]? =some l[j]:=List.getElem?_eq_getElem hjl;rw [hil] at hjo;injection hjo with hjo;have:=hdeps e1 (hjo ▸ he) hek.2;rw [hek.1,e,hunf] at this;cases this
     ·rw [hg,if_neg ej] at hj;have:=hcl j _ (List.getElem?_eq_getElem hjl) hj e1 he hek.2;rw [hek.1,e,hunf] at this;cases this
    by_cases ej:j=i
    ·subst ej;rw [if_pos rfl];exact hL j v _ x (fun k hk=>if_neg (hki k hk)) hlx
    ·rw [hg,if_neg ej] at hj;rw [if_neg ej];exact hL j v _ (v j) (fun k hk=>if_neg (hki k hk)) (hlk j hj hjl),fun j o' hj' hj e1 he hbd=>by
    rw [hg];by_cases eon:e1.on=i
    ·rw [if_pos eon]
    ·rw [if_neg eon];by_cases ej:j=i
     ·subst ej;rw [hil] at hj';injection hj' with hj';subst hj';exact hdeps e1 he hbd
     ·rw [hg,if_neg ej] at hj;exact hcl j o' hj' hj e1 he hbd,fun j b hj hgj=>by
    rw [hg] at hj;split at hj
    ·cases hj
    ·next ej=>
     rw [←hgk j b hj hgj];refine hb'.block b (Nat.lt_of_lt_of_le (hG1 j b hgj) hb.size) fun hz=>?_;rcases hz with ht|hgi
     ·obtain ⟨k',hL',_,hob'⟩:=htook b ht;rcases ((hr k' hL').2 b hob').2 with q|⟨j',hj',hgj'⟩
      ·have:=hG1 j b hgj;omega
      ·rw [hG2 j' j b hgj' hgj,hj] at hj';cases hj'
     ·exact ej (hG2 i j b hgi hgj).symm⟩
  rwa [if_pos rfl] at this
 ·intro v listed W hall hC;obtain ⟨hb,_,hr,_,hlk,_,_⟩:=hC;have:=hend v W hb (fun k hk hc=>(hr k ⟨hk,hall k (by simpa using hk),fun j hj h=>absurd h (hc j hj)⟩).1) fun i hi=>hlk i (hall i (by simpa using hi)) hi;rw [←hF v] at this;simpa using this
end
end Go.Proofs.YtgjmbbkcgillcaaGreat.PhaseP
namespace Go.Proofs.YtgjmbbkcgillcaaGreat.PhaseG
open Go.RowKit
open Disk (Out)
theorem aBw {w w':World} {base size:Nat} {e:TypeId} {x:Value} {n:Nat} {xs:List Value} {Z:Nat→Prop} (h:w.ownsRow base e size x n xs) (ho:Out Z w w') (hz:∀b,x.ownBlock=some b→¬Z b):w'.ownsRow base e size x n xs:=
 ⟨h.1,by
  rcases h.2 with h1|⟨g,cap,cur,e1,e2,hh,r⟩
  ·exact .inl h1
  ·exact .inr ⟨g,cap,cur,e1,e2,(ho.block g (Array.getElem?_eq_some_iff.1 hh).1 (hz g (by rw [e1];rfl))).trans hh,r⟩⟩
theorem aFv {w w':World} {base size:Nat} {e:TypeId} {x:Value} {n:Nat} {xs:List Value} (h:w.ownsRow base e size x n xs) (hz:∀b,x.ownBlock=some b→w'.heap[b]? =w.heap[b]?):w'.ownsRow base e size x n xs:=
 ⟨h.1,by
  rcases h.2 with h1|⟨g,cap,cur,e1,e2,hh,r⟩
  ·exact .inl h1
  ·exact .inr ⟨g,cap,cur,e1,e2,(hz g (by rw [e1];rfl)).trans hh,r⟩⟩
theorem aAx {w:World} {base size:Nat} {e:TypeId} {x:Value} {n:Nat} {xs:List Value} (h:w.ownsRow base e size x n xs) {b:Nat} (hb:x.ownBlock=some b):base≤b∧b<w.heap.size:=by
 rcases h.2 with ⟨rfl,_⟩|⟨g,cap,cur,rfl,e2,hh,r⟩
 ·simp [Value.ownBlock] at hb
 ·simp [Value.ownBlock] at hb;subst hb;exact ⟨e2,(Array.getElem?_eq_some_iff.1 hh).1⟩
theorem aAq {w:World} {base size:Nat} {e:TypeId} {x:Value} {n:Nat} {xs:List Value} (h:w.ownsRow base e size x n xs):∃A c,x=.slice A n c∧n≤c:=by
 rcases h.2 with ⟨rfl,h0⟩|⟨g,cap,cur,rfl,_,_,hnc,_⟩
 ·exact ⟨none,0,by rw [h0],by omega⟩
 ·exact ⟨_,_,rfl,hnc⟩
theorem aG9 {P:Program} {w:World} {t ty e:TypeId} {i:TypeInfo} {z:Value} (ht:P.underlying t=some (.slice e)) (hi:P.info? e=some i) (hz:i.zero=some z) (hs:i.size=1) (hb:i.bytes=1) (hzs:z.cells.size=1)
  {base:Nat} {v:Value} {n:Nat} {xs:List Value} (hown:w.ownsRow base e 1 v n xs) {A:Option Addr} {m:Nat} {bs:List UInt8} (h:Rd w A m bs) (c:Nat) (hm:n+m≤140737488355328) (hbase:base≤w.heap.size):
  ∃v' w',(Builtin.append_ #[t,t] ty #[v,.slice A m c]).run P w=.ok v' w'∧w'.ownsRow base e 1 v' (n+m) (xs++bs.map U)∧w.grownBy w' v.ownBlock∧∀b,v'.ownBlock=some b→v.ownBlock=some b∨w.heap.size≤b:=by
 have hl:=h.len;cases A with
 |some ad=>
  obtain ⟨v',w',h1,h2,h3,_,h5⟩:=run_append_own_at (P:=P) (w:=w) base t ty e i z 1 1 ht hi hz hs hb hzs (by decide) v n xs hown ad m c (bs.map U) (by simp [hl]) (fun j u hu=>by
   rw [List.getElem?_map] at hu;cases hb:bs[j]? with
   |none=>rw [hb] at hu;cases hu
   |some b=>
    rw [hb] at hu;injection hu with hu;subst hu;obtain ⟨ad',e',hc⟩:=h.cells (by have:=(List.getElem?_eq_some_iff.1 hb).1;omega);injection e' with e';subst e';exact hc j b hb) (aM9 bs) (by unfold maxLen;omega) (by omega) hbase
  refine ⟨v',w',h1,h2,h3,fun b hb=>?_⟩;rcases h5 with h5|h5
  ·exact .inl (h5 ▸ hb)
  ·rw [h5] at hb;injection hb with hb;exact .inr (by omega)
 |none=>
  have hm0:m=0:=by
   rcases Nat.eq_zero_or_pos m with h0|h0
   ·exact h0
   ·obtain ⟨_,e',_⟩:=h.cells h0;cases e'
  subst hm0;obtain ⟨v',w',h1,h2,h3⟩:=aG3 (P:=P) (ty:=ty) ht hi hz hs hb hzs hown h c hm hbase;have hb0:bs=[]:=List.eq_nil_of_length_eq_zero hl;subst hb0;refine ⟨v,w,?_,by simpa using hown,⟨rfl,rfl,rfl,Nat.le_refl _,fun _ _ _=>rfl⟩,fun b hb=>.inl hb⟩;rcases hown.2 with ⟨rfl,rfl⟩|⟨g,cap,cur,rfl,_,_,hnc,_⟩
  ·simp [Builtin.append_,run_underlying ht,sizeOf,typeInfo,hi,Builtin.lenOf,Builtin.firstCells]
  ·simp [Builtin.append_,run_underlying ht,sizeOf,typeInfo,hi,Builtin.lenOf,Builtin.firstCells,hnc,storeCells]
theorem aC4 {P:Program} {w w':World} {o:Oper} {a:Act} {K:Act→World→Prop} {Q:Exit→Act→World→Prop} (s x:Operand) (t:TypeId) (ho:o.op=.call {callee:=.builtin .append,args:=#[s,x],argTypes:=#[t,t]}) {v u r:Value} (hs:a.eval s=v) (hx:a.eval x=u) (hr:(Builtin.append_ #[t,t] o.type #[v,u]).run P w=.ok r w') (h:K (a.put o.dst r) w'):o.wp P a w K Q:=by
 unfold Oper.wp execOp;simp only [ho,resolve,invoke,builtin,Sem.run_bind,Sem.run_pure,Result.andThen_ok,List.map_toArray,List.map_cons,List.map_nil,hs,hx,hr];exact h
theorem aAc {w w':World} {row:Option Nat} (h:w.grownBy w' row):Out (fun b=>row=some b) w w':=
 ⟨h.os,h.tape,h.output,h.size,fun k hk hX=>h.block k hk (fun e=>hX e.symm)⟩
end Go.Proofs.YtgjmbbkcgillcaaGreat.PhaseG
namespace Go.Proofs.YtgjmbbkcgillcaaGreat.Zm
open Go.RowKit Disk Log Sto
open PhaseG (aFv aBw aAx aAq)
open PhaseP (GG)
def Keeps (RD:World→Prop) (r:Nat) (K:Nat→Prop):Prop:=∀(Z:Nat→Prop) (W W':World),RD W→Out Z W W'→¬Z r→(∀b,K b→¬Z b)→RD W'
theorem aDn (Q:Nat→Prop) (r:Nat) (s:List UInt8×Bool):Keeps (fun W=>RdrQ Q W r s) r Q:=fun _ _ _ h ho hr hq=>h.out ho hr hq
def TX (RD:World→Prop) (B:Nat) (t:List UInt8) (y:Value) (W:World):Prop:=W.ownsRow B 5 1 y t.length (t.map U)∧RD W
def OT (r:Nat) (y:Value) (b:Nat):Prop:=b=r∨y.ownBlock=some b
theorem TX.out {RD:World→Prop} {B:Nat} {t:List UInt8} {y:Value} {r:Nat} {K:Nat→Prop} (hk:Keeps RD r K) {W W':World} {Z:Nat→Prop} (h:TX RD B t y W) (ho:Out Z W W') (hK:∀b,K b→¬Z b) (hn:∀b,OT r y b→¬Z b):TX RD B t y W':=
 ⟨aBw h.1 ho fun b hb=>hn b (.inr hb),hk Z W W' h.2 ho (hn r (.inl rfl)) hK⟩
def One (RD:World→Prop) (B:Nat) (e:Nat) (t:List UInt8) (x:Value) (W:World):Prop:=∃nb y,x=.slice (some ⟨nb,0,none⟩) 1 1∧Bk W nb 65 #[.int .u64 (e:Int),y]∧TX RD B t y W
def OOne (r:Nat) (x:Value) (W:World) (b:Nat):Prop:=b=r∨∃nb,x=.slice (some ⟨nb,0,none⟩) 1 1∧(b=nb∨∃y,W.cell? ⟨nb,1,none⟩=some y∧y.ownBlock=some b)
theorem One.out {RD:World→Prop} {B e:Nat} {t:List UInt8} {x:Value} {r:Nat} {K:Nat→Prop} (hk:Keeps RD r K) {W W':World} {Z:Nat→Prop} (h:One RD B e t x W) (ho:Out Z W W') (hK:∀b,K b→¬Z b) (hn:∀b,OOne r x W b→¬Z b):One RD B e t x W'∧∀b,OOne r x W' b→OOne r x W b:=by
 obtain ⟨nb,y,rfl,hb,ht⟩:=h;have hc:W.cell? ⟨nb,1,none⟩=some y:=hb.cell 1;have hnb:¬Z nb:=hn nb (.inr ⟨nb,rfl,.inl rfl⟩);have hb':=hb.kept (ho.block nb hb.lt hnb);have hc':W'.cell? ⟨nb,1,none⟩=some y:=hb'.cell 1;refine ⟨⟨nb,y,rfl,hb',ht.out hk ho hK fun b hob=>hn b (hob.elim .inl fun q=>.inr ⟨nb,rfl,.inr ⟨y,hc,q⟩⟩)⟩,fun b hob=>?_⟩;rcases hob with h|⟨nb',e1,h⟩
 ·exact .inl h
 ·injection e1 with e1;injection e1 with e1;injection e1 with e1;subst e1;refine .inr ⟨nb,rfl,h.imp id ?_⟩;rintro ⟨y',h1,h2⟩;rw [hc'] at h1;injection h1 with h1;subst h1;exact ⟨y,hc,h2⟩
def RowT (RD:World→Prop) (B e k:Nat) (t:List UInt8) (cs:List Value) (x:Value) (W:World):Prop:=∃g cap y,x=.slice (some ⟨g,0,none⟩) (k+1) cap∧W.ownsRow B 65 2 x (k+1) (cs++[.int .u64 (e:Int),y])∧TX RD B t y W
def ORow (r k:Nat) (x:Value) (W:World) (b:Nat):Prop:=b=r∨∃g cap,x=.slice (some ⟨g,0,none⟩) (k+1) cap∧(b=g∨∃y,W.cell? ⟨g,2*k+1,none⟩=some y∧y.ownBlock=some b)
theorem aE3 {B k e:Nat} {cs:List Value} {g cap:Nat} {y:Value} {W:World} (h:W.ownsRow B 65 2 (.slice (some ⟨g,0,none⟩) (k+1) cap) (k+1) (cs++[.int .u64 (e:Int),y])) (hc:cs.length=2*k):W.cell? ⟨g,2*k+1,none⟩=some y:=by
 have:=h.cells (g:=g) rfl (2*k+1) y (by rw [List.getElem?_append_right (by omega),hc];simp);rwa [aBj] at this
theorem RowT.out {RD:World→Prop} {B e k:Nat} {t:List UInt8} {cs:List Value} {x:Value} {r:Nat} {K:Nat→Prop} (hk:Keeps RD r K) (hcs:cs.length=2*k) {W W':World} {Z:Nat→Prop} (h:RowT RD B e k t cs x W) (ho:Out Z W W') (hK:∀b,K b→¬Z b) (hn:∀b,ORow r k x W b→¬Z b):RowT RD B e k t cs x W'∧∀b,ORow r k x W' b→ORow r k x W b:=by
 obtain ⟨g,cap,y,rfl,hb,ht⟩:=h;have hc:=aE3 hb hcs;have hg:¬Z g:=hn g (.inr ⟨g,cap,rfl,.inl rfl⟩);have hb':=aBw hb ho fun b hob=>by injection hob with hob;subst hob;exact hg
 have hc':=aE3 hb' hcs;refine ⟨⟨g,cap,y,rfl,hb',ht.out hk ho hK fun b hob=>hn b (hob.elim .inl fun q=>.inr ⟨g,cap,rfl,.inr ⟨y,hc,q⟩⟩)⟩,fun b hob=>?_⟩;rcases hob with h|⟨g',cap',e1,h⟩
 ·exact .inl h
 ·injection e1 with e1 _ e3;injection e1 with e1;injection e1 with e1;subst e1;subst e3;refine .inr ⟨g,cap,rfl,h.imp id ?_⟩;rintro ⟨y',h1,h2⟩;rw [hc'] at h1;injection h1 with h1;subst h1;exact ⟨y,hc,h2⟩
theorem aSc {B B':Nat} {w:World} {vs:List Value} {bs:List (List UInt8)} (h:Fresh B w vs bs) (hb:B'≤B):Fresh B' w vs bs:=
 ⟨h.len,fun j b hj=>by
  obtain ⟨A,n,c,h1,h2⟩:=h.at_ j b hj;exact ⟨A,n,c,h1,aAh h2 hb⟩⟩
theorem aN8 {B:Nat} {w w':World} {vs:List Value} {bs:List (List UInt8)} (h:Fresh B w vs bs) {X:Nat→Prop} (ho:Out X w w') (hX:∀b,X b→b<B∨∃T c fz,T≠5∧w.heap[b]? =some (.cells c T fz)):Fresh B w' vs bs:=
 ⟨h.len,fun j b hj=>by
  obtain ⟨A,n,c,h1,h2⟩:=h.at_ j b hj;refine ⟨A,n,c,h1,aBw h2 ho fun k hk hx=>?_⟩;rcases hX k hx with q|⟨T,c2,f2,hT,q⟩
  ·have:=(aAx h2 hk).1;omega
  ·obtain ⟨c1,f1,q1⟩:=Lib.ownsRow_kind h2 k hk;rw [q1] at q;injection q with q;injection q with _ q3;exact hT q3.symm⟩
end Go.Proofs.YtgjmbbkcgillcaaGreat.Zm
