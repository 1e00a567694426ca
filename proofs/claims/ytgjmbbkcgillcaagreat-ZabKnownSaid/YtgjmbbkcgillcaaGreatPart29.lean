/- Lemmas, part 29: BalMore, ZabPure, ZabOuts, SmallMap, BkStore, StoKeeps, StoNils, ZabMem -/
import Derived.Test.YtgjmbbkcgillcaaGreatPart28
import Derived.Test.YtgjmbbkcgillcaaGreatPart7
import Derived.Test.YtgjmbbkcgillcaaGreatPart21
import Derived.Deep.AppendLies
import Derived.Test.YtgjmbbkcgillcaaGreatPart1
import Derived.Maps.Own
import Derived.Maps.Keyed
import Derived.Maps.Views
import Derived.Maps.RangeWalk
import Derived.Test.YtgjmbbkcgillcaaGreatPart10
import Derived.Test.YtgjmbbkcgillcaaGreatPart4
import Derived.Lib.Hide
import Derived.Lib.SlBytesConst
import Derived.WalkSpells
import Derived.Deep.AppendSrc
import Derived.ArgAppend
set_option maxHeartbeats 16000000
namespace Go.Proofs.YtgjmbbkcgillcaaGreat.Bal
theorem aY2 {a i n:Nat} (hi:i<n):next a i n=if i≤a % n then a - a % n+i+n else a - a % n+i:=by
 have h2:=Nat.div_add_mod a n;have h1:=Nat.mod_lt a (show 0<n by omega);have e:a - a % n=n*(a / n):=by omega
 symm
 split
 ·next h=>
  refine aNa hi ⟨by omega,by omega⟩ ?_;rw [e,Nat.add_mod_right,Nat.mul_add_mod,Nat.mod_eq_of_lt hi]
 ·next h=>
  refine aNa hi ⟨by omega,by omega⟩ ?_;rw [e,Nat.mul_add_mod,Nat.mod_eq_of_lt hi]
theorem Has.falling {l s:List Int} (hp:s.Perm l) (hs:s.Pairwise (fun x y=>y≤x)) (h0:l≠[]):∃c,s[quorum s.length - 1]? =some c∧Has l c:=by
 have hlen:0<l.length:=List.length_pos_iff.2 h0;have hsl:s.length=l.length:=hp.length_eq;obtain ⟨c,h1,h2⟩:=Has.sorted (s:=s.reverse) ((List.reverse_perm s).trans hp) (List.pairwise_reverse.2 hs) h0;refine ⟨c,?_,h2⟩;rw [List.length_reverse] at h1;have hq:quorum s.length≤s.length∧0<quorum s.length:=by unfold quorum;omega
 rw [List.getElem?_reverse (by omega)] at h1;rw [←h1]
 congr 1
 omega
def best (l:List Int):Int:=((l.mergeSort fun x y=>decide (y≤x))[l.length / 2]?).getD 0
theorem falls (l:List Int):(l.mergeSort fun x y=>decide (y≤x)).Pairwise (fun x y=>y≤x):=by
 have:=List.pairwise_mergeSort (le:=fun x y:Int=>decide (y≤x)) (fun a b c h1 h2=>by simp at*;omega) (fun a b=>by simp;omega) l;exact this.imp fun h=>by simpa using h
theorem aVw {l:List Int} (h0:l≠[]):(l.mergeSort fun x y=>decide (y≤x))[l.length / 2]? =some (best l):=by
 have hlen:0<l.length:=List.length_pos_iff.2 h0;have:l.length / 2<(l.mergeSort fun x y=>decide (y≤x)).length:=by rw [List.length_mergeSort];omega
 unfold best;rw [List.getElem?_eq_getElem this];rfl
theorem aYe {l:List Int} (h0:l≠[]):Has l (best l):=by
 obtain ⟨c,h1,h2⟩:=Has.falling (List.mergeSort_perm l (fun x y=>decide (y≤x))) (falls l) h0;have e:quorum (l.mergeSort fun x y=>decide (y≤x)).length - 1=l.length / 2:=by rw [List.length_mergeSort];unfold quorum;omega
 rw [e,aVw h0] at h1;injection h1 with h1;rw [h1];exact h2
theorem aXo:best []=0:=by simp [best]
end Go.Proofs.YtgjmbbkcgillcaaGreat.Bal
namespace Go.Proofs.YtgjmbbkcgillcaaGreat.Zab
open Go.RowKit Disk Log Sto Zm Bal
inductive Role where
 |follow
 |stand (e:Nat)
 |lead (e base:Nat) (acked:Nat→Option Nat) (ready:Bool)
structure Zn where
 id:Nat
 n:Nat
 p:Nat
 k:Kp
 role:Role
 seen:Nat
 waited:Nat
 com:Nat
structure Tl where
 to:Nat
 m:Mg
def stM (e:Nat):Mg:=⟨1,e,0,0,0,[]⟩
def prM (e c:Nat) (l:List Ln):Mg:=⟨2,e,c,0,0,l⟩
def reM (e:Nat):Mg:=⟨3,e,0,0,0,[]⟩
def adM (e:Nat) (l:List Ln):Mg:=⟨4,e,0,0,0,l⟩
def apM (e a c:Nat) (l:List Ln):Mg:=⟨5,e,0,(a:Int),(c:Int),l⟩
def akM (e a:Nat):Mg:=⟨6,e,0,(a:Int),0,[]⟩
def oth (id n:Nat):List Nat:=(List.range n).filter (·≠id)
def others (id n:Nat) (f:Nat→Mg):List Tl:=(oth id n).map fun i=>⟨i,f i⟩
def matchL (id n len:Nat) (acked:Nat→Option Nat):List Int:=(List.range n).map fun i=>if i=id then (len:Int) else match acked i with|some a=>(a:Int)|none=> -1
def aDb (id n len:Nat) (acked:Nat→Option Nat):Int:=best (matchL id n len acked)
def Zn.follow (z:Zn):Zn:={z with role:=.follow,waited:=0}
def Zn.count (z:Zn) (e base:Nat) (acked:Nat→Option Nat) (ready:Bool):Zn:=
 if (base:Int)≤aDb z.id z.n z.k.lines.length acked then {z with role:=.lead e base acked true,com:=max z.com (aDb z.id z.n z.k.lines.length acked).toNat}
 else {z with role:=.lead e base acked ready}
def remM (z:Zn) (e:Nat) (acked:Nat→Option Nat) (i:Nat):Mg:=match acked i with|none=>adM e z.k.lines|some a=>apM e a z.com (z.k.lines.drop a)
def remind (z:Zn) (e:Nat) (acked:Nat→Option Nat):List Tl:=others z.id z.n (remM z e acked)
def none_:Nat→Option Nat:=fun _=>none
def Zn.lead (z:Zn) (e:Nat) (l:List Ln):Zn×List Tl:=
 if ans (.adopt e l) z.k z.p=0 then
  let z1:Zn:=({z with k:=thn (.adopt e l) z.k z.p,com:=min z.com l.length}:Zn).count e l.length none_ false
  (z1,remind z1 e none_)
 else (z.follow,[])
def Zn.nextE (z:Zn):Nat:=next (max z.k.promised z.seen) z.id z.n
def Zn.stand (z:Zn):Zn×List Tl:=
 if ans (.prom z.nextE) z.k z.p=0 then
  let z1:Zn:={z with k:=thn (.prom z.nextE) z.k z.p,role:=.stand z.nextE,waited:=0}
  if z.n=1 then let r:=z1.lead z.nextE z.k.lines;(r.1,others z.id z.n (fun _=>stM z.nextE)++r.2)
  else (z1,others z.id z.n fun _=>stM z.nextE)
 else (z,[])
def Zn.tick (z:Zn):Zn×List Tl:=match z.role with
 |.lead e _ acked _=>(z,remind z e acked)
 |_=>if z.waited+1≤3+2*z.id then ({z with waited:=z.waited+1},[]) else ({z with waited:=z.waited+1}:Zn).stand
def bestOf (c1:Nat) (l1:List Ln) (c2:Nat) (l2:List Ln):List Ln:=if c1<c2∨(c2=c1∧l1.length<l2.length) then l2 else l1
def one (i:Nat) (m:Mg):List Tl:=[⟨i,m⟩]
def Zn.hearStand (z:Zn) (i:Nat) (m:Mg):Zn×List Tl:=
 if m.epoch % z.n≠i then (z,[]) else
 if m.epoch≤z.k.promised then (z,one i (reM z.k.promised)) else
 if ans (.prom m.epoch) z.k z.p=0 then (({z with k:=thn (.prom m.epoch) z.k z.p}:Zn).follow,one i (prM m.epoch z.k.current z.k.lines)) else (z,[])
def Zn.hearPromise (z:Zn) (i:Nat) (m:Mg):Zn×List Tl:=match z.role with
 |.stand e=>if m.epoch≠e∨e≤m.current then (z,[]) else z.lead e (if z.id<i then bestOf z.k.current z.k.lines m.current m.lines else bestOf m.current m.lines z.k.current z.k.lines)
 |_=>(z,[])
def Zn.hearRefuse (z:Zn) (m:Mg):Zn×List Tl:=match z.role with
 |.stand e=>(if e<m.epoch then z.follow else z,[])
 |.lead e _ _ _=>(if e<m.epoch then z.follow else z,[])
 |.follow=>(z,[])
def Zn.hearAdopt (z:Zn) (i:Nat) (m:Mg):Zn×List Tl:=
 if m.epoch % z.n≠i then (z,[]) else
 if m.epoch<z.k.promised then (z,one i (reM z.k.promised)) else
 if m.epoch=z.k.current then ({z.follow with com:=min z.com z.k.lines.length},one i (akM m.epoch z.k.lines.length)) else
 if ans (.adopt m.epoch m.lines) z.k z.p=0 then ({z.follow with k:=thn (.adopt m.epoch m.lines) z.k z.p,com:=min z.com m.lines.length},one i (akM m.epoch m.lines.length)) else (z,[])
def Zn.hearAppend (z:Zn) (i:Nat) (m:Mg):Zn×List Tl:=
 if m.epoch % z.n≠i then (z,[]) else
 if m.epoch<z.k.promised then (z,one i (reM z.k.promised)) else
 if m.epoch≠z.k.promised∨m.epoch≠z.k.current then (z,[]) else
 if z.k.lines.length<m.at_.toNat then (z.follow,[]) else
 let f:=m.lines.drop (z.k.lines.length - m.at_.toNat)
 if f=[] then ({z.follow with com:=max z.com (min m.commit.toNat z.k.lines.length)},one i (akM m.epoch z.k.lines.length)) else
 if ans (.add f) z.k z.p=0 then ({z.follow with k:=thn (.add f) z.k z.p,com:=max z.com (min m.commit.toNat (z.k.lines.length+f.length))},one i (akM m.epoch (z.k.lines.length+f.length))) else (z.follow,[])
def setA (acked:Nat→Option Nat) (i a:Nat):Nat→Option Nat:=fun j=>if j=i then some a else acked j
def Zn.hearAck (z:Zn) (i:Nat) (m:Mg):Zn×List Tl:=match z.role with
 |.lead e base acked ready=>if m.epoch≠e then (z,[]) else (z.count e base (setA acked i (max ((acked i).getD 0) (min m.at_.toNat z.k.lines.length))) ready,[])
 |_=>(z,[])
def Zn.heard (z:Zn) (i:Nat) (m:Mg):Zn×List Tl:=
 let z1:={z with seen:=max z.seen m.epoch}
 if m.kind=1 then z1.hearStand i m else if m.kind=2 then z1.hearPromise i m else if m.kind=3 then z1.hearRefuse m
 else if m.kind=4 then z1.hearAdopt i m else if m.kind=5 then z1.hearAppend i m else z1.hearAck i m
def Zn.hear (z:Zn) (i:Int) (b:List UInt8):Zn×List Tl:=
 if i<0∨(z.n:Int)≤i∨i=(z.id:Int) then (z,[]) else if getOk b then z.heard i.toNat (said b) else (z,[])
def Zn.leads (z:Zn):Bool:=match z.role with|.lead _ _ _ r=>r|_=>false
def Zn.propose (z:Zn) (b:List UInt8):Zn×Int:=
 if b.length<1∨4096<b.length then (z,1) else
 match z.role with
 |.lead e base acked true=>if 256≤z.k.lines.length then (z,4) else
  if ans (.add [⟨e,b⟩]) z.k z.p=0 then (({z with k:=thn (.add [⟨e,b⟩]) z.k z.p}:Zn).count e base acked true,0) else (z,ans (.add [⟨e,b⟩]) z.k z.p)
 |_=>(z,64)
structure Zn.Ok (z:Zn):Prop where
 n1:1≤z.n
 n3:z.n≤3
 id:z.id<z.n
 fine:Fine z.k
 seen:z.seen≤top
 com:z.com≤z.k.lines.length
 role:match z.role with
  |.follow=>True
  |.stand e=>z.k.promised=e∧e % z.n=z.id∧z.k.current<e∧1<z.n
  |.lead e base acked _=>z.k.promised=e∧z.k.current=e∧e % z.n=z.id∧base≤z.k.lines.length∧∀i a,acked i=some a→i<z.n∧i≠z.id∧a≤z.k.lines.length
end Go.Proofs.YtgjmbbkcgillcaaGreat.Zab
namespace Go.Proofs.YtgjmbbkcgillcaaGreat.Zab
open Go.RowKit Disk Log Sto
structure Ob where
 to:Nat
 bytes:List UInt8
structure ObS (P:Nat→Prop) (w:World) (A:Option Addr) (n:Nat) (ls:List Ob):Prop where
 len:ls.length=n
 at_:∀(j:Nat) (x:Ob),ls[j]? =some x→∃b o B m c,A=some ⟨b,o,none⟩∧P b∧w.cell? ⟨b,o+j*2,none⟩=some (.int .i64 (x.to:Int))∧w.cell? ⟨b,o+j*2+1,none⟩=some (.slice B m c)∧m≤c∧Rd w B m x.bytes∧∀b,B=some b→1≤m→P b.block
theorem ObS.out {P X:Nat→Prop} {w w':World} {A:Option Addr} {n:Nat} {ls:List Ob} (h:ObS P w A n ls) (ho:Out X w w') (hx:∀k,P k→¬X k):ObS P w' A n ls:=
 ⟨h.len,fun j x hj=>by
  obtain ⟨b,o,B,m,c,h1,h2,h3,h4,h5,h6,h7⟩:=h.at_ j x hj;have hk:∀i v,w.cell? ⟨b,i,none⟩=some v→w'.cell? ⟨b,i,none⟩=some v:=fun i v hv=>
   (ho.cell (World.block_lt_of_cell? w _ hv) (hx _ h2)).trans hv
  exact ⟨b,o,B,m,c,h1,h2,hk _ _ h3,hk _ _ h4,h5,aHd h6 ho (fun a ha h0=>hx _ (h7 a ha h0)),h7⟩⟩
def obC (x:Ob) (v:Value):List Value:=[.int .i64 (x.to:Int),v]
def obsC:List Ob→List Value→List Value
 |x::ls,v::vs=>obC x v++obsC ls vs
 |_,_=>[]
theorem aFh:∀(ls:List Ob) (vs:List Value),ls.length=vs.length→(obsC ls vs).length=2*ls.length
 |[],[],_=>rfl
 |x::ls,v::vs,h=>by
  have:=aFh ls vs (by simpa using h);rw [obsC,List.length_append,this,List.length_cons];show 2+_=_;omega
theorem aJt:∀(ls:List Ob) (vs:List Value) (ms:List Ob) (us:List Value),ls.length=vs.length→obsC (ls++ms) (vs++us)=obsC ls vs++obsC ms us
 |[],[],ms,us,_=>rfl
 |x::ls,v::vs,ms,us,h=>by
  rw [List.cons_append,List.cons_append,obsC,aJt ls vs ms us (by simpa using h),obsC,List.append_assoc]
theorem aHi:∀(ls:List Ob) (vs:List Value) (j i:Nat) (x:Ob) (v:Value),ls[j]? =some x→vs[j]? =some v→i<2→(obsC ls vs)[2*j+i]? =(obC x v)[i]?
 |[],_,j,i,x,v,h,_,_=>by simp at h
 |_::_,[],j,i,x,v,_,h,_=>by simp at h
 |y::ls,u::vs,0,i,x,v,h1,h2,hi=>by
  simp at h1 h2;subst h1 h2;rw [obsC,Nat.mul_zero,Nat.zero_add,List.getElem?_append_left (by exact hi)]
 |y::ls,u::vs,j+1,i,x,v,h1,h2,hi=>by
  rw [obsC,List.getElem?_append_right (by show 2≤_;omega)];have:2*(j+1)+i - (obC y u).length=2*j+i:=by show 2*(j+1)+i - 2=_;omega
  rw [this];exact aHi ls vs j i x v (by simpa using h1) (by simpa using h2) hi
theorem bB4 (x:Ob) {v:Value} (h:v.oneCell'=true):∀u∈obC x v,u.oneCell'=true:=by
 intro u hu;rcases List.mem_cons.1 hu with rfl|hu
 ·rfl
 ·rw [List.mem_singleton.1 hu];exact h
def OwnO (base:Nat) (w:World) (v:Value) (ls:List Ob):Prop:=
 ∃xs,w.ownsRow base 76 2 v ls.length (obsC ls xs)∧Fresh base w xs (ls.map (·.bytes))
theorem OwnO.nil_ (base:Nat) (w:World):OwnO base w (.slice none 0 0) []:=⟨[],⟨rfl,.inl ⟨rfl,rfl⟩⟩,⟨rfl,fun j b hj=>by simp at hj⟩⟩
theorem OwnO.form {base:Nat} {w:World} {v:Value} {ls:List Ob} (h:OwnO base w v ls):∃A c,v=.slice A ls.length c∧ls.length≤c∧∀a,A=some a→base≤a.block∧a.block<w.heap.size:=by
 obtain ⟨xs,hown,_⟩:=h;rcases hown.2 with ⟨rfl,h0⟩|⟨g,cap,cur,rfl,hg,hh,hnc,_⟩
 ·exact ⟨none,0,by rw [h0],by omega,fun a ha=>by cases ha⟩
 ·exact ⟨_,_,rfl,hnc,fun a ha=>by injection ha with ha;subst ha;exact ⟨hg,(Array.getElem?_eq_some_iff.1 hh).1⟩⟩
theorem OwnO.lns {base:Nat} {w:World} {A:Option Addr} {n c:Nat} {ls:List Ob} (h:OwnO base w (.slice A n c) ls):ObS (fun k=>base≤k∧k<w.heap.size) w A ls.length ls:=by
 obtain ⟨xs,hown,hf⟩:=h;refine ⟨rfl,fun j x hj=>?_⟩;obtain ⟨B,m,c2,h1,h2⟩:=hf.at_ j x.bytes (by rw [List.getElem?_map,hj];rfl);have g0:=aHi ls xs j 0 x _ hj h1 (by omega);have g1:=aHi ls xs j 1 x _ hj h1 (by omega);have hjl:=(List.getElem?_eq_some_iff.1 hj).1;rcases hown.2 with ⟨_,h0⟩|⟨g,cap,cur,e,hg,hh,_⟩
 ·omega
 ·injection e with e;subst e;refine ⟨g,0,B,m,c2,rfl,⟨hg,(Array.getElem?_eq_some_iff.1 hh).1⟩,?_,?_,aRb h2,(Rd.of_own h2).1,fun b hb _=>h2.lt b.block (by subst hb;rfl)⟩
  ·have:=hown.cells (g:=g) rfl _ _ g0;rw [aBj] at this;rw [show 0+j*2=2*j+0 from by omega];exact this
  ·have:=hown.cells (g:=g) rfl _ _ g1;rw [aBj] at this;rw [show 0+j*2+1=2*j+1 from by omega];exact this
theorem aQu:(Tryz.prog.info? 76).map (fun i=>(i.zero,i.size,i.bytes))=some (some (.agg #[.int .i64 0,.slice none 0 0]),2,32):=by kernel_rfl
theorem aJf {w:World} {B C:Nat} {e:TypeId} {size n:Nat} {v:Value} {xs:List Value} (h:w.ownsRow B e size v n xs) (hc:C≤B):w.ownsRow C e size v n xs:=
 ⟨h.1,h.2.imp id fun ⟨g,cap,cur,e1,e2,r⟩=>⟨g,cap,cur,e1,Nat.le_trans hc e2,r⟩⟩
theorem Fresh.append {B:Nat} {w:World} {vs us:List Value} {bs cs:List (List UInt8)} (h:Fresh B w vs bs) (k:Fresh B w us cs):Fresh B w (vs++us) (bs++cs):=
 ⟨by simp [h.len,k.len],fun j x hj=>by
  rcases Nat.lt_or_ge j bs.length with hl|hl
  ·rw [List.getElem?_append_left hl] at hj;rw [List.getElem?_append_left (by rw [h.len];exact hl)];exact h.at_ j x hj
  ·rw [List.getElem?_append_right hl] at hj;rw [List.getElem?_append_right (by rw [h.len];exact hl),h.len];exact k.at_ _ x hj⟩
theorem Fresh.base {B C:Nat} {w:World} {vs:List Value} {bs:List (List UInt8)} (h:Fresh B w vs bs) (hc:C≤B):Fresh C w vs bs:=
 ⟨h.len,fun j x hj=>by
  obtain ⟨A,n,c,h1,h2⟩:=h.at_ j x hj;exact ⟨A,n,c,h1,aJf h2 hc⟩⟩
theorem OwnO.base {B C:Nat} {w:World} {v:Value} {os:List Ob} (h:OwnO B w v os) (hc:C≤B):OwnO C w v os:=by
 obtain ⟨xs,h1,h2⟩:=h;exact ⟨xs,aJf h1 hc,Fresh.base h2 hc⟩
theorem OwnO.below {B:Nat} {w w':World} {v:Value} {os:List Ob} (h:OwnO B w v os) (hb:Below w.heap.size w w'):OwnO B w' v os:=by
 obtain ⟨xs,h1,h2⟩:=h;exact ⟨xs,h1.kept (aA7 hb none) (Classical.em _),h2.below hb⟩
theorem OwnO.one {B:Nat} {w:World} {g:Nat} {A:Option Addr} {n c:Nat} {o:Ob} (hg:B≤g) (hb:Bk w g 76 #[.int .i64 (o.to:Int),.slice A n c]) (h:w.ownsRow B 5 1 (.slice A n c) n (o.bytes.map U)):OwnO B w (.slice (some ⟨g,0,none⟩) 1 1) [o]:=
 ⟨[.slice A n c],⟨rfl,.inr ⟨g,1,_,rfl,hg,hb,Nat.le_refl _,by decide,rfl,rfl⟩⟩,⟨rfl,fun j x hj=>by
  have:j=0:=by have:=(List.getElem?_eq_some_iff.1 hj).1;simp at this;exact this
  subst this;simp at hj;subst hj;exact ⟨A,n,c,rfl,h⟩⟩⟩
theorem aCe {P:Program} {w w':World} {ops:Array Oper} {rest:List Oper} {o:Oper} {a:Act} {Q:Exit→Act→World→Prop} (hg:o.guard=none) (s x:Operand) (t:TypeId) (ho:o.op=.call {callee:=.builtin .append,args:=#[s,x],argTypes:=#[t,t]}) {v u r:Value} (hs:a.eval s=v) (hx:a.eval x=u) (hr:(Builtin.append_ #[t,t] o.type #[v,u]).run P w=.ok r w') (h:wpList P ops Q rest (a.put o.dst r) w'):wpList P ops Q (o::rest) a w:=
 wpList_plain hg fun _ hK=>aN7 s x t ho hs hx hr (hK _ _ h)
theorem aHe:Tryz.prog.underlying 41=some (.slice 76):=by kernel_rfl
theorem aBx {B:Nat} {w:World} {e:TypeId} {size n:Nat} {v:Value} {xs:List Value} (h:w.ownsRow B e size v n xs):∀r,v.ownBlock=some r→B≤r∧∃c,w.heap[r]? =some (.cells c e (0,0)):=by
 intro r hr;rcases h.2 with ⟨rfl,_⟩|⟨g,cap,cur,rfl,hg,hh,_⟩
 ·cases hr
 ·injection hr with hr;subst hr;exact ⟨hg,cur,hh⟩
theorem aQc {B:Nat} {w:World} {v v2:Value} {os ps:List Ob} (h:OwnO B w v os) (k:OwnO B w v2 ps) (hn:os.length+ps.length≤1000000) (hB:B≤w.heap.size):
  ∃v' w',(Builtin.append_ #[41,41] 41 #[v,v2]).run Tryz.prog w=.ok v' w'∧OwnO B w' v' (os++ps)∧w.grownBy w' v.ownBlock:=by
 obtain ⟨xs,h1,h2⟩:=h;obtain ⟨us,k1,k2⟩:=k;obtain ⟨i0,hi,hz0,hz1,hz2⟩:=info_parts aQu;have hx:xs.length=os.length:=by rw [h2.len,List.length_map]
 have hu:us.length=ps.length:=by rw [k2.len,List.length_map]
 have hone:∀u∈obsC ps us,u.oneCell'=true:=by
  intro u hu';obtain ⟨i,hil,hiu⟩:=List.mem_iff_getElem.1 hu';have hil':i<2*ps.length:=by rwa [aFh _ _ hu.symm] at hil
  have hj:i / 2<ps.length:=by omega
  obtain ⟨A,n,c,e1,_⟩:=k2.at_ (i / 2) (ps[i / 2]).bytes (by rw [List.getElem?_map,List.getElem?_eq_getElem hj];rfl);have hg:=aHi ps us (i / 2) (i % 2) _ _ (List.getElem?_eq_getElem hj) e1 (by omega);rw [show 2*(i / 2)+i % 2=i from by omega,List.getElem?_eq_getElem hil,hiu] at hg;exact bB4 _ rfl u (List.mem_of_getElem? hg.symm)
 have hfr:∀{w':World},w.grownBy w' v.ownBlock→Fresh B w' (xs++us) ((os++ps).map (·.bytes)):=fun hg=>by
  rw [List.map_append];refine Fresh.append (h2.grown hg (T:=76) (by decide) fun r hr=>?_) (k2.grown hg (T:=76) (by decide) fun r hr=>?_)
  ·obtain ⟨_,c,hc⟩:=aBx h1 r hr;exact ⟨c,_,hc⟩
  ·obtain ⟨_,c,hc⟩:=aBx h1 r hr;exact ⟨c,_,hc⟩
 rcases k1.2 with ⟨rfl,h0⟩|⟨g,cap,cur,rfl,hg,hh,hnc,hcm,hsz,htk⟩
 ·have e0:ps=[]:=List.eq_nil_of_length_eq_zero h0;subst e0;refine ⟨v,w,?_,?_,⟨rfl,rfl,rfl,Nat.le_refl _,fun _ _ _=>rfl⟩⟩
  ·rcases h1.2 with ⟨rfl,hos⟩|⟨g,cap,cur,rfl,_,_,hnc,_⟩
   ·simp [Builtin.append_,run_underlying aHe,sizeOf,typeInfo,hi,Builtin.lenOf,Builtin.firstCells]
   ·simp [Builtin.append_,run_underlying aHe,sizeOf,typeInfo,hi,Builtin.lenOf,Builtin.firstCells,hnc,storeCells]
  ·rw [List.append_nil];exact ⟨xs,h1,h2⟩
 ·obtain ⟨v',W',hrun,h3,h4,_,_⟩:=run_append_own_at (P:=Tryz.prog) (w:=w) B 41 41 76 i0 _ 2 32 aHe hi hz0 hz1 hz2 rfl (by decide) v os.length (obsC os xs) h1 ⟨g,0,none⟩ ps.length cap (obsC ps us) (by rw [aFh _ _ hu.symm];omega) (fun j u hj=>by
   have:=k1.cells (g:=g) rfl _ _ hj;exact this) hone (by unfold maxLen;omega) (by omega) hB
  exact ⟨v',W',hrun,⟨xs++us,by rw [List.length_append,aJt _ _ _ _ hx.symm];exact h3,hfr h4⟩,h4⟩
end Go.Proofs.YtgjmbbkcgillcaaGreat.Zab
namespace Go.Proofs.YtgjmbbkcgillcaaGreat.Zab
open Go.RowKit Disk
def fV (v:Value):Option (DataW Value×List MemPlace):=some (.held v,[])
theorem aRh:Tryz.prog.underlying 3=some (.int .i64):=by kernel_rfl
theorem aD2:Go.Maps.Keyed Tryz.prog 3:=Go.Maps.int_keyed aRh
theorem aQ0 (i:Nat) (hi:i<9223372036854775808):keyOf Tryz.prog 3 (.int .i64 (i:Int))=some (.int .i64 (i:Int)):=
 Go.Maps.keyOf_int_mk aRh (by simp [Lit.wf,IntKind.min,IntKind.max,IntKind.signed,IntKind.bits];omega)
structure IMap (w:World) (b:Nat) (f:Nat→Option Value) (c:Nat) (D:DataW Value):Prop where
 own:w.ownsMap Tryz.prog 3 fV b c D
 size:Maps.size D=c
 at_:∀i:Nat,D.atKey (.int .i64 (i:Int)) .nil=match f i with|some v=>.held v|none=>.nil
 has:∀i:Nat,Maps.has D (.int .i64 (i:Int))=(f i).isSome
 keys:∀kl,Maps.has D kl=true→∃i:Nat,kl=.int .i64 (i:Int)
 tidy:Maps.Tidy D
theorem IMap.lt {w:World} {b:Nat} {f:Nat→Option Value} {c:Nat} {D:DataW Value} (h:IMap w b f c D):b<w.heap.size:=h.own.lt
theorem aQe {w w':World} {k:TypeId} {R:Value→Option (DataW Value×List MemPlace)} {b n:Nat} {D:DataW Value} (h:w.ownsMap Tryz.prog k R b n D) (hb:w'.heap[b]? =w.heap[b]?):w'.ownsMap Tryz.prog k R b n D:=by
 obtain ⟨es,clock,h1,h2⟩:=h;exact ⟨es,clock,hb.trans h1,h2⟩
theorem IMap.kept {w w':World} {b:Nat} {f:Nat→Option Value} {c:Nat} {D:DataW Value} (h:IMap w b f c D) (hb:w'.heap[b]? =w.heap[b]?):IMap w' b f c D:=⟨aQe h.own hb,h.size,h.at_,h.has,h.keys,h.tidy⟩
theorem IMap.out {w w':World} {b:Nat} {f:Nat→Option Value} {c:Nat} {D:DataW Value} {X:Nat→Prop} (h:IMap w b f c D) (ho:Out X w w') (hx:¬X b):IMap w' b f c D:=h.kept (ho.block b h.lt hx)
theorem IMap.below {w w':World} {b:Nat} {f:Nat→Option Value} {c:Nat} {D:DataW Value} (h:IMap w b f c D) (hb:Below w.heap.size w w'):IMap w' b f c D:=h.kept (hb.block b h.lt)
theorem IMap.new (w:World):IMap (w.alloc (.map #[] 0)) w.heap.size (fun _=>none) 0 (.map []):=
 ⟨World.ownsMap_made w _ _ _,rfl,fun _=>rfl,fun _=>rfl,fun kl h=>by simp [Maps.has] at h,by simp [Maps.Tidy]⟩
theorem aHn {a b:Value} (h:(DataW.held a:DataW Value)=.held b):a=b:=DataW.held.inj h
theorem aHg {a:Value} (h:(DataW.nil:DataW Value)=.held a):False:=by cases h
theorem IMap.look {w:World} {b:Nat} {f:Nat→Option Value} {c:Nat} {D:DataW Value} (h:IMap w b f c D) {t e:TypeId} (ht:Tryz.prog.underlying t=some (.map 3 e)) {z:Value} (hz:(zeroValue e).run Tryz.prog w=.ok z w) (i:Nat) (hi:i<9223372036854775808):
  (Instr.lookup t (.map (some b)) (.int .i64 (i:Int)) false).run Tryz.prog w=.ok ((f i).getD z) w∧(Instr.lookup t (.map (some b)) (.int .i64 (i:Int)) true).run Tryz.prog w=.ok (.tuple #[(f i).getD z,.bool (f i).isSome]) w:=by
 obtain ⟨es,clock,hb,F,_,hD⟩:=h.own;have hat:=h.at_ i;have hhas:=h.has i;constructor
 ·rcases Maps.fit_look false aD2 ht hz hb F (aQ0 i hi) with ⟨hrun,_,hat2⟩|⟨e0,y,_,_,hrun,hRv,hat2,_⟩
  ·have:=hat2 .nil;rw [←hD,hat] at this;cases hf:f i with
   |none=>exact hrun
   |some v=>rw [hf] at this;exact (aHg this.symm).elim
  ·have:=hat2 .nil;rw [←hD,hat] at this;have hy:y=(.held e0.val,[]):=(Option.some.inj hRv).symm;rw [hy] at this;cases hf:f i with
   |none=>rw [hf] at this;exact (aHg this).elim
   |some v=>
    rw [hf] at this;rw [aHn this];exact hrun
 ·rcases Maps.fit_look true aD2 ht hz hb F (aQ0 i hi) with ⟨hrun,_,hat2⟩|⟨e0,y,_,_,hrun,hRv,hat2,_⟩
  ·have:=hat2 .nil;rw [←hD,hat] at this;cases hf:f i with
   |none=>exact hrun
   |some v=>rw [hf] at this;exact (aHg this.symm).elim
  ·have:=hat2 .nil;rw [←hD,hat] at this;have hy:y=(.held e0.val,[]):=(Option.some.inj hRv).symm;rw [hy] at this;cases hf:f i with
   |none=>rw [hf] at this;exact (aHg this).elim
   |some v=>
    rw [hf] at this;rw [aHn this];exact hrun
def upd (f:Nat→Option Value) (i:Nat) (v:Value):Nat→Option Value:=fun j=>if j=i then some v else f j
theorem aZm {i j:Nat} (h:j≠i):(Lit.int .i64 (j:Int))≠.int .i64 (i:Int):=fun e=>by
 injection e with _ e;omega
theorem aXg {D:DataW Value} {f:Nat→Option Value} {i:Nat} {v:Value} (hD:Maps.IsMap D) (h1:∀i:Nat,D.atKey (.int .i64 (i:Int)) .nil=match f i with|some v=>.held v|none=>.nil):
  ∀j:Nat,(D.put (.int .i64 (i:Int)) (.held v)).atKey (.int .i64 (j:Int)) .nil=match upd f i v j with|some v=>.held v|none=>.nil:=fun j=>by
 unfold upd;by_cases hj:j=i
 ·subst hj;rw [if_pos rfl,Go.Maps.atKey_put_same hD (by simp [WideAt.IsKeyLit])]
 ·rw [if_neg hj,Go.Maps.atKey_put_other (aZm hj)];exact h1 j
theorem bB8 {D:DataW Value} {f:Nat→Option Value} {i:Nat} {v:Value} (hD:Maps.IsMap D) (h1:∀i:Nat,Maps.has D (.int .i64 (i:Int))=(f i).isSome):
  ∀j:Nat,Maps.has (D.put (.int .i64 (i:Int)) (.held v)) (.int .i64 (j:Int))=(upd f i v j).isSome:=fun j=>by
 unfold upd;by_cases hj:j=i
 ·subst hj;rw [if_pos rfl,Go.Maps.has_put_same hD (by simp [WideAt.IsKeyLit])];rfl
 ·rw [if_neg hj,Go.Maps.has_put_other (aZm hj)];exact h1 j
theorem aQi {D:DataW Value} (h:Maps.Tidy D):Maps.IsMap D:=by
 obtain ⟨es,h,_⟩:=h;exact ⟨es,h⟩
theorem aWt {w:World} {b n:Nat} {D:DataW Value} (h:w.ownsMap Tryz.prog 3 fV b n D):w.ownsMap Tryz.prog 3 fV b (Maps.size D) D:=by
 obtain ⟨es,clock,h1,h2,h3,rfl⟩:=h;refine ⟨es,clock,h1,h2,?_,rfl⟩;simp [Maps.size,length_sorted]
theorem IMap.put {w:World} {b:Nat} {f:Nat→Option Value} {c:Nat} {D:DataW Value} (h:IMap w b f c D) {t e:TypeId} (ht:Tryz.prog.underlying t=some (.map 3 e)) (i:Nat) (hi:i<9223372036854775808) (v:Value) (hc:c<1000000):
  ∃w' D',(Instr.mapUpdate t (.map (some b)) (.int .i64 (i:Int)) v).run Tryz.prog w=.ok () w'∧IMap w' b (upd f i v) (if (f i).isSome then c else c+1) D'∧w.grownBy w' (some b):=by
 obtain ⟨w',hrun,ho,hg⟩:=h.own.update aD2 ht (by unfold maxLen;omega) (aQ0 i hi) (val:=v) (d:=.held v) (ps:=[]) rfl;have hsz:=Go.Maps.size_put (k:=.int .i64 (i:Int)) h.tidy (.held v);rw [h.has i,h.size] at hsz;have ht2:Maps.Tidy (D.put (.int .i64 (i:Int)) (.held v)):=by
  obtain ⟨es,e1,e2,_⟩:=ho.entries aD2;exact ⟨es,e1,e2⟩
 refine ⟨w',_,hrun,⟨?_,hsz,aXg (aQi h.tidy) h.at_,bB8 (aQi h.tidy) h.has,fun kl hk=>?_,ht2⟩,hg⟩
 ·have:=aWt ho;rwa [hsz] at this
 ·by_cases hne:kl=.int .i64 (i:Int)
  ·exact ⟨i,hne⟩
  ·rw [Go.Maps.has_put_other hne] at hk;exact h.keys kl hk
end Go.Proofs.YtgjmbbkcgillcaaGreat.Zab
namespace Go.Proofs.YtgjmbbkcgillcaaGreat.Disk
open Go.RowKit
section
variable {P:Program} {ops:Array Oper} {rest:List Oper} {op:Oper} {a:Act} {w:World} {Q:Exit→Act→World→Prop}
theorem aBo (hgd:op.guard=none) (ty:TypeId) (x y:Operand) (ho:op.op=.store ty x y)
  (g:Nat) (t:TypeId) (old cells:Array Value) (hx:a.eval x=.pointer (some ⟨g,0,none⟩)) (hy:a.eval y=.agg cells)
  (hb:Bk w g t old) (hi:(P.info? ty).map (·.size)=some cells.size) (hold:old.size=cells.size) (h1:cells.all (·.oneCell')=true)
  (h:Hid (∀V,Bk V g t cells→Out (fun k=>k=g) w V→wpList P ops Q rest (a.put op.dst undef) V)):wpList P ops Q (op::rest) a w:=
 wpList_store_row hgd ty x y ho g cells hx hy t old hb hi hold h1 (h.out _ (setRow_heap w g old cells t (0,0) hb) ⟨rfl,rfl,rfl,by simp [World.setRow],fun k _ hk=>setRow_other w g k cells hk⟩)
end
end Go.Proofs.YtgjmbbkcgillcaaGreat.Disk
namespace Go.Proofs.YtgjmbbkcgillcaaGreat
open Disk
theorem Bk.out {w w':World} {g:Nat} {t:TypeId} {cs:Array Value} {X:Nat→Prop} (h:Bk w g t cs) (ho:Out X w w') (hx:¬X g):Bk w' g t cs:=h.kept (ho.block g h.lt hx)
end Go.Proofs.YtgjmbbkcgillcaaGreat
namespace Go.Proofs.YtgjmbbkcgillcaaGreat.Sto
open Go.RowKit Disk Log
end Go.Proofs.YtgjmbbkcgillcaaGreat.Sto
namespace Go.Proofs.YtgjmbbkcgillcaaGreat.Sto
open Go.RowKit Disk Log
section
variable {w0 w w':World} {Z Q:Nat→Prop} {gs gd n:Nat} {d:DK} {p:Nat} {La Lb:LK} {lv:Bool} {k:Kp} {met:Bool} {N:Nat}
theorem Sw.out (h:Sw w0 w Z gs gd d p La Lb lv k met) (ho:Out Q w w') (hq:∀b,Q b→¬Z b∧w0.heap.size≤b):Sw w0 w' Z gs gd d p La Lb lv k met:=by
 obtain ⟨⟨ga,gb,X,Ya,Yb,V,h1,h2⟩,h6,h7,h8⟩:=h;exact ⟨⟨ga,gb,X,Ya,Yb,V,h1.out ho fun b hb q=>(hq b q).1 (h2 b hb),h2⟩,ho.below h6 (fun b hb=>(hq b hb).2) h6.size,h7,fun b hb=>Nat.lt_of_lt_of_le (h8 b hb) ho.size⟩
theorem Ss.out (h:Ss w0 w Z gs gd n k N) (ho:Out Q w w') (hq:∀b,Q b→¬Z b∧w0.heap.size≤b):Ss w0 w' Z gs gd n k N:=by
 obtain ⟨d,⟨La,Lb,lv,h1,h2⟩,h3⟩:=h;exact ⟨d,⟨La,Lb,lv,h1.out ho hq,h2⟩,h3⟩
end
end Go.Proofs.YtgjmbbkcgillcaaGreat.Sto
namespace Go.Proofs.YtgjmbbkcgillcaaGreat.Zab
open Go.RowKit Disk Log Sto Zm Bal
def pmV (c:Nat) (A:Option Addr) (n d:Nat):Value:=.agg #[.int .u64 (c:Int),.slice A n d]
def ackV (acked:Nat→Option Nat):Nat→Option Value:=fun i=>(acked i).map fun a=>.int .i64 (a:Int)
def oneV (i:Nat) (v:Value):Nat→Option Value:=fun j=>if j=i then some v else none
def cntA (n:Nat) (acked:Nat→Option Nat):Nat:=((List.range n).filter fun i=>(acked i).isSome).length
def RoleM (w:World) (Y:Nat→Prop) (id n:Nat) (k:Kp):Role→Value→Prop
 |.follow,v=>v=.iface 129 (.agg #[])
 |.stand e,v=>∃gp gm A c D,v=.iface 187 (.pointer (some ⟨gp,0,none⟩))∧Y gp∧Y gm∧Bk w gp 192 #[.int .u64 (e:Int),.map (some gm)]∧IMap w gm (oneV id (pmV k.current A k.lines.length c)) 1 D∧LnS Y w A k.lines.length k.lines
 |.lead e base acked ready,v=>∃gl gm D,v=.iface 89 (.pointer (some ⟨gl,0,none⟩))∧Y gl∧Y gm∧Bk w gl 112 #[.int .u64 (e:Int),.int .i64 (base:Int),.map (some gm),.bool ready]∧IMap w gm (ackV acked) (cntA n acked) D
theorem RoleM.out {w w':World} {Y X:Nat→Prop} {id n:Nat} {k:Kp} {r:Role} {v:Value} (h:RoleM w Y id n k r v) (ho:Out X w w') (hx:∀b,Y b→¬X b):RoleM w' Y id n k r v:=by
 cases r with
 |follow=>exact h
 |stand e=>
  obtain ⟨gp,gm,A,c,D,h1,h2,h3,h4,h5,h6⟩:=h;exact ⟨gp,gm,A,c,D,h1,h2,h3,h4.out ho (hx _ h2),h5.out ho (hx _ h3),h6.out ho hx⟩
 |lead e base acked ready=>
  obtain ⟨gl,gm,D,h1,h2,h3,h4,h5⟩:=h;exact ⟨gl,gm,D,h1,h2,h3,h4.out ho (hx _ h2),h5.out ho (hx _ h3)⟩
def ndC (id n gs:Nat) (rv:Value) (seen waited com:Nat):Array Value:=#[.int .i64 (id:Int),.int .i64 (n:Int),.pointer (some ⟨gs,0,none⟩),rv,.int .u64 (seen:Int),.int .i64 (waited:Int),.int .i64 (com:Int)]
structure Nd (w0 w:World) (Y Z:Nat→Prop) (gz gs gd pg:Nat) (z:Zn) (N:Nat):Prop where
 ss:Ss w0 w Z gs gd pg z.k N
 bk:∃rv,Bk w gz 94 (ndC z.id z.n gs rv z.seen z.waited z.com)∧RoleM w Y z.id z.n z.k z.role rv
 ok:z.Ok
 pp:z.p=pg / 2
 low:w0.heap.size≤gz
 gzn:¬Z gz∧¬Y gz
 yz:∀b,Y b→w0.heap.size≤b∧¬Z b∧b<w.heap.size
def Nx (Y Z:Nat→Prop) (gz b:Nat):Prop:=b=gz∨Y b∨Z b
section
variable {w0 w w':World} {Y Z:Nat→Prop} {gz gs gd pg:Nat} {z:Zn} {N:Nat}
theorem Nd.below_ (h:Nd w0 w Y Z gz gs gd pg z N) (hb:Below w.heap.size w w'):Nd w0 w' Y Z gz gs gd pg z N:=by
 obtain ⟨h1,⟨rv,h2,h3⟩,h4,h5,h6,h7,h8⟩:=h;exact ⟨h1.below_ hb,⟨rv,h2.below hb,h3.out (X:=fun _=>False) (Out.of_below hb) fun _ _ q=>q⟩,h4,h5,h6,h7,fun b hb'=>⟨(h8 b hb').1,(h8 b hb').2.1,Nat.lt_of_lt_of_le (h8 b hb').2.2 hb.size⟩⟩
theorem Nd.out {X:Nat→Prop} (h:Nd w0 w Y Z gz gs gd pg z N) (ho:Out X w w') (hx:∀b,X b→¬Nx Y Z gz b∧w0.heap.size≤b):Nd w0 w' Y Z gz gs gd pg z N:=by
 obtain ⟨h1,⟨rv,h2,h3⟩,h4,h5,h6,h7,h8⟩:=h;exact ⟨h1.out ho fun b hb=>⟨fun hz=>(hx b hb).1 (.inr (.inr hz)),(hx b hb).2⟩,⟨rv,h2.out ho fun hb=>(hx gz hb).1 (.inl rfl),h3.out ho fun b hy hb=>(hx b hb).1 (.inr (.inl hy))⟩,h4,h5,h6,h7,fun b hb'=>⟨(h8 b hb').1,(h8 b hb').2.1,Nat.lt_of_lt_of_le (h8 b hb').2.2 ho.size⟩⟩
theorem Nd.below (h:Nd w0 w Y Z gz gs gd pg z N):Below w0.heap.size w0 w:=h.ss.below
theorem Nd.mono {M:Nat} (h:Nd w0 w Y Z gz gs gd pg z N) (hm:N≤M):Nd w0 w Y Z gz gs gd pg z M:=⟨h.ss.mono hm,h.bk,h.ok,h.pp,h.low,h.gzn,h.yz⟩
theorem Nd.nx (h:Nd w0 w Y Z gz gs gd pg z N):∀b,Nx Y Z gz b→w0.heap.size≤b∧b<w.heap.size:=fun b hb=>by
 rcases hb with rfl|hb|hb
 ·obtain ⟨rv,h2,_⟩:=h.bk;exact ⟨h.low,h2.lt⟩
 ·exact ⟨(h.yz b hb).1,(h.yz b hb).2.2⟩
 ·exact ⟨h.ss.own b hb,h.ss.lt b hb⟩
end
def Gz (Y Z Y' Z':Nat→Prop) (gz:Nat) (w w':World):Prop:=Out (Nx Y Z gz) w w'∧∀b,Nx Y' Z' gz b→Nx Y Z gz b∨w.heap.size≤b
theorem Gz.of_below {Y Z:Nat→Prop} {gz:Nat} {w w':World} (h:Below w.heap.size w w'):Gz Y Z Y Z gz w w':=⟨Out.of_below h,fun _ hb=>.inl hb⟩
theorem Gz.trans {Y Z Y1 Z1 Y2 Z2:Nat→Prop} {gz:Nat} {w w1 w2:World} (h:Gz Y Z Y1 Z1 gz w w1) (k:Gz Y1 Z1 Y2 Z2 gz w1 w2):Gz Y Z Y2 Z2 gz w w2:=
 ⟨h.1.trans k.1 h.2,fun b hb=>(k.2 b hb).elim (h.2 b) fun q=>.inr (Nat.le_trans h.1.size q)⟩
theorem Gz.later {Y Z Y1 Z1:Nat→Prop} {gz:Nat} {w w1 w2:World} (h:Gz Y Z Y1 Z1 gz w w1) (k:Below w1.heap.size w1 w2):Gz Y Z Y1 Z1 gz w w2:=h.trans (Gz.of_below k)
theorem Gz.earlier {Y Z Y1 Z1:Nat→Prop} {gz:Nat} {w w1 w2:World} (k:Below w.heap.size w w1) (h:Gz Y Z Y1 Z1 gz w1 w2):Gz Y Z Y1 Z1 gz w w2:=(Gz.of_below k).trans h
def obs (l:List Tl):List Ob:=l.map fun t=>⟨t.to,putB t.m⟩
theorem aS8 (a b:List Tl):obs (a++b)=obs a++obs b:=List.map_append ..
theorem aEv (a:List Tl):(obs a).length=a.length:=List.length_map ..
def ToldP (w0:World) (Y Z:Nat→Prop) (gz gs gd pg:Nat) (r:Zn×List Tl) (N:Nat) (w:World) (e:Ending) (w':World):Prop:=
 ∃v Y' Z' B,e=.returned v∧w.heap.size≤B∧OwnO B w' v (obs r.2)∧(r.2=[]→v=.slice none 0 0)∧(∀b,Nx Y' Z' gz b→b<B)∧Nd w0 w' Y' Z' gz gs gd pg r.1 N∧Gz Y Z Y' Z' gz w w'
def DidP (w0:World) (Y Z:Nat→Prop) (gz gs gd pg:Nat) (v:Value) (z:Zn) (N:Nat) (w:World) (e:Ending) (w':World):Prop:=
 ∃Y' Z',e=.returned v∧Nd w0 w' Y' Z' gz gs gd pg z N∧Gz Y Z Y' Z' gz w w'
end Go.Proofs.YtgjmbbkcgillcaaGreat.Zab
