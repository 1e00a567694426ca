/- Lemmas, part 20: LogLawAll, LogHelpAll, StoMem, StoCopy -/
import Derived.Test.YtgjmbbkcgillcaaGreatPart19
import Derived.Test.YtgjmbbkcgillcaaGreatPart9
import Derived.Test.YtgjmbbkcgillcaaGreatPart16
import Derived.Test.YtgjmbbkcgillcaaGreatPart12
import Derived.Deep.Slices
import Derived.Test.YtgjmbbkcgillcaaGreatPart10
import Derived.Deep.RegionHeld3
import Derived.Deep.AppendLies
set_option maxHeartbeats 16000000
namespace Go.Proofs.YtgjmbbkcgillcaaGreat.Log
open Go.RowKit Disk
theorem Run.count {ps:Pages} {l e:Nat} {bs:List (List UInt8)} {l' e':Nat} (h:Run ps l e bs l' e'):bs.length+e≤e':=by
 induction h with
 |nil=>simp
 |cons h1 _ ih=>
  obtain ⟨_,h2,_⟩:=aAz h1;rw [List.length_cons];omega
theorem aLa {ps:Pages} {hd:Bool} {rs:List (List UInt8)} {e:Nat} (h:Recs ps=(hd,rs,e)) (h1:1≤ps.length):1≤e∧e≤ps.length∧rs.length+1≤e∧(hd=false→e=1∧rs=[]):=by
 rcases aCw ps with ⟨s,l,_,H,q⟩|⟨_,q⟩
 ·rw [h] at H q;have a:=H.run.le;have b:=Run.count H.run;dsimp only at a b q
  exact ⟨a.1,a.2.2 h1,b,fun hh=>by rw [q] at hh;cases hh⟩
 ·rw [q] at h;injection h with h2 h3;injection h3 with h3 h4;subst h3 h4;exact ⟨Nat.le_refl _,h1,Nat.le_refl _,fun _=>⟨rfl,rfl⟩⟩
structure KL (d:DK) (f n:Nat) (L:LK):Prop where
 up:Up d f n L.top
 recs:Recs (part (now d) f n)=(L.head,L.recs,L.end_)
 met:L.met=false
 row:d.row=[]
 sz:∀b∈L.recs,b.length≤3000000
theorem KL.many {d:DK} {f n:Nat} {L:LK} (h:KL d f n L):2≤n∧f+n≤4096∧1≤L.end_∧L.end_≤n∧L.recs.length+1≤L.end_∧(L.head=false→L.end_=1∧L.recs=[]):=by
 have h1:=aLa h.recs (by rw [h.up.len];have:=h.up.two;omega);rw [h.up.len] at h1;have h2:=h.up.in_;have h3:=h.up.ok.many;exact ⟨h.up.two,by omega,h1⟩
structure Lw (w0 w:World) (Z:Nat→Prop) (g gd f n:Nat) (d:DK) (L:LK):Prop where
 at_:∃X Y,DkAt w X gd d∧LgAt w Y g gd (f:Int) n L∧(∀k,X k→¬Y k)∧(∀k,X k→Z k)∧∀k,Y k→Z k
 below:Below w0.heap.size w0 w
 own:∀k,Z k→w0.heap.size≤k
 lt:∀k,Z k→k<w.heap.size
def LwTo (v:Value) (w0:World) (Z:Nat→Prop) (g gd f n:Nat) (d':DK) (L':LK) (w:World) (e:Ending) (w':World):Prop:=
 e=.returned v∧∃Z',Lw w0 w' Z' g gd f n d' L'∧Out Z w w'∧∀k,Z' k→Z k∨w.heap.size≤k
theorem Lw.below_ {w0 w w':World} {Z:Nat→Prop} {g gd f n:Nat} {d:DK} {L:LK} (h:Lw w0 w Z g gd f n d L) (hb:Below w.heap.size w w'):Lw w0 w' Z g gd f n d L:=by
 obtain ⟨⟨X,Y,h1,h2,h3,h4,h5⟩,h6,h7,h8⟩:=h;exact ⟨⟨X,Y,h1.below hb,h2.below hb,h3,h4,h5⟩,h6.trans (hb.mono h6.size),h7,fun k hk=>Nat.lt_of_lt_of_le (h8 k hk) hb.size⟩
theorem Lw.of {w0 w w':World} {Z X Y:Nat→Prop} {g gd f n:Nat} {d d':DK} {L L':LK} {z:Int} {e:Ending} (h:Lw w0 w Z g gd f n d L) (hX:∀k,X k→Z k) (hY:∀k,Y k→Z k) (hw:WrPost X Y g gd f n z d' L' w e w'):LwTo (.int .i64 z) w0 Z g gd f n d' L' w e w':=by
 obtain ⟨rfl,X',Y',h1,h2,h3,h4,h5,h6⟩:=hw;have ho:Out Z w w':=h3.mono fun k hk=>.inl (hk.elim (hX k) (hY k));have hX2:∀k,X' k→Z k∨w.heap.size≤k:=fun k hk=>(h4 k hk).elim (fun q=>.inl (hX k q)) .inr;have hY2:∀k,Y' k→Z k∨w.heap.size≤k:=fun k hk=>(h5 k hk).elim (fun q=>.inl (hY k q)) .inr;have hXl:∀k,X' k→k<w'.heap.size:=fun k hk=>by obtain ⟨_,_,_,q⟩:=h1;exact q.lt k hk
 refine ⟨rfl,fun k=>X' k∨Y' k,⟨⟨X',Y',h1,h2,h6,fun k hk=>.inl hk,fun k hk=>.inr hk⟩,ho.below h.below h.own h.below.size,fun k hk=>?_,fun k hk=>hk.elim (hXl k) (h2.lt k)⟩,ho,fun k hk=>hk.elim (hX2 k) (hY2 k)⟩;rcases hk.elim (hX2 k) (hY2 k) with q|q
 ·exact h.own k q
 ·exact Nat.le_trans h.below.size q
theorem aNm {d:DK} {f n:Nat} {L:LK} {b:List UInt8} (h:KL d f n L) (hr:L.end_+manyOf b.length≤n) (hh:L.head=true):commitF d f n L.top b=(wr d (f+L.end_) (leafs (L.top+1) (manyOf b.length) b),L.top+1):=by
 unfold commitF;rw [h.recs,if_neg (by rw [h.up.on];decide),if_neg (by dsimp only;omega),if_pos hh]
theorem aM5 {d:DK} {f n:Nat} {L:LK} {b:List UInt8} (h:KL d f n L) (hr:L.end_+manyOf b.length≤n) (hh:L.head=false):(commitF d f n L.top b).1=comH d f L.top (manyOf b.length) b∧((commitF d f n L.top b).1.1=0→(commitF d f n L.top b).2=L.top+2):=by
 unfold commitF comH;rw [h.recs,if_neg (by rw [h.up.on];decide),if_neg (by dsimp only;omega),if_neg (by dsimp only;rw [hh];exact Bool.false_ne_true)];by_cases h0:(wr d f (headL (L.top+1))).1≠0
 ·rw [if_pos h0,if_pos h0];exact ⟨rfl,fun hz=>absurd hz h0⟩
 ·rw [if_neg h0,if_neg h0];exact ⟨rfl,fun _=>rfl⟩
theorem aOi {d:DK} {f n:Nat} {L:LK} {b:List UInt8} (h:KL d f n L) (hr:n<L.end_+manyOf b.length):commitF d f n L.top b=((4,d),L.top):=by
 unfold commitF;rw [h.recs,if_neg (by rw [h.up.on];decide),if_pos (by dsimp only;omega)]
structure ComK (d:DK) (f n:Nat) (L:LK) (b:List UInt8) (z:Int) (d':DK) (L':LK):Prop where
 ans:z=(commitF d f n L.top b).1.1
 disk:d'=(commitF d f n L.top b).1.2
 good:z=0→KL d' f n L'∧L'.recs=L.recs++[b]∧L'.end_=L.end_+manyOf b.length∧L'.top≤L.top+2∧(d.left<0→d'.left=d.left)∧L.end_+manyOf b.length≤n
 full:z=4→d'=d∧L'=L
 bad:z≠0→z≠4→L'.met=true
 room:n<L.end_+manyOf b.length→z=4
 some_:L.end_+manyOf b.length≤n→z≠4
theorem ComK.of {d:DK} {f n:Nat} {L L':LK} {b:List UInt8} {r:Int×DK} {L0:LK} (h:KL d f n L) (ht:L.top+2<18446744073709551616) (hb:b.length≤3000000) (hroom:L.end_+manyOf b.length≤n) (hr:(commitF d f n L.top b).1=r) (hL0:r.1=0→L0=⟨true,L.recs++[b],L.end_+manyOf b.length,(commitF d f n L.top b).2,L.met⟩) (h0:r.1=0→L'=L0) (h1:r.1≠0→L'.met=true) (h4:r.1≠4):ComK d f n L b r.1 r.2 L':=by
 have hm:=h.many;refine ⟨by rw [hr],by rw [hr],fun hz=>?_,fun hz=>absurd hz h4,fun hz _=>h1 hz,fun hz=>by omega,fun _=>h4⟩;have hc0:(commitF d f n L.top b).1.1=0:=by rw [hr];exact hz
 obtain ⟨c1,c2,c3,c4,c5,c6⟩:=aJq h.up ht (by omega) hc0;rw [hr] at c1 c2 c3 c5;rw [h0 hz,hL0 hz];rw [h.recs] at c2;refine ⟨⟨c1,c2,h.met,c3,fun x hx=>?_⟩,rfl,rfl,c6,c5,hroom⟩;rcases List.mem_append.1 hx with q|q
 ·exact h.sz x q
 ·rw [List.mem_singleton.1 q];exact hb
theorem aPv {d:DK} {e:Nat} {ls:Pages} (hd:d.dead=false) (he:e+ls.length≤d.pages.length) (ho:OkP ls):(wr d e ls).1≠4:=by
 rcases aFt ls d e hd he ho with ⟨a1,_⟩|⟨a1,_⟩<;>rw [a1]<;>decide
theorem aNb {w0 w:World} {Z:Nat→Prop} {g gd f n:Nat} {d:DK} {L:LK} (h:Lw w0 w Z g gd f n d L) (hK:KL d f n L) (ht:L.top+2<18446744073709551616) (A:Option Addr) (m c:Nat) (b:List UInt8) (hr:Rd w A m b) (hA:∀a,A=some a→¬Z a.block) (hmc:m≤c) (hm:m≤3000000):
  Calls Tryz.prog 161 #[.pointer (some ⟨g,0,none⟩),.slice A m c] w fun e w'=>∃z d' L',LwTo (.int .i64 z) w0 Z g gd f n d' L' w e w'∧ComK d f n L b z d' L':=by
 obtain ⟨X,Y,hd,hl,hxy,hX,hY⟩:=h.at_;obtain ⟨k1,k2,k3,k4,k5,k6⟩:=hK.many;have hlen:b.length=m:=hr.len;have hA2:∀a,A=some a→¬(X a.block∨Y a.block):=fun a ha hx=>hA a ha (hx.elim (hX _) (hY _));have hin:=hK.up.in_;rcases Nat.lt_or_ge n (L.end_+manyOf m) with hf|hroom
 ·refine (aPf hl hd hK.up.on hK.met (by omega) k4 A m c hf).mono ?_;rintro e w' ⟨rfl,hb⟩;have hq:=aOi (b:=b) hK (by rw [hlen];exact hf);exact ⟨4,d,L,⟨rfl,Z,h.below_ hb,Out.of_below hb,fun k hk=>.inl hk⟩,by rw [hq],by rw [hq],fun hz=>(by cases hz),fun _=>⟨rfl,rfl⟩,fun _ hz=>absurd rfl hz,fun _=>rfl,fun hz=>by rw [hlen] at hz;omega⟩
 ·cases hh:L.head with
  |true=>
   refine (aPb hl hd hxy hK.up.on hK.met (by omega) (by omega) k3 (by rw [hK.row];exact Nat.zero_le _) (by omega) ht A m c b hr hA2 hmc hroom hh).mono ?_;rintro e w' ⟨L',hw,h0,h1⟩;have hq:=aNm (b:=b) hK (by rw [hlen];exact hroom) hh;rw [hlen] at hq;refine ⟨_,_,L',h.of hX hY hw,ComK.of hK ht (by omega) (by rw [hlen];exact hroom) (by rw [hq]) (fun _=>by rw [hq,hlen,hh]) h0 h1 (aPv hK.up.on (by rw [aAb];omega) (aB6 _ _ _))⟩
  |false=>
   obtain ⟨q1,q2⟩:=k6 hh;refine (aOg hl hd hxy hK.up.on hK.met (by omega) (by omega) (by rw [hK.row];exact Nat.zero_le _) ht A m c b hr hA2 hmc hroom hh q1).mono ?_;rintro e w' ⟨L',hw,h0,h1⟩;obtain ⟨hq,hq2⟩:=aM5 (b:=b) hK (by rw [hlen];exact hroom) hh;rw [hlen] at hq;refine ⟨_,_,L',h.of hX hY hw,ComK.of hK ht (by omega) (by rw [hlen];exact hroom) hq (fun hz=>by rw [hq2 (by rw [hq];exact hz),hlen,q1,q2];rfl) h0 h1 ?_⟩;unfold comH;by_cases hx:(wr d f (headL (L.top+1))).1≠0
   ·rw [if_pos hx];exact aPv hK.up.on (by show f+1≤_;omega) (aCp _)
   ·rw [if_neg hx];have hu:=aDr hK.up (by omega) (show (resetF d f L.top).1=0 by unfold resetF;simpa using hx);exact aPv hu.1.on (by rw [aAb];have:=hu.1.in_;unfold resetF at this;omega) (aB6 _ _ _)
structure ResK (d:DK) (f n:Nat) (L:LK) (z:Int) (d':DK) (L':LK):Prop where
 ans:z=(resetF d f L.top).1
 disk:d'=(resetF d f L.top).2
 good:z=0→KL d' f n L'∧L'.recs=[]∧L'.end_=1∧L'.top=L.top+1∧(d.left<0→d'.left=d.left)
 bad:z≠0→L'.met=true
theorem aYr {w0 w:World} {Z:Nat→Prop} {g gd f n:Nat} {d:DK} {L:LK} (h:Lw w0 w Z g gd f n d L) (hK:KL d f n L) (ht:L.top+2<18446744073709551616):
  Calls Tryz.prog 188 #[.pointer (some ⟨g,0,none⟩)] w fun e w'=>∃z d' L',LwTo (.int .i64 z) w0 Z g gd f n d' L' w e w'∧ResK d f n L z d' L':=by
 obtain ⟨X,Y,hd,hl,hxy,hX,hY⟩:=h.at_;obtain ⟨k1,k2,k3,k4,k5,k6⟩:=hK.many;refine (aTe hl hd hxy hK.up.on (by omega) (by rw [hK.row];exact Nat.zero_le _) (by omega)).mono ?_;rintro e w' ⟨L',hw,h0,h1⟩;refine ⟨_,_,L',h.of hX hY hw,rfl,rfl,fun hz=>?_,h1⟩;obtain ⟨c1,c2,c3,c4,c5⟩:=aDr hK.up (by omega) hz;rw [h0 hz];exact ⟨⟨c1,c2,hK.met,c3,fun x hx=>by cases hx⟩,rfl,rfl,rfl,c5⟩
end Go.Proofs.YtgjmbbkcgillcaaGreat.Log
namespace Go.Proofs.YtgjmbbkcgillcaaGreat.Log
open Go.RowKit Disk
def newL (d:DK) (f n:Nat):LK:=⟨(Recs (part (now d) f n)).1,(Recs (part (now d) f n)).2.1,(Recs (part (now d) f n)).2.2,newest (part (now d) f n),false⟩
theorem bAs (n:Nat):part (now (DK.new n)) 0 n=List.replicate n (List.replicate 512 0):=by
 have:=aRo (List.replicate n (List.replicate 512 (0:UInt8)));rwa [List.length_replicate] at this
theorem bCg {n:Nat} (h1:2≤n) (h2:n≤4096):KL (DK.new n) 0 n ⟨false,[],1,0,false⟩:=
 ⟨(Stands.new h1 h2).up,by rw [bAs,aLu],rfl,rfl,fun b hb=>by cases hb⟩
end Go.Proofs.YtgjmbbkcgillcaaGreat.Log
namespace Go.Proofs.YtgjmbbkcgillcaaGreat.Log
open Go.RowKit Disk
end Go.Proofs.YtgjmbbkcgillcaaGreat.Log
namespace Go.Proofs.YtgjmbbkcgillcaaGreat.Log
open Go.ChangeShapes Go.WideShapes Go.ChangeAt Go.RowKit Disk
section
variable {H:Type} {enc:TypeId×Value→H} {w:World} {base:Nat} {spare:Nat→Bool} {held:Bool}
end
end Go.Proofs.YtgjmbbkcgillcaaGreat.Log
namespace Go.Proofs.YtgjmbbkcgillcaaGreat.Log
open Go.RowKit Disk
end Go.Proofs.YtgjmbbkcgillcaaGreat.Log
namespace Go.Proofs.YtgjmbbkcgillcaaGreat.Log
open Go.RowKit Disk
section
variable {w0 w:World} {Z:Nat→Prop} {gd ga fa na gb fb nb:Nat} {bs:List (List UInt8)} {e N:Nat}
end
end Go.Proofs.YtgjmbbkcgillcaaGreat.Log
namespace Go.Proofs.YtgjmbbkcgillcaaGreat.Log
open Go.ChangeShapes Go.WideShapes Go.ChangeAt Go.RowKit Disk
section
variable {H:Type} {enc:TypeId×Value→H} {w:World} {base:Nat} {spare:Nat→Bool} {held:Bool}
end
end Go.Proofs.YtgjmbbkcgillcaaGreat.Log
namespace Go.Proofs.YtgjmbbkcgillcaaGreat.Sto
open Go.RowKit Disk Log
end Go.Proofs.YtgjmbbkcgillcaaGreat.Sto
namespace Go.Proofs.YtgjmbbkcgillcaaGreat.Sto
open Go.RowKit Disk Log
def RelCp (w:World) (ls:List Ln) (n:Nat) (v i:Value) (wr:World):Prop:=
 ∃(k:Nat) (xs:List Value),k≤n∧i=.int .i64 (k:Int)∧wr.ownsRow w.heap.size 65 2 v k (lnsC (ls.take k) xs)∧Fresh w.heap.size wr xs ((ls.take k).map (·.bytes))∧Below w.heap.size w wr
def aY1 (w:World) (ls:List Ln) (e:Ending) (w':World):Prop:=
 ∃A c,e=.returned (.slice A ls.length c)∧OwnL w.heap.size w' (.slice A ls.length c) ls∧Below w.heap.size w w'
set_option maxRecDepth 100000 in
theorem aMp (P:Nat→Prop) (A:Option Addr) (n c:Nat) (ls:List Ln) (w:World) (h:LnS P w A n ls) (hn:n≤1000000) (hs:∀x∈ls,x.bytes.length≤100000000):
  Calls Tryz.prog 71 #[.slice A n c] w (aY1 w ls):=by
 obtain ⟨i0,hi,hz0,hz1,hz2⟩:=info_parts aEb;have HI:=Lib.hid hi;have HZ0:=Lib.hid hz0;have HZ1:=Lib.hid hz1;have HZ2:=Lib.hid hz2;clear hi hz0 hz1 hz2;have HN:=Lib.hid h.len;have H:=Lib.hid h;have HS:=Lib.hid hs;have HM:Hid (n≤1000000):=hn;clear h hs hn;go_enter Tryz.func71,Tryz.ntmps71
 go_wp2_with fail;go_loopw [3,5,8] (fun v _ i wr=>RelCp w ls n v i wr) (fun _ _ i _=>n - (intOf i).toNat)
 case atStart=>exact ⟨0,[],by omega,rfl,⟨rfl,.inl ⟨rfl,rfl⟩⟩,⟨rfl,fun j b hj=>by simp at hj⟩,Below.refl _ _⟩
 case round=>
  obtain ⟨k,xs,hk,rfl,hown,hfr,hbel⟩:=hrel;have HO:=Lib.hid hown;have HF:=Lib.hid hfr;have HB:=Lib.hid hbel;clear hown hfr hbel;by_cases hlt:k<n
  ·have hkl:k<ls.length:=by have:=HN.out;omega
   obtain ⟨x,hx⟩:∃x,ls[k]? =some x:=⟨_,List.getElem?_eq_getElem hkl⟩;obtain ⟨b,o,B,m,c2,hA,-,he,hc,hmc,hr,-⟩:=(H.out.below HB.out).at_ k x hx;subst hA;have hk0:(0:Int)≤(k:Int):=Int.natCast_nonneg _;have hk1:(k:Int)<(n:Int):=by omega
   have HR:=Lib.hid hr;have hms:m≤100000000:=by
    have:=HS.out x (List.mem_of_getElem? hx);have:=hr.len;omega
   have HMS:=Lib.hid hms;clear hms hr;go_wp2_with fail;obtain ⟨W,hW⟩:∃W,W=wr.alloc (.cells #[.int .u64 (x.epoch:Int),.slice B m c2] 65):=⟨_,rfl⟩;have hwb:Below wr.heap.size wr W:=by rw [hW];exact (Below.refl _ _).alloc (Nat.le_refl _) _
   have hbk:Bk W wr.heap.size 65 #[.int .u64 (x.epoch:Int),.slice B m c2]:=by rw [hW];exact Bk.new wr _ _
   rw [←hW];have HW:=Lib.hid hwb;have HBK:=Lib.hid hbk;have BD:Hid (Below W.heap.size W W.drew):=(Below.refl _ W).drew;have k0:W.cell? ⟨wr.heap.size,0,none⟩=some (.int .u64 (x.epoch:Int)):=hbk.cell 0;have k1:W.cell? ⟨wr.heap.size,1,none⟩=some (.slice B m c2):=hbk.cell 1;have HC:Hid (∀V,Below W.heap.size W V→V.cell? ⟨wr.heap.size,0,none⟩=some (.int .u64 (x.epoch:Int))∧V.cell? ⟨wr.heap.size,1,none⟩=some (.slice B m c2)):=fun V hV=>⟨(HBK.out.below hV).cell 0,(HBK.out.below hV).cell 1⟩;have HSD:Hid (W.drew.cell? ⟨wr.heap.size,0,none⟩=some (.int .u64 (x.epoch:Int))∧W.drew.cell? ⟨wr.heap.size,1,none⟩=some (.slice B m c2)):=⟨k0,k1⟩;have hcl:=aEg B m c2 x.bytes W.drew ((HR.out.below HW.out).below BD.out) HMS.out;have HCL:=Lib.hid hcl;clear hW hwb hbk hcl he hc;have HNE:Hid (u3.ownBlock≠some wr.heap.size):=fun e=>by
    have:=(HO.out.lt _ e).2;omega
   have HWS:Hid (wr.heap.size<W.heap.size):=HBK.out.lt;have HBS:Hid (w.heap.size≤wr.heap.size):=HB.out.size
   go_region_held3 (fun V=>V.cell? ⟨wr.heap.size,0,none⟩=some (.int .u64 (x.epoch:Int))∧V.cell? ⟨wr.heap.size,1,none⟩=some (.slice B m c2))
    (first|(with_reducible assumption)|(with_reducible exact HSD.out)|(with_reducible exact HS1.out)|(with_reducible exact HAL.out _)|(with_reducible exact HS5.out))
    (first
     |(go_at_call 118;(with_reducible refine HCL.out.mono ?_);rintro e w1 ⟨A2,n2,c3,rfl,hn2,-,hown2,hb2⟩;have HO2:=Lib.hid hown2;have HN2:=Lib.hid hn2;have HB2:=Lib.hid (BD.out.trans hb2);have HS1:=Lib.hid (HC.out _ HB2.out);have HAL:=Lib.hid (fun ob:Obj=>HC.out (w1.alloc ob) (HB2.out.alloc HB2.out.size ob));have HW1:=Lib.hid (HW.out.trans (HB2.out.mono HW.out.size));have HOW1:=Lib.hid (HO.out.kept (aA7 HW1.out none) (Classical.em _));have HSZ:Hid (W.heap.size≤w1.heap.size):=HB2.out.size;clear hown2 hb2 hn2)
     |((refine step_append_lies _ (by rfl) _ _ _ (by rfl) w.heap.size 65 i0 _ 2 32 aEj HI.out HZ0.out HZ1.out HZ2.out rfl (by omega) u3 k _ (by rfl) (HOW1.out.alloc _) ⟨w1.heap.size,0,none⟩ 1 1 (lnC x (.slice A2 n2 c3)) (by rfl) (by rfl) (World.news_of_block (cs:=(lnC x (.slice A2 n2 c3)).toArray) (t:=65) (fr:=(0,0)) (heap_alloc_new w1 _)) (by simp [lnC,Value.oneCell']) (by omega) (by unfold maxLen;have:=HM.out;omega) (by have:=HM.out;omega) (by have:=HSZ.out;have:=HWS.out;have:=HBS.out;simp;omega) (w1.heap.size+1) (by simp) ?_);intro gg cap w5 hown5 hgr5 hat5 hlt5;have HO5:=Lib.hid hown5;have HG5:=Lib.hid hgr5;have HS5:Hid (w5.cell? ⟨wr.heap.size,0,none⟩=some (.int .u64 (x.epoch:Int))∧w5.cell? ⟨wr.heap.size,1,none⟩=some (.slice B m c2)):=⟨(HG5.out.cell_far _ (by have:=HSZ.out;have:=HWS.out;simp;omega) (Ne.symm HNE.out)).trans (HAL.out _).1,(HG5.out.cell_far _ (by have:=HSZ.out;have:=HWS.out;simp;omega) (Ne.symm HNE.out)).trans (HAL.out _).2⟩;clear hown5 hgr5 hat5 hlt5))
   have hw64:wrap64 ((k:Int)+1)=((k+1:Nat):Int):=by
    have:=HM.out;rw [IntWalk.wrap64_in _ (by omega)];omega
   have HLX:Hid ((ls.take k).length=xs.length):=by
    have:=HF.out.len;rw [List.length_map] at this;exact this.symm
   have HTK:Hid (ls.take (k+1)=ls.take k++[x]):=by
    have:=List.take_append_getElem hkl;rw [List.getElem?_eq_getElem hkl] at hx;injection hx with hx;rw [hx] at this;exact this.symm
   have hba:Below w1.heap.size w1 (w1.alloc (.cells #[.int .u64 (x.epoch:Int),.slice A2 n2 c3] 65)):=(Below.refl _ _).alloc (Nat.le_refl _) _;have HBA:=Lib.hid hba;have HF2:=Lib.hid (((HF.out.below HW1.out).snoc (aAh HO2.out (Nat.le_trans HB.out.size HW.out.size))).below HBA.out);have HOA:=Lib.hid (HOW1.out.alloc (.cells #[.int .u64 (x.epoch:Int),.slice A2 n2 c3] 65));have HF3:=Lib.hid (HF2.out.grown HG5.out (by decide) (fun r hr=>Lib.ownsRow_kind HOA.out r hr));have HB3:Hid (Below w.heap.size w (w1.alloc (.cells #[.int .u64 (x.epoch:Int),.slice A2 n2 c3] 65))):=HB.out.trans ((HW1.out.mono HB.out.size).trans (hba.mono (Nat.le_trans HB.out.size HW1.out.size)));have HB5:=Lib.hid (HB3.out.grown HG5.out HB3.out.size (fun g hg=>(HOA.out.lt g hg).1));clear hba;go_wp2_with fail;rw [hw64];refine ⟨⟨k+1,xs++[.slice A2 n2 c3],by omega,rfl,?_,?_,HB5.out⟩,by simp [intOf];omega⟩
   ·rw [HTK.out,aJ1 _ _ _ _ HLX.out];exact HO5.out
   ·rw [HTK.out,List.map_append];exact HF3.out
  ·obtain rfl:k=n:=by omega
   have htk:ls.take k=ls:=List.take_of_length_le (by have:=HN.out;omega);have HO2:=HO.out;have HF2:=HF.out;rw [htk] at HO2 HF2;have HE:Hid (OwnL w.heap.size wr _ ls):=⟨xs,by have:=HN.out;rw [this];exact HO2,HF2⟩;clear HO2 HF2 htk;obtain ⟨A2,c2,rfl,-,-⟩:=HE.out.form;go_wp2_with fail;go_ret;exact ⟨A2,c2,rfl,HE.out,HB.out⟩
end Go.Proofs.YtgjmbbkcgillcaaGreat.Sto
