/- Lemmas, part 19: LogCommitAll -/
import Derived.Test.YtgjmbbkcgillcaaGreatPart18
import Derived.WalkSpells
import Derived.Deep.Quiet
set_option maxHeartbeats 16000000
namespace Go.Proofs.YtgjmbbkcgillcaaGreat.Log
open Go.RowKit Disk
def Ends (X Y:Nat→Prop) (g gd f n:Nat) (r:Int×DK) (L0:LK) (w:World) (e:Ending) (w':World):Prop:=
 ∃L',WrPost X Y g gd f n r.1 r.2 L' w e w'∧(r.1=0→L'=L0)∧(r.1≠0→L'.met=true)
theorem Hold.ends {w w1 W:World} {X Y:Nat→Prop} {g gd f n:Nat} {d:DK} {L:LK} (h:Hold w1 X Y g gd f n d L W) (hb:Below w.heap.size w w1) (z:Int):WrPost X Y g gd f n z d L w (.returned (.int .i64 z)) W:=by
 obtain ⟨X',Y',h1,h2,h3,h4,h5,h6⟩:=h;have hs:=hb.size;exact ⟨rfl,X',Y',h1,h2,(Out.of_below hb).trans h3 (fun k hk=>.inl hk),fun k hk=>(h4 k hk).elim .inl (fun q=>.inr (by omega)),fun k hk=>(h5 k hk).elim .inl (fun q=>.inr (by omega)),h6⟩
theorem aLn (t:Nat) (h:t+1<18446744073709551616):IntKind.u64.wrap ((t:Int)+1)=((t+1:Nat):Int):=by
 rw [IntKind.wrap_u64];omega
theorem aYq (w:World) (t:TypeId) (a b c:Value):(w.alloc (.cells #[a,b,c] t)).ownsRow w.heap.size t 1 (.slice (some ⟨w.heap.size,0,none⟩) 3 3) 3 [a,b,c]:=
 ⟨rfl,.inr ⟨w.heap.size,3,#[a,b,c],rfl,Nat.le_refl _,World.alloc_heap_new w _,Nat.le_refl _,by unfold maxLen;omega,rfl,rfl⟩⟩
theorem aJ2 {w w':World} {e:Ending} {g gd st:Nat} (h:aEz w g gd st e w'):e=.returned (.slice (some ⟨w.heap.size+2,0,none⟩) 3 3)∧Below w.heap.size w w'∧w'.heap.size=w.heap.size+3∧Boxed w' w.heap.size 123 (.pointer (some ⟨g,0,none⟩))∧Boxed w' (w.heap.size+1) 33 (.int .u64 (st:Int))∧
  w'.ownsRow (w.heap.size+2) 284 1 (.slice (some ⟨w.heap.size+2,0,none⟩) 3 3) 3 [clo60 w.heap.size (w.heap.size+1),syncV gd,clo63 w.heap.size]:=by
 obtain ⟨rfl,rfl⟩:=h;refine ⟨rfl,(((Below.refl _ _).alloc (Nat.le_refl _) _).alloc (by simp) _).alloc (by simp;omega) _,by simp,((Boxed.new w _ _).alloc _).alloc _,Boxed.alloc ?_ _,?_⟩
 ·have:=Boxed.new (w.alloc (.cells #[.pointer (some ⟨g,0,none⟩)] 123)) 33 (.int .u64 (st:Int));rwa [World.size_alloc] at this
 ·have:=aYq ((w.alloc (.cells #[.pointer (some ⟨g,0,none⟩)] 123)).alloc (.cells #[.int .u64 (st:Int)] 33)) 284 (clo60 w.heap.size (w.heap.size+1)) (syncV gd) (clo63 w.heap.size);simpa only [World.size_alloc] using this
set_option maxRecDepth 100000 in
theorem aTe {w:World} {X Y:Nat→Prop} {g gd f n:Nat} {L:LK} {d:DK} (h:LgAt w Y g gd (f:Int) n L) (hd:DkAt w X gd d) (hxy:∀k,X k→¬Y k) (hn:d.dead=false) (hf:f≤100000) (hrow:d.row.length≤100000) (ht:L.top+1<18446744073709551616):
  Calls Tryz.prog 188 #[.pointer (some ⟨g,0,none⟩)] w (Ends X Y g gd f n (wr d f (headL (L.top+1))) ⟨true,[],1,L.top+1,L.met⟩ w):=by
 obtain ⟨a0,-,-,-,-,a6,-,-⟩:=h.cell5;have hgl:g<w.heap.size:=h.lt g h.yg;have CF:=Lib.hid (aG5 h hd hn);have CP:=Lib.hid (aEd w g gd (L.top+1) a0 hgl);have hw:=aLn L.top ht;have hXl:∀k,X k→k<w.heap.size:=fun k hk=>by obtain ⟨_,_,_,q⟩:=hd;exact q.lt k hk
 have CD:Hid (∀e w',aEz w g gd (L.top+1) e w'→Calls Tryz.prog 186 #[.pointer (some ⟨g,0,none⟩),.int .u64 ((L.top+1:Nat):Int),.slice (some ⟨w.heap.size+2,0,none⟩) 3 3] w' (Ends X Y g gd f n (wr d f (headL (L.top+1))) ⟨true,[],1,L.top+1,L.met⟩ w)):=fun e w' hp=>by
  obtain ⟨-,hb,hs,k0,k1,ho⟩:=aJ2 hp;have hfar:∀k,w.heap.size≤k→¬(X k∨Y k):=fun k hk hx=>by
   rcases hx with q|q
   ·have:=hXl k q;omega
   ·have:=h.lt k q;omega
  refine (aPh (C:=CH d L f (L.top+1) 100000) (B:=BH d f (L.top+1)) (aKe (R:=100000) ⟨k0,hfar _ (Nat.le_refl _),h.yg⟩ k1 (hfar _ (Nat.le_succ _)) ht (by omega) (by omega) hrow) (hd.below hb) (h.below hb) hxy (CH.start _ _ _ _ _) (RdV.of_own ho).1 (fun a ha=>by injection ha with ha;subst ha;exact hfar _ (by show _≤w.heap.size+2;omega)) (Nat.lt_succ_self _) (by omega)).mono ?_;rintro e2 w2 ⟨z,d',L',rfl,hh,(⟨rfl,hc⟩|⟨hz,L2,rfl,hbb⟩)⟩
  ·obtain ⟨q1,q2,_⟩:=hc.a3 rfl;rw [q1];subst q2;exact ⟨_,hh.ends hb 0,fun _=>rfl,fun hne=>absurd rfl hne⟩
  ·have hbb:wr d f (headL (L.top+1))=(z,d'):=hbb;rw [hbb];exact ⟨_,hh.ends hb z,fun h0=>absurd h0 hz,fun _=>rfl⟩
 generalize wr d f (headL (L.top+1))=r at*;clear h hd hxy hn hf hrow ht a0 hgl hXl;go_enter Tryz.func188,Tryz.ntmps188
 go_wp2_with fail;refine CF.out.mono ?_;rintro e _ ⟨rfl,rfl⟩;go_wp2_with fail;refine CP.out.mono ?_;rintro e w1 hp;have hp0:=hp;obtain ⟨rfl,-⟩:=hp;have HD:=Lib.hid (CD.out _ _ hp0);clear CD CP hp0;go_wp2_with fail;refine HD.out.mono ?_;rintro e w2 ⟨L',hw2,hz,hz2⟩;have HW2:=Lib.hid hw2;have HZ:=Lib.hid hz;have HZ2:=Lib.hid hz2;obtain ⟨rfl,-⟩:=hw2;clear hz hz2;go_wp2_with fail;go_ret;exact ⟨L',HW2.out,HZ.out,HZ2.out⟩
end Go.Proofs.YtgjmbbkcgillcaaGreat.Log
namespace Go.Proofs.YtgjmbbkcgillcaaGreat.Log
open Go.RowKit Disk
theorem Step1.mono {H:DK→LK→World→Prop} {v:Value} {P Q P' Q':DK→LK→Prop} {B B':Int→DK→LK→Prop} (E:Prop) (h:Step1 H v P Q B) (hp:∀d L,P' d L→P d L∧E) (hq:E→∀d L,Q d L→Q' d L) (hb:E→∀z d L,z≠0→B z d L→B' z d L):Step1 H v P' Q' B':=by
 obtain ⟨F,first,caps,h1,h2,h3⟩:=h;refine ⟨F,first,caps,h1,h2,fun W d L hH hP=>(h3 W d L hH (hp d L hP).1).mono ?_⟩;have he:=(hp d L hP).2;rintro e w' ⟨z,rfl,(⟨rfl,d',L',q1,q2⟩|⟨hz,d',L',q1,q2⟩)⟩
 ·exact ⟨0,rfl,.inl ⟨rfl,d',L',q1,hq he _ _ q2⟩⟩
 ·exact ⟨z,rfl,.inr ⟨hz,d',L',q1,hb he _ _ _ hz q2⟩⟩
structure Ready (w w2 w4:World) (X Y:Nat→Prop) (g gd st m c:Nat) (A:Option Addr) (vs:List Value):Prop where
 lies:Lies w4 X Y g w2.heap.size
 steps:aGi (w2.heap.size+6) w2.heap.size st (manyOf m) m c A w4 (List.range (manyOf m)) vs
 len:vs.length=manyOf m
 bb:Boxed w4 (w2.heap.size+2) 37 (.slice A m c)
 bm:Boxed w4 (w2.heap.size+3) 3 (.int .i64 (manyOf m:Nat))
 below:Below w.heap.size w w4
 far:∀k,w.heap.size≤k→¬(X k∨Y k)
 le:w.heap.size≤w2.heap.size
theorem Ready.of {w w2 w3:World} {X Y:Nat→Prop} {g gd st m c:Nat} {A:Option Addr} {e:Ending} (hb:Below w.heap.size w w2) (h:aBa w2 g gd st m c A e w3) (hX:∀k,X k→k<w.heap.size) (hY:∀k,Y k→k<w.heap.size) (hg:Y g):
  ∃R cap vs,e=.returned (.slice R (manyOf m+2) cap)∧w3.ownsRow w2.heap.size 284 1 (.slice R (manyOf m+2) cap) (manyOf m+2) (vs++[syncV gd,clo67 w2.heap.size (w2.heap.size+2) (w2.heap.size+3)])∧vs.length=manyOf m∧aGi (w2.heap.size+6) w2.heap.size st (manyOf m) m c A w3 (List.range (manyOf m)) vs∧Below w2.heap.size w2 w3∧
   ∀(w4:World) (row:Option Nat),w3.grownBy w4 row→(∀r,row=some r→w.heap.size≤r∧r<w2.heap.size)→Ready w w2 w4 X Y g gd st m c A vs:=by
 obtain ⟨R,cap,vs,h1,h2,h3,h4,h5,h6,h7,h8⟩:=h;refine ⟨R,cap,vs,h1,h2,h4,h3,h8,fun w4 row hgr hrow=>?_⟩;have keep:∀{k:Nat} {cs:Array Value} {t:TypeId} {fz:Nat×Nat},w2.heap.size≤k→w3.heap[k]? =some (.cells cs t fz)→w4.heap[k]? =some (.cells cs t fz):=fun {k cs t fz} hk hc=>(hgr.block k (Array.getElem?_eq_some_iff.1 hc).1 (fun e=>by have:=(hrow k e.symm).2;omega)).trans hc;have hfar:∀k,w.heap.size≤k→¬(X k∨Y k):=fun k hk hx=>by
  rcases hx with q|q
  ·have:=hX k q;omega
  ·have:=hY k q;omega
 have hle:=hb.size;exact ⟨⟨keep (Nat.le_refl _) h5,hfar _ hle,hg⟩,fun j x hj=>by
  obtain ⟨u,e1,bi,bf,e2,e3,e4,e5,e6⟩:=h3 j x hj;exact ⟨u,e1,bi,bf,e2,e3,e4,keep (by omega) e5,keep (by omega) e6⟩,h4,keep (by omega) h6,keep (by omega) h7,(hb.trans (h8.mono hle)).grown hgr (Nat.le_trans hle h8.size) (fun k e=>(hrow k e).1),hfar,hle⟩
theorem aN1 {w w2 w4:World} {X Y:Nat→Prop} {g gd f n:Nat} {L:LK} {d:DK} {m c:Nat} {A:Option Addr} {b:List UInt8} {vs:List Value} {R:Option Addr} {cap:Nat} (h:LgAt w Y g gd (f:Int) n L) (hd:DkAt w X gd d) (hxy:∀k,X k→¬Y k) (hr:Rd w A m b) (hA:∀a,A=some a→¬(X a.block∨Y a.block)) (hm:m≤10000000) (hmc:m≤c) (hM:manyOf m<65536)
  (hf:f+(L.end_+manyOf m)≤1000000) (hrow:d.row.length≤100000) (hrl:L.recs.length≤1000000) (ht:L.top+1<18446744073709551616) (hR:Ready w w2 w4 X Y g gd (L.top+1) m c A vs)
  (hown:w4.ownsRow w.heap.size 284 1 (.slice R (manyOf m+2) cap) (manyOf m+2) (vs++[syncV gd,clo67 w2.heap.size (w2.heap.size+2) (w2.heap.size+3)])):
  Calls Tryz.prog 186 #[.pointer (some ⟨g,0,none⟩),.int .u64 ((L.top+1:Nat):Int),.slice R (manyOf m+2) cap] w4 (Ends X Y g gd f n (wr d (f+L.end_) (leafs (L.top+1) (manyOf m) b)) ⟨L.head,L.recs++[b],L.end_+manyOf m,L.top+1,L.met⟩ w):=by
 have hfar:=hR.far;have hle:=hR.le;have hst:=aLe (f:=f) (n:=n) (gd:=gd) (R:=100000) (d1:=d) (L1:=L) hR.lies hR.steps hR.len hM hm hmc ht (fun k hk _=>hfar k (by omega)) (hr.below hR.below) hA hR.bb (hfar _ (by omega)) hR.bm (hfar _ (by omega)) hf (by omega) hrl;refine (aPh hst (hd.below hR.below) (h.below hR.below) hxy (CL.start _ _ _ _ _ _ hrow) (RdV.of_own hown).1 (fun a ha=>by subst ha;exact hfar _ (hown.lt a.block rfl).1) (Nat.lt_succ_self _) (by omega)).mono ?_;rintro e2 w2 ⟨z,d',L',rfl,hh,(⟨rfl,hc⟩|⟨hz,L2,rfl,hbb⟩)⟩
 ·obtain ⟨q1,q2⟩:=hc.kept rfl;rw [q1];subst q2;exact ⟨_,hh.ends hR.below 0,fun _=>rfl,fun hne=>absurd rfl hne⟩
 ·have hbb:wr d (f+L.end_) (leafs (L.top+1) (manyOf m) b)=(z,d'):=hbb;rw [hbb];exact ⟨_,hh.ends hR.below z,fun h0=>absurd h0 hz,fun _=>rfl⟩
def comH (d:DK) (f t M:Nat) (b:List UInt8):Int×DK:=if (wr d f (headL (t+1))).1≠0 then wr d f (headL (t+1)) else wr (wr d f (headL (t+1))).2 (f+1) (leafs (t+2) M b)
structure CB (d:DK) (L:LK) (f M:Nat) (b:List UInt8) (j:Nat) (d':DK) (L':LK):Prop where
 head:j<3→CH d L f (L.top+1) 100000 j d' L'
 rest:3≤j→(wr d f (headL (L.top+1))).1=0∧CL (wr d f (headL (L.top+1))).2 ⟨true,[],1,L.top+1,L.met⟩ f (L.top+2) M b 100001 (j - 3) d' L'
def BB (d:DK) (L:LK) (f M:Nat) (b:List UInt8) (z:Int) (d':DK) (_:LK):Prop:=comH d f L.top M b=(z,d')
theorem aMf {w wq w2 w4:World} {X Y:Nat→Prop} {g gd f n:Nat} {L:LK} {d:DK} {m c:Nat} {A:Option Addr} {b:List UInt8} {vs:List Value} {R:Option Addr} {cap:Nat} (h:LgAt w Y g gd (f:Int) n L) (hd:DkAt w X gd d) (hxy:∀k,X k→¬Y k) (hr:Rd w A m b) (hA:∀a,A=some a→¬(X a.block∨Y a.block)) (hm:m≤10000000) (hmc:m≤c) (hM:manyOf m<65536)
  (hf:f+(1+manyOf m)≤1000000) (hrow:d.row.length≤100000) (ht:L.top+2<18446744073709551616) (hR:Ready w w2 w4 X Y g gd (L.top+2) m c A vs) (hwq:w.heap.size≤wq.heap.size) (k0:Boxed w4 wq.heap.size 123 (.pointer (some ⟨g,0,none⟩))) (k1:Boxed w4 (wq.heap.size+1) 33 (.int .u64 ((L.top+1:Nat):Int)))
  (hown:w4.ownsRow w.heap.size 284 1 (.slice R (3+(manyOf m+2)) cap) (3+(manyOf m+2)) ([clo60 wq.heap.size (wq.heap.size+1),syncV gd,clo63 wq.heap.size]++(vs++[syncV gd,clo67 w2.heap.size (w2.heap.size+2) (w2.heap.size+3)]))):
  Calls Tryz.prog 186 #[.pointer (some ⟨g,0,none⟩),.int .u64 ((L.top+2:Nat):Int),.slice R (3+(manyOf m+2)) cap] w4 (Ends X Y g gd f n (comH d f L.top (manyOf m) b) ⟨true,[b],1+manyOf m,L.top+2,L.met⟩ w):=by
 have hfar:=hR.far;have hle:=hR.le;have hst:=aLe (f:=f) (n:=n) (gd:=gd) (R:=100001) (d1:=(wr d f (headL (L.top+1))).2) (L1:=⟨true,[],1,L.top+1,L.met⟩) hR.lies hR.steps hR.len hM hm hmc ht (fun k hk _=>hfar k (by omega)) (hr.below hR.below) hA hR.bb (hfar _ (by omega)) hR.bm (hfar _ (by omega)) hf (by omega) (Nat.zero_le _);have hsh:=aKe (f:=f) (n:=n) (gd:=gd) (R:=100000) (d0:=d) (L0:=L) ⟨k0,hfar _ hwq,hR.lies.yg⟩ k1 (hfar _ (Nat.le_succ_of_le hwq)) (by omega) (by omega) (by omega) hrow;have hC:∀j v,([clo60 wq.heap.size (wq.heap.size+1),syncV gd,clo63 wq.heap.size]++(vs++[syncV gd,clo67 w2.heap.size (w2.heap.size+2) (w2.heap.size+3)]))[j]? =some v→Step1 (Hold w4 X Y g gd f n) v (CB d L f (manyOf m) b j) (CB d L f (manyOf m) b (j+1)) (BB d L f (manyOf m) b):=by
  intro j v hv;rcases Nat.lt_or_ge j 3 with hj|hj
  ·rw [List.getElem?_append_left hj] at hv;refine (hsh j v hv).mono True (fun d' L' hc=>⟨hc.head hj,trivial⟩) (fun _ d' L' hc=>⟨fun _=>hc,fun h3=>?_⟩) (fun _ z d' L' hz hb=>?_)
   ·have hj2:j+1=3:=by omega
    obtain ⟨q1,rfl,q3⟩:=hc.a3 hj2;rw [hj2,q1];exact ⟨rfl,CL.start _ _ _ _ _ _ q3⟩
   ·have hb:wr d f (headL (L.top+1))=(z,d'):=hb;unfold BB comH;rw [hb,if_pos hz]
  ·rw [List.getElem?_append_right hj] at hv;refine (hst (j - 3) v hv).mono ((wr d f (headL (L.top+1))).1=0) (fun d' L' hc=>⟨(hc.rest hj).2,(hc.rest hj).1⟩) (fun he d' L' hc=>⟨fun hh=>by omega,fun _=>⟨he,by rw [show j+1 - 3=j - 3+1 by omega];exact hc⟩⟩) (fun he z d' L' hz hb=>?_);unfold BB comH;rw [if_neg (fun hh=>hh he)];exact hb
 refine (aPh hC (hd.below hR.below) (h.below hR.below) hxy ⟨fun _=>CH.start _ _ _ _ _,fun hh=>by omega⟩ (RdV.of_own hown).1 (fun a ha=>by subst ha;exact hfar _ (hown.lt a.block rfl).1) (by omega) (by omega)).mono ?_;rintro e2 w2 ⟨z,d',L',rfl,hh,(⟨rfl,hc⟩|⟨hz,L2,rfl,hbb⟩)⟩
 ·obtain ⟨he,hc⟩:=hc.rest (by omega);obtain ⟨q1,q2⟩:=hc.kept (by omega);have hq:comH d f L.top (manyOf m) b=(0,d'):=by
   unfold comH;rw [if_neg (fun hh=>hh he)];exact q1
  rw [hq];subst q2;exact ⟨_,hh.ends hR.below 0,fun _=>rfl,fun hne=>absurd rfl hne⟩
 ·have hbb:comH d f L.top (manyOf m) b=(z,d'):=hbb;rw [hbb];exact ⟨_,hh.ends hR.below z,fun h0=>absurd h0 hz,fun _=>rfl⟩
end Go.Proofs.YtgjmbbkcgillcaaGreat.Log
namespace Go.Proofs.YtgjmbbkcgillcaaGreat.Log
open Go.RowKit
theorem aUt {P:Program} {C:World→Prop} {id:Nat} {Q:Exit→Act→World→Prop} {a:Act} {w:World} {l:List Oper} (hm:P.follows .mixedOrders=true) (hB:Region.lexB .any l.toArray=true) (hC:C {w with drawn:=w.drawn+1})
  (h:wpQuiet P l.toArray C (fun a'=>∀w',C w'→Q .normal a' w') l a):(Code.region id l.toArray true).wp P Q a w:=wp_region_quiet hm hB hC (by simpa using h)
theorem aRr {c:Bool} {A B:Prop} (h:c=false) (hb:B):if c=true then A else B:=by rw [if_neg (by rw [h];exact Bool.false_ne_true)];exact hb
theorem aRs {c:Bool} {A B:Prop} (h:c=true) (ha:A):if c=true then A else B:=by rw [if_pos h];exact ha
structure WQ (P:Program) (ops:Array Oper) (C:World→Prop) (Q:Act→Prop) (l:List Oper) (a:Act):Prop where
 out:wpQuiet P ops C Q l a
section
variable {P:Program} {ops:Array Oper} {C:World→Prop} {Q:Act→Prop} {a:Act} {o:Oper} {rest:List Oper}
theorem aRi (h:Q a):WQ P ops C Q [] a:=⟨wpQuiet_nil h⟩
theorem aJj (h:Region.wanted o (yielded ops a.tmps)=false) (hb:WQ P ops C Q rest (a.put o.dst undef)):WQ P ops C Q (o::rest) a:=
 ⟨wpQuiet_step fun _ hK=>aRr h (hK _ hb.out)⟩
theorem aA3 (h:Region.wanted o (yielded ops a.tmps)=true) (hx:∃v,(∀W,C W→o.quietAt P a C W v)∧WQ P ops C Q rest (a.put o.dst v)):WQ P ops C Q (o::rest) a:=
 ⟨wpQuiet_step fun _ hK=>aRs h (hx.elim fun v hv=>⟨v,hv.1,hK _ hv.2.out⟩)⟩
end
theorem aQ9 {P:Program} {C:World→Prop} {id:Nat} {Q:Exit→Act→World→Prop} {a:Act} {w:World} {l:List Oper} (hm:P.follows .mixedOrders=true) (hB:Region.lexB .any l.toArray=true) (hC:C {w with drawn:=w.drawn+1})
  (h:WQ P l.toArray C (fun a'=>∀w',C w'→Q .normal a' w') l a):(Code.region id l.toArray true).wp P Q a w:=aUt hm hB hC h.out
end Go.Proofs.YtgjmbbkcgillcaaGreat.Log
namespace Go.Proofs.YtgjmbbkcgillcaaGreat.Log
open Go.RowKit Disk
set_option maxRecDepth 100000 in
theorem aPf {w:World} {X Y:Nat→Prop} {g gd f n:Nat} {L:LK} {d:DK} (h:LgAt w Y g gd (f:Int) n L) (hd:DkAt w X gd d) (hn:d.dead=false) (hmet:L.met=false) (hnn:n≤100000) (he:L.end_≤n) (A:Option Addr) (m c:Nat) (hfull:n<L.end_+manyOf m):
  Calls Tryz.prog 161 #[.pointer (some ⟨g,0,none⟩),.slice A m c] w fun e w'=>e=.returned (.int .i64 4)∧Below w.heap.size w w':=by
 have CF:=Lib.hid (aG5 h hd hn);obtain ⟨-,-,a2,-,a5,-,a7,-⟩:=h.cell5;rw [hmet] at a7;have HC:Hid (∀W,Below w.heap.size w W→W.cell? ⟨g,5,none⟩=some (.int .i64 (L.end_:Int))∧W.cell? ⟨g,2,none⟩=some (.int .i64 (n:Int))):=fun W hW=>by
  obtain ⟨-,-,b2,-,b5,-,-,-⟩:=(h.below hW).cell5;exact ⟨b5,b2⟩
 have CR:Hid (∀W,Below w.heap.size w W→Calls Tryz.prog 184 #[.pointer (some ⟨g,0,none⟩)] W fun e w'=>e=.returned (.int .i64 ((480*(n - L.end_):Nat):Int))∧Below W.heap.size W w'):=fun W hW=>aGo (h.below hW) hnn he;rw [aM2 m L.end_ n he] at hfull;have HR:Hid (L.end_≠n→((480*(n - L.end_):Nat):Int)<(m:Int)):=fun hne=>by omega
 clear h hd hn hmet hnn he hfull;obtain ⟨e,hE⟩:∃e:Nat,e=L.end_:=⟨_,rfl⟩;rw [←hE] at HC HR a5 CR;clear hE;generalize ((480*(n - e):Nat):Int)=room at*;go_enter Tryz.func161,Tryz.ntmps161
 go_wp2_with fail;refine CF.out.mono ?_;rintro ee _ ⟨rfl,rfl⟩;clear CF;by_cases hen:e=n
 ·subst hen;clear HR CR a2 a5;go_wp2_with fail;refine aQ9 (C:=fun W=>Below w.heap.size w W) (by kernel_rfl) (by kernel_rfl) (Below.refl w.heap.size w).drew ?_;refine aA3 (by kernel_rfl) ?_;apply Exists.intro
  refine And.intro (fun W hW=>?_) ?_
  ·unfold Oper.quietAt;go_simp;exact rfl
  try simp only [Act.put,List.setIfInBounds_toArray,List.set_cons_zero,List.set_cons_succ]
  refine aA3 (by kernel_rfl) ?_;apply Exists.intro
  refine And.intro (fun W hW=>?_) ?_
  ·have hh:=HC.out W hW;obtain ⟨h5,h2⟩:=hh;unfold Oper.quietAt;first
   |(go_simp;done)
   |(go_simp;exact rfl)
  try simp only [Act.put,List.setIfInBounds_toArray,List.set_cons_zero,List.set_cons_succ]
  refine aA3 (by kernel_rfl) ?_;apply Exists.intro
  refine And.intro (fun W hW=>?_) ?_
  ·have hh:=HC.out W hW;obtain ⟨h5,h2⟩:=hh;unfold Oper.quietAt;first
   |(go_simp;done)
   |(go_simp;exact rfl)
  try simp only [Act.put,List.setIfInBounds_toArray,List.set_cons_zero,List.set_cons_succ]
  refine aA3 (by kernel_rfl) ?_;apply Exists.intro
  refine And.intro (fun W hW=>?_) ?_
  ·have hh:=HC.out W hW;obtain ⟨h5,h2⟩:=hh;unfold Oper.quietAt;first
   |(go_simp;done)
   |(go_simp;exact rfl)
  try simp only [Act.put,List.setIfInBounds_toArray,List.set_cons_zero,List.set_cons_succ]
  refine aA3 (by kernel_rfl) ?_;apply Exists.intro
  refine And.intro (fun W hW=>?_) ?_
  ·unfold Oper.quietAt;go_simp;exact rfl
  try simp only [Act.put,List.setIfInBounds_toArray,List.set_cons_zero,List.set_cons_succ]
  refine aA3 (by kernel_rfl) ?_;apply Exists.intro
  refine And.intro (fun W hW=>?_) ?_
  ·have hh:=HC.out W hW;obtain ⟨h5,h2⟩:=hh;unfold Oper.quietAt;first
   |(go_simp;done)
   |(go_simp;exact rfl)
  try simp only [Act.put,List.setIfInBounds_toArray,List.set_cons_zero,List.set_cons_succ]
  refine aA3 (by kernel_rfl) ?_;apply Exists.intro
  refine And.intro (fun W hW=>?_) ?_
  ·have hh:=HC.out W hW;obtain ⟨h5,h2⟩:=hh;unfold Oper.quietAt;first
   |(go_simp;done)
   |(go_simp;exact rfl)
  try simp only [Act.put,List.setIfInBounds_toArray,List.set_cons_zero,List.set_cons_succ]
  refine aA3 (by kernel_rfl) ?_;apply Exists.intro
  refine And.intro (fun W hW=>?_) ?_
  ·have hh:=HC.out W hW;obtain ⟨h5,h2⟩:=hh;unfold Oper.quietAt;first
   |(go_simp;done)
   |(go_simp;exact rfl)
  try simp only [Act.put,List.setIfInBounds_toArray,List.set_cons_zero,List.set_cons_succ]
  refine aA3 (by kernel_rfl) ?_;apply Exists.intro
  refine And.intro (fun W hW=>?_) ?_
  ·have hh:=HC.out W hW;obtain ⟨h5,h2⟩:=hh;unfold Oper.quietAt;first
   |(go_simp;done)
   |(go_simp;exact rfl)
  try simp only [Act.put,List.setIfInBounds_toArray,List.set_cons_zero,List.set_cons_succ]
  refine aA3 (by kernel_rfl) ?_;apply Exists.intro
  refine And.intro (fun W hW=>?_) ?_
  ·unfold Oper.quietAt;go_simp;exact rfl
  try simp only [Act.put,List.setIfInBounds_toArray,List.set_cons_zero,List.set_cons_succ]
  refine aJj (by kernel_rfl) ?_
  try simp only [Act.put,List.setIfInBounds_toArray,List.set_cons_zero,List.set_cons_succ]
  refine aJj (by kernel_rfl) ?_
  try simp only [Act.put,List.setIfInBounds_toArray,List.set_cons_zero,List.set_cons_succ]
  refine aJj (by kernel_rfl) ?_
  try simp only [Act.put,List.setIfInBounds_toArray,List.set_cons_zero,List.set_cons_succ]
  refine aJj (by kernel_rfl) ?_
  try simp only [Act.put,List.setIfInBounds_toArray,List.set_cons_zero,List.set_cons_succ]
  refine aJj (by kernel_rfl) ?_
  try simp only [Act.put,List.setIfInBounds_toArray,List.set_cons_zero,List.set_cons_succ]
  refine aA3 (by kernel_rfl) ?_;apply Exists.intro
  refine And.intro (fun W hW=>?_) ?_
  ·have hh:=HC.out W hW;obtain ⟨h5,h2⟩:=hh;unfold Oper.quietAt;first
   |(go_simp;done)
   |(go_simp;exact rfl)
  try simp only [Act.put,List.setIfInBounds_toArray,List.set_cons_zero,List.set_cons_succ]
  refine aRi ?_;intro wq hwq;go_wp2_with fail;go_ret;exact ⟨rfl,hwq⟩
 ·have hr:=HR.out hen;have q1:((e:Int)==(n:Int))=false:=beq_eq_false_iff_ne.2 (by omega);clear HR a2 a5;go_wp2_with fail;refine aQ9 (C:=fun W=>Below w.heap.size w W) (by kernel_rfl) (by kernel_rfl) (Below.refl w.heap.size w).drew ?_;refine aA3 (by kernel_rfl) ?_;apply Exists.intro
  refine And.intro (fun W hW=>?_) ?_
  ·unfold Oper.quietAt;go_simp;exact rfl
  try simp only [Act.put,List.setIfInBounds_toArray,List.set_cons_zero,List.set_cons_succ]
  refine aA3 (by kernel_rfl) ?_;apply Exists.intro
  refine And.intro (fun W hW=>?_) ?_
  ·have hh:=HC.out W hW;obtain ⟨h5,h2⟩:=hh;unfold Oper.quietAt;first
   |(go_simp;done)
   |(go_simp;exact rfl)
  try simp only [Act.put,List.setIfInBounds_toArray,List.set_cons_zero,List.set_cons_succ]
  refine aA3 (by kernel_rfl) ?_;apply Exists.intro
  refine And.intro (fun W hW=>?_) ?_
  ·have hh:=HC.out W hW;obtain ⟨h5,h2⟩:=hh;unfold Oper.quietAt;first
   |(go_simp;done)
   |(go_simp;exact rfl)
  try simp only [Act.put,List.setIfInBounds_toArray,List.set_cons_zero,List.set_cons_succ]
  refine aA3 (by kernel_rfl) ?_;apply Exists.intro
  refine And.intro (fun W hW=>?_) ?_
  ·have hh:=HC.out W hW;obtain ⟨h5,h2⟩:=hh;unfold Oper.quietAt;first
   |(go_simp;done)
   |(go_simp;exact rfl)
  try simp only [Act.put,List.setIfInBounds_toArray,List.set_cons_zero,List.set_cons_succ]
  refine aA3 (by kernel_rfl) ?_;apply Exists.intro
  refine And.intro (fun W hW=>?_) ?_
  ·unfold Oper.quietAt;go_simp;exact rfl
  try simp only [Act.put,List.setIfInBounds_toArray,List.set_cons_zero,List.set_cons_succ]
  refine aA3 (by kernel_rfl) ?_;apply Exists.intro
  refine And.intro (fun W hW=>?_) ?_
  ·have hh:=HC.out W hW;obtain ⟨h5,h2⟩:=hh;unfold Oper.quietAt;first
   |(go_simp;done)
   |(go_simp;exact rfl)
  try simp only [Act.put,List.setIfInBounds_toArray,List.set_cons_zero,List.set_cons_succ]
  refine aA3 (by kernel_rfl) ?_;apply Exists.intro
  refine And.intro (fun W hW=>?_) ?_
  ·have hh:=HC.out W hW;obtain ⟨h5,h2⟩:=hh;unfold Oper.quietAt;first
   |(go_simp;done)
   |(go_simp;exact rfl)
  try simp only [Act.put,List.setIfInBounds_toArray,List.set_cons_zero,List.set_cons_succ]
  refine aA3 (by kernel_rfl) ?_;apply Exists.intro
  refine And.intro (fun W hW=>?_) ?_
  ·have hh:=HC.out W hW;obtain ⟨h5,h2⟩:=hh;unfold Oper.quietAt;first
   |(go_simp;done)
   |(go_simp;exact rfl)
  try simp only [Act.put,List.setIfInBounds_toArray,List.set_cons_zero,List.set_cons_succ]
  refine aA3 (by kernel_rfl) ?_;apply Exists.intro
  refine And.intro (fun W hW=>?_) ?_
  ·have hh:=HC.out W hW;obtain ⟨h5,h2⟩:=hh;unfold Oper.quietAt;first
   |(go_simp;done)
   |(go_simp;exact rfl)
  try simp only [Act.put,List.setIfInBounds_toArray,List.set_cons_zero,List.set_cons_succ]
  refine aA3 (by kernel_rfl) ?_;apply Exists.intro
  refine And.intro (fun W hW=>?_) ?_
  ·unfold Oper.quietAt;go_simp;exact rfl
  try simp only [Act.put,List.setIfInBounds_toArray,List.set_cons_zero,List.set_cons_succ]
  refine aA3 (by kernel_rfl) ?_;apply Exists.intro
  refine And.intro (fun W hW=>?_) ?_
  ·unfold Oper.quietAt;go_simp;exact rfl
  try simp only [Act.put,List.setIfInBounds_toArray,List.set_cons_zero,List.set_cons_succ]
  refine aA3 (by kernel_rfl) ?_;apply Exists.intro
  refine And.intro (fun W hW=>?_) ?_
  ·have hh:=HC.out W hW;obtain ⟨h5,h2⟩:=hh;unfold Oper.quietAt;first
   |(go_simp;done)
   |(go_simp;exact rfl)
  try simp only [Act.put,List.setIfInBounds_toArray,List.set_cons_zero,List.set_cons_succ]
  refine aA3 (by kernel_rfl) ?_;apply Exists.intro
  refine And.intro (fun W hW=>?_) ?_
  ·unfold Oper.quietAt;go_simp;exact rfl
  try simp only [Act.put,List.setIfInBounds_toArray,List.set_cons_zero,List.set_cons_succ]
  refine aA3 (by kernel_rfl) ?_;apply Exists.intro
  refine And.intro (fun W hW=>?_) ?_
  ·unfold Oper.quietAt;go_simp;refine (CR.out W hW).mono ?_;rintro e w'' ⟨rfl,hg⟩;exact ⟨rfl,hW.trans (hg.mono hW.size)⟩
  try simp only [Act.put,List.setIfInBounds_toArray,List.set_cons_zero,List.set_cons_succ]
  refine aA3 (by kernel_rfl) ?_;apply Exists.intro
  refine And.intro (fun W hW=>?_) ?_
  ·have hh:=HC.out W hW;obtain ⟨h5,h2⟩:=hh;unfold Oper.quietAt;first
   |(go_simp;done)
   |(go_simp;exact rfl)
  try simp only [Act.put,List.setIfInBounds_toArray,List.set_cons_zero,List.set_cons_succ]
  refine aA3 (by kernel_rfl) ?_;apply Exists.intro
  refine And.intro (fun W hW=>?_) ?_
  ·have hh:=HC.out W hW;obtain ⟨h5,h2⟩:=hh;unfold Oper.quietAt;first
   |(go_simp;done)
   |(go_simp;exact rfl)
  try simp only [Act.put,List.setIfInBounds_toArray,List.set_cons_zero,List.set_cons_succ]
  refine aRi ?_;intro wq hwq;go_wp2_with fail;go_ret;exact ⟨rfl,hwq⟩
end Go.Proofs.YtgjmbbkcgillcaaGreat.Log
namespace Go.Proofs.YtgjmbbkcgillcaaGreat.Log
open Go.RowKit Disk
theorem aO2 {B bl st M m c:Nat} {A:Option Addr} {W:World} {vs:List Value} (h:aGi B bl st M m c A W (List.range M) vs) (hl:vs.length=M) (u:Value) (hu:u∈vs):u.oneCell'=true:=by
 obtain ⟨j,hj,rfl⟩:=List.getElem_of_mem hu;obtain ⟨v,h1,bi,bf,h2,_⟩:=h j j (List.getElem?_range (by omega));rw [List.getElem?_eq_getElem hj] at h1;injection h1 with h1;rw [h1,h2];rfl
theorem aWj (t:Nat) (h:t+2<18446744073709551616):IntKind.u64.wrap ((t:Int)+1+1)=((t+2:Nat):Int):=by
 rw [IntKind.wrap_u64];omega
set_option maxRecDepth 100000 in
theorem aPb {w:World} {X Y:Nat→Prop} {g gd f n:Nat} {L:LK} {d:DK} (h:LgAt w Y g gd (f:Int) n L) (hd:DkAt w X gd d) (hxy:∀k,X k→¬Y k) (hn:d.dead=false) (hmet:L.met=false) (hf:f≤100000) (hnn:n≤20000) (he:1≤L.end_) (hrow:d.row.length≤100000) (hrl:L.recs.length≤100000) (ht:L.top+2<18446744073709551616) (A:Option Addr) (m c:Nat) (b:List UInt8) (hr:Rd w A m b) (hA:∀a,A=some a→¬(X a.block∨Y a.block)) (hmc:m≤c) (hroom:L.end_+manyOf m≤n) (hhead:L.head=true):
  Calls Tryz.prog 161 #[.pointer (some ⟨g,0,none⟩),.slice A m c] w (Ends X Y g gd f n (wr d (f+L.end_) (leafs (L.top+1) (manyOf m) b)) ⟨L.head,L.recs++[b],L.end_+manyOf m,L.top+1,L.met⟩ w):=by
 have hm:m≤10000000:=by have:=aF5 m;omega
 have hM:manyOf m<65536:=by omega
 have hXl:∀k,X k→k<w.heap.size:=fun k hk=>by obtain ⟨_,_,_,q⟩:=hd;exact q.lt k hk
 have hYl:∀k,Y k→k<w.heap.size:=h.lt;have hgl:g<w.heap.size:=h.lt g h.yg;have CF:=Lib.hid (aG5 h hd hn);obtain ⟨-,-,a2,-,a5,-,a7,-⟩:=h.cell5;rw [hmet] at a7;have HC:Hid (∀W,Below w.heap.size w W→W.cell? ⟨g,5,none⟩=some (.int .i64 (L.end_:Int))∧W.cell? ⟨g,2,none⟩=some (.int .i64 (n:Int))):=fun W hW=>by
  obtain ⟨-,-,b2,-,b5,-,-,-⟩:=(h.below hW).cell5;exact ⟨b5,b2⟩
 have HC2:Hid (∀W,Below w.heap.size w W→W.cell? ⟨g,0,none⟩=some (.pointer (some ⟨gd,0,none⟩))∧W.cell? ⟨g,3,none⟩=some (.bool true)∧W.cell? ⟨g,6,none⟩=some (.int .u64 (L.top:Int))):=fun W hW=>by
  obtain ⟨b0,-,-,b3,-,b6,-,-⟩:=(h.below hW).cell5;rw [hhead] at b3;exact ⟨b0,b3,b6⟩
 have CR:Hid (∀W,Below w.heap.size w W→Calls Tryz.prog 184 #[.pointer (some ⟨g,0,none⟩)] W fun e w'=>e=.returned (.int .i64 ((480*(n - L.end_):Nat):Int))∧Below W.heap.size W w'):=fun W hW=>aGo (h.below hW) (by omega) (by omega);have hfull:¬n<L.end_+manyOf m:=by omega
 rw [aM2 m L.end_ n (by omega)] at hfull;have hen:L.end_≠n:=fun hh=>hfull (.inr hh);have hr0:(((480*(n - L.end_):Nat):Int)<(m:Int))=False:=eq_false fun hh=>hfull (.inl (by omega));have q1:((L.end_:Int)==(n:Int))=false:=beq_eq_false_iff_ne.2 (by omega);have CPut:Hid (∀W st,Below w.heap.size w W→Calls Tryz.prog 187 #[.pointer (some ⟨g,0,none⟩),.int .u64 (st:Nat),.slice A m c] W (aBa W g gd st m c A)):=fun W st hW=>aHp W g gd st m c A hm hmc hM (HC2.out W hW).1 (Nat.lt_of_lt_of_le hgl hW.size);have HML:Hid (manyOf m<65536):=hM;obtain ⟨POST,hPOST⟩:∃POST,POST=Ends X Y g gd f n (wr d (f+L.end_) (leafs (L.top+1) (manyOf m) b)) ⟨L.head,L.recs++[b],L.end_+manyOf m,L.top+1,L.met⟩ w:=⟨_,rfl⟩;rw [←hPOST];have CDo:Hid (∀w2 w3 e,Below w.heap.size w w2→aBa w2 g gd (L.top+1) m c A e w3→∃R cap vs,e=.returned (.slice R (manyOf m+2) cap)∧RdV w3 R (manyOf m+2) vs∧(∀u∈vs,u.oneCell'=true)∧w.heap.size≤w3.heap.size∧∀w4 R' cap',w3.grownBy w4 none→w4.ownsRow w.heap.size 284 1 (.slice R' (manyOf m+2) cap') (manyOf m+2) vs→Calls Tryz.prog 186 #[.pointer (some ⟨g,0,none⟩),.int .u64 ((L.top+1:Nat):Int),.slice R' (manyOf m+2) cap'] w4 POST):=fun w2 w3 e hb hp=>by
  obtain ⟨R,cap,vs,q1,q2,q4,q5,q6,q3⟩:=Ready.of hb hp hXl hYl h.yg;refine ⟨R,cap,_,q1,(RdV.of_own q2).1,fun u hu=>?_,Nat.le_trans hb.size q6.size,fun w4 R' cap' hgr ho=>?_⟩
  ·rcases List.mem_append.1 hu with hu|hu
   ·exact aO2 q5 q4 u hu
   ·rcases List.mem_cons.1 hu with rfl|hu
    ·rfl
    ·rw [List.mem_singleton.1 hu];rfl
  ·rw [hPOST];exact aN1 h hd hxy hr hA hm hmc hM (by omega) hrow (by omega) (by omega) (q3 w4 none hgr (fun r e=>by cases e)) ho
 have EPOST:∀{e w'},POST e w'→∃v,e=.returned v:=fun {e w'} hh=>by
  rw [hPOST] at hh;obtain ⟨_,⟨q,_⟩,_⟩:=hh;exact ⟨_,q⟩
 have hw:=aLn L.top (by omega);clear h hd hxy hn hmet hf hnn he hrow hrl hr hA hmc hroom hm hM hXl hYl hgl a2 a5 hfull hen hhead ht hPOST;obtain ⟨e0,hE⟩:∃e:Nat,e=L.end_:=⟨_,rfl⟩;obtain ⟨top,hT⟩:∃t:Nat,t=L.top:=⟨_,rfl⟩;obtain ⟨M2,hM2⟩:∃M2,M2=manyOf m+2:=⟨_,rfl⟩;rw [←hE] at HC q1 CR hr0;rw [←hT] at HC2 CDo hw;have HM2:=Lib.hid hM2;clear hE hT hM2;generalize ((480*(n - e0):Nat):Int)=room at*;obtain ⟨i0,hi,hz0,hz1,hz2⟩:=infos aHy;have HI:=Lib.hid hi;have HZ0:=Lib.hid hz0;have HZ1:=Lib.hid hz1;have HZ2:=Lib.hid hz2;clear hi hz0 hz1 hz2;go_enter Tryz.func161,Tryz.ntmps161
 go_wp2_with fail;refine CF.out.mono ?_;rintro ee _ ⟨rfl,rfl⟩;clear CF;go_wp2_with fail;refine aQ9 (C:=fun W=>Below w.heap.size w W) (by kernel_rfl) (by kernel_rfl) (Below.refl w.heap.size w).drew ?_;refine aA3 (by kernel_rfl) ?_;apply Exists.intro
 refine And.intro (fun W hW=>?_) ?_
 ·unfold Oper.quietAt;go_simp;exact rfl
 try simp only [Act.put,List.setIfInBounds_toArray,List.set_cons_zero,List.set_cons_succ]
 refine aA3 (by kernel_rfl) ?_;apply Exists.intro
 refine And.intro (fun W hW=>?_) ?_
 ·have hh:=HC.out W hW;obtain ⟨h5,h2⟩:=hh;unfold Oper.quietAt;first
  |(go_simp;done)
  |(go_simp;exact rfl)
 try simp only [Act.put,List.setIfInBounds_toArray,List.set_cons_zero,List.set_cons_succ]
 refine aA3 (by kernel_rfl) ?_;apply Exists.intro
 refine And.intro (fun W hW=>?_) ?_
 ·have hh:=HC.out W hW;obtain ⟨h5,h2⟩:=hh;unfold Oper.quietAt;first
  |(go_simp;done)
  |(go_simp;exact rfl)
 try simp only [Act.put,List.setIfInBounds_toArray,List.set_cons_zero,List.set_cons_succ]
 refine aA3 (by kernel_rfl) ?_;apply Exists.intro
 refine And.intro (fun W hW=>?_) ?_
 ·have hh:=HC.out W hW;obtain ⟨h5,h2⟩:=hh;unfold Oper.quietAt;first
  |(go_simp;done)
  |(go_simp;exact rfl)
 try simp only [Act.put,List.setIfInBounds_toArray,List.set_cons_zero,List.set_cons_succ]
 refine aA3 (by kernel_rfl) ?_;apply Exists.intro
 refine And.intro (fun W hW=>?_) ?_
 ·unfold Oper.quietAt;go_simp;exact rfl
 try simp only [Act.put,List.setIfInBounds_toArray,List.set_cons_zero,List.set_cons_succ]
 refine aA3 (by kernel_rfl) ?_;apply Exists.intro
 refine And.intro (fun W hW=>?_) ?_
 ·have hh:=HC.out W hW;obtain ⟨h5,h2⟩:=hh;unfold Oper.quietAt;first
  |(go_simp;done)
  |(go_simp;exact rfl)
 try simp only [Act.put,List.setIfInBounds_toArray,List.set_cons_zero,List.set_cons_succ]
 refine aA3 (by kernel_rfl) ?_;apply Exists.intro
 refine And.intro (fun W hW=>?_) ?_
 ·have hh:=HC.out W hW;obtain ⟨h5,h2⟩:=hh;unfold Oper.quietAt;first
  |(go_simp;done)
  |(go_simp;exact rfl)
 try simp only [Act.put,List.setIfInBounds_toArray,List.set_cons_zero,List.set_cons_succ]
 refine aA3 (by kernel_rfl) ?_;apply Exists.intro
 refine And.intro (fun W hW=>?_) ?_
 ·have hh:=HC.out W hW;obtain ⟨h5,h2⟩:=hh;unfold Oper.quietAt;first
  |(go_simp;done)
  |(go_simp;exact rfl)
 try simp only [Act.put,List.setIfInBounds_toArray,List.set_cons_zero,List.set_cons_succ]
 refine aA3 (by kernel_rfl) ?_;apply Exists.intro
 refine And.intro (fun W hW=>?_) ?_
 ·have hh:=HC.out W hW;obtain ⟨h5,h2⟩:=hh;unfold Oper.quietAt;first
  |(go_simp;done)
  |(go_simp;exact rfl)
 try simp only [Act.put,List.setIfInBounds_toArray,List.set_cons_zero,List.set_cons_succ]
 refine aA3 (by kernel_rfl) ?_;apply Exists.intro
 refine And.intro (fun W hW=>?_) ?_
 ·unfold Oper.quietAt;go_simp;exact rfl
 try simp only [Act.put,List.setIfInBounds_toArray,List.set_cons_zero,List.set_cons_succ]
 refine aA3 (by kernel_rfl) ?_;apply Exists.intro
 refine And.intro (fun W hW=>?_) ?_
 ·unfold Oper.quietAt;go_simp;exact rfl
 try simp only [Act.put,List.setIfInBounds_toArray,List.set_cons_zero,List.set_cons_succ]
 refine aA3 (by kernel_rfl) ?_;apply Exists.intro
 refine And.intro (fun W hW=>?_) ?_
 ·have hh:=HC.out W hW;obtain ⟨h5,h2⟩:=hh;unfold Oper.quietAt;first
  |(go_simp;done)
  |(go_simp;exact rfl)
 try simp only [Act.put,List.setIfInBounds_toArray,List.set_cons_zero,List.set_cons_succ]
 refine aA3 (by kernel_rfl) ?_;apply Exists.intro
 refine And.intro (fun W hW=>?_) ?_
 ·unfold Oper.quietAt;go_simp;exact rfl
 try simp only [Act.put,List.setIfInBounds_toArray,List.set_cons_zero,List.set_cons_succ]
 refine aA3 (by kernel_rfl) ?_;apply Exists.intro
 refine And.intro (fun W hW=>?_) ?_
 ·unfold Oper.quietAt;go_simp;refine (CR.out W hW).mono ?_;rintro e w'' ⟨rfl,hg⟩;exact ⟨rfl,hW.trans (hg.mono hW.size)⟩
 try simp only [Act.put,List.setIfInBounds_toArray,List.set_cons_zero,List.set_cons_succ]
 refine aA3 (by kernel_rfl) ?_;apply Exists.intro
 refine And.intro (fun W hW=>?_) ?_
 ·have hh:=HC.out W hW;obtain ⟨h5,h2⟩:=hh;unfold Oper.quietAt;first
  |(go_simp;done)
  |(go_simp;exact rfl)
 try simp only [Act.put,List.setIfInBounds_toArray,List.set_cons_zero,List.set_cons_succ]
 refine aA3 (by kernel_rfl) ?_;apply Exists.intro
 refine And.intro (fun W hW=>?_) ?_
 ·have hh:=HC.out W hW;obtain ⟨h5,h2⟩:=hh;unfold Oper.quietAt;first
  |(go_simp;done)
  |(go_simp;exact rfl)
 try simp only [Act.put,List.setIfInBounds_toArray,List.set_cons_zero,List.set_cons_succ]
 refine aRi ?_;intro wq hwq;obtain ⟨b0,b3,b6⟩:=HC2.out wq hwq;have HWQ:=Lib.hid hwq;clear hwq q1 CR HC;go_wp2_with fail;refine (CPut.out wq (top+1) HWQ.out).mono ?_;intro ee w3 hp;have HP:=Lib.hid hp;obtain ⟨R,cap,vs,rfl,hrd,hone,hsz,hdo⟩:=CDo.out wq w3 _ HWQ.out hp;rw [←HM2.out] at hrd hdo ⊢;have HDO:=Lib.hid hdo;have HRD:=Lib.hid hrd;have HONE:=Lib.hid hone;have HS3:=Lib.hid hsz;have hM2s:M2≤65600:=by rw [HM2.out];have:=HML.out;omega
 clear hp hrd hone hsz hdo CDo CPut;go_wp2_with (at_builtin;refine aBg rfl (.tmp 50) (.tmp 54) _ rfl aHh HI.out HZ0.out HZ1.out HZ2.out rfl rfl (aD0 _ _ _) rfl HRD.out HONE.out (by unfold maxLen;omega) (by omega) HS3.out ?_)
 intro v' w4 hown4 hgr4;obtain ⟨R4,cap4,rfl⟩:=aAq hown4;have HDW:=Lib.hid (HDO.out w4 R4 cap4 hgr4 hown4);clear hown4 hgr4 HDO;go_wp2_with fail;refine HDW.out.mono ?_;rintro e w5 hq;have HQ:=Lib.hid hq;have he5:∃v,e=.returned v:=EPOST hq;obtain ⟨v5,rfl⟩:=he5;clear hq;go_wp2_with fail;exact HQ.out
set_option maxRecDepth 100000 in
theorem aOg {w:World} {X Y:Nat→Prop} {g gd f n:Nat} {L:LK} {d:DK} (h:LgAt w Y g gd (f:Int) n L) (hd:DkAt w X gd d) (hxy:∀k,X k→¬Y k) (hn:d.dead=false) (hmet:L.met=false) (hf:f≤100000) (hnn:n≤20000) (hrow:d.row.length≤100000) (ht:L.top+2<18446744073709551616) (A:Option Addr) (m c:Nat) (b:List UInt8) (hr:Rd w A m b) (hA:∀a,A=some a→¬(X a.block∨Y a.block)) (hmc:m≤c) (hroom:L.end_+manyOf m≤n) (hhead:L.head=false) (hend:L.end_=1):
  Calls Tryz.prog 161 #[.pointer (some ⟨g,0,none⟩),.slice A m c] w (Ends X Y g gd f n (comH d f L.top (manyOf m) b) ⟨true,[b],1+manyOf m,L.top+2,L.met⟩ w):=by
 have hm:m≤10000000:=by have:=aF5 m;omega
 have hM:manyOf m<65536:=by omega
 have hXl:∀k,X k→k<w.heap.size:=fun k hk=>by obtain ⟨_,_,_,q⟩:=hd;exact q.lt k hk
 have hYl:∀k,Y k→k<w.heap.size:=h.lt;have hgl:g<w.heap.size:=h.lt g h.yg;have CF:=Lib.hid (aG5 h hd hn);obtain ⟨-,-,a2,-,a5,-,a7,-⟩:=h.cell5;rw [hmet] at a7;have HC:Hid (∀W,Below w.heap.size w W→W.cell? ⟨g,5,none⟩=some (.int .i64 (L.end_:Int))∧W.cell? ⟨g,2,none⟩=some (.int .i64 (n:Int))):=fun W hW=>by
  obtain ⟨-,-,b2,-,b5,-,-,-⟩:=(h.below hW).cell5;exact ⟨b5,b2⟩
 have HC2:Hid (∀W,Below w.heap.size w W→W.cell? ⟨g,0,none⟩=some (.pointer (some ⟨gd,0,none⟩))∧W.cell? ⟨g,3,none⟩=some (.bool false)∧W.cell? ⟨g,6,none⟩=some (.int .u64 (L.top:Int))):=fun W hW=>by
  obtain ⟨b0,-,-,b3,-,b6,-,-⟩:=(h.below hW).cell5;rw [hhead] at b3;exact ⟨b0,b3,b6⟩
 have CR:Hid (∀W,Below w.heap.size w W→Calls Tryz.prog 184 #[.pointer (some ⟨g,0,none⟩)] W fun e w'=>e=.returned (.int .i64 ((480*(n - L.end_):Nat):Int))∧Below W.heap.size W w'):=fun W hW=>aGo (h.below hW) (by omega) (by omega);have hfull:¬n<L.end_+manyOf m:=by omega
 rw [aM2 m L.end_ n (by omega)] at hfull;have hen:L.end_≠n:=fun hh=>hfull (.inr hh);have hr0:(((480*(n - L.end_):Nat):Int)<(m:Int))=False:=eq_false fun hh=>hfull (.inl (by omega));have q1:((L.end_:Int)==(n:Int))=false:=beq_eq_false_iff_ne.2 (by omega);have CPut:Hid (∀W st,Below w.heap.size w W→Calls Tryz.prog 187 #[.pointer (some ⟨g,0,none⟩),.int .u64 (st:Nat),.slice A m c] W (aBa W g gd st m c A)):=fun W st hW=>aHp W g gd st m c A hm hmc hM (HC2.out W hW).1 (Nat.lt_of_lt_of_le hgl hW.size);have HML:Hid (manyOf m<65536):=hM;obtain ⟨POST,hPOST⟩:∃POST,POST=Ends X Y g gd f n (comH d f L.top (manyOf m) b) ⟨true,[b],1+manyOf m,L.top+2,L.met⟩ w:=⟨_,rfl⟩;rw [←hPOST];have CHd:Hid (∀W,Below w.heap.size w W→Calls Tryz.prog 185 #[.pointer (some ⟨g,0,none⟩),.int .u64 ((L.top+1:Nat):Int)] W (aEz W g gd (L.top+1))):=fun W hW=>aEd W g gd (L.top+1) (HC2.out W hW).1 (Nat.lt_of_lt_of_le hgl hW.size);have CDo:Hid (∀wq w2 w3 e0 e,Below w.heap.size w wq→aEz wq g gd (L.top+1) e0 w2→aBa w2 g gd (L.top+2) m c A e w3→∃R cap vs,e=.returned (.slice R (manyOf m+2) cap)∧RdV w3 R (manyOf m+2) vs∧(∀u∈vs,u.oneCell'=true)∧w.heap.size≤w3.heap.size∧
   w3.ownsRow w.heap.size 284 1 (.slice (some ⟨wq.heap.size+2,0,none⟩) 3 3) 3 [clo60 wq.heap.size (wq.heap.size+1),syncV gd,clo63 wq.heap.size]∧
   ∀w4 R' cap' N,N=3+(manyOf m+2)→w3.grownBy w4 (Value.slice (some ⟨wq.heap.size+2,0,none⟩) 3 3).ownBlock→w4.ownsRow w.heap.size 284 1 (.slice R' N cap') N ([clo60 wq.heap.size (wq.heap.size+1),syncV gd,clo63 wq.heap.size]++vs)→Calls Tryz.prog 186 #[.pointer (some ⟨g,0,none⟩),.int .u64 ((L.top+2:Nat):Int),.slice R' N cap'] w4 POST):=fun wq w2 w3 e0 e hbq hh hp=>by
  obtain ⟨-,hb2,hs2,k0,k1,ho2⟩:=aJ2 hh;have hbw:=hbq.trans (hb2.mono hbq.size);obtain ⟨R,cap,vs,q1,q2,q4,q5,q6,q3⟩:=Ready.of hbw hp hXl hYl h.yg;refine ⟨R,cap,_,q1,(RdV.of_own q2).1,fun u hu=>?_,Nat.le_trans hbw.size q6.size,aAh (ho2.kept (aA7 q6 none) (Classical.em _)) (Nat.le_trans hbq.size (Nat.le_add_right _ 2)),fun w4 R' cap' N hN hgr ho=>?_⟩
  ·rcases List.mem_append.1 hu with hu|hu
   ·exact aO2 q5 q4 u hu
   ·rcases List.mem_cons.1 hu with rfl|hu
    ·rfl
    ·rw [List.mem_singleton.1 hu];rfl
  ·subst hN;rw [hPOST];have hbl:=hbq.size;have kp:∀k,k<wq.heap.size+2→w4.heap[k]? =w2.heap[k]? :=fun k hk=>by
    rw [hgr.block k (Nat.lt_of_lt_of_le (by omega) q6.size) (fun e=>by have e:some k=some (wq.heap.size+2):=e;injection e with e;omega),q6.block k (by omega)]
   exact aMf h hd hxy hr hA hm hmc hM (by omega) hrow ht (q3 w4 _ hgr (fun r e=>by have e:some (wq.heap.size+2)=some r:=e;injection e with e;exact ⟨by omega,by omega⟩)) hbl ((kp _ (by omega)).trans k0) ((kp _ (by omega)).trans k1) ho
 have EPOST:∀{e w'},POST e w'→∃v,e=.returned v:=fun {e w'} hh=>by
  rw [hPOST] at hh;obtain ⟨_,⟨q,_⟩,_⟩:=hh;exact ⟨_,q⟩
 have hw:=aLn L.top (by omega);have hw2:=aWj L.top (by omega);have CPut2:Hid (∀wq w2 e0,Below w.heap.size w wq→aEz wq g gd (L.top+1) e0 w2→Calls Tryz.prog 187 #[.pointer (some ⟨g,0,none⟩),.int .u64 ((L.top+2:Nat):Int),.slice A m c] w2 (aBa w2 g gd (L.top+2) m c A)):=fun wq w2 e0 hbq hh=>by
  obtain ⟨-,hb2,-⟩:=aJ2 hh;exact CPut.out w2 (L.top+2) (hbq.trans (hb2.mono hbq.size))
 clear h hd hxy hn hmet hf hnn hrow hr hA hmc hroom hm hM hXl hYl hgl a2 a5 hfull hen hhead ht hPOST hend;obtain ⟨e0,hE⟩:∃e:Nat,e=L.end_:=⟨_,rfl⟩;obtain ⟨top,hT⟩:∃t:Nat,t=L.top:=⟨_,rfl⟩;obtain ⟨M2,hM2⟩:∃M2,M2=manyOf m+2:=⟨_,rfl⟩;rw [←hE] at HC q1 CR hr0;rw [←hT] at HC2 CDo hw hw2 CHd CPut2;have HM2:=Lib.hid hM2;clear hE hT hM2;generalize ((480*(n - e0):Nat):Int)=room at*;obtain ⟨i0,hi,hz0,hz1,hz2⟩:=infos aHy;have HI:=Lib.hid hi;have HZ0:=Lib.hid hz0;have HZ1:=Lib.hid hz1;have HZ2:=Lib.hid hz2;clear hi hz0 hz1 hz2;go_enter Tryz.func161,Tryz.ntmps161
 go_wp2_with fail;refine CF.out.mono ?_;rintro ee _ ⟨rfl,rfl⟩;clear CF;go_wp2_with fail;refine aQ9 (C:=fun W=>Below w.heap.size w W) (by kernel_rfl) (by kernel_rfl) (Below.refl w.heap.size w).drew ?_;refine aA3 (by kernel_rfl) ?_;apply Exists.intro
 refine And.intro (fun W hW=>?_) ?_
 ·unfold Oper.quietAt;go_simp;exact rfl
 try simp only [Act.put,List.setIfInBounds_toArray,List.set_cons_zero,List.set_cons_succ]
 refine aA3 (by kernel_rfl) ?_;apply Exists.intro
 refine And.intro (fun W hW=>?_) ?_
 ·have hh:=HC.out W hW;obtain ⟨h5,h2⟩:=hh;unfold Oper.quietAt;first
  |(go_simp;done)
  |(go_simp;exact rfl)
 try simp only [Act.put,List.setIfInBounds_toArray,List.set_cons_zero,List.set_cons_succ]
 refine aA3 (by kernel_rfl) ?_;apply Exists.intro
 refine And.intro (fun W hW=>?_) ?_
 ·have hh:=HC.out W hW;obtain ⟨h5,h2⟩:=hh;unfold Oper.quietAt;first
  |(go_simp;done)
  |(go_simp;exact rfl)
 try simp only [Act.put,List.setIfInBounds_toArray,List.set_cons_zero,List.set_cons_succ]
 refine aA3 (by kernel_rfl) ?_;apply Exists.intro
 refine And.intro (fun W hW=>?_) ?_
 ·have hh:=HC.out W hW;obtain ⟨h5,h2⟩:=hh;unfold Oper.quietAt;first
  |(go_simp;done)
  |(go_simp;exact rfl)
 try simp only [Act.put,List.setIfInBounds_toArray,List.set_cons_zero,List.set_cons_succ]
 refine aA3 (by kernel_rfl) ?_;apply Exists.intro
 refine And.intro (fun W hW=>?_) ?_
 ·unfold Oper.quietAt;go_simp;exact rfl
 try simp only [Act.put,List.setIfInBounds_toArray,List.set_cons_zero,List.set_cons_succ]
 refine aA3 (by kernel_rfl) ?_;apply Exists.intro
 refine And.intro (fun W hW=>?_) ?_
 ·have hh:=HC.out W hW;obtain ⟨h5,h2⟩:=hh;unfold Oper.quietAt;first
  |(go_simp;done)
  |(go_simp;exact rfl)
 try simp only [Act.put,List.setIfInBounds_toArray,List.set_cons_zero,List.set_cons_succ]
 refine aA3 (by kernel_rfl) ?_;apply Exists.intro
 refine And.intro (fun W hW=>?_) ?_
 ·have hh:=HC.out W hW;obtain ⟨h5,h2⟩:=hh;unfold Oper.quietAt;first
  |(go_simp;done)
  |(go_simp;exact rfl)
 try simp only [Act.put,List.setIfInBounds_toArray,List.set_cons_zero,List.set_cons_succ]
 refine aA3 (by kernel_rfl) ?_;apply Exists.intro
 refine And.intro (fun W hW=>?_) ?_
 ·have hh:=HC.out W hW;obtain ⟨h5,h2⟩:=hh;unfold Oper.quietAt;first
  |(go_simp;done)
  |(go_simp;exact rfl)
 try simp only [Act.put,List.setIfInBounds_toArray,List.set_cons_zero,List.set_cons_succ]
 refine aA3 (by kernel_rfl) ?_;apply Exists.intro
 refine And.intro (fun W hW=>?_) ?_
 ·have hh:=HC.out W hW;obtain ⟨h5,h2⟩:=hh;unfold Oper.quietAt;first
  |(go_simp;done)
  |(go_simp;exact rfl)
 try simp only [Act.put,List.setIfInBounds_toArray,List.set_cons_zero,List.set_cons_succ]
 refine aA3 (by kernel_rfl) ?_;apply Exists.intro
 refine And.intro (fun W hW=>?_) ?_
 ·unfold Oper.quietAt;go_simp;exact rfl
 try simp only [Act.put,List.setIfInBounds_toArray,List.set_cons_zero,List.set_cons_succ]
 refine aA3 (by kernel_rfl) ?_;apply Exists.intro
 refine And.intro (fun W hW=>?_) ?_
 ·unfold Oper.quietAt;go_simp;exact rfl
 try simp only [Act.put,List.setIfInBounds_toArray,List.set_cons_zero,List.set_cons_succ]
 refine aA3 (by kernel_rfl) ?_;apply Exists.intro
 refine And.intro (fun W hW=>?_) ?_
 ·have hh:=HC.out W hW;obtain ⟨h5,h2⟩:=hh;unfold Oper.quietAt;first
  |(go_simp;done)
  |(go_simp;exact rfl)
 try simp only [Act.put,List.setIfInBounds_toArray,List.set_cons_zero,List.set_cons_succ]
 refine aA3 (by kernel_rfl) ?_;apply Exists.intro
 refine And.intro (fun W hW=>?_) ?_
 ·unfold Oper.quietAt;go_simp;exact rfl
 try simp only [Act.put,List.setIfInBounds_toArray,List.set_cons_zero,List.set_cons_succ]
 refine aA3 (by kernel_rfl) ?_;apply Exists.intro
 refine And.intro (fun W hW=>?_) ?_
 ·unfold Oper.quietAt;go_simp;refine (CR.out W hW).mono ?_;rintro e w'' ⟨rfl,hg⟩;exact ⟨rfl,hW.trans (hg.mono hW.size)⟩
 try simp only [Act.put,List.setIfInBounds_toArray,List.set_cons_zero,List.set_cons_succ]
 refine aA3 (by kernel_rfl) ?_;apply Exists.intro
 refine And.intro (fun W hW=>?_) ?_
 ·have hh:=HC.out W hW;obtain ⟨h5,h2⟩:=hh;unfold Oper.quietAt;first
  |(go_simp;done)
  |(go_simp;exact rfl)
 try simp only [Act.put,List.setIfInBounds_toArray,List.set_cons_zero,List.set_cons_succ]
 refine aA3 (by kernel_rfl) ?_;apply Exists.intro
 refine And.intro (fun W hW=>?_) ?_
 ·have hh:=HC.out W hW;obtain ⟨h5,h2⟩:=hh;unfold Oper.quietAt;first
  |(go_simp;done)
  |(go_simp;exact rfl)
 try simp only [Act.put,List.setIfInBounds_toArray,List.set_cons_zero,List.set_cons_succ]
 refine aRi ?_;intro wq hwq;obtain ⟨b0,b3,b6⟩:=HC2.out wq hwq;have HWQ:=Lib.hid hwq;clear hwq q1 CR HC;go_wp2_with fail;refine (CHd.out wq HWQ.out).mono ?_;intro ee w2 hh;have HH:=Lib.hid hh;obtain ⟨rfl,-⟩:=hh;clear CHd CPut;go_wp2_with fail;refine (CPut2.out wq w2 _ HWQ.out HH.out).mono ?_;intro ee w3 hp;obtain ⟨R,cap,vs,rfl,hrd,hone,hsz,hown,hdo⟩:=CDo.out wq w2 w3 _ _ HWQ.out HH.out hp;rw [←HM2.out] at hrd hdo ⊢;have HDO:=Lib.hid hdo;have HRD:=Lib.hid hrd;have HONE:=Lib.hid hone;have HS3:=Lib.hid hsz;have HOW:=Lib.hid hown;have hM2s:M2≤65600:=by rw [HM2.out];have:=HML.out;omega
 clear hp hrd hone hsz hdo hown CDo CPut2;go_wp2_with (at_builtin;refine aBg rfl (.tmp 50) (.tmp 54) _ rfl aHh HI.out HZ0.out HZ1.out HZ2.out rfl rfl HOW.out rfl HRD.out HONE.out (by unfold maxLen;omega) (by omega) HS3.out ?_)
 intro v' w4 hown4 hgr4;obtain ⟨N,hN⟩:∃N,N=3+M2:=⟨_,rfl⟩;rw [←hN] at hown4;obtain ⟨R4,cap4,rfl⟩:=aAq hown4;have HDW:=Lib.hid (HDO.out w4 R4 cap4 N hN hgr4 hown4);clear hown4 hgr4 HDO hN;go_wp2_with fail;refine HDW.out.mono ?_;rintro e w5 hq;have HQ:=Lib.hid hq;have he5:∃v,e=.returned v:=EPOST hq;obtain ⟨v5,rfl⟩:=he5;clear hq;go_wp2_with fail;exact HQ.out
end Go.Proofs.YtgjmbbkcgillcaaGreat.Log
