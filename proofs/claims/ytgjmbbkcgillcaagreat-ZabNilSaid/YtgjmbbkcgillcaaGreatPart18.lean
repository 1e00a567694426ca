/- Lemmas, part 18: LogPutting, LogDoesAll -/
import Derived.Test.YtgjmbbkcgillcaaGreatPart17
import Derived.Stop.RegionWithIn
import Derived.Maps.AppendAt
import Derived.Test.YtgjmbbkcgillcaaGreatPart9
set_option maxHeartbeats 16000000
namespace Go.Proofs.YtgjmbbkcgillcaaGreat.Log
open Go.Op Go.RowKit Go.Maps Disk
attribute [local go_sem] Oper.semAt_some
theorem aHy:(Tryz.prog.info? 284).map (fun i=>(i.zero,i.size,i.bytes))=some (some Value.nilFunc,1,8):=by kernel_rfl
theorem aHh:Tryz.prog.underlying 258=some (.slice 284):=by kernel_rfl
def aP6 (ats:Array TypeId) (ty:TypeId) (args:Array Value):Sem Value:=Builtin.append_ ats ty args
theorem aO6 (ats:Array TypeId) (ty:TypeId) (cs:Array Bool) (args:Array Value):builtin .append ats ty cs args=(do pure (.value (←aP6 ats ty args))):=rfl
attribute [local go_sem ↓ 2000] aO6
theorem bBj (A:Option Addr) (m c:Nat) (w:World):
  Calls Tryz.prog 222 #[.slice A m c] w fun e w'=>e=.returned (.func (.func 244) #[] #[.pointer (some ⟨w.heap.size,0,none⟩)])∧w'=w.alloc (.cells #[.slice A m c] 37):=by
 go_enter Tryz.func222,Tryz.ntmps222
 go_wp2_with fail;go_ret;exact ⟨rfl,rfl⟩
def clo66 (bl bi bf:Nat):Value:=.func (.func 223) #[] #[.pointer (some ⟨bl,0,none⟩),.pointer (some ⟨bi,0,none⟩),.pointer (some ⟨bf,0,none⟩)]
def leafC (st M:Nat) (A:Option Addr) (m c x:Nat):Array Value:=#[.int .u64 (st:Int),.int .u16 (IntKind.u16.wrap (x:Int)),.int .u16 (IntKind.u16.wrap (M:Int)),slC A m c x]
def StepAt (B bl st M m c:Nat) (A:Option Addr) (W:World) (x:Nat) (v:Value):Prop:=
 ∃bi bf,v=clo66 bl bi bf∧B≤bi∧B≤bf∧Boxed W bi 3 (.int .i64 (x:Int))∧Bk W bf 248 (leafC st M A m c x)
def aGi (B bl st M m c:Nat) (A:Option Addr) (W:World) (pre:List Nat) (vs:List Value):Prop:=
 ∀(j x:Nat),pre[j]? =some x→∃v,vs[j]? =some v∧StepAt B bl st M m c A W x v
structure PutI (w:World) (g st M m c:Nat) (A:Option Addr) (pre:List Nat) (W:World):Prop where
 row:∃v vs,Boxed W (w.heap.size+4) 258 v∧W.ownsRow (w.heap.size+6) 284 1 v pre.length vs∧aGi (w.heap.size+6) w.heap.size st M m c A W pre vs
 b0:Boxed W w.heap.size 123 (.pointer (some ⟨g,0,none⟩))
 b1:Boxed W (w.heap.size+1) 33 (.int .u64 (st:Int))
 b2:Boxed W (w.heap.size+2) 37 (.slice A m c)
 b3:Boxed W (w.heap.size+3) 3 (.int .i64 (M:Int))
 size:w.heap.size+6≤W.heap.size
 below:Below w.heap.size w W
theorem aC7 {W W':World} {row:Option Nat} {k:Nat} {cs:Array Value} {t:TypeId} {fz:Nat×Nat} (h:W.heap[k]? =some (.cells cs t fz)) (hg:W.grownBy W' row) (hr:∀r,row=some r→∃o:Obj,W.heap[r]? =some o∧o.isCells=false):W'.heap[k]? =some (.cells cs t fz):=by
 refine (hg.block k (Array.getElem?_eq_some_iff.1 h).1 fun e=>?_).trans h;obtain ⟨o,h1,h2⟩:=hr k e.symm;rw [h] at h1;cases h1
 cases h2
theorem PutI.own (w:World) (g st M m c:Nat) (A:Option Addr):OwnFrom (w.heap.size+6) (PutI w g st M m c A):=by
 intro pre W W' row h hg hr;have hr2:=fun r e=>(hr r e).2;obtain ⟨⟨v,vs,kv,ho,hs⟩,k0,k1,k2,k3,hsz,hb⟩:=h;refine ⟨⟨v,vs,aC7 kv hg hr2,ho.kept hg ?_,fun j x hj=>?_⟩,aC7 k0 hg hr2,aC7 k1 hg hr2,aC7 k2 hg hr2,aC7 k3 hg hr2,Nat.le_trans hsz hg.size,hb.grown hg (by omega) (fun k e=>by have:=(hr k e).1;omega)⟩
 ·rcases ho.2 with ⟨rfl,_⟩|⟨q,cap,cur,rfl,_,hgb,_⟩
  ·exact .inl rfl
  ·refine .inr fun e'=>?_;obtain ⟨o,ho,hc⟩:=hr2 q (by simpa [Value.ownBlock] using e'.symm);rw [hgb] at ho;cases ho;cases hc
 ·obtain ⟨v,h1,bi,bf,h2,h3,h4,h5,h6⟩:=hs j x hj;exact ⟨v,h1,bi,bf,h2,h3,h4,aC7 h5 hg hr2,aC7 h6 hg hr2⟩
def onlyN (K:Act→World→Prop):Exit→Act→World→Prop
 |.normal,a,w=>K a w
 |_,_,_=>False
theorem aTf {F:Fence} {n:Nat} {P:Program} {c:Code} {Q:Exit→Act→World→Prop} {a:Act} {w:World} (h:c.wpIn F n P (onlyN (Q .normal)) a w):c.wpIn F n P Q a w:=
 wpIn_mono h fun e a w hq=>by
  cases e with
  |normal=>exact hq
  |_=>exact hq.elim
def aBa (w:World) (g gd st m c:Nat) (A:Option Addr) (e:Ending) (w':World):Prop:=
 ∃R cap vs,e=.returned (.slice R (manyOf m+2) cap)∧w'.ownsRow w.heap.size 284 1 (.slice R (manyOf m+2) cap) (manyOf m+2) (vs++[.func (.func 219) #[.pointer (some ⟨gd,0,none⟩)] #[],.func (.func 224) #[] #[.pointer (some ⟨w.heap.size,0,none⟩),.pointer (some ⟨w.heap.size+2,0,none⟩),.pointer (some ⟨w.heap.size+3,0,none⟩)]])∧
  aGi (w.heap.size+6) w.heap.size st (manyOf m) m c A w' (List.range (manyOf m)) vs∧vs.length=manyOf m∧
  Boxed w' w.heap.size 123 (.pointer (some ⟨g,0,none⟩))∧Boxed w' (w.heap.size+2) 37 (.slice A m c)∧Boxed w' (w.heap.size+3) 3 (.int .i64 (manyOf m:Nat))∧Below w.heap.size w w'
set_option maxRecDepth 100000 in
theorem aHp (w:World) (g gd st m c:Nat) (A:Option Addr) (hm:m≤10000000) (hmc:m≤c) (hM:manyOf m<65536) (a0:w.cell? ⟨g,0,none⟩=some (.pointer (some ⟨gd,0,none⟩))) (hg:g<w.heap.size):
  Calls Tryz.prog 187 #[.pointer (some ⟨g,0,none⟩),.int .u64 (st:Int),.slice A m c] w (aBa w g gd st m c A):=by
 refine (callsIn_wide (n:=12)).1 ?_;have h1:1≤12:=by decide
 have cP:=fun W=>aL7 m (by omega) W;have HCUT:=Lib.hid (fun n hn bt w hc=>aWd n hn A m c bt w hc hm hmc);have HMM:Hid (manyOf m<65536):=hM;have HPO:Hid (∀e w',aBa w g gd st m c A e w'→aBa w g gd st m c A e w'):=fun _ _ h=>h;have HA:=Lib.hid a0;have HG:=Lib.hid hg;clear hM hm hmc a0 hg;refine callsIn_of_wp_marks Tryz.func187 rfl trivial ?_ rfl;simp only [Tryz.ntmps187,List.size_toArray,List.length_cons,List.length_nil,Nat.reduceAdd,Nat.reduceSub,Array.replicate_succ,Array.replicate_zero,List.push_toArray,List.append_toArray,List.nil_append,List.cons_append]
 gi_wp2_with (refine ⟨trivial,?_⟩;first
  |(gi_at_call 221;refine (callsIn_wide.2 (cP _)).mono ?_;rintro e w' ⟨rfl,rfl⟩)
  |(gi_at_call 222;refine (callsIn_wide.2 (bBj A m c _)).mono ?_;rintro e w' ⟨rfl,rfl⟩))
 have hB0:Below w.heap.size w ((((((w.alloc (.cells #[.pointer (some ⟨g,0,none⟩)] 123)).alloc (.cells #[.int .u64 (st:Int)] 33)).alloc (.cells #[.slice A m c] 37)).alloc (.cells #[.int .i64 ((manyOf m:Nat):Int)] 3)).alloc (.cells #[.slice none 0 0] 258)).alloc (.cells #[.slice A m c] 37)):=((((((Below.refl _ _).alloc (Nat.le_refl _) _).alloc (by simp) _).alloc (by simp;omega) _).alloc (by simp;omega) _).alloc (by simp;omega) _).alloc (by simp;omega) _;obtain ⟨W0,hW0⟩:∃W0,W0=((((((w.alloc (.cells #[.pointer (some ⟨g,0,none⟩)] 123)).alloc (.cells #[.int .u64 (st:Int)] 33)).alloc (.cells #[.slice A m c] 37)).alloc (.cells #[.int .i64 ((manyOf m:Nat):Int)] 3)).alloc (.cells #[.slice none 0 0] 258)).alloc (.cells #[.slice A m c] 37)):=⟨_,rfl⟩;have K0:Boxed W0 w.heap.size 123 (.pointer (some ⟨g,0,none⟩)):=by
  rw [hW0];exact (((((Boxed.new w _ _).alloc _).alloc _).alloc _).alloc _).alloc _
 have K1:Boxed W0 (w.heap.size+1) 33 (.int .u64 (st:Int)):=by
  rw [hW0];exact ((((by have:=Boxed.new (w.alloc (.cells #[.pointer (some ⟨g,0,none⟩)] 123)) 33 (.int .u64 (st:Int));rwa [World.size_alloc] at this:Boxed ((w.alloc (.cells #[.pointer (some ⟨g,0,none⟩)] 123)).alloc (.cells #[.int .u64 (st:Int)] 33)) (w.heap.size+1) 33 (.int .u64 (st:Int))).alloc _).alloc _).alloc _).alloc _
 have K2:Boxed W0 (w.heap.size+2) 37 (.slice A m c):=by
  rw [hW0];refine Boxed.alloc (Boxed.alloc (Boxed.alloc ?_ _) _) _;have:=Boxed.new ((w.alloc (.cells #[.pointer (some ⟨g,0,none⟩)] 123)).alloc (.cells #[.int .u64 (st:Int)] 33)) 37 (.slice A m c);simpa only [World.size_alloc] using this
 have K3:Boxed W0 (w.heap.size+3) 3 (.int .i64 ((manyOf m:Nat):Int)):=by
  rw [hW0];refine Boxed.alloc (Boxed.alloc ?_ _) _;have:=Boxed.new (((w.alloc (.cells #[.pointer (some ⟨g,0,none⟩)] 123)).alloc (.cells #[.int .u64 (st:Int)] 33)).alloc (.cells #[.slice A m c] 37)) 3 (.int .i64 ((manyOf m:Nat):Int));simpa only [World.size_alloc] using this
 have K4:Boxed W0 (w.heap.size+4) 258 (.slice none 0 0):=by
  rw [hW0];refine Boxed.alloc ?_ _;have:=Boxed.new ((((w.alloc (.cells #[.pointer (some ⟨g,0,none⟩)] 123)).alloc (.cells #[.int .u64 (st:Int)] 33)).alloc (.cells #[.slice A m c] 37)).alloc (.cells #[.int .i64 ((manyOf m:Nat):Int)] 3)) 258 (.slice none 0 0);simpa only [World.size_alloc] using this
 have K5:Boxed W0 (w.heap.size+5) 37 (.slice A m c):=by
  rw [hW0];have:=Boxed.new (((((w.alloc (.cells #[.pointer (some ⟨g,0,none⟩)] 123)).alloc (.cells #[.int .u64 (st:Int)] 33)).alloc (.cells #[.slice A m c] 37)).alloc (.cells #[.int .i64 ((manyOf m:Nat):Int)] 3)).alloc (.cells #[.slice none 0 0] 258)) 37 (.slice A m c);simpa only [World.size_alloc] using this
 have hsz:W0.heap.size=w.heap.size+6:=by rw [hW0];simp
 rw [←hW0] at hB0 ⊢;clear hW0;have hseq:=HCUT.out 11 (by decide) (w.heap.size+1+1+1+1+1) W0 K5.cell;obtain ⟨i0,hi,hz0,hz1,hz2⟩:=infos aHy;have HI:=Lib.hid hi;have HZ0:=Lib.hid hz0;have HZ1:=Lib.hid hz1;have HZ2:=Lib.hid hz2;clear hi hz0 hz1 hz2;have hPI:PutI w g st (manyOf m) m c A [] W0:=⟨⟨_,[],K4,aD0 _ _ _,fun j x hj=>by simp at hj⟩,K0,K1,K2,K3,by omega,hB0⟩;have hOwn:=PutI.own w g st (manyOf m) m c A;rw [←hsz] at hOwn;refine wpIn_rangeFunc_ownH rfl h1 (gf:=244) (lb:=#[.pointer (some ⟨w.heap.size+1+1+1+1+1,0,none⟩)]) rfl trivial (enters_of Tryz.func244 (by kernel_rfl) rfl)
  hseq (fun h k=>⟨Nat.le_trans h.1 k.1,k.2.trans h.2⟩) (fun W l o o' hl h1 h2 h3=>⟨by simp,World.putObj_heap_other (by omega)⟩) (Below.refl _ _) (fun _=>rfl)
  (PutI w g st (manyOf m) m c A) (fun _ _ _=>False) hOwn (fun c=>fun _ _ _ _ hs _ _=>hs) hPI
  (fun x a' W=>∃bi,a'={tmps:=#[.pointer (some ⟨g,0,none⟩),.int .u64 (st:Int),.slice A m c,.pointer (some ⟨w.heap.size,0,none⟩),.pointer (some ⟨w.heap.size+1,0,none⟩),.pointer (some ⟨w.heap.size+1+1,0,none⟩),.slice none 0 0,.pointer (some ⟨w.heap.size+1+1+1,0,none⟩),.pointer (some ⟨w.heap.size+1+1+1+1,0,none⟩),.pointer (some ⟨bi,0,none⟩),slC A m c x,undef,.slice A m c,.int .i64 (m:Int),.int .i64 ((manyOf m:Nat):Int),.slice A m c,.func (.func 244) #[] #[.pointer (some ⟨w.heap.size+1+1+1+1+1,0,none⟩)],.int .i64 (x:Int),slC A m c x,undef,undef,undef,undef,undef,undef,undef,undef,undef,undef,undef,undef,undef,undef,undef,undef,undef,undef,undef,undef],defers:=[]}∧w.heap.size+6≤bi∧Boxed W bi 3 (.int .i64 (x:Int)))
  (fun x a' u W W' row ⟨bi,h1,h2,h3⟩ hg hr=>⟨bi,h1,h2,aC7 h3 hg fun r e=>(hr r e).2⟩) ?assign ?body ?done ?stop
 case assign=>
  intro l pre x W K hI hK;dsimp only [encC]
  gi_wp2
  have hs0:=hI.size;exact hK _ _ ((KeepsOthers.alloc W _).from _) ⟨by simp,Below.heap_alloc _ _ _ (by omega)⟩ (hOwn.alloc _ hI) ⟨W.heap.size,rfl,hs0,Boxed.new _ _ _⟩
 case body=>
  rintro l pre x a' W hl hrec hI ⟨bi,rfl,hbi,hBI⟩ hN;clear hPI hOwn hseq K0 K1 K2 K3 K4 K5 hB0;have HW:=Lib.hid hI;have HBI:=Lib.hid hBI;have c0:=hBI.cell;have c1:=hI.b1.cell;have c3:=hI.b3.cell;obtain ⟨⟨v,vs,kv,ho,hst⟩,-,-,-,-,hszW,-⟩:=hI;have c4:=kv.cell;have KV:=Lib.hid kv;have HOW:=Lib.hid ho;have HST:=Lib.hid hst;clear kv ho hst;have hlen:pre.length≤65536:=by have:=HMM.out;omega
  have hWl:W.heap.size<(W.alloc (.cells (leafC st (manyOf m) A m c x) 248)).heap.size:=by simp
  obtain ⟨v',w5,hrun,hown5,hgrow5,-,-⟩:=run_append_own_at (P:=Tryz.prog) ((W.alloc (.cells (leafC st (manyOf m) A m c x) 248)).alloc (.cells #[clo66 w.heap.size bi W.heap.size] 284)) (w.heap.size+6) 258 258 284 i0 _ 1 8 aHh HI.out HZ0.out HZ1.out HZ2.out rfl (by omega) v _ _ ((HOW.out.alloc _).alloc _) ⟨W.heap.size+1,0,none⟩ 1 1 [clo66 w.heap.size bi W.heap.size] rfl
   (fun j u hu=>by
    have:=(aD8 (W.alloc (.cells (leafC st (manyOf m) A m c x) 248)) 284 [clo66 w.heap.size bi W.heap.size]).cells (by simp);obtain ⟨ad,e,hc⟩:=this;injection e with e;subst e;rw [World.size_alloc] at hc;exact hc j u hu) (by simp [Value.oneCell',clo66]) (by unfold maxLen;omega) (by omega) (by simp;omega)
  obtain ⟨gg,cap,rfl⟩:=ownsRow_succ hown5;have KV1:Boxed ((W.alloc (.cells (leafC st (manyOf m) A m c x) 248)).alloc (.cells #[clo66 w.heap.size bi W.heap.size] 284)) (w.heap.size+4) 258 v:=(KV.out.alloc _).alloc _;have KV5:Boxed w5 (w.heap.size+4) 258 v:=KV1.kept hgrow5 (KV.out.not_row (by decide) HOW.out);have c4a:=(KV.out.alloc (.cells (leafC st (manyOf m) A m c x) 248)).cell;have c45:=KV5.cell;have f45:=KV5.frozen;have HOW5:=Lib.hid hown5;have HG5:=Lib.hid hgrow5;have HKV5:=Lib.hid KV5;clear hown5 hgrow5 KV1 KV5 hBI;obtain ⟨A2,n2,c2,he⟩:∃A2 n2 c2,slC A m c x=.slice A2 n2 c2:=⟨_,_,_,rfl⟩;have HE:=Lib.hid he;unfold clo66 leafC at hrun c4a;rw [he] at hrun c4a ⊢;clear he;change (aP6 _ _ _).run _ _=_ at hrun
  gi_wp2
  have HFK:Hid (∀k,k<W.heap.size→k≠w.heap.size+4→some k≠v.ownBlock→(w5.setCell ⟨w.heap.size+4,0,none⟩ (.slice (some ⟨gg,0,none⟩) (pre.length+1) cap)).heap[k]? =W.heap[k]?):=fun k hk hne hr=>by
   rw [Below.heap_setCell _ _ _ _ hne,HG5.out.block k (by simp;omega) hr,Below.heap_alloc _ _ _ (by simp;omega),Below.heap_alloc _ _ _ hk]
  have HFT:Hid (∀(k:Nat) (cs:Array Value) (t:TypeId) (fz:Nat×Nat),W.heap[k]? =some (.cells cs t fz)→t≠284→k≠w.heap.size+4→(w5.setCell ⟨w.heap.size+4,0,none⟩ (.slice (some ⟨gg,0,none⟩) (pre.length+1) cap)).heap[k]? =some (.cells cs t fz)):=fun k cs t fz hk ht hne=>by
   refine (HFK.out k (Array.getElem?_eq_some_iff.1 hk).1 hne fun e=>?_).trans hk;obtain ⟨c1,f1,q1⟩:=Lib.ownsRow_kind HOW.out k e.symm;rw [hk] at q1;injection q1 with q1;injection q1 with _ q3;exact ht q3
  obtain ⟨-,b4,b5,b6,b7⟩:=Boxed.appended (KV.out.alloc (.cells (leafC st (manyOf m) A m c x) 248)) (by decide) (aAh (HOW.out.alloc _) (Nat.le_trans (Nat.le_add_right _ 2) (Nat.le_refl _))) (by simp;omega) (Nat.le_refl _) (aAh HOW5.out (Nat.le_trans (Nat.le_add_right _ 2) (Nat.le_refl _))) HG5.out;have hW:=HW.out;refine ⟨((KeepsOthers.alloc W _).trans b6).from _,⟨Nat.le_trans (Nat.le_of_lt hWl) b7.size,HFK.out _ (by omega) (by omega) fun e=>?_⟩,⟨_,vs++[clo66 w.heap.size bi W.heap.size],b4,?_,?_⟩,HFT.out _ _ _ _ hW.b0 (by decide) (by omega),HFT.out _ _ _ _ hW.b1 (by decide) (by omega),HFT.out _ _ _ _ hW.b2 (by decide) (by omega),HFT.out _ _ _ _ hW.b3 (by decide) (by omega),?_,?_⟩
  ·have:=(HOW.out.lt _ e.symm).1;omega
  ·rw [List.length_append];exact HOW5.out.kept (grownBy_setCell' w5 _ _) (.inr (b4.not_row (by decide) b5).symm)
  ·intro j y hj;have hvl:vs.length=pre.length:=by have:=HOW.out.1;simpa using this
   rcases Nat.lt_or_ge j pre.length with hjl|hjl
   ·rw [List.getElem?_append_left hjl] at hj;obtain ⟨u,e1,bi',bf',e2,e3,e4,e5,e6⟩:=HST.out j y hj;exact ⟨u,by rw [List.getElem?_append_left (by omega)];exact e1,bi',bf',e2,e3,e4,HFT.out _ _ _ _ e5 (by decide) (by omega),HFT.out _ _ _ _ e6 (by decide) (by omega)⟩
   ·rw [List.getElem?_append_right hjl] at hj;have hj0:j - pre.length=0:=by
     have:=(List.getElem?_eq_some_iff.1 hj).1;simp at this;omega
    rw [hj0] at hj;simp at hj;subst hj;refine ⟨_,by rw [List.getElem?_append_right (by omega),hvl,hj0];rfl,bi,W.heap.size,rfl,hbi,hszW,HFT.out _ _ _ _ HBI.out (by decide) (by omega),?_⟩;have hne9:W.heap.size≠w.heap.size+4:=by clear hrun;omega
    show (w5.setCell _ _).heap[_]? =_;rw [Below.heap_setCell _ _ _ _ hne9,HG5.out.block _ (by simp;omega) fun e=>?_,Below.heap_alloc _ _ _ hWl]
    ·exact Bk.new W 248 _
    ·have:=(HOW.out.lt _ e.symm).2;omega
  ·exact Nat.le_trans (Nat.le_trans hszW (Nat.le_of_lt hWl)) b7.size
  ·refine hW.below.trans (((Below.refl _ W).alloc (by omega) _).trans (b7.mono (by omega)))
 case done=>
  rintro D ys W hD rfl hI hK;clear hPI hOwn hseq K0 K1 K2 K3 K4 K5 hB0;have HW:=Lib.hid hI;have hca:=(hI.below.cell (p:=⟨g,0,none⟩) HG.out).trans HA.out;have c0:=hI.b0.cell;obtain ⟨⟨v,vs,kv,ho,hst⟩,-,-,-,-,hszW,-⟩:=hI;have c4:=kv.cell;rw [List.length_range] at ho;have HKK:=Lib.hid hK;have HOW:=Lib.hid ho;have HST:=Lib.hid hst;clear kv ho hst hK;have hlen:manyOf m≤65536:=by have:=HMM.out;omega
  have hrow2:=aD8 W.drew 284 [.func (.func 219) #[.pointer (some ⟨gd,0,none⟩)] #[],.func (.func 224) #[] #[.pointer (some ⟨w.heap.size,0,none⟩),.pointer (some ⟨w.heap.size+1+1,0,none⟩),.pointer (some ⟨w.heap.size+1+1+1,0,none⟩)]];have HOWd:Hid (W.drew.ownsRow (w.heap.size+6) 284 1 v (manyOf m) vs):=HOW.out.kept (aA7 (Below.refl _ _).drew none) (Classical.em _);obtain ⟨v',w5,hrun,hown5,hgrow5,-,-⟩:=run_append_own_at (P:=Tryz.prog) (W.drew.alloc (.cells #[.func (.func 219) #[.pointer (some ⟨gd,0,none⟩)] #[],.func (.func 224) #[] #[.pointer (some ⟨w.heap.size,0,none⟩),.pointer (some ⟨w.heap.size+1+1,0,none⟩),.pointer (some ⟨w.heap.size+1+1+1,0,none⟩)]] 284)) (w.heap.size+6) 258 258 284 i0 _ 1 8 aHh HI.out HZ0.out HZ1.out HZ2.out rfl (by omega) v _ _ (HOWd.out.alloc _) ⟨W.heap.size,0,none⟩ 2 2 [.func (.func 219) #[.pointer (some ⟨gd,0,none⟩)] #[],.func (.func 224) #[] #[.pointer (some ⟨w.heap.size,0,none⟩),.pointer (some ⟨w.heap.size+1+1,0,none⟩),.pointer (some ⟨w.heap.size+1+1+1,0,none⟩)]] rfl
   (fun j u hu=>by
    obtain ⟨ad,e,hc⟩:=hrow2.cells (by simp);injection e with e;subst e;exact hc j u hu) (by simp [Value.oneCell']) (by unfold maxLen;omega) (by omega) (by simp;omega)
  clear hrow2;obtain ⟨gg,cap,rfl⟩:=ownsRow_succ hown5;have HOW5:=Lib.hid hown5;have HG5:=Lib.hid hgrow5;have HC4:Hid (W.drew.cell? ⟨w.heap.size+4,0,none⟩=some v):=c4;have hrun2:(aP6 #[258,258] 258 #[v,.slice (some ⟨W.heap.size,0,none⟩) 2 2]).run Tryz.prog (W.alloc (.cells #[.func (.func 219) #[.pointer (some ⟨gd,0,none⟩)] #[],.func (.func 224) #[] #[.pointer (some ⟨w.heap.size,0,none⟩),.pointer (some ⟨w.heap.size+1+1,0,none⟩),.pointer (some ⟨w.heap.size+1+1+1,0,none⟩)]] 284)).drew=_:=hrun;have c4b:(W.alloc (.cells #[.func (.func 219) #[.pointer (some ⟨gd,0,none⟩)] #[],.func (.func 224) #[] #[.pointer (some ⟨w.heap.size,0,none⟩),.pointer (some ⟨w.heap.size+1+1,0,none⟩),.pointer (some ⟨w.heap.size+1+1+1,0,none⟩)]] 284)).drew.cell? ⟨w.heap.size+4,0,none⟩=some v:=
   (World.cell?_of_block (w:=W) (Below.heap_alloc _ _ _ (by show w.heap.size+4<_;omega))).trans c4
  have hDl:D<W.heap.size:=(Array.getElem?_eq_some_iff.1 HKK.out).1;have hK5:w5.heap[D]? =some (.deferred (some [])):=by
   rw [HG5.out.block D (by simp;omega) fun e=>?_,Below.heap_alloc _ _ _ (show D<W.drew.heap.size from hDl)]
   ·exact HKK.out
   ·obtain ⟨c1,f1,q1⟩:=Lib.ownsRow_kind HOW.out D e.symm;rw [HKK.out] at q1;cases q1
  have hb5:Below w.heap.size w w5:=by
   refine (HW.out.below.trans ((Below.refl _ W).drew)).trans (((Below.refl _ W.drew).alloc (Nat.le_trans (by omega) (Nat.le_refl W.heap.size)) _).grown HG5.out (by simp;omega) fun k e=>?_);have:=(HOW.out.lt k e).1;omega
  have HFT:Hid (∀(k:Nat) (cs:Array Value) (t:TypeId) (fz:Nat×Nat),W.heap[k]? =some (.cells cs t fz)→t≠284→(w5.putObj D (.deferred none)).heap[k]? =some (.cells cs t fz)):=fun k cs t fz hk ht=>by
   have hkl:k<W.heap.size:=(Array.getElem?_eq_some_iff.1 hk).1;rw [World.putObj_heap_other (fun e=>by rw [e,HKK.out] at hk;cases hk),HG5.out.block k (by simp;omega) fun e=>?_,Below.heap_alloc _ _ _ (show k<W.drew.heap.size from hkl)]
   ·exact hk
   ·obtain ⟨c1,f1,q1⟩:=Lib.ownsRow_kind HOW.out k e.symm;rw [hk] at q1;injection q1 with q1;injection q1 with _ q3;exact ht q3
  have HFIN:Hid (aBa w g gd st m c A (.returned (.slice (some ⟨gg,0,none⟩) (manyOf m+1+1) cap)) (w5.putObj D (.deferred none))):=by
   have hW:=HW.out;refine ⟨_,cap,vs,rfl,aAh (ownsRow_putObj HOW5.out (.deferred none) hK5 rfl) (by omega),fun j x hj=>?_,?_,HFT.out _ _ _ _ hW.b0 (by decide),HFT.out _ _ _ _ hW.b2 (by decide),HFT.out _ _ _ _ hW.b3 (by decide),hb5.grown (grownBy_putObj' w5 D (.deferred none)) hb5.size (fun k e=>by cases e;omega)⟩
   ·obtain ⟨u,e1,bi',bf',e2,e3,e4,e5,e6⟩:=HST.out j x hj;exact ⟨u,e1,bi',bf',e2,e3,e4,HFT.out _ _ _ _ e5 (by decide),HFT.out _ _ _ _ e6 (by decide)⟩
   ·have:=HOW.out.1;simpa using this
  have HK5:=Lib.hid hK5;clear hown5 hgrow5 hrun hK5 hb5 hDl hD hsz
  gi_wp2_with fail
  refine aTf ?_
  gi_region_with (fail)
  all_goals unfold onlyN
  all_goals gi_wp2_with fail
  all_goals refine ⟨by simp,.inl ⟨_,_,rfl,run_takeDeferred HK5.out,?_⟩⟩
  all_goals refine ⟨_,results_tmp rfl _ _ _,?_⟩
  all_goals first
   |exact HFIN.out
   |(simp;exact HFIN.out)
   |trace_state
 case stop=>
  rintro D c pre W _ _ hx _;exact hx.elim
end Go.Proofs.YtgjmbbkcgillcaaGreat.Log
namespace Go.Proofs.YtgjmbbkcgillcaaGreat.Log
open Go.RowKit Disk
def syncV (gd:Nat):Value:=.func (.func 219) #[.pointer (some ⟨gd,0,none⟩)] #[]
def clo60 (bl bs:Nat):Value:=.func (.func 217) #[] #[.pointer (some ⟨bl,0,none⟩),.pointer (some ⟨bs,0,none⟩)]
def clo63 (bl:Nat):Value:=.func (.func 220) #[] #[.pointer (some ⟨bl,0,none⟩)]
def clo67 (bl bb bm:Nat):Value:=.func (.func 224) #[] #[.pointer (some ⟨bl,0,none⟩),.pointer (some ⟨bb,0,none⟩),.pointer (some ⟨bm,0,none⟩)]
def aEz (w:World) (g gd st:Nat) (e:Ending) (w':World):Prop:=
 e=.returned (.slice (some ⟨w.heap.size+2,0,none⟩) 3 3)∧w'=((w.alloc (.cells #[.pointer (some ⟨g,0,none⟩)] 123)).alloc (.cells #[.int .u64 (st:Int)] 33)).alloc (.cells #[clo60 w.heap.size (w.heap.size+1),syncV gd,clo63 w.heap.size] 284)
theorem aEd (w:World) (g gd st:Nat) (a0:w.cell? ⟨g,0,none⟩=some (.pointer (some ⟨gd,0,none⟩))) (hg:g<w.heap.size):
  Calls Tryz.prog 185 #[.pointer (some ⟨g,0,none⟩),.int .u64 (st:Int)] w (aEz w g gd st):=by
 have a1:((w.alloc (.cells #[.pointer (some ⟨g,0,none⟩)] 123)).alloc (.cells #[.int .u64 (st:Int)] 33)).cell? ⟨g,0,none⟩=some (.pointer (some ⟨gd,0,none⟩)):=by
  rw [World.cell?_of_block (w:=w.alloc _) (Below.heap_alloc _ _ _ (by simp;omega)),World.cell?_of_block (w:=w) (Below.heap_alloc _ _ _ hg)];exact a0
 go_enter Tryz.func185,Tryz.ntmps185
 go_wp2_with fail;go_ret;exact ⟨rfl,rfl⟩
def Hold (w1:World) (X0 Y0:Nat→Prop) (g gd f n:Nat) (d:DK) (L:LK) (W:World):Prop:=
 ∃X Y,DkAt W X gd d∧LgAt W Y g gd (f:Int) n L∧Out (fun k=>X0 k∨Y0 k) w1 W∧(∀k,X k→X0 k∨w1.heap.size≤k)∧(∀k,Y k→Y0 k∨w1.heap.size≤k)∧∀k,X k→¬Y k
theorem Hold.then {w1:World} {X0 Y0:Nat→Prop} {g gd f n:Nat} {d:DK} {L:LK} {W:World} {F:FuncId} {args:Array Value} {z:Int} {d':DK} {L':LK} (h:Hold w1 X0 Y0 g gd f n d L W)
  (hc:∀X Y,DkAt W X gd d→LgAt W Y g gd (f:Int) n L→(∀k,X k→¬Y k)→(∀k,k<w1.heap.size→X k∨Y k→X0 k∨Y0 k)→Calls Tryz.prog F args W (WrPost X Y g gd f n z d' L' W)):
  Calls Tryz.prog F args W fun e w'=>e=.returned (.int .i64 z)∧Hold w1 X0 Y0 g gd f n d' L' w':=by
 obtain ⟨X,Y,h1,h2,h3,h4,h5,h6⟩:=h;refine (hc X Y h1 h2 h6 fun k hk hxy=>?_).mono ?_
 ·rcases hxy with q|q
  ·rcases h4 k q with r|r
   ·exact .inl r
   ·omega
  ·rcases h5 k q with r|r
   ·exact .inr r
   ·omega
 ·rintro e w' ⟨rfl,X',Y',q1,q2,q3,q4,q5,q6⟩;have hs:=h3.size;refine ⟨rfl,X',Y',q1,q2,h3.trans q3 (fun k hk=>?_),fun k hk=>?_,fun k hk=>?_,q6⟩
  ·rcases hk with q|q
   ·rcases h4 k q with r|r
    ·exact .inl (.inl r)
    ·exact .inr r
   ·rcases h5 k q with r|r
    ·exact .inl (.inr r)
    ·exact .inr r
  ·rcases q4 k hk with r|r
   ·exact h4 k r
   ·exact .inr (by omega)
  ·rcases q5 k hk with r|r
   ·exact h5 k r
   ·exact .inr (by omega)
def Step1 (H:DK→LK→World→Prop) (v:Value) (P Q:DK→LK→Prop) (B:Int→DK→LK→Prop):Prop:=
 ∃F first caps,v=.func (.func F) first caps∧(∀W,(callFunc F (first++caps)).run Tryz.prog W=.ok (.enter F (first++caps)) W)∧
  ∀W d L,H d L W→P d L→Calls Tryz.prog F (first++caps) W fun e w'=>∃z:Int,e=.returned (.int .i64 z)∧((z=0∧∃d' L',H d' L' w'∧Q d' L')∨(z≠0∧∃d' L',H d' L' w'∧B z d' L'))
theorem bAz {H:DK→LK→World→Prop} {vs:List Value} {C:Nat→DK→LK→Prop} {B:Int→DK→LK→Prop} (h:∀j v,vs[j]? =some v→Step1 H v (C j) (C (j+1)) B):
  Does vs (fun j W=>∃d L,H d L W∧C j d L) (fun z W=>∃d L,H d L W∧B z d L):=
 ⟨fun j v hv=>by
  obtain ⟨F,first,caps,h1,h2,h3⟩:=h j v hv;exact ⟨F,first,caps,h1,h2,fun W ⟨d,L,hH,hC⟩=>h3 W d L hH hC⟩⟩
theorem aFo {w1:World} {X0 Y0:Nat→Prop} {g gd f n:Nat} {v:Value} {P Q:DK→LK→Prop} {B:Int→DK→LK→Prop} (F:FuncId) (first caps:Array Value) (hv:v=.func (.func F) first caps) (he:∀W,(callFunc F (first++caps)).run Tryz.prog W=.ok (.enter F (first++caps)) W) (zf:DK→LK→Int) (df:DK→LK→DK) (lf:DK→LK→LK)
  (h:∀W d L,Out (fun k=>X0 k∨Y0 k) w1 W→P d L→∀X Y,DkAt W X gd d→LgAt W Y g gd (f:Int) n L→(∀k,X k→¬Y k)→(∀k,k<w1.heap.size→X k∨Y k→X0 k∨Y0 k)→Calls Tryz.prog F (first++caps) W (WrPost X Y g gd f n (zf d L) (df d L) (lf d L) W))
  (hq:∀d L,P d L→zf d L=0→Q (df d L) (lf d L)) (hb:∀d L,P d L→zf d L≠0→B (zf d L) (df d L) (lf d L)):Step1 (Hold w1 X0 Y0 g gd f n) v P Q B:=by
 refine ⟨F,first,caps,hv,he,fun W d L hH hP=>?_⟩;have ho:Out (fun k=>X0 k∨Y0 k) w1 W:=by
  obtain ⟨_,_,_,_,ho,_⟩:=hH;exact ho
 refine (hH.then (h W d L ho hP)).mono ?_;rintro e w' ⟨rfl,hh⟩;refine ⟨_,rfl,?_⟩;by_cases hz:zf d L=0
 ·exact .inl ⟨hz,_,_,hh,hq d L hP hz⟩
 ·exact .inr ⟨hz,_,_,hh,hb d L hP hz⟩
theorem aC6 {w1 W:World} {Z:Nat→Prop} (ho:Out Z w1 W) {k:Nat} {t:TypeId} {v:Value} (h:Boxed w1 k t v) (hz:¬Z k):Boxed W k t v:=(ho.block k h.lt hz).trans h
theorem aMt {w1:World} {X0 Y0:Nat→Prop} {g gd f n:Nat} {P Q:DK→LK→Prop} {B:Int→DK→LK→Prop} (hrow:∀d L,P d L→d.row.length≤1000000)
  (hq:∀d L,P d L→d.sync.1=0→Q d.sync.2 L) (hb:∀d L,P d L→d.sync.1≠0→B d.sync.1 d.sync.2 L):Step1 (Hold w1 X0 Y0 g gd f n) (syncV gd) P Q B:=
 aFo 219 _ _ rfl (fun W=>bAu _ W) (fun d _=>d.sync.1) (fun d _=>d.sync.2) (fun _ L=>L)
  (fun W d L _ hP X Y hd hl hxy _=>(aYf hd (hrow d L hP)).mono fun e w' ⟨h1,X',h2,h3,h4⟩=>by
   have hlt:∀k,Y k→k<W.heap.size:=hl.lt;refine ⟨h1,X',Y,h2,hl.out h3 (fun k hy hx=>hxy k hx hy),h3.mono fun k hk=>.inl (.inl hk),h4,fun k hk=>.inl hk,fun k hx hy=>?_⟩;rcases h4 k hx with q|q
   ·exact hxy k q hy
   ·have:=hlt k hy;omega)
  hq hb
theorem aVf {w1:World} {X0 Y0:Nat→Prop} {g gd f n:Nat} {P Q:DK→LK→Prop} {B:Int→DK→LK→Prop} (bl:Nat) (hbl:Boxed w1 bl 123 (.pointer (some ⟨g,0,none⟩))) (hz:¬(X0 bl∨Y0 bl)) (hg:Y0 g)
  (hq:∀d L,P d L→Q d {L with head:=true,recs:=[],end_:=1}):Step1 (Hold w1 X0 Y0 g gd f n) (clo63 bl) P Q B:=
 aFo 220 _ _ rfl (fun W=>bBu _ W) (fun _ _=>0) (fun d _=>d) (fun _ L=>{L with head:=true,recs:=[],end_:=1})
  (fun _ _ _ ho _ _ _ hd hl hxy _=>head63 hl hd hxy bl (fun e=>hz (.inr (e ▸ hg))) (aC6 ho hbl hz).cell)
  (fun d L hP _=>hq d L hP) (fun _ _ _ h=>absurd rfl h)
theorem aVk {w1:World} {X0 Y0:Nat→Prop} {g gd f n:Nat} {P Q:DK→LK→Prop} {B:Int→DK→LK→Prop} (bl bs st:Nat) (hf:f≤1000000) (hst:st<18446744073709551616) (hbl:Boxed w1 bl 123 (.pointer (some ⟨g,0,none⟩))) (hz:¬(X0 bl∨Y0 bl)) (hbs:Boxed w1 bs 33 (.int .u64 (st:Int))) (hzs:¬(X0 bs∨Y0 bs)) (hrow:∀d L,P d L→d.row.length≤1000000)
  (hq:∀d L,P d L→(d.write (f:Int) (leafP st 0 0 [])).1=0→Q (d.write (f:Int) (leafP st 0 0 [])).2 {L with top:=st}) (hb:∀d L,P d L→(d.write (f:Int) (leafP st 0 0 [])).1≠0→B (d.write (f:Int) (leafP st 0 0 [])).1 (d.write (f:Int) (leafP st 0 0 [])).2 L):Step1 (Hold w1 X0 Y0 g gd f n) (clo60 bl bs) P Q B:=
 aFo 217 _ _ rfl (fun W=>bBv _ W) (fun d _=>(d.write (f:Int) (leafP st 0 0 [])).1) (fun d _=>(d.write (f:Int) (leafP st 0 0 [])).2) (fun d L=>if (d.write (f:Int) (leafP st 0 0 [])).1=0 then {L with top:=st} else L)
  (fun _ d L ho hP _ _ hd hl hxy _=>put60 hl hd hxy hf (hrow d L hP) st bl bs hst (aC6 ho hbl hz).cell (aC6 ho hbs hzs).cell)
  (fun d L hP h=>by rw [if_pos h];exact hq d L hP h) (fun d L hP h=>by rw [if_neg h];exact hb d L hP h)
end Go.Proofs.YtgjmbbkcgillcaaGreat.Log
namespace Go.Proofs.YtgjmbbkcgillcaaGreat.Log
open Go.RowKit Disk
theorem bBa {w W:World} {Z:Nat→Prop} {A:Option Addr} {n:Nat} {vs:List Value} (h:RdV w A n vs) (ho:Out Z w W) (hz:∀a,A=some a→¬Z a.block):RdV W A n vs:=
 ⟨h.len,fun h0=>by
  obtain ⟨ad,e,hc⟩:=h.cells h0;exact ⟨ad,e,fun j v hv=>(ho.cell (World.block_lt_of_cell? w _ (hc j v hv)) (by rw [aAa];exact hz ad e)).trans (hc j v hv)⟩⟩
theorem aYz {w:World} {A:Option Addr} {m c:Nat} {b:List UInt8} (h:Rd w A m b) (hmc:m≤c) (i:Nat) (hi:i*480≤m):∃A2 n2 c2,slC A m c i=.slice A2 n2 c2∧n2≤480∧Rd w A2 n2 (chunk b i):=by
 refine ⟨_,_,_,rfl,by omega,?_⟩;have h1:=(h.drop (k:=i*480) (c:=c) hi hmc).take (k:=min (i*480+480) m - i*480) (by omega);have e:(b.drop (i*480)).take (min (i*480+480) m - i*480)=chunk b i:=by
  unfold chunk;rw [Nat.mul_comm 480 i];have hl:(b.drop (i*480)).length=m - i*480:=by rw [List.length_drop,h.len]
  rcases Nat.le_total (i*480+480) m with q|q
  ·rw [Nat.min_eq_left q,show i*480+480 - i*480=480 by omega]
  ·rw [Nat.min_eq_right q,List.take_of_length_le (by omega),List.take_of_length_le (by omega)]
 rw [e] at h1;exact h1
theorem wrap16 (x:Nat) (h:x<65536):IntKind.u16.wrap (x:Int)=(x:Int):=by
 rw [IntKind.wrap_u16];omega
theorem aWr {w1:World} {X0 Y0:Nat→Prop} {g gd f n:Nat} {P Q:DK→LK→Prop} {B:Int→DK→LK→Prop} {B0 bl st m c e x:Nat} {A:Option Addr} {b:List UInt8} {v:Value} (hs:StepAt B0 bl st (manyOf m) m c A w1 x v) (hx:x<manyOf m) (hM:manyOf m<65536) (hmc:m≤c) (hst:st<18446744073709551616)
  (hbl:Boxed w1 bl 123 (.pointer (some ⟨g,0,none⟩))) (hz:¬(X0 bl∨Y0 bl)) (hB:∀k,B0≤k→k<w1.heap.size→¬(X0 k∨Y0 k)) (hr:Rd w1 A m b) (hA:∀a,A=some a→¬(X0 a.block∨Y0 a.block)) (hf:f+(e+x)≤1000000)
  (hP:∀d L,P d L→d.row.length≤1000000∧L.end_=e)
  (hq:∀d L,P d L→(d.write ((f+(e+x):Nat):Int) (leafP st x (manyOf m) (chunk b x))).1=0→Q (d.write ((f+(e+x):Nat):Int) (leafP st x (manyOf m) (chunk b x))).2 {L with top:=st})
  (hb:∀d L,P d L→(d.write ((f+(e+x):Nat):Int) (leafP st x (manyOf m) (chunk b x))).1≠0→B (d.write ((f+(e+x):Nat):Int) (leafP st x (manyOf m) (chunk b x))).1 (d.write ((f+(e+x):Nat):Int) (leafP st x (manyOf m) (chunk b x))).2 L):
  Step1 (Hold w1 X0 Y0 g gd f n) v P Q B:=by
 obtain ⟨bi,bf,rfl,h1,h2,h3,h4⟩:=hs;obtain ⟨A2,n2,c2,q1,q2,q3⟩:=aYz hr hmc x (by unfold manyOf at hx;omega);have hA2:∀a,A2=some a→¬(X0 a.block∨Y0 a.block):=by
  unfold slC at q1;injection q1 with q1;intro a ha;rw [←q1] at ha;split at ha
  ·exact hA a ha
  ·cases A with
   |none=>cases ha
   |some ad=>
    injection ha with ha;rw [←ha,aAa];exact hA ad rfl
 refine aFo 223 _ _ rfl (fun W=>bAh _ W) (fun d _=>(d.write ((f+(e+x):Nat):Int) (leafP st x (manyOf m) (chunk b x))).1) (fun d _=>(d.write ((f+(e+x):Nat):Int) (leafP st x (manyOf m) (chunk b x))).2) (fun d L=>if (d.write ((f+(e+x):Nat):Int) (leafP st x (manyOf m) (chunk b x))).1=0 then {L with top:=st} else L) (fun W d L ho hp X Y hd hl hxy _=>?_) (fun d L hP h=>by rw [if_pos h];exact hq d L hP h) (fun d L hP h=>by rw [if_neg h];exact hb d L hP h);obtain ⟨p1,p2⟩:=hP d L hp;have k1:=aC6 ho h3 (hB bi h1 h3.lt);have k2:Bk W bf 248 (leafC st (manyOf m) A m c x):=(ho.block bf h4.lt (hB bf h2 h4.lt)).trans h4;have k3:LfAt W bf st x (manyOf m) A2 n2 c2:=⟨k2.cell 0,(k2.cell 1).trans (by rw [←wrap16 x (by omega)];rfl),(k2.cell 2).trans (by rw [←wrap16 (manyOf m) hM];rfl),(k2.cell 3).trans (congrArg some q1)⟩;subst p2;exact put66 hl hd hxy x hf p1 st x (manyOf m) n2 c2 bl bi bf A2 (chunk b x) (aGs q3 ho hA2) hst (by omega) hM q2 (aC6 ho hbl hz).cell k1.cell k3 k2.lt
theorem aV2 {w1:World} {X0 Y0:Nat→Prop} {g gd f n:Nat} {P Q:DK→LK→Prop} {B:Int→DK→LK→Prop} {bl bb bm m c:Nat} {A:Option Addr} {b:List UInt8} (hm:m≤10000000) (hbl:Boxed w1 bl 123 (.pointer (some ⟨g,0,none⟩))) (hz:¬(X0 bl∨Y0 bl)) (hbb:Boxed w1 bb 37 (.slice A m c)) (hzb:¬(X0 bb∨Y0 bb)) (hbm:Boxed w1 bm 3 (.int .i64 (manyOf m:Nat))) (hzm:¬(X0 bm∨Y0 bm)) (hr:Rd w1 A m b) (hA:∀a,A=some a→¬(X0 a.block∨Y0 a.block))
  (hP:∀d L,P d L→L.end_+manyOf m≤1000000∧L.recs.length≤1000000) (hq:∀d L,P d L→Q d ⟨L.head,L.recs++[b],L.end_+manyOf m,L.top,L.met⟩):Step1 (Hold w1 X0 Y0 g gd f n) (clo67 bl bb bm) P Q B:=
 aFo 224 _ _ rfl (fun W=>bAv _ W) (fun _ _=>0) (fun d _=>d) (fun _ L=>⟨L.head,L.recs++[b],L.end_+manyOf m,L.top,L.met⟩)
  (fun _ d L ho hp _ _ hd hl hxy _=>kept67 hl hd hxy m c (manyOf m) bl bb bm A b (aGs hr ho hA) hm (hP d L hp).1 (hP d L hp).2 (aC6 ho hbl hz).cell (aC6 ho hbb hzb).cell (aC6 ho hbm hzm).cell)
  (fun d L hP _=>hq d L hP) (fun _ _ _ h=>absurd rfl h)
theorem Hold.metTo {w1 W:World} {X0 Y0:Nat→Prop} {g gd f n:Nat} {d:DK} {L:LK} (h:Hold w1 X0 Y0 g gd f n d L W):Hold w1 X0 Y0 g gd f n d {L with met:=true} (W.setCell ⟨g,7,none⟩ (.bool true)):=by
 obtain ⟨X,Y,h1,h2,h3,h4,h5,h6⟩:=h;refine ⟨X,Y,h1.out (aDa h2.yg) h6,h2.met,h3.trans (aDa (i:=7) (u:=.bool true) h2.yg) (fun k hk=>?_),h4,h5,h6⟩;rcases h5 k hk with q|q
 ·exact .inl (.inr q)
 ·exact .inr q
def DoneAt (w1:World) (X0 Y0:Nat→Prop) (g gd f n:Nat) (Q:DK→LK→Prop) (B:Int→DK→LK→Prop) (e:Ending) (w':World):Prop:=
 ∃z d' L',e=.returned (.int .i64 z)∧Hold w1 X0 Y0 g gd f n d' L' w'∧((z=0∧Q d' L')∨(z≠0∧∃L2:LK,L'={L2 with met:=true}∧B z d' L2))
theorem aPh {w1:World} {X0 Y0:Nat→Prop} {g gd f n:Nat} {C:Nat→DK→LK→Prop} {B:Int→DK→LK→Prop} {vs:List Value} {A:Option Addr} {N c st:Nat} {d:DK} {L:LK} (hC:∀j v,vs[j]? =some v→Step1 (Hold w1 X0 Y0 g gd f n) v (C j) (C (j+1)) B) (hd:DkAt w1 X0 gd d) (hl:LgAt w1 Y0 g gd (f:Int) n L) (hxy:∀k,X0 k→¬Y0 k) (hc0:C 0 d L) (hrow:RdV w1 A N vs) (hA:∀a,A=some a→¬(X0 a.block∨Y0 a.block)) (htop:L.top<st) (hN:N≤100000):
  Calls Tryz.prog 186 #[.pointer (some ⟨g,0,none⟩),.int .u64 (st:Int),.slice A N c] w1 (DoneAt w1 X0 Y0 g gd f n (C N) B):=by
 have hH:Hold w1 X0 Y0 g gd f n d L w1:=⟨X0,Y0,hd,hl,Out.refl _ _,fun _ h=>.inl h,fun _ h=>.inl h,hxy⟩;obtain ⟨-,-,-,-,-,a6,-,-⟩:=hl.cell5;refine (bCv w1 g st L.top A N c vs _ _ (bAz hC) ⟨d,L,hH,hc0⟩ (fun j W ⟨d',L',hh,_⟩=>?_) a6 htop hN (fun z W ⟨d',L',hh,_⟩=>?_)).mono ?_
 ·obtain ⟨_,_,_,_,ho,_⟩:=hh;exact bBa hrow ho hA
 ·obtain ⟨_,_,_,hl2,_⟩:=hh;obtain ⟨-,-,-,-,-,-,b7,fr⟩:=hl2.cell5;exact ⟨⟨_,b7⟩,fr 7⟩
 ·rintro e w' (⟨rfl,d',L',hh,hc⟩|⟨z,w2,hz,rfl,⟨d',L',hh,hb⟩,rfl⟩)
  ·exact ⟨0,d',L',rfl,hh,.inl ⟨rfl,hc⟩⟩
  ·exact ⟨z,d',_,rfl,hh.metTo,.inr ⟨hz,L',rfl,hb⟩⟩
end Go.Proofs.YtgjmbbkcgillcaaGreat.Log
namespace Go.Proofs.YtgjmbbkcgillcaaGreat.Log
open Go.RowKit Disk
theorem aJ8 (d:DK) (k:Int) (b:List UInt8):(d.write k b).2.row.length≤d.row.length+1:=by
 unfold DK.write;split
 ·exact Nat.le_succ _
 ·split
  ·exact Nat.le_succ _
  ·have hb:d.burn.2.row=d.row:=by
    unfold DK.burn;split
    ·rfl
    ·split<;>rfl
   split
   ·rw [hb];exact Nat.le_succ _
   ·show (d.burn.2.row++[_]).length≤_;rw [hb,List.length_append];exact Nat.le_refl _
theorem aQ6 (d:DK):d.sync.2.row.length≤d.row.length:=by
 have hb:d.burn.2.row=d.row:=by
  unfold DK.burn;split
  ·rfl
  ·split<;>rfl
 unfold DK.sync;split
 ·exact Nat.le_refl _
 ·split
  ·rw [hb];exact Nat.le_refl _
  ·exact Nat.zero_le _
structure CL (d1:DK) (L1:LK) (f st M:Nat) (b:List UInt8) (R j:Nat) (d':DK) (L':LK):Prop where
 put:j≤M→wr d1 (f+L1.end_) (leafs st M b)=wr d' (f+L1.end_+j) ((leafs st M b).drop j)∧d'.row.length≤R+j∧L'={L1 with top:=if j=0 then L1.top else st}
 synced:j=M+1→wr d1 (f+L1.end_) (leafs st M b)=(0,d')∧L'={L1 with top:=st}
 kept:j=M+2→wr d1 (f+L1.end_) (leafs st M b)=(0,d')∧L'=⟨L1.head,L1.recs++[b],L1.end_+M,st,L1.met⟩
theorem CL.start (d1:DK) (L1:LK) (f st M:Nat) (b:List UInt8) {R:Nat} (hR:d1.row.length≤R):CL d1 L1 f st M b R 0 d1 L1:=
 ⟨fun _=>⟨rfl,hR,by rw [if_pos rfl]⟩,fun h=>by omega,fun h=>by omega⟩
def BL (d1:DK) (L1:LK) (f st M:Nat) (b:List UInt8) (z:Int) (d':DK) (_:LK):Prop:=wr d1 (f+L1.end_) (leafs st M b)=(z,d')
theorem aKj {st M j:Nat} {b:List UInt8} (h:j<M):(leafs st M b).drop j=leafP st j M (chunk b j)::(leafs st M b).drop (j+1):=by
 have hl:j<(leafs st M b).length:=by rw [aAb];exact h
 rw [List.drop_eq_getElem_cons hl];have e:(leafs st M b)[j]? =some (leafP st j M (chunk b j)):=by
  unfold leafs;rw [List.getElem?_map,List.getElem?_range h];rfl
 rw [List.getElem?_eq_getElem hl] at e;injection e with e;rw [e]
structure Lies (w1:World) (X0 Y0:Nat→Prop) (g bl:Nat):Prop where
 box:Boxed w1 bl 123 (.pointer (some ⟨g,0,none⟩))
 far:¬(X0 bl∨Y0 bl)
 yg:Y0 g
theorem aLe {w1:World} {X0 Y0:Nat→Prop} {g gd f n B0 bl bb bm st m c R:Nat} {A:Option Addr} {b:List UInt8} {vs:List Value} {d1:DK} {L1:LK} (hl:Lies w1 X0 Y0 g bl) (hs:aGi B0 bl st (manyOf m) m c A w1 (List.range (manyOf m)) vs) (hvs:vs.length=manyOf m) (hM:manyOf m<65536) (hm:m≤10000000) (hmc:m≤c) (hst:st<18446744073709551616)
  (hB:∀k,B0≤k→k<w1.heap.size→¬(X0 k∨Y0 k)) (hr:Rd w1 A m b) (hA:∀a,A=some a→¬(X0 a.block∨Y0 a.block)) (hbb:Boxed w1 bb 37 (.slice A m c)) (hzb:¬(X0 bb∨Y0 bb)) (hbm:Boxed w1 bm 3 (.int .i64 (manyOf m:Nat))) (hzm:¬(X0 bm∨Y0 bm))
  (hf:f+(L1.end_+manyOf m)≤1000000) (hR:R+manyOf m≤1000000) (hrl:L1.recs.length≤1000000):
  ∀j v,(vs++[syncV gd,clo67 bl bb bm])[j]? =some v→Step1 (Hold w1 X0 Y0 g gd f n) v (CL d1 L1 f st (manyOf m) b R j) (CL d1 L1 f st (manyOf m) b R (j+1)) (BL d1 L1 f st (manyOf m) b):=by
 intro j v hv;rcases Nat.lt_or_ge j (manyOf m) with hj|hj
 ·rw [List.getElem?_append_left (by omega)] at hv;obtain ⟨u,e1,e2⟩:=hs j j (List.getElem?_range hj);rw [hv] at e1;injection e1 with e1;subst e1;refine aWr (e:=L1.end_) e2 hj hM hmc hst hl.box hl.far hB hr hA (by omega) (fun d L h=>?_) (fun d L h h0=>?_) (fun d L h h0=>?_)
  ·obtain ⟨q1,q2,q3⟩:=h.put (by omega);exact ⟨by omega,by rw [q3]⟩
  ·obtain ⟨q1,q2,q3⟩:=h.put (by omega);rw [aKj hj,wr,show f+L1.end_+j=f+(L1.end_+j) by omega,if_neg (fun hn=>hn h0)] at q1;refine ⟨fun _=>⟨by rw [show f+L1.end_+(j+1)=f+(L1.end_+j)+1 by omega];exact q1,?_,?_⟩,fun hh=>by omega,fun hh=>by omega⟩
   ·have:=aJ8 d ((f+(L1.end_+j):Nat):Int) (leafP st j (manyOf m) (chunk b j));omega
   ·rw [if_neg (by omega),q3]
  ·obtain ⟨q1,q2,q3⟩:=h.put (by omega);rw [aKj hj,wr,show f+L1.end_+j=f+(L1.end_+j) by omega,if_pos h0] at q1;exact q1
 ·rw [List.getElem?_append_right (by omega),hvs] at hv;have hmp:=aMj m;rcases Nat.lt_or_ge (manyOf m) j with hj2|hj2
  ·rcases Nat.lt_or_ge (manyOf m+1) j with hj3|hj3
   ·have:=(List.getElem?_eq_some_iff.1 hv).1;simp at this;omega
   ·have hje:j=manyOf m+1:=by omega
    subst hje;rw [show manyOf m+1 - manyOf m=1 by omega] at hv;injection hv with hv;subst hv;refine aV2 hm hl.box hl.far hbb hzb hbm hzm hr hA (fun d L h=>?_) (fun d L h=>?_)
    ·obtain ⟨q1,q2⟩:=h.synced rfl;rw [q2];exact ⟨by show L1.end_+_≤_;omega,hrl⟩
    ·obtain ⟨q1,q2⟩:=h.synced rfl;subst q2;exact ⟨fun hh=>by omega,fun hh=>by omega,fun _=>⟨q1,rfl⟩⟩
  ·have hje:j=manyOf m:=by omega
   subst hje;rw [Nat.sub_self] at hv;injection hv with hv;subst hv;have hd:(leafs st (manyOf m) b).drop (manyOf m)=[]:=List.drop_eq_nil_of_le (by rw [aAb];exact Nat.le_refl _);refine aMt (fun d L h=>?_) (fun d L h h0=>?_) (fun d L h h0=>?_)
   ·obtain ⟨q1,q2,q3⟩:=h.put (Nat.le_refl _);omega
   ·obtain ⟨q1,q2,q3⟩:=h.put (Nat.le_refl _);rw [hd,wr] at q1;rw [if_neg (by omega)] at q3;exact ⟨fun hh=>by omega,fun _=>⟨by rw [q1,←h0],q3⟩,fun hh=>by omega⟩
   ·obtain ⟨q1,q2,q3⟩:=h.put (Nat.le_refl _);rw [hd,wr] at q1;exact q1
structure CH (d0:DK) (L0:LK) (f st R j:Nat) (d':DK) (L':LK):Prop where
 a0:j=0→d'=d0∧L'=L0
 a1:j=1→wr d0 f (headL st)=d'.sync∧L'={L0 with top:=st}∧d'.row.length≤R+1
 a2:j=2→wr d0 f (headL st)=(0,d')∧L'={L0 with top:=st}∧d'.row.length≤R+1
 a3:j=3→wr d0 f (headL st)=(0,d')∧L'=⟨true,[],1,st,L0.met⟩∧d'.row.length≤R+1
theorem CH.start (d0:DK) (L0:LK) (f st R:Nat):CH d0 L0 f st R 0 d0 L0:=⟨fun _=>⟨rfl,rfl⟩,fun h=>by omega,fun h=>by omega,fun h=>by omega⟩
def BH (d0:DK) (f st:Nat) (z:Int) (d':DK) (_:LK):Prop:=wr d0 f (headL st)=(z,d')
theorem aKe {w1:World} {X0 Y0:Nat→Prop} {g gd f n bl bs st R:Nat} {d0:DK} {L0:LK} (hl:Lies w1 X0 Y0 g bl) (hbs:Boxed w1 bs 33 (.int .u64 (st:Int))) (hzs:¬(X0 bs∨Y0 bs)) (hst:st<18446744073709551616) (hf:f≤1000000) (hR:R+1≤1000000) (hd:d0.row.length≤R):
  ∀j v,[clo60 bl bs,syncV gd,clo63 bl][j]? =some v→Step1 (Hold w1 X0 Y0 g gd f n) v (CH d0 L0 f st R j) (CH d0 L0 f st R (j+1)) (BH d0 f st):=by
 have hw:wr d0 f (headL st)=if (d0.write (f:Int) (leafP st 0 0 [])).1≠0 then d0.write (f:Int) (leafP st 0 0 []) else (d0.write (f:Int) (leafP st 0 0 [])).2.sync:=rfl
 intro j v hv
 match j,hv with
 |0,hv=>
  injection hv with hv;subst hv;refine aVk bl bs st hf hst hl.box hl.far hbs hzs (fun d L h=>?_) (fun d L h h0=>?_) (fun d L h h0=>?_)
  ·obtain ⟨rfl,rfl⟩:=h.a0 rfl;omega
  ·obtain ⟨rfl,rfl⟩:=h.a0 rfl;rw [if_neg (fun hn=>hn h0)] at hw;have:=aJ8 d (f:Int) (leafP st 0 0 []);exact ⟨fun h=>by omega,fun _=>⟨hw,rfl,by omega⟩,fun h=>by omega,fun h=>by omega⟩
  ·obtain ⟨rfl,rfl⟩:=h.a0 rfl;rw [if_pos h0] at hw;exact hw
 |1,hv=>
  injection hv with hv;subst hv;refine aMt (fun d L h=>?_) (fun d L h h0=>?_) (fun d L h h0=>?_)
  ·have:=(h.a1 rfl).2.2;omega
  ·obtain ⟨q1,q2,q3⟩:=h.a1 rfl;have:=aQ6 d;exact ⟨fun h=>by omega,fun h=>by omega,fun _=>⟨by rw [q1,←h0],q2,by omega⟩,fun h=>by omega⟩
  ·exact (h.a1 rfl).1
 |2,hv=>
  injection hv with hv;subst hv;refine aVf bl hl.box hl.far hl.yg (fun d L h=>?_);obtain ⟨q1,q2,q3⟩:=h.a2 rfl;subst q2;exact ⟨fun h=>by omega,fun h=>by omega,fun h=>by omega,fun _=>⟨q1,rfl,q3⟩⟩
 |j+3,hv=>cases hv
end Go.Proofs.YtgjmbbkcgillcaaGreat.Log
