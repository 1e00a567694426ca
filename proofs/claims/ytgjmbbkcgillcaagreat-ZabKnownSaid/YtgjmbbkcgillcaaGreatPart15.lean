/- Lemmas, part 15: LogAt, LogCalls, LogTake, PhaseStages -/
import Derived.Test.YtgjmbbkcgillcaaGreatPart14
import Derived.Test.YtgjmbbkcgillcaaGreatPart2
import Derived.Lib.OwnKind
import Derived.Test.YtgjmbbkcgillcaaGreatPart3
set_option maxHeartbeats 16000000
namespace Go.Proofs.YtgjmbbkcgillcaaGreat.Log
open Go.RowKit Disk
structure LK where
 head:Bool
 recs:List (List UInt8)
 end_:Nat
 top:Nat
 met:Bool
def Within (Y:Nat→Prop) (g:Nat) (R A:Option Addr):Prop:=∀a,A=some a→Y a.block∧a.block≠g∧∀r,R=some r→a.block≠r.block
structure LgA (w:World) (Y:Nat→Prop) (g gd:Nat) (f:Int) (n:Nat) (L:LK) (R:Option Addr) (c:Nat) (vs:List Value):Prop where
 bk:Bk w g 244 #[.pointer (some ⟨gd,0,none⟩),.int .i64 f,.int .i64 (n:Int),.bool L.head,.slice R L.recs.length c,.int .i64 (L.end_:Int),.int .u64 (L.top:Int),.bool L.met]
 own:w.ownsRow 0 37 1 (.slice R L.recs.length c) L.recs.length vs
 texts:∀(j:Nat) (b:List UInt8),L.recs[j]? =some b→∃A n c,vs[j]? =some (.slice A n c)∧n≤c∧Rd w A n b∧Within Y g R A
 yg:Y g
 yr:∀a,R=some a→Y a.block∧a.block≠g
 lt:∀k,Y k→k<w.heap.size
def LgAt (w:World) (Y:Nat→Prop) (g gd:Nat) (f:Int) (n:Nat) (L:LK):Prop:=∃R c vs,LgA w Y g gd f n L R c vs
theorem LgA.kept {w w':World} {Y:Nat→Prop} {g gd:Nat} {f:Int} {n:Nat} {L:LK} {R:Option Addr} {c:Nat} {vs:List Value} (h:LgA w Y g gd f n L R c vs) (hb:∀k,Y k→w'.heap[k]? =w.heap[k]?) (hs:w.heap.size≤w'.heap.size):LgA w' Y g gd f n L R c vs:=by
 refine ⟨h.bk.kept (hb g h.yg),⟨h.own.1,?_⟩,fun j b hj=>?_,h.yg,h.yr,fun k hk=>Nat.lt_of_lt_of_le (h.lt k hk) hs⟩
 ·rcases h.own.2 with h1|⟨r,cap,cur,h1,h2,h3,h4⟩
  ·exact .inl h1
  ·refine .inr ⟨r,cap,cur,h1,h2,?_,h4⟩;injection h1 with e1;rw [hb r (h.yr ⟨r,0,none⟩ e1).1];exact h3
 ·obtain ⟨A,m,d,h1,h2,h3,h4⟩:=h.texts j b hj;refine ⟨A,m,d,h1,h2,⟨h3.len,fun h0=>?_⟩,h4⟩;obtain ⟨ad,e,hc⟩:=h3.cells h0;exact ⟨ad,e,fun i x hx=>(World.cell?_of_block (w:=w) (hb _ (by rw [aAa];exact (h4 ad e).1))).trans (hc i x hx)⟩
theorem LgAt.kept {w w':World} {Y:Nat→Prop} {g gd:Nat} {f:Int} {n:Nat} {L:LK} (h:LgAt w Y g gd f n L) (hb:∀k,Y k→w'.heap[k]? =w.heap[k]?) (hs:w.heap.size≤w'.heap.size):LgAt w' Y g gd f n L:=by
 obtain ⟨R,c,vs,h⟩:=h;exact ⟨R,c,vs,h.kept hb hs⟩
theorem LgAt.lt {w:World} {Y:Nat→Prop} {g gd:Nat} {f:Int} {n:Nat} {L:LK} (h:LgAt w Y g gd f n L):∀k,Y k→k<w.heap.size:=by
 obtain ⟨R,c,vs,h⟩:=h;exact h.lt
theorem LgAt.yg {w:World} {Y:Nat→Prop} {g gd:Nat} {f:Int} {n:Nat} {L:LK} (h:LgAt w Y g gd f n L):Y g:=by
 obtain ⟨R,c,vs,h⟩:=h;exact h.yg
theorem LgAt.out {w w':World} {Y X:Nat→Prop} {g gd:Nat} {f:Int} {n:Nat} {L:LK} (h:LgAt w Y g gd f n L) (ho:Out X w w') (hy:∀k,Y k→¬X k):LgAt w' Y g gd f n L:=
 h.kept (fun k hk=>ho.block k (h.lt k hk) (hy k hk)) ho.size
theorem LgAt.below {w w':World} {Y:Nat→Prop} {g gd:Nat} {f:Int} {n:Nat} {L:LK} (h:LgAt w Y g gd f n L) (hb:Below w.heap.size w w'):LgAt w' Y g gd f n L:=
 h.kept (fun k hk=>hb.block k (h.lt k hk)) hb.size
theorem LgA.cells {w:World} {Y:Nat→Prop} {g gd:Nat} {f:Int} {n:Nat} {L:LK} {R:Option Addr} {c:Nat} {vs:List Value} (h:LgA w Y g gd f n L R c vs):
  w.cell? ⟨g,0,none⟩=some (.pointer (some ⟨gd,0,none⟩))∧w.cell? ⟨g,1,none⟩=some (.int .i64 f)∧w.cell? ⟨g,2,none⟩=some (.int .i64 (n:Int))∧w.cell? ⟨g,3,none⟩=some (.bool L.head)∧w.cell? ⟨g,4,none⟩=some (.slice R L.recs.length c)∧w.cell? ⟨g,5,none⟩=some (.int .i64 (L.end_:Int))∧w.cell? ⟨g,6,none⟩=some (.int .u64 (L.top:Int))∧w.cell? ⟨g,7,none⟩=some (.bool L.met):=
 ⟨h.bk.cell 0,h.bk.cell 1,h.bk.cell 2,h.bk.cell 3,h.bk.cell 4,h.bk.cell 5,h.bk.cell 6,h.bk.cell 7⟩
theorem LgAt.cell5 {w:World} {Y:Nat→Prop} {g gd:Nat} {f:Int} {n:Nat} {L:LK} (h:LgAt w Y g gd f n L):w.cell? ⟨g,0,none⟩=some (.pointer (some ⟨gd,0,none⟩))∧w.cell? ⟨g,1,none⟩=some (.int .i64 f)∧w.cell? ⟨g,2,none⟩=some (.int .i64 (n:Int))∧w.cell? ⟨g,3,none⟩=some (.bool L.head)∧w.cell? ⟨g,5,none⟩=some (.int .i64 (L.end_:Int))∧w.cell? ⟨g,6,none⟩=some (.int .u64 (L.top:Int))∧w.cell? ⟨g,7,none⟩=some (.bool L.met)∧∀i,w.frozen? ⟨g,i,none⟩=false:=by
 obtain ⟨R,c,vs,h⟩:=h;obtain ⟨a0,a1,a2,a3,a4,a5,a6,a7⟩:=h.cells;exact ⟨a0,a1,a2,a3,a5,a6,a7,h.bk.frozen⟩
theorem aDa {w:World} {Y:Nat→Prop} {g i:Nat} {u:Value} (h:Y g):Out Y w (w.setCell ⟨g,i,none⟩ u):=Out.setCell (X:=Y) w (p:=⟨g,i,none⟩) h u
theorem LgA.set {w:World} {Y:Nat→Prop} {g gd:Nat} {f:Int} {n:Nat} {L L':LK} {R:Option Addr} {c:Nat} {vs:List Value} (h:LgA w Y g gd f n L R c vs) (i:Nat) (u:Value) (hr:L'.recs=L.recs)
  (hbk:(#[.pointer (some ⟨gd,0,none⟩),.int .i64 f,.int .i64 (n:Int),.bool L.head,.slice R L.recs.length c,.int .i64 (L.end_:Int),.int .u64 (L.top:Int),.bool L.met]:Array Value).setIfInBounds i u=#[.pointer (some ⟨gd,0,none⟩),.int .i64 f,.int .i64 (n:Int),.bool L'.head,.slice R L'.recs.length c,.int .i64 (L'.end_:Int),.int .u64 (L'.top:Int),.bool L'.met]):
  LgA (w.setCell ⟨g,i,none⟩ u) Y g gd f n L' R c vs:=by
 have ho:=Out.setCell (X:=(·=g)) w (p:=⟨g,i,none⟩) rfl u;have hk:=h.bk.set i u;rw [hbk] at hk;refine ⟨hk,?_,fun j b hj=>?_,h.yg,h.yr,fun k hk=>Nat.lt_of_lt_of_le (h.lt k hk) ho.size⟩
 ·rw [hr];refine ⟨h.own.1,?_⟩;rcases h.own.2 with h1|⟨r,cap,cur,h1,h2,h3,h4⟩
  ·exact .inl h1
  ·refine .inr ⟨r,cap,cur,h1,h2,?_,h4⟩;injection h1 with e1;have:=(h.yr ⟨r,0,none⟩ e1);have hlt:r<w.heap.size:=h.lt r this.1;rw [ho.block r hlt this.2];exact h3
 ·rw [hr] at hj;obtain ⟨A,m,d,h1,h2,h3,h4⟩:=h.texts j b hj;refine ⟨A,m,d,h1,h2,⟨h3.len,fun h0=>?_⟩,h4⟩;obtain ⟨ad,e,hc⟩:=h3.cells h0;refine ⟨ad,e,fun i x hx=>?_⟩;have h5:=hc i x hx;exact (ho.cell (World.block_lt_of_cell? w _ h5) (by rw [aAa];exact (h4 ad e).2.1)).trans h5
theorem LgA.grow {w w1 w2:World} {Y:Nat→Prop} {g gd:Nat} {f:Int} {n:Nat} {L:LK} {R:Option Addr} {c:Nat} {vs:List Value} (h:LgA w Y g gd f n L R c vs) (hb1:Below w.heap.size w w1) {b:List UInt8} {A:Option Addr} {m d:Nat} (hmd:m≤d) (hr:Rd w A m b) (hA:∀a,A=some a→¬Y a.block∧a.block<w.heap.size)
  {G cap:Nat} (hown:w2.ownsRow 0 37 1 (.slice (some ⟨G,0,none⟩) (L.recs.length+1) cap) (L.recs.length+1) (vs++[.slice A m d])) (hg:w1.grownBy w2 (Value.slice R L.recs.length c).ownBlock) (hloc:(Value.slice R L.recs.length c).ownBlock=some G∨G=w1.heap.size) (hlt:G<w2.heap.size) (le:Nat):
  ∃Y',LgAt ((w2.setCell ⟨g,4,none⟩ (.slice (some ⟨G,0,none⟩) (L.recs.length+1) cap)).setCell ⟨g,5,none⟩ (.int .i64 ((L.end_+le:Nat):Int))) Y' g gd f n ⟨L.head,L.recs++[b],L.end_+le,L.top,L.met⟩∧Out Y w ((w2.setCell ⟨g,4,none⟩ (.slice (some ⟨G,0,none⟩) (L.recs.length+1) cap)).setCell ⟨g,5,none⟩ (.int .i64 ((L.end_+le:Nat):Int)))∧∀k,Y' k→Y k∨w.heap.size≤k∨∃a,A=some a∧k=a.block:=by
 have hgl:=h.lt g h.yg;have hrow:∀r,(Value.slice R L.recs.length c).ownBlock=some r→Y r∧r≠g:=fun r hr=>by
  cases R with
  |none=>cases hr
  |some ad=>
   injection hr with hr;subst hr;exact h.yr ad rfl
 have hG:G≠g∧(Y G∨w.heap.size≤G):=by
  rcases hloc with e|e
  ·exact ⟨(hrow G e).2,.inl (hrow G e).1⟩
  ·have:=hb1.size;exact ⟨by omega,.inr (by omega)⟩
 have hk2:∀k,k<w.heap.size→(Value.slice R L.recs.length c).ownBlock≠some k→w2.heap[k]? =w.heap[k]? :=fun k hk hne=>(hg.block k (Nat.lt_of_lt_of_le hk hb1.size) (fun e=>hne e.symm)).trans (hb1.block k hk);have ho2:Out Y w w2:=⟨hg.os.trans hb1.os,hg.tape.trans hb1.tape,hg.output.trans hb1.output,Nat.le_trans hb1.size hg.size,fun k hk hY=>hk2 k hk (fun e=>hY (hrow k e).1)⟩;have hO:=(ho2.trans (Out.setCell (X:=Y) w2 (p:=⟨g,4,none⟩) h.yg (.slice (some ⟨G,0,none⟩) (L.recs.length+1) cap)) (fun k hk=>.inl hk)).trans (Out.setCell (X:=Y) (w2.setCell ⟨g,4,none⟩ (.slice (some ⟨G,0,none⟩) (L.recs.length+1) cap)) (p:=⟨g,5,none⟩) h.yg (.int .i64 ((L.end_+le:Nat):Int))) (fun k hk=>.inl hk);refine ⟨fun k=>Y k∨k=G∨∃a,A=some a∧k=a.block,⟨some ⟨G,0,none⟩,cap,vs++[.slice A m d],⟨?_,?_,?_,?_,?_,?_⟩⟩,hO,?_⟩
 ·have hk:Bk w2 g 244 _:=h.bk.kept (hk2 g hgl fun e=>(hrow g e).2 rfl);have:=(hk.set 4 (.slice (some ⟨G,0,none⟩) (L.recs.length+1) cap)).set 5 (.int .i64 ((L.end_+le:Nat):Int));simpa using this
 ·have e1:((Value.slice (some ⟨G,0,none⟩) (L.recs.length+1) cap)).ownBlock≠some g:=by simpa [Value.ownBlock] using hG.1
  have:=ownsRow_setCell_other (ownsRow_setCell_other hown (a:=⟨g,4,none⟩) e1 (.slice (some ⟨G,0,none⟩) (L.recs.length+1) cap)) (a:=⟨g,5,none⟩) e1 (.int .i64 ((L.end_+le:Nat):Int));simpa using this
 ·intro j x hj;have hlen:vs.length=L.recs.length:=by have:=h.own.1;simpa using this
  have move:∀{A':Option Addr} {m':Nat} {b':List UInt8},Rd w A' m' b'→(∀a,A'=some a→a.block≠g∧∀r,(Value.slice R L.recs.length c).ownBlock=some r→a.block≠r)→Rd ((w2.setCell ⟨g,4,none⟩ (.slice (some ⟨G,0,none⟩) (L.recs.length+1) cap)).setCell ⟨g,5,none⟩ (.int .i64 ((L.end_+le:Nat):Int))) A' m' b':=fun hr' hne=>⟨hr'.len,fun h0=>by
   obtain ⟨ad,e,hc⟩:=hr'.cells h0;refine ⟨ad,e,fun i y hy=>?_⟩;have h5:=hc i y hy;have hlt5:=World.block_lt_of_cell? w _ h5;rw [aAa] at hlt5;obtain ⟨n1,n2⟩:=hne ad e;have e4:((w2.setCell ⟨g,4,none⟩ (.slice (some ⟨G,0,none⟩) (L.recs.length+1) cap)).setCell ⟨g,5,none⟩ (.int .i64 ((L.end_+le:Nat):Int))).heap[(ad.add i).block]? =w.heap[(ad.add i).block]? :=by
    rw [aAa,Below.heap_setCell _ _ _ _ n1,Below.heap_setCell _ _ _ _ n1];exact hk2 _ hlt5 fun e=>n2 _ e rfl
   exact (World.cell?_of_block (w:=w) e4).trans h5⟩
  rcases Nat.lt_or_ge j L.recs.length with hjl|hjl
  ·rw [List.getElem?_append_left hjl] at hj;obtain ⟨A',m',d',h1,h2,h3,h4⟩:=h.texts j x hj;refine ⟨A',m',d',by rw [List.getElem?_append_left (by omega)];exact h1,h2,move h3 (fun a e=>⟨(h4 a e).2.1,fun r hr'=>?_⟩),fun a e=>⟨.inl (h4 a e).1,(h4 a e).2.1,fun r hr'=>?_⟩⟩
   ·cases R with
    |none=>cases hr'
    |some ad=>
     injection hr' with hr';rw [←hr'];exact (h4 a e).2.2 ad rfl
   ·injection hr' with hr';rw [←hr'];show a.block≠G;rcases hloc with eo|eo
    ·cases R with
     |none=>cases eo
     |some ad=>
      injection eo with eo;rw [←eo];exact (h4 a e).2.2 ad rfl
    ·have:=h.lt _ (h4 a e).1;have:=hb1.size;omega
  ·rw [List.getElem?_append_right hjl] at hj;have hj0:j - L.recs.length=0:=by
    have:=(List.getElem?_eq_some_iff.1 hj).1;simp at this;omega
   rw [hj0] at hj;simp at hj;subst hj;have nA:∀a,A=some a→a.block≠g:=fun a e eg=>(hA a e).1 (eg ▸ h.yg);refine ⟨A,m,d,by rw [List.getElem?_append_right (by omega),hlen,hj0];rfl,hmd,move hr (fun a e=>⟨nA a e,fun r hr' er=>(hA a e).1 (er ▸ (hrow r hr').1)⟩),fun a e=>⟨.inr (.inr ⟨a,e,rfl⟩),nA a e,fun r hr'=>?_⟩⟩;injection hr' with hr';rw [←hr'];show a.block≠G;intro eG;rcases hloc with eo|eo
   ·exact (hA a e).1 (eG ▸ (hrow G eo).1)
   ·have:=(hA a e).2;have:=hb1.size;omega
 ·exact .inl h.yg
 ·intro a e;injection e with e;subst e;exact ⟨.inr (.inl rfl),hG.1⟩
 ·intro k hk;have hs:((w2.setCell ⟨g,4,none⟩ (.slice (some ⟨G,0,none⟩) (L.recs.length+1) cap)).setCell ⟨g,5,none⟩ (.int .i64 ((L.end_+le:Nat):Int))).heap.size=w2.heap.size:=by simp [World.setCell]
  rw [hs];have h3:=hg.size;have h4:=hb1.size;rcases hk with hk|rfl|⟨a,e,rfl⟩
  ·have:=h.lt k hk;omega
  ·exact hlt
  ·have:=(hA a e).2;omega
 ·intro k hk;rcases hk with hk|rfl|⟨a,e,rfl⟩
  ·exact .inl hk
  ·rcases hG.2 with h1|h1
   ·exact .inl h1
   ·exact .inr (.inl h1)
  ·exact .inr (.inr ⟨a,e,rfl⟩)
set_option maxRecDepth 100000 in
theorem aF7 {w:World} {Y:Nat→Prop} {g gd:Nat} {f:Int} {n:Nat} {L:LK} (h:LgAt w Y g gd f n L) (A:Option Addr) (m d:Nat) (b:List UInt8) (hr:Rd w A m b) (hmd:m≤d) (hA:∀a,A=some a→¬Y a.block∧a.block<w.heap.size) (le:Nat) (hle:L.end_+le≤1000000) (hrl:L.recs.length≤1000000):
  Calls Tryz.prog 210 #[.pointer (some ⟨g,0,none⟩),.slice A m d,.int .i64 (le:Int)] w fun e w'=>e=.returned (.tuple #[])∧∃Y',LgAt w' Y' g gd f n ⟨L.head,L.recs++[b],L.end_+le,L.top,L.met⟩∧Out Y w w'∧∀k,Y' k→Y k∨w.heap.size≤k∨∃a,A=some a∧k=a.block:=by
 obtain ⟨i0,hi,hz0,hz1,hz2⟩:=infos aM6;have HI:=Lib.hid hi;have HZ0:=Lib.hid hz0;have HZ1:=Lib.hid hz1;have HZ2:=Lib.hid hz2;clear hi hz0 hz1 hz2;obtain ⟨R,c,vs,h⟩:=h;obtain ⟨a0,a1,a2,a3,a4,a5,a6,a7⟩:=h.cells;have hb1:Below w.heap.size w (w.alloc (.cells #[.slice A m d] 37)):=(Below.refl _ _).alloc (Nat.le_refl _) _;have hgl:=h.lt g h.yg;have HOW:Hid ((w.alloc (.cells #[.slice A m d] 37)).ownsRow 0 37 1 (.slice R L.recs.length c) L.recs.length vs):=h.own.alloc _;have HNW:Hid (∀(j:Nat) (u:Value),[Value.slice A m d][j]? =some u→(w.alloc (.cells #[.slice A m d] 37)).cell? ((⟨w.heap.size,0,none⟩:Addr).add j)=some u):=by
  have:=aD8 w 37 [.slice A m d];obtain ⟨ad,e,hc⟩:=this.cells (by simp);injection e with e;subst e;exact hc
 have HGROW:Hid (∀(G cap:Nat) (w2:World),w2.ownsRow 0 37 1 (.slice (some ⟨G,0,none⟩) (L.recs.length+1) cap) (L.recs.length+1) (vs++[.slice A m d])→(w.alloc (.cells #[.slice A m d] 37)).grownBy w2 (Value.slice R L.recs.length c).ownBlock→((Value.slice R L.recs.length c).ownBlock=some G∨G=w.heap.size+1)→G<w2.heap.size→
   (∃Y',LgAt ((w2.setCell ⟨g,4,none⟩ (.slice (some ⟨G,0,none⟩) (L.recs.length+1) cap)).setCell ⟨g,5,none⟩ (.int .i64 ((L.end_+le:Nat):Int))) Y' g gd f n ⟨L.head,L.recs++[b],L.end_+le,L.top,L.met⟩∧Out Y w ((w2.setCell ⟨g,4,none⟩ (.slice (some ⟨G,0,none⟩) (L.recs.length+1) cap)).setCell ⟨g,5,none⟩ (.int .i64 ((L.end_+le:Nat):Int)))∧∀k,Y' k→Y k∨w.heap.size≤k∨∃a,A=some a∧k=a.block)∧
   w2.cell? ⟨g,5,none⟩=some (.int .i64 (L.end_:Int))∧w2.cell? ⟨g,4,none⟩=some (.slice R L.recs.length c)∧w2.frozen? ⟨g,4,none⟩=false∧w2.frozen? ⟨g,5,none⟩=false):=fun G cap w2 q1 q2 q3 q4=>by
  refine ⟨h.grow hb1 hmd hr hA q1 q2 (by rw [aBd];exact q3) q4 le,?_⟩;have hne:some g≠(Value.slice R L.recs.length c).ownBlock:=by
   intro e;cases R with
   |none=>cases e
   |some ad=>
    injection e with e;exact (h.yr ad rfl).2 e.symm
  have hk:Bk w2 g 244 _:=h.bk.kept ((q2.block g (Nat.lt_of_lt_of_le hgl hb1.size) hne).trans (hb1.block g hgl));exact ⟨hk.cell 5,hk.cell 4,hk.frozen 4,hk.frozen 5⟩
 have w1:wrap64 ((L.end_:Int)+(le:Int))=((L.end_+le:Nat):Int):=by rw [IntWalk.wrap64_in _ (by omega)];omega
 have w3:((L.end_+le:Nat):Int)=(L.end_:Int)+(le:Int):=by omega
 rw [w3] at HGROW;generalize L.recs.length=k at*;clear h hr hmd hA;go_enter Tryz.func210,Tryz.ntmps210
 go_wp2_with (at_builtin;refine wpList_append_lies _ rfl (.tmp 10) (.tmp 12) _ rfl 0 37 i0 _ 1 24 aOz HI.out HZ0.out HZ1.out HZ2.out rfl (by decide) _ k _ rfl HOW.out ⟨w.heap.size,0,none⟩ 1 1 [.slice A m d] rfl rfl HNW.out (by simp [Value.oneCell']) (by decide) (by unfold maxLen;omega) (by omega) (Nat.zero_le _) (w.heap.size+1) (aBd _ _) ?_)
 intro G cap w2 q1 q2 q3 q4;obtain ⟨hres,k5,k4,f4,f5⟩:=HGROW.out G cap w2 q1 q2 q3 q4;have HRES:=Lib.hid hres;clear hres q1 q2 q3 q4;have k5':(w2.setCell ⟨g,4,none⟩ (.slice (some ⟨G,0,none⟩) (k+1) cap)).cell? ⟨g,5,none⟩=some (.int .i64 (L.end_:Int)):=by
  rw [World.cell?_setCell_other _ _ _ _ (by simp)];exact k5
 go_wp2_with fail
 go_end0
 exact ⟨rfl,HRES.out⟩
end Go.Proofs.YtgjmbbkcgillcaaGreat.Log
namespace Go.Proofs.YtgjmbbkcgillcaaGreat.Log
open Go.RowKit Disk
theorem aG5 {w:World} {X Y:Nat→Prop} {g gd:Nat} {f:Int} {n:Nat} {L:LK} {d:DK} (h:LgAt w Y g gd f n L) (hd:DkAt w X gd d) (hn:d.dead=false):Calls Tryz.prog 183 #[.pointer (some ⟨g,0,none⟩)] w (Ans (.int .i64 0) w):=by
 obtain ⟨a0,-⟩:=h.cell5;have cd:=aCo hd;rw [hn] at cd;have CD:=Lib.hid cd;clear cd h hd;go_enter Tryz.func183,Tryz.ntmps183
 go_wp2_with fail;refine CD.out.mono ?_;rintro e _ ⟨rfl,rfl⟩;go_wp2_with fail;go_ret;exact ⟨rfl,rfl⟩
theorem LgAt.met {w:World} {Y:Nat→Prop} {g gd:Nat} {f:Int} {n:Nat} {L:LK} (h:LgAt w Y g gd f n L):LgAt (w.setCell ⟨g,7,none⟩ (.bool true)) Y g gd f n {L with met:=true}:=by
 obtain ⟨R,c,vs,h⟩:=h;exact ⟨R,c,vs,h.set (L':={L with met:=true}) 7 _ rfl (by simp)⟩
theorem LgAt.topTo {w:World} {Y:Nat→Prop} {g gd:Nat} {f:Int} {n:Nat} {L:LK} (h:LgAt w Y g gd f n L) (t:Nat):LgAt (w.setCell ⟨g,6,none⟩ (.int .u64 (t:Int))) Y g gd f n {L with top:=t}:=by
 obtain ⟨R,c,vs,h⟩:=h;exact ⟨R,c,vs,h.set (L':={L with top:=t}) 6 _ rfl (by simp)⟩
theorem aGo {w:World} {Y:Nat→Prop} {g gd:Nat} {f:Int} {n:Nat} {L:LK} (h:LgAt w Y g gd f n L) (hn:n≤100000) (he:L.end_≤n):Calls Tryz.prog 184 #[.pointer (some ⟨g,0,none⟩)] w fun e w'=>e=.returned (.int .i64 ((480*(n - L.end_):Nat):Int))∧Below w.heap.size w w':=by
 obtain ⟨-,-,a2,-,a5,-,-,-⟩:=h.cell5;have w1:wrap64 ((n:Int) - (L.end_:Int))=(n:Int) - (L.end_:Int):=by rw [IntWalk.wrap64_in _ (by omega)]
 have w2:wrap64 (((n:Int) - (L.end_:Int))*480)=((480*(n - L.end_):Nat):Int):=by rw [IntWalk.wrap64_in _ (by omega)];omega
 have HZ:Hid (((480*(n - L.end_):Nat):Int)=((n:Int) - (L.end_:Int))*480):=by show _=_;omega
 clear h w2;have w2:wrap64 (((n:Int) - (L.end_:Int))*480)=((n:Int) - (L.end_:Int))*480:=by rw [IntWalk.wrap64_in _ (by omega)]
 rw [HZ.out];clear HZ;go_enter Tryz.func184,Tryz.ntmps184
 go_wp2_with fail
 go_quiet (fail)
 go_wp2_with fail;go_ret;exact ⟨rfl,by first|exact below_drewN _ _|exact (below_drewN w _)⟩
def aWs (bs:List (List UInt8)) (w:World) (e:Ending) (w':World):Prop:=
 ∃A c vs,e=.returned (.slice A bs.length c)∧w'.ownsRow w.heap.size 37 1 (.slice A bs.length c) bs.length vs∧Fresh w.heap.size w' vs bs∧Below w.heap.size w w'
def RelBat (w:World) (bs:List (List UInt8)) (v i:Value) (wr:World):Prop:=
 ∃(k:Nat) (vs:List Value),k≤bs.length∧i=.int .i64 (k:Int)∧wr.ownsRow w.heap.size 37 1 v k vs∧Fresh w.heap.size wr vs (bs.take k)∧Below w.heap.size w wr
set_option maxRecDepth 100000 in
theorem aOy {w:World} {Y:Nat→Prop} {g gd:Nat} {f:Int} {n:Nat} {L:LK} (h:LgAt w Y g gd f n L) (hn:L.recs.length≤1000000) (hs:∀b∈L.recs,b.length≤10000000):Calls Tryz.prog 156 #[.pointer (some ⟨g,0,none⟩)] w (aWs L.recs w):=by
 obtain ⟨i0,hi,hz0,hz1,hz2⟩:=infos aM6;have HI:=Lib.hid hi;have HZ0:=Lib.hid hz0;have HZ1:=Lib.hid hz1;have HZ2:=Lib.hid hz2;clear hi hz0 hz1 hz2;obtain ⟨R,c,vs0,h⟩:=h;obtain ⟨a0,a1,a2,a3,a4,a5,a6,a7⟩:=h.cells;have HT:=Lib.hid h.texts;have HRD:=Lib.hid (RdV.of_own h.own).1;have HS:=Lib.hid hs;have HN:=Lib.hid hn;clear h a0 a1 a2 a3 a5 a6 a7 hs;generalize L.recs=bs at*;obtain ⟨k0,hk0⟩:∃k0,k0=bs.length:=⟨_,rfl⟩;have HK0:=Lib.hid hk0;rw [←hk0] at a4 HRD HN;have hn0:k0≤1000000:=HN.out;clear hk0 hn;go_enter Tryz.func156,Tryz.ntmps156
 go_wp2_with fail;go_loopw [3,13] (fun v i wr=>RelBat w bs v i wr) (fun _ i _=>k0 - (intOf i).toNat)
 case atStart=>exact ⟨0,[],by omega,rfl,aD0 _ _ _,⟨rfl,fun j b hj=>by simp at hj⟩,Below.refl _ _⟩
 case round=>
  obtain ⟨k,vs,hk,rfl,hown,hfr,hb⟩:=hrel;have HO:=Lib.hid hown;have HF:=Lib.hid hfr;have HB:=Lib.hid hb;have hk':k≤k0:=by rw [HK0.out];exact hk
  clear hown hfr hb hk;by_cases hlt:k<k0
  ·have hkl:k<bs.length:=by have:=HK0.out;omega
   obtain ⟨A1,m1,c1,hv,hle,hr,-⟩:=HT.out k _ (List.getElem?_eq_getElem hkl);obtain ⟨ad,rfl,hc⟩:=(HRD.out.below HB.out).cells (by omega);have hcell:=hc k _ hv;have hlen:=hr.len;have hmem:=HS.out bs[k] (List.getElem_mem hkl);have HC:=Lib.hid (aEg A1 m1 c1 bs[k] wr (hr.below HB.out) (by omega));have HTK:Hid (bs.take (k+1)=bs.take k++[bs[k]]):=(List.take_append_getElem hkl).symm;clear hc hv hle hr hlen hmem;go_wp2_with fail;refine HC.out.mono ?_;rintro e w1 ⟨A2,n2,c2,rfl,hn2,_,hown2,hb2⟩;have HN2:=Lib.hid hn2;clear hn2;have HB2:=Lib.hid (HB.out.trans (hb2.mono HB.out.size));have hbw:Below w1.heap.size w1 (w1.alloc (.cells #[.slice A2 n2 c2] 37)):=(Below.refl _ _).alloc (Nat.le_refl _) _;have HBW:=Lib.hid (HB2.out.trans (hbw.mono HB2.out.size));have HOW:Hid ((w1.alloc (.cells #[.slice A2 n2 c2] 37)).ownsRow w.heap.size 37 1 u3 k vs):=(HO.out.kept (aA7 hb2 none) (Classical.em _)).alloc _;have HR1:Hid (RdV (w1.alloc (.cells #[.slice A2 n2 c2] 37)) (some ⟨w1.heap.size,0,none⟩) 1 [.slice A2 n2 c2]):=aD8 w1 37 [.slice A2 n2 c2];have HF2:Hid (Fresh w.heap.size (w1.alloc (.cells #[.slice A2 n2 c2] 37)) (vs++[.slice A2 n2 c2]) (bs.take (k+1))):=by
    rw [HTK.out];exact ((HF.out.below hb2).below hbw).snoc ((aAh hown2 HB.out.size).alloc _)
   clear hown2 hb2 hbw HC hcell;go_wp2_with (at_builtin;refine aBg rfl (.tmp 17) (.tmp 20) _ rfl aOz HI.out HZ0.out HZ1.out HZ2.out rfl rfl HOW.out rfl HR1.out (by simp [Value.oneCell']) (by unfold maxLen;omega) (by omega) HBW.out.size ?_)
   intro v' w3 hown3 hgr3;have HO3:=Lib.hid hown3;have HF3:=Lib.hid (HF2.out.grown hgr3 (by decide) fun r hr=>Lib.ownsRow_kind HOW.out r hr);have HB3:=Lib.hid (HBW.out.grown hgr3 HBW.out.size (fun g hg=>(HOW.out.lt g hg).1));clear hown3 hgr3;go_wp2_with fail;exact ⟨⟨k+1,vs++[.slice A2 n2 c2],by have:=HK0.out;omega,rfl,HO3.out,HF3.out,HB3.out⟩,by simp [intOf];omega⟩
  ·obtain rfl:k=k0:=by omega
   have hf:=HF.out;rw [List.take_of_length_le (by have:=HK0.out;omega)] at hf;obtain ⟨A3,c3,hv3⟩:=aAq HO.out;have hns:=HO.out;rw [hv3] at hns;have hkk:=(RdV.of_own hns).2;subst hv3;have HFF:=Lib.hid hf;clear hf hns hkk;go_wp2_with fail;go_ret;refine ⟨A3,c3,vs,?_,?_,HFF.out,HB.out⟩
   ·rw [←HK0.out];rfl
   ·rw [←HK0.out];exact HO.out
end Go.Proofs.YtgjmbbkcgillcaaGreat.Log
namespace Go.Proofs.YtgjmbbkcgillcaaGreat.Log
open Go.RowKit Disk
theorem aPm (ps:Pages):headS (leafF (pg ps 0))=(headP ps).getD 0∧∀s,headP ps=some s→0<s∧s<18446744073709551616:=by
 unfold headP headS;cases h:says (pg ps 0) with
 |none=>
  rw [aGg h];exact ⟨rfl,fun s hs=>by cases hs⟩
 |some x=>
  obtain ⟨s,a,o,b⟩:=x;rw [aCx h];have hb:=aJz h;dsimp only
  by_cases hc:a=0∧o=0∧b=[]
  ·rw [if_pos hc,if_pos hc];exact ⟨rfl,fun s' hs=>by injection hs with hs;omega⟩
  ·rw [if_neg hc,if_neg hc];exact ⟨rfl,fun s hs=>by cases hs⟩
theorem aUn {ps:Pages} {h l e:Nat} {bs:List (List UInt8)} (hh:headP ps=some h) (hr:Run ps h 1 bs l e) (hn:rec1 ps l e=none):Recs ps=(true,bs,e):=by
 unfold Recs;rw [hh];dsimp only
 rw [aMd hr hn (by omega)]
theorem aM7 {ps:Pages} (hh:headP ps=none):Recs ps=(false,[],1):=by
 unfold Recs;rw [hh]
theorem aRx (gd:Nat) (f n:Int) (hd:Bool) (R:Option Addr) (k c:Nat) (e t:Int) (m:Bool):∀(i:Nat) (y:UInt8),(#[.pointer (some ⟨gd,0,none⟩),.int .i64 f,.int .i64 n,.bool hd,.slice R k c,.int .i64 e,.int .u64 t,.bool m]:Array Value)[i]?≠some (U y):=by
 intro i y h;have n64:∀(z:Int) (b:UInt8),Value.int .u64 z≠U b:=fun z b h=>by unfold U at h;injection h with h;cases h
 have i64:∀(z:Int) (b:UInt8),Value.int .i64 z≠U b:=fun z b h=>by unfold U at h;injection h with h;cases h
 match i with
 |0=>simp at h;cases h
 |1=>simp at h;exact i64 _ _ h
 |2=>simp at h;exact i64 _ _ h
 |3=>simp at h;cases h
 |4=>simp at h;cases h
 |5=>simp at h;exact i64 _ _ h
 |6=>simp at h;exact n64 _ _ h
 |7=>simp at h;cases h
 |i+8=>simp at h
theorem LvS.out {W W':World} {B o n g:Nat} {fs:List Lf} (h:LvS W B o n fs) (ho:Out (·=g) W W') (hB:B≠g) (hg:∃t cs,Bk W g t cs∧∀(i:Nat) (y:UInt8),cs[i]?≠some (U y)):LvS W' B o n fs:=
 ⟨h.len,fun j f hj=>by
  obtain ⟨A,m,c,h0,h1,c0,c1,c2,c3⟩:=h.at_ j f hj;have k:=fun (i:Nat) (v:Value) (hc:W.cell? ⟨B,i,none⟩=some v)=>(ho.cell (World.block_lt_of_cell? W _ hc) hB).trans hc;exact ⟨A,m,c,h0,aUx h1 ho (fun b hb=>by subst hb;exact hg),k _ _ c0,k _ _ c1,k _ _ c2,k _ _ c3⟩⟩
theorem LgAt.nobyte {w:World} {Y:Nat→Prop} {g gd:Nat} {f:Int} {n:Nat} {L:LK} (h:LgAt w Y g gd f n L):∃t cs,Bk w g t cs∧∀(i:Nat) (y:UInt8),cs[i]?≠some (U y):=by
 obtain ⟨R,c,vs,h⟩:=h;exact ⟨_,_,h.bk,aRx _ _ _ _ _ _ _ _ _ _⟩
theorem LgAt.headTo {w:World} {Y:Nat→Prop} {g gd:Nat} {f:Int} {n:Nat} {L:LK} (h:LgAt w Y g gd f n L) (hd:Bool) (e:Nat):LgAt ((w.setCell ⟨g,3,none⟩ (.bool hd)).setCell ⟨g,5,none⟩ (.int .i64 (e:Int))) Y g gd f n {L with head:=hd,end_:=e}:=by
 obtain ⟨R,c,vs,h⟩:=h;exact ⟨R,c,vs,(h.set (L':={L with head:=hd}) 3 (.bool hd) rfl (by simp)).set (L':={L with head:=hd,end_:=e}) 5 _ rfl (by simp)⟩
def bBk (w:World) (g gd:Nat) (f:Int) (n t:Nat) (ps:Pages) (h0:Nat) (v:Value) (wr:World):Prop:=
 ∃(bs:List (List UInt8)) (l e:Nat) (Y:Nat→Prop),v=.int .u64 (l:Int)∧Run ps h0 1 bs l e∧LgAt wr Y g gd f n ⟨true,bs,e,t,false⟩∧Out (·=g) w wr∧(∀k,Y k→k=g∨w.heap.size≤k)∧bs.length≤e
def aQp (w:World) (g gd:Nat) (f:Int) (n t:Nat) (ps:Pages) (x:Ending) (w':World):Prop:=
 x=.returned (.tuple #[])∧∃Y,LgAt w' Y g gd f n ⟨(Recs ps).1,(Recs ps).2.1,(Recs ps).2.2,t,false⟩∧Out (·=g) w w'∧∀k,Y k→k=g∨w.heap.size≤k
set_option maxRecDepth 100000 in
theorem aYu {w:World} {g gd:Nat} {f:Int} {n t B o c:Nat} {ps:Pages} (h:LgAt w (·=g) g gd f n ⟨false,[],0,t,false⟩) (hl:LvS w B o n (ps.map leafF)) (hB:B≠g) (hn:2≤n) (hn2:n≤5000) (hnc:n≤c):
  Calls Tryz.prog 180 #[.pointer (some ⟨g,0,none⟩),.slice (some ⟨B,o,none⟩) n c] w (aQp w g gd f n t ps):=by
 have hps:ps.length=n:=by have:=hl.len;rwa [List.length_map] at this
 obtain ⟨hh1,hh2⟩:=aPm ps;have hget0:(ps.map leafF)[0]? =some (leafF (pg ps 0)):=by
  unfold pg;rw [List.getElem?_map,List.getD_eq_getElem?_getD,List.getElem?_eq_getElem (by omega)];rfl
 obtain ⟨A0,m0,c0,hle0,hr0,x0,x1,x2,x3⟩:=hl.at_ 0 _ hget0;rw [Nat.zero_mul,Nat.add_zero] at x0 x1 x2 x3;have hbd:=aC8 (pg ps 0);have HCH:=Lib.hid (aLy (leafF (pg ps 0)).1 (leafF (pg ps 0)).2.1 (leafF (pg ps 0)).2.2.1 m0 c0 A0 (leafF (pg ps 0)).2.2.2 w hr0.len hbd.1 hbd.2.1 hbd.2.2.1 (by have:=hr0.len;have:=hbd.2.2.2;omega));have e0:headS ((leafF (pg ps 0)).1,(leafF (pg ps 0)).2.1,(leafF (pg ps 0)).2.2.1,(leafF (pg ps 0)).2.2.2)=(headP ps).getD 0:=hh1;rw [e0] at HCH;have H:=Lib.hid h;have HL:=Lib.hid hl;have HH:=Lib.hid hh2;have HPS:=Lib.hid hps;have HBG:=Lib.hid hB;clear h hl hh1 hh2 hget0 hle0 hr0 e0 hbd hps hB;generalize (leafF (pg ps 0)).1=s0 at*;generalize (leafF (pg ps 0)).2.1=a0 at*;generalize (leafF (pg ps 0)).2.2.1=o0 at*;go_enter Tryz.func180,Tryz.ntmps180
 go_wp2_with fail;refine HCH.out.mono ?_;rintro e w1 ⟨rfl,hb1⟩;have H1:=Lib.hid (H.out.below hb1);have HL1:=Lib.hid (HL.out.below hb1);have HO1:Hid (Out (·=g) w w1):=Out.of_below hb1;obtain ⟨-,-,-,k3,k5,-,-,fr⟩:=H1.out.cell5;have f3:=fr 3;have f5:=fr 5;have k5':∀b:Value,(w1.setCell ⟨g,3,none⟩ b).cell? ⟨g,5,none⟩=some (.int .i64 0):=fun b=>by
  rw [World.cell?_setCell_other _ _ _ _ (by simp)];exact k5
 have HH0:=HH.out;clear fr hb1 HCH x0 x1 x2 x3;cases hp:headP ps with
 |none=>
  have HR:=Lib.hid (aM7 hp);have HFIN:=Lib.hid (H1.out.headTo false 1);have HOF:Hid (Out (·=g) w ((w1.setCell ⟨g,3,none⟩ (.bool false)).setCell ⟨g,5,none⟩ (.int .i64 1))):=(HO1.out.trans (aDa (Y:=(·=g)) rfl) (fun k hk=>.inl hk)).trans (aDa (Y:=(·=g)) rfl) (fun k hk=>.inl hk);have z:((none:Option Nat).getD 0:Int)=0:=rfl;rw [Option.getD_none];go_wp2_with fail;go_loopw [4] (fun v wr=>v=.int .u64 0∧wr=((w1.setCell ⟨g,3,none⟩ (.bool false)).setCell ⟨g,5,none⟩ (.int .i64 1))) (fun _ _=>1)
  case atStart=>exact ⟨rfl,rfl⟩
  case round=>
   obtain ⟨rfl,rfl⟩:=hrel;go_wp2_with fail
   go_end0
   refine ⟨rfl,_,?_,HOF.out,fun k hk=>.inl hk⟩;rw [HR.out];exact HFIN.out
 |some h0=>
  obtain ⟨hpos,hlt⟩:=HH0 h0 hp;have HPOS:=Lib.hid hpos;have HHP:=Lib.hid hp;have HFIN:=Lib.hid (H1.out.headTo true 1);have HOF:Hid (Out (·=g) w ((w1.setCell ⟨g,3,none⟩ (.bool true)).setCell ⟨g,5,none⟩ (.int .i64 1))):=(HO1.out.trans (aDa (Y:=(·=g)) rfl) (fun k hk=>.inl hk)).trans (aDa (Y:=(·=g)) rfl) (fun k hk=>.inl hk);have q1:decide ((0:Int)<(h0:Int))=true:=decide_eq_true (by omega);rw [Option.getD_some];clear hp HH0 HH;go_wp2_with fail;go_loopw [4] (fun v wr=>bBk w g gd f n t ps h0 v wr) (fun v _=>18446744073709551616 - (intOf v).toNat)
  case atStart=>exact ⟨[],h0,1,(·=g),rfl,.nil _ _,HFIN.out,HOF.out,fun k hk=>.inl hk,by simp⟩
  case round=>
   obtain ⟨bs,l,e,Y,rfl,hrun,hlg,ho,hY,hbe⟩:=hrel;have hrl:=hrun.le;have hlpos:0<l:=by have:=hrl.2.1;have:=HPOS.out;omega
   have hen:e≤n:=by have:=hrl.2.2 (by rw [HPS.out];omega);rw [HPS.out] at this;exact this
   have h1e:=hrl.1;have hlv:=HL.out.out ho HBG.out H.out.nobyte;obtain ⟨-,-,-,-,j5,-,-,-⟩:=hlg.cell5;have HLV:=Lib.hid hlv;have HRUN:=Lib.hid hrun;have HLG:=Lib.hid hlg;have HO:=Lib.hid ho;have HY:=Lib.hid hY;have HBE:=Lib.hid hbe;have p1:decide ((0:Int)<(l:Int))=true:=decide_eq_true (by omega);clear hrl hlv hrun hlg ho hY hbe k3 k5 f3 f5 k5' q1;have HNONE:Hid (rec1 ps l e=none→∀w',Below wr.heap.size wr w'→aQp w g gd f n t ps (.returned (.tuple #[])) w'):=fun hnone w' hb'=>by
    refine ⟨rfl,Y,?_,HO.out.trans (Out.of_below hb') (fun k hk=>.inl hk),HY.out⟩;rw [aUn HHP.out HRUN.out hnone];exact HLG.out.below hb'
   by_cases hlt2:e<n
   ·have HLD:Hid (LvS wr B (o+e*4) (n - e) ((ps.drop e).map leafF)):=by
     have:=HLV.out.drop e hen;rwa [←List.map_drop] at this
    have HCF:=Lib.hid (aX0 B (o+e*4) (n - e) (c - e) l e ps wr HLD.out (by omega) (by omega) (by omega) (by rw [HPS.out];omega));have g1:((n - e:Nat):Int)=(n:Int) - (e:Int):=by omega
    have g2:((c - e:Nat):Int)=(c:Int) - (e:Int):=by omega
    have g3:¬(c=e):=by omega
    have g4:(e:Int)≤(n:Int):=by omega
    have g5:(n:Int)≤(c:Int):=by omega
    have g6:e≤n:=hen;have g7:¬(c - e=0):=by omega
    go_wp2_with fail;refine HCF.out.mono ?_;rintro x w2 ⟨hb2,hx⟩;have HB2:=Lib.hid hb2;clear hb2 g1 g2 g3 g4 g5 g6 g7;cases hrec:rec1 ps l e with
    |none=>
     rw [hrec] at hx;have hx:x=.returned (.slice none 0 0):=hx;subst hx;have HT:=Lib.hid (HNONE.out hrec w2 HB2.out);clear hrec;go_wp2_with fail
     go_end0
     exact HT.out
    |some y=>
     obtain ⟨s,m,b⟩:=y;rw [hrec] at hx;have hx:x=.returned (.slice (some ⟨B,o+e*4,none⟩) m (c - e)):=hx;subst hx;obtain ⟨r1,r2,r3,r4,r5,r6⟩:=aK0 hrec;have hbd:=aC8 (pg ps e);have hget:((ps.drop e).map leafF)[0]? =some (leafF (pg ps e)):=by
      unfold pg;rw [List.getElem?_map,List.getElem?_drop,Nat.add_zero,List.getD_eq_getElem?_getD,List.getElem?_eq_getElem (by rw [HPS.out];omega)];rfl
     have hmn:m≤n - e:=by rw [HPS.out] at r3;omega
     have HLT:=Lib.hid ((HLD.out.below HB2.out).take m hmn);obtain ⟨A2,m2,c2,_,_,y0,-,-,-⟩:=(HLD.out.below HB2.out).at_ 0 _ hget;rw [r4,Nat.zero_mul,Nat.add_zero] at y0;have HBT:Hid ((((ps.drop e).map leafF).take m).map (·.2.2.2)=(List.range m).map fun j=>(leafF (pg ps (e+j))).2.2.2):=by
      refine List.ext_getElem? fun j=>?_;rw [List.getElem?_map,List.getElem?_map];by_cases hj:j<m
      ·rw [List.getElem?_take_of_lt hj,List.getElem?_map,List.getElem?_drop,List.getElem?_eq_getElem (by rw [HPS.out];omega),List.getElem?_range hj];unfold pg;rw [Option.map_some,Option.map_some,Option.map_some,List.getD_eq_getElem?_getD,List.getElem?_eq_getElem (by rw [HPS.out];omega)];rfl
      ·rw [List.getElem?_eq_none (by rw [List.length_take];omega),List.getElem?_eq_none (by rw [List.length_range];omega)];rfl
     have HB4:Hid (((List.range m).map fun j=>(leafF (pg ps (e+j))).2.2.2).flatten=b):=by
      have h1:=(aAz hrec).2.2.2.1;have h2:=aJb (ps:=ps) (s:=s) (m:=m) (by omega) m e 0 fun j hj=>by
       have:=r6 j hj;exact ⟨this.1,by omega,this.2.2⟩
      rw [h1] at h2;injection h2 with h2;exact h2.symm
     have HCT:=Lib.hid (aRz B (o+e*4) m (c - e) (((ps.drop e).map leafF).take m) w2 HLT.out (fun f hf=>by
      have:=List.mem_of_mem_take hf;obtain ⟨p,_,rfl⟩:=List.mem_map.1 this;exact (aC8 p).2.2.2) (by omega))
     rw [HBT.out,HB4.out] at HCT;have HRN:=Lib.hid (HRUN.out.snoc hrec);have hs64:s<18446744073709551616:=by have:=hbd.1;omega
     have HS64:=Lib.hid hs64;have HR1:=Lib.hid r1;have HMN:=Lib.hid hmn;have HM1:=Lib.hid r2;have HLG2:=Lib.hid (HLG.out.below HB2.out);have HO2:Hid (Out (·=g) w w2):=HO.out.trans (Out.of_below HB2.out) (fun k hk=>.inl hk);have m1:¬((m:Int)=0):=by omega
     have m2':(0:Int)<(m:Int):=by omega
     have m3:0<m:=r2;clear hrec hget r3 r4 r5 r6 hbd hmn HBT HB4 HLT HCF HNONE j5;go_wp2_with fail;refine HCT.out.mono ?_;rintro e3 w3 ⟨A3,n3,c3,rfl,hn3,hc3,hown3,hb3⟩;have HN3:=Lib.hid hn3;clear hn3;have HLG3:=Lib.hid (HLG2.out.below hb3);have HO3:Hid (Out (·=g) w w3):=HO2.out.trans (Out.of_below hb3) (fun k hk=>.inl hk);have hA:∀a,A3=some a→¬Y a.block∧a.block<w3.heap.size:=fun a ha=>by
      have:=hown3.lt a.block (by rw [ha];rfl);exact ⟨fun hY=>by have:=HLG2.out.lt _ hY;omega,this.2⟩
     have HCK:=Lib.hid (aF7 HLG3.out A3 n3 c3 b (Rd.of_own hown3).1 hc3 hA m (by dsimp only;have:=HMN.out;omega) (by dsimp only;have:=HBE.out;omega));have HAA:Hid (∀a,A3=some a→w2.heap.size≤a.block):=fun a ha=>(hown3.lt a.block (by rw [ha];rfl)).1;clear hown3 hb3 hA hc3;go_wp2_with fail;refine HCK.out.mono ?_;rintro e4 w4 ⟨rfl,Y4,hlg4,ho4,hY4⟩;have HLG4:=Lib.hid hlg4;have HO4:Hid (Out (·=g) w w4):=HO3.out.trans ho4 (fun k hk=>HY.out k hk);have HY4:Hid (∀k,Y4 k→k=g∨w.heap.size≤k):=fun k hk=>by
      rcases hY4 k hk with h|h|⟨a,ha,rfl⟩
      ·exact HY.out k h
      ·exact .inr (Nat.le_trans HO3.out.size h)
      ·exact .inr (Nat.le_trans HO2.out.size (HAA.out a ha))
     have HBE4:Hid ((bs++[b]).length≤e+m):=by have:=HBE.out;have:=HM1.out;show _≤_;rw [List.length_append,List.length_singleton];omega
     clear hlg4 ho4 hY4;go_wp2_with fail;refine ⟨⟨bs++[b],s,e+m,Y4,rfl,HRN.out,HLG4.out,HO4.out,HY4.out,HBE4.out⟩,?_⟩;have:=HS64.out;have:=HR1.out;simp [intOf];omega
   ·obtain rfl:e=n:=by omega
    have HN1:=Lib.hid (HNONE.out (aQn (k:=0) (aKt _ _ _) (by rw [HPS.out];omega)) wr (Below.refl _ _));have hsub:∀(A:Option Addr) (c':Nat),Calls Tryz.prog 209 #[.slice A 0 c',.int .u64 (l:Int)] wr (Ans (.slice none 0 0) wr):=fun A c'=>aSs A c' l wr;have HSUB:=Lib.hid hsub;have g5:(e:Int)≤(c:Int):=by omega
    have g6:e - e=0:=Nat.sub_self e;clear hsub;go_wp2_with fail
    all_goals
     refine (HSUB.out _ _).mono ?_;rintro x _ ⟨rfl,rfl⟩;go_wp2_with fail
     go_end0
     exact HN1.out
end Go.Proofs.YtgjmbbkcgillcaaGreat.Log
namespace Go.Proofs.YtgjmbbkcgillcaaGreat.PhaseG
open Phase (reachB Closed aA4 aAu StepsL DepL)
def StepS (P:Program) (Q:Exit→Act→World→Prop) (l:List Oper) (a0:Act) (wr:List Nat) (Ph:Nat→(Nat→Value)→World→Prop) (f:Nat) (i:Nat) (o:Oper):Prop:=
 ∀(a:Act) (s:Nat) (v:Nat→Value) (W:World),s≤wr.length→DepL l v a0 o a→Ph s v W→(∀k:Nat,wr[k]? =some i→s=k)→(∀k x:Nat,wr[k]? =some x→reachB l f x i=true→s≤k)→(∀k x:Nat,wr[k]? =some x→reachB l f i x=true→k<s)→
  ∀K:Act→World→Prop,(∀s' v' W',((∀k:Nat,wr[k]?≠some i)→s'=s)→(∀k:Nat,wr[k]? =some i→s'=s+1)→(∀k,v' k≠v k→k=i∨reachB l f k i=true)→Ph s' v' W'→K (a.put o.dst (v' i)) W')→o.wp P a W K Q
section
variable {P:Program} {Q:Exit→Act→World→Prop}
theorem aH9 {l:List Oper} (v0:Nat→Value) {a0:Act} {id:Nat} {w:World} (wr:List Nat) (Ph:Nat→(Nat→Value)→World→Prop) (f:Nat) (hm:P.follows .mixedOrders=true) (hok:okB l.toArray a0.tmps.size=true)
  (hgv:∀s v W,Ph s v W→aDe l.toArray v=true) (h0:Ph 0 v0 {w with drawn:=w.drawn+1}) (hin:∀k x:Nat,wr[k]? =some x→x<l.length) (hchain:∀k x y:Nat,wr[k]? =some x→wr[k+1]? =some y→reachB l f y x=true)
  (hsteps:StepsL (StepS P Q l a0 wr Ph f) 0 l) (hend:∀v W,Ph wr.length v W→Q .normal (final l.toArray v l.length a0) W):
  (Code.region id l.toArray true).wp P Q a0 w:=by
 refine aA8 (v0:=v0) (C:=fun v listed W=>∃s,s≤wr.length∧Ph s v W∧(∀k x:Nat,wr[k]? =some x→(listed.getD x false=true↔k<s))∧Closed l listed∧listed.size=l.length) hm hok (fun v listed W hC=>by obtain ⟨s,_,hp,_⟩:=hC;exact hgv s v W hp) ⟨0,Nat.zero_le _,h0,fun k x _=>?_,fun x o _ h=>?_,by simp⟩ ?_ ?_
 ·rw [aAf];exact ⟨fun h=>(nomatch h),fun h=>absurd h (Nat.not_lt_zero _)⟩
 ·rw [aAf] at h;cases h
 ·intro i o hi v listed a W hun hdeps hf hC K hK;obtain ⟨s,hs,hph,hfl,hcl,hsz⟩:=hC;have hil:l[i]? =some o:=by simpa using hi
  have hlt:i<l.length:=(List.getElem?_eq_some_iff.1 hil).1;have hltl:i<listed.size:=by omega
  have hunf:listed.getD i false=false:=by
   have:listed[i]=false:=by simpa [hltl] using hun
   simp [hltl,this]
  have hD:DepL l v a0 o a:=⟨fun k p d hk hp hd=>by
    obtain ⟨e,he,hek⟩:=aAu hk;simp only [Bool.and_eq_true,beq_iff_eq] at hek;have:=hdeps e he hek.2;rw [hek.1] at this;exact hf.yes k p d (by simpa using hp) hd this,
   fun d hd=>hf.no d fun k p hk hp=>by
    have hk':l[k]? =some p:=by simpa using hk
    have:=List.all_eq_true.1 hd p (List.mem_of_getElem? hk');rw [hp] at this;simp at this⟩
  have hdo:∀o',l[i]? =some o'→∀e∈o'.after,Region.binds .any e=true→listed.getD e.on false=true:=fun o' ho'=>by
   rw [hil] at ho';injection ho' with ho';subst ho';exact hdeps
  have hat:∀k:Nat,wr[k]? =some i→s=k:=fun k hk=>by
   have h1:¬k<s:=fun h=>by rw [(hfl k i hk).2 h] at hunf;cases hunf
   cases k with
   |zero=>omega
   |succ k=>
    have hk':k<wr.length:=by have:=(List.getElem?_eq_some_iff.1 hk).1;omega
    have hx:=List.getElem?_eq_getElem hk';have h2:=aA4 hcl f i _ (hchain k _ i hx hk) hdo;have h3:=(hfl k _ hx).1 h2;omega
  have hS:=Phase.StepsL.get hsteps hil;rw [Nat.zero_add] at hS;refine hS a s v W hs hD hph hat (fun k x hk hr=>?_) (fun k x hk hr=>(hfl k x hk).1 (aA4 hcl f i x hr hdo)) K fun s' v' W' hs1 hs2 hvv hph'=>hK v' W' (fun k hk=>?_) ?_
  ·refine Nat.le_of_not_lt fun h=>?_;have hx:=(hfl k x hk).2 h;have:=aA4 hcl f x i hr (fun o' ho' e he hb=>hcl x o' ho' hx e he hb);rw [this] at hunf;cases hunf
  ·refine Classical.byContradiction fun hne=>?_;rcases hvv k hne with rfl|hr
   ·rw [hk] at hunf;cases hunf
   ·have:=aA4 hcl f k i hr (fun o' ho' e he hb=>hcl k o' ho' hk e he hb);rw [this] at hunf;cases hunf
  ·have hg:∀k,(listed.setIfInBounds i true).getD k false=if k=i then true else listed.getD k false:=fun k=>aAn _ _ _ hltl
   have hcl':Closed l (listed.setIfInBounds i true):=by
    intro x o' ho' hx e he hb;rw [hg];split
    ·rfl
    ·rw [hg] at hx;split at hx
     ·next hxi=>subst hxi;exact hdo o' ho' e he hb
     ·exact hcl x o' ho' hx e he hb
   by_cases hw:∃k:Nat,wr[k]? =some i
   ·obtain ⟨k,hk⟩:=hw;have hsk:=hat k hk;have hs':=hs2 k hk;have hkl:=(List.getElem?_eq_some_iff.1 hk).1;refine ⟨s',by omega,hph',fun j x hj=>?_,hcl',by simpa using hsz⟩;rw [hg];split
    ·next hxi=>
     subst hxi;have:=hat j hj;exact ⟨fun _=>(by omega),fun _=>rfl⟩
    ·next hxi=>
     rw [hfl j x hj];have:j≠s:=fun e=>by
      rw [e,hsk,hk] at hj;injection hj with hj;exact hxi hj.symm
     constructor<;>intro h<;>omega
   ·have hs':=hs1 fun k hk=>hw ⟨k,hk⟩;subst hs';refine ⟨s',hs,hph',fun j x hj=>?_,hcl',by simpa using hsz⟩;rw [hg];split
    ·next hxi=>exact absurd ⟨j,hxi ▸ hj⟩ hw
    ·exact hfl j x hj
 ·intro v listed W hall hC;obtain ⟨s,hs,hph,hfl,_,hsz⟩:=hC;have:s=wr.length:=by
   refine Nat.le_antisymm hs (Nat.le_of_not_lt fun h=>?_);have hx:=List.getElem?_eq_getElem h;have h1:=(hfl s _ hx).1 (hall _ (by simpa using hin s _ hx));omega
  subst this;simpa using hend v W hph
theorem aAm {l:List Oper} (v0:Nat→Value) {a0:Act} {id:Nat} {w:World} (wr:List Nat) (Ph:Nat→(Nat→Value)→World→Prop) (f:Nat) (hm:P.follows .mixedOrders=true) (hok:okB l.toArray a0.tmps.size=true)
  (hgv:∀s v W,Ph s v W→aDe l.toArray v=true) (h0:Ph 0 v0 {w with drawn:=w.drawn+1}) (hin:∀k x:Nat,wr[k]? =some x→x<l.length) (hchain:∀k x y:Nat,wr[k]? =some x→wr[k+1]? =some y→reachB l f y x=true)
  (hsteps:StepsL (StepS P Q l a0 wr Ph f) 0 l) (F:(Nat→Value)→Act) (hF:∀v,final l.toArray v l.length a0=F v) (hend:∀v W,Ph wr.length v W→Q .normal (F v) W):
  (Code.region id l.toArray true).wp P Q a0 w:=
 aH9 v0 wr Ph f hm hok hgv h0 hin hchain hsteps fun v W hp=>by rw [hF v];exact hend v W hp
end
end Go.Proofs.YtgjmbbkcgillcaaGreat.PhaseG
