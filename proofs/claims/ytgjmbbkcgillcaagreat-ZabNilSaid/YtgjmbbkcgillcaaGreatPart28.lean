/- Lemmas, part 28: StoInv, StoOwn, StoWakes, StoHelp, BalPure -/
import Derived.Test.YtgjmbbkcgillcaaGreatPart27
import Derived.Lib.ConvBytes
import Derived.WalkKit
set_option maxHeartbeats 16000000
namespace Go.Proofs.YtgjmbbkcgillcaaGreat.Sto
open Go.RowKit Disk Log
theorem aVn {d d':DK} {f n:Nat} {L:LK} (h:KL d f n L) (h1:Ok d') (h2:d'.dead=false) (h3:d'.pages.length=d.pages.length) (h4:Log.part (now d') f n=Log.part (now d) f n) (h5:d'.row=[]):KL d' f n L:=
 ⟨⟨h1,h2,h.up.two,by rw [h3];exact h.up.in_,by rw [h4];exact h.up.low⟩,by rw [h4];exact h.recs,h.met,h5,h.sz⟩
theorem Area.at_ {d:DK} {f p M T:Nat} {k:Kp} (h:Area d f p M k) (u:Up d f p T):Area d f p T k:=⟨u,h.tame,h.recs⟩
structure Rests (d:DK) (p N:Nat) (S:Kp→Prop):Prop where
 half:d.pages.length / 2=p∧4≤p
 row:d.row=[]
 at_:∃a b,Area d 0 p N a∧Area d p p N b∧((Later a b∧S b)∨(¬Later a b∧(Later b a∨(a=Kp.zero∧b=Kp.zero))∧S a))
theorem aEp {d:DK} {p N:Nat} {S:Kp→Prop} (lv:Bool) {x y:Kp} (h1:d.pages.length / 2=p∧4≤p) (h2:d.row=[]) (hx:Area d (fOf lv p) p N x) (hy:Area d (fOf (!lv) p) p N y) (ho:(Later y x∧S x)∨(Later x y∧S y)∨(x=Kp.zero∧y=Kp.zero∧S Kp.zero)):Rests d p N S:=by
 cases lv with
 |false=>
  refine ⟨h1,h2,x,y,hx,hy,?_⟩;rcases ho with ⟨q,s⟩|⟨q,s⟩|⟨rfl,rfl,s⟩
  ·exact .inr ⟨q.not,.inl q,s⟩
  ·exact .inl ⟨q,s⟩
  ·exact .inr ⟨fun h=>h.not h,.inr ⟨rfl,rfl⟩,s⟩
 |true=>
  refine ⟨h1,h2,y,x,hy,hx,?_⟩;rcases ho with ⟨q,s⟩|⟨q,s⟩|⟨rfl,rfl,s⟩
  ·exact .inl ⟨q,s⟩
  ·exact .inr ⟨q.not,.inl q,s⟩
  ·exact .inr ⟨fun h=>h.not h,.inr ⟨rfl,rfl⟩,s⟩
structure SvK (d:DK) (p:Nat) (La Lb:LK) (lv:Bool) (k:Kp) (N:Nat):Prop where
 half:d.pages.length / 2=p∧4≤p
 ka:KL d (fOf lv p) p La
 kb:KL d (fOf (!lv) p) p Lb
 aa:Area d (fOf lv p) p La.top k
 ab:∃b,Area d (fOf (!lv) p) p Lb.top b∧(Later b k∨(b=Kp.zero∧k=Kp.zero))
 ta:La.top≤N
 tb:Lb.top≤N
theorem SvK.fine {d:DK} {p:Nat} {La Lb:LK} {lv:Bool} {k:Kp} {N:Nat} (h:SvK d p La Lb lv k N):Fine k:=h.aa.fine
theorem SvK.mono {d:DK} {p:Nat} {La Lb:LK} {lv:Bool} {k:Kp} {N M:Nat} (h:SvK d p La Lb lv k N) (hm:N≤M):SvK d p La Lb lv k M:=⟨h.half,h.ka,h.kb,h.aa,h.ab,Nat.le_trans h.ta hm,Nat.le_trans h.tb hm⟩
theorem aNz (lv:Bool) (p:Nat):fOf lv p+p≤fOf (!lv) p∨fOf (!lv) p+p≤fOf lv p:=by cases lv<;>simp [fOf]
theorem aEo (lv:Bool) (p:Nat):fOf (!lv) p+p≤fOf lv p∨fOf lv p+p≤fOf (!lv) p:=by cases lv<;>simp [fOf]
theorem aZw {d:DK} {p:Nat} (h:d.pages.length / 2=p) (lv:Bool):fOf lv p+p≤d.pages.length:=by cases lv<;>simp [fOf]<;>omega
theorem aKy {k:Kp} (h:Fine k):Later Kp.zero k∨k=Kp.zero:=by
 rcases Nat.eq_zero_or_pos k.promised with h0|h0
 ·exact .inr (h.none_ h0)
 ·exact .inl (.inl h0)
theorem Ok.of_com {d:DK} {f n:Nat} {L L':LK} {b:List UInt8} {z:Int} {d':DK} (h:ComK d f n L b z d' L') (hd:Ok d):Ok d':=by rw [h.disk];exact Ok.commitF hd _ _ _ _
theorem Ok.of_res {d:DK} {f n:Nat} {L L':LK} {z:Int} {d':DK} (h:ResK d f n L z d' L') (hd:Ok d):Ok d':=by rw [h.disk];exact Ok.resetF hd _ _
section
variable {d d':DK} {p:Nat} {La Lb La' Lb':LK} {lv:Bool} {k:Kp} {N:Nat}
theorem aZs {f g:Nat} {L L' M:LK} {x y:Kp} {r:Rec} (hk:KL d f p L) (hm:KL d g p M) (ha:Area d f p L.top x) (hb:Area d g p M.top y) (hfg:f+p≤g∨g+p≤f) (hg:g+p≤d.pages.length) (hN:L.top+2<65536) (hr:r.may x) (hf:fits (r.run x) p=true) (h:ComK d f p L r.text 0 d' L'):
  d'.pages.length=d.pages.length∧KL d' f p L'∧KL d' g p M∧Area d' f p L'.top (r.run x)∧Area d' g p M.top y∧L'.top≤L.top+2∧(d.left<0→d'.left=d.left):=by
 obtain ⟨c1,c2,c3,c4,c5,c6⟩:=h.good rfl;have hps:p<65536:=by have:=hk.many;omega
 have h0:(commitF d f p L.top r.text).1.1=0:=h.ans.symm;obtain ⟨a1,a2,a3⟩:=ha.commit hk.row hN hps hr hf h0;rw [←h.disk] at a1 a2 a3;have hs:=(aD7 (b:=r.text) hk.up hk.row hN (by rw [h0];decide) []).1 g p hg hfg;have haf:after (Log.commitF d f p L.top r.text).1 []=d':=by unfold after;rw [if_pos h0,h.disk]
 rw [haf] at hs;have hok:=Ok.of_com h hk.up.ok;exact ⟨a3,c1,aVn hm hok c1.up.on a3 hs c1.row,a1.at_ c1.up,hb.side hok c1.up.on a3 hs,c4,c5⟩
theorem aR7 {f g:Nat} {L L' M:LK} {x y:Kp} {r:Rec} {z:Int} (hk:KL d f p L) (ha:Area d f p L.top x) (hb:Area d g p M.top y) (hfg:f+p≤g∨g+p≤f) (hg:g+p≤d.pages.length) (hN:L.top+2<65536) (hr:r.may x) (hf:fits (r.run x) p=true) (h0:z≠0) (h4:z≠4) (h:ComK d f p L r.text z d' L'):
  z=9∧d'.dead=true∧0≤d.left∧d'.pages.length=d.pages.length∧∀fates,(d'.restart fates).row=[]∧(d'.restart fates).pages.length=d.pages.length∧(Area (d'.restart fates) f p (Log.upTo (L.top+2)) x∨Area (d'.restart fates) f p (Log.upTo (L.top+2)) (r.run x))∧Area (d'.restart fates) g p M.top y:=by
 have hps:p<65536:=by have:=hk.many;omega
 have e0:(commitF d f p L.top r.text).1.1≠0:=by rw [←h.ans];exact h0
 have e4:(commitF d f p L.top r.text).1.1≠4:=by rw [←h.ans];exact h4
 obtain ⟨c1,c2,c3,c4,c5⟩:=aFg hk.up hk.row hN hps e0 e4;refine ⟨by rw [h.ans];exact c1,by rw [h.disk];exact c2,c3,by rw [h.disk];exact c4,fun fates=>?_⟩;obtain ⟨a1,-⟩:=ha.lost hk.row hN hps hr hf e0 e4 fates;rw [←h.disk] at a1;have hs:=(aD7 (b:=r.text) hk.up hk.row hN e4 fates).1 g p hg hfg;have haf:after (Log.commitF d f p L.top r.text).1 fates=d'.restart fates:=by unfold after;rw [if_neg e0,h.disk]
 rw [haf] at hs;have hok:=(Ok.of_com h hk.up.ok).restart fates;have hlen:(d'.restart fates).pages.length=d.pages.length:=by
  rcases a1 with q|q
  ·show (lay (takes fates) 0 d'.pages d'.row).length=_;rw [aA9,h.disk,c4]
  ·show (lay (takes fates) 0 d'.pages d'.row).length=_;rw [aA9,h.disk,c4]
 exact ⟨rfl,hlen,a1,hb.side hok rfl hlen hs⟩
theorem bD6 {f g:Nat} {L L' M:LK} {x y:Kp} (hk:KL d f p L) (hm:KL d g p M) (ha:Area d f p L.top x) (hb:Area d g p M.top y) (hfg:f+p≤g∨g+p≤f) (hg:g+p≤d.pages.length) (hN:L.top+2<65536) (h:ResK d f p L 0 d' L'):
  d'.pages.length=d.pages.length∧KL d' f p L'∧KL d' g p M∧Area d' f p L'.top Kp.zero∧Area d' g p M.top y∧L'.top=L.top+1∧L'.end_=1∧(d.left<0→d'.left=d.left):=by
 obtain ⟨c1,c2,c3,c4,c5⟩:=h.good rfl;have h0:(resetF d f L.top).1=0:=h.ans.symm;obtain ⟨a1,a0,a2,a3⟩:=ha.reset hk.row hN h0;rw [←h.disk] at a1 a2 a3;have hs:=aEq hk.up hk.row hg hfg [];have haf:after (Log.resetF d f L.top) []=d':=by unfold after;rw [if_pos h0,h.disk]
 rw [haf] at hs;have hok:=Ok.of_res h hk.up.ok;exact ⟨a3,c1,aVn hm hok c1.up.on a3 hs c1.row,a1.at_ c1.up,hb.side hok c1.up.on a3 hs,c4,c3,c5⟩
theorem aYi {f g:Nat} {L L' M:LK} {x y:Kp} {z:Int} (hk:KL d f p L) (ha:Area d f p L.top x) (hb:Area d g p M.top y) (hfg:f+p≤g∨g+p≤f) (hg:g+p≤d.pages.length) (hN:L.top+2<65536) (h0:z≠0) (h:ResK d f p L z d' L'):
  z=9∧d'.dead=true∧0≤d.left∧d'.pages.length=d.pages.length∧∀fates,(d'.restart fates).row=[]∧(d'.restart fates).pages.length=d.pages.length∧(Area (d'.restart fates) f p (Log.upTo (L.top+2)) x∨Area (d'.restart fates) f p (Log.upTo (L.top+2)) Kp.zero)∧Area (d'.restart fates) g p M.top y:=by
 have e0:(resetF d f L.top).1≠0:=by rw [←h.ans];exact h0
 obtain ⟨c1,c2,c3,c4,c5⟩:=aF2 hk.up hk.row (by omega) e0;refine ⟨by rw [h.ans];exact c1,by rw [h.disk];exact c2,c3,by rw [h.disk];exact c4,fun fates=>?_⟩;obtain ⟨a1,-⟩:=ha.unset hk.row hN e0 fates;rw [←h.disk] at a1;have hs:=aEq hk.up hk.row hg hfg fates;have haf:after (Log.resetF d f L.top) fates=d'.restart fates:=by unfold after;rw [if_neg e0,h.disk]
 rw [haf] at hs;have hok:=(Ok.of_res h hk.up.ok).restart fates;have hlen:(d'.restart fates).pages.length=d.pages.length:=by
  show (lay (takes fates) 0 d'.pages d'.row).length=_;rw [aA9,h.disk,c4]
 exact ⟨rfl,hlen,a1,hb.side hok rfl hlen hs⟩
end
def Step (d:DK) (p:Nat) (La Lb:LK) (lv:Bool) (k:Kp) (N:Nat) (D:Deed) (x:Int) (d':DK) (La' Lb':LK) (lv':Bool) (k':Kp) (met':Bool):Prop:=
 (x=1∧D.may k=false∧d'=d∧La'=La∧Lb'=Lb∧lv'=lv∧k'=k∧met'=false)∨
 (x=4∧D.may k=true∧fits (D.run k) p=false∧d'=d∧La'=La∧Lb'=Lb∧lv'=lv∧k'=k∧met'=false)∨
 (x=0∧D.may k=true∧fits (D.run k) p=true∧k'=D.run k∧met'=false∧SvK d' p La' Lb' lv' k' (N+4)∧d'.pages.length=d.pages.length∧(d.left<0→d'.left=d.left))∨
 (x=9∧D.may k=true∧fits (D.run k) p=true∧0≤d.left∧k'=k∧met'=true∧d'.dead=true∧d'.pages.length=d.pages.length∧∀fates,Rests (d'.restart fates) p (Log.upTo (N+4)) fun q=>q=k∨q=D.run k)
theorem bA6 {d:DK} {p:Nat} {La Lb:LK} {lv:Bool} {k:Kp} {N:Nat} {D:Deed} {x:Int} {d':DK} {La' Lb':LK} {lv':Bool} {k':Kp} {met':Bool} (h:SvK d p La Lb lv k N) (hN:N+4<65536) (hs:StR d p La Lb lv k false D x d' La' Lb' lv' k' met'):Step d p La Lb lv k N D x d' La' Lb' lv' k' met':=by
 have hin:=aZw h.half.1;have hfk:=h.fine;have hta:=h.ta;have htb:=h.tb;have hup2:Log.upTo (La.top+2)≤Log.upTo (N+4):=Log.aDk (by omega);have hupb:Log.upTo (Lb.top+2)≤Log.upTo (N+4):=Log.aDk (by omega);have hleN:N+4≤Log.upTo (N+4):=Log.aGb _;rcases hs with ⟨h1,_⟩|⟨_,⟨h1,rfl,q⟩|⟨h1,h2,rfl,q⟩|⟨hm,hf,hw,rfl,rfl⟩⟩
 ·rw [Bool.false_or,h.ka.up.on] at h1;cases h1
 ·exact .inl ⟨rfl,h1,q⟩
 ·exact .inr (.inl ⟨rfl,h1,h2,q⟩)
 ·obtain ⟨b,hb,hbo⟩:=h.ab;have hbk2:Later b (D.run k):=by
   rcases hbo with q|⟨rfl,rfl⟩
   ·exact q.trans (aJ4 hm)
   ·exact aJ4 hm
  have hlr:=aJ4 hm;rcases hw with ⟨hc,h4,rfl,rfl⟩|⟨-,z1,d1,Lb1,hr,hw⟩
  ·by_cases hx0:x=0
   ·subst hx0;obtain ⟨q1,q2,q3,q4,q5,q6,q7⟩:=aZs (r:=.deed D) h.ka h.kb h.aa hb (aNz _ p) (hin _) (by omega) hm hf hc;exact .inr (.inr (.inl ⟨rfl,hm,hf,if_pos rfl,rfl,by rw [if_pos rfl];exact ⟨⟨by rw [q1];exact h.half.1,h.half.2⟩,q2,q3,q4,⟨b,q5,.inl hbk2⟩,by omega,by omega⟩,q1,q7⟩))
   ·obtain ⟨rfl,q2,q3,q4,q5⟩:=aR7 (r:=.deed D) h.ka h.aa hb (aNz _ p) (hin _) (by omega) hm hf hx0 h4 hc;refine .inr (.inr (.inr ⟨rfl,hm,hf,q3,rfl,rfl,q2,q4,fun fates=>?_⟩));obtain ⟨r1,r2,r3,r4⟩:=q5 fates;rcases r3 with r3|r3
    ·refine aEp _ ⟨by rw [r2];exact h.half.1,h.half.2⟩ r1 (r3.mono hup2) (r4.mono (by omega)) ?_;rcases hbo with q|⟨q,r⟩
     ·exact .inl ⟨q,.inl rfl⟩
     ·exact .inr (.inr ⟨r,q,.inl r.symm⟩)
    ·exact aEp _ ⟨by rw [r2];exact h.half.1,h.half.2⟩ r1 (r3.mono hup2) (r4.mono (by omega)) (.inl ⟨hbk2,.inr rfl⟩)
  ·rcases hw with ⟨h1,rfl,rfl,rfl,rfl,rfl⟩|⟨rfl,z2,d2,Lb2,hc2,hw⟩
   ·obtain ⟨rfl,q2,q3,q4,q5⟩:=aYi h.kb hb h.aa (aEo _ p) (hin _) (by omega) h1 hr;refine .inr (.inr (.inr ⟨rfl,hm,hf,q3,rfl,rfl,q2,q4,fun fates=>?_⟩));obtain ⟨r1,r2,r3,r4⟩:=q5 fates;rcases r3 with r3|r3
    ·refine aEp _ ⟨by rw [r2];exact h.half.1,h.half.2⟩ r1 (r4.mono (by omega)) (r3.mono hupb) ?_;rcases hbo with q|⟨q,r⟩
     ·exact .inl ⟨q,.inl rfl⟩
     ·exact .inr (.inr ⟨r,q,.inl r.symm⟩)
    ·refine aEp _ ⟨by rw [r2];exact h.half.1,h.half.2⟩ r1 (r4.mono (by omega)) (r3.mono hupb) ?_;rcases aKy hfk with q|q
     ·exact .inl ⟨q,.inl rfl⟩
     ·exact .inr (.inr ⟨q,rfl,.inl q.symm⟩)
   ·obtain ⟨p1,p2,p3,p4,p5,p6,p7,p8⟩:=bD6 h.kb h.ka hb h.aa (aEo _ p) (hin _) (by omega) hr;have hp1:d1.pages.length / 2=p∧4≤p:=⟨by rw [p1];exact h.half.1,h.half.2⟩;have hin1:=aZw hp1.1;have hfw:Fine (D.run k):=hfk.run hm;have hpos:0<(D.run k).promised:=by
     rcases hlr with q|⟨q1,q2⟩
     ·omega
     ·have:=hfw.cur;rcases q2 with q2|⟨q2,q3⟩
      ·omega
      ·rcases Nat.eq_zero_or_pos (D.run k).promised with h0|h0
       ·have h5:=hfw.none_ h0;rw [h5] at q3;exact absurd q3 (Nat.not_lt_zero _)
       ·exact h0
    have hrw:(Rec.whole (D.run k)).may Kp.zero:=⟨rfl,hfw,hpos⟩;have hroom:=aSe hf (by omega);have hz24:z2≠4:=hc2.some_ (by rw [p7];exact hroom);by_cases hz0:z2=0
    ·subst hz0;rcases hw with ⟨h1,_⟩|⟨_,rfl,rfl,rfl,rfl,rfl⟩
     ·exact absurd rfl h1
     ·obtain ⟨q1,q2,q3,q4,q5,q6,q7⟩:=aZs (r:=.whole (D.run k)) p2 p3 p4 p5 (aEo _ p) (hin1 _) (by omega) hrw hf hc2;refine .inr (.inr (.inl ⟨rfl,hm,hf,if_pos rfl,rfl,?_,by rw [q1,p1],fun hl=>by rw [q7 (by rw [p8 hl];exact hl),p8 hl]⟩));rw [if_pos rfl];exact ⟨⟨by rw [q1];exact hp1.1,hp1.2⟩,q2,by rw [Bool.not_not];exact q3,q4,⟨k,by rw [Bool.not_not];exact q5,.inl hlr⟩,by omega,by omega⟩
    ·rcases hw with ⟨h1,rfl,rfl,rfl,rfl,rfl⟩|⟨h1,_⟩
     ·obtain ⟨rfl,q2,q3,q4,q5⟩:=aR7 (r:=.whole (D.run k)) p2 p4 p5 (aEo _ p) (hin1 _) (by omega) hrw hf h1 hz24 hc2;have hl:0≤d.left:=by
       rcases Int.lt_or_le d.left 0 with q|q
       ·rw [p8 q] at q3;omega
       ·exact q
      refine .inr (.inr (.inr ⟨rfl,hm,hf,hl,rfl,rfl,q2,by rw [q4,p1],fun fates=>?_⟩));obtain ⟨r1,r2,r3,r4⟩:=q5 fates;have hh:(d'.restart fates).pages.length / 2=p∧4≤p:=⟨by rw [r2];exact hp1.1,hp1.2⟩;have hu1:Log.upTo (Lb1.top+2)≤Log.upTo (N+4):=Log.aDk (by omega);rcases r3 with r3|r3
      ·refine aEp _ hh r1 (r4.mono (by omega)) (r3.mono hu1) ?_;rcases aKy hfk with q|q
       ·exact .inl ⟨q,.inl rfl⟩
       ·exact .inr (.inr ⟨q,rfl,.inl q.symm⟩)
      ·exact aEp _ hh r1 (r4.mono (by omega)) (r3.mono hu1) (.inr (.inl ⟨hlr,.inr rfl⟩))
     ·exact absurd h1 hz0
end Go.Proofs.YtgjmbbkcgillcaaGreat.Sto
namespace Go.Proofs.YtgjmbbkcgillcaaGreat.Sto
open Go.RowKit Disk Log
structure Sw (w0 w:World) (Z:Nat→Prop) (gs gd:Nat) (d:DK) (p:Nat) (La Lb:LK) (lv:Bool) (k:Kp) (met:Bool):Prop where
 at_:∃ga gb X Ya Yb V,SvM w X Ya Yb V gs gd ga gb d p La Lb lv k met∧∀b,X b∨Ya b∨Yb b∨V b∨b=gs→Z b
 below:Below w0.heap.size w0 w
 own:∀b,Z b→w0.heap.size≤b
 lt:∀b,Z b→b<w.heap.size
def Grow (Z Z':Nat→Prop) (w w':World):Prop:=Out Z w w'∧∀b,Z' b→Z b∨w.heap.size≤b
section
variable {w0 w w':World} {Z:Nat→Prop} {gs gd:Nat} {d:DK} {p:Nat} {La Lb:LK} {lv:Bool} {k:Kp} {met:Bool} {N:Nat}
theorem Sw.below_ (h:Sw w0 w Z gs gd d p La Lb lv k met) (hb:Below w.heap.size w w'):Sw w0 w' Z gs gd d p La Lb lv k met:=by
 obtain ⟨⟨ga,gb,X,Ya,Yb,V,h1,h2⟩,h6,h7,h8⟩:=h;exact ⟨⟨ga,gb,X,Ya,Yb,V,h1.below hb,h2⟩,h6.trans (hb.mono h6.size),h7,fun b hk=>Nat.lt_of_lt_of_le (h8 b hk) hb.size⟩
theorem Sw.did {e:Ending} {D:Deed} {ga gb:Nat} {X Ya Yb V:Nat→Prop} (h:Sw w0 w Z gs gd d p La Lb lv k met) (hz:∀b,X b∨Ya b∨Yb b∨V b∨b=gs→Z b) (_hs:SvM w X Ya Yb V gs gd ga gb d p La Lb lv k met) (hc:CallP X Ya Yb V gs gd d p La Lb lv k met D w e w'):
  ∃x d' La' Lb' lv' k' met' Z',e=.returned (.int .i64 x)∧StR d p La Lb lv k met D x d' La' Lb' lv' k' met'∧Sw w0 w' Z' gs gd d' p La' Lb' lv' k' met'∧Grow Z Z' w w':=by
 obtain ⟨x,rfl,d',La',Lb',lv',k',met',h1,ga',gb',X',Ya',Yb',V',h2,h3,h4⟩:=hc;have ho:Out Z w w':=h3.mono fun b hb=>.inl (hz b (by rcases hb with q|q|q|q<;>simp [q]))
 have hZ:∀b,(X' b∨Ya' b∨Yb' b∨V' b∨b=gs)→Z b∨w.heap.size≤b:=fun b hb=>by
  have h5:(X' b∨Ya' b∨Yb' b∨V' b)∨b=gs:=by
   rcases hb with q|q|q|q|q
   ·exact .inl (.inl q)
   ·exact .inl (.inr (.inl q))
   ·exact .inl (.inr (.inr (.inl q)))
   ·exact .inl (.inr (.inr (.inr q)))
   ·exact .inr q
  rcases h5 with q|q
  ·rcases h4 b q with r|r
   ·exact .inl (hz b (by rcases r with r|r|r|r<;>simp [r]))
   ·exact .inr r
  ·exact .inl (hz b (by simp [q]))
 exact ⟨x,d',La',Lb',lv',k',met',fun b=>X' b∨Ya' b∨Yb' b∨V' b∨b=gs,rfl,h1,⟨⟨ga',gb',X',Ya',Yb',V',h2,fun _ hb=>hb⟩,ho.below h.below h.own h.below.size,fun b hb=>(hZ b hb).elim (h.own b) fun q=>Nat.le_trans h.below.size q,h2.lt⟩,ho,hZ⟩
end
def Sv (w0 w:World) (Z:Nat→Prop) (gs gd:Nat) (d:DK) (p:Nat) (k:Kp) (N:Nat):Prop:=
 ∃La Lb lv,Sw w0 w Z gs gd d p La Lb lv k false∧SvK d p La Lb lv k N
def SvX (w0 w:World) (Z:Nat→Prop) (gs gd:Nat) (d:DK) (p:Nat) (k:Kp):Prop:=
 ∃La Lb lv,Sw w0 w Z gs gd d p La Lb lv k true∧Fine k∧d.dead=true
theorem aJe:∀(ls:Pages) (d:DK) (e:Nat),(wr d e ls).2.row.length≤d.row.length+ls.length
 |[],d,_=>aQ6 d
 |p::ls,d,e=>by
  have h1:=aJ8 d (e:Int) p;have h2:=aJe ls (d.write e p).2 (e+1);rw [wr];split
  ·rw [List.length_cons];omega
  ·rw [List.length_cons];omega
theorem aP5 {d:DK} {f n N:Nat} {b:List UInt8}:(commitF d f n N b).1.2.row.length≤d.row.length+1+n:=by
 have h1:=aJe (leafs (N+1) (manyOf b.length) b) d (f+(Recs (Log.part (Log.now d) f n)).2.2);have h2:=aJe (headL (N+1)) d f;have h3:=aJe (leafs (N+2) (manyOf b.length) b) (wr d f (headL (N+1))).2 (f+1);rw [aAb] at h1 h3;have h4:(headL (N+1)).length=1:=rfl;unfold commitF;split
 ·show d.row.length≤_;omega
 ·split
  ·show d.row.length≤_;omega
  ·split
   ·show (wr _ _ _).2.row.length≤_;omega
   ·split
    ·show (wr _ _ _).2.row.length≤_;omega
    ·show (wr _ _ _).2.row.length≤_;omega
theorem bAd {d:DK} {p:Nat} {La Lb:LK} {lv:Bool} {k:Kp} {met:Bool} {D:Deed} {x:Int} {d':DK} {La' Lb':LK} {lv':Bool} {k':Kp} {met':Bool} (h:StR d p La Lb lv k met D x d' La' Lb' lv' k' met'):d'.row.length≤d.row.length+p+2:=by
 have hc:∀{d d':DK} {f n:Nat} {L L':LK} {b:List UInt8} {z:Int},ComK d f n L b z d' L'→d'.row.length≤d.row.length+1+n:=fun h=>by rw [h.disk];exact aP5
 have hr:∀{d d':DK} {f n:Nat} {L L':LK} {z:Int},ResK d f n L z d' L'→d'.row.length≤d.row.length+1:=fun h=>by rw [h.disk];exact aJe _ _ _
 rcases h with ⟨_,_,rfl,_⟩|⟨_,⟨_,_,rfl,_⟩|⟨_,_,_,rfl,_⟩|⟨_,_,hw,_⟩⟩
 ·omega
 ·omega
 ·omega
 ·rcases hw with ⟨q,_⟩|⟨_,z1,d1,Lb1,q,hw⟩
  ·have:=hc q;omega
  ·have h1:=hr q;rcases hw with ⟨_,_,rfl,_⟩|⟨_,z2,d2,Lb2,q2,hw⟩
   ·omega
   ·have h2:=hc q2;rcases hw with ⟨_,_,rfl,_⟩|⟨_,_,rfl,_⟩<;>omega
def AfterP (w0:World) (Z:Nat→Prop) (gs gd:Nat) (d:DK) (p:Nat) (k:Kp) (N:Nat) (D:Deed) (x:Int) (w w':World):Prop:=
 ∃Z',Grow Z Z' w w'∧((x=1∧D.may k=false∧Sv w0 w' Z' gs gd d p k N)∨(x=4∧D.may k=true∧fits (D.run k) p=false∧Sv w0 w' Z' gs gd d p k N)∨
  (x=0∧D.may k=true∧fits (D.run k) p=true∧∃d',Sv w0 w' Z' gs gd d' p (D.run k) (N+4)∧d'.pages.length=d.pages.length∧(d.left<0→d'.left=d.left))∨
  (x=9∧D.may k=true∧fits (D.run k) p=true∧0≤d.left∧∃d',SvX w0 w' Z' gs gd d' p k∧d'.pages.length=d.pages.length∧d'.row.length≤1000000∧∀fates,Rests (d'.restart fates) p (Log.upTo (N+4)) fun q=>q=k∨q=D.run k))
section
variable {w0 w w':World} {Z P:Nat→Prop} {gs gd:Nat} {d:DK} {p:Nat} {k:Kp} {N:Nat}
theorem Sv.below_ (h:Sv w0 w Z gs gd d p k N) (hb:Below w.heap.size w w'):Sv w0 w' Z gs gd d p k N:=by
 obtain ⟨La,Lb,lv,h1,h2⟩:=h;exact ⟨La,Lb,lv,h1.below_ hb,h2⟩
theorem Sv.mono {M:Nat} (h:Sv w0 w Z gs gd d p k N) (hm:N≤M):Sv w0 w Z gs gd d p k M:=by
 obtain ⟨La,Lb,lv,h1,h2⟩:=h;exact ⟨La,Lb,lv,h1,h2.mono hm⟩
theorem Sv.below (h:Sv w0 w Z gs gd d p k N):Below w0.heap.size w0 w:=by obtain ⟨_,_,_,h,_⟩:=h;exact h.below
theorem Sv.own (h:Sv w0 w Z gs gd d p k N):∀b,Z b→w0.heap.size≤b:=by obtain ⟨_,_,_,h,_⟩:=h;exact h.own
theorem Sv.lt (h:Sv w0 w Z gs gd d p k N):∀b,Z b→b<w.heap.size:=by obtain ⟨_,_,_,h,_⟩:=h;exact h.lt
theorem Sv.fine (h:Sv w0 w Z gs gd d p k N):Fine k:=by obtain ⟨_,_,_,_,h⟩:=h;exact h.fine
theorem Sv.on (h:Sv w0 w Z gs gd d p k N):d.dead=false:=by obtain ⟨_,_,_,_,h⟩:=h;exact h.ka.up.on
theorem aLp {e:Ending} {D:Deed} {La Lb:LK} {lv:Bool} {ga gb:Nat} {X Ya Yb V:Nat→Prop} (h:Sw w0 w Z gs gd d p La Lb lv k false) (hK:SvK d p La Lb lv k N) (hN:N+4<65536) (hz:∀b,X b∨Ya b∨Yb b∨V b∨b=gs→Z b) (hs:SvM w X Ya Yb V gs gd ga gb d p La Lb lv k false) (hc:CallP X Ya Yb V gs gd d p La Lb lv k false D w e w'):
  ∃x,e=.returned (.int .i64 x)∧AfterP w0 Z gs gd d p k N D x w w':=by
 obtain ⟨x,d',La',Lb',lv',k',met',Z',rfl,hr,hw,hg⟩:=h.did hz hs hc;refine ⟨x,rfl,Z',hg,?_⟩;rcases bA6 hK hN hr with ⟨rfl,h1,rfl,rfl,rfl,rfl,rfl,rfl⟩|⟨rfl,h1,h2,rfl,rfl,rfl,rfl,rfl,rfl⟩|⟨rfl,h1,h2,rfl,rfl,h3,h4,h5⟩|⟨rfl,h1,h2,h3,rfl,rfl,h4,h5,h6⟩
 ·exact .inl ⟨rfl,h1,_,_,_,hw,hK⟩
 ·exact .inr (.inl ⟨rfl,h1,h2,_,_,_,hw,hK⟩)
 ·exact .inr (.inr (.inl ⟨rfl,h1,h2,d',⟨_,_,_,hw,h3⟩,h4,h5⟩))
 ·exact .inr (.inr (.inr ⟨rfl,h1,h2,h3,d',⟨_,_,_,hw,hK.fine,h4⟩,h5,by have:=bAd hr;rw [hK.ka.row] at this;have:=hK.ka.many;simp at*;omega,h6⟩))
theorem tops {La Lb:LK} {lv:Bool} (h:SvK d p La Lb lv k N) (hN:N+4<65536):(false||d.dead)=false→KL d (fOf lv p) p La∧KL d (fOf (!lv) p) p Lb∧La.top+2<65536∧Lb.top+4<65536:=fun _=>
 ⟨h.ka,h.kb,by have:=h.ta;omega,by have:=h.tb;omega⟩
theorem Sv.promise (h:Sv w0 w Z gs gd d p k N) (hN:N+4<65536) (e:Nat) (he:e<18446744073709551616):
  Calls Tryz.prog 38 #[.pointer (some ⟨gs,0,none⟩),.int .u64 (e:Int)] w fun r w'=>∃x,r=.returned (.int .i64 x)∧AfterP w0 Z gs gd d p k N (.prom e) x w w':=by
 obtain ⟨La,Lb,lv,h1,h2⟩:=h;obtain ⟨ga,gb,X,Ya,Yb,V,h3,h4⟩:=h1.at_;exact (aPs e h3 (tops h2 hN) h2.fine he).mono fun _ _ hc=>aLp h1 h2 hN h4 h3 hc
theorem Sv.adopt (h:Sv w0 w Z gs gd d p k N) (hN:N+4<65536) (e:Nat) (l:List Ln) (he:e<18446744073709551616) (A:Option Addr) (c:Nat) (hl:LnS P w A l.length l) (hs:Laid l) (hP:∀b,P b→¬Z b∧b<w.heap.size):
  Calls Tryz.prog 141 #[.pointer (some ⟨gs,0,none⟩),.int .u64 (e:Int),.slice A l.length c] w fun r w'=>∃x,r=.returned (.int .i64 x)∧AfterP w0 Z gs gd d p k N (.adopt e l) x w w':=by
 obtain ⟨La,Lb,lv,h1,h2⟩:=h;obtain ⟨ga,gb,X,Ya,Yb,V,h3,h4⟩:=h1.at_;exact (aW1 (P:=P) e l h3 (tops h2 hN) h2.fine he A c hl hs (fun b hb=>⟨fun q=>(hP b hb).1 (h4 b (by simp [q])),fun q=>(hP b hb).1 (h4 b (by simp [q])),fun q=>(hP b hb).1 (h4 b (by simp [q])),fun q=>(hP b hb).1 (h4 b (by simp [q])),(hP b hb).2⟩)).mono fun _ _ hc=>aLp h1 h2 hN h4 h3 hc
theorem Sv.append (h:Sv w0 w Z gs gd d p k N) (hN:N+4<65536) (l:List Ln) (A:Option Addr) (c:Nat) (hl:LnS P w A l.length l) (hs:Laid l) (hP:∀b,P b→¬Z b∧b<w.heap.size):
  Calls Tryz.prog 58 #[.pointer (some ⟨gs,0,none⟩),.slice A l.length c] w fun r w'=>∃x,r=.returned (.int .i64 x)∧AfterP w0 Z gs gd d p k N (.add l) x w w':=by
 obtain ⟨La,Lb,lv,h1,h2⟩:=h;obtain ⟨ga,gb,X,Ya,Yb,V,h3,h4⟩:=h1.at_;exact (aS9 (P:=P) l h3 (tops h2 hN) h2.fine A c hl hs (fun b hb=>⟨fun q=>(hP b hb).1 (h4 b (by simp [q])),fun q=>(hP b hb).1 (h4 b (by simp [q])),fun q=>(hP b hb).1 (h4 b (by simp [q])),fun q=>(hP b hb).1 (h4 b (by simp [q])),(hP b hb).2⟩)).mono fun _ _ hc=>aLp h1 h2 hN h4 h3 hc
theorem Sv.kept (h:Sv w0 w Z gs gd d p k N):Calls Tryz.prog 34 #[.pointer (some ⟨gs,0,none⟩)] w (aHb k w):=by
 obtain ⟨La,Lb,lv,h1,h2⟩:=h;obtain ⟨ga,gb,X,Ya,Yb,V,h3,h4⟩:=h1.at_;exact aYn h3 h2.fine
theorem Sv.dead (h:Sv w0 w Z gs gd d p k N):Calls Tryz.prog 63 #[.pointer (some ⟨gs,0,none⟩)] w fun e w'=>e=.returned (.bool false)∧w=w':=by
 have h0:=h.on;obtain ⟨La,Lb,lv,h1,h2⟩:=h;obtain ⟨ga,gb,X,Ya,Yb,V,h3,h4⟩:=h1.at_;have:=aJw h3;rwa [h0] at this
end
end Go.Proofs.YtgjmbbkcgillcaaGreat.Sto
namespace Go.Proofs.YtgjmbbkcgillcaaGreat.Sto
open Go.RowKit Disk Log
theorem aUy {p:Nat} {k:Kp} {rs:List Rec} {k':Kp} (h:Reads p k rs k') (hp:p≤4096):∀r∈rs,r.text.length≤3000000:=by
 induction h with
 |nil=>intro r hr;cases hr
 |cons hm hf _ ih=>
  intro r hr;rcases List.mem_cons.1 hr with rfl|hr
  ·cases r with
   |whole a=>
    have:=aEh a;have hf:need a≤480*(p - 1):=of_decide_eq_true hf;show (wholeT a).length≤_;omega
   |deed D=>
    have:=aMq (show D.may _=true from hm);show D.text.length≤_;omega
  ·exact ih r hr
theorem Area.kl {d:DK} {f p N:Nat} {k:Kp} (h:Area d f p N k) (hr:d.row=[]):KL d f p (newL d f p)∧(newL d f p).top≤N:=by
 obtain ⟨rs,e,hrd⟩:=h.recs;have hin:=h.up.in_;have hm:=h.up.ok.many;refine ⟨⟨⟨h.up.ok,h.up.on,h.up.two,h.up.in_,aTu h.up.low.ok h.up.low.calm⟩,rfl,rfl,hr,fun b hb=>?_⟩,aNk h.up.low⟩;have hb:b∈(Recs (Log.part (now d) f p)).2.1:=hb;rw [e] at hb;obtain ⟨r,hr,rfl⟩:=List.mem_map.1 hb;exact aUy hrd (by omega) r hr
def OpenP (w0:World) (X:Nat→Prop) (gd:Nat) (d:DK) (p:Nat) (k:Kp) (N:Nat) (w:World) (e:Ending) (w':World):Prop:=
 ∃gs Z,e=.returned (.tuple #[.pointer (some ⟨gs,0,none⟩),.int .i64 0])∧Sv w0 w' Z gs gd d p k N∧Below w.heap.size w w'∧(∀b,Z b→X b∨w.heap.size≤b)∧∀b,X b→Z b
theorem bB5 {w0 w:World} {X:Nat→Prop} {gd:Nat} {d:DK} {p N:Nat} {k:Kp} (hs:St w0 w X gd d) (hr:Rests d p N (·=k)) (hN:N<65536):Calls Tryz.prog 25 #[.pointer (some ⟨gd,0,none⟩)] w (OpenP w0 X gd d p k N w):=by
 obtain ⟨h1,h2,a,b,q1,q2,q3⟩:=hr;obtain ⟨ka,ta⟩:=q1.kl h2;obtain ⟨kb,tb⟩:=q2.kl h2;have hor:Later b a∨Later a b∨(a=Kp.zero∧b=Kp.zero):=by
  rcases q3 with ⟨q,_⟩|⟨_,q|q,_⟩
  ·exact .inr (.inl q)
  ·exact .inl q
  ·exact .inr (.inr q)
 refine (aU8 hs.at_ q1.up.on h1.1 h1.2 q1 q2 h2 hN hor).mono ?_;rintro e w' ⟨gs,rfl,hb,hgs,Ya,Yb,V,ga,gb,⟨o1,o2⟩,hge⟩;have key:∀{La Lb:LK} {lv:Bool},SvM w' X Ya Yb V gs gd ga gb d p La Lb lv k false→SvK d p La Lb lv k N→OpenP w0 X gd d p k N w (.returned (.tuple #[.pointer (some ⟨gs,0,none⟩),.int .i64 0])) w':=fun hm hk=>by
  have hz:∀j,(X j∨Ya j∨Yb j∨V j∨j=gs)→X j∨w.heap.size≤j:=fun j hj=>by
   rcases hj with q|q|q|q|q
   ·exact .inl q
   ·exact .inr (hge j (.inl q))
   ·exact .inr (hge j (.inr (.inl q)))
   ·exact .inr (hge j (.inr (.inr q)))
   ·exact .inr (by omega)
  exact ⟨gs,fun j=>X j∨Ya j∨Yb j∨V j∨j=gs,rfl,⟨_,_,_,⟨⟨ga,gb,X,Ya,Yb,V,hm,fun _ h=>h⟩,hs.below.trans (hb.mono hs.below.size),fun j hj=>(hz j hj).elim (hs.own j) fun q=>Nat.le_trans hs.below.size q,hm.lt⟩,hk⟩,hb,hz,fun j hj=>.inl hj⟩
 rcases q3 with ⟨q,rfl⟩|⟨q,r,rfl⟩
 ·exact key (o1 q) ⟨h1,kb,ka,q2.at_ kb.up,⟨a,q1.at_ ka.up,.inl q⟩,tb,ta⟩
 ·refine key (o2 q) ⟨h1,ka,kb,q1.at_ ka.up,⟨b,q2.at_ kb.up,?_⟩,ta,tb⟩;rcases r with r|⟨r1,r2⟩
  ·exact .inl r
  ·exact .inr ⟨r2,r1⟩
theorem aLi {n f p:Nat} (h:f+p≤n):Log.part (now (DK.new n)) f p=List.replicate p (List.replicate 512 0):=by
 have:now (DK.new n)=List.replicate n (List.replicate 512 0):=aDw rfl;rw [this];unfold Log.part;rw [List.drop_replicate,List.take_replicate]
 congr 1
 omega
theorem aQd {n f p:Nat} (h2:2≤p) (hn:f+p≤n) (h4:n≤4096) (h1:1≤n):Area (DK.new n) f p 0 Kp.zero:=by
 have hok:Ok (DK.new n):=(bCg (n:=n) (by omega) h4).up.ok;refine ⟨⟨hok,rfl,h2,by show f+p≤(List.replicate _ _).length;rw [List.length_replicate];exact hn,by rw [aLi hn];exact aW2 p⟩,?_,[],by rw [aLi hn,aLu];rfl,.nil _⟩;rw [aLi hn];intro j hj;have:pg (List.replicate p (List.replicate 512 (0:UInt8))) j=List.replicate 512 0:=by
  unfold pg;rw [List.getD_eq_getElem?_getD,List.getElem?_replicate,if_pos (by rw [List.length_replicate] at hj;exact hj)];rfl
 rw [this];exact aVy
theorem aW6 {n:Nat} (h8:8≤n) (h4:n≤4096):Rests (DK.new n) (n / 2) 0 (·=Kp.zero):=
 ⟨⟨by show (List.replicate _ _).length / 2=_;rw [List.length_replicate],by omega⟩,rfl,Kp.zero,Kp.zero,aQd (by omega) (by omega) h4 (by omega),aQd (by omega) (by omega) h4 (by omega),.inr ⟨fun h=>h.not h,.inr ⟨rfl,rfl⟩,rfl⟩⟩
end Go.Proofs.YtgjmbbkcgillcaaGreat.Sto
namespace Go.Proofs.YtgjmbbkcgillcaaGreat.Sto
open Go.RowKit Disk Log
def Ss (w0 w:World) (Z:Nat→Prop) (gs gd n:Nat) (k:Kp) (N:Nat):Prop:=∃d,Sv w0 w Z gs gd d (n / 2) k N∧d.left<0∧d.pages.length=n
def SsTo (v:Value) (w0:World) (Z:Nat→Prop) (gs gd n:Nat) (k:Kp) (N:Nat) (w:World) (e:Ending) (w':World):Prop:=e=.returned v∧∃Z',Ss w0 w' Z' gs gd n k N∧Grow Z Z' w w'
section
variable {w0 w w':World} {Z P:Nat→Prop} {gs gd n:Nat} {k:Kp} {N:Nat} {D:Deed}
theorem Ss.below_ (h:Ss w0 w Z gs gd n k N) (hb:Below w.heap.size w w'):Ss w0 w' Z gs gd n k N:=by
 obtain ⟨d,h1,h2⟩:=h;exact ⟨d,h1.below_ hb,h2⟩
theorem Ss.below (h:Ss w0 w Z gs gd n k N):Below w0.heap.size w0 w:=by obtain ⟨_,h,_⟩:=h;exact h.below
theorem Ss.own (h:Ss w0 w Z gs gd n k N):∀b,Z b→w0.heap.size≤b:=by obtain ⟨_,h,_⟩:=h;exact h.own
theorem Ss.lt (h:Ss w0 w Z gs gd n k N):∀b,Z b→b<w.heap.size:=by obtain ⟨_,h,_⟩:=h;exact h.lt
theorem Ss.fine (h:Ss w0 w Z gs gd n k N):Fine k:=by obtain ⟨_,h,_⟩:=h;exact h.fine
theorem Ss.mono {M:Nat} (h:Ss w0 w Z gs gd n k N) (hm:N≤M):Ss w0 w Z gs gd n k M:=by
 obtain ⟨d,h1,h2⟩:=h;exact ⟨d,h1.mono hm,h2⟩
def ans (D:Deed) (k:Kp) (p:Nat):Int:=if D.may k=true then (if fits (D.run k) p=true then 0 else 4) else 1
def thn (D:Deed) (k:Kp) (p:Nat):Kp:=if D.may k=true∧fits (D.run k) p=true then D.run k else k
theorem aLw {x:Int} {d:DK} {e:Ending} (hl:d.left<0) (hn:d.pages.length=n) (he:e=.returned (.int .i64 x)) (h:AfterP w0 Z gs gd d (n / 2) k N D x w w'):SsTo (.int .i64 (ans D k (n / 2))) w0 Z gs gd n (thn D k (n / 2)) (N+4) w e w':=by
 obtain ⟨Z',hg,h⟩:=h;unfold ans thn;rcases h with ⟨rfl,h1,h2⟩|⟨rfl,h1,h2,h3⟩|⟨rfl,h1,h2,d',h3,h4,h5⟩|⟨rfl,h1,h2,h3,_⟩
 ·exact ⟨by rw [he,h1];rfl,Z',by rw [h1,if_neg (by simp)];exact ⟨d,h2.mono (by omega),hl,hn⟩,hg⟩
 ·exact ⟨by rw [he,h1,h2];rfl,Z',by rw [h2,if_neg (by simp)];exact ⟨d,h3.mono (by omega),hl,hn⟩,hg⟩
 ·exact ⟨by rw [he,h1,h2];rfl,Z',by rw [h1,h2,if_pos ⟨rfl,rfl⟩];exact ⟨d',h3,by rw [h5 hl];exact hl,by rw [h4];exact hn⟩,hg⟩
 ·omega
theorem Ss.promise (h:Ss w0 w Z gs gd n k N) (hN:N+4<65536) (e:Nat) (he:e<18446744073709551616):
  Calls Tryz.prog 38 #[.pointer (some ⟨gs,0,none⟩),.int .u64 (e:Int)] w (SsTo (.int .i64 (ans (.prom e) k (n / 2))) w0 Z gs gd n (thn (.prom e) k (n / 2)) (N+4) w):=by
 obtain ⟨d,h1,h2,h3⟩:=h;exact (h1.promise hN e he).mono fun _ _ ⟨x,hx,ha⟩=>aLw h2 h3 hx ha
theorem Ss.adopt (h:Ss w0 w Z gs gd n k N) (hN:N+4<65536) (e:Nat) (l:List Ln) (he:e<18446744073709551616) (A:Option Addr) (m c:Nat) (hl:LnS P w A m l) (hs:Laid l) (hP:∀b,P b→¬Z b∧b<w.heap.size):
  Calls Tryz.prog 141 #[.pointer (some ⟨gs,0,none⟩),.int .u64 (e:Int),.slice A m c] w (SsTo (.int .i64 (ans (.adopt e l) k (n / 2))) w0 Z gs gd n (thn (.adopt e l) k (n / 2)) (N+4) w):=by
 obtain ⟨d,h1,h2,h3⟩:=h;have hm:=hl.len;subst hm;exact (h1.adopt hN e l he A c hl hs hP).mono fun _ _ ⟨x,hx,ha⟩=>aLw h2 h3 hx ha
theorem Ss.append (h:Ss w0 w Z gs gd n k N) (hN:N+4<65536) (l:List Ln) (A:Option Addr) (m c:Nat) (hl:LnS P w A m l) (hs:Laid l) (hP:∀b,P b→¬Z b∧b<w.heap.size):
  Calls Tryz.prog 58 #[.pointer (some ⟨gs,0,none⟩),.slice A m c] w (SsTo (.int .i64 (ans (.add l) k (n / 2))) w0 Z gs gd n (thn (.add l) k (n / 2)) (N+4) w):=by
 obtain ⟨d,h1,h2,h3⟩:=h;have hm:=hl.len;subst hm;exact (h1.append hN l A c hl hs hP).mono fun _ _ ⟨x,hx,ha⟩=>aLw h2 h3 hx ha
theorem Ss.kept (h:Ss w0 w Z gs gd n k N):Calls Tryz.prog 34 #[.pointer (some ⟨gs,0,none⟩)] w (aHb k w):=by obtain ⟨d,h,_⟩:=h;exact h.kept
theorem Ss.dead (h:Ss w0 w Z gs gd n k N):Calls Tryz.prog 63 #[.pointer (some ⟨gs,0,none⟩)] w fun e w'=>e=.returned (.bool false)∧w=w':=by obtain ⟨d,h,_⟩:=h;exact h.dead
def Ds (w0 w:World) (X:Nat→Prop) (gd n:Nat) (k:Kp) (N:Nat):Prop:=∃d,St w0 w X gd d∧Rests d (n / 2) N (·=k)∧d.left<0∧d.pages.length=n
def OpSs (w0:World) (X:Nat→Prop) (gd n:Nat) (k:Kp) (N:Nat) (w:World) (e:Ending) (w':World):Prop:=
 ∃gs Z,e=.returned (.tuple #[.pointer (some ⟨gs,0,none⟩),.int .i64 0])∧Ss w0 w' Z gs gd n k N∧Below w.heap.size w w'∧(∀b,Z b→X b∨w.heap.size≤b)∧∀b,X b→Z b
theorem Ds.open_ {X:Nat→Prop} (h:Ds w0 w X gd n k N) (hN:N<65536):Calls Tryz.prog 25 #[.pointer (some ⟨gd,0,none⟩)] w (OpSs w0 X gd n k N w):=by
 obtain ⟨d,h1,h2,h3,h4⟩:=h;exact (bB5 h1 h2 hN).mono fun e w' ⟨gs,Z,he,hs,hb,hz1,hz2⟩=>⟨gs,Z,he,⟨d,hs,h3,h4⟩,hb,hz1,hz2⟩
theorem bD4 {n:Nat} (h8:8≤n) (h4:n≤4096) (hb:Below w0.heap.size w0 w):Calls Tryz.prog 40 #[.int .i64 (n:Int)] w fun e w'=>∃gd X,e=.returned (.tuple #[.pointer (some ⟨gd,0,none⟩),.int .i64 0])∧Ds w0 w' X gd n Kp.zero 0∧(∀b,X b→w.heap.size≤b)∧Below w.heap.size w w':=
 (bCn n w0 w (by omega) h4 hb).mono fun e w' ⟨gd,X,he,h1,h2,h3⟩=>⟨gd,X,he,⟨DK.new n,h1,aW6 h8 h4,by show (-1:Int)<0;decide,by show (List.replicate _ _).length=_;rw [List.length_replicate]⟩,h2,h3⟩
end
end Go.Proofs.YtgjmbbkcgillcaaGreat.Sto
namespace Go.Proofs.YtgjmbbkcgillcaaGreat.Bal
def next (a i n:Nat):Nat:=a+1+(i+(n - (a+1) % n)) % n
theorem aMg {a i n:Nat} (hi:i<n):next a i n % n=i:=by
 have h1:=Nat.mod_lt (a+1) (show 0<n by omega);have h2:=Nat.div_add_mod (a+1) n;unfold next;rw [Nat.add_mod,Nat.mod_mod,←Nat.add_mod];by_cases h:(a+1) % n≤i
 ·have e:i+(n - (a+1) % n)=(i - (a+1) % n)+n:=by omega
  rw [e,←Nat.add_assoc,Nat.add_mod_right];have e2:a+1+(i - (a+1) % n)=i+n*((a+1) / n):=by omega
  rw [e2,Nat.add_mul_mod_self_left,Nat.mod_eq_of_lt hi]
 ·have e2:a+1+(i+(n - (a+1) % n))=i+n*((a+1) / n+1):=by rw [Nat.mul_add,Nat.mul_one];omega
  rw [e2,Nat.add_mul_mod_self_left,Nat.mod_eq_of_lt hi]
theorem aLf {a i n:Nat} (hi:i<n):a<next a i n∧next a i n≤a+n:=by
 have h1:=Nat.mod_lt (i+(n - (a+1) % n)) (show 0<n by omega);unfold next;omega
theorem aXm {a i n x y:Nat} (hx:a<x∧x≤a+n) (hy:a<y∧y≤a+n) (h1:x % n=i) (h2:y % n=i):x=y:=by
 have key:∀u v:Nat,u≤v→v - u<n→u % n=v % n→u=v:=by
  intro u v huv hd he;have a1:=Nat.div_add_mod u n;have a2:=Nat.div_add_mod v n;have hle:u / n≤v / n:=Nat.div_le_div_right huv;rcases Nat.lt_or_ge (u / n) (v / n) with h|h
  ·have:=Nat.mul_le_mul_left n h;rw [Nat.mul_succ] at this;omega
  ·have:u / n=v / n:=by omega
   rw [this] at a1;omega
 rcases Nat.le_total x y with h|h
 ·exact key x y h (by omega) (by omega)
 ·exact (key y x h (by omega) (by omega)).symm
theorem aNa {a i n x:Nat} (hi:i<n) (hx:a<x∧x≤a+n) (h1:x % n=i):x=next a i n:=aXm hx (aLf hi) h1 (aMg hi)
def geN (l:List Int) (x:Int):Nat:=l.countP fun y=>decide (x≤y)
def gtN (l:List Int) (x:Int):Nat:=l.countP fun y=>decide (x<y)
def quorum (n:Nat):Nat:=n / 2+1
structure Has (l:List Int) (c:Int):Prop where
 mem:c∈l
 at_:quorum l.length≤geN l c
 above:gtN l c<quorum l.length
theorem Has.sorted {l s:List Int} (hp:s.Perm l) (hs:s.Pairwise (·≤·)) (h0:l≠[]):∃c,s[s.length - quorum s.length]? =some c∧Has l c:=by
 have hlen:0<l.length:=List.length_pos_iff.2 h0;have hsl:s.length=l.length:=hp.length_eq;have hi:s.length - quorum s.length<s.length:=by unfold quorum;omega
 have hq:quorum s.length≤s.length:=by unfold quorum;omega
 refine ⟨s[s.length - quorum s.length],List.getElem?_eq_getElem hi,hp.mem_iff.1 (List.getElem_mem hi),?_,?_⟩
 ·unfold geN;rw [←hp.countP_eq];have h1:(s.drop (s.length - quorum s.length)).countP (fun y=>decide (s[s.length - quorum s.length]≤y))=quorum s.length:=by
   have hall:∀y∈s.drop (s.length - quorum s.length),s[s.length - quorum s.length]≤y:=by
    intro y hy;obtain ⟨k,hk,rfl⟩:=List.getElem_of_mem hy;rw [List.getElem_drop];by_cases hk0:k=0
    ·subst hk0;exact Int.le_refl _
    ·rw [List.length_drop] at hk;exact List.pairwise_iff_getElem.1 hs _ _ hi (by omega) (by omega)
   rw [List.countP_eq_length.2 (fun y hy=>by simpa using hall y hy),List.length_drop];omega
  have h2:s.countP (fun y=>decide (s[s.length - quorum s.length]≤y))=(s.take (s.length - quorum s.length)).countP (fun y=>decide (s[s.length - quorum s.length]≤y))+(s.drop (s.length - quorum s.length)).countP (fun y=>decide (s[s.length - quorum s.length]≤y)):=by
   rw [←List.countP_append,List.take_append_drop]
  have hq2:quorum l.length=quorum s.length:=by rw [hsl]
  rw [h2,h1,hq2];omega
 ·unfold gtN;rw [←hp.countP_eq];have h2:s.countP (fun y=>decide (s[s.length - quorum s.length]<y))=(s.take (s.length - quorum s.length+1)).countP (fun y=>decide (s[s.length - quorum s.length]<y))+(s.drop (s.length - quorum s.length+1)).countP (fun y=>decide (s[s.length - quorum s.length]<y)):=by
   rw [←List.countP_append,List.take_append_drop]
  have h3:(s.take (s.length - quorum s.length+1)).countP (fun y=>decide (s[s.length - quorum s.length]<y))=0:=by
   rw [List.countP_eq_zero];intro y hy;obtain ⟨k,hk,rfl⟩:=List.getElem_of_mem hy;rw [List.length_take] at hk;rw [List.getElem_take];have:s[k]'(by omega)≤s[s.length - quorum s.length]:=by
    by_cases hk0:k=s.length - quorum s.length
    ·subst hk0;exact Int.le_refl _
    ·exact List.pairwise_iff_getElem.1 hs _ _ (by omega) hi (by omega)
   simpa using this
  have h4:=List.countP_le_length (p:=fun y=>decide (s[s.length - quorum s.length]<y)) (l:=s.drop (s.length - quorum s.length+1));rw [List.length_drop] at h4;rw [h2,h3,←hsl];omega
end Go.Proofs.YtgjmbbkcgillcaaGreat.Bal
