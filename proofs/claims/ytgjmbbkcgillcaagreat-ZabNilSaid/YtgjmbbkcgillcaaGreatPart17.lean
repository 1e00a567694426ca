/- Lemmas, part 17: PhaseLe, LogStepsAll, LogCut -/
import Derived.Test.YtgjmbbkcgillcaaGreatPart3
import Derived.Test.YtgjmbbkcgillcaaGreatPart16
import Derived.RangeFuncNested
import Derived.RangeFuncBound
import Derived.RangeFuncCalls
import Derived.RangeFuncLeaves
import Derived.RangeFuncBox
import Derived.OwnWalkIn
import Derived.TacticsInMore
import Derived.LoopNIn
import Derived.LoopIn
import Derived.Shelf.RegionOpen
set_option maxHeartbeats 16000000
namespace Go.Proofs.YtgjmbbkcgillcaaGreat.PhaseG
open Phase (aAu StepsL)
open Go.RowKit
def StepE (P:Program) (Q:Exit→Act→World→Prop) (l:List Oper) (a0:Act) (w:World) (Le:World→World→Prop) (R:Nat→Value→World→Prop) (i:Nat) (o:Oper):Prop:=
 ∀(a:Act) (v:Nat→Value) (W:World),DepF l v a0 R o a W→Le w W→∀K:Act→World→Prop,(∀x W',Le W W'→R i x W'→K (a.put o.dst x) W')→o.wp P a W K Q
section
variable {P:Program} {Q:Exit→Act→World→Prop}
theorem aGy {l:List Oper} {a0:Act} {id:Nat} {w:World} (Le:World→World→Prop) (htr:∀A B C,Le A B→Le B C→Le A C) (hdr:Le w {w with drawn:=w.drawn+1}) (R:Nat→Value→World→Prop) (hm:P.follows .mixedOrders=true) (hok:okB l.toArray a0.tmps.size=true) (hng:(l.all fun o=>o.guard.isNone)=true)
  (hR:∀k x W W',R k x W→Le w W→Le W W'→R k x W') (hsteps:StepsL (StepE P Q l a0 w Le R) 0 l) (F:(Nat→Value)→Act) (hF:∀v,final l.toArray v l.length a0=F v)
  (hend:∀v W,Le w W→(∀k,k<l.length→R k (v k) W)→Q .normal (F v) W):
  (Code.region id l.toArray true).wp P Q a0 w:=by
 refine aA8 (v0:=fun _=>undef) (C:=fun v listed W=>Le w W∧listed.size=l.length∧∀k,k<l.length→listed.getD k false=true→R k (v k) W) hm hok (fun v _ _ _=>aB4 (by simpa using hng) v) ⟨hdr,by simp,fun k _ h=>by rw [aAf] at h;cases h⟩ ?_ ?_
 ·intro i o hi v listed a W hun hdeps hf hC K hK;obtain ⟨hb,hsz,hr⟩:=hC;have hil:l[i]? =some o:=by simpa using hi
  have hlt:i<l.length:=(List.getElem?_eq_some_iff.1 hil).1;have hltl:i<listed.size:=by omega
  have hD:DepF l v a0 R o a W:=⟨fun k p d hk hp hd=>by
    obtain ⟨e,he,hek⟩:=aAu hk;simp only [Bool.and_eq_true,beq_iff_eq] at hek;have:=hdeps e he hek.2;rw [hek.1] at this;exact ⟨hf.yes k p d (by simpa using hp) hd this,hr k (List.getElem?_eq_some_iff.1 hp).1 this⟩,
   fun d hd=>hf.no d fun k p hk hp=>by
    have hk':l[k]? =some p:=by simpa using hk
    have:=List.all_eq_true.1 hd p (List.mem_of_getElem? hk');rw [hp] at this;simp at this⟩
  have hS:=StepsL.get hsteps hil;rw [Nat.zero_add] at hS;refine hS a v W hD hb K fun x W' hb' hx=>?_;have hg:∀k,(listed.setIfInBounds i true).getD k false=if k=i then true else listed.getD k false:=fun k=>aAn _ _ _ hltl
  have hunf:listed.getD i false=false:=by
   have:listed[i]=false:=by simpa [hltl] using hun
   simp [hltl,this]
  have:=hK (fun k=>if k=i then x else v k) W' (fun k hk=>by
   by_cases e:k=i
   ·rw [e,hunf] at hk;cases hk
   ·rw [if_neg e]) ⟨htr _ _ _ hb hb',by simpa using hsz,fun k hk hl=>by
    rw [hg] at hl;by_cases e:k=i
    ·rw [if_pos e,e];exact hx
    ·rw [if_neg e] at hl ⊢;exact hR k _ W W' (hr k hk hl) hb hb'⟩
  rwa [if_pos rfl] at this
 ·intro v listed W hall hC;obtain ⟨hb,_,hr⟩:=hC;have:=hend v W hb fun k hk=>hr k hk (hall k (by simpa using hk));rw [←hF v] at this;simpa using this
end
end Go.Proofs.YtgjmbbkcgillcaaGreat.PhaseG
namespace Go.Proofs.YtgjmbbkcgillcaaGreat.Log
open Go.RowKit Disk
open PhaseG (aGy aAm)
open Phase (aA0 aA2 reachB)
theorem bBv (caps:Array Value) (W:World):(callFunc 217 caps).run Tryz.prog W=.ok (.enter 217 caps) W:=by kernel_rfl
theorem bAu (caps:Array Value) (W:World):(callFunc 219 caps).run Tryz.prog W=.ok (.enter 219 caps) W:=by kernel_rfl
theorem bBu (caps:Array Value) (W:World):(callFunc 220 caps).run Tryz.prog W=.ok (.enter 220 caps) W:=by kernel_rfl
theorem bAh (caps:Array Value) (W:World):(callFunc 223 caps).run Tryz.prog W=.ok (.enter 223 caps) W:=by kernel_rfl
theorem bAv (caps:Array Value) (W:World):(callFunc 224 caps).run Tryz.prog W=.ok (.enter 224 caps) W:=by kernel_rfl
set_option maxRecDepth 100000 in
theorem put60 {w:World} {X Y:Nat→Prop} {g gd f n:Nat} {L:LK} {d:DK} (h:LgAt w Y g gd (f:Int) n L) (hd:DkAt w X gd d) (hxy:∀k,X k→¬Y k) (hf:f≤1000000) (hrow:d.row.length≤1000000) (st bl bs:Nat) (hs:st<18446744073709551616)
  (c1:w.cell? ⟨bl,0,none⟩=some (.pointer (some ⟨g,0,none⟩))) (c2:w.cell? ⟨bs,0,none⟩=some (.int .u64 (st:Int))):
  Calls Tryz.prog 217 #[.pointer (some ⟨bl,0,none⟩),.pointer (some ⟨bs,0,none⟩)] w (WrPost X Y g gd f n (d.write (f:Int) (leafP st 0 0 [])).1 (d.write (f:Int) (leafP st 0 0 [])).2 (if (d.write (f:Int) (leafP st 0 0 [])).1=0 then {L with top:=st} else L) w):=by
 have hw:=aKz h hd hxy 0 (by omega) hrow st 0 0 0 0 none [] (Rd.nil_ _ _) hs (by decide) (by decide) (by decide);rw [Nat.add_zero] at hw;have HW:=Lib.hid hw;clear h hd hxy hw hs hrow;generalize (d.write (f:Int) (leafP st 0 0 [])).1=z at*;generalize (d.write (f:Int) (leafP st 0 0 [])).2=d' at*;obtain ⟨L',hL'⟩:∃L':LK,L'=if z=0 then {L with top:=st} else L:=⟨_,rfl⟩
 rw [←hL'] at HW ⊢;clear hL';go_enter Tryz.func217,Tryz.ntmps217
 go_wp2_with fail;refine HW.out.mono ?_;rintro e w2 ⟨rfl,hq⟩;have HQ:=Lib.hid hq;clear hq;go_wp2_with fail;go_ret;exact ⟨rfl,HQ.out⟩
def tgt:Nat→Value
 |3=>.bool true
 |4=>.slice none 0 0
 |_=>.int .i64 1
def LeH (g:Nat) (W W':World):Prop:=Out (·=g) W W'∧∀cs,Bk W g 244 cs→cs.size=8→∃cs',Bk W' g 244 cs'∧cs'.size=8∧(∀i,i≠3→i≠4→i≠5→cs'[i]? =cs[i]?)∧∀i,3≤i→i≤5→(cs'[i]? =cs[i]?∨cs'[i]? =some (tgt i))
theorem aCh (g:Nat) (W:World):LeH g W W:=⟨Out.refl _ _,fun cs h h8=>⟨cs,h,h8,fun _ _ _ _=>rfl,fun _ _ _=>.inl rfl⟩⟩
theorem aW0 {g:Nat} (A B C:World) (h1:LeH g A B) (h2:LeH g B C):LeH g A C:=
 ⟨h1.1.trans h2.1 (fun k hk=>.inl hk),fun cs hk h8=>by
  obtain ⟨c1,k1,e1,f1,g1⟩:=h1.2 cs hk h8;obtain ⟨c2,k2,e2,f2,g2⟩:=h2.2 c1 k1 e1;refine ⟨c2,k2,e2,fun i a b c=>(f2 i a b c).trans (f1 i a b c),fun i a b=>?_⟩;rcases g2 i a b with h|h
  ·rw [h];exact g1 i a b
  ·exact .inr h⟩
theorem aX3 {g:Nat} {W:World}:LeH g W {W with drawn:=W.drawn+1}:=⟨⟨rfl,rfl,rfl,Nat.le_refl _,fun _ _ _=>rfl⟩,fun cs h h8=>⟨cs,h,h8,fun _ _ _ _=>rfl,fun _ _ _=>.inl rfl⟩⟩
theorem aOu {g:Nat} {W:World} {cs:Array Value} (hk:Bk W g 244 cs) (h8:cs.size=8) (i:Nat) (hi:3≤i∧i≤5):LeH g W (W.setCell ⟨g,i,none⟩ (tgt i)):=by
 refine ⟨aDa (Y:=(·=g)) rfl,fun cs' hk' _=>?_⟩;have e:cs'=cs:=by
  unfold Bk at hk hk';rw [hk] at hk';injection hk' with hk';injection hk' with hk';exact hk'.symm
 subst e;refine ⟨_,hk.set i (tgt i),by simpa using h8,fun j a b c=>?_,fun j a b=>?_⟩
 ·rw [Array.getElem?_setIfInBounds_ne (by omega)]
 ·by_cases e:i=j
  ·subst e
   right
   rw [Array.getElem?_setIfInBounds_self_of_lt (by omega)]
  ·left
   rw [Array.getElem?_setIfInBounds_ne e]
theorem aMm {g:Nat} {W:World} {cs:Array Value} (hk:Bk W g 244 cs) (h8:cs.size=8) (i:Nat) (hi:3≤i∧i≤5) (u:Value):(W.setCell ⟨g,i,none⟩ u).cell? ⟨g,i,none⟩=some u:=by
 rw [(hk.set i u).cell i,Array.getElem?_setIfInBounds_self_of_lt (by omega)]
def RH (g:Nat):Nat→Value→World→Prop
 |0,x,_=>x=.pointer (some ⟨g,0,none⟩)
 |1,x,_=>x=.pointer (some ⟨g,0,none⟩)
 |2,x,_=>x=.pointer (some ⟨g,0,none⟩)
 |3,x,_=>x=.pointer (some ⟨g,0,none⟩)
 |4,x,_=>x=.pointer (some ⟨g,3,none⟩)
 |5,_,W=>W.cell? ⟨g,3,none⟩=some (.bool true)
 |6,x,_=>x=.pointer (some ⟨g,0,none⟩)
 |7,x,_=>x=.pointer (some ⟨g,4,none⟩)
 |8,_,W=>W.cell? ⟨g,4,none⟩=some (.slice none 0 0)
 |9,x,_=>x=.pointer (some ⟨g,0,none⟩)
 |10,x,_=>x=.pointer (some ⟨g,5,none⟩)
 |11,_,W=>W.cell? ⟨g,5,none⟩=some (.int .i64 1)
 |_,_,_=>True
theorem aK8 {g:Nat} {w W W':World} (hbk:∃cs,Bk w g 244 cs∧cs.size=8) (h1:LeH g w W) (h2:LeH g W W') (i:Nat) (hi:3≤i∧i≤5) (hc:W.cell? ⟨g,i,none⟩=some (tgt i)):W'.cell? ⟨g,i,none⟩=some (tgt i):=by
 obtain ⟨cs,hk,h8⟩:=hbk;obtain ⟨c1,k1,e1,-,-⟩:=h1.2 cs hk h8;obtain ⟨c2,k2,e2,-,g2⟩:=h2.2 c1 k1 e1;rw [k2.cell i];rcases g2 i hi.1 hi.2 with h|h
 ·rw [h,←k1.cell i];exact hc
 ·exact h
theorem RH.keep {g:Nat} {w W W':World} (hbk:∃cs,Bk w g 244 cs∧cs.size=8) {k:Nat} {x:Value} (h:RH g k x W) (h1:LeH g w W) (h2:LeH g W W'):RH g k x W':=by
 match k,h with
 |0,h=>exact h
 |1,h=>exact h
 |2,h=>exact h
 |3,h=>exact h
 |4,h=>exact h
 |5,h=>exact aK8 hbk h1 h2 3 (by decide) h
 |6,h=>exact h
 |7,h=>exact h
 |8,h=>exact aK8 hbk h1 h2 4 (by decide) h
 |9,h=>exact h
 |10,h=>exact h
 |11,h=>exact aK8 hbk h1 h2 5 (by decide) h
 |_+12,_=>trivial
set_option maxRecDepth 100000 in
theorem head63 {w:World} {X Y:Nat→Prop} {g gd f n:Nat} {L:LK} {d:DK} (h:LgAt w Y g gd (f:Int) n L) (hd:DkAt w X gd d) (hxy:∀k,X k→¬Y k) (bl:Nat) (hbl:bl≠g)
  (c1:w.cell? ⟨bl,0,none⟩=some (.pointer (some ⟨g,0,none⟩))):
  Calls Tryz.prog 220 #[.pointer (some ⟨bl,0,none⟩)] w (WrPost X Y g gd f n 0 d {L with head:=true,recs:=[],end_:=1} w):=by
 obtain ⟨R,cR,vs,hA⟩:=h;have hbk0:∃cs,Bk w g 244 cs∧cs.size=8:=⟨_,hA.bk,rfl⟩;have HC1:Hid (∀W,Out (·=g) w W→W.cell? ⟨bl,0,none⟩=some (.pointer (some ⟨g,0,none⟩))):=fun W hW=>(hW.cell (World.block_lt_of_cell? w _ c1) hbl).trans c1;have HBK:Hid (∀W,LeH g w W→∃cs,Bk W g 244 cs∧cs.size=8):=fun W hW=>by
  obtain ⟨cs,hk,h8⟩:=hbk0;obtain ⟨c1,k1,e1,-,-⟩:=hW.2 cs hk h8;exact ⟨c1,k1,e1⟩
 have HFIN:Hid (∀W,LeH g w W→W.cell? ⟨g,3,none⟩=some (.bool true)→W.cell? ⟨g,4,none⟩=some (.slice none 0 0)→W.cell? ⟨g,5,none⟩=some (.int .i64 1)→WrPost X Y g gd f n 0 d {L with head:=true,recs:=[],end_:=1} w (.returned (.int .i64 0)) W):=fun W hW q3 q4 q5=>by
  obtain ⟨cs',hk',e8,hs,-⟩:=hW.2 _ hA.bk rfl;rw [hk'.cell] at q3 q4 q5;have hcs:cs'=#[.pointer (some ⟨gd,0,none⟩),.int .i64 (f:Int),.int .i64 (n:Int),.bool true,.slice none 0 0,.int .i64 1,.int .u64 (L.top:Int),.bool L.met]:=by
   refine Array.ext_getElem? fun i=>?_
   match i with
   |0=>exact hs 0 (by decide) (by decide) (by decide)
   |1=>exact hs 1 (by decide) (by decide) (by decide)
   |2=>exact hs 2 (by decide) (by decide) (by decide)
   |3=>exact q3
   |4=>exact q4
   |5=>exact q5
   |6=>exact hs 6 (by decide) (by decide) (by decide)
   |7=>exact hs 7 (by decide) (by decide) (by decide)
   |i+8=>rw [Array.getElem?_eq_none (by omega),Array.getElem?_eq_none (by simp)]
  subst hcs;have hOY:Out (fun k=>X k∨Y k) w W:=hW.1.mono fun k hk=>.inl (.inr (by rw [hk];exact hA.yg));refine ⟨rfl,X,Y,hd.out hW.1 (fun k hk e=>hxy k hk (by rw [e];exact hA.yg)),⟨none,0,[],hk',aD0 _ _ _,(fun j b hj=>by simp at hj),hA.yg,(fun a ha=>by cases ha),fun k hk=>Nat.lt_of_lt_of_le (hA.lt k hk) hW.1.size⟩,hOY,fun k hk=>.inl hk,fun k hk=>.inl hk,hxy⟩
 go_enter Tryz.func220,Tryz.ntmps220
 go_wp2_with fail;refine aGy (LeH g) aW0 aX3 (RH g) (by kernel_rfl) (by kernel_rfl) (by kernel_rfl) ?_ ?_ (fun v=>{tmps:=#[.pointer (some ⟨bl,0,none⟩),.int .i64 0,v 0,v 1,v 2,v 3,v 4,v 6,v 7,v 9,v 10],defers:=[]}) (fun v=>by kernel_rfl) ?_
 ·intro k x W W' hx h1 h2;exact RH.keep hbk0 hx h1 h2
 ·refine aA0 ?_ (aA0 ?_ (aA0 ?_ (aA0 ?_ (aA0 ?_ (aA0 ?_ (aA0 ?_ (aA0 ?_ (aA0 ?_ (aA0 ?_ (aA0 ?_ (aA0 ?_ (aA2))))))))))))
  ·intro a v W hd hb K hK;have k0:a.tmps.getD 0 undef=.pointer (some ⟨bl,0,none⟩):=hd.kept 0 (by kernel_rfl);have c1:=HC1.out W hb.1;have hk:=hK (.pointer (some ⟨g,0,none⟩)) W (aCh _ _) rfl;clear hK;unfold Oper.wp;go_simp;exact hk
  ·intro a v W hd hb K hK;have k0:a.tmps.getD 0 undef=.pointer (some ⟨bl,0,none⟩):=hd.kept 0 (by kernel_rfl);have c1:=HC1.out W hb.1;have hk:=hK (.pointer (some ⟨g,0,none⟩)) W (aCh _ _) rfl;clear hK;unfold Oper.wp;go_simp;exact hk
  ·intro a v W hd hb K hK;have k0:a.tmps.getD 0 undef=.pointer (some ⟨bl,0,none⟩):=hd.kept 0 (by kernel_rfl);have c1:=HC1.out W hb.1;have hk:=hK (.pointer (some ⟨g,0,none⟩)) W (aCh _ _) rfl;clear hK;unfold Oper.wp;go_simp;exact hk
  ·intro a v W hd hb K hK;obtain ⟨h2,r2⟩:=hd.done_ 0 _ 2 (by kernel_rfl) rfl rfl;have r2:v 0=.pointer (some ⟨g,0,none⟩):=r2;rw [r2] at h2;have hk:=hK (.pointer (some ⟨g,0,none⟩)) W (aCh _ _) rfl;clear hK;unfold Oper.wp;go_simp;exact hk
  ·intro a v W hd hb K hK;obtain ⟨h5,r5⟩:=hd.done_ 3 _ 5 (by kernel_rfl) rfl rfl;have r5:v 3=.pointer (some ⟨g,0,none⟩):=r5;rw [r5] at h5;have hk:=hK (.pointer (some ⟨g,3,none⟩)) W (aCh _ _) rfl;clear hK;unfold Oper.wp;go_simp;exact hk
  ·intro a v W hd hb K hK;obtain ⟨h6,r6⟩:=hd.done_ 4 _ 6 (by kernel_rfl) rfl rfl;have r6:v 4=.pointer (some ⟨g,3,none⟩):=r6;rw [r6] at h6;obtain ⟨cs,hk,h8⟩:=HBK.out W hb;have hk':=hk.set 3 (.bool true);have hc:W.cell? ⟨g,3,none⟩=some (cs[3]'(by omega)):=by rw [hk.cell 3,Array.getElem?_eq_getElem (by omega)]
   have hf:=hk.frozen 3;have hk2:=hK undef (W.setCell ⟨g,3,none⟩ (.bool true)) (aOu hk h8 3 (by decide)) (aMm hk h8 3 (by decide) _);clear hK;unfold Oper.wp;go_simp;exact hk2
  ·intro a v W hd hb K hK;obtain ⟨h3,r3⟩:=hd.done_ 1 _ 3 (by kernel_rfl) rfl rfl;have r3:v 1=.pointer (some ⟨g,0,none⟩):=r3;rw [r3] at h3;have hk:=hK (.pointer (some ⟨g,0,none⟩)) W (aCh _ _) rfl;clear hK;unfold Oper.wp;go_simp;exact hk
  ·intro a v W hd hb K hK;obtain ⟨h7,r7⟩:=hd.done_ 6 _ 7 (by kernel_rfl) rfl rfl;have r7:v 6=.pointer (some ⟨g,0,none⟩):=r7;rw [r7] at h7;have hk:=hK (.pointer (some ⟨g,4,none⟩)) W (aCh _ _) rfl;clear hK;unfold Oper.wp;go_simp;exact hk
  ·intro a v W hd hb K hK;obtain ⟨h8,r8⟩:=hd.done_ 7 _ 8 (by kernel_rfl) rfl rfl;have r8:v 7=.pointer (some ⟨g,4,none⟩):=r8;rw [r8] at h8;obtain ⟨cs,hk,h8⟩:=HBK.out W hb;have hk':=hk.set 4 (.slice none 0 0);have hc:W.cell? ⟨g,4,none⟩=some (cs[4]'(by omega)):=by rw [hk.cell 4,Array.getElem?_eq_getElem (by omega)]
   have hf:=hk.frozen 4;have hk2:=hK undef (W.setCell ⟨g,4,none⟩ (.slice none 0 0)) (aOu hk h8 4 (by decide)) (aMm hk h8 4 (by decide) _);clear hK;unfold Oper.wp;go_simp;exact hk2
  ·intro a v W hd hb K hK;obtain ⟨h4,r4⟩:=hd.done_ 2 _ 4 (by kernel_rfl) rfl rfl;have r4:v 2=.pointer (some ⟨g,0,none⟩):=r4;rw [r4] at h4;have hk:=hK (.pointer (some ⟨g,0,none⟩)) W (aCh _ _) rfl;clear hK;unfold Oper.wp;go_simp;exact hk
  ·intro a v W hd hb K hK;obtain ⟨h9,r9⟩:=hd.done_ 9 _ 9 (by kernel_rfl) rfl rfl;have r9:v 9=.pointer (some ⟨g,0,none⟩):=r9;rw [r9] at h9;have hk:=hK (.pointer (some ⟨g,5,none⟩)) W (aCh _ _) rfl;clear hK;unfold Oper.wp;go_simp;exact hk
  ·intro a v W hd hb K hK;obtain ⟨h10,r10⟩:=hd.done_ 10 _ 10 (by kernel_rfl) rfl rfl;have r10:v 10=.pointer (some ⟨g,5,none⟩):=r10;rw [r10] at h10;obtain ⟨cs,hk,h8⟩:=HBK.out W hb;have hk':=hk.set 5 (.int .i64 1);have hc:W.cell? ⟨g,5,none⟩=some (cs[5]'(by omega)):=by rw [hk.cell 5,Array.getElem?_eq_getElem (by omega)]
   have hf:=hk.frozen 5;have hk2:=hK undef (W.setCell ⟨g,5,none⟩ (.int .i64 1)) (aOu hk h8 5 (by decide)) (aMm hk h8 5 (by decide) _);clear hK;unfold Oper.wp;go_simp;exact hk2
 ·intro v w1 hb1 hv;have q3:=hv 5 (by decide);have q4:=hv 8 (by decide);have q5:=hv 11 (by decide);have HP:=Lib.hid (HFIN.out w1 hb1 q3 q4 q5);clear q3 q4 q5 hv hb1;go_wp2_with fail;go_ret;exact HP.out
end Go.Proofs.YtgjmbbkcgillcaaGreat.Log
namespace Go.Proofs.YtgjmbbkcgillcaaGreat.Log
open Go.RowKit Disk
open PhaseG (aAm)
open Phase (aA0 aA2 reachB)
def vP (g e i:Nat) (lf:Value) (z:Int):Nat→Value
 |0=>.pointer (some ⟨g,0,none⟩)
 |1=>.pointer (some ⟨g,0,none⟩)
 |2=>.pointer (some ⟨g,0,none⟩)
 |3=>.pointer (some ⟨g,5,none⟩)
 |4=>.int .i64 (e:Int)
 |5=>.int .i64 (i:Int)
 |6=>.int .i64 ((e+i:Nat):Int)
 |7=>lf
 |8=>.int .i64 z
 |9=>.int .i64 z
 |_=>undef
def PhP (w:World) (POST:World→Prop) (g e i:Nat) (lf:Value) (z:Int) (s:Nat) (v:Nat→Value) (W:World):Prop:=
 v=vP g e i lf z∧if s=0 then Below w.heap.size w W else POST W
theorem PhP.vals {w:World} {POST:World→Prop} {g e i:Nat} {lf:Value} {z:Int} {s:Nat} {v:Nat→Value} {W:World} (h:PhP w POST g e i lf z s v W):v=vP g e i lf z:=h.1
theorem PhP.below {w:World} {POST:World→Prop} {g e i:Nat} {lf:Value} {z:Int} {s:Nat} {v:Nat→Value} {W:World} (h:PhP w POST g e i lf z s v W) (hs:s≤0):Below w.heap.size w W:=by
 have:=h.2;rwa [if_pos (by omega)] at this
theorem WrPost.from {X Y:Nat→Prop} {g gd f n:Nat} {z:Int} {d':DK} {L':LK} {w w1:World} {e:Ending} {w':World} (h:WrPost X Y g gd f n z d' L' w1 e w') (hb:Below w.heap.size w w1):WrPost X Y g gd f n z d' L' w e w':=by
 obtain ⟨h1,X',Y',h2,h3,h4,h5,h6,h7⟩:=h;exact ⟨h1,X',Y',h2,h3,(Out.of_below hb).trans h4 (fun k hk=>.inl hk),fun k hk=>(h5 k hk).elim .inl (fun h=>.inr (Nat.le_trans hb.size h)),fun k hk=>(h6 k hk).elim .inl (fun h=>.inr (Nat.le_trans hb.size h)),h7⟩
theorem aXu (e i:Nat) (h:e+i≤1000000):IntKind.i64.wrap ((e:Int)+(i:Int))=(e:Int)+(i:Int)∧((e+i:Nat):Int)=(e:Int)+(i:Int):=⟨aLd _ (by omega) (by omega),by omega⟩
set_option maxRecDepth 100000 in
theorem put66 {w:World} {X Y:Nat→Prop} {g gd f n:Nat} {L:LK} {d:DK} (h:LgAt w Y g gd (f:Int) n L) (hd:DkAt w X gd d) (hxy:∀k,X k→¬Y k) (i:Nat) (hf:f+(L.end_+i)≤1000000) (hrow:d.row.length≤1000000) (st p o m c bl bi bf:Nat) (A:Option Addr) (b:List UInt8) (hr:Rd w A m b) (hs:st<18446744073709551616) (hp:p<65536) (ho:o<65536) (hm:m≤480)
  (c1:w.cell? ⟨bl,0,none⟩=some (.pointer (some ⟨g,0,none⟩))) (c2:w.cell? ⟨bi,0,none⟩=some (.int .i64 (i:Int))) (c3:LfAt w bf st p o A m c) (hbf:bf<w.heap.size):
  Calls Tryz.prog 223 #[.pointer (some ⟨bl,0,none⟩),.pointer (some ⟨bi,0,none⟩),.pointer (some ⟨bf,0,none⟩)] w (WrPost X Y g gd f n (d.write ((f+(L.end_+i):Nat):Int) (leafP st p o b)).1 (d.write ((f+(L.end_+i):Nat):Int) (leafP st p o b)).2 (if (d.write ((f+(L.end_+i):Nat):Int) (leafP st p o b)).1=0 then {L with top:=st} else L) w):=by
 have hw:∀W,Below w.heap.size w W→_:=fun W hW=>aKz (h.below hW) (hd.below hW) hxy (L.end_+i) hf hrow st p o m c A b (hr.below hW) hs hp ho hm;have HW:=Lib.hid hw;obtain ⟨-,-,-,-,a5,-,-,-⟩:=h.cell5;have HC:Hid (∀W,Below w.heap.size w W→W.cell? ⟨bl,0,none⟩=some (.pointer (some ⟨g,0,none⟩))∧W.cell? ⟨bi,0,none⟩=some (.int .i64 (i:Int))∧W.cell? ⟨g,5,none⟩=some (.int .i64 (L.end_:Int))∧LfAt W bf st p o A m c):=fun W hW=>
  ⟨(hW.cell (World.block_lt_of_cell? w _ c1)).trans c1,(hW.cell (World.block_lt_of_cell? w _ c2)).trans c2,(hW.cell (World.block_lt_of_cell? w _ a5)).trans a5,c3.keep (hW.block _ hbf)⟩
 obtain ⟨w3,w2⟩:=aXu L.end_ i (by omega);clear h hd hxy hw hs hrow hp ho hm hr c1 c2 c3 a5 hbf hf;generalize (d.write ((f+(L.end_+i):Nat):Int) (leafP st p o b)).1=z at*;generalize (d.write ((f+(L.end_+i):Nat):Int) (leafP st p o b)).2=d' at*;obtain ⟨L',hL'⟩:∃L':LK,L'=if z=0 then {L with top:=st} else L:=⟨_,rfl⟩
 rw [←hL'] at HW ⊢;clear hL';generalize L.end_=e at*;go_enter Tryz.func223,Tryz.ntmps223
 go_wp2_with fail;refine aAm (vP g e i (.agg #[.int .u64 (st:Int),.int .u16 (p:Int),.int .u16 (o:Int),.slice A m c]) z) [8] (PhP w (WrPost X Y g gd f n z d' L' w (.returned (.int .i64 z))) g e i (.agg #[.int .u64 (st:Int),.int .u16 (p:Int),.int .u16 (o:Int),.slice A m c]) z) 40 (by kernel_rfl) (by kernel_rfl) (fun s v W hp=>?_) ⟨rfl,by rw [if_pos rfl];exact (Below.refl _ _).drew⟩ (fun k y hk=>?_) (fun k y z' hy hz=>?_) ?_ (fun v=>{tmps:=#[.pointer (some ⟨bl,0,none⟩),.pointer (some ⟨bi,0,none⟩),.pointer (some ⟨bf,0,none⟩),v 9,v 0,v 1,v 2,v 3,v 4,v 5,v 6,v 7,v 8],defers:=[]}) (fun v=>by kernel_rfl) ?_
 ·obtain rfl:=hp.vals
  kernel_rfl
 ·match k,hk with
  |0,hk=>injection hk with hk;subst hk;decide
  |_+1,hk=>cases hk
 ·match k,hy,hz with
  |0,_,hz=>cases hz
  |_+1,hy,_=>cases hy
 ·refine aA0 ?_ (aA0 ?_ (aA0 ?_ (aA0 ?_ (aA0 ?_ (aA0 ?_ (aA0 ?_ (aA0 ?_ (aA0 ?_ (aA0 ?_ (aA2))))))))))
  ·intro a s v W hs hd hp h1 h2 h3 K hK;have hp0:=hp;obtain rfl:=hp.vals;have k0:a.tmps.getD 0 undef=.pointer (some ⟨bl,0,none⟩):=hd.kept 0 (by kernel_rfl);have hno:∀k:Nat,([8]:List Nat)[k]?≠some 0:=fun k hk=>by
    match k,hk with
    |0,hk=>cases hk
    |_+1,hk=>cases hk
   have hk:=hK s _ W (fun _=>rfl) (fun k hk=>absurd hk (hno k)) (fun k hk=>absurd rfl hk) hp;have c1:=(HC.out W (hp0.below (h2 0 8 rfl (by kernel_rfl)))).1;clear hK hp hp0;unfold Oper.wp;go_simp;exact hk
  ·intro a s v W hs hd hp h1 h2 h3 K hK;have hp0:=hp;obtain rfl:=hp.vals;have k0:a.tmps.getD 0 undef=.pointer (some ⟨bl,0,none⟩):=hd.kept 0 (by kernel_rfl);have hno:∀k:Nat,([8]:List Nat)[k]?≠some 1:=fun k hk=>by
    match k,hk with
    |0,hk=>cases hk
    |_+1,hk=>cases hk
   have hk:=hK s _ W (fun _=>rfl) (fun k hk=>absurd hk (hno k)) (fun k hk=>absurd rfl hk) hp;have c1:=(HC.out W (hp0.below (h2 0 8 rfl (by kernel_rfl)))).1;clear hK hp hp0;unfold Oper.wp;go_simp;exact hk
  ·intro a s v W hs hd hp h1 h2 h3 K hK;have hp0:=hp;obtain rfl:=hp.vals;have h5:a.tmps.getD 5 undef=.pointer (some ⟨g,0,none⟩):=hd.done_ 1 _ 5 (by kernel_rfl) rfl rfl;have hno:∀k:Nat,([8]:List Nat)[k]?≠some 2:=fun k hk=>by
    match k,hk with
    |0,hk=>cases hk
    |_+1,hk=>cases hk
   have hk:=hK s _ W (fun _=>rfl) (fun k hk=>absurd hk (hno k)) (fun k hk=>absurd rfl hk) hp;clear hK hp hp0;unfold Oper.wp;go_simp;exact hk
  ·intro a s v W hs hd hp h1 h2 h3 K hK;have hp0:=hp;obtain rfl:=hp.vals;have h6:a.tmps.getD 6 undef=.pointer (some ⟨g,0,none⟩):=hd.done_ 2 _ 6 (by kernel_rfl) rfl rfl;have hno:∀k:Nat,([8]:List Nat)[k]?≠some 3:=fun k hk=>by
    match k,hk with
    |0,hk=>cases hk
    |_+1,hk=>cases hk
   have hk:=hK s _ W (fun _=>rfl) (fun k hk=>absurd hk (hno k)) (fun k hk=>absurd rfl hk) hp;clear hK hp hp0;unfold Oper.wp;go_simp;exact hk
  ·intro a s v W hs hd hp h1 h2 h3 K hK;have hp0:=hp;obtain rfl:=hp.vals;have h7:a.tmps.getD 7 undef=.pointer (some ⟨g,5,none⟩):=hd.done_ 3 _ 7 (by kernel_rfl) rfl rfl;have hno:∀k:Nat,([8]:List Nat)[k]?≠some 4:=fun k hk=>by
    match k,hk with
    |0,hk=>cases hk
    |_+1,hk=>cases hk
   have hk:=hK s _ W (fun _=>rfl) (fun k hk=>absurd hk (hno k)) (fun k hk=>absurd rfl hk) hp;have a5:=(HC.out W (hp0.below (h2 0 8 rfl (by kernel_rfl)))).2.2.1;clear hK hp hp0;unfold Oper.wp;go_simp;exact hk
  ·intro a s v W hs hd hp h1 h2 h3 K hK;have hp0:=hp;obtain rfl:=hp.vals;have k1:a.tmps.getD 1 undef=.pointer (some ⟨bi,0,none⟩):=hd.kept 1 (by kernel_rfl);have hno:∀k:Nat,([8]:List Nat)[k]?≠some 5:=fun k hk=>by
    match k,hk with
    |0,hk=>cases hk
    |_+1,hk=>cases hk
   have hk:=hK s _ W (fun _=>rfl) (fun k hk=>absurd hk (hno k)) (fun k hk=>absurd rfl hk) hp;have c2:=(HC.out W (hp0.below (h2 0 8 rfl (by kernel_rfl)))).2.1;clear hK hp hp0;unfold Oper.wp;go_simp;exact hk
  ·intro a s v W hs hd hp h1 h2 h3 K hK;have hp0:=hp;obtain rfl:=hp.vals;have h8:a.tmps.getD 8 undef=.int .i64 (e:Int):=hd.done_ 4 _ 8 (by kernel_rfl) rfl rfl;have h9:a.tmps.getD 9 undef=.int .i64 (i:Int):=hd.done_ 5 _ 9 (by kernel_rfl) rfl rfl;have hno:∀k:Nat,([8]:List Nat)[k]?≠some 6:=fun k hk=>by
    match k,hk with
    |0,hk=>cases hk
    |_+1,hk=>cases hk
   have hk:=hK s _ W (fun _=>rfl) (fun k hk=>absurd hk (hno k)) (fun k hk=>absurd rfl hk) hp;have hk:K (a.put _ (.int .i64 ((e+i:Nat):Int))) W:=hk;rw [w2] at hk;clear hK hp hp0;unfold Oper.wp;go_simp;exact hk
  ·intro a s v W hs hd hp h1 h2 h3 K hK;have hp0:=hp;obtain rfl:=hp.vals;have k2:a.tmps.getD 2 undef=.pointer (some ⟨bf,0,none⟩):=hd.kept 2 (by kernel_rfl);have hno:∀k:Nat,([8]:List Nat)[k]?≠some 7:=fun k hk=>by
    match k,hk with
    |0,hk=>cases hk
    |_+1,hk=>cases hk
   have hk:=hK s _ W (fun _=>rfl) (fun k hk=>absurd hk (hno k)) (fun k hk=>absurd rfl hk) hp;obtain ⟨l0,l1,l2,l3⟩:=(HC.out W (hp0.below (h2 0 8 rfl (by kernel_rfl)))).2.2.2;clear hK hp hp0;unfold Oper.wp;go_simp;exact hk
  ·intro a s v W hs hd hp h1 h2 h3 K hK;have hp0:=hp;obtain rfl:=hp.vals;have h4:a.tmps.getD 4 undef=.pointer (some ⟨g,0,none⟩):=hd.done_ 0 _ 4 (by kernel_rfl) rfl rfl;have h10:a.tmps.getD 10 undef=.int .i64 ((e+i:Nat):Int):=hd.done_ 6 _ 10 (by kernel_rfl) rfl rfl;have h11:a.tmps.getD 11 undef=.agg #[.int .u64 (st:Int),.int .u16 (p:Int),.int .u16 (o:Int),.slice A m c]:=hd.done_ 7 _ 11 (by kernel_rfl) rfl rfl;obtain rfl:=h1 0 rfl;have hb:=hp.below (Nat.le_refl _);have cw:=HW.out W hb;rw [w2] at cw h10;unfold Oper.wp;go_simp;refine cw.mono ?_;rintro e' W' hw';have hw2:=hw'.from hb;obtain ⟨rfl,-⟩:=hw';exact hK 1 _ W' (fun h=>absurd rfl (h 0)) (fun k hk=>by have:=h1 k hk;omega) (fun k hk=>absurd rfl hk) ⟨rfl,by rw [if_neg (by decide)];exact hw2⟩
  ·intro a s v W hs hd hp h1 h2 h3 K hK;have hp0:=hp;obtain rfl:=hp.vals;have h12:a.tmps.getD 12 undef=.int .i64 z:=hd.done_ 8 _ 12 (by kernel_rfl) rfl rfl;have hno:∀k:Nat,([8]:List Nat)[k]?≠some 9:=fun k hk=>by
    match k,hk with
    |0,hk=>cases hk
    |_+1,hk=>cases hk
   have hk:=hK s _ W (fun _=>rfl) (fun k hk=>absurd hk (hno k)) (fun k hk=>absurd rfl hk) hp;clear hK hp hp0;unfold Oper.wp;go_simp;exact hk
 ·intro v w1 hp1;obtain rfl:=hp1.vals;have hq:=hp1.2;rw [if_neg (by decide)] at hq;have HQ:=Lib.hid hq;clear hq hp1;unfold vP;go_wp2_with fail;go_ret;exact HQ.out
def vK (g m c le:Nat) (A A':Option Addr) (n' c':Nat):Nat→Value
 |0=>.pointer (some ⟨g,0,none⟩)
 |1=>.slice A m c
 |2=>.slice A' n' c'
 |3=>.int .i64 (le:Int)
 |4=>.tuple #[]
 |_=>undef
def PhK (w:World) (POST:World→Prop) (b:List UInt8) (g m c le:Nat) (A:Option Addr) (s:Nat) (v:Nat→Value) (W:World):Prop:=
 ∃A' n' c',v=vK g m c le A A' n' c'∧match s with
 |0=>Below w.heap.size w W
 |1=>Below w.heap.size w W∧Rd W A' n' b∧n'≤c'∧∀a,A'=some a→w.heap.size≤a.block∧a.block<W.heap.size
 |_=>POST W
theorem PhK.vals {w:World} {POST:World→Prop} {b:List UInt8} {g m c le:Nat} {A:Option Addr} {s:Nat} {v:Nat→Value} {W:World} (h:PhK w POST b g m c le A s v W):∃A' n' c',v=vK g m c le A A' n' c':=by
 obtain ⟨A',n',c',h,_⟩:=h;exact ⟨A',n',c',h⟩
theorem PhK.below {w:World} {POST:World→Prop} {b:List UInt8} {g m c le:Nat} {A:Option Addr} {s:Nat} {v:Nat→Value} {W:World} (h:PhK w POST b g m c le A s v W) (hs:s≤1):Below w.heap.size w W:=by
 obtain ⟨A',n',c',_,h⟩:=h
 match s,hs,h with
 |0,_,h=>exact h
 |1,_,h=>exact h.1
set_option maxRecDepth 100000 in
theorem kept67 {w:World} {X Y:Nat→Prop} {g gd f n:Nat} {L:LK} {d:DK} (h:LgAt w Y g gd (f:Int) n L) (hd:DkAt w X gd d) (hxy:∀k,X k→¬Y k) (m c le bl bb bm:Nat) (A:Option Addr) (b:List UInt8) (hr:Rd w A m b) (hm:m≤10000000) (hle:L.end_+le≤1000000) (hrl:L.recs.length≤1000000)
  (c1:w.cell? ⟨bl,0,none⟩=some (.pointer (some ⟨g,0,none⟩))) (c2:w.cell? ⟨bb,0,none⟩=some (.slice A m c)) (c3:w.cell? ⟨bm,0,none⟩=some (.int .i64 (le:Int))):
  Calls Tryz.prog 224 #[.pointer (some ⟨bl,0,none⟩),.pointer (some ⟨bb,0,none⟩),.pointer (some ⟨bm,0,none⟩)] w (WrPost X Y g gd f n 0 d ⟨L.head,L.recs++[b],L.end_+le,L.top,L.met⟩ w):=by
 have HC:Hid (∀W,Below w.heap.size w W→W.cell? ⟨bl,0,none⟩=some (.pointer (some ⟨g,0,none⟩))∧W.cell? ⟨bb,0,none⟩=some (.slice A m c)∧W.cell? ⟨bm,0,none⟩=some (.int .i64 (le:Int))):=fun W hW=>
  ⟨(hW.cell (World.block_lt_of_cell? w _ c1)).trans c1,(hW.cell (World.block_lt_of_cell? w _ c2)).trans c2,(hW.cell (World.block_lt_of_cell? w _ c3)).trans c3⟩
 have HCL:Hid (∀W,Below w.heap.size w W→Calls Tryz.prog 118 #[.slice A m c] W (Put W b)):=fun W hW=>aEg A m c b W (hr.below hW) (by omega);obtain ⟨POST,hPOST⟩:∃POST:World→Prop,POST=WrPost X Y g gd f n 0 d ⟨L.head,L.recs++[b],L.end_+le,L.top,L.met⟩ w (.returned (.int .i64 0)):=⟨_,rfl⟩;have HKP:Hid (∀W A' n' c',Below w.heap.size w W→Rd W A' n' b→n'≤c'→(∀a,A'=some a→w.heap.size≤a.block∧a.block<W.heap.size)→Calls Tryz.prog 210 #[.pointer (some ⟨g,0,none⟩),.slice A' n' c',.int .i64 (le:Int)] W fun e w'=>e=.returned (.tuple #[])∧POST w'):=fun W A' n' c' hW hR hn hA=>by
  rw [hPOST];refine (aF7 (h.below hW) A' n' c' b hR hn (fun a ha=>⟨fun hY=>?_,(hA a ha).2⟩) le hle hrl).mono ?_
  ·have:=h.lt _ hY;have:=(hA a ha).1;omega
  ·rintro e w' ⟨rfl,Y',hl,ho,hy⟩;have hXl:∀k,X k→k<w.heap.size:=fun k hk=>by obtain ⟨_,_,_,q⟩:=hd;exact q.lt k hk
   refine ⟨rfl,rfl,X,Y',(hd.below hW).out ho hxy,hl,(Out.of_below hW).trans (ho.mono fun k hk=>.inl (.inr hk)) (fun k hk=>.inl hk),fun k hk=>.inl hk,fun k hk=>?_,fun k hk hk'=>?_⟩
   ·rcases hy k hk with q|q|⟨a,ha,rfl⟩
    ·exact .inl q
    ·exact .inr (Nat.le_trans hW.size q)
    ·exact .inr (hA a ha).1
   ·have h0:=hXl k hk;rcases hy k hk' with q|q|⟨a,ha,rfl⟩
    ·exact hxy k hk q
    ·have:=hW.size;omega
    ·have:=(hA a ha).1;omega
 have HPO:Hid (∀W,POST W→WrPost X Y g gd f n 0 d ⟨L.head,L.recs++[b],L.end_+le,L.top,L.met⟩ w (.returned (.int .i64 0)) W):=fun W h=>by rw [hPOST] at h;exact h
 clear h hd hxy hr hm hle hrl c1 c2 c3 hPOST;generalize (⟨L.head,L.recs++[b],L.end_+le,L.top,L.met⟩:LK)=L' at*;go_enter Tryz.func224,Tryz.ntmps224
 go_wp2_with fail;refine aAm (vK g m c le A none 0 0) [2,4] (PhK w POST b g m c le A) 40 (by kernel_rfl) (by kernel_rfl) (fun s v W hp=>?_) ⟨none,0,0,rfl,(Below.refl _ _).drew⟩ (fun k y hk=>?_) (fun k y z' hy hz=>?_) ?_ (fun v=>{tmps:=#[.pointer (some ⟨bl,0,none⟩),.pointer (some ⟨bb,0,none⟩),.pointer (some ⟨bm,0,none⟩),.int .i64 0,v 0,v 1,v 2,v 3,v 4],defers:=[]}) (fun v=>by kernel_rfl) ?_
 ·obtain ⟨A',n',c',rfl⟩:=hp.vals
  kernel_rfl
 ·match k,hk with
  |0,hk=>injection hk with hk;subst hk;decide
  |1,hk=>injection hk with hk;subst hk;decide
  |_+2,hk=>cases hk
 ·match k,hy,hz with
  |0,hy,hz=>injection hy with hy;injection hz with hz;subst hy hz;show reachB _ _ _ _=true;kernel_rfl
  |1,_,hz=>cases hz
  |_+2,hy,_=>cases hy
 ·refine aA0 ?_ (aA0 ?_ (aA0 ?_ (aA0 ?_ (aA0 ?_ (aA2)))))
  ·intro a s v W hs hd hp h1 h2 h3 K hK;have hp0:=hp;obtain ⟨A',n',c',rfl⟩:=hp.vals;have k0:a.tmps.getD 0 undef=.pointer (some ⟨bl,0,none⟩):=hd.kept 0 (by kernel_rfl);have hno:∀k:Nat,([2,4]:List Nat)[k]?≠some 0:=fun k hk=>by
    match k,hk with
    |0,hk=>cases hk
    |1,hk=>cases hk
    |_+2,hk=>cases hk
   have hk:=hK s _ W (fun _=>rfl) (fun k hk=>absurd hk (hno k)) (fun k hk=>absurd rfl hk) hp;have c1:=(HC.out W (hp0.below (by have:=h2 1 4 rfl (by kernel_rfl);omega))).1;clear hK hp hp0;unfold Oper.wp;go_simp;exact hk
  ·intro a s v W hs hd hp h1 h2 h3 K hK;have hp0:=hp;obtain ⟨A',n',c',rfl⟩:=hp.vals;have k1:a.tmps.getD 1 undef=.pointer (some ⟨bb,0,none⟩):=hd.kept 1 (by kernel_rfl);have hno:∀k:Nat,([2,4]:List Nat)[k]?≠some 1:=fun k hk=>by
    match k,hk with
    |0,hk=>cases hk
    |1,hk=>cases hk
    |_+2,hk=>cases hk
   have hk:=hK s _ W (fun _=>rfl) (fun k hk=>absurd hk (hno k)) (fun k hk=>absurd rfl hk) hp;have c2:=(HC.out W (hp0.below (by have:=h2 1 4 rfl (by kernel_rfl);omega))).2.1;clear hK hp hp0;unfold Oper.wp;go_simp;exact hk
  ·intro a s v W hs hd hp h1 h2 h3 K hK;have hp0:=hp;obtain ⟨A',n',c',rfl⟩:=hp.vals;have h5:a.tmps.getD 5 undef=.slice A m c:=hd.done_ 1 _ 5 (by kernel_rfl) rfl rfl;obtain rfl:=h1 0 rfl;have hb:=hp.below (by decide);have cw:=HCL.out W hb;unfold Oper.wp;go_simp;refine cw.mono ?_;rintro e' W' ⟨A2,n2,c2,rfl,hn2,hc2,how,hbw⟩;have hvv:∀k',vK g m c le A A2 n2 c2 k'≠vK g m c le A A' n' c' k'→k'=2:=fun k' hk'=>by
    refine Classical.byContradiction fun hn=>hk' ?_;unfold vK;split<;>first|rfl|exact absurd rfl hn
   exact hK 1 _ W' (fun h=>absurd rfl (h 0)) (fun k hk=>by have:=h1 k hk;omega) (fun k' hk'=>.inl (hvv k' hk')) ⟨A2,n2,c2,rfl,hb.trans (hbw.mono hb.size),(Rd.of_own how).1,hc2,fun a ha=>by
    have:=how.lt a.block (by rw [ha];rfl);exact ⟨Nat.le_trans hb.size this.1,this.2⟩⟩
  ·intro a s v W hs hd hp h1 h2 h3 K hK;have hp0:=hp;obtain ⟨A',n',c',rfl⟩:=hp.vals;have k2:a.tmps.getD 2 undef=.pointer (some ⟨bm,0,none⟩):=hd.kept 2 (by kernel_rfl);have hno:∀k:Nat,([2,4]:List Nat)[k]?≠some 3:=fun k hk=>by
    match k,hk with
    |0,hk=>cases hk
    |1,hk=>cases hk
    |_+2,hk=>cases hk
   have hk:=hK s _ W (fun _=>rfl) (fun k hk=>absurd hk (hno k)) (fun k hk=>absurd rfl hk) hp;have c3:=(HC.out W (hp0.below (by have:=h2 1 4 rfl (by kernel_rfl);omega))).2.2;clear hK hp hp0;unfold Oper.wp;go_simp;exact hk
  ·intro a s v W hs hd hp h1 h2 h3 K hK;have hp0:=hp;obtain ⟨A',n',c',rfl⟩:=hp.vals;have h4:a.tmps.getD 4 undef=.pointer (some ⟨g,0,none⟩):=hd.done_ 0 _ 4 (by kernel_rfl) rfl rfl;have h6:a.tmps.getD 6 undef=.slice A' n' c':=hd.done_ 2 _ 6 (by kernel_rfl) rfl rfl;have h7:a.tmps.getD 7 undef=.int .i64 (le:Int):=hd.done_ 3 _ 7 (by kernel_rfl) rfl rfl;obtain rfl:=h1 1 rfl;obtain ⟨A2,n2,c2,hv,hb,hR,hN,hA⟩:=hp;have hv11:=congrFun hv 2;injection hv11 with e1 e2 e3;subst e1 e2 e3;have cw:=HKP.out W A' n' c' hb hR hN hA;unfold Oper.wp;go_simp;refine cw.mono ?_;rintro e' W' ⟨rfl,hpost⟩;exact hK 2 _ W' (fun h=>absurd rfl (h 1)) (fun k hk=>by have:=h1 k hk;omega) (fun k hk=>absurd rfl hk) ⟨A',n',c',rfl,hpost⟩
 ·intro v w1 hp1;obtain ⟨A',n',c',rfl,hq⟩:=hp1;have HQ:=Lib.hid (HPO.out w1 hq);clear hq;unfold vK;go_wp2_with fail;go_ret;exact HQ.out
end Go.Proofs.YtgjmbbkcgillcaaGreat.Log
namespace Go.Proofs.YtgjmbbkcgillcaaGreat.Log
open Go.Op Go.RowKit Disk
attribute [local go_sem] Oper.semAt_some
def slC (A:Option Addr) (m c i:Nat):Value:=.slice (if c=i*480 then A else A.map (fun x=>x.add (i*480))) (min (i*480+480) m - i*480) (c - i*480)
def encC (A:Option Addr) (m c:Nat) (i:Nat):Array Value:=#[.int .i64 (i:Int),slC A m c i]
def KpC (bt:Nat) (W W':World):Prop:=W.heap.size≤W'.heap.size∧W'.heap[bt]? =W.heap[bt]?
def RelC (bt M:Nat) (o:Option Obj) (J:List Nat→World→Prop) (i:Value) (wr:World):Prop:=∃k:Nat,i=.int .i64 (k:Int)∧k≤M∧J (List.range k) wr∧wr.heap[bt]? =o
theorem aZd {m k:Nat} (h:k<manyOf m):k*480≤m∧(0<k→k*480<m):=by
 unfold manyOf at h;omega
set_option maxRecDepth 100000 in
theorem aWd (n:Nat) (hn:6≤n) (A:Option Addr) (m c bt:Nat) (w:World) (hc:w.cell? ⟨bt,0,none⟩=some (.slice A m c)) (hm:m≤10000000) (hmc:m≤c):
  SeqStopsK Fence.wide n Tryz.prog 244 #[.pointer (some ⟨bt,0,none⟩)] (encC A m c) (KpC bt) (fun xs=>xs=List.range (manyOf m)) (fun _=>True) (manyOf m) w:=by
 intro l J Jx W hW hJ hJx hY h0;have hcB:W.cell? ⟨bt,0,none⟩=some (.slice A m c):=(hW.cell (p:=⟨bt,0,none⟩) (World.block_lt_of_cell? w _ hc)).trans hc;have HC:Hid (∀wr:World,wr.heap[bt]? =W.heap[bt]?→wr.cell? ⟨bt,0,none⟩=some (.slice A m c)):=fun wr h=>(World.cell?_of_block (w:=W) h).trans hcB;have HJ0:=Lib.hid h0;have HY:=Lib.hid hY;have h1:1≤n:=by omega
 have cP:=aL7 m (by omega) W;have HM:Hid (manyOf m≤1000000):=by unfold manyOf;show _≤_;omega
 have HPI:Hid (∀k,k<manyOf m→k*480≤m∧(0<k→k*480<m)):=fun k hk=>aZd hk;have hfP:Fence.wide.fn 221:=trivial;clear hW h0 hY hc;generalize manyOf m=M at*;refine callsIn_of_wp Tryz.func244 rfl trivial ?_ rfl;simp only [Tryz.ntmps244,List.size_toArray,List.length_cons,List.length_nil,Nat.reduceAdd,Nat.reduceSub,Array.replicate_succ,Array.replicate_zero,List.push_toArray,List.append_toArray,List.nil_append,List.cons_append]
 gi_wp2_with (gi_at_call 221;refine (callsIn_wide.2 cP).mono ?_;rintro e w' ⟨rfl,rfl⟩)
 gi_loopw [8] (fun i wr=>RelC bt M (W.heap[bt]?) J i wr) (fun i _=>M - (intOf i).toNat)
 case atStart=>exact ⟨0,rfl,by omega,HJ0.out,rfl⟩
 case round=>
  obtain ⟨k,rfl,hk,hj,hbt⟩:=hrel;have hcell:=HC.out wr hbt;have HBT:=Lib.hid hbt;by_cases hlt:k<M
  ·obtain ⟨q1,q2⟩:=HPI.out k hlt;obtain ⟨fn,tmps,assign,body,hy,hR⟩:=HY.out (List.range k) k wr hj (by rw [List.length_range];exact hlt);have HSN:Hid (List.range k++[k]=List.range (k+1)):=List.range_succ.symm;have HMM:=HM.out;obtain ⟨e,he1,he2⟩:∃e:Nat,min ((k:Int)*480+480) (m:Int)=(e:Int)∧min (k*480+480) m=e:=⟨min (k*480+480) m,by omega,rfl⟩;dsimp only [encC,slC] at hy
   rw [he2] at hy;clear hj hbt he2 q2;by_cases hck:c=k*480
   ·rw [if_pos hck,show c - k*480=0 by omega] at hy;subst hck
    gi_wp2
    all_goals first
     |(
      refine hR.mono ?_;rintro e W3 (⟨rfl,hJ3,hk3⟩|⟨rfl,hJx3⟩)
      ·have HJ3:Hid (J (List.range (k+1)) W3):=by rw [←HSN.out];exact hJ3
       have HB3:Hid (W3.heap[bt]? =W.heap[bt]?):=hk3.2.trans HBT.out;clear hJ3 hk3
       gi_wp2
       go_roundw
       case rel=>exact ⟨k+1,by go_num,by omega,HJ3.out,HB3.out⟩
       case measure=>simp [intOf];omega
      ·gi_wp2
       refine bodyPost_ret (results_none rfl _ _ _) rfl ?_;exact ⟨⟨_,rfl⟩,.inr ⟨_,trivial,hJx3⟩⟩)
   ·rw [if_neg hck] at hy
    gi_wp2
    all_goals first
     |(
      refine hR.mono ?_;rintro e W3 (⟨rfl,hJ3,hk3⟩|⟨rfl,hJx3⟩)
      ·have HJ3:Hid (J (List.range (k+1)) W3):=by rw [←HSN.out];exact hJ3
       have HB3:Hid (W3.heap[bt]? =W.heap[bt]?):=hk3.2.trans HBT.out;clear hJ3 hk3
       gi_wp2
       go_roundw
       case rel=>exact ⟨k+1,by go_num,by omega,HJ3.out,HB3.out⟩
       case measure=>simp [intOf];omega
      ·gi_wp2
       refine bodyPost_ret (results_none rfl _ _ _) rfl ?_;exact ⟨⟨_,rfl⟩,.inr ⟨_,trivial,hJx3⟩⟩)
  ·obtain rfl:k=M:=by omega
   have HJK:=Lib.hid hj;clear hj hbt
   gi_wp2
   go_end0
   exact ⟨⟨_,rfl⟩,.inl ⟨_,rfl,HJK.out⟩⟩
end Go.Proofs.YtgjmbbkcgillcaaGreat.Log
