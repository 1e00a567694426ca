/- Lemmas, part 4: PhaseOwn, PhaseLink, ZmMay2 -/
import Derived.Test.YtgjmbbkcgillcaaGreatPart3
import Derived.Test.YtgjmbbkcgillcaaGreatPart1
set_option maxHeartbeats 16000000
namespace Go.Proofs.YtgjmbbkcgillcaaGreat.PhaseG
open Phase (aAu StepsL)
open Go.RowKit
open Disk (Out)
def Took (con:Nat→Option Nat) (O:Nat→Value→Nat→Prop) (v:Nat→Value) (i:Nat) (b:Nat):Prop:=∃k,con i=some k∧O k (v k) b
structure DepO (l:List Oper) (v:Nat→Value) (a0:Act) (con:Nat→Option Nat) (R:Nat→Value→World→Prop) (i:Nat) (o:Oper) (a:Act) (W:World):Prop where
 done_:∀(k:Nat) (p:Oper) (d:Nat),(o.after.any fun e=>e.on==k&&Region.binds .any e)=true→l[k]? =some p→p.dst=some d→((List.range l.length).all fun j=>con j != some k||j==i)=true→a.tmps.getD d undef=v k∧R k (v k) W
 kept:∀d,(l.all fun p=>p.dst != some d)=true→a.tmps.getD d undef=a0.tmps.getD d undef
def StepO (P:Program) (Q:Exit→Act→World→Prop) (l:List Oper) (a0:Act) (w:World) (con:Nat→Option Nat) (R:Nat→Value→World→Prop) (O:Nat→Value→Nat→Prop) (i:Nat) (o:Oper):Prop:=
 ∀(a:Act) (v:Nat→Value) (W:World),DepO l v a0 con R i o a W→Below w.heap.size w W→∀K:Act→World→Prop,(∀x W',Out (Took con O v i) W W'→R i x W'→(∀b,O i x b→b<W'.heap.size∧(W.heap.size≤b∨Took con O v i b))→K (a.put o.dst x) W')→o.wp P a W K Q
section
variable {P:Program} {Q:Exit→Act→World→Prop}
def conB (l:List Oper) (con:Nat→Option Nat):Bool:=(List.range l.length).all fun j=>match con j with
 |none=>true
 |some k=>((List.range l.length).all fun i=>con i != some k||i==j)&&(match l[j]? with
  |none=>true
  |some o=>o.after.any fun e=>e.on==k&&Region.binds .any e)
theorem aD9 {l:List Oper} {con:Nat→Option Nat} (h:conB l con=true) {j k:Nat} (hj:j<l.length) (hc:con j=some k):((List.range l.length).all fun i=>con i != some k||i==j)=true:=by
 have h1:=List.all_eq_true.1 h j (List.mem_range.2 hj);rw [hc] at h1;simp only [Bool.and_eq_true] at h1;exact h1.1
theorem aHa {n:Nat} {con:Nat→Option Nat} {j k:Nat} (h:((List.range n).all fun i=>con i != some k||i==j)=true) {i:Nat} (hi:i<n) (hc:con i=some k):i=j:=by
 have h1:=List.all_eq_true.1 h i (List.mem_range.2 hi);rw [hc] at h1;simpa using h1
theorem aC2 {l:List Oper} {con:Nat→Option Nat} (h:conB l con=true) {j k:Nat} {o:Oper} (hj:l[j]? =some o) (hc:con j=some k):(o.after.any fun e=>e.on==k&&Region.binds .any e)=true:=by
 have hlt:=(List.getElem?_eq_some_iff.1 hj).1;have h1:=List.all_eq_true.1 h j (List.mem_range.2 hlt);rw [hc] at h1;simp only [hj,Bool.and_eq_true] at h1;exact h1.2
def Lies (l:List Oper) (con:Nat→Option Nat) (listed:Array Bool) (k:Nat):Prop:=k<l.length∧listed.getD k false=true∧∀j,j<l.length→con j=some k→listed.getD j false=false
theorem aDq {l:List Oper} {a0:Act} {id:Nat} {w:World} (con:Nat→Option Nat) (R:Nat→Value→World→Prop) (O:Nat→Value→Nat→Prop) (hm:P.follows .mixedOrders=true) (hok:okB l.toArray a0.tmps.size=true) (hng:(l.all fun o=>o.guard.isNone)=true) (hcon:conB l con=true)
  (hR:∀k x (Z:Nat→Prop) W W',R k x W→Below w.heap.size w W→Out Z W W'→(∀b,Z b→w.heap.size≤b)→(∀b,Z b→∃k' x',R k' x' W∧O k' x' b)→(∀b,O k x b→¬Z b)→R k x W') (hsteps:StepsL (StepO P Q l a0 w con R O) 0 l) (F:(Nat→Value)→Act) (hF:∀v,final l.toArray v l.length a0=F v)
  (hend:∀v W,Below w.heap.size w W→(∀k,k<l.length→(∀j,j<l.length→con j≠some k)→R k (v k) W)→Q .normal (F v) W):
  (Code.region id l.toArray true).wp P Q a0 w:=by
 refine aA8 (v0:=fun _=>undef) (C:=fun v listed W=>Below w.heap.size w W∧listed.size=l.length∧(∀k,Lies l con listed k→R k (v k) W∧∀b,O k (v k) b→w.heap.size≤b∧b<W.heap.size)∧∀j k b,Lies l con listed j→Lies l con listed k→j≠k→O j (v j) b→¬O k (v k) b) hm hok (fun v _ _ _=>aB4 (by simpa using hng) v) ⟨(Below.refl _ _).drew,by simp,(fun k h=>by have:=h.2.1;rw [aAf] at this;cases this),(fun j k b h=>by have:=h.2.1;rw [aAf] at this;cases this)⟩ ?_ ?_
 ·intro i o hi v listed a W hun hdeps hf hC K hK;obtain ⟨hb,hsz,hr,hdis⟩:=hC;have hil:l[i]? =some o:=by simpa using hi
  have hlt:i<l.length:=(List.getElem?_eq_some_iff.1 hil).1;have hltl:i<listed.size:=by omega
  have hunf:listed.getD i false=false:=by
   have:listed[i]=false:=by simpa [hltl] using hun
   simp [hltl,this]
  have hlies:∀k,k<l.length→(o.after.any fun e=>e.on==k&&Region.binds .any e)=true→((List.range l.length).all fun j=>con j != some k||j==i)=true→Lies l con listed k:=fun k hkl hk hone=>by
   obtain ⟨e,he,hek⟩:=aAu hk;simp only [Bool.and_eq_true,beq_iff_eq] at hek;have:=hdeps e he hek.2;rw [hek.1] at this;refine ⟨hkl,this,fun j hj hc=>?_⟩;rw [aHa hone hj hc];exact hunf
  have hD:DepO l v a0 con R i o a W:=⟨fun k p d hk hp hd hone=>by
    have hL:=hlies k (List.getElem?_eq_some_iff.1 hp).1 hk hone;exact ⟨hf.yes k p d (by simpa using hp) hd hL.2.1,(hr k hL).1⟩,
   fun d hd=>hf.no d fun k p hk hp=>by
    have hk':l[k]? =some p:=by simpa using hk
    have:=List.all_eq_true.1 hd p (List.mem_of_getElem? hk');rw [hp] at this;simp at this⟩
  have hS:=StepsL.get hsteps hil;rw [Nat.zero_add] at hS;refine hS a v W hD hb K fun x W' hb' hx hox=>?_;have htook:∀b,Took con O v i b→w.heap.size≤b∧b<W.heap.size:=fun b ⟨k,hc,hob⟩=>by
   have hdep:=aC2 hcon hil hc;obtain ⟨e,he,hek⟩:=aAu hdep;simp only [Bool.and_eq_true,beq_iff_eq] at hek;have hon:=(aB2 hok hi).2.1 e he hek.2;exact (hr k (hlies k (by omega) hdep (aD9 hcon hlt hc))).2 b hob
  have htook2:∀b,Took con O v i b→∃k' x',R k' x' W∧O k' x' b:=fun b ⟨k,hc,hob⟩=>by
   have hdep:=aC2 hcon hil hc;obtain ⟨e,he,hek⟩:=aAu hdep;simp only [Bool.and_eq_true,beq_iff_eq] at hek;have hon:=(aB2 hok hi).2.1 e he hek.2;exact ⟨k,v k,(hr k (hlies k (by omega) hdep (aD9 hcon hlt hc))).1,hob⟩
  have hg:∀k,(listed.setIfInBounds i true).getD k false=if k=i then true else listed.getD k false:=fun k=>aAn _ _ _ hltl
  have hold:∀k,Lies l con (listed.setIfInBounds i true) k→k≠i→Lies l con listed k∧con i≠some k:=fun k hL e=>by
   have h2:=hL.2.1;rw [hg,if_neg e] at h2;refine ⟨⟨hL.1,h2,fun j hj hc=>?_⟩,fun hc=>?_⟩
   ·have h3:=hL.2.2 j hj hc;rw [hg] at h3;split at h3
    ·cases h3
    ·exact h3
   ·have h3:=hL.2.2 i hlt hc;rw [hg,if_pos rfl] at h3;cases h3
  have hnt:∀k,Lies l con listed k→con i≠some k→∀b,O k (v k) b→¬Took con O v i b:=fun k hL hne b hob ⟨k',hc,hob'⟩=>by
   have hdep:=aC2 hcon hil hc;obtain ⟨e,he,hek⟩:=aAu hdep;simp only [Bool.and_eq_true,beq_iff_eq] at hek;have hon:=(aB2 hok hi).2.1 e he hek.2;exact hdis k k' b hL (hlies k' (by omega) hdep (aD9 hcon hlt hc)) (fun e=>hne (e ▸ hc)) hob hob'
  have:=hK (fun k=>if k=i then x else v k) W' (fun k hk=>by
   by_cases e:k=i
   ·rw [e,hunf] at hk;cases hk
   ·rw [if_neg e]) ⟨hb'.below hb (fun b h=>(htook b h).1) hb.size,by simpa using hsz,fun k hL=>by
    by_cases e:k=i
    ·rw [if_pos e,e];refine ⟨hx,fun b hob=>⟨?_,(hox b hob).1⟩⟩;rcases (hox b hob).2 with h|h
     ·exact Nat.le_trans hb.size h
     ·exact (htook b h).1
    ·rw [if_neg e];obtain ⟨hL',hne⟩:=hold k hL e;obtain ⟨r1,r2⟩:=hr k hL';exact ⟨hR k _ _ W W' r1 hb hb' (fun b h=>(htook b h).1) htook2 (hnt k hL' hne),fun b hob=>⟨(r2 b hob).1,Nat.lt_of_lt_of_le (r2 b hob).2 hb'.size⟩⟩,fun j k b hj hk hjk h1 h2=>by
    by_cases ej:j=i
    ·by_cases ek:k=i
     ·exact hjk (ej.trans ek.symm)
     ·rw [if_pos ej] at h1;rw [if_neg ek] at h2;rw [ej] at h1;obtain ⟨hL',hne⟩:=hold k hk ek;rcases (hox b h1).2 with h|h
      ·have:=((hr k hL').2 b h2).2;omega
      ·exact hnt k hL' hne b h2 h
    ·rw [if_neg ej] at h1;obtain ⟨hL',hne⟩:=hold j hj ej;by_cases ek:k=i
     ·rw [if_pos ek,ek] at h2;rcases (hox b h2).2 with h|h
      ·have:=((hr j hL').2 b h1).2;omega
      ·exact hnt j hL' hne b h1 h
     ·rw [if_neg ek] at h2;exact hdis j k b hL' (hold k hk ek).1 hjk h1 h2⟩
  rwa [if_pos rfl] at this
 ·intro v listed W hall hC;obtain ⟨hb,_,hr,_⟩:=hC;have:=hend v W hb fun k hk hc=>(hr k ⟨hk,hall k (by simpa using hk),fun j hj h=>absurd h (hc j hj)⟩).1;rw [←hF v] at this;simpa using this
end
end Go.Proofs.YtgjmbbkcgillcaaGreat.PhaseG
namespace Go.Proofs.YtgjmbbkcgillcaaGreat.PhaseG
open Phase (aAu StepsL)
open Go.RowKit
open Disk (Out)
def StepK (P:Program) (Q:Exit→Act→World→Prop) (l:List Oper) (a0:Act) (w:World) (con:Nat→Option Nat) (R:Nat→Value→World→Prop) (O:Nat→Value→Nat→Prop) (L:Nat→Value→Value→Prop) (i:Nat) (o:Oper):Prop:=
 ∀(a:Act) (v:Nat→Value) (W:World),DepO l v a0 con R i o a W→Below w.heap.size w W→∀K:Act→World→Prop,(∀x W',Out (Took con O v i) W W'→R i x W'→(∀k,con i=some k→L i (v k) x)→(∀b,O i x b→b<W'.heap.size∧(W.heap.size≤b∨Took con O v i b))→K (a.put o.dst x) W')→o.wp P a W K Q
section
variable {P:Program} {Q:Exit→Act→World→Prop}
theorem aC3 {l:List Oper} {a0:Act} {id:Nat} {w:World} (con:Nat→Option Nat) (R:Nat→Value→World→Prop) (O:Nat→Value→Nat→Prop) (L:Nat→Value→Value→Prop) (hm:P.follows .mixedOrders=true) (hok:okB l.toArray a0.tmps.size=true) (hng:(l.all fun o=>o.guard.isNone)=true) (hcon:conB l con=true)
  (hR:∀k x (Z:Nat→Prop) W W',R k x W→Below w.heap.size w W→Out Z W W'→(∀b,Z b→w.heap.size≤b)→(∀b,Z b→∃k' x',R k' x' W∧O k' x' b)→(∀b,O k x b→¬Z b)→R k x W') (hsteps:StepsL (StepK P Q l a0 w con R O L) 0 l) (F:(Nat→Value)→Act) (hF:∀v,final l.toArray v l.length a0=F v)
  (hend:∀v W,Below w.heap.size w W→(∀k,k<l.length→(∀j,j<l.length→con j≠some k)→R k (v k) W)→(∀i k,i<l.length→con i=some k→L i (v k) (v i))→Q .normal (F v) W):
  (Code.region id l.toArray true).wp P Q a0 w:=by
 refine aA8 (v0:=fun _=>undef) (C:=fun v listed W=>Below w.heap.size w W∧listed.size=l.length∧(∀k,Lies l con listed k→R k (v k) W∧∀b,O k (v k) b→w.heap.size≤b∧b<W.heap.size)∧(∀j k b,Lies l con listed j→Lies l con listed k→j≠k→O j (v j) b→¬O k (v k) b)∧(∀i k,listed.getD i false=true→con i=some k→i<l.length→L i (v k) (v i))∧Phase.Closed l listed) hm hok (fun v _ _ _=>aB4 (by simpa using hng) v) ⟨(Below.refl _ _).drew,by simp,(fun k h=>by have:=h.2.1;rw [aAf] at this;cases this),(fun j k b h=>by have:=h.2.1;rw [aAf] at this;cases this),(fun i k h=>by rw [aAf] at h;cases h),(fun x o _ h=>by rw [aAf] at h;cases h)⟩ ?_ ?_
 ·intro i o hi v listed a W hun hdeps hf hC K hK;obtain ⟨hb,hsz,hr,hdis,hlk,hcl⟩:=hC;have hil:l[i]? =some o:=by simpa using hi
  have hlt:i<l.length:=(List.getElem?_eq_some_iff.1 hil).1;have hltl:i<listed.size:=by omega
  have hunf:listed.getD i false=false:=by
   have:listed[i]=false:=by simpa [hltl] using hun
   simp [hltl,this]
  have hlies:∀k,k<l.length→(o.after.any fun e=>e.on==k&&Region.binds .any e)=true→((List.range l.length).all fun j=>con j != some k||j==i)=true→Lies l con listed k:=fun k hkl hk hone=>by
   obtain ⟨e,he,hek⟩:=aAu hk;simp only [Bool.and_eq_true,beq_iff_eq] at hek;have:=hdeps e he hek.2;rw [hek.1] at this;refine ⟨hkl,this,fun j hj hc=>?_⟩;rw [aHa hone hj hc];exact hunf
  have hD:DepO l v a0 con R i o a W:=⟨fun k p d hk hp hd hone=>by
    have hL:=hlies k (List.getElem?_eq_some_iff.1 hp).1 hk hone;exact ⟨hf.yes k p d (by simpa using hp) hd hL.2.1,(hr k hL).1⟩,
   fun d hd=>hf.no d fun k p hk hp=>by
    have hk':l[k]? =some p:=by simpa using hk
    have:=List.all_eq_true.1 hd p (List.mem_of_getElem? hk');rw [hp] at this;simp at this⟩
  have hS:=StepsL.get hsteps hil;rw [Nat.zero_add] at hS;refine hS a v W hD hb K fun x W' hb' hx hlx hox=>?_;have htook:∀b,Took con O v i b→w.heap.size≤b∧b<W.heap.size:=fun b ⟨k,hc,hob⟩=>by
   have hdep:=aC2 hcon hil hc;obtain ⟨e,he,hek⟩:=aAu hdep;simp only [Bool.and_eq_true,beq_iff_eq] at hek;have hon:=(aB2 hok hi).2.1 e he hek.2;exact (hr k (hlies k (by omega) hdep (aD9 hcon hlt hc))).2 b hob
  have htook2:∀b,Took con O v i b→∃k' x',R k' x' W∧O k' x' b:=fun b ⟨k,hc,hob⟩=>by
   have hdep:=aC2 hcon hil hc;obtain ⟨e,he,hek⟩:=aAu hdep;simp only [Bool.and_eq_true,beq_iff_eq] at hek;have hon:=(aB2 hok hi).2.1 e he hek.2;exact ⟨k,v k,(hr k (hlies k (by omega) hdep (aD9 hcon hlt hc))).1,hob⟩
  have hg:∀k,(listed.setIfInBounds i true).getD k false=if k=i then true else listed.getD k false:=fun k=>aAn _ _ _ hltl
  have hold:∀k,Lies l con (listed.setIfInBounds i true) k→k≠i→Lies l con listed k∧con i≠some k:=fun k hL e=>by
   have h2:=hL.2.1;rw [hg,if_neg e] at h2;refine ⟨⟨hL.1,h2,fun j hj hc=>?_⟩,fun hc=>?_⟩
   ·have h3:=hL.2.2 j hj hc;rw [hg] at h3;split at h3
    ·cases h3
    ·exact h3
   ·have h3:=hL.2.2 i hlt hc;rw [hg,if_pos rfl] at h3;cases h3
  have hnt:∀k,Lies l con listed k→con i≠some k→∀b,O k (v k) b→¬Took con O v i b:=fun k hL hne b hob ⟨k',hc,hob'⟩=>by
   have hdep:=aC2 hcon hil hc;obtain ⟨e,he,hek⟩:=aAu hdep;simp only [Bool.and_eq_true,beq_iff_eq] at hek;have hon:=(aB2 hok hi).2.1 e he hek.2;exact hdis k k' b hL (hlies k' (by omega) hdep (aD9 hcon hlt hc)) (fun e=>hne (e ▸ hc)) hob hob'
  have:=hK (fun k=>if k=i then x else v k) W' (fun k hk=>by
   by_cases e:k=i
   ·rw [e,hunf] at hk;cases hk
   ·rw [if_neg e]) ⟨hb'.below hb (fun b h=>(htook b h).1) hb.size,by simpa using hsz,fun k hL=>by
    by_cases e:k=i
    ·rw [if_pos e,e];refine ⟨hx,fun b hob=>⟨?_,(hox b hob).1⟩⟩;rcases (hox b hob).2 with h|h
     ·exact Nat.le_trans hb.size h
     ·exact (htook b h).1
    ·rw [if_neg e];obtain ⟨hL',hne⟩:=hold k hL e;obtain ⟨r1,r2⟩:=hr k hL';exact ⟨hR k _ _ W W' r1 hb hb' (fun b h=>(htook b h).1) htook2 (hnt k hL' hne),fun b hob=>⟨(r2 b hob).1,Nat.lt_of_lt_of_le (r2 b hob).2 hb'.size⟩⟩,fun j k b hj hk hjk h1 h2=>by
    by_cases ej:j=i
    ·by_cases ek:k=i
     ·exact hjk (ej.trans ek.symm)
     ·rw [if_pos ej] at h1;rw [if_neg ek] at h2;rw [ej] at h1;obtain ⟨hL',hne⟩:=hold k hk ek;rcases (hox b h1).2 with h|h
      ·have:=((hr k hL').2 b h2).2;omega
      ·exact hnt k hL' hne b h2 h
    ·rw [if_neg ej] at h1;obtain ⟨hL',hne⟩:=hold j hj ej;by_cases ek:k=i
     ·rw [if_pos ek,ek] at h2;rcases (hox b h2).2 with h|h
      ·have:=((hr j hL').2 b h1).2;omega
      ·exact hnt j hL' hne b h1 h
     ·rw [if_neg ek] at h2;exact hdis j k b hL' (hold k hk ek).1 hjk h1 h2,fun j k hj hc hjl=>by
    have hki:k≠i:=fun e=>by
     have hdep:=aC2 hcon (List.getElem?_eq_getElem hjl) hc;obtain ⟨e1,he,hek⟩:=aAu hdep;simp only [Bool.and_eq_true,beq_iff_eq] at hek;by_cases ej:j=i
     ·subst ej;have hjo:l[j]? =some l[j]:=List.getElem?_eq_getElem hjl;rw [hil] at hjo;injection hjo with hjo;have:=hdeps e1 (hjo ▸ he) hek.2;rw [hek.1,e,hunf] at this;cases this
     ·rw [hg,if_neg ej] at hj;have:=hcl j _ (List.getElem?_eq_getElem hjl) hj e1 he hek.2;rw [hek.1,e,hunf] at this;cases this
    by_cases ej:j=i
    ·subst ej;rw [if_pos rfl,if_neg hki];exact hlx k hc
    ·rw [hg,if_neg ej] at hj;rw [if_neg ej,if_neg hki];exact hlk j k hj hc hjl,fun j o' hj' hj e1 he hbd=>by
    rw [hg];by_cases eon:e1.on=i
    ·rw [if_pos eon]
    ·rw [if_neg eon];by_cases ej:j=i
     ·subst ej;rw [hil] at hj';injection hj' with hj';subst hj';exact hdeps e1 he hbd
     ·rw [hg,if_neg ej] at hj;exact hcl j o' hj' hj e1 he hbd⟩
  rwa [if_pos rfl] at this
 ·intro v listed W hall hC;obtain ⟨hb,_,hr,_,hlk,_⟩:=hC;have:=hend v W hb (fun k hk hc=>(hr k ⟨hk,hall k (by simpa using hk),fun j hj h=>absurd h (hc j hj)⟩).1) fun i k hi hc=>hlk i k (hall i (by simpa using hi)) hc hi;rw [←hF v] at this;simpa using this
theorem aH2 {w:World} {o:Oper} {a:Act} {K:Act→World→Prop} (ty:TypeId) (x y:Operand) (ho:o.op=.store ty x y) {g:Nat} {t:TypeId} {old cells:Array Value} (hx:a.eval x=.pointer (some ⟨g,0,none⟩)) (hy:a.eval y=.agg cells) (hb:Bk w g t old)
  (hi:(P.info? ty).map (·.size)=some cells.size) (hold:old.size=cells.size) (h1:cells.all (·.oneCell')=true) (h:∀W',Bk W' g t cells→Out (fun k=>k=g) w W'→K (a.put o.dst undef) W'):o.wp P a w K Q:=by
 have hk:=h (w.setRow g cells) (setRow_heap w g old cells t (0,0) hb) ⟨rfl,rfl,rfl,by simp [World.setRow],fun k _ hk=>setRow_other w g k cells hk⟩;exact wp_store_row ty x y ho g cells hx hy t old hb hi hold h1 hk
end
end Go.Proofs.YtgjmbbkcgillcaaGreat.PhaseG
namespace Go.Proofs.YtgjmbbkcgillcaaGreat.Zm
open Go.RowKit Disk Log Sto
open PhaseG (aC3 aH2 Took)
open Phase (aA0 aA2)
def mgC (m:Mg) (A:Option Addr) (n c:Nat):Array Value:=#[.int .u8 (m.kind:Int),.int .u64 (m.epoch:Int),.int .u64 (m.current:Int),.int .i64 m.at_,.int .i64 m.commit,.slice A n c]
def bdC (b:Nat×Nat×Nat×Nat):Array Value:=#[.int .u64 (b.1:Int),.int .u64 (b.2.1:Int),.int .u64 (b.2.2.1:Int),.int .u64 (b.2.2.2:Int)]
theorem aO9 {P:Nat→Prop} {w:World} {A:Option Addr} {n:Nat} {ls:List Ln} (h:LnS P w A n ls):LnS (fun k=>k<w.heap.size) w A n ls:=
 ⟨h.len,fun j x hj=>by
  obtain ⟨b,o,B,m,c,h1,h2,h3,h4,h5,h6,h7⟩:=h.at_ j x hj;refine ⟨b,o,B,m,c,h1,World.block_lt_of_cell? w ⟨b,o+j*2,none⟩ h3,h3,h4,h5,h6,fun a ha h0=>?_⟩;obtain ⟨ad,e,hc⟩:=h6.cells (by omega);rw [ha] at e;injection e with e;subst e;have hl:0<x.bytes.length:=by rw [h6.len];omega
  have:=World.block_lt_of_cell? w _ (hc 0 _ (List.getElem?_eq_getElem hl));rwa [aAa] at this⟩
structure MayAt (w W:World) (g h q:Nat) (m:Mg) (A:Option Addr) (n c:Nat) (f:Bool):Prop where
 bg:Bk W g 36 (mgC m A n c)
 bh:Bk W h 200 (bdC (hasK m.kind))
 bq:Bk W q 4 #[.bool f]
 ln:LnS (fun k=>k<w.heap.size) W A n m.lines
 be:Below w.heap.size w W
 gq:g≠q
 hq:h≠q
 wq:w.heap.size≤q
theorem MayAt.set {w W:World} {g h q:Nat} {m:Mg} {A:Option Addr} {n c:Nat} {f:Bool} (H:MayAt w W g h q m A n c f) (f':Bool):MayAt w (W.setCell ⟨q,0,none⟩ (.bool f')) g h q m A n c f':=by
 have ho:Out (fun k=>k=q) W (W.setCell ⟨q,0,none⟩ (.bool f')):=Out.setCell (X:=fun k=>k=q) W (p:=⟨q,0,none⟩) rfl _;refine ⟨H.bg.kept (ho.block _ H.bg.lt H.gq),H.bh.kept (ho.block _ H.bh.lt H.hq),by simpa using H.bq.set 0 (.bool f'),H.ln.out ho (fun k hk e=>?_),H.be.setCell H.wq _,H.gq,H.hq,H.wq⟩;have:=H.wq;omega
theorem MayAt.below {w W W':World} {g h q:Nat} {m:Mg} {A:Option Addr} {n c:Nat} {f:Bool} (H:MayAt w W g h q m A n c f) (hb:Below W.heap.size W W'):MayAt w W' g h q m A n c f:=
 ⟨H.bg.below hb,H.bh.below hb,H.bq.below hb,H.ln.below hb,H.be.trans (hb.mono H.be.size),H.gq,H.hq,H.wq⟩
theorem aUz {w w0 W:World} {h:Nat} {m:Mg} {A:Option Addr} {n c:Nat} {f:Bool} (HL:LnS (fun k=>k<w.heap.size) w A n m.lines) (HB0:Below w.heap.size w w0) (HBK:Bk w0 w.heap.size 36 (mgC m A n c)) (HB1:Below w0.heap.size w0 W) (HBH:Bk W h 200 (bdC (hasK m.kind))):
  MayAt w (W.alloc (.cells #[.bool f] 4)) w.heap.size h W.heap.size m A n c f:=by
 have h1:Below w.heap.size w W:=HB0.trans (HB1.mono HB0.size);have h2:=HBK.below HB1;exact ⟨h2.alloc _,HBH.alloc _,Bk.new _ _ _,(HL.below h1).below ((Below.refl _ _).alloc (Nat.le_refl _) _),h1.alloc h1.size _,Nat.ne_of_lt h2.lt,Nat.ne_of_lt HBH.lt,h1.size⟩
theorem aG1 (z:Int):IntKind.u64.wrap z=(u64 z:Int):=by
 rw [IntKind.wrap_u64];unfold u64;omega
def RelMay (w:World) (m:Mg) (g h q:Nat) (A:Option Addr) (n c:Nat) (i:Value) (wr:World):Prop:=
 ∃(k:Nat) (f:Bool),k≤n∧i=.int .i64 (k:Int)∧MayAt w wr g h q m A n c f∧f=(foundM m||(m.lines.take k).any foundL)
theorem aQr {m:Mg} {k:Nat} {x:Ln} {f g1 g2:Bool} (hx:m.lines[k]? =some x) (hf:f=(foundM m||(m.lines.take k).any foundL)) (h1:g1=(f||outB x.epoch 1 top)) (h2:g2=(g1||outB x.bytes.length 1 4096)):g2=(foundM m||(m.lines.take (k+1)).any foundL):=by
 obtain ⟨hk,rfl⟩:=List.getElem?_eq_some_iff.1 hx;rw [←List.take_append_getElem hk,List.any_append,h2,h1,hf];simp [foundL,Bool.or_assoc]
theorem aZ1 {b:Nat} {w:World} (h:w.ownsMap Tryz.prog 5 fB b 6 kindsD) (k:Nat) (hk:k<256):
  (Instr.lookup 202 (.map (some b)) (.int .u8 (k:Int)) true).run Tryz.prog w=.ok (.tuple #[.agg (bdC (hasK k)),.bool (isK k)]) w:=aT1 h k hk
theorem bAt {b:Nat} {w:World} (h:w.ownsMap Tryz.prog 5 fB b 6 kindsD):b<w.heap.size:=by
 obtain ⟨es,clock,hb,_⟩:=h;exact (Array.getElem?_eq_some_iff.1 hb).1
def conM (i:Nat):Option Nat:=if i=8 then some 7 else none
def OM (k:Nat) (x:Value) (b:Nat):Prop:=(k=0∧x=.map (some b))∨((k=7∨k=8)∧x=.pointer (some ⟨b,0,none⟩))
def LM (i:Nat) (x y:Value):Prop:=i=8→y=x
def RM (g:Nat) (m:Mg):Nat→Value→World→Prop
 |0,x,W=>∃b,x=.map (some b)∧W.ownsMap Tryz.prog 5 fB b 6 kindsD
 |1,x,_=>x=.pointer (some ⟨g,0,none⟩)
 |2,x,_=>x=.int .u8 (m.kind:Int)
 |3,x,_=>x=.tuple #[.agg (bdC (hasK m.kind)),.bool (isK m.kind)]
 |4,x,_=>x=.tuple #[.agg (bdC (hasK m.kind)),.bool (isK m.kind)]
 |5,x,_=>x=.agg (bdC (hasK m.kind))
 |6,x,_=>x=.bool (isK m.kind)
 |7,x,W=>∃h,x=.pointer (some ⟨h,0,none⟩)∧Bk W h 200 #[.int .u64 0,.int .u64 0,.int .u64 0,.int .u64 0]
 |8,x,W=>∃h,x=.pointer (some ⟨h,0,none⟩)∧Bk W h 200 (bdC (hasK m.kind))
 |_,x,_=>x=.bool (isK m.kind)
theorem RM.out {g:Nat} {m:Mg} (k:Nat) (x:Value) (Z:Nat→Prop) (W W':World) (hr:RM g m k x W) (ho:Out Z W W') (hn:∀b,OM k x b→¬Z b):RM g m k x W':=by
 match k,hr with
 |0,⟨b,e,q⟩=>
  refine ⟨b,e,?_⟩;obtain ⟨es,clock,hb,r⟩:=q;have hlt:b<W.heap.size:=(Array.getElem?_eq_some_iff.1 hb).1;exact ⟨es,clock,(ho.block b hlt (hn b (.inl ⟨rfl,e⟩))).trans hb,r⟩
 |1,q=>exact q
 |2,q=>exact q
 |3,q=>exact q
 |4,q=>exact q
 |5,q=>exact q
 |6,q=>exact q
 |7,⟨h,e,q⟩=>exact ⟨h,e,q.kept (ho.block h q.lt (hn h (.inr ⟨.inl rfl,e⟩)))⟩
 |8,⟨h,e,q⟩=>exact ⟨h,e,q.kept (ho.block h q.lt (hn h (.inr ⟨.inr rfl,e⟩)))⟩
 |_+9,q=>exact q
set_option maxRecDepth 100000 in
theorem aHr {P:Nat→Prop} (A:Option Addr) (n c:Nat) (m:Mg) (w:World) (hok:m.Ok) (h:LnS P w A n m.lines):
  Calls Tryz.prog 89 #[.agg (mgC m A n c)] w fun e w'=>e=.returned (.bool (decide m.may))∧Below w.heap.size w w':=by
 have hln:=aO9 h;have hn:=h.len;have HL:=Lib.hid hln;have HN:=Lib.hid hn;have HOK:=Lib.hid hok;have hk:=hok.kind;clear hln h hn hok;obtain ⟨w0,hw0⟩:∃w0,w0=w.alloc (.cells (mgC m A n c) 36):=⟨_,rfl⟩;have hbk:Bk w0 w.heap.size 36 (mgC m A n c):=by rw [hw0];exact Bk.new _ _ _
 have HB0:Hid (Below w.heap.size w w0):=by rw [hw0];exact (Below.refl _ _).alloc (Nat.le_refl _) _
 have HBK:=Lib.hid hbk;have k0:=hbk.cell 0;have HW0:=Lib.hid hw0;clear hw0 hbk;unfold mgC at k0 ⊢;simp at k0;go_enter Tryz.func89,Tryz.ntmps89
 go_wp2_with fail;have e0:=HW0.out;unfold mgC at e0;rw [←e0];clear e0;have HC:Hid (∀V,Below w0.heap.size w0 V→V.cell? ⟨w.heap.size,0,none⟩=some (.int .u8 (m.kind:Int))):=fun V hV=>(hV.cell HBK.out.lt).trans (HBK.out.cell 0);refine aC3 (F:=?F) conM (RM w.heap.size m) OM LM (by kernel_rfl) (by kernel_rfl) (by kernel_rfl) (by kernel_rfl) ?hR ?hS ?hF ?hE
 case hF=>
  intro v;simp only [List.length_cons,List.length_nil,Nat.zero_add,Nat.reduceAdd,PhaseG.final,List.getElem?_toArray,List.getElem?_cons_zero,List.getElem?_cons_succ,Option.bind_some,Act.put,List.setIfInBounds_toArray,List.set_cons_zero,List.set_cons_succ];exact rfl
 case hR=>
  intro k x Z W W' hx hb ho hzw hz hn;exact RM.out _ _ _ _ _ hx ho hn
 case hS=>
  refine aA0 ?_ (aA0 ?_ (aA0 ?_ (aA0 ?_ (aA0 ?_ (aA0 ?_ (aA0 ?_ (aA0 ?_ (aA0 ?_ (aA0 ?_ (aA2))))))))))
  ·intro a v W hd hb K hK;have ck:=aU3 W;unfold Oper.wp;go_simp;refine ck.mono ?_;rintro e W' ⟨b,rfl,hbn,hb1,hm1⟩;refine hK (.map (some b)) W' (Out.of_below hb1) ⟨b,rfl,hm1⟩ (fun k hk=>by cases hk) (fun b' hob=>?_);rcases hob with ⟨_,e⟩|⟨_,e⟩
   ·injection e with e;injection e with e;subst e;exact ⟨bAt hm1,.inl hbn⟩
   ·cases e
  ·intro a v W hd hb K hK;have k1:a.tmps.getD 1 undef=.pointer (some ⟨w.heap.size,0,none⟩):=hd.kept 1 (by kernel_rfl);have hk:=hK (.pointer (some ⟨w.heap.size,0,none⟩)) W (Out.refl _ _) rfl (fun k hk=>by cases hk) (fun b hob=>absurd hob (by unfold OM;omega));clear hK;unfold Oper.wp;go_simp;exact hk
  ·intro a v W hd hb K hK;obtain ⟨h11,r11⟩:=hd.done_ 1 _ 11 (by kernel_rfl) rfl rfl (by kernel_rfl);have r11:v 1=.pointer (some ⟨w.heap.size,0,none⟩):=r11;rw [r11] at h11;have kk:=HC.out W hb;have hk:=hK (.int .u8 (m.kind:Int)) W (Out.refl _ _) rfl (fun k hk=>by cases hk) (fun b hob=>absurd hob (by unfold OM;omega));clear hK;unfold Oper.wp;go_simp;exact hk
  ·intro a v W hd hb K hK;obtain ⟨h10,r10⟩:=hd.done_ 0 _ 10 (by kernel_rfl) rfl rfl (by kernel_rfl);obtain ⟨b,e10,hm⟩:=r10;rw [e10] at h10;have hl:=aZ1 hm m.kind hk;obtain ⟨h12,r12⟩:=hd.done_ 2 _ 12 (by kernel_rfl) rfl rfl (by kernel_rfl);have r12:v 2=.int .u8 (m.kind:Int):=r12;rw [r12] at h12;have hk:=hK (.tuple #[.agg (bdC (hasK m.kind)),.bool (isK m.kind)]) W (Out.refl _ _) rfl (fun k hk=>by cases hk) (fun b hob=>absurd hob (by unfold OM;omega));clear hK;unfold Oper.wp;go_simp;exact hk
  ·intro a v W hd hb K hK;obtain ⟨h13,r13⟩:=hd.done_ 3 _ 13 (by kernel_rfl) rfl rfl (by kernel_rfl);have r13:v 3=.tuple #[.agg (bdC (hasK m.kind)),.bool (isK m.kind)]:=r13;rw [r13] at h13;have hk:=hK (.tuple #[.agg (bdC (hasK m.kind)),.bool (isK m.kind)]) W (Out.refl _ _) rfl (fun k hk=>by cases hk) (fun b hob=>absurd hob (by unfold OM;omega));clear hK;unfold Oper.wp;go_simp;exact hk
  ·intro a v W hd hb K hK;obtain ⟨h9,r9⟩:=hd.done_ 4 _ 9 (by kernel_rfl) rfl rfl (by kernel_rfl);have r9:v 4=.tuple #[.agg (bdC (hasK m.kind)),.bool (isK m.kind)]:=r9;rw [r9] at h9;have hk:=hK (.agg (bdC (hasK m.kind))) W (Out.refl _ _) rfl (fun k hk=>by cases hk) (fun b hob=>absurd hob (by unfold OM;omega));clear hK;unfold Oper.wp;go_simp;exact hk
  ·intro a v W hd hb K hK;obtain ⟨h9,r9⟩:=hd.done_ 4 _ 9 (by kernel_rfl) rfl rfl (by kernel_rfl);have r9:v 4=.tuple #[.agg (bdC (hasK m.kind)),.bool (isK m.kind)]:=r9;rw [r9] at h9;have hk:=hK (.bool (isK m.kind)) W (Out.refl _ _) rfl (fun k hk=>by cases hk) (fun b hob=>absurd hob (by unfold OM;omega));clear hK;unfold Oper.wp;go_simp;exact hk
  ·intro a v W hd hb K hK;have hk:=hK (.pointer (some ⟨W.heap.size,0,none⟩)) (W.alloc (.cells #[.int .u64 0,.int .u64 0,.int .u64 0,.int .u64 0] 200)) (Out.of_below ((Below.refl _ _).alloc (Nat.le_refl _) _)) ⟨W.heap.size,rfl,Bk.new _ _ _⟩ (fun k hk=>by cases hk) (fun b hob=>by
    rcases hob with ⟨_,e⟩|⟨_,e⟩
    ·cases e
    ·injection e with e;injection e with e;injection e with e;subst e;exact ⟨by simp,.inl (Nat.le_refl _)⟩)
   clear hK;unfold Oper.wp;go_simp;exact hk
  ·intro a v W hd hb K hK;obtain ⟨h3,r3⟩:=hd.done_ 7 _ 3 (by kernel_rfl) rfl rfl (by kernel_rfl);obtain ⟨g,e3,hg⟩:=r3;rw [e3] at h3;obtain ⟨h14,r14⟩:=hd.done_ 5 _ 14 (by kernel_rfl) rfl rfl (by kernel_rfl);have r14:v 5=.agg (bdC (hasK m.kind)):=r14;rw [r14] at h14;refine aH2 200 (.tmp 3) (.tmp 14) rfl h3 h14 hg (by kernel_rfl) rfl (by simp [bdC,Value.oneCell']) fun W' hg' ho=>?_;refine hK (v 7) W' (ho.mono fun k hk=>.inl ⟨7,rfl,.inr ⟨by omega,by rw [e3,hk]⟩⟩) ⟨g,e3,hg'⟩ (fun k hk _=>by injection hk with hk;subst hk;rfl) (fun b hob=>?_);rcases hob with ⟨_,e⟩|⟨_,e⟩
   ·rw [e3] at e;cases e
   ·rw [e3] at e;injection e with e;injection e with e;injection e with e;subst e;exact ⟨hg'.lt,.inr ⟨7,rfl,.inr ⟨by omega,by rw [e3]⟩⟩⟩
  ·intro a v W hd hb K hK;obtain ⟨h15,r15⟩:=hd.done_ 6 _ 15 (by kernel_rfl) rfl rfl (by kernel_rfl);have r15:v 6=.bool (isK m.kind):=r15;rw [r15] at h15;have hk:=hK (.bool (isK m.kind)) W (Out.refl _ _) rfl (fun k hk=>by cases hk) (fun b hob=>absurd hob (by unfold OM;omega));clear hK;unfold Oper.wp;go_simp;exact hk
 case hE=>
  intro v W hb1 hv hl;have nc:∀k,(k=8∨k=9)→∀j,j<10→conM j≠some k:=fun k hk j _ hc=>by
   unfold conM at hc;split at hc
   ·injection hc with hc;omega
   ·cases hc
  obtain ⟨h,e8,hbh⟩:=hv 8 (by decide) (nc 8 (.inl rfl));have e9:v 9=.bool (isK m.kind):=hv 9 (by decide) (nc 9 (.inr rfl));have e7:v 8=v 7:=hl 8 7 (by decide) rfl rfl;rw [←e7,e8,e9];generalize v 0=x0;generalize v 1=x1;generalize v 2=x2;generalize v 3=x3;generalize v 4=x4;generalize v 5=x5;generalize v 6=x6;have HBH:=Lib.hid hbh;have HB1:=Lib.hid hb1;clear hv hl nc e7 e8 e9 hbh hb1 v;have hq0:Hid (MayAt w (W.alloc (.cells #[.bool (!isK m.kind)] 4)) w.heap.size h W.heap.size m A n c (!isK m.kind)):=
   aUz HL.out HB0.out HBK.out HB1.out HBH.out
  have e1:IntKind.u64.wrap m.at_=(u64 m.at_:Int):=aG1 m.at_;have e2:IntKind.u64.wrap m.commit=(u64 m.commit:Int):=aG1 m.commit;have hnn:n≤140737488355328:=by have:=HOK.out.many;have:=HN.out;omega
  have e3:IntKind.u64.wrap (n:Int)=(n:Int):=by rw [IntKind.wrap_u64];omega
  have c1:(W.alloc (.cells #[.bool (!isK m.kind)] 4)).cell? ⟨w.heap.size,1,none⟩=some (.int .u64 (m.epoch:Int)):=hq0.out.bg.cell 1;have c2:(W.alloc (.cells #[.bool (!isK m.kind)] 4)).cell? ⟨w.heap.size,2,none⟩=some (.int .u64 (m.current:Int)):=hq0.out.bg.cell 2;have c3:(W.alloc (.cells #[.bool (!isK m.kind)] 4)).cell? ⟨w.heap.size,3,none⟩=some (.int .i64 m.at_):=hq0.out.bg.cell 3;have c4:(W.alloc (.cells #[.bool (!isK m.kind)] 4)).cell? ⟨w.heap.size,4,none⟩=some (.int .i64 m.commit):=hq0.out.bg.cell 4;have c5:(W.alloc (.cells #[.bool (!isK m.kind)] 4)).cell? ⟨w.heap.size,5,none⟩=some (.slice A n c):=hq0.out.bg.cell 5;have d0:(W.alloc (.cells #[.bool (!isK m.kind)] 4)).cell? ⟨h,0,none⟩=some (.int .u64 ((hasK m.kind).1:Int)):=hq0.out.bh.cell 0;have d1:(W.alloc (.cells #[.bool (!isK m.kind)] 4)).cell? ⟨h,1,none⟩=some (.int .u64 ((hasK m.kind).2.1:Int)):=hq0.out.bh.cell 1;have d2:(W.alloc (.cells #[.bool (!isK m.kind)] 4)).cell? ⟨h,2,none⟩=some (.int .u64 ((hasK m.kind).2.2.1:Int)):=hq0.out.bh.cell 2;have d3:(W.alloc (.cells #[.bool (!isK m.kind)] 4)).cell? ⟨h,3,none⟩=some (.int .u64 ((hasK m.kind).2.2.2:Int)):=hq0.out.bh.cell 3;go_wp2_with fail;refine (aBf (m.epoch) (1) (top) W.heap.size (!isK m.kind) (W.alloc (.cells #[.bool (!isK m.kind)] 4)) hq0.out.bq).mono ?_;rintro e V1 ⟨rfl,hV⟩;obtain ⟨f1,hf1⟩:∃f1,f1=((!isK m.kind)||outB (m.epoch) (1) (top)):=⟨_,rfl⟩;have hm1:Hid (MayAt w V1 w.heap.size h W.heap.size m A n c f1):=by rw [hV,hf1];exact hq0.out.set _
  have HF1:=Lib.hid hf1;clear hV hf1 c1 c2 c3 c4 c5 d0 d1 d2 d3;have c1:V1.cell? ⟨w.heap.size,1,none⟩=some (.int .u64 (m.epoch:Int)):=hm1.out.bg.cell 1;have c2:V1.cell? ⟨w.heap.size,2,none⟩=some (.int .u64 (m.current:Int)):=hm1.out.bg.cell 2;have c3:V1.cell? ⟨w.heap.size,3,none⟩=some (.int .i64 m.at_):=hm1.out.bg.cell 3;have c4:V1.cell? ⟨w.heap.size,4,none⟩=some (.int .i64 m.commit):=hm1.out.bg.cell 4;have c5:V1.cell? ⟨w.heap.size,5,none⟩=some (.slice A n c):=hm1.out.bg.cell 5;have d0:V1.cell? ⟨h,0,none⟩=some (.int .u64 ((hasK m.kind).1:Int)):=hm1.out.bh.cell 0;have d1:V1.cell? ⟨h,1,none⟩=some (.int .u64 ((hasK m.kind).2.1:Int)):=hm1.out.bh.cell 1;have d2:V1.cell? ⟨h,2,none⟩=some (.int .u64 ((hasK m.kind).2.2.1:Int)):=hm1.out.bh.cell 2;have d3:V1.cell? ⟨h,3,none⟩=some (.int .u64 ((hasK m.kind).2.2.2:Int)):=hm1.out.bh.cell 3;obtain ⟨mn,hmn⟩:∃mn,mn=min m.epoch (hasK m.kind).1:=⟨_,rfl⟩;have HMN:=Lib.hid hmn;rcases Nat.lt_or_ge (hasK m.kind).1 m.epoch with hle|hle
  ·have hI:((hasK m.kind).1:Int)<(m.epoch:Int):=by omega
   have hJ:mn=(hasK m.kind).1:=by omega
   have HJ:=Lib.hid hJ;clear hle hmn hJ;go_wp2_with fail;refine (aBf (m.current) (0) ((hasK m.kind).1) W.heap.size f1 V1 hm1.out.bq).mono ?_;rintro e V2 ⟨rfl,hV⟩;obtain ⟨f2,hf2⟩:∃f2,f2=(f1||outB (m.current) (0) mn):=⟨_,rfl⟩;have hm2:Hid (MayAt w V2 w.heap.size h W.heap.size m A n c f2):=by rw [hV,hf2,HJ.out];exact hm1.out.set _
   have HF2:=Lib.hid hf2;clear hV hf2 hI HJ c1 c2 c3 c4 c5 d0 d1 d2 d3;have c1:V2.cell? ⟨w.heap.size,1,none⟩=some (.int .u64 (m.epoch:Int)):=hm2.out.bg.cell 1;have c2:V2.cell? ⟨w.heap.size,2,none⟩=some (.int .u64 (m.current:Int)):=hm2.out.bg.cell 2;have c3:V2.cell? ⟨w.heap.size,3,none⟩=some (.int .i64 m.at_):=hm2.out.bg.cell 3;have c4:V2.cell? ⟨w.heap.size,4,none⟩=some (.int .i64 m.commit):=hm2.out.bg.cell 4;have c5:V2.cell? ⟨w.heap.size,5,none⟩=some (.slice A n c):=hm2.out.bg.cell 5;have d0:V2.cell? ⟨h,0,none⟩=some (.int .u64 ((hasK m.kind).1:Int)):=hm2.out.bh.cell 0;have d1:V2.cell? ⟨h,1,none⟩=some (.int .u64 ((hasK m.kind).2.1:Int)):=hm2.out.bh.cell 1;have d2:V2.cell? ⟨h,2,none⟩=some (.int .u64 ((hasK m.kind).2.2.1:Int)):=hm2.out.bh.cell 2;have d3:V2.cell? ⟨h,3,none⟩=some (.int .u64 ((hasK m.kind).2.2.2:Int)):=hm2.out.bh.cell 3;go_wp2_with fail;refine (aBf (u64 m.at_) (0) ((hasK m.kind).2.1) W.heap.size f2 V2 hm2.out.bq).mono ?_;rintro e V3 ⟨rfl,hV⟩;obtain ⟨f3,hf3⟩:∃f3,f3=(f2||outB (u64 m.at_) (0) ((hasK m.kind).2.1)):=⟨_,rfl⟩;have hm3:Hid (MayAt w V3 w.heap.size h W.heap.size m A n c f3):=by rw [hV,hf3];exact hm2.out.set _
   have HF3:=Lib.hid hf3;clear hV hf3 c1 c2 c3 c4 c5 d0 d1 d2 d3;have c1:V3.cell? ⟨w.heap.size,1,none⟩=some (.int .u64 (m.epoch:Int)):=hm3.out.bg.cell 1;have c2:V3.cell? ⟨w.heap.size,2,none⟩=some (.int .u64 (m.current:Int)):=hm3.out.bg.cell 2;have c3:V3.cell? ⟨w.heap.size,3,none⟩=some (.int .i64 m.at_):=hm3.out.bg.cell 3;have c4:V3.cell? ⟨w.heap.size,4,none⟩=some (.int .i64 m.commit):=hm3.out.bg.cell 4;have c5:V3.cell? ⟨w.heap.size,5,none⟩=some (.slice A n c):=hm3.out.bg.cell 5;have d0:V3.cell? ⟨h,0,none⟩=some (.int .u64 ((hasK m.kind).1:Int)):=hm3.out.bh.cell 0;have d1:V3.cell? ⟨h,1,none⟩=some (.int .u64 ((hasK m.kind).2.1:Int)):=hm3.out.bh.cell 1;have d2:V3.cell? ⟨h,2,none⟩=some (.int .u64 ((hasK m.kind).2.2.1:Int)):=hm3.out.bh.cell 2;have d3:V3.cell? ⟨h,3,none⟩=some (.int .u64 ((hasK m.kind).2.2.2:Int)):=hm3.out.bh.cell 3;go_wp2_with fail;refine (aBf (u64 m.commit) (0) ((hasK m.kind).2.2.1) W.heap.size f3 V3 hm3.out.bq).mono ?_;rintro e V4 ⟨rfl,hV⟩;obtain ⟨f4,hf4⟩:∃f4,f4=(f3||outB (u64 m.commit) (0) ((hasK m.kind).2.2.1)):=⟨_,rfl⟩;have hm4:Hid (MayAt w V4 w.heap.size h W.heap.size m A n c f4):=by rw [hV,hf4];exact hm3.out.set _
   have HF4:=Lib.hid hf4;clear hV hf4 c1 c2 c3 c4 c5 d0 d1 d2 d3;have c1:V4.cell? ⟨w.heap.size,1,none⟩=some (.int .u64 (m.epoch:Int)):=hm4.out.bg.cell 1;have c2:V4.cell? ⟨w.heap.size,2,none⟩=some (.int .u64 (m.current:Int)):=hm4.out.bg.cell 2;have c3:V4.cell? ⟨w.heap.size,3,none⟩=some (.int .i64 m.at_):=hm4.out.bg.cell 3;have c4:V4.cell? ⟨w.heap.size,4,none⟩=some (.int .i64 m.commit):=hm4.out.bg.cell 4;have c5:V4.cell? ⟨w.heap.size,5,none⟩=some (.slice A n c):=hm4.out.bg.cell 5;have d0:V4.cell? ⟨h,0,none⟩=some (.int .u64 ((hasK m.kind).1:Int)):=hm4.out.bh.cell 0;have d1:V4.cell? ⟨h,1,none⟩=some (.int .u64 ((hasK m.kind).2.1:Int)):=hm4.out.bh.cell 1;have d2:V4.cell? ⟨h,2,none⟩=some (.int .u64 ((hasK m.kind).2.2.1:Int)):=hm4.out.bh.cell 2;have d3:V4.cell? ⟨h,3,none⟩=some (.int .u64 ((hasK m.kind).2.2.2:Int)):=hm4.out.bh.cell 3;go_wp2_with fail;refine (aBf (n) (0) ((hasK m.kind).2.2.2) W.heap.size f4 V4 hm4.out.bq).mono ?_;rintro e V5 ⟨rfl,hV⟩;obtain ⟨f5,hf5⟩:∃f5,f5=(f4||outB (n) (0) ((hasK m.kind).2.2.2)):=⟨_,rfl⟩;have hm5:Hid (MayAt w V5 w.heap.size h W.heap.size m A n c f5):=by rw [hV,hf5];exact hm4.out.set _
   have HF5:=Lib.hid hf5;clear hV hf5 c1 c2 c3 c4 c5 d0 d1 d2 d3;have c1:V5.cell? ⟨w.heap.size,1,none⟩=some (.int .u64 (m.epoch:Int)):=hm5.out.bg.cell 1;have c2:V5.cell? ⟨w.heap.size,2,none⟩=some (.int .u64 (m.current:Int)):=hm5.out.bg.cell 2;have c3:V5.cell? ⟨w.heap.size,3,none⟩=some (.int .i64 m.at_):=hm5.out.bg.cell 3;have c4:V5.cell? ⟨w.heap.size,4,none⟩=some (.int .i64 m.commit):=hm5.out.bg.cell 4;have c5:V5.cell? ⟨w.heap.size,5,none⟩=some (.slice A n c):=hm5.out.bg.cell 5;have d0:V5.cell? ⟨h,0,none⟩=some (.int .u64 ((hasK m.kind).1:Int)):=hm5.out.bh.cell 0;have d1:V5.cell? ⟨h,1,none⟩=some (.int .u64 ((hasK m.kind).2.1:Int)):=hm5.out.bh.cell 1;have d2:V5.cell? ⟨h,2,none⟩=some (.int .u64 ((hasK m.kind).2.2.1:Int)):=hm5.out.bh.cell 2;have d3:V5.cell? ⟨h,3,none⟩=some (.int .u64 ((hasK m.kind).2.2.2:Int)):=hm5.out.bh.cell 3;go_wp2_with fail;have HFM:Hid (f5=foundM m):=by
    show _=_;rw [HF5.out,HF4.out,HF3.out,HF2.out,HF1.out,HMN.out,←HN.out];rfl
   clear c1 c2 c3 c4 c5 d0 d1 d2 d3;go_loopw [57] (fun i wr=>RelMay w m w.heap.size h W.heap.size A n c i wr) (fun i _=>n - (intOf i).toNat)
   case atStart=>exact ⟨0,f5,Nat.zero_le _,rfl,hm5.out,by rw [HFM.out];simp⟩
   case round=>
    obtain ⟨k,f,hk,rfl,hma,hff⟩:=hrel;have HA:=Lib.hid hma;have HFF:=Lib.hid hff;clear hma hff;by_cases hlt:k<n
    ·have hkl:k<m.lines.length:=by have:=HN.out;omega
     obtain ⟨x,hx⟩:∃x,m.lines[k]? =some x:=⟨_,List.getElem?_eq_getElem hkl⟩;obtain ⟨b,o,B,mm,c2,hA,-,he,hc,hmc,hr,-⟩:=HA.out.ln.at_ k x hx;subst hA;have HX:=Lib.hid hx;have HR:=Lib.hid hr;have hxb:mm≤140737488355328:=by
      have:=(HOK.out.each x (List.mem_of_getElem? hx)).2;have:=hr.len;omega
     have e4:IntKind.u64.wrap (mm:Int)=(mm:Int):=by rw [IntKind.wrap_u64];omega
     have hma2:Hid (MayAt w (wr.alloc (.cells #[.int .u64 (x.epoch:Int),.slice B mm c2] 65)) w.heap.size h W.heap.size m (some ⟨b,o,none⟩) n c f):=HA.out.below ((Below.refl _ _).alloc (Nat.le_refl _) _);have hbl:Hid (Bk (wr.alloc (.cells #[.int .u64 (x.epoch:Int),.slice B mm c2] 65)) wr.heap.size 65 #[.int .u64 (x.epoch:Int),.slice B mm c2]):=Bk.new _ _ _;have HNE:Hid (wr.heap.size≠W.heap.size):=by have:=HA.out.bq.lt;show _≠_;omega
     clear hx hr;go_wp2_with fail;refine (aBf x.epoch 1 top W.heap.size f _ hma2.out.bq).mono ?_;rintro e U1 ⟨rfl,hU⟩;obtain ⟨g1,hg1⟩:∃g1,g1=(f||outB x.epoch 1 top):=⟨_,rfl⟩;have hn1:Hid (MayAt w U1 w.heap.size h W.heap.size m (some ⟨b,o,none⟩) n c g1):=by rw [hU,hg1];exact hma2.out.set _
     have hbl1:Hid (Bk U1 wr.heap.size 65 #[.int .u64 (x.epoch:Int),.slice B mm c2]):=by
      rw [hU];exact hbl.out.kept (Below.heap_setCell _ ⟨W.heap.size,0,none⟩ _ wr.heap.size HNE.out)
     have HG1:=Lib.hid hg1;clear hU hg1 he hc;have l1:U1.cell? ⟨wr.heap.size,1,none⟩=some (.slice B mm c2):=hbl1.out.cell 1;go_wp2_with fail;refine (aBf mm 1 4096 W.heap.size g1 U1 hn1.out.bq).mono ?_;rintro e U2 ⟨rfl,hU⟩;obtain ⟨g2,hg2⟩:∃g2,g2=(g1||outB mm 1 4096):=⟨_,rfl⟩;have hn2:Hid (MayAt w U2 w.heap.size h W.heap.size m (some ⟨b,o,none⟩) n c g2):=by rw [hU,hg2];exact hn1.out.set _
     have HG2:=Lib.hid hg2;clear hU hg2 l1;go_wp2_with fail;refine ⟨⟨k+1,g2,by omega,rfl,hn2.out,?_⟩,by simp [intOf];omega⟩;exact aQr HX.out HFF.out HG1.out (by rw [HR.out.len];exact HG2.out)
    ·obtain rfl:k=n:=by omega
     have hbq:wr.cell? ⟨W.heap.size,0,none⟩=some (.bool f):=HA.out.bq.cell 0;have HBE:=Lib.hid HA.out.be;have hff:f=(foundM m||m.lines.any foundL):=by
      have:=HFF.out;rwa [List.take_of_length_le (by have:=HN.out;omega)] at this
     have hres:Hid ((!f)=decide m.may):=by
      show _=_;rw [hff,aKo HOK.out,Bool.not_not]
     clear hff;go_wp2_with fail;go_ret;exact ⟨congrArg (fun b=>Ending.returned (.bool b)) hres.out,HBE.out⟩
  ·have hI:¬((hasK m.kind).1:Int)<(m.epoch:Int):=by omega
   have hJ:mn=m.epoch:=by omega
   have HJ:=Lib.hid hJ;clear hle hmn hJ;go_wp2_with fail;refine (aBf (m.current) (0) (m.epoch) W.heap.size f1 V1 hm1.out.bq).mono ?_;rintro e V2 ⟨rfl,hV⟩;obtain ⟨f2,hf2⟩:∃f2,f2=(f1||outB (m.current) (0) mn):=⟨_,rfl⟩;have hm2:Hid (MayAt w V2 w.heap.size h W.heap.size m A n c f2):=by rw [hV,hf2,HJ.out];exact hm1.out.set _
   have HF2:=Lib.hid hf2;clear hV hf2 hI HJ c1 c2 c3 c4 c5 d0 d1 d2 d3;have c1:V2.cell? ⟨w.heap.size,1,none⟩=some (.int .u64 (m.epoch:Int)):=hm2.out.bg.cell 1;have c2:V2.cell? ⟨w.heap.size,2,none⟩=some (.int .u64 (m.current:Int)):=hm2.out.bg.cell 2;have c3:V2.cell? ⟨w.heap.size,3,none⟩=some (.int .i64 m.at_):=hm2.out.bg.cell 3;have c4:V2.cell? ⟨w.heap.size,4,none⟩=some (.int .i64 m.commit):=hm2.out.bg.cell 4;have c5:V2.cell? ⟨w.heap.size,5,none⟩=some (.slice A n c):=hm2.out.bg.cell 5;have d0:V2.cell? ⟨h,0,none⟩=some (.int .u64 ((hasK m.kind).1:Int)):=hm2.out.bh.cell 0;have d1:V2.cell? ⟨h,1,none⟩=some (.int .u64 ((hasK m.kind).2.1:Int)):=hm2.out.bh.cell 1;have d2:V2.cell? ⟨h,2,none⟩=some (.int .u64 ((hasK m.kind).2.2.1:Int)):=hm2.out.bh.cell 2;have d3:V2.cell? ⟨h,3,none⟩=some (.int .u64 ((hasK m.kind).2.2.2:Int)):=hm2.out.bh.cell 3;go_wp2_with fail;refine (aBf (u64 m.at_) (0) ((hasK m.kind).2.1) W.heap.size f2 V2 hm2.out.bq).mono ?_;rintro e V3 ⟨rfl,hV⟩;obtain ⟨f3,hf3⟩:∃f3,f3=(f2||outB (u64 m.at_) (0) ((hasK m.kind).2.1)):=⟨_,rfl⟩;have hm3:Hid (MayAt w V3 w.heap.size h W.heap.size m A n c f3):=by rw [hV,hf3];exact hm2.out.set _
   have HF3:=Lib.hid hf3;clear hV hf3 c1 c2 c3 c4 c5 d0 d1 d2 d3;have c1:V3.cell? ⟨w.heap.size,1,none⟩=some (.int .u64 (m.epoch:Int)):=hm3.out.bg.cell 1;have c2:V3.cell? ⟨w.heap.size,2,none⟩=some (.int .u64 (m.current:Int)):=hm3.out.bg.cell 2;have c3:V3.cell? ⟨w.heap.size,3,none⟩=some (.int .i64 m.at_):=hm3.out.bg.cell 3;have c4:V3.cell? ⟨w.heap.size,4,none⟩=some (.int .i64 m.commit):=hm3.out.bg.cell 4;have c5:V3.cell? ⟨w.heap.size,5,none⟩=some (.slice A n c):=hm3.out.bg.cell 5;have d0:V3.cell? ⟨h,0,none⟩=some (.int .u64 ((hasK m.kind).1:Int)):=hm3.out.bh.cell 0;have d1:V3.cell? ⟨h,1,none⟩=some (.int .u64 ((hasK m.kind).2.1:Int)):=hm3.out.bh.cell 1;have d2:V3.cell? ⟨h,2,none⟩=some (.int .u64 ((hasK m.kind).2.2.1:Int)):=hm3.out.bh.cell 2;have d3:V3.cell? ⟨h,3,none⟩=some (.int .u64 ((hasK m.kind).2.2.2:Int)):=hm3.out.bh.cell 3;go_wp2_with fail;refine (aBf (u64 m.commit) (0) ((hasK m.kind).2.2.1) W.heap.size f3 V3 hm3.out.bq).mono ?_;rintro e V4 ⟨rfl,hV⟩;obtain ⟨f4,hf4⟩:∃f4,f4=(f3||outB (u64 m.commit) (0) ((hasK m.kind).2.2.1)):=⟨_,rfl⟩;have hm4:Hid (MayAt w V4 w.heap.size h W.heap.size m A n c f4):=by rw [hV,hf4];exact hm3.out.set _
   have HF4:=Lib.hid hf4;clear hV hf4 c1 c2 c3 c4 c5 d0 d1 d2 d3;have c1:V4.cell? ⟨w.heap.size,1,none⟩=some (.int .u64 (m.epoch:Int)):=hm4.out.bg.cell 1;have c2:V4.cell? ⟨w.heap.size,2,none⟩=some (.int .u64 (m.current:Int)):=hm4.out.bg.cell 2;have c3:V4.cell? ⟨w.heap.size,3,none⟩=some (.int .i64 m.at_):=hm4.out.bg.cell 3;have c4:V4.cell? ⟨w.heap.size,4,none⟩=some (.int .i64 m.commit):=hm4.out.bg.cell 4;have c5:V4.cell? ⟨w.heap.size,5,none⟩=some (.slice A n c):=hm4.out.bg.cell 5;have d0:V4.cell? ⟨h,0,none⟩=some (.int .u64 ((hasK m.kind).1:Int)):=hm4.out.bh.cell 0;have d1:V4.cell? ⟨h,1,none⟩=some (.int .u64 ((hasK m.kind).2.1:Int)):=hm4.out.bh.cell 1;have d2:V4.cell? ⟨h,2,none⟩=some (.int .u64 ((hasK m.kind).2.2.1:Int)):=hm4.out.bh.cell 2;have d3:V4.cell? ⟨h,3,none⟩=some (.int .u64 ((hasK m.kind).2.2.2:Int)):=hm4.out.bh.cell 3;go_wp2_with fail;refine (aBf (n) (0) ((hasK m.kind).2.2.2) W.heap.size f4 V4 hm4.out.bq).mono ?_;rintro e V5 ⟨rfl,hV⟩;obtain ⟨f5,hf5⟩:∃f5,f5=(f4||outB (n) (0) ((hasK m.kind).2.2.2)):=⟨_,rfl⟩;have hm5:Hid (MayAt w V5 w.heap.size h W.heap.size m A n c f5):=by rw [hV,hf5];exact hm4.out.set _
   have HF5:=Lib.hid hf5;clear hV hf5 c1 c2 c3 c4 c5 d0 d1 d2 d3;have c1:V5.cell? ⟨w.heap.size,1,none⟩=some (.int .u64 (m.epoch:Int)):=hm5.out.bg.cell 1;have c2:V5.cell? ⟨w.heap.size,2,none⟩=some (.int .u64 (m.current:Int)):=hm5.out.bg.cell 2;have c3:V5.cell? ⟨w.heap.size,3,none⟩=some (.int .i64 m.at_):=hm5.out.bg.cell 3;have c4:V5.cell? ⟨w.heap.size,4,none⟩=some (.int .i64 m.commit):=hm5.out.bg.cell 4;have c5:V5.cell? ⟨w.heap.size,5,none⟩=some (.slice A n c):=hm5.out.bg.cell 5;have d0:V5.cell? ⟨h,0,none⟩=some (.int .u64 ((hasK m.kind).1:Int)):=hm5.out.bh.cell 0;have d1:V5.cell? ⟨h,1,none⟩=some (.int .u64 ((hasK m.kind).2.1:Int)):=hm5.out.bh.cell 1;have d2:V5.cell? ⟨h,2,none⟩=some (.int .u64 ((hasK m.kind).2.2.1:Int)):=hm5.out.bh.cell 2;have d3:V5.cell? ⟨h,3,none⟩=some (.int .u64 ((hasK m.kind).2.2.2:Int)):=hm5.out.bh.cell 3;go_wp2_with fail;have HFM:Hid (f5=foundM m):=by
    show _=_;rw [HF5.out,HF4.out,HF3.out,HF2.out,HF1.out,HMN.out,←HN.out];rfl
   clear c1 c2 c3 c4 c5 d0 d1 d2 d3;go_loopw [57] (fun i wr=>RelMay w m w.heap.size h W.heap.size A n c i wr) (fun i _=>n - (intOf i).toNat)
   case atStart=>exact ⟨0,f5,Nat.zero_le _,rfl,hm5.out,by rw [HFM.out];simp⟩
   case round=>
    obtain ⟨k,f,hk,rfl,hma,hff⟩:=hrel;have HA:=Lib.hid hma;have HFF:=Lib.hid hff;clear hma hff;by_cases hlt:k<n
    ·have hkl:k<m.lines.length:=by have:=HN.out;omega
     obtain ⟨x,hx⟩:∃x,m.lines[k]? =some x:=⟨_,List.getElem?_eq_getElem hkl⟩;obtain ⟨b,o,B,mm,c2,hA,-,he,hc,hmc,hr,-⟩:=HA.out.ln.at_ k x hx;subst hA;have HX:=Lib.hid hx;have HR:=Lib.hid hr;have hxb:mm≤140737488355328:=by
      have:=(HOK.out.each x (List.mem_of_getElem? hx)).2;have:=hr.len;omega
     have e4:IntKind.u64.wrap (mm:Int)=(mm:Int):=by rw [IntKind.wrap_u64];omega
     have hma2:Hid (MayAt w (wr.alloc (.cells #[.int .u64 (x.epoch:Int),.slice B mm c2] 65)) w.heap.size h W.heap.size m (some ⟨b,o,none⟩) n c f):=HA.out.below ((Below.refl _ _).alloc (Nat.le_refl _) _);have hbl:Hid (Bk (wr.alloc (.cells #[.int .u64 (x.epoch:Int),.slice B mm c2] 65)) wr.heap.size 65 #[.int .u64 (x.epoch:Int),.slice B mm c2]):=Bk.new _ _ _;have HNE:Hid (wr.heap.size≠W.heap.size):=by have:=HA.out.bq.lt;show _≠_;omega
     clear hx hr;go_wp2_with fail;refine (aBf x.epoch 1 top W.heap.size f _ hma2.out.bq).mono ?_;rintro e U1 ⟨rfl,hU⟩;obtain ⟨g1,hg1⟩:∃g1,g1=(f||outB x.epoch 1 top):=⟨_,rfl⟩;have hn1:Hid (MayAt w U1 w.heap.size h W.heap.size m (some ⟨b,o,none⟩) n c g1):=by rw [hU,hg1];exact hma2.out.set _
     have hbl1:Hid (Bk U1 wr.heap.size 65 #[.int .u64 (x.epoch:Int),.slice B mm c2]):=by
      rw [hU];exact hbl.out.kept (Below.heap_setCell _ ⟨W.heap.size,0,none⟩ _ wr.heap.size HNE.out)
     have HG1:=Lib.hid hg1;clear hU hg1 he hc;have l1:U1.cell? ⟨wr.heap.size,1,none⟩=some (.slice B mm c2):=hbl1.out.cell 1;go_wp2_with fail;refine (aBf mm 1 4096 W.heap.size g1 U1 hn1.out.bq).mono ?_;rintro e U2 ⟨rfl,hU⟩;obtain ⟨g2,hg2⟩:∃g2,g2=(g1||outB mm 1 4096):=⟨_,rfl⟩;have hn2:Hid (MayAt w U2 w.heap.size h W.heap.size m (some ⟨b,o,none⟩) n c g2):=by rw [hU,hg2];exact hn1.out.set _
     have HG2:=Lib.hid hg2;clear hU hg2 l1;go_wp2_with fail;refine ⟨⟨k+1,g2,by omega,rfl,hn2.out,?_⟩,by simp [intOf];omega⟩;exact aQr HX.out HFF.out HG1.out (by rw [HR.out.len];exact HG2.out)
    ·obtain rfl:k=n:=by omega
     have hbq:wr.cell? ⟨W.heap.size,0,none⟩=some (.bool f):=HA.out.bq.cell 0;have HBE:=Lib.hid HA.out.be;have hff:f=(foundM m||m.lines.any foundL):=by
      have:=HFF.out;rwa [List.take_of_length_le (by have:=HN.out;omega)] at this
     have hres:Hid ((!f)=decide m.may):=by
      show _=_;rw [hff,aKo HOK.out,Bool.not_not]
     clear hff;go_wp2_with fail;go_ret;exact ⟨congrArg (fun b=>Ending.returned (.bool b)) hres.out,HBE.out⟩
end Go.Proofs.YtgjmbbkcgillcaaGreat.Zm
