/- Lemmas, part 3: ZmKinds, ZmMay, Phase, PhaseLine, PhaseG, PhaseFree -/
import Derived.Test.YtgjmbbkcgillcaaGreatPart2
import Derived.Maps.Own
import Derived.Maps.Keyed
import Derived.Maps.Views
import Derived.Deep.RegionHeld3
import Derived.Orders
import Derived.RegionTactic
import Derived.KernelRfl
import Derived.Below
import Derived.WalkKit
set_option maxHeartbeats 16000000
namespace Go.Proofs.YtgjmbbkcgillcaaGreat.Zm
open Go.RowKit Sto
theorem aAy:Tryz.prog.underlying 5=some (.int .u8):=by kernel_rfl
theorem aDp:Tryz.prog.underlying 202=some (.map 5 200):=by kernel_rfl
def bdV (b:Nat×Nat×Nat×Nat):Value:=.agg #[.int .u64 (b.1:Int),.int .u64 (b.2.1:Int),.int .u64 (b.2.2.1:Int),.int .u64 (b.2.2.2:Int)]
theorem aPj (w:World):(zeroValue 200).run Tryz.prog w=.ok (bdV (0,0,0,0)) w:=by kernel_rfl
abbrev Bd:=Int×Int×Int×Int
def fB (v:Value):Option (DataW Bd×List MemPlace):=match v with
 |.agg cs=>match cs.toList with
  |[.int .u64 a,.int .u64 b,.int .u64 c,.int .u64 d]=>some (.held (a,b,c,d),[])
  |_=>none
 |_=>none
theorem bCw {v:Value} {b:Nat×Nat×Nat×Nat} {ps:List MemPlace} (h:fB v=some (.held ((b.1:Int),(b.2.1:Int),(b.2.2.1:Int),(b.2.2.2:Int)),ps)):v=bdV b:=by
 unfold fB at h;split at h
 ·next cs=>
  split at h
  ·next e=>
   simp only [Option.some.injEq,Prod.mk.injEq,DataW.held.injEq] at h;obtain ⟨⟨rfl,rfl,rfl,rfl⟩,-⟩:=h;unfold bdV
   congr 1
   rw [←Array.toList_inj];exact e
  ·cases h
 ·cases h
theorem aAs (k:Int) (hw:(Lit.int .u8 k).wf=true):keyOf Tryz.prog 5 (.int .u8 k)=some (.int .u8 k):=Go.Maps.keyOf_int_mk aAy hw
def hd (a b c d:Int):DataW Bd:=.held (a,b,c,d)
def kindsD:DataW Bd:=(((((((DataW.map []:DataW Bd)).put (.int .u8 1) (hd 0 0 0 0)).put (.int .u8 2) (hd 281474976710656 0 0 256)).put (.int .u8 3) (hd 0 0 0 0)).put (.int .u8 4) (hd 0 0 0 256)).put (.int .u8 5) (hd 0 256 256 256)).put (.int .u8 6) (hd 0 256 0 0)
def hasK (k:Nat):Nat×Nat×Nat×Nat:=if k=2 then (top,0,0,256) else if k=4 then (0,0,0,256) else if k=5 then (0,256,256,256) else if k=6 then (0,256,0,0) else (0,0,0,0)
def isK (k:Nat):Bool:=decide (1≤k)&&decide (k≤6)
theorem aR1 (k:Nat) (h1:1≤k) (h6:k≤6) (z:DataW Bd):kindsD.atKey (.int .u8 (k:Int)) z=.held (((hasK k).1:Int),((hasK k).2.1:Int),((hasK k).2.2.1:Int),((hasK k).2.2.2:Int)):=by
 obtain rfl|rfl|rfl|rfl|rfl|rfl:k=1∨k=2∨k=3∨k=4∨k=5∨k=6:=by omega
 all_goals kernel_rfl
theorem aT2 (k:Nat) (h:¬(1≤k∧k≤6)) (z:DataW Bd):kindsD.atKey (.int .u8 (k:Int)) z=z:=by
 have hne:∀j:Int,1≤j→j≤6→(Lit.int .u8 (k:Int))≠.int .u8 j:=by
  intro j h1 h2 e;injection e with _ e;omega
 unfold kindsD;rw [Go.Maps.atKey_put_other (hne 6 (by omega) (by omega)),Go.Maps.atKey_put_other (hne 5 (by omega) (by omega)),Go.Maps.atKey_put_other (hne 4 (by omega) (by omega)),Go.Maps.atKey_put_other (hne 3 (by omega) (by omega)),Go.Maps.atKey_put_other (hne 2 (by omega) (by omega)),Go.Maps.atKey_put_other (hne 1 (by omega) (by omega))];rfl
set_option maxRecDepth 100000 in
theorem aU3 (w:World):Calls Tryz.prog 136 #[] w fun e w'=>∃b,e=.returned (.map (some b))∧w.heap.size≤b∧Below w.heap.size w w'∧w'.ownsMap Tryz.prog 5 fB b 6 kindsD:=by
 have hmm:=@run_makeMap Tryz.prog;obtain ⟨w1,hr1,ho1,hg1⟩:=(World.ownsMap_made w Tryz.prog 5 fB).update (Go.Maps.int_keyed aAy) aDp (by unfold maxLen;omega) (aAs 1 (by decide)) (val:=.agg #[.int .u64 0,.int .u64 0,.int .u64 0,.int .u64 0]) (d:=hd 0 0 0 0) (ps:=[]) rfl;obtain ⟨w2,hr2,ho2,hg2⟩:=ho1.update (Go.Maps.int_keyed aAy) aDp (by unfold maxLen;omega) (aAs 2 (by decide)) (val:=.agg #[.int .u64 281474976710656,.int .u64 0,.int .u64 0,.int .u64 256]) (d:=hd 281474976710656 0 0 256) (ps:=[]) rfl;obtain ⟨w3,hr3,ho3,hg3⟩:=ho2.update (Go.Maps.int_keyed aAy) aDp (by unfold maxLen;omega) (aAs 3 (by decide)) (val:=.agg #[.int .u64 0,.int .u64 0,.int .u64 0,.int .u64 0]) (d:=hd 0 0 0 0) (ps:=[]) rfl;obtain ⟨w4,hr4,ho4,hg4⟩:=ho3.update (Go.Maps.int_keyed aAy) aDp (by unfold maxLen;omega) (aAs 4 (by decide)) (val:=.agg #[.int .u64 0,.int .u64 0,.int .u64 0,.int .u64 256]) (d:=hd 0 0 0 256) (ps:=[]) rfl;obtain ⟨w5,hr5,ho5,hg5⟩:=ho4.update (Go.Maps.int_keyed aAy) aDp (by unfold maxLen;omega) (aAs 5 (by decide)) (val:=.agg #[.int .u64 0,.int .u64 256,.int .u64 256,.int .u64 256]) (d:=hd 0 256 256 256) (ps:=[]) rfl;obtain ⟨w6,hr6,ho6,hg6⟩:=ho5.update (Go.Maps.int_keyed aAy) aDp (by unfold maxLen;omega) (aAs 6 (by decide)) (val:=.agg #[.int .u64 0,.int .u64 256,.int .u64 0,.int .u64 0]) (d:=hd 0 256 0 0) (ps:=[]) rfl;have HO:=Lib.hid ho6;have hB:Below w.heap.size w (w.alloc (.map #[] 0)):=(Below.refl _ _).alloc (Nat.le_refl _) _;have hb1:=hB.grown hg1 hB.size (fun k e=>by cases e;exact Nat.le_refl _);have hb2:=hb1.grown hg2 hb1.size (fun k e=>by cases e;exact Nat.le_refl _);have hb3:=hb2.grown hg3 hb2.size (fun k e=>by cases e;exact Nat.le_refl _);have hb4:=hb3.grown hg4 hb3.size (fun k e=>by cases e;exact Nat.le_refl _);have hb5:=hb4.grown hg5 hb4.size (fun k e=>by cases e;exact Nat.le_refl _);have hb6:=hb5.grown hg6 hb5.size (fun k e=>by cases e;exact Nat.le_refl _);have HB:=Lib.hid hb6;clear ho1 hg1 hb1 ho2 hg2 hb2 ho3 hg3 hb3 ho4 hg4 hb4 ho5 hg5 hb5 ho6 hg6 hb6 hB;go_enter Tryz.func136,Tryz.ntmps136
 go_wp2_with fail;go_ret;exact ⟨_,rfl,Nat.le_refl _,HB.out,HO.out⟩
set_option maxRecDepth 100000 in
theorem aT1 {b:Nat} {w:World} (h:w.ownsMap Tryz.prog 5 fB b 6 kindsD) (k:Nat) (hk:k<256):
  (Instr.lookup 202 (.map (some b)) (.int .u8 (k:Int)) true).run Tryz.prog w=.ok (.tuple #[bdV (hasK k),.bool (isK k)]) w:=by
 have hkey:=aAs (k:Int) (by simp [Lit.wf,IntKind.min,IntKind.max,IntKind.signed,IntKind.bits];omega);obtain ⟨es,clock,hb,Fi,_,hD⟩:=h;rcases Maps.fit_look true (Go.Maps.int_keyed aAy) aDp (aPj w) hb Fi hkey with ⟨hrun,_,hat⟩|⟨e0,y,_,_,hrun,hRv,hat,_⟩
 ·by_cases hK:1≤k∧k≤6
  ·have:=hat .nil;rw [←hD,aR1 k hK.1 hK.2] at this;cases this
  ·have h1:hasK k=(0,0,0,0):=by unfold hasK;rw [if_neg (by omega),if_neg (by omega),if_neg (by omega),if_neg (by omega)]
   have h2:isK k=false:=by unfold isK;simp;omega
   rw [h1,h2];exact hrun
 ·by_cases hK:1≤k∧k≤6
  ·have h2:=hat .nil;rw [←hD,aR1 k hK.1 hK.2] at h2;obtain ⟨y1,y2⟩:=y;have h3:_=y1:=h2;rw [←h3] at hRv;have hv:=bCw hRv;rw [hv] at hrun;have h2:isK k=true:=by unfold isK;simp;omega
   rw [h2];exact hrun
  ·have e1:=hat (hd 0 0 0 0);have e2:=hat (hd 1 0 0 0);rw [←hD,aT2 k hK] at e1 e2;rw [←e2] at e1;injection e1 with e1;simp at e1
end Go.Proofs.YtgjmbbkcgillcaaGreat.Zm
namespace Go.Proofs.YtgjmbbkcgillcaaGreat.Zm
open Go.RowKit Sto
def outB (v a b:Nat):Bool:=decide (v<a)||decide (b<v)
theorem aBf (v a b g:Nat) (f:Bool) (w:World) (h:Bk w g 4 #[.bool f]):
  Calls Tryz.prog 137 #[.int .u64 (v:Int),.int .u64 (a:Int),.int .u64 (b:Int),.pointer (some ⟨g,0,none⟩)] w fun e w'=>e=.returned (.tuple #[])∧w'=w.setCell ⟨g,0,none⟩ (.bool (f||outB v a b)):=by
 have c0:=h.cell 0;have f0:=h.frozen 0;clear h;simp at c0;unfold outB;cases f with
 |true=>
  simp only [Bool.true_or];go_enter Tryz.func137,Tryz.ntmps137
  go_wp2_with fail
  go_end0
  exact ⟨rfl,rfl⟩
 |false=>
  by_cases h1:v<a
  ·have e1:decide (v<a)=true:=by simp [h1]
   rw [e1];simp only [Bool.true_or,Bool.false_or];have hI:(v:Int)<(a:Int):=by omega
   clear h1 e1;go_enter Tryz.func137,Tryz.ntmps137
   go_wp2_with fail
   go_end0
   exact ⟨rfl,rfl⟩
  ·have e1:decide (v<a)=false:=by simp [h1]
   rw [e1];have hI:¬(v:Int)<(a:Int):=by omega
   clear h1 e1;by_cases h2:b<v
   ·have e2:decide (b<v)=true:=by simp [h2]
    rw [e2];simp only [Bool.or_true];have hJ:(b:Int)<(v:Int):=by omega
    clear h2 e2;go_enter Tryz.func137,Tryz.ntmps137
    go_wp2_with fail
    go_end0
    exact ⟨rfl,rfl⟩
   ·have e2:decide (b<v)=false:=by simp [h2]
    rw [e2];simp only [Bool.or_false];have hJ:¬(b:Int)<(v:Int):=by omega
    clear h2 e2;go_enter Tryz.func137,Tryz.ntmps137
    go_wp2_with fail
    go_end0
    exact ⟨rfl,rfl⟩
def foundM (m:Mg):Bool:=((((!isK m.kind||outB m.epoch 1 top)||outB m.current 0 (min m.epoch (hasK m.kind).1))||outB (u64 m.at_) 0 (hasK m.kind).2.1)||outB (u64 m.commit) 0 (hasK m.kind).2.2.1)||outB m.lines.length 0 (hasK m.kind).2.2.2
def foundL (x:Ln):Bool:=outB x.epoch 1 top||outB x.bytes.length 1 4096
theorem aSr (x:Ln):foundL x= !lineB x:=by
 unfold foundL outB lineB;rw [Bool.eq_iff_iff];simp only [Bool.or_eq_true,decide_eq_true_eq,Bool.not_eq_true',Bool.and_eq_false_imp,Bool.and_eq_true,decide_eq_false_iff_not];omega
theorem aKo {m:Mg} (h:m.Ok):(foundM m||m.lines.any foundL)= !decide m.may:=by
 have h1:(m.lines.any foundL=true)↔¬∀x∈m.lines,lineB x=true:=by
  rw [List.any_eq_true];simp only [aSr,Bool.not_eq_true',Classical.not_forall,Bool.not_eq_true];exact ⟨fun ⟨x,a,b⟩=>⟨x,a,b⟩,fun ⟨x,a,b⟩=>⟨x,a,b⟩⟩
 have ha:=aRf m.at_;have hc:=aRf m.commit;have ea:(u64 m.at_:Int)=if m.at_<0 then m.at_+18446744073709551616 else m.at_:=by
  have:=h.at0;have:=h.at1;unfold u64;split<;>omega
 have ec:(u64 m.commit:Int)=if m.commit<0 then m.commit+18446744073709551616 else m.commit:=by
  have:=h.commit0;have:=h.commit1;unfold u64;split<;>omega
 have a0:=h.at0;have a1:=h.at1;have c0:=h.commit0;have c1:=h.commit1;rw [Bool.eq_iff_iff,Bool.or_eq_true,h1,Bool.not_eq_true',decide_eq_false_iff_not];by_cases hl:∀x∈m.lines,lineB x=true
 ·have hl':(¬∀x∈m.lines,lineB x=true)↔False:=⟨fun q=>q hl,False.elim⟩;have hl2:(∀x∈m.lines,lineB x=true)↔True:=⟨fun _=>trivial,fun _=>hl⟩;rw [hl',or_false];generalize hu:u64 m.at_=ua at*;generalize hv:u64 m.commit=uc at*;have e:m.may↔(1≤m.kind∧m.kind≤6∧1≤m.epoch∧m.epoch≤top∧m.current≤m.epoch∧0≤m.at_∧m.at_≤256∧0≤m.commit∧m.commit≤256∧m.lines.length≤256∧(m.kind=2∨m.current=0)∧(m.kind=5∨m.commit=0)∧(m.kind=5∨m.kind=6∨m.at_=0)∧(m.kind=2∨m.kind=4∨m.kind=5∨m.lines.length=0)):=by
   unfold Mg.may;rw [hl2];simp only [true_and]
  rw [e];unfold foundM outB isK hasK;rw [hu,hv];generalize m.lines.length=nl at*;generalize m.kind=k at*;generalize m.epoch=ep at*;generalize m.current=cu at*;generalize m.at_=at_ at*;generalize m.commit=co at*;clear hu hv e hl hl' hl2 h1 h;unfold top;by_cases k2:k=2
  ·subst k2;simp;split at ea<;>split at ec<;>omega
  ·by_cases k4:k=4
   ·subst k4;simp;split at ea<;>split at ec<;>omega
   ·by_cases k5:k=5
    ·subst k5;simp;split at ea<;>split at ec<;>omega
    ·by_cases k6:k=6
     ·subst k6;simp;split at ea<;>split at ec<;>omega
     ·simp [k2,k4,k5,k6];split at ea<;>split at ec<;>omega
 ·exact ⟨fun _ hm=>hl hm.2.2.2.2.2.2.2.2.2.2.1,fun _=>.inr hl⟩
end Go.Proofs.YtgjmbbkcgillcaaGreat.Zm
namespace Go.Proofs.YtgjmbbkcgillcaaGreat.Phase
section
variable {P:Program} {ops:Array Oper} {md:Region.Mode} {Q:Exit→Act→World→Prop}
def okB (ops:Array Oper) (n:Nat):Bool:=
 (List.range ops.size).all fun i=>match ops[i]? with
  |none=>false
  |some o=>o.guard.isNone&&((o.after.all fun e=>decide (e.on<i))&&(match o.dst with
   |none=>true
   |some d=>decide (d<n)&&(List.range ops.size).all fun k=>k==i||match ops[k]? with
    |none=>true
    |some p=>p.dst != some d))
theorem aB2 {n:Nat} (h:okB ops n=true) {i:Nat} {o:Oper} (hi:ops[i]? =some o):
  o.guard=none∧(∀e∈o.after,e.on<i)∧∀d,o.dst=some d→d<n∧∀k p,ops[k]? =some p→p.dst=some d→k=i:=by
 have hlt:i<ops.size:=(Array.getElem?_eq_some_iff.1 hi).1;have h1:=List.all_eq_true.1 h i (List.mem_range.2 hlt);simp only [hi,Bool.and_eq_true] at h1;obtain ⟨h2,h3,h4⟩:=h1;refine ⟨by simpa using h2,fun e he=>of_decide_eq_true (Array.all_eq_true_iff_forall_mem.1 h3 e he),fun d hd=>?_⟩;rw [hd] at h4;simp only [Bool.and_eq_true] at h4;refine ⟨of_decide_eq_true h4.1,fun k p hk hp=>?_⟩;have hkl:k<ops.size:=(Array.getElem?_eq_some_iff.1 hk).1;have h5:=List.all_eq_true.1 h4.2 k (List.mem_range.2 hkl);simp only [hk,hp,Bool.or_eq_true,beq_iff_eq] at h5;rcases h5 with h5|h5
 ·exact h5
 ·simp at h5
structure Fits (ops:Array Oper) (v:Nat→Value) (a0:Act) (listed:Array Bool) (a:Act):Prop where
 defers:a.defers=a0.defers
 size:a.tmps.size=a0.tmps.size
 yes:∀k o d,ops[k]? =some o→o.dst=some d→listed.getD k false=true→a.tmps.getD d undef=v k
 no:∀d,(∀k o,ops[k]? =some o→o.dst=some d→listed.getD k false=false)→a.tmps.getD d undef=a0.tmps.getD d undef
theorem aAf (n k:Nat):(Array.replicate n false).getD k false=false:=by
 by_cases h:k<n<;>simp [h]
theorem Fits.start (v:Nat→Value) (a0:Act):Fits ops v a0 (Array.replicate ops.size false) a0:=
 ⟨rfl,rfl,(fun k o d _ _ h=>by rw [aAf] at h;cases h),fun _ _=>rfl⟩
theorem aGa (a:Act) (d:Nat) (v:Value) (e:Nat) (h:d<a.tmps.size):(a.put (some d) v).tmps.getD e undef=if e=d then v else a.tmps.getD e undef:=by
 unfold Act.put;by_cases he:e=d
 ·subst he;simp [h]
 ·rw [if_neg he];simp only [Array.getD_eq_getD_getElem?];rw [Array.getElem?_setIfInBounds_ne (fun h=>he h.symm)]
theorem aAn (l:Array Bool) (i k:Nat) (h:i<l.size):(l.setIfInBounds i true).getD k false=if k=i then true else l.getD k false:=by
 by_cases he:k=i
 ·subst he;simp [h]
 ·rw [if_neg he];simp only [Array.getD_eq_getD_getElem?];rw [Array.getElem?_setIfInBounds_ne (fun h=>he h.symm)]
theorem Fits.put {v:Nat→Value} {a0 a:Act} {listed:Array Bool} {i:Nat} {o:Oper} (hok:okB ops a0.tmps.size=true) (hi:ops[i]? =some o) (hl:listed.size=ops.size) (h:Fits ops v a0 listed a):
  Fits ops v a0 (listed.setIfInBounds i true) (a.put o.dst (v i)):=by
 have hlt:i<listed.size:=by rw [hl];exact (Array.getElem?_eq_some_iff.1 hi).1
 obtain ⟨_,_,hd⟩:=aB2 hok hi;cases hdst:o.dst with
 |none=>
  refine ⟨h.defers,h.size,fun k p d hk hp hlk=>?_,fun d hn=>?_⟩
  ·rw [aAn _ _ _ hlt] at hlk;by_cases hki:k=i
   ·subst hki;rw [hi] at hk;injection hk with hk;subst hk;rw [hdst] at hp;cases hp
   ·rw [if_neg hki] at hlk;exact h.yes k p d hk hp hlk
  ·refine h.no d fun k p hk hp=>?_;have:=hn k p hk hp;rw [aAn _ _ _ hlt] at this;by_cases hki:k=i
   ·subst hki;rw [if_pos rfl] at this;cases this
   ·rwa [if_neg hki] at this
 |some d0=>
  obtain ⟨hd1,hd2⟩:=hd d0 hdst;have hd1':d0<a.tmps.size:=by rw [h.size];exact hd1
  refine ⟨h.defers,by unfold Act.put;simp [h.size],fun k p d hk hp hlk=>?_,fun d hn=>?_⟩
  ·rw [aGa _ _ _ _ hd1'];rw [aAn _ _ _ hlt] at hlk;by_cases hdd:d=d0
   ·subst hdd;rw [if_pos rfl,hd2 k p hk hp]
   ·rw [if_neg hdd];by_cases hki:k=i
    ·subst hki;rw [hi] at hk;injection hk with hk;subst hk;rw [hdst] at hp;injection hp with hp;exact absurd hp.symm hdd
    ·rw [if_neg hki] at hlk;exact h.yes k p d hk hp hlk
  ·rw [aGa _ _ _ _ hd1'];by_cases hdd:d=d0
   ·subst hdd;have:=hn i o hi hdst;rw [aAn _ _ _ hlt,if_pos rfl] at this;cases this
   ·rw [if_neg hdd];refine h.no d fun k p hk hp=>?_;have:=hn k p hk hp;rw [aAn _ _ _ hlt] at this;by_cases hki:k=i
    ·subst hki;rw [if_pos rfl] at this;cases this
    ·rwa [if_neg hki] at this
theorem Fits.same {v:Nat→Value} {a0 a b:Act} {la lb:Array Bool} (ha:Fits ops v a0 la a) (hb:Fits ops v a0 lb b) (h1:∀k,k<ops.size→la.getD k false=true) (h2:∀k,k<ops.size→lb.getD k false=true):a=b:=by
 have hs:a.tmps.size=b.tmps.size:=by rw [ha.size,hb.size]
 have ht:a.tmps=b.tmps:=by
  refine Array.ext hs fun d hd1 hd2=>?_;have key:a.tmps.getD d undef=b.tmps.getD d undef:=by
   by_cases hex:∃(k:Nat) (o:Oper),ops[k]? =some o∧o.dst=some d
   ·obtain ⟨k,o,hk,ho⟩:=hex;have hkl:=(Array.getElem?_eq_some_iff.1 hk).1;rw [ha.yes k o d hk ho (h1 k hkl),hb.yes k o d hk ho (h2 k hkl)]
   ·rw [ha.no d fun k o hk ho=>absurd ⟨k,o,hk,ho⟩ hex,hb.no d fun k o hk ho=>absurd ⟨k,o,hk,ho⟩ hex]
  simpa [hd1,hd2] using key
 have hdf:a.defers=b.defers:=ha.defers.trans hb.defers.symm;cases a
 cases b
 simp at ht hdf;rw [ht,hdf]
def final (ops:Array Oper) (v:Nat→Value):Nat→Act→Act
 |0,a=>a
 |n+1,a=>(final ops v n a).put ((ops[n]?).bind fun o:Oper=>o.dst) (v n)
theorem aDj (v:Nat→Value) (a0:Act) (hok:okB ops a0.tmps.size=true):∀n,n≤ops.size→∃l:Array Bool,l.size=ops.size∧(∀k,k<n→l.getD k false=true)∧Fits ops v a0 l (final ops v n a0)
 |0,_=>⟨_,by simp,fun k hk=>by omega,Fits.start v a0⟩
 |n+1,hn=>by
  obtain ⟨l,h1,h2,h3⟩:=aDj v a0 hok n (by omega);have hi:ops[n]? =some ops[n]:=Array.getElem?_eq_getElem (by omega);have h4:=Fits.put hok hi h1 h3;refine ⟨l.setIfInBounds n true,by simp [h1],fun k hk=>?_,?_⟩
  ·rw [aAn _ _ _ (by omega)];by_cases hkn:k=n
   ·rw [if_pos hkn]
   ·rw [if_neg hkn];exact h2 k (by omega)
  ·show Fits ops v a0 _ ((final ops v n a0).put ((ops[n]?).bind fun o:Oper=>o.dst) (v n));rw [hi];exact h4
def left (l:Array Bool):Nat:=l.toList.countP (·==false)
theorem aMh {l:Array Bool} {i:Nat} (hi:i<l.size) (h:l.getD i true=false):left (l.setIfInBounds i true)+1=left l:=by
 unfold left;have h0:l[i]=false:=by simpa [hi] using h
 have h1:i<l.toList.length:=by simpa using hi
 have h2:l.toList[i]=false:=by simpa using h0
 have h3:0<l.toList.countP (·==false):=List.countP_pos_iff.2 ⟨false,by rw [←h2];exact List.getElem_mem h1,rfl⟩;rw [Array.toList_setIfInBounds,List.countP_set h1,h2,if_pos (show (false==false)=true from rfl),if_neg (show ¬(true==false)=true by decide)];omega
theorem aJv {l:Array Bool} (h:left l=0) {k:Nat} (hk:k<l.size):l.getD k false=true:=by
 unfold left at h;have h1:=List.countP_eq_zero.1 h;have h2:=h1 l[k] (by simp);simpa [hk] using h2
theorem aMn (n:Nat):left (Array.replicate n false)=n:=by
 unfold left;rw [Array.toList_replicate,List.countP_replicate];rfl
theorem aE1 {v:Nat→Value} {a0:Act} {C:Array Bool→World→Prop} (hok:okB ops a0.tmps.size=true)
  (hstep:∀(i:Nat) (o:Oper),ops[i]? =some o→∀(listed:Array Bool) (a:Act) (W:World),listed.getD i true=false→(∀e∈o.after,Region.binds md e=true→listed.getD e.on false=true)→Fits ops v a0 listed a→C listed W→
   ∀K:Act→World→Prop,(∀W',C (listed.setIfInBounds i true) W'→K (a.put o.dst (v i)) W')→o.wp P a W K Q)
  (hend:∀(listed:Array Bool) (W:World),(∀k,k<ops.size→listed.getD k false=true)→C listed W→Q .normal (final ops v ops.size a0) W):
  ∀(fuel:Nat) (listed:Array Bool) (a:Act) (W:World),listed.size=ops.size→left listed=fuel→Fits ops v a0 listed a→C listed W→wpAny P md ops Q fuel listed a W:=by
 have hall:∀(listed:Array Bool) (a:Act) (W:World),listed.size=ops.size→Fits ops v a0 listed a→C listed W→(∀k,k<ops.size→listed.getD k false=true)→Q .normal a W:=by
  intro listed a W hl hf hc hy;obtain ⟨l,h1,h2,h3⟩:=aDj v a0 hok ops.size (Nat.le_refl _);rw [Fits.same hf h3 hy h2];exact hend listed W hy hc
 have hready:∀(listed:Array Bool),listed.size=ops.size→Region.ready md ops listed=[]→∀k,k<ops.size→listed.getD k false=true:=by
  intro listed hl hr k
  induction k using Nat.strongRecOn with
  |_ k ih=>
   intro hk;have hi:ops[k]? =some ops[k]:=Array.getElem?_eq_getElem hk;obtain ⟨_,ha,_⟩:=aB2 hok hi;cases hb:listed.getD k false with
   |true=>rfl
   |false=>
    have:k∈Region.ready md ops listed:=by
     unfold Region.ready;refine List.mem_filter.2 ⟨List.mem_range.2 hk,?_⟩;have hkl:k<listed.size:=by omega
     have h0:listed.getD k true=false:=by
      have:listed[k]=false:=by simpa [hkl] using hb
      simp [hkl,this]
     rw [h0,hi];simp only [Bool.not_false,Bool.true_and,Option.map_some,Option.getD_some];refine Array.all_eq_true_iff_forall_mem.2 fun e he=>?_;rw [ih e.on (ha e he) (Nat.lt_trans (ha e he) hk),Bool.or_true]
    rw [hr] at this;cases this
 intro fuel
 induction fuel with
 |zero=>
  intro listed a W hl hz hf hc;have hy:∀k,k<ops.size→listed.getD k false=true:=fun k hk=>aJv hz (by omega);refine ⟨?_,hall listed a W hl hf hc hy⟩;unfold Region.ready;refine List.filter_eq_nil_iff.2 fun i hi=>?_;have hil:=List.mem_range.1 hi;have hil':i<listed.size:=by omega
  have h1:listed[i]=true:=by simpa [hil'] using hy i hil
  simp [hil',h1]
 |succ fuel ih=>
  intro listed a W hl hz hf hc;refine ⟨fun hr=>hall listed a W hl hf hc (hready listed hl hr),fun i hi=>?_⟩;unfold Region.ready at hi;obtain ⟨hi1,hi2⟩:=List.mem_filter.1 hi;have hil:=List.mem_range.1 hi1;have ho:ops[i]? =some ops[i]:=Array.getElem?_eq_getElem hil;rw [ho] at hi2;simp only [Bool.and_eq_true,Option.map_some,Option.getD_some,Bool.not_eq_true'] at hi2;obtain ⟨hun,haf⟩:=hi2;have hdeps:∀e∈ops[i].after,Region.binds md e=true→listed.getD e.on false=true:=fun e he hb=>by
   have:=Array.all_eq_true_iff_forall_mem.1 haf e he;rwa [hb,Bool.not_true,Bool.false_or] at this
  have hg:=(aB2 hok ho).1;refine wpOp_step ho fun K hK=>?_;have hw:Region.wanted ops[i] (yielded ops a.tmps)=true:=by simp [Region.wanted,hg]
  rw [if_pos hw];refine hstep i ops[i] ho listed a W hun hdeps hf hc K fun W' hc'=>hK _ _ ?_;exact ih (listed.setIfInBounds i true) (a.put ops[i].dst (v i)) W' (by simp [hl]) (by have:=aMh (l:=listed) (i:=i) (by omega) hun;omega) (Fits.put hok ho hl hf) hc'
theorem aA8 {v:Nat→Value} {a0:Act} {C:Array Bool→World→Prop} {id:Nat} {w:World} (hm:P.follows .mixedOrders=true) (hok:okB ops a0.tmps.size=true)
  (hC:C (Array.replicate ops.size false) {w with drawn:=w.drawn+1})
  (hstep:∀(i:Nat) (o:Oper),ops[i]? =some o→∀(listed:Array Bool) (a:Act) (W:World),listed.getD i true=false→(∀e∈o.after,Region.binds .any e=true→listed.getD e.on false=true)→Fits ops v a0 listed a→C listed W→
   ∀K:Act→World→Prop,(∀W',C (listed.setIfInBounds i true) W'→K (a.put o.dst (v i)) W')→o.wp P a W K Q)
  (hend:∀(listed:Array Bool) (W:World),(∀k,k<ops.size→listed.getD k false=true)→C listed W→Q .normal (final ops v ops.size a0) W):
  (Code.region id ops true).wp P Q a0 w:=
 wp_region_any hm (aE1 hok hstep hend ops.size _ a0 _ (by simp) (aMn ops.size) (Fits.start v a0) hC)
end
end Go.Proofs.YtgjmbbkcgillcaaGreat.Phase
namespace Go.Proofs.YtgjmbbkcgillcaaGreat.Phase
def reachB (l:List Oper):Nat→Nat→Nat→Bool
 |0,_,_=>false
 |f+1,x,i=>match l[x]? with
  |some o=>o.after.any fun e=>Region.binds .any e&&(e.on==i||reachB l f e.on i)
  |none=>false
def Closed (l:List Oper) (listed:Array Bool):Prop:=∀x o,l[x]? =some o→listed.getD x false=true→∀e∈o.after,Region.binds .any e=true→listed.getD e.on false=true
theorem aAu {α:Type} {p:α→Bool} {xs:Array α} (h:xs.any p=true):∃a,a∈xs∧p a=true:=by
 obtain ⟨i,hi,h⟩:=Array.any_eq_true.1 h;exact ⟨xs[i],Array.getElem_mem hi,h⟩
theorem aA4 {l:List Oper} {listed:Array Bool} (hc:Closed l listed):∀(f x i:Nat),reachB l f x i=true→(∀o,l[x]? =some o→∀e∈o.after,Region.binds .any e=true→listed.getD e.on false=true)→listed.getD i false=true
 |0,_,_,h,_=>by cases h
 |f+1,x,i,h,hx=>by
  unfold reachB at h;cases ho:l[x]? with
  |none=>rw [ho] at h;cases h
  |some o=>
   rw [ho] at h;obtain ⟨e,he,hh⟩:=aAu h;rw [Bool.and_eq_true,Bool.or_eq_true] at hh;have h1:=hx o ho e he hh.1;rcases hh.2 with h2|h2
   ·rw [beq_iff_eq] at h2;rw [←h2];exact h1
   ·exact aA4 hc f e.on i h2 (fun o' ho' e' he' hb'=>hc e.on o' ho' h1 e' he' hb')
def StepsL (R:Nat→Oper→Prop):Nat→List Oper→Prop
 |_,[]=>True
 |i,o::l=>R i o∧StepsL R (i+1) l
theorem StepsL.get {R:Nat→Oper→Prop}:∀{l:List Oper} {i k:Nat} {o:Oper},StepsL R i l→l[k]? =some o→R (i+k) o
 |[],_,_,_,_,h=>by simp at h
 |p::l,i,0,o,hs,h=>by
  simp at h;subst h;exact hs.1
 |p::l,i,k+1,o,hs,h=>by
  have:=StepsL.get hs.2 (by simpa using h);rwa [show i+1+k=i+(k+1) by omega] at this
theorem aA0 {R:Nat→Oper→Prop} {i:Nat} {o:Oper} {l:List Oper} (h:R i o) (hs:StepsL R (i+1) l):StepsL R i (o::l):=⟨h,hs⟩
theorem aA2 {R:Nat→Oper→Prop} {i:Nat}:StepsL R i []:=trivial
structure DepL (l:List Oper) (v:Nat→Value) (a0:Act) (o:Oper) (a:Act):Prop where
 done_:∀(k:Nat) (p:Oper) (d:Nat),(o.after.any fun e=>e.on==k&&Region.binds .any e)=true→l[k]? =some p→p.dst=some d→a.tmps.getD d undef=v k
 kept:∀d,(l.all fun p=>p.dst != some d)=true→a.tmps.getD d undef=a0.tmps.getD d undef
def StepAt (P:Program) (Q:Exit→Act→World→Prop) (l:List Oper) (v:Nat→Value) (a0:Act) (wr:List Nat) (Ws:Nat→World) (f:Nat) (i:Nat) (o:Oper):Prop:=
 ∀(a:Act) (s:Nat),s≤wr.length→DepL l v a0 o a→(∀k:Nat,wr[k]? =some i→s=k)→(∀k x:Nat,wr[k]? =some x→reachB l f x i=true→s≤k)→(∀k x:Nat,wr[k]? =some x→reachB l f i x=true→k<s)→
  ∀K:Act→World→Prop,(∀s',((∀k:Nat,wr[k]?≠some i)→s'=s)→(∀k:Nat,wr[k]? =some i→s'=s+1)→K (a.put o.dst (v i)) (Ws s'))→o.wp P a (Ws s) K Q
section
variable {P:Program} {Q:Exit→Act→World→Prop}
theorem aF9 {l:List Oper} (v:Nat→Value) {a0:Act} {id:Nat} {w:World} (wr:List Nat) (Ws:Nat→World) (f:Nat) (hm:P.follows .mixedOrders=true) (hok:okB l.toArray a0.tmps.size=true)
  (h0:Ws 0={w with drawn:=w.drawn+1}) (hin:∀k x:Nat,wr[k]? =some x→x<l.length) (hchain:∀k x y:Nat,wr[k]? =some x→wr[k+1]? =some y→reachB l f y x=true)
  (hsteps:StepsL (StepAt P Q l v a0 wr Ws f) 0 l) (F:Act) (hF:final l.toArray v l.length a0=F) (hend:Q .normal F (Ws wr.length)):
  (Code.region id l.toArray true).wp P Q a0 w:=by
 refine aA8 (v:=v) (C:=fun listed W=>∃s,s≤wr.length∧W=Ws s∧(∀k x:Nat,wr[k]? =some x→(listed.getD x false=true↔k<s))∧Closed l listed∧listed.size=l.length) hm hok ⟨0,Nat.zero_le _,h0.symm,fun k x _=>?_,fun x o _ h=>?_,by simp⟩ ?_ ?_
 ·rw [aAf];exact ⟨fun h=>(nomatch h),fun h=>absurd h (Nat.not_lt_zero _)⟩
 ·rw [aAf] at h;cases h
 ·intro i o hi listed a W hun hdeps hf hC K hK;obtain ⟨s,hs,rfl,hfl,hcl,hsz⟩:=hC;have hil:l[i]? =some o:=by simpa using hi
  have hlt:i<l.length:=(List.getElem?_eq_some_iff.1 hil).1;have hltl:i<listed.size:=by omega
  have hunf:listed.getD i false=false:=by
   have:listed[i]=false:=by simpa [hltl] using hun
   simp [hltl,this]
  have hD:DepL l v a0 o a:=⟨fun k p d hk hp hd=>by
    obtain ⟨e,he,hek⟩:=aAu hk;simp only [Bool.and_eq_true,beq_iff_eq] at hek;have:=hdeps e he hek.2;rw [hek.1] at this;exact hf.yes k p d (by simpa using hp) hd this,
   fun d hd=>hf.no d fun k p hk hp=>by
    have hk':l[k]? =some p:=by simpa using hk
    have:=List.all_eq_true.1 hd p (List.mem_of_getElem? hk');rw [hp] at this;simp at this⟩
  have hdo:∀o',l[i]? =some o'→∀e∈o'.after,Region.binds .any e=true→listed.getD e.on false=true:=fun o' ho'=>by
   rw [hil] at ho';injection ho' with ho';subst ho';exact hdeps
  have hat:∀k:Nat,wr[k]? =some i→s=k:=fun k hk=>by
   have h1:¬k<s:=fun h=>by rw [(hfl k i hk).2 h] at hunf;cases hunf
   cases k with
   |zero=>omega
   |succ k=>
    have hk':k<wr.length:=by have:=(List.getElem?_eq_some_iff.1 hk).1;omega
    have hx:=List.getElem?_eq_getElem hk';have h2:=aA4 hcl f i _ (hchain k _ i hx hk) hdo;have h3:=(hfl k _ hx).1 h2;omega
  have hS:=StepsL.get hsteps hil;rw [Nat.zero_add] at hS;refine hS a s hs hD hat (fun k x hk hr=>?_) (fun k x hk hr=>(hfl k x hk).1 (aA4 hcl f i x hr hdo)) K fun s' hs1 hs2=>hK _ ?_
  ·refine Nat.le_of_not_lt fun h=>?_;have hx:=(hfl k x hk).2 h;have:=aA4 hcl f x i hr (fun o' ho' e he hb=>hcl x o' ho' hx e he hb);rw [this] at hunf;cases hunf
  ·have hg:∀k,(listed.setIfInBounds i true).getD k false=if k=i then true else listed.getD k false:=fun k=>aAn _ _ _ hltl
   have hcl':Closed l (listed.setIfInBounds i true):=by
    intro x o' ho' hx e he hb;rw [hg];split
    ·rfl
    ·rw [hg] at hx;split at hx
     ·next hxi=>subst hxi;exact hdo o' ho' e he hb
     ·exact hcl x o' ho' hx e he hb
   by_cases hw:∃k:Nat,wr[k]? =some i
   ·obtain ⟨k,hk⟩:=hw;have hsk:=hat k hk;have hs':=hs2 k hk;have hkl:=(List.getElem?_eq_some_iff.1 hk).1;refine ⟨s',by omega,rfl,fun j x hj=>?_,hcl',by simpa using hsz⟩;rw [hg];split
    ·next hxi=>
     subst hxi;have:=hat j hj;exact ⟨fun _=>(by omega),fun _=>rfl⟩
    ·next hxi=>
     rw [hfl j x hj];have:j≠s:=fun e=>by
      rw [e,hsk,hk] at hj;injection hj with hj;exact hxi hj.symm
     constructor<;>intro h<;>omega
   ·have hs':=hs1 fun k hk=>hw ⟨k,hk⟩;subst hs';refine ⟨s',hs,rfl,fun j x hj=>?_,hcl',by simpa using hsz⟩;rw [hg];split
    ·next hxi=>exact absurd ⟨j,hxi ▸ hj⟩ hw
    ·exact hfl j x hj
 ·intro listed W hall hC;obtain ⟨s,hs,rfl,hfl,_,hsz⟩:=hC;have:s=wr.length:=by
   refine Nat.le_antisymm hs (Nat.le_of_not_lt fun h=>?_);have hx:=List.getElem?_eq_getElem h;have h1:=(hfl s _ hx).1 (hall _ (by simpa using hin s _ hx));omega
  subst this;rw [←hF] at hend;simpa using hend
end
end Go.Proofs.YtgjmbbkcgillcaaGreat.Phase
namespace Go.Proofs.YtgjmbbkcgillcaaGreat.PhaseG
section
variable {P:Program} {ops:Array Oper} {md:Region.Mode} {Q:Exit→Act→World→Prop}
def okB (ops:Array Oper) (n:Nat):Bool:=
 (List.range ops.size).all fun i=>match ops[i]? with
  |none=>false
  |some o=>(match o.guard with
   |none=>true
   |some (j,_)=>(o.after.any fun e=>e.on==j&&Region.binds .any e)&&((ops[j]?).bind (·.dst)).isSome)&&((o.after.all fun e=>decide (e.on<i)||!Region.binds .any e)&&(match o.dst with
   |none=>true
   |some d=>decide (d<n)&&(List.range ops.size).all fun k=>k==i||match ops[k]? with
    |none=>true
    |some p=>p.dst != some d))
theorem aB2 {n:Nat} (h:okB ops n=true) {i:Nat} {o:Oper} (hi:ops[i]? =some o):
  (∀j b,o.guard=some (j,b)→(∃e∈o.after,e.on=j∧Region.binds .any e=true)∧∃p d,ops[j]? =some p∧p.dst=some d)∧(∀e∈o.after,Region.binds .any e=true→e.on<i)∧∀d,o.dst=some d→d<n∧∀k p,ops[k]? =some p→p.dst=some d→k=i:=by
 have hlt:i<ops.size:=(Array.getElem?_eq_some_iff.1 hi).1;have h1:=List.all_eq_true.1 h i (List.mem_range.2 hlt);simp only [hi,Bool.and_eq_true] at h1;obtain ⟨h2,h3,h4⟩:=h1;refine ⟨fun j b hg=>?_,fun e he hbd=>(by have:=Array.all_eq_true_iff_forall_mem.1 h3 e he;rw [hbd,Bool.not_true,Bool.or_false] at this;exact of_decide_eq_true this),fun d hd=>?_⟩
 ·rw [hg] at h2;simp only [Bool.and_eq_true] at h2;obtain ⟨k,hk,hkk⟩:=Array.any_eq_true.1 h2.1;simp only [Bool.and_eq_true,beq_iff_eq] at hkk;refine ⟨⟨_,Array.getElem_mem hk,hkk.1,hkk.2⟩,?_⟩;cases hp:ops[j]? with
  |none=>rw [hp] at h2;simp at h2
  |some p=>
   cases hd:p.dst with
   |none=>rw [hp] at h2;simp [hd] at h2
   |some d=>exact ⟨p,d,rfl,hd⟩
 rw [hd] at h4;simp only [Bool.and_eq_true] at h4;refine ⟨of_decide_eq_true h4.1,fun k p hk hp=>?_⟩;have hkl:k<ops.size:=(Array.getElem?_eq_some_iff.1 hk).1;have h5:=List.all_eq_true.1 h4.2 k (List.mem_range.2 hkl);simp only [hk,hp,Bool.or_eq_true,beq_iff_eq] at h5;rcases h5 with h5|h5
 ·exact h5
 ·simp at h5
structure Fits (ops:Array Oper) (v:Nat→Value) (a0:Act) (listed:Array Bool) (a:Act):Prop where
 defers:a.defers=a0.defers
 size:a.tmps.size=a0.tmps.size
 yes:∀k o d,ops[k]? =some o→o.dst=some d→listed.getD k false=true→a.tmps.getD d undef=v k
 no:∀d,(∀k o,ops[k]? =some o→o.dst=some d→listed.getD k false=false)→a.tmps.getD d undef=a0.tmps.getD d undef
theorem aAf (n k:Nat):(Array.replicate n false).getD k false=false:=by
 by_cases h:k<n<;>simp [h]
theorem Fits.start (v:Nat→Value) (a0:Act):Fits ops v a0 (Array.replicate ops.size false) a0:=
 ⟨rfl,rfl,(fun k o d _ _ h=>by rw [aAf] at h;cases h),fun _ _=>rfl⟩
theorem aGa (a:Act) (d:Nat) (v:Value) (e:Nat) (h:d<a.tmps.size):(a.put (some d) v).tmps.getD e undef=if e=d then v else a.tmps.getD e undef:=by
 unfold Act.put;by_cases he:e=d
 ·subst he;simp [h]
 ·rw [if_neg he];simp only [Array.getD_eq_getD_getElem?];rw [Array.getElem?_setIfInBounds_ne (fun h=>he h.symm)]
theorem aAn (l:Array Bool) (i k:Nat) (h:i<l.size):(l.setIfInBounds i true).getD k false=if k=i then true else l.getD k false:=by
 by_cases he:k=i
 ·subst he;simp [h]
 ·rw [if_neg he];simp only [Array.getD_eq_getD_getElem?];rw [Array.getElem?_setIfInBounds_ne (fun h=>he h.symm)]
theorem Fits.put {v:Nat→Value} {a0 a:Act} {listed:Array Bool} {i:Nat} {o:Oper} (hok:okB ops a0.tmps.size=true) (hi:ops[i]? =some o) (hl:listed.size=ops.size) (h:Fits ops v a0 listed a):
  Fits ops v a0 (listed.setIfInBounds i true) (a.put o.dst (v i)):=by
 have hlt:i<listed.size:=by rw [hl];exact (Array.getElem?_eq_some_iff.1 hi).1
 obtain ⟨_,_,hd⟩:=aB2 hok hi;cases hdst:o.dst with
 |none=>
  refine ⟨h.defers,h.size,fun k p d hk hp hlk=>?_,fun d hn=>?_⟩
  ·rw [aAn _ _ _ hlt] at hlk;by_cases hki:k=i
   ·subst hki;rw [hi] at hk;injection hk with hk;subst hk;rw [hdst] at hp;cases hp
   ·rw [if_neg hki] at hlk;exact h.yes k p d hk hp hlk
  ·refine h.no d fun k p hk hp=>?_;have:=hn k p hk hp;rw [aAn _ _ _ hlt] at this;by_cases hki:k=i
   ·subst hki;rw [if_pos rfl] at this;cases this
   ·rwa [if_neg hki] at this
 |some d0=>
  obtain ⟨hd1,hd2⟩:=hd d0 hdst;have hd1':d0<a.tmps.size:=by rw [h.size];exact hd1
  refine ⟨h.defers,by unfold Act.put;simp [h.size],fun k p d hk hp hlk=>?_,fun d hn=>?_⟩
  ·rw [aGa _ _ _ _ hd1'];rw [aAn _ _ _ hlt] at hlk;by_cases hdd:d=d0
   ·subst hdd;rw [if_pos rfl,hd2 k p hk hp]
   ·rw [if_neg hdd];by_cases hki:k=i
    ·subst hki;rw [hi] at hk;injection hk with hk;subst hk;rw [hdst] at hp;injection hp with hp;exact absurd hp.symm hdd
    ·rw [if_neg hki] at hlk;exact h.yes k p d hk hp hlk
  ·rw [aGa _ _ _ _ hd1'];by_cases hdd:d=d0
   ·subst hdd;have:=hn i o hi hdst;rw [aAn _ _ _ hlt,if_pos rfl] at this;cases this
   ·rw [if_neg hdd];refine h.no d fun k p hk hp=>?_;have:=hn k p hk hp;rw [aAn _ _ _ hlt] at this;by_cases hki:k=i
    ·subst hki;rw [if_pos rfl] at this;cases this
    ·rwa [if_neg hki] at this
theorem Fits.same {v:Nat→Value} {a0 a b:Act} {la lb:Array Bool} (ha:Fits ops v a0 la a) (hb:Fits ops v a0 lb b) (h1:∀k,k<ops.size→la.getD k false=true) (h2:∀k,k<ops.size→lb.getD k false=true):a=b:=by
 have hs:a.tmps.size=b.tmps.size:=by rw [ha.size,hb.size]
 have ht:a.tmps=b.tmps:=by
  refine Array.ext hs fun d hd1 hd2=>?_;have key:a.tmps.getD d undef=b.tmps.getD d undef:=by
   by_cases hex:∃(k:Nat) (o:Oper),ops[k]? =some o∧o.dst=some d
   ·obtain ⟨k,o,hk,ho⟩:=hex;have hkl:=(Array.getElem?_eq_some_iff.1 hk).1;rw [ha.yes k o d hk ho (h1 k hkl),hb.yes k o d hk ho (h2 k hkl)]
   ·rw [ha.no d fun k o hk ho=>absurd ⟨k,o,hk,ho⟩ hex,hb.no d fun k o hk ho=>absurd ⟨k,o,hk,ho⟩ hex]
  simpa [hd1,hd2] using key
 have hdf:a.defers=b.defers:=ha.defers.trans hb.defers.symm;cases a
 cases b
 simp at ht hdf;rw [ht,hdf]
def final (ops:Array Oper) (v:Nat→Value):Nat→Act→Act
 |0,a=>a
 |n+1,a=>(final ops v n a).put ((ops[n]?).bind fun o:Oper=>o.dst) (v n)
theorem aDj (v:Nat→Value) (a0:Act) (hok:okB ops a0.tmps.size=true):∀n,n≤ops.size→∃l:Array Bool,l.size=ops.size∧(∀k,k<n→l.getD k false=true)∧Fits ops v a0 l (final ops v n a0)
 |0,_=>⟨_,by simp,fun k hk=>by omega,Fits.start v a0⟩
 |n+1,hn=>by
  obtain ⟨l,h1,h2,h3⟩:=aDj v a0 hok n (by omega);have hi:ops[n]? =some ops[n]:=Array.getElem?_eq_getElem (by omega);have h4:=Fits.put hok hi h1 h3;refine ⟨l.setIfInBounds n true,by simp [h1],fun k hk=>?_,?_⟩
  ·rw [aAn _ _ _ (by omega)];by_cases hkn:k=n
   ·rw [if_pos hkn]
   ·rw [if_neg hkn];exact h2 k (by omega)
  ·show Fits ops v a0 _ ((final ops v n a0).put ((ops[n]?).bind fun o:Oper=>o.dst) (v n));rw [hi];exact h4
def left (l:Array Bool):Nat:=l.toList.countP (·==false)
theorem aMh {l:Array Bool} {i:Nat} (hi:i<l.size) (h:l.getD i true=false):left (l.setIfInBounds i true)+1=left l:=by
 unfold left;have h0:l[i]=false:=by simpa [hi] using h
 have h1:i<l.toList.length:=by simpa using hi
 have h2:l.toList[i]=false:=by simpa using h0
 have h3:0<l.toList.countP (·==false):=List.countP_pos_iff.2 ⟨false,by rw [←h2];exact List.getElem_mem h1,rfl⟩;rw [Array.toList_setIfInBounds,List.countP_set h1,h2,if_pos (show (false==false)=true from rfl),if_neg (show ¬(true==false)=true by decide)];omega
theorem aJv {l:Array Bool} (h:left l=0) {k:Nat} (hk:k<l.size):l.getD k false=true:=by
 unfold left at h;have h1:=List.countP_eq_zero.1 h;have h2:=h1 l[k] (by simp);simpa [hk] using h2
theorem aMn (n:Nat):left (Array.replicate n false)=n:=by
 unfold left;rw [Array.toList_replicate,List.countP_replicate];rfl
def aDe (ops:Array Oper) (v:Nat→Value):Bool:=(List.range ops.size).all fun i=>match (ops[i]?).bind (·.guard) with
 |none=>true
 |some (j,b)=>match v j with
  |.bool c=>c==b
  |_=>false
theorem aNt {v:Nat→Value} (h:aDe ops v=true) {i:Nat} {o:Oper} (hi:ops[i]? =some o) {j:Nat} {b:Bool} (hg:o.guard=some (j,b)):v j=.bool b:=by
 have hlt:i<ops.size:=(Array.getElem?_eq_some_iff.1 hi).1;have h1:=List.all_eq_true.1 h i (List.mem_range.2 hlt);simp only [hi,Option.bind_some,hg] at h1;split at h1
 ·next c hc=>
  rw [hc];have:c=b:=by simpa using h1
  rw [this]
 ·cases h1
theorem Fits.turn {v v':Nat→Value} {a0 a:Act} {listed:Array Bool} (h:Fits ops v a0 listed a) (hv:∀k,listed.getD k false=true→v' k=v k):Fits ops v' a0 listed a:=
 ⟨h.defers,h.size,fun k o d h1 h2 h3=>by rw [hv k h3];exact h.yes k o d h1 h2 h3,h.no⟩
theorem aE1 {a0:Act} {C:(Nat→Value)→Array Bool→World→Prop} (hok:okB ops a0.tmps.size=true) (hgv:∀v listed W,C v listed W→aDe ops v=true)
  (hstep:∀(i:Nat) (o:Oper),ops[i]? =some o→∀(v:Nat→Value) (listed:Array Bool) (a:Act) (W:World),listed.getD i true=false→(∀e∈o.after,Region.binds .any e=true→listed.getD e.on false=true)→Fits ops v a0 listed a→C v listed W→
   ∀K:Act→World→Prop,(∀v' W',(∀k,listed.getD k false=true→v' k=v k)→C v' (listed.setIfInBounds i true) W'→K (a.put o.dst (v' i)) W')→o.wp P a W K Q)
  (hend:∀(v:Nat→Value) (listed:Array Bool) (W:World),(∀k,k<ops.size→listed.getD k false=true)→C v listed W→Q .normal (final ops v ops.size a0) W):
  ∀(fuel:Nat) (v:Nat→Value) (listed:Array Bool) (a:Act) (W:World),listed.size=ops.size→left listed=fuel→Fits ops v a0 listed a→C v listed W→wpAny P .any ops Q fuel listed a W:=by
 have hall:∀(v:Nat→Value) (listed:Array Bool) (a:Act) (W:World),listed.size=ops.size→Fits ops v a0 listed a→C v listed W→(∀k,k<ops.size→listed.getD k false=true)→Q .normal a W:=by
  intro v listed a W hl hf hc hy;obtain ⟨l,h1,h2,h3⟩:=aDj v a0 hok ops.size (Nat.le_refl _);rw [Fits.same hf h3 hy h2];exact hend v listed W hy hc
 have hready:∀(listed:Array Bool),listed.size=ops.size→Region.ready .any ops listed=[]→∀k,k<ops.size→listed.getD k false=true:=by
  intro listed hl hr k
  induction k using Nat.strongRecOn with
  |_ k ih=>
   intro hk;have hi:ops[k]? =some ops[k]:=Array.getElem?_eq_getElem hk;obtain ⟨_,ha,_⟩:=aB2 hok hi;cases hb:listed.getD k false with
   |true=>rfl
   |false=>
    have:k∈Region.ready .any ops listed:=by
     unfold Region.ready;refine List.mem_filter.2 ⟨List.mem_range.2 hk,?_⟩;have hkl:k<listed.size:=by omega
     have h0:listed.getD k true=false:=by
      have:listed[k]=false:=by simpa [hkl] using hb
      simp [hkl,this]
     rw [h0,hi];simp only [Bool.not_false,Bool.true_and,Option.map_some,Option.getD_some];refine Array.all_eq_true_iff_forall_mem.2 fun e he=>?_;cases hbd:Region.binds .any e with
     |false=>rfl
     |true=>rw [ih e.on (ha e he hbd) (Nat.lt_trans (ha e he hbd) hk),Bool.or_true]
    rw [hr] at this;cases this
 intro fuel
 induction fuel with
 |zero=>
  intro v listed a W hl hz hf hc;have hy:∀k,k<ops.size→listed.getD k false=true:=fun k hk=>aJv hz (by omega);refine ⟨?_,hall v listed a W hl hf hc hy⟩;unfold Region.ready;refine List.filter_eq_nil_iff.2 fun i hi=>?_;have hil:=List.mem_range.1 hi;have hil':i<listed.size:=by omega
  have h1:listed[i]=true:=by simpa [hil'] using hy i hil
  simp [hil',h1]
 |succ fuel ih=>
  intro v listed a W hl hz hf hc;refine ⟨fun hr=>hall v listed a W hl hf hc (hready listed hl hr),fun i hi=>?_⟩;unfold Region.ready at hi;obtain ⟨hi1,hi2⟩:=List.mem_filter.1 hi;have hil:=List.mem_range.1 hi1;have ho:ops[i]? =some ops[i]:=Array.getElem?_eq_getElem hil;rw [ho] at hi2;simp only [Bool.and_eq_true,Option.map_some,Option.getD_some,Bool.not_eq_true'] at hi2;obtain ⟨hun,haf⟩:=hi2;have hdeps:∀e∈ops[i].after,Region.binds .any e=true→listed.getD e.on false=true:=fun e he hb=>by
   have:=Array.all_eq_true_iff_forall_mem.1 haf e he;rwa [hb,Bool.not_true,Bool.false_or] at this
  have hg:=(aB2 hok ho).1;refine wpOp_step ho fun K hK=>?_;have hw:Region.wanted ops[i] (yielded ops a.tmps)=true:=by
   cases hgd:ops[i].guard with
   |none=>simp [Region.wanted,hgd]
   |some jb=>
    obtain ⟨j,b⟩:=jb;obtain ⟨⟨e,he,hej,heb⟩,p,d,hp,hd⟩:=hg j b hgd;have h1:=hdeps e he heb;rw [hej] at h1;have h2:=hf.yes j p d hp hd h1;rw [aNt (hgv v listed W hc) ho hgd] at h2;have hdl:=((aB2 hok hp).2.2 d hd).1;have hdl':d<a.tmps.size:=by rw [hf.size];exact hdl
    have h3:a.tmps[d]? =some (.bool b):=by
     rw [Array.getElem?_eq_getElem hdl'];simpa [hdl'] using h2
    simp [Region.wanted,hgd,yielded,hp,hd,h3]
  rw [if_pos hw];refine hstep i ops[i] ho v listed a W hun hdeps hf hc K fun v' W' hvv hc'=>hK _ _ ?_;exact ih v' (listed.setIfInBounds i true) (a.put ops[i].dst (v' i)) W' (by simp [hl]) (by have:=aMh (l:=listed) (i:=i) (by omega) hun;omega) (Fits.put hok ho hl (hf.turn hvv)) hc'
theorem aA8 {v0:Nat→Value} {a0:Act} {C:(Nat→Value)→Array Bool→World→Prop} {id:Nat} {w:World} (hm:P.follows .mixedOrders=true) (hok:okB ops a0.tmps.size=true) (hgv:∀v listed W,C v listed W→aDe ops v=true)
  (hC:C v0 (Array.replicate ops.size false) {w with drawn:=w.drawn+1})
  (hstep:∀(i:Nat) (o:Oper),ops[i]? =some o→∀(v:Nat→Value) (listed:Array Bool) (a:Act) (W:World),listed.getD i true=false→(∀e∈o.after,Region.binds .any e=true→listed.getD e.on false=true)→Fits ops v a0 listed a→C v listed W→
   ∀K:Act→World→Prop,(∀v' W',(∀k,listed.getD k false=true→v' k=v k)→C v' (listed.setIfInBounds i true) W'→K (a.put o.dst (v' i)) W')→o.wp P a W K Q)
  (hend:∀(v:Nat→Value) (listed:Array Bool) (W:World),(∀k,k<ops.size→listed.getD k false=true)→C v listed W→Q .normal (final ops v ops.size a0) W):
  (Code.region id ops true).wp P Q a0 w:=
 wp_region_any hm (aE1 hok hgv hstep hend ops.size v0 _ a0 _ (by simp) (aMn ops.size) (Fits.start v0 a0) hC)
end
end Go.Proofs.YtgjmbbkcgillcaaGreat.PhaseG
namespace Go.Proofs.YtgjmbbkcgillcaaGreat.PhaseG
open Phase (aAu StepsL)
open Go.RowKit
structure DepF (l:List Oper) (v:Nat→Value) (a0:Act) (R:Nat→Value→World→Prop) (o:Oper) (a:Act) (W:World):Prop where
 done_:∀(k:Nat) (p:Oper) (d:Nat),(o.after.any fun e=>e.on==k&&Region.binds .any e)=true→l[k]? =some p→p.dst=some d→a.tmps.getD d undef=v k∧R k (v k) W
 kept:∀d,(l.all fun p=>p.dst != some d)=true→a.tmps.getD d undef=a0.tmps.getD d undef
def StepF (P:Program) (Q:Exit→Act→World→Prop) (l:List Oper) (a0:Act) (w:World) (R:Nat→Value→World→Prop) (i:Nat) (o:Oper):Prop:=
 ∀(a:Act) (v:Nat→Value) (W:World),DepF l v a0 R o a W→Below w.heap.size w W→∀K:Act→World→Prop,(∀x W',Below W.heap.size W W'→R i x W'→K (a.put o.dst x) W')→o.wp P a W K Q
section
variable {P:Program} {Q:Exit→Act→World→Prop}
theorem aB4 {ops:Array Oper} (h:(ops.toList.all fun o=>o.guard.isNone)=true) (v:Nat→Value):aDe ops v=true:=by
 unfold aDe;refine List.all_eq_true.2 fun i hi=>?_;have hlt:=List.mem_range.1 hi;have ho:ops[i]? =some ops[i]:=Array.getElem?_eq_getElem hlt;have hg:=List.all_eq_true.1 h ops[i] (by simp);rw [ho];have:ops[i].guard=none:=by simpa using hg
 simp [this]
theorem aDc {l:List Oper} {a0:Act} {id:Nat} {w:World} (R:Nat→Value→World→Prop) (hm:P.follows .mixedOrders=true) (hok:okB l.toArray a0.tmps.size=true) (hng:(l.all fun o=>o.guard.isNone)=true)
  (hR:∀k x W W',R k x W→Below w.heap.size w W→Below W.heap.size W W'→R k x W') (hsteps:StepsL (StepF P Q l a0 w R) 0 l) (F:(Nat→Value)→Act) (hF:∀v,final l.toArray v l.length a0=F v)
  (hend:∀v W,Below w.heap.size w W→(∀k,k<l.length→R k (v k) W)→Q .normal (F v) W):
  (Code.region id l.toArray true).wp P Q a0 w:=by
 refine aA8 (v0:=fun _=>undef) (C:=fun v listed W=>Below w.heap.size w W∧listed.size=l.length∧∀k,k<l.length→listed.getD k false=true→R k (v k) W) hm hok (fun v _ _ _=>aB4 (by simpa using hng) v) ⟨(Below.refl _ _).drew,by simp,fun k _ h=>by rw [aAf] at h;cases h⟩ ?_ ?_
 ·intro i o hi v listed a W hun hdeps hf hC K hK;obtain ⟨hb,hsz,hr⟩:=hC;have hil:l[i]? =some o:=by simpa using hi
  have hlt:i<l.length:=(List.getElem?_eq_some_iff.1 hil).1;have hltl:i<listed.size:=by omega
  have hD:DepF l v a0 R o a W:=⟨fun k p d hk hp hd=>by
    obtain ⟨e,he,hek⟩:=aAu hk;simp only [Bool.and_eq_true,beq_iff_eq] at hek;have:=hdeps e he hek.2;rw [hek.1] at this;exact ⟨hf.yes k p d (by simpa using hp) hd this,hr k (List.getElem?_eq_some_iff.1 hp).1 this⟩,
   fun d hd=>hf.no d fun k p hk hp=>by
    have hk':l[k]? =some p:=by simpa using hk
    have:=List.all_eq_true.1 hd p (List.mem_of_getElem? hk');rw [hp] at this;simp at this⟩
  have hS:=StepsL.get hsteps hil;rw [Nat.zero_add] at hS;refine hS a v W hD hb K fun x W' hb' hx=>?_;have hg:∀k,(listed.setIfInBounds i true).getD k false=if k=i then true else listed.getD k false:=fun k=>aAn _ _ _ hltl
  have hunf:listed.getD i false=false:=by
   have:listed[i]=false:=by simpa [hltl] using hun
   simp [hltl,this]
  have:=hK (fun k=>if k=i then x else v k) W' (fun k hk=>by
   by_cases e:k=i
   ·rw [e,hunf] at hk;cases hk
   ·rw [if_neg e]) ⟨hb.trans (hb'.mono hb.size),by simpa using hsz,fun k hk hl=>by
    rw [hg] at hl;by_cases e:k=i
    ·rw [if_pos e,e];exact hx
    ·rw [if_neg e] at hl ⊢;exact hR k _ W W' (hr k hk hl) hb hb'⟩
  rwa [if_pos rfl] at this
 ·intro v listed W hall hC;obtain ⟨hb,_,hr⟩:=hC;have:=hend v W hb fun k hk=>hr k hk (hall k (by simpa using hk));rw [←hF v] at this;simpa using this
end
end Go.Proofs.YtgjmbbkcgillcaaGreat.PhaseG
