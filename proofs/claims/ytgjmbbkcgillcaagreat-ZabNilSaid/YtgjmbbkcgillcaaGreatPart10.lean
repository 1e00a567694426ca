/- Lemmas, part 10: StoPure, StoTame, StoDisk, DiskCode1, DiskWide, DiskSeen, DiskRead -/
import Derived.Test.YtgjmbbkcgillcaaGreatPart2
import Derived.Test.YtgjmbbkcgillcaaGreatPart9
import Derived.Test.YtgjmbbkcgillcaaGreatPart1
import Derived.Great.Ranges
import Derived.Deep.WholeRow
set_option maxHeartbeats 16000000
namespace Go.Proofs.YtgjmbbkcgillcaaGreat.Sto
open Go.RowKit
structure Kp where
 promised:Nat
 current:Nat
 lines:List Ln
def Kp.zero:Kp:=⟨0,0,[]⟩
inductive Deed where
 |prom (e:Nat)
 |adopt (e:Nat) (l:List Ln)
 |add (l:List Ln)
def Deed.may:Deed→Kp→Bool
 |.prom e,k=>decide (k.promised<e)&&decide (e≤top)
 |.adopt e l,k=>decide (k.promised≤e)&&decide (k.current<e)&&decide (e≤top)&&decide (l.length≤256)&&l.all fun x=>lineB x&&decide (x.epoch≤e)
 |.add l,k=>decide (0<l.length)&&decide (l.length+k.lines.length≤256)&&l.all fun x=>lineB x&&decide (x.epoch=k.current)
def Deed.run:Deed→Kp→Kp
 |.prom e,k=>{k with promised:=e}
 |.adopt e l,_=>⟨e,e,l⟩
 |.add l,k=>{k with lines:=k.lines++l}
theorem aD4 {e:Nat} {k:Kp}:(Deed.prom e).may k=true↔k.promised<e∧e≤top:=by
 simp [Deed.may]
theorem aCb {e:Nat} {l:List Ln} {k:Kp}:(Deed.adopt e l).may k=true↔k.promised≤e∧k.current<e∧e≤top∧l.length≤256∧∀x∈l,lineB x=true∧x.epoch≤e:=by
 simp [Deed.may,and_assoc]
theorem aGc {l:List Ln} {k:Kp}:(Deed.add l).may k=true↔0<l.length∧l.length+k.lines.length≤256∧∀x∈l,lineB x=true∧x.epoch=k.current:=by
 simp [Deed.may,and_assoc]
structure Fine (k:Kp):Prop where
 prom:k.promised≤top
 cur:k.current≤k.promised
 many:k.lines.length≤256
 each:∀x∈k.lines,lineB x=true∧x.epoch≤k.current
theorem Fine.zero:Fine Kp.zero:=⟨Nat.zero_le _,Nat.le_refl _,Nat.zero_le _,fun x hx=>by cases hx⟩
theorem Fine.run {k:Kp} {d:Deed} (h:Fine k) (hm:d.may k=true):Fine (d.run k):=by
 cases d with
 |prom e=>
  obtain ⟨h1,h2⟩:=aD4.1 hm;exact ⟨h2,by show k.current≤e;have:=h.cur;omega,h.many,h.each⟩
 |adopt e l=>
  obtain ⟨h1,h2,h3,h4,h5⟩:=aCb.1 hm;exact ⟨h3,Nat.le_refl _,h4,h5⟩
 |add l=>
  obtain ⟨h1,h2,h3⟩:=aGc.1 hm;refine ⟨h.prom,h.cur,?_,fun x hx=>?_⟩
  ·show (k.lines++l).length≤256;rw [List.length_append];omega
  ·rcases List.mem_append.1 hx with q|q
   ·exact h.each x q
   ·exact ⟨(h3 x q).1,Nat.le_of_eq (h3 x q).2⟩
theorem Fine.none_ {k:Kp} (h:Fine k) (h0:k.promised=0):k=Kp.zero:=by
 obtain ⟨p,c,l⟩:=k;have h1:=h.cur;have h2:=h.each;dsimp only at h0 h1 h2
 obtain rfl:c=0:=by omega
 subst h0;cases l with
 |nil=>rfl
 |cons x l=>
  have:=h2 x List.mem_cons_self;have:=(aAi.1 this.1).1;omega
def Later (a b:Kp):Prop:=a.promised<b.promised∨(a.promised=b.promised∧(a.current<b.current∨(a.current=b.current∧a.lines.length<b.lines.length)))
theorem aJ4 {k:Kp} {d:Deed} (hm:d.may k=true):Later k (d.run k):=by
 cases d with
 |prom e=>exact .inl (aD4.1 hm).1
 |adopt e l=>
  obtain ⟨h1,h2,-⟩:=aCb.1 hm;rcases Nat.lt_or_ge k.promised e with h|h
  ·exact .inl h
  ·exact .inr ⟨by show k.promised=e;omega,.inl h2⟩
 |add l=>
  obtain ⟨h1,-⟩:=aGc.1 hm;exact .inr ⟨rfl,.inr ⟨rfl,by show _<(k.lines++l).length;rw [List.length_append];omega⟩⟩
theorem Later.trans {a b c:Kp} (h:Later a b) (k:Later b c):Later a c:=by
 unfold Later at*;omega
theorem Later.not {a b:Kp} (h:Later a b):¬Later b a:=by unfold Later at*;omega
def aAj (l:List Ln):Nat:=(l.map fun x=>16+x.bytes.length).sum
def need (k:Kp):Nat:=64+aAj k.lines
def fits (k:Kp) (p:Nat):Bool:=decide (need k≤480*(p - 1))
theorem aDd (l m:List Ln):aAj (l++m)=aAj l+aAj m:=by simp [aAj]
theorem aE4 (x:Ln) (l:List Ln):aAj (x::l)=16+x.bytes.length+aAj l:=by simp [aAj]
theorem aOh (l:List Ln) (j:Nat) (h:j<l.length):aAj (l.take (j+1))=aAj (l.take j)+(16+l[j].bytes.length):=by
 rw [←List.take_append_getElem h,aDd];simp [aAj]
theorem aEx {l:List Ln} {n:Nat} (h:∀x∈l,x.bytes.length≤n):aAj l≤l.length*(16+n):=by
 induction l with
 |nil=>simp [aAj]
 |cons x l ih=>
  rw [aE4,List.length_cons,Nat.add_mul,Nat.one_mul];have:=ih fun y hy=>h y (List.mem_cons_of_mem _ hy);have:=h x List.mem_cons_self;omega
theorem Fine.sum {k:Kp} (h:Fine k):aAj k.lines≤256*4112:=by
 refine Nat.le_trans (aEx (n:=4096) fun x hx=>(aAi.1 (h.each x hx).1).2.2.2) ?_;exact Nat.mul_le_mul_right _ h.many
/-! ### Records -/
def lineT (x:Ln):List UInt8:=be 8 x.epoch++(be 4 x.bytes.length++x.bytes)
def linesT (l:List Ln):List UInt8:=be 8 l.length++l.flatMap lineT
inductive Rec where
 |whole (k:Kp)
 |deed (d:Deed)
def Deed.text:Deed→List UInt8
 |.prom e=>2::be 8 e
 |.adopt e l=>(3::be 8 e)++linesT l
 |.add l=>4::linesT l
def wholeT (k:Kp):List UInt8:=(1::(be 8 k.promised++be 8 k.current))++linesT k.lines
def Rec.text:Rec→List UInt8
 |.whole k=>wholeT k
 |.deed d=>d.text
def Rec.may:Rec→Kp→Prop
 |.whole a,k=>k=Kp.zero∧Fine a∧0<a.promised
 |.deed d,k=>d.may k=true
def Rec.run:Rec→Kp→Kp
 |.whole a,_=>a
 |.deed d,k=>d.run k
inductive Reads (p:Nat):Kp→List Rec→Kp→Prop where
 |nil (k:Kp):Reads p k [] k
 |cons {k:Kp} {r:Rec} {rs:List Rec} {k':Kp}:r.may k→fits (r.run k) p=true→Reads p (r.run k) rs k'→Reads p k (r::rs) k'
theorem Rec.fine {r:Rec} {k:Kp} (h:Fine k) (hm:r.may k):Fine (r.run k):=by
 cases r with
 |whole a=>exact hm.2.1
 |deed d=>exact h.run hm
theorem Reads.fine {p:Nat} {k:Kp} {rs:List Rec} {k':Kp} (h:Reads p k rs k') (hk:Fine k):Fine k':=by
 induction h with
 |nil=>exact hk
 |cons h1 _ _ ih=>exact ih (Rec.fine hk h1)
theorem Reads.snoc {p:Nat} {k:Kp} {rs:List Rec} {k':Kp} (h:Reads p k rs k') {r:Rec} (hm:r.may k') (hf:fits (r.run k') p=true):Reads p k (rs++[r]) (r.run k'):=by
 induction h with
 |nil=>exact .cons hm hf (.nil _)
 |cons h1 h2 _ ih=>exact .cons h1 h2 (ih hm hf)
theorem aHf (l:List Ln):(l.flatMap lineT).length+4*l.length=aAj l:=by
 induction l with
 |nil=>simp [aAj]
 |cons x l ih=>
  rw [aE4,List.flatMap_cons,List.length_append,List.length_cons];simp only [lineT,List.length_append,aA1];omega
theorem aEh (k:Kp):(wholeT k).length≤need k:=by
 have:=aHf k.lines;simp only [wholeT,linesT,need,List.length_append,List.length_cons,aA1];omega
theorem aMq {d:Deed} {k:Kp} (hm:d.may k=true):d.text.length≤1100000:=by
 have hb:∀{l:List Ln},l.length≤256→(∀x∈l,lineB x=true)→aAj l≤256*4112:=fun h1 h2=>
  Nat.le_trans (aEx (n:=4096) fun x hx=>(aAi.1 (h2 x hx)).2.2.2) (Nat.mul_le_mul_right _ h1)
 cases d with
 |prom e=>simp [Deed.text,aA1]
 |adopt e l=>
  obtain ⟨-,-,-,h4,h5⟩:=aCb.1 hm;have h6:=hb h4 fun x hx=>(h5 x hx).1;have:=aHf l;simp only [Deed.text,linesT,List.length_append,List.length_cons,aA1];omega
 |add l=>
  obtain ⟨-,h4,h5⟩:=aGc.1 hm;have h6:=hb (l:=l) (by omega) fun x hx=>(h5 x hx).1;have:=aHf l;simp only [Deed.text,linesT,List.length_append,List.length_cons,aA1];omega
theorem aSe {k:Kp} {p:Nat} (hf:fits k p=true) (hp:2≤p):1+Log.manyOf (wholeT k).length≤p:=by
 have h1:=aEh k;have h2:need k≤480*(p - 1):=of_decide_eq_true hf;unfold Log.manyOf;omega
/-! ### What is read of records -/
theorem aXi (bs:List UInt8) (v:Nat):bs.foldl (fun v b=>v*256+b.toNat) v=v*256^bs.length+val bs:=Log.aHm bs v
theorem aUi (b:UInt8) (bs:List UInt8):val (b::bs)=b.toNat*256^bs.length+val bs:=by
 have:=aXi bs (0*256+b.toNat);simpa [val] using this
theorem aPp (k x:Nat):val (be k x)=x % 256^k:=by
 induction k with
 |zero=>simp [be,val,Nat.mod_one]
 |succ k ih=>
  have h:=@Nat.mod_mul (256^k) 256 x;rw [be,aUi,aA1,ih,Nat.pow_succ,h];simp;rw [Nat.mul_comm];omega
theorem aEn (xs rest:List UInt8) {k:Nat} (h:xs.length=k):takeS k (xs++rest,false)=(xs,(rest,false)):=by
 unfold takeS;rw [if_neg (by simp;omega)];subst h;simp
theorem aRd {x:Nat} (hx:x<18446744073709551616) (rest:List UInt8):takeS 8 (be 8 x++rest,false)=(be 8 x,(rest,false))∧val (be 8 x)=x:=by
 refine ⟨aEn _ _ (aA1 8 x),?_⟩;rw [aPp,Nat.mod_eq_of_lt (by omega)]
theorem aWn {b:List UInt8} (hb:b.length≤4096) (rest:List UInt8):textS (be 4 b.length++(b++rest),false)=(b,(rest,false)):=by
 unfold textS;rw [aEn _ _ (aA1 4 b.length)];simp only;rw [aPp,Nat.mod_eq_of_lt (by omega)];exact aEn _ _ rfl
theorem aVb {n:Nat} (hn:n≤256) (rest:List UInt8):countS 256 (be 8 n++rest,false)=(n,(rest,false)):=by
 obtain ⟨h1,h2⟩:=aRd (x:=n) (by omega) rest;unfold countS;rw [h1,h2,if_neg (by omega)]
end Go.Proofs.YtgjmbbkcgillcaaGreat.Sto
namespace Go.Proofs.YtgjmbbkcgillcaaGreat.Sto
open Go.RowKit Disk Log
def Few (p:List UInt8):Prop:=p.getD 12 0=0∧p.getD 13 0=0∧(p.getD 14 0).toNat≤1
def Tame (p:List UInt8):Prop:=(first8 p=0→p=List.replicate 512 0)∧Few p
theorem bB0 (n:Nat):be n 0=List.replicate n 0:=by
 induction n with
 |zero=>rfl
 |succ n ih=>
  rw [be,ih,Nat.zero_div];rfl
theorem aYm {bs:List UInt8} (h:num bs=0):bs=List.replicate bs.length 0:=by
 rw [←bB0,←h,aJ0]
theorem bC3 {p q:List UInt8} {k:Nat} (hp:p.length=512) (hq:q.length=512) (i:Nat):(p.take k++q.drop k).getD i 0=if i<k then p.getD i 0 else q.getD i 0:=by
 rw [List.getD_eq_getElem?_getD,List.getD_eq_getElem?_getD,List.getD_eq_getElem?_getD];rcases Nat.lt_or_ge i k with h|h
 ·rw [if_pos h];rcases Nat.lt_or_ge i 512 with h2|h2
  ·rw [List.getElem?_append_left (by rw [List.length_take];omega),List.getElem?_take,if_pos h]
  ·rw [List.getElem?_eq_none (by rw [List.length_append,List.length_take,List.length_drop];omega),List.getElem?_eq_none (by omega)]
 ·rw [if_neg (by omega)];rcases Nat.lt_or_ge k 512 with h2|h2
  ·rw [List.getElem?_append_right (by rw [List.length_take];omega),List.getElem?_drop,List.length_take]
   congr 2
   omega
  ·rw [List.getElem?_eq_none (by rw [List.length_append,List.length_take,List.length_drop];omega),List.getElem?_eq_none (by omega)]
theorem Few.mix {p q:List UInt8} {k:Nat} (h1:Few p) (h2:Few q) (hp:p.length=512) (hq:q.length=512):Few (p.take k++q.drop k):=by
 obtain ⟨a1,a2,a3⟩:=h1;obtain ⟨b1,b2,b3⟩:=h2;refine ⟨?_,?_,?_⟩<;>rw [bC3 hp hq]<;>split<;>assumption
theorem aWx {p q:List UInt8} {k:Nat} (hp:p.length=512) (hq:q.length=512):(p.take k++q.drop k).take 8=(p.take 8).take k++(q.take 8).drop k:=by
 apply List.ext_getElem?
 intro i;rcases Nat.lt_or_ge i 8 with h8|h8
 ·rw [List.getElem?_take,if_pos h8];rcases Nat.lt_or_ge i k with h|h
  ·rw [List.getElem?_append_left (by rw [List.length_take];omega),List.getElem?_append_left (by rw [List.length_take,List.length_take];omega),List.getElem?_take,if_pos h,List.getElem?_take,if_pos h,List.getElem?_take,if_pos h8]
  ·rw [List.getElem?_append_right (by rw [List.length_take];omega),List.getElem?_append_right (by rw [List.length_take,List.length_take];omega),List.getElem?_drop,List.getElem?_drop,List.getElem?_take,List.length_take,List.length_take,List.length_take];rw [if_pos (by omega)]
   congr 1
   omega
 ·rw [List.getElem?_eq_none (by rw [List.length_take];omega),List.getElem?_eq_none (by rw [List.length_append,List.length_take,List.length_take,List.length_drop,List.length_take];omega)]
theorem Tame.mix {s k:Nat} {p q:List UInt8} (hp:New s p) (hf:Few p) (hq:q.length=512) (ht:Tame q) (hs:first8 q<s):Tame (p.take k++q.drop k):=by
 refine ⟨fun h0=>?_,hf.mix ht.2 hp.len hq⟩;have hlp:(p.take 8).length=8:=by rw [List.length_take,hp.len];rfl
 have hlq:(q.take 8).length=8:=by rw [List.length_take,hq];rfl
 have e:first8 (p.take k++q.drop k)=num ((p.take 8).take k++(q.take 8).drop k):=by unfold first8;rw [aWx hp.len hq]
 rw [e] at h0;have hge:=aZi (x:=p.take 8) (y:=q.take 8) (by rw [hlp,hlq]) (by show first8 q<first8 p;rw [hp.first];exact hs) k;have hq0:first8 q=0:=by show num (q.take 8)=0;omega
 have hqz:=ht.1 hq0;have hz:=aYm h0;rcases Nat.lt_or_ge k 8 with hk|hk
 ·have hpk:p.take k=List.replicate k 0:=by
   have h2:=congrArg (List.take k) hz;rw [List.take_left' (by rw [List.length_take];omega),List.take_take,Nat.min_eq_left (by omega)] at h2;rw [h2,List.take_replicate]
   congr 1
   have:=hp.len;simp only [List.length_append,List.length_take,List.length_drop];omega
  rw [hpk,hqz,List.drop_replicate,List.replicate_append_replicate]
  congr 1
  omega
 ·rw [List.take_of_length_le (by omega),List.drop_eq_nil_of_le (by omega),List.append_nil] at h0;have:first8 p=0:=h0;rw [hp.first] at this;omega
/-! ### Leaves tell few bytes -/
theorem aCr (a:List UInt8) (b:List UInt8) (i n:Nat) (h:a.length=n) (hi:n≤i):(a++b).getD i 0=b.getD (i - n) 0:=by
 rw [List.getD_eq_getElem?_getD,List.getD_eq_getElem?_getD,List.getElem?_append_right (by omega),h]
theorem bBw {n:Nat} (h:n≤480) (r:List UInt8):(be 4 n++r).getD 0 0=0∧(be 4 n++r).getD 1 0=0∧((be 4 n++r).getD 2 0).toNat≤1:=by
 have e:be 4 n=[UInt8.ofNat (n / 16777216),UInt8.ofNat (n / 65536),UInt8.ofNat (n / 256),UInt8.ofNat n]:=by
  simp [be]
 rw [e];refine ⟨?_,?_,?_⟩
 ·show UInt8.ofNat (n / 16777216)=0;rw [show n / 16777216=0 from by omega];rfl
 ·show UInt8.ofNat (n / 65536)=0;rw [show n / 65536=0 from by omega];rfl
 ·show (UInt8.ofNat (n / 256)).toNat≤1;simp;omega
theorem aRc {s a o:Nat} {b:List UInt8} (hb:b.length≤480):Few (leafP s a o b):=by
 unfold Few leafP bodyP;simp only [List.append_assoc];obtain ⟨h0,h1,h2⟩:=bBw hb (b++(List.replicate (480 - b.length) 0++((be 8 (Crc.sum (be 8 s++(be 2 a++(be 2 o++(be 4 b.length++(b++List.replicate (480 - b.length) 0))))))).reverse++be 8 s)));refine ⟨?_,?_,?_⟩
 ·rw [aCr _ _ 12 8 (aA1 8 _) (by omega),aCr _ _ 4 2 (aA1 2 _) (by omega),aCr _ _ 2 2 (aA1 2 _) (by omega)];exact h0
 ·rw [aCr _ _ 13 8 (aA1 8 _) (by omega),aCr _ _ 5 2 (aA1 2 _) (by omega),aCr _ _ 3 2 (aA1 2 _) (by omega)];exact h1
 ·rw [aCr _ _ 14 8 (aA1 8 _) (by omega),aCr _ _ 6 2 (aA1 2 _) (by omega),aCr _ _ 4 2 (aA1 2 _) (by omega)];exact h2
theorem aVy:Tame (List.replicate 512 0):=by
 refine ⟨fun _=>rfl,?_,?_,?_⟩<;>decide+kernel
def TameP (ps:Pages):Prop:=∀j,j<ps.length→Tame (pg ps j)
theorem TameP.lay {ps ls:Pages} {N s e i:Nat} {k:Nat→Nat} (h:TameP ps) (hl:Low ps N) (hs:N<s) (he:e+ls.length≤ps.length) (h1:∀j,j<ls.length→New s (pg ls j)) (h2:∀j,j<ls.length→Few (pg ls j)):TameP (lay k i ps (rowOf e ls)):=by
 intro j hj;rw [aA9] at hj;rw [aH0 k ls i e j ps he];split
 ·next hc=>
  exact Tame.mix (h1 _ (by omega)) (h2 _ (by omega)) (hl.ok.get hj) (h j hj) (by have:=hl.first j hj;omega)
 ·exact h j hj
theorem aW9 (s:Nat):∀j,j<(headL s).length→Few (pg (headL s) j):=by
 intro j hj;obtain rfl:j=0:=by have:j<1:=hj;omega
 exact aRc (by decide)
theorem aO5 (s m:Nat) (b:List UInt8):∀j,j<(leafs s m b).length→Few (pg (leafs s m b) j):=by
 intro j hj;rw [aAb] at hj;rw [aHj hj];exact aRc (aEm b j)
theorem aLx {ls:Pages} {i j:Nat} (h:j<(ls.take i).length):pg (ls.take i) j=pg ls j∧j<ls.length:=by
 rw [List.length_take] at h;unfold pg;rw [List.getD_eq_getElem?_getD,List.getD_eq_getElem?_getD,List.getElem?_take,if_pos (by omega)];exact ⟨rfl,by omega⟩
end Go.Proofs.YtgjmbbkcgillcaaGreat.Sto
namespace Go.Proofs.YtgjmbbkcgillcaaGreat.Sto
open Go.RowKit Disk Log
def after (r:Int×DK) (fates:List Int):DK:=if r.1=0 then r.2 else r.2.restart fates
theorem aR4 {d:DK} {e:Nat} {ls:Pages} (hd:d.dead=false) (hr:d.row=[]) (he:e+ls.length≤d.pages.length) (hl:OkP ls) (fates:List Int):
  ∃k i,(∀j,k j≤512)∧now (after (wr d e ls) fates)=lay k 0 (now d) (rowOf e (ls.take i)):=by
 by_cases h0:(wr d e ls).1=0
 ·have hw:=aFt ls d e hd he hl;rcases hw with ⟨_,a2,a3,_⟩|⟨a1,_⟩
  ·refine ⟨fun _=>512,ls.length,fun _=>Nat.le_refl _,?_⟩;unfold after;rw [if_pos h0,aDw a3,a2,aLb rfl,List.take_length]
  ·rw [h0] at a1;cases a1
 ·obtain ⟨_,a2,_,_,i,a6⟩:=aHs hd hr he hl h0;refine ⟨takes fates,i,aFq fates,?_⟩;unfold after;rw [if_neg h0,aDw (show ((wr d e ls).2.restart fates).row=[] from rfl),aDw hr];show lay (takes fates) 0 (wr d e ls).2.pages (wr d e ls).2.row=_;rw [a2,a6]
theorem aQy (ls:Pages) (i:Nat):(ls.take i).length≤ls.length:=by rw [List.length_take];omega
theorem aFk {d:DK} {f n e g m:Nat} {ls:Pages} (hd:d.dead=false) (hr:d.row=[]) (hin:f+n≤d.pages.length) (he:e+ls.length≤n) (hl:OkP ls) (hg:g+m≤d.pages.length) (hb:f+n≤g∨g+m≤f) (fates:List Int):Log.part (now (after (wr d (f+e) ls) fates)) g m=Log.part (now d) g m:=by
 obtain ⟨k,i,_,h⟩:=aR4 (e:=f+e) hd hr (by omega) hl fates;have:=aQy ls i;rw [h];exact aP0 (by rw [aBu];exact hg) (by rw [aBu];omega) (by omega)
theorem aK2 {d:DK} {f n e N s:Nat} {ls:Pages} (h:Up d f n N) (hr:d.row=[]) (he:e+ls.length≤n) (hl:OkP ls) (hs:N<s) (h1:∀j,j<ls.length→New s (pg ls j)) (h2:∀j,j<ls.length→Few (pg ls j)) (ht:TameP (Log.part (now d) f n)) (fates:List Int):TameP (Log.part (now (after (wr d (f+e) ls) fates)) f n):=by
 have hin:=h.in_;obtain ⟨k,i,_,e1⟩:=aR4 (e:=f+e) h.on hr (by omega) hl fates;have hle:=aQy ls i;rw [e1,aMk (by rw [aBu];exact hin) (by omega)];exact ht.lay h.low hs (by rw [h.len];omega) (fun j hj=>by rw [(aLx hj).1];exact h1 j (aLx hj).2) (fun j hj=>by rw [(aLx hj).1];exact h2 j (aLx hj).2)
theorem aEq {d:DK} {f n N g m:Nat} (h:Up d f n N) (hr:d.row=[]) (hg:g+m≤d.pages.length) (hb:f+n≤g∨g+m≤f) (fates:List Int):Log.part (now (after (resetF d f N) fates)) g m=Log.part (now d) g m:=by
 have htwo:=h.two;have:=aFk (f:=f) (n:=n) (e:=0) (ls:=headL (N+1)) h.on hr h.in_ (by show 0+1≤n;omega) (aCp _) hg hb fates;rwa [Nat.add_zero] at this
theorem aF6 {d:DK} {f n N:Nat} (h:Up d f n N) (hr:d.row=[]) (hN:N+1<65536) (ht:TameP (Log.part (now d) f n)) (fates:List Int):TameP (Log.part (now (after (resetF d f N) fates)) f n):=by
 have htwo:=h.two;have:=aK2 (e:=0) (s:=N+1) (ls:=headL (N+1)) h hr (by show 0+1≤n;omega) (aCp _) (Nat.lt_succ_self N) (aHw (by omega)) (aW9 _) ht fates;rwa [Nat.add_zero] at this
theorem aD7 {d:DK} {f n N:Nat} {b:List UInt8} (h:Up d f n N) (hr:d.row=[]) (hN:N+2<65536) (h4:(commitF d f n N b).1.1≠4) (fates:List Int):
  (∀g m,g+m≤d.pages.length→(f+n≤g∨g+m≤f)→Log.part (now (after (commitF d f n N b).1 fates)) g m=Log.part (now d) g m)∧(TameP (Log.part (now d) f n)→TameP (Log.part (now (after (commitF d f n N b).1 fates)) f n)):=by
 have htwo:=h.two;unfold commitF at h4 ⊢;rw [if_neg (by rw [h.on];decide)] at h4 ⊢;by_cases hfull:n<(Recs (Log.part (now d) f n)).2.2+manyOf b.length
 ·rw [if_pos hfull] at h4;exact absurd rfl h4
 ·rw [if_neg hfull];by_cases hh:(Recs (Log.part (now d) f n)).1=true
  ·rw [if_pos hh];have hL:(Recs (Log.part (now d) f n)).2.2+(leafs (N+1) (manyOf b.length) b).length≤n:=by rw [aAb];omega
   exact ⟨fun g m hg hb=>aFk h.on hr h.in_ hL (aB6 _ _ _) hg hb fates,fun ht=>aK2 h hr hL (aB6 _ _ _) (Nat.lt_succ_self N) (aJy (by omega)) (aO5 _ _ _) ht fates⟩
  ·rw [if_neg hh];have hR:Recs (Log.part (now d) f n)=(false,[],1):=by
    rcases aCw (Log.part (now d) f n) with ⟨_,_,_,_,h2⟩|⟨_,h2⟩
    ·exact absurd h2 hh
    ·exact h2
   rw [hR] at hfull;dsimp only at hfull
   by_cases hg0:(wr d f (headL (N+1))).1≠0
   ·rw [if_pos hg0];exact ⟨fun g m hg hb=>aEq h hr hg hb fates,fun ht=>aF6 h hr (by omega) ht fates⟩
   ·rw [if_neg hg0];have hr0:(resetF d f N).1=0:=by unfold resetF;simpa using hg0
    obtain ⟨u1,u2,u3,u4,u5⟩:=aDr h (by omega) hr0;have uin:=u1.in_;have hL:1+(leafs (N+2) (manyOf b.length) b).length≤n:=by rw [aAb];omega
    have ha:after (resetF d f N) fates=(resetF d f N).2:=by unfold after;rw [if_pos hr0]
    refine ⟨fun g m hg hb=>?_,fun ht=>?_⟩
    ·have h1:=aEq h hr hg hb fates;rw [ha] at h1;exact (aFk (d:=(resetF d f N).2) (e:=1) u1.on u3 u1.in_ hL (aB6 _ _ _) (by rw [u4];exact hg) hb fates).trans h1
    ·have h1:=aF6 h hr (by omega) ht fates;rw [ha] at h1;exact aK2 (d:=(resetF d f N).2) (e:=1) (s:=N+2) u1 u3 hL (aB6 _ _ _) (by omega) (aJy (by omega)) (aO5 _ _ _) h1 fates
structure Area (d:DK) (f p N:Nat) (k:Kp):Prop where
 up:Up d f p N
 tame:TameP (Log.part (now d) f p)
 recs:∃rs:List Rec,(Recs (Log.part (now d) f p)).2.1=rs.map Rec.text∧Reads p Kp.zero rs k
theorem Area.fine {d:DK} {f p N:Nat} {k:Kp} (h:Area d f p N k):Fine k:=by
 obtain ⟨_,_,rs,_,h⟩:=h;exact h.fine Fine.zero
theorem Area.mono {d:DK} {f p N M:Nat} {k:Kp} (h:Area d f p N k) (hm:N≤M):Area d f p M k:=⟨h.up.mono hm,h.tame,h.recs⟩
theorem Area.side {d d':DK} {f p N:Nat} {k:Kp} (h:Area d f p N k) (h1:Ok d') (h2:d'.dead=false) (h3:d'.pages.length=d.pages.length) (h4:Log.part (now d') f p=Log.part (now d) f p):Area d' f p N k:=
 ⟨⟨h1,h2,h.up.two,by rw [h3];exact h.up.in_,by rw [h4];exact h.up.low⟩,by rw [h4];exact h.tame,by rw [h4];exact h.recs⟩
theorem Ok.resetF {d:DK} (h:Ok d) (f N:Nat):Ok (resetF d f N).2:=Ok.wr _ _ _ h
theorem Ok.commitF {d:DK} (h:Ok d) (f n N:Nat) (b:List UInt8):Ok (commitF d f n N b).1.2:=by
 unfold Log.commitF;split
 ·exact h
 ·split
  ·exact h
  ·split
   ·exact Ok.wr _ _ _ h
   ·split
    ·exact Ok.wr _ _ _ h
    ·exact Ok.wr _ _ _ (Ok.wr _ _ _ h)
theorem Area.commit {d:DK} {f p N:Nat} {k:Kp} {r:Rec} (h:Area d f p N k) (hr:d.row=[]) (hN:N+2<65536) (hp:p<65536) (hm:r.may k) (hf:fits (r.run k) p=true) (h0:(commitF d f p N r.text).1.1=0):
  Area (commitF d f p N r.text).1.2 f p (N+2) (r.run k)∧(commitF d f p N r.text).1.2.row=[]∧(commitF d f p N r.text).1.2.pages.length=d.pages.length:=by
 obtain ⟨c1,c2,c3,c4,c5,c6⟩:=aJq h.up (by omega) hp h0;have hs:=(aD7 (b:=r.text) h.up hr hN (by rw [h0];decide) []).2 h.tame;have ha:after (Log.commitF d f p N r.text).1 []=(Log.commitF d f p N r.text).1.2:=by unfold after;rw [if_pos h0]
 rw [ha] at hs;obtain ⟨rs,e,hrd⟩:=h.recs;refine ⟨⟨c1.mono c6,hs,rs++[r],?_,hrd.snoc hm hf⟩,c3,c4⟩;rw [c2,List.map_append,e];rfl
theorem Area.lost {d:DK} {f p N:Nat} {k:Kp} {r:Rec} (h:Area d f p N k) (hr:d.row=[]) (hN:N+2<65536) (hp:p<65536) (hm:r.may k) (hf:fits (r.run k) p=true) (h0:(commitF d f p N r.text).1.1≠0) (h4:(commitF d f p N r.text).1.1≠4) (fates:List Int):
  (Area ((commitF d f p N r.text).1.2.restart fates) f p (Log.upTo (N+2)) k∨Area ((commitF d f p N r.text).1.2.restart fates) f p (Log.upTo (N+2)) (r.run k))∧(commitF d f p N r.text).1.2.pages.length=d.pages.length∧(commitF d f p N r.text).1.1=9∧(commitF d f p N r.text).1.2.dead=true:=by
 obtain ⟨c1,c2,c3,c4,c5⟩:=aFg h.up hr hN hp h0 h4;have hs:=(aD7 (b:=r.text) h.up hr hN h4 fates).2 h.tame;have ha:after (Log.commitF d f p N r.text).1 fates=(Log.commitF d f p N r.text).1.2.restart fates:=by unfold after;rw [if_neg h0]
 rw [ha] at hs;obtain ⟨rs,e,hrd⟩:=h.recs;obtain ⟨u,q⟩:=c5 fates;refine ⟨?_,c4,c1,c2⟩;rcases q with q|q
 ·exact .inl ⟨u,hs,rs,q.trans e,hrd⟩
 ·exact .inr ⟨u,hs,rs++[r],by rw [q,List.map_append,e];rfl,hrd.snoc hm hf⟩
theorem Area.reset {d:DK} {f p N:Nat} {k:Kp} (h:Area d f p N k) (hr:d.row=[]) (hN:N+2<65536) (h0:(resetF d f N).1=0):
  Area (resetF d f N).2 f p (N+1) Kp.zero∧(Recs (Log.part (now (resetF d f N).2) f p))=(true,[],1)∧(resetF d f N).2.row=[]∧(resetF d f N).2.pages.length=d.pages.length:=by
 obtain ⟨c1,c2,c3,c4,c5⟩:=aDr h.up (by omega) h0;have hs:=aF6 h.up hr (by omega) h.tame [];have ha:after (Log.resetF d f N) []=(Log.resetF d f N).2:=by unfold after;rw [if_pos h0]
 rw [ha] at hs;exact ⟨⟨c1,hs,[],by rw [c2];rfl,.nil _⟩,c2,c3,c4⟩
theorem Area.unset {d:DK} {f p N:Nat} {k:Kp} (h:Area d f p N k) (hr:d.row=[]) (hN:N+2<65536) (h0:(resetF d f N).1≠0) (fates:List Int):
  (Area ((resetF d f N).2.restart fates) f p (Log.upTo (N+2)) k∨Area ((resetF d f N).2.restart fates) f p (Log.upTo (N+2)) Kp.zero)∧(resetF d f N).2.pages.length=d.pages.length∧(resetF d f N).1=9∧(resetF d f N).2.dead=true:=by
 obtain ⟨c1,c2,c3,c4,c5⟩:=aF2 h.up hr (by omega) h0;have hs:=aF6 h.up hr (by omega) h.tame fates;have ha:after (Log.resetF d f N) fates=(Log.resetF d f N).2.restart fates:=by unfold after;rw [if_neg h0]
 rw [ha] at hs;obtain ⟨rs,e,hrd⟩:=h.recs;obtain ⟨u,q⟩:=c5 fates;have u:=u.mono (aDk (show N+1≤N+2 by omega));refine ⟨?_,c4,c1,c2⟩;rcases q with q|q
 ·exact .inl ⟨u,hs,rs,by rw [q,e],hrd⟩
 ·exact .inr ⟨u,hs,[],by rw [q];rfl,.nil _⟩
end Go.Proofs.YtgjmbbkcgillcaaGreat.Sto
namespace Go.Proofs.YtgjmbbkcgillcaaGreat.Disk
open Go.RowKit
def Ans (v:Value) (w:World) (e:Ending) (w':World):Prop:=e=.returned v∧w=w'
theorem aWb (w:World):Calls Tryz.prog 205 #[.pointer none] w (Ans (.int .i64 8) w):=by
 go_enter Tryz.func205,Tryz.ntmps205
 go_wp2_with fail;go_ret;exact ⟨rfl,rfl⟩
theorem aJi {w:World} {X:Nat→Prop} {g:Nat} {d:DK} (h:DkAt w X g d):Calls Tryz.prog 205 #[.pointer (some ⟨g,0,none⟩)] w (Ans (.int .i64 d.fault) w):=by
 obtain ⟨p,A,c,h⟩:=h;obtain ⟨-,-,h2,-⟩:=h.cells;unfold DK.fault;cases hd:d.dead
 ·rw [hd] at h2;clear h hd;rw [if_neg (by decide)];go_enter Tryz.func205,Tryz.ntmps205
  go_wp2_with fail;go_ret;exact ⟨rfl,rfl⟩
 ·rw [hd] at h2;clear h hd;rw [if_pos rfl];go_enter Tryz.func205,Tryz.ntmps205
  go_wp2_with fail;go_ret;exact ⟨rfl,rfl⟩
theorem aR6 {w:World} {X:Nat→Prop} {g:Nat} {d:DK} (h:DkAt w X g d):Calls Tryz.prog 66 #[.pointer (some ⟨g,0,none⟩)] w (Ans (.int .i64 (d.pages.length:Int)) w):=by
 obtain ⟨p,A,c,h⟩:=h;obtain ⟨h0,-⟩:=h.cells;clear h;go_enter Tryz.func66,Tryz.ntmps66
 go_wp2_with fail;go_ret;exact ⟨rfl,rfl⟩
theorem aCo {w:World} {X:Nat→Prop} {g:Nat} {d:DK} (h:DkAt w X g d):Calls Tryz.prog 39 #[.pointer (some ⟨g,0,none⟩)] w (Ans (.bool d.dead) w):=by
 obtain ⟨p,A,c,h⟩:=h;obtain ⟨-,-,h0,-⟩:=h.cells;clear h;go_enter Tryz.func39,Tryz.ntmps39
 go_wp2_with fail;go_ret;exact ⟨rfl,rfl⟩
theorem bB9 (k:Int) (w:World):Calls Tryz.prog 175 #[.pointer none,.int .i64 k] w (Ans (.int .i64 8) w):=by
 go_enter Tryz.func175,Tryz.ntmps175
 go_wp2_with fail;refine (aWb w).mono ?_;rintro e w1 ⟨rfl,rfl⟩;go_wp2_with fail;go_ret;exact ⟨rfl,rfl⟩
theorem aFn {w:World} {X:Nat→Prop} {g:Nat} {d:DK} (h:DkAt w X g d) (k:Int):Calls Tryz.prog 175 #[.pointer (some ⟨g,0,none⟩),.int .i64 k] w (Ans (.int .i64 (d.faultAt k)) w):=by
 have cf:=aJi h;obtain ⟨p,A,c,h⟩:=h;obtain ⟨h0,-⟩:=h.cells;have hok:=h.ok;have hmany:=hok.many;generalize hn:d.pages.length=n at*;unfold DK.fault at cf;unfold DK.faultAt;rw [hn];clear h hok hn;by_cases hd:d.dead=true
 ·rw [if_pos hd] at cf;rw [if_pos hd];clear hd;go_enter Tryz.func175,Tryz.ntmps175
  go_wp2_with fail;refine cf.mono ?_;rintro e w1 ⟨rfl,rfl⟩;go_wp2_with fail;go_ret;exact ⟨rfl,rfl⟩
 ·rw [if_neg hd] at cf;rw [if_neg hd];clear hd;by_cases h1:k<0
  ·rw [if_pos (.inl h1)];go_enter Tryz.func175,Tryz.ntmps175
   go_wp2_with fail;refine cf.mono ?_;rintro e w1 ⟨rfl,rfl⟩;go_wp2_with fail;go_ret;exact ⟨rfl,rfl⟩
  ·by_cases h2:(n:Int)≤k
   ·rw [if_pos (.inr h2)];go_enter Tryz.func175,Tryz.ntmps175
    go_wp2_with fail;refine cf.mono ?_;rintro e w1 ⟨rfl,rfl⟩;go_wp2_with fail;go_ret;exact ⟨rfl,rfl⟩
   ·rw [if_neg (fun h=>h.elim h1 h2)];go_enter Tryz.func175,Tryz.ntmps175
    go_wp2_with fail;refine cf.mono ?_;rintro e w1 ⟨rfl,rfl⟩;go_wp2_with fail;go_ret;exact ⟨rfl,rfl⟩
def Turns (v:Value) (X:Nat→Prop) (g:Nat) (d':DK) (w:World) (e:Ending) (w':World):Prop:=
 e=.returned v∧∃X',DkAt w' X' g d'∧Out X w w'∧∀k,X' k→X k∨w.heap.size≤k
theorem At.left {w:World} {X:Nat→Prop} {g p:Nat} {A:Option Addr} {c:Nat} {d:DK} (h:At w X g p A c d) (z:Int) (h1:-9223372036854775808≤z) (h2:z≤9223372036854775807):
  At (w.setCell ⟨g,3,none⟩ (.int .i64 z)) X g p A c {d with left:=z}:=by
 have ho:=Out.setCell (X:=(·=g)) w (p:=⟨g,3,none⟩) rfl (.int .i64 z);refine ⟨h.bk.set 3 _,h.pg.kept (ho.block p h.pg.lt (fun e=>h.ne e.symm)),?_,h.xg,h.xp,h.xr,h.ne,h.ok.set rfl h.ok.pages h.ok.row h1 h2,fun k hk=>Nat.lt_of_lt_of_le (h.lt k hk) ho.size⟩;refine ⟨h.own.1,?_⟩;rcases h.own.2 with h1|⟨r,cap,cur,h1,h2,h3,h4⟩
 ·exact .inl h1
 ·refine .inr ⟨r,cap,cur,h1,h2,?_,h4⟩;injection h1 with e1;rw [ho.block r (Array.getElem?_eq_some_iff.1 h3).1 (h.xr ⟨r,0,none⟩ e1).2.1];exact h3
theorem At.deadTo {w:World} {X:Nat→Prop} {g p:Nat} {A:Option Addr} {c:Nat} {d:DK} (h:At w X g p A c d) (b:Bool):
  At (w.setCell ⟨g,2,none⟩ (.bool b)) X g p A c {d with dead:=b}:=by
 have ho:=Out.setCell (X:=(·=g)) w (p:=⟨g,2,none⟩) rfl (.bool b);refine ⟨h.bk.set 2 _,h.pg.kept (ho.block p h.pg.lt (fun e=>h.ne e.symm)),?_,h.xg,h.xp,h.xr,h.ne,h.ok.set rfl h.ok.pages h.ok.row h.ok.low h.ok.high,fun k hk=>Nat.lt_of_lt_of_le (h.lt k hk) ho.size⟩;refine ⟨h.own.1,?_⟩;rcases h.own.2 with h1|⟨r,cap,cur,h1,h2,h3,h4⟩
 ·exact .inl h1
 ·refine .inr ⟨r,cap,cur,h1,h2,?_,h4⟩;injection h1 with e1;rw [ho.block r (Array.getElem?_eq_some_iff.1 h3).1 (h.xr ⟨r,0,none⟩ e1).2.1];exact h3
theorem aR9 {w:World} {X:Nat→Prop} {g:Nat} {d:DK} (h:DkAt w X g d):Calls Tryz.prog 242 #[.pointer (some ⟨g,0,none⟩)] w (Turns (.int .i64 d.burn.1) X g d.burn.2 w):=by
 obtain ⟨p,A,c,h⟩:=h;obtain ⟨-,-,h2,h3,hf⟩:=h.cells;have hx:=Lib.hid (Out.setCell (X:=X) w (p:=⟨g,2,none⟩) h.xg (.bool true));have hy:=Lib.hid (Out.setCell (X:=X) w (p:=⟨g,3,none⟩) h.xg (.int .i64 (d.left - 1)));have hlow:=h.ok.low;have hhigh:=h.ok.high;have H:=Lib.hid h;unfold DK.burn;clear h;by_cases h0:d.left=0
 ·rw [if_pos h0];go_enter Tryz.func242,Tryz.ntmps242
  go_wp2_with fail;go_ret;exact ⟨rfl,X,⟨p,A,c,H.out.deadTo true⟩,hx.out,fun k hk=>.inl hk⟩
 ·rw [if_neg h0];by_cases h1:0<d.left
  ·rw [if_pos h1];have hw:wrap64 (d.left - 1)=d.left - 1:=IntWalk.wrap64_in _ (by omega);go_enter Tryz.func242,Tryz.ntmps242
   go_wp2_with fail;go_ret;exact ⟨rfl,X,⟨p,A,c,H.out.left (d.left - 1) (by omega) (by omega)⟩,hy.out,fun k hk=>.inl hk⟩
  ·rw [if_neg h1];go_enter Tryz.func242,Tryz.ntmps242
   go_wp2_with fail;go_ret;exact ⟨rfl,X,⟨p,A,c,H.out⟩,Out.refl X w,fun k hk=>.inl hk⟩
end Go.Proofs.YtgjmbbkcgillcaaGreat.Disk
namespace Go.Proofs.YtgjmbbkcgillcaaGreat.Disk
open Go.RowKit
section
variable {P:Program} {ops:Array Oper} {rest:List Oper} {op:Oper} {a:Act} {w:World} {Q:Exit→Act→World→Prop}
theorem aBb (hgd:op.guard=none) (ty:TypeId) (ho:op.op=.alloc ty) (cs:Array Value) (hz:(P.info? ty).map (·.zero)=some (some (.agg cs)))
  (h:Hid (∀V,V=w.alloc (.cells cs ty)→wpList P ops Q rest (a.put op.dst (.pointer (some ⟨w.heap.size,0,none⟩))) V)):wpList P ops Q (op::rest) a w:=by
 refine wpList_plain hgd fun K hK=>?_;unfold Oper.wp execOp;cases hq:P.info? ty with
 |none=>simp [hq] at hz
 |some i=>
  have hzz:i.zero=some (.agg cs):=by simpa [hq] using hz
  simp [ho,Instr.alloc,zeroValue,typeInfo,hq,hzz,newVar,newRow,Value.cells];exact hK _ _ (h.out _ rfl)
theorem aB8 (hgd:op.guard=none) (ty:TypeId) (x y:Operand) (ho:op.op=.store ty x y)
  (w0:World) (old cells:Array Value) (t:TypeId) (hw:w=w0.alloc (.cells old t)) (hx:a.eval x=.pointer (some ⟨w0.heap.size,0,none⟩)) (hy:a.eval y=.agg cells)
  (hi:(P.info? ty).map (·.size)=some cells.size) (hold:old.size=cells.size) (h1:cells.all (·.oneCell')=true)
  (h:Hid (∀V,V=w0.alloc (.cells cells t)→wpList P ops Q rest (a.put op.dst undef) V)):wpList P ops Q (op::rest) a w:=by
 subst hw;refine wpList_store_row hgd ty x y ho w0.heap.size cells hx hy t old (heap_alloc_last w0 _) hi hold h1 ?_;rw [World.setRow_alloc_new];exact h.out _ rfl
theorem aC0 (hgd:op.guard=none) (ty:TypeId) (x:Operand) (ho:op.op=.load ty x)
  (b o:Nat) (hx:a.eval x=.pointer (some ⟨b,o,none⟩)) (cs:List Value) (d:TypeDesc) (hc:w.rangeAt b o cs)
  (hu:P.underlying ty=some d) (hd:d.isRow=true) (hi:(P.info? ty).map (·.size)=some cs.length)
  (h:wpList P ops Q rest (a.put op.dst (.agg cs.toArray)) w):wpList P ops Q (op::rest) a w:=
 wpList_load_mid hgd ty x ho b o hx cs d hc hu hd hi h
end
theorem aOe {w:World} {b o:Nat} {cs:List Value} (h:w.rangeAt b o cs) (k:Nat):w.rangeAt b (o+k) (cs.drop k):=fun j v hv=>by
 rw [List.getElem?_drop] at hv;have:=h (k+j) v hv;rwa [show o+(k+j)=o+k+j by omega] at this
def zeros:List UInt8:=List.replicate 512 0
theorem aB5:zeros.length=512:=List.length_replicate
theorem aM0:zeros.map U=List.replicate 512 (.int .u8 0):=by
 unfold zeros;rw [List.map_replicate];rfl
theorem aO4:(Tryz.prog.info? 169).map (·.zero)=some (some (.agg (zeros.map U).toArray)):=by rw [aM0];kernel_rfl
theorem aNf:(Tryz.prog.info? 169).map (·.size)=some 512:=by kernel_rfl
theorem aL5 {b:List UInt8} (h:b.length=512):(Tryz.prog.info? 169).map (·.size)=some (b.map U).length:=by rw [aNf,List.length_map,h]
theorem aDm {b:List UInt8} (h:b.length=512):(Tryz.prog.info? 169).map (·.size)=some (b.map U).toArray.size:=by rw [aNf];simp [h]
def wrC (x:Nat×List UInt8):List Value:=.int .i64 (x.1:Int)::x.2.map U
theorem aT0 {x:Nat×List UInt8} (h:x.2.length=512):(wrC x).length=513:=by simp [wrC,h]
theorem aTt:(Tryz.prog.info? 171).map (·.zero)=some (some (.agg (wrC (0,zeros)).toArray)):=by unfold wrC;dsimp only;rw [aM0];kernel_rfl
theorem aEk:(Tryz.prog.info? 171).map (·.size)=some 513:=by kernel_rfl
theorem aVj (x:Nat×List UInt8):∀v∈wrC x,v.oneCell'=true:=by
 intro v hv;rcases List.mem_cons.1 hv with rfl|hv
 ·rfl
 ·exact aM9 _ v hv
theorem aMe (b:List UInt8):(b.map U).toArray.all (·.oneCell')=true:=all_oneCell_toArray (aM9 b)
theorem Pg.range {w:World} {p:Nat} {ps:List (List UInt8)} (h:Pg w p ps) {k:Nat} (hk:k<ps.length):w.rangeAt p (k*512) ((ps.getD k []).map U):=by
 refine h.cells k _ ?_;rw [List.getD_eq_getElem?_getD,List.getElem?_eq_getElem hk];rfl
theorem At.row_at {w:World} {X:Nat→Prop} {g p:Nat} {A:Option Addr} {c:Nat} {d:DK} (h:At w X g p A c d) {i:Nat} {x:Nat×List UInt8} (hx:d.row[i]? =some x):
  ∃r,A=some ⟨r,0,none⟩∧X r∧r≠g∧r≠p∧w.rangeAt r (i*513) (wrC x)∧d.row.length≤c:=by
 have hi:i<d.row.length:=(List.getElem?_eq_some_iff.1 hx).1;rcases h.own.2 with ⟨_,h1⟩|⟨r,cap,cur,h1,h2,h3,h4,h5,h6,h7⟩
 ·omega
 ·injection h1 with e1 _ e3;subst e1 e3;have hxr:=h.xr ⟨r,0,none⟩ rfl;refine ⟨r,rfl,hxr.1,hxr.2.1,hxr.2.2,fun j v hv=>?_,h4⟩;have hc:=bAr h.ok.row hx j v hv;have hlt:i*513+j<(rowV d.row).length:=(List.getElem?_eq_some_iff.1 hc).1;rw [aPd h.ok.row] at hlt;rw [←h7,List.getElem?_take] at hc;rw [if_pos hlt] at hc;rw [cell_of_row w r _ _ _ _ h3];simpa using hc
end Go.Proofs.YtgjmbbkcgillcaaGreat.Disk
namespace Go.Proofs.YtgjmbbkcgillcaaGreat.Disk
open Go.RowKit
def bAn (d:DK) (k:Nat) (i:Value):Prop:=∃m:Nat,m≤d.row.length∧i=.int .i64 ((m:Int) - 1)∧∀x∈d.row.drop m,x.1≠k
theorem bBo {d:DK} {k m:Nat} (hm:m<d.row.length) (h:∀x∈d.row.drop (m+1),x.1≠k) (he:(d.row[m]).1=k):d.seen k=(d.row[m]).2:=by
 unfold DK.seen;have e:d.row=d.row.take m++(d.row[m]::d.row.drop (m+1)):=by rw [List.getElem_cons_drop,List.take_append_drop]
 generalize d.row[m]=x at*;rw [e,aMv];show seenL (d.row.drop (m+1)) k (if x.1=k then x.2 else _)=x.2;rw [if_pos he,aL6 h]
theorem aX2 {d:DK} {k:Nat} (h:∀x∈d.row.drop 0,x.1≠k):d.seen k=d.pages.getD k []:=aL6 (by simpa using h) _
set_option maxRecDepth 100000 in
theorem aX4 {w:World} {X:Nat→Prop} {g:Nat} {d:DK} (h:DkAt w X g d) (k:Nat) (hk:k<d.pages.length) (hn:d.row.length≤1000000):
  Calls Tryz.prog 176 #[.pointer (some ⟨g,0,none⟩),.int .i64 (k:Int)] w fun e w'=>e=.returned (.agg ((d.seen k).map U).toArray)∧Below w.heap.size w w':=by
 have hlen:=Lib.hid (h.ok.seen hk);obtain ⟨p,A,c,h⟩:=h;have H:=Lib.hid h;have HK:=Lib.hid hk;have hmany:=h.ok.many;obtain ⟨RES,hres⟩:∃RES,RES=d.seen k:=⟨_,rfl⟩;have HRES:=Lib.hid hres;rw [←hres] at hlen ⊢;clear h hres;obtain ⟨V,hV⟩:∃V,V=w.alloc (.cells (zeros.map U).toArray 169):=⟨_,rfl⟩;have HVE:=Lib.hid hV;have HVB:Hid (Below w.heap.size w V):=by show Below _ _ _;rw [hV];exact (Below.refl _ _).alloc (Nat.le_refl _) _
 have HA:=Lib.hid (H.out.below HVB.out);have BV2:Hid (∀b:List UInt8,b.length=512→Below w.heap.size w (w.alloc (.cells (b.map U).toArray 169))∧(w.alloc (.cells (b.map U).toArray 169)).heap[w.heap.size]? =some (.cells (b.map U).toArray 169 (0,0))):=fun b _=>⟨(Below.refl _ _).alloc (Nat.le_refl _) _,heap_alloc_last _ _⟩;go_enter Tryz.func176,Tryz.ntmps176
 go_wp2_with ((with_reducible refine aBb ?_ 169 ?_ _ aO4 ?_);(exact rfl);(exact rfl))
 refine Lib.hid ?_;rw [←hV];generalize hsz:w.heap.size=N at*;clear hV;obtain ⟨h0,h1,-,-,-⟩:=HA.out.cells;generalize hL:d.row.length=L at*;generalize hPL:d.pages.length=PL at*;have hw1:wrap64 ((L:Int) - 1)=(L:Int) - 1:=IntWalk.wrap64_in _ (by omega);go_wp2_with fail
 go_loop [5] (fun i=>bAn d k i) (fun i=>(intOf i+1).toNat)
 case atStart=>exact ⟨d.row.length,Nat.le_refl _,by rw [hL],by simp⟩
 case round=>
  obtain ⟨m,hm,rfl,hno⟩:=hrel;cases m with
  |zero=>
   have hsn:=aX2 hno;rw [←HRES.out] at hsn;have hr:=HA.out.pg.range (k:=k) (by omega);rw [←hsn] at hr;have HR:=Lib.hid hr;clear hr hsn hno;have h00:((0:Nat):Int) - 1=-1:=rfl;rw [h00];go_wp2_with (first
    |((with_reducible refine aC0 ?_ 169 (.tmp 39) ?_ p (k*512) ?_ (RES.map U) _ ?_ Tryz.underlying169 rfl (aL5 hlen.out) ?_);(exact rfl);(exact rfl);(exact rfl);(exact HR.out))
    |((with_reducible refine aB8 ?_ 169 (.tmp 4) (.tmp 40) ?_ w _ _ _ HVE.out ?_ ?_ (aDm hlen.out) (by simp [hlen.out,aB5]) (aMe _) ?_);(exact rfl);(exact rfl);(show Value.pointer (some ⟨N,0,none⟩)=_;rw [hsz]);(exact rfl)))
   refine Lib.hid ?_;obtain ⟨hb,hkk⟩:=BV2.out RES hlen.out;generalize w.alloc (.cells (RES.map U).toArray 169)=W2 at*;go_wp2_with fail;refine bodyPost_ret (results_cell_row rfl _ _ N 169 _ (0,0) _ rfl hkk Tryz.underlying169 rfl (aDm hlen.out)) rfl ?_;exact ⟨rfl,by rw [hsz];exact hb⟩
  |succ m=>
   have hmL:m<d.row.length:=hm;have hmL2:m<L:=by omega
   obtain ⟨r,rfl,hxr,hrg,hrp,hrange,hLc⟩:=HA.out.row_at (List.getElem?_eq_getElem hmL);rw [hL] at hLc;have hi:(((m+1:Nat):Int) - 1)=(m:Int):=by omega
   rw [hi];have hc:=hrange 0 _ rfl;rw [Nat.add_zero] at hc;have hrg2:=aOe hrange 1;have hsn:=fun he=>bBo (k:=k) hmL hno he;rw [←HRES.out] at hsn;unfold wrC at hrg2;simp only [List.drop_succ_cons,List.drop_zero] at hrg2;have HNO:Hid (∀he:(d.row[m]).1≠k,∀x∈d.row.drop m,x.1≠k):=by
    intro he x hx;rw [←List.getElem_cons_drop hmL] at hx;rcases List.mem_cons.1 hx with rfl|hx
    ·exact he
    ·exact hno x hx
   clear hno hrange;generalize d.row[m]=x at*;by_cases he:x.1=k
   ·have e2:=hsn he;rw [←e2] at hrg2;have HR:=Lib.hid hrg2;clear hrg2 hsn e2 HNO;rw [he] at hc;go_wp2_with (first
     |((with_reducible refine aC0 ?_ 169 (.tmp 32) ?_ r (m*513+1) ?_ (RES.map U) _ ?_ Tryz.underlying169 rfl (aL5 hlen.out) ?_);(exact rfl);(exact rfl);(exact rfl);(exact HR.out))
     |((with_reducible refine aB8 ?_ 169 (.tmp 4) (.tmp 33) ?_ w _ _ _ HVE.out ?_ ?_ (aDm hlen.out) (by simp [hlen.out,aB5]) (aMe _) ?_);(exact rfl);(exact rfl);(show Value.pointer (some ⟨N,0,none⟩)=_;rw [hsz]);(exact rfl)))
    refine Lib.hid ?_;obtain ⟨hb,hkk⟩:=BV2.out RES hlen.out;generalize w.alloc (.cells (RES.map U).toArray 169)=W2 at*;go_wp2_with fail;refine bodyPost_ret (results_cell_row rfl _ _ N 169 _ (0,0) _ rfl hkk Tryz.underlying169 rfl (aDm hlen.out)) rfl ?_;exact ⟨rfl,by rw [hsz];exact hb⟩
   ·clear hrg2 hsn;have hne:¬((x.1:Int)=(k:Int)):=by omega
    go_wp2_with fail;exact ⟨⟨m,by omega,rfl,HNO.out he⟩,by simp [intOf]⟩
end Go.Proofs.YtgjmbbkcgillcaaGreat.Disk
namespace Go.Proofs.YtgjmbbkcgillcaaGreat.Disk
open Go.RowKit
theorem bB1 {w:World} {X:Nat→Prop} {g:Nat} {d:DK} (h:DkAt w X g d) (k:Int) (hf:d.faultAt k≠0):
  Calls Tryz.prog 153 #[.pointer (some ⟨g,0,none⟩),.int .i64 k] w (Ans (.tuple #[.slice none 0 0,.int .i64 (d.faultAt k)]) w):=by
 have cf:=aJi h;have cf:=aFn h k;generalize d.faultAt k=z at*;go_enter Tryz.func153,Tryz.ntmps153
 go_wp2_with fail;refine cf.mono ?_;rintro e w1 ⟨rfl,rfl⟩;go_wp2_with fail
 go_ret2
 exact ⟨rfl,rfl⟩
def aQ5 (b:List UInt8) (w:World) (e:Ending) (w':World):Prop:=
 ∃h,e=.returned (.tuple #[.slice (some ⟨h,0,none⟩) 512 512,.int .i64 0])∧Bk w' h 169 (b.map U).toArray∧w.heap.size≤h∧Below w.heap.size w w'
set_option maxRecDepth 100000 in
theorem aQ8 {w:World} {X:Nat→Prop} {g:Nat} {d:DK} (h:DkAt w X g d) (k:Nat) (hf:d.faultAt (k:Int)=0) (hn:d.row.length≤1000000):
  Calls Tryz.prog 153 #[.pointer (some ⟨g,0,none⟩),.int .i64 (k:Int)] w (aQ5 (d.seen k) w):=by
 have cf:=aFn h (k:Int);rw [hf] at cf;have hk:k<d.pages.length:=by have:=(aEi hf).2.2;omega
 have hlen:=Lib.hid (h.ok.seen hk);have cs:=aX4 h k hk hn;generalize d.seen k=b at*;clear hf hk hn h;go_enter Tryz.func153,Tryz.ntmps153
 go_wp2_with fail;refine cf.mono ?_;rintro e w1 ⟨rfl,rfl⟩;go_wp2_with fail;refine cs.mono ?_;rintro e w1 ⟨rfl,hb⟩;have B1:=Lib.hid hb;have HNEW:=Lib.hid (fun cs:Array Value=>Bk.new w1 169 cs);have HBEL:Hid (∀cs:Array Value,Below w.heap.size w (w1.alloc (.cells cs 169))):=fun cs=>B1.out.alloc B1.out.size _;clear hb cf cs;obtain ⟨V,hV⟩:∃V,V=w1.alloc (.cells (zeros.map U).toArray 169):=⟨_,rfl⟩;have HVE:=Lib.hid hV;go_wp2_with ((with_reducible refine aBb ?_ 169 ?_ _ aO4 ?_);(exact rfl);(exact rfl))
 refine Lib.hid ?_;rw [←hV];have HSZ:=Lib.hid B1.out.size;generalize hsz:w1.heap.size=N at*;clear hV;go_wp2_with ((with_reducible refine aB8 ?_ 169 (.tmp 7) (.tmp 16) ?_ w1 _ _ _ HVE.out ?_ ?_ (aDm hlen.out) (by simp [hlen.out,aB5]) (aMe _) ?_);(exact rfl);(exact rfl);(show Value.pointer (some ⟨N,0,none⟩)=_;rw [hsz]);(exact rfl))
 refine Lib.hid ?_;have hbk:=HNEW.out (b.map U).toArray;have hbe:=HBEL.out (b.map U).toArray;generalize w1.alloc (.cells (b.map U).toArray 169)=W2 at*;have HBK:=Lib.hid hbk;have HBE:=Lib.hid hbe;clear hbk hbe HNEW HBEL;go_wp2_with fail
 go_ret2
 exact ⟨N,rfl,HBK.out,HSZ.out,HBE.out⟩
def Done (X:Nat→Prop) (g:Nat) (d':DK) (w:World) (e:Ending) (w':World):Prop:=
 e=.returned (.tuple #[])∧∃X',DkAt w' X' g d'∧Out X w w'∧∀k,X' k→X k∨w.heap.size≤k
theorem aZa {w:World} {X:Nat→Prop} {g:Nat} {d:DK} (h:DkAt w X g d):Calls Tryz.prog 22 #[.pointer (some ⟨g,0,none⟩)] w (Done X g d.kill w):=by
 obtain ⟨p,A,c,h⟩:=h;obtain ⟨-,-,h2,-,hf⟩:=h.cells;have hx:=Lib.hid (Out.setCell (X:=X) w (p:=⟨g,2,none⟩) h.xg (.bool true));have H:=Lib.hid h;clear h;go_enter Tryz.func22,Tryz.ntmps22
 go_wp2_with fail
 go_end0
 exact ⟨rfl,X,⟨p,A,c,H.out.deadTo true⟩,hx.out,fun k hk=>.inl hk⟩
end Go.Proofs.YtgjmbbkcgillcaaGreat.Disk
