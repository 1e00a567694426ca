/- Lemmas, part 9: LogPureAll -/
import Derived.Test.YtgjmbbkcgillcaaGreatPart1
import Derived.Test.YtgjmbbkcgillcaaGreatPart8
set_option maxHeartbeats 16000000
namespace Go.Proofs.YtgjmbbkcgillcaaGreat.Log
open Go.RowKit
def num (bs:List UInt8):Nat:=bs.foldl (fun v b=>v*256+b.toNat) 0
theorem aHm:∀(b:List UInt8) (v:Nat),b.foldl (fun v b=>v*256+b.toNat) v=v*256^b.length+num b
 |[],v=>by simp [num]
 |x::b,v=>by
  have e:num (x::b)=x.toNat*256^b.length+num b:=by
   show b.foldl _ (0*256+x.toNat)=_;rw [aHm b,Nat.zero_mul,Nat.zero_add]
  rw [List.foldl_cons,aHm b,e,List.length_cons,Nat.pow_succ,Nat.add_mul,Nat.mul_assoc,Nat.mul_comm 256,Nat.add_assoc]
theorem aCt (a b:List UInt8):num (a++b)=num a*256^b.length+num b:=by
 show (a++b).foldl _ 0=_;rw [List.foldl_append];exact aHm b _
theorem aE0:∀(k x:Nat),num (be k x)=x % 256^k
 |0,x=>by rw [be,Nat.pow_zero,Nat.mod_one];rfl
 |k+1,x=>by
  have e:be (k+1) x=[UInt8.ofNat (x / 256^k)]++be k x:=rfl;rw [e,aCt,aE0 k x,aA1];have h1:num [UInt8.ofNat (x / 256^k)]=x / 256^k % 256:=by simp [num]
  rw [h1,Nat.pow_succ,Nat.mod_mul,Nat.mul_comm (256^k),Nat.add_comm]
theorem aJ0:∀(bs:List UInt8),be bs.length (num bs)=bs
 |[]=>rfl
 |b::bs=>by
  have e:num (b::bs)=b.toNat*256^bs.length+num bs:=by
   have:=aCt [b] bs;simpa [num] using this
  have hlt:num bs<256^bs.length:=by
   have h1:=aE0 bs.length (num bs);rw [aJ0 bs] at h1;rw [h1];exact Nat.mod_lt _ (Nat.pow_pos (by decide))
  rw [List.length_cons,be,e]
  congr 1
  ·rw [Nat.add_comm,Nat.add_mul_div_right _ _ (Nat.pow_pos (by decide)),Nat.div_eq_of_lt hlt,Nat.zero_add];simp
  ·have:be bs.length (b.toNat*256^bs.length+num bs)=be bs.length (num bs):=by
    have key:∀(k c x:Nat),be k (c*256^k+x)=be k x:=by
     intro k
     induction k with
     |zero=>intro c x;rfl
     |succ k ih=>
      intro c x;have e1:c*256^(k+1)+x=(c*256)*256^k+x:=by rw [Nat.pow_succ,Nat.mul_comm (256^k),Nat.mul_assoc]
      rw [be,be,e1,ih]
      congr 1
      rw [Nat.add_comm,Nat.add_mul_div_right _ _ (Nat.pow_pos (by decide))];apply UInt8.toNat_inj.1
      simp
    exact key _ _ _
   rw [this,aJ0 bs]
theorem aFe (bs:List UInt8):num bs<256^bs.length:=by
 have h:=aE0 bs.length (num bs);rw [aJ0] at h;rw [h];exact Nat.mod_lt _ (Nat.pow_pos (by decide))
def bodyP (s a o:Nat) (b:List UInt8):List UInt8:=be 8 s++(be 2 a++(be 2 o++(be 4 b.length++(b++List.replicate (480 - b.length) 0))))
def leafP (s a o:Nat) (b:List UInt8):List UInt8:=bodyP s a o b++((be 8 (Crc.sum (bodyP s a o b))).reverse++be 8 s)
def first8 (p:List UInt8):Nat:=num (p.take 8)
def last8 (p:List UInt8):Nat:=num (p.drop 504)
def says (p:List UInt8):Option (Nat×Nat×Nat×List UInt8):=
 if first8 p=0∨480<num ((p.drop 12).take 4) then none
 else if leafP (first8 p) (num ((p.drop 8).take 2)) (num ((p.drop 10).take 2)) ((p.drop 16).take (num ((p.drop 12).take 4)))=p then some (first8 p,num ((p.drop 8).take 2),num ((p.drop 10).take 2),(p.drop 16).take (num ((p.drop 12).take 4)))
 else none
theorem aD6 {s a o:Nat} {b:List UInt8} (hb:b.length≤480):(bodyP s a o b).length=496:=by
 simp only [bodyP,List.length_append,aA1,List.length_replicate];omega
theorem aCc {s a o:Nat} {b:List UInt8} (hb:b.length≤480):(leafP s a o b).length=512:=by
 simp only [leafP,List.length_append,aA1,List.length_reverse,aD6 hb]
theorem aTi (s a o:Nat) (b:List UInt8):(leafP s a o b).take 8=be 8 s:=by
 unfold leafP bodyP;rw [List.append_assoc];exact List.take_left' (aA1 8 s)
theorem aSw {s a o:Nat} {b:List UInt8} (hb:b.length≤480):(leafP s a o b).drop 504=be 8 s:=by
 unfold leafP;rw [←List.append_assoc];exact List.drop_left' (by rw [List.length_append,aD6 hb,List.length_reverse,aA1])
theorem aJ9 {s a o:Nat} {b:List UInt8} (hs:s<18446744073709551616):first8 (leafP s a o b)=s:=by
 unfold first8;rw [aTi,aE0];exact Nat.mod_eq_of_lt hs
theorem aL0 {s a o:Nat} {b:List UInt8} (hb:b.length≤480) (hs:s<18446744073709551616):last8 (leafP s a o b)=s:=by
 unfold last8;rw [aSw hb,aE0];exact Nat.mod_eq_of_lt hs
theorem aJx (s a o:Nat) (b:List UInt8):((leafP s a o b).drop 8).take 2=be 2 a∧((leafP s a o b).drop 10).take 2=be 2 o∧((leafP s a o b).drop 12).take 4=be 4 b.length∧∀n,n≤b.length→((leafP s a o b).drop 16).take n=b.take n:=by
 have e:∃q,leafP s a o b=be 8 s++(be 2 a++(be 2 o++(be 4 b.length++(b++q)))):=
  ⟨List.replicate (480 - b.length) 0++((be 8 (Crc.sum (bodyP s a o b))).reverse++be 8 s),by simp only [leafP,bodyP,List.append_assoc]⟩
 obtain ⟨q,e⟩:=e;rw [e];have d8:(be 8 s++(be 2 a++(be 2 o++(be 4 b.length++(b++q))))).drop 8=be 2 a++(be 2 o++(be 4 b.length++(b++q))):=List.drop_left' (aA1 8 s);have d10:(be 8 s++(be 2 a++(be 2 o++(be 4 b.length++(b++q))))).drop 10=be 2 o++(be 4 b.length++(b++q)):=by
  rw [show (10:Nat)=8+2 from rfl,←List.drop_drop,d8];exact List.drop_left' (aA1 2 a)
 have d12:(be 8 s++(be 2 a++(be 2 o++(be 4 b.length++(b++q))))).drop 12=be 4 b.length++(b++q):=by
  rw [show (12:Nat)=10+2 from rfl,←List.drop_drop,d10];exact List.drop_left' (aA1 2 o)
 have d16:(be 8 s++(be 2 a++(be 2 o++(be 4 b.length++(b++q))))).drop 16=b++q:=by
  rw [show (16:Nat)=12+4 from rfl,←List.drop_drop,d12];exact List.drop_left' (aA1 4 _)
 refine ⟨?_,?_,?_,?_⟩
 ·rw [d8];exact List.take_left' (aA1 2 a)
 ·rw [d10];exact List.take_left' (aA1 2 o)
 ·rw [d12];exact List.take_left' (aA1 4 _)
 ·intro n hn;rw [d16,List.take_append_of_le_length hn]
theorem aFs {s a o:Nat} {b:List UInt8} (hs0:0<s) (hs:s<18446744073709551616) (ha:a<65536) (ho:o<65536) (hb:b.length≤480):says (leafP s a o b)=some (s,a,o,b):=by
 obtain ⟨e1,e2,e3,e4⟩:=aJx s a o b;have n1:num (((leafP s a o b).drop 8).take 2)=a:=by rw [e1,aE0];exact Nat.mod_eq_of_lt ha
 have n2:num (((leafP s a o b).drop 10).take 2)=o:=by rw [e2,aE0];exact Nat.mod_eq_of_lt ho
 have n3:num (((leafP s a o b).drop 12).take 4)=b.length:=by rw [e3,aE0];exact Nat.mod_eq_of_lt (by omega)
 have n4:((leafP s a o b).drop 16).take b.length=b:=by rw [e4 _ (Nat.le_refl _)];exact List.take_length
 unfold says;rw [aJ9 hs,n1,n2,n3,n4,if_neg (by omega),if_pos rfl]
theorem aEc {p:List UInt8} {s a o:Nat} {b:List UInt8} (h:says p=some (s,a,o,b)):p=leafP s a o b∧s=first8 p∧0<s:=by
 unfold says at h;split at h
 ·cases h
 ·next h0=>
  split at h
  ·next e=>
   cases h
   exact ⟨e.symm,rfl,by omega⟩
  ·cases h
theorem aGj {p:List UInt8} {s a o:Nat} {b:List UInt8} (h:says p=some (s,a,o,b)):b.length≤480∧s<18446744073709551616:=by
 unfold says at h;split at h
 ·cases h
 ·next h0=>
  split at h
  ·next e=>
   cases h
   refine ⟨by rw [List.length_take];omega,?_⟩;have:=aFe (p.take 8);have h8:(p.take 8).length≤8:=by rw [List.length_take];omega
   exact Nat.lt_of_lt_of_le this (Nat.le_trans (Nat.pow_le_pow_right (by decide) h8) (by decide))
  ·cases h
theorem aUg {p:List UInt8} {s a o:Nat} {b:List UInt8} (h:says p=some (s,a,o,b)):s=last8 p:=by
 have h1:=aEc h;have h2:=aGj h;have:=aL0 (s:=s) (a:=a) (o:=o) h2.1 h2.2;rw [←h1.1] at this;exact this.symm
theorem aE8 {p:List UInt8} (h:first8 p≠last8 p):says p=none:=by
 cases e:says p with
 |none=>rfl
 |some x=>
  obtain ⟨s,a,o,b⟩:=x;exact absurd ((aEc e).2.1.symm.trans (aUg e)) h
theorem aQv:says []=none:=by
 have:first8 []=0:=rfl;unfold says;rw [if_pos (Or.inl this)]
end Go.Proofs.YtgjmbbkcgillcaaGreat.Log
namespace Go.Proofs.YtgjmbbkcgillcaaGreat.Log
open Go.RowKit
abbrev Pages:=List (List UInt8)
def pg (ps:Pages) (e:Nat):List UInt8:=ps.getD e []
def leaves (ps:Pages) (s m:Nat):Nat→Nat→Nat→Option (List UInt8)
 |_,_,0=>some []
 |e,i,k+1=>match says (pg ps e) with
  |some (s',i',m',b)=>if s'=s∧i'=i∧m'=m then (leaves ps s m (e+1) (i+1) k).map (b++·) else none
  |none=>none
def rec1 (ps:Pages) (last e:Nat):Option (Nat×Nat×List UInt8):=match says (pg ps e) with
 |some (s,_,m,_)=>if last<s∧1≤m∧e+m≤ps.length then (leaves ps s m e 0 m).map fun b=>(s,m,b) else none
 |none=>none
def recs (ps:Pages):Nat→Nat→Nat→List (List UInt8)×Nat×Nat
 |0,last,e=>([],last,e)
 |f+1,last,e=>match rec1 ps last e with
  |some (s,m,b)=>(b::(recs ps f s (e+m)).1,(recs ps f s (e+m)).2)
  |none=>([],last,e)
def headP (ps:Pages):Option Nat:=match says (pg ps 0) with
 |some (s,a,o,b)=>if a=0∧o=0∧b=[] then some s else none
 |none=>none
def Recs (ps:Pages):Bool×List (List UInt8)×Nat:=match headP ps with
 |some s=>(true,(recs ps ps.length s 1).1,(recs ps ps.length s 1).2.2)
 |none=>(false,[],1)
inductive Run (ps:Pages):Nat→Nat→List (List UInt8)→Nat→Nat→Prop where
 |nil (l e:Nat):Run ps l e [] l e
 |cons {l e s m:Nat} {b:List UInt8} {bs:List (List UInt8)} {l' e':Nat}:rec1 ps l e=some (s,m,b)→Run ps s (e+m) bs l' e'→Run ps l e (b::bs) l' e'
theorem aAz {ps:Pages} {l e s m:Nat} {b:List UInt8} (h:rec1 ps l e=some (s,m,b)):l<s∧1≤m∧e+m≤ps.length∧leaves ps s m e 0 m=some b∧∃c,says (pg ps e)=some (s,0,m,c):=by
 unfold rec1 at h;split at h
 ·next s' a' m' b' hs=>
  split at h
  ·next hc=>
   cases hl:leaves ps s' m' e 0 m' with
   |none=>rw [hl] at h;cases h
   |some x=>
    rw [hl] at h;cases h
    obtain ⟨k,rfl⟩:∃k,m=k+1:=⟨m - 1,by omega⟩;refine ⟨hc.1,hc.2.1,hc.2.2,hl,b',?_⟩;rw [leaves,hs] at hl;dsimp only at hl
    split at hl
    ·next h2=>rw [hs,h2.2.1]
    ·cases hl
  ·cases h
 ·cases h
theorem aR3 (ps:Pages):∀(f last e:Nat),Run ps last e (recs ps f last e).1 (recs ps f last e).2.1 (recs ps f last e).2.2
 |0,last,e=>.nil _ _
 |f+1,last,e=>by
  rw [recs];cases h:rec1 ps last e with
  |none=>exact .nil _ _
  |some x=>
   obtain ⟨s,m,b⟩:=x;exact .cons h (aR3 ps f s (e+m))
theorem aRq (ps:Pages):∀(f last e:Nat),ps.length<e+f→rec1 ps (recs ps f last e).2.1 (recs ps f last e).2.2=none
 |0,last,e,hf=>by
  cases h:rec1 ps last e with
  |none=>exact h
  |some x=>
   obtain ⟨s,m,b⟩:=x;have:=aAz h;omega
 |f+1,last,e,hf=>by
  rw [recs];cases h:rec1 ps last e with
  |none=>exact h
  |some x=>
   obtain ⟨s,m,b⟩:=x;have:=aAz h;exact aRq ps f s (e+m) (by omega)
theorem aMd {ps:Pages}:∀{f last e:Nat} {bs:List (List UInt8)} {l' e':Nat},Run ps last e bs l' e'→rec1 ps l' e'=none→ps.length<e+f→recs ps f last e=(bs,l',e')
 |0,last,e,_,l',e',h,hn,hf=>by
  cases h with
  |nil=>rfl
  |cons h1 h2=>
   have:=aAz h1;omega
 |f+1,last,e,_,l',e',h,hn,hf=>by
  rw [recs];cases h with
  |nil=>rw [hn]
  |cons h1 h2=>
   rw [h1];dsimp only
   have:=aAz h1;rw [aMd h2 hn (by omega)]
theorem Run.le {ps:Pages} {l e:Nat} {bs:List (List UInt8)} {l' e':Nat} (h:Run ps l e bs l' e'):e≤e'∧l≤l'∧(e≤ps.length→e'≤ps.length):=by
 induction h with
 |nil=>exact ⟨Nat.le_refl _,Nat.le_refl _,fun h=>h⟩
 |cons h1 _ ih=>
  have:=aAz h1;exact ⟨by omega,by omega,fun _=>ih.2.2 (by omega)⟩
theorem Run.snoc {ps:Pages} {l e:Nat} {bs:List (List UInt8)} {l' e' s m:Nat} {b:List UInt8} (h:Run ps l e bs l' e') (h1:rec1 ps l' e'=some (s,m,b)):Run ps l e (bs++[b]) s (e'+m):=by
 induction h with
 |nil=>exact .cons h1 (.nil _ _)
 |cons h2 _ ih=>exact .cons h2 (ih h1)
theorem aHq {ps qs:Pages} {s m:Nat}:∀{e i k:Nat},(∀j,e≤j→j<e+k→pg qs j=pg ps j)→leaves qs s m e i k=leaves ps s m e i k
 |_,_,0,_=>rfl
 |e,i,k+1,h=>by
  rw [leaves,leaves,h e (Nat.le_refl _) (by omega),aHq (k:=k) fun j h1 h2=>h j (by omega) (by omega)]
theorem aOn {ps qs:Pages} {l e s m:Nat} {b:List UInt8} (hl:qs.length=ps.length) (h1:rec1 ps l e=some (s,m,b)) (h:∀j,e≤j→j<e+m→pg qs j=pg ps j):rec1 qs l e=some (s,m,b):=by
 obtain ⟨a1,a2,a3,a4,c,a5⟩:=aAz h1;unfold rec1;rw [h e (Nat.le_refl _) (by omega),a5];dsimp only
 rw [if_pos ⟨a1,a2,by omega⟩,aHq h,a4];rfl
theorem Run.same {ps qs:Pages} (hl:qs.length=ps.length) {l e:Nat} {bs:List (List UInt8)} {l' e':Nat} (h:Run ps l e bs l' e') (hs:∀j,e≤j→j<e'→pg qs j=pg ps j):Run qs l e bs l' e':=by
 induction h with
 |nil=>exact .nil _ _
 |cons h1 h2 ih=>
  have:=aAz h1;have:=h2.le;exact .cons (aOn hl h1 fun j a b=>hs j a (by omega)) (ih fun j a b=>hs j (by omega) b)
theorem aFi {ps:Pages} {s m:Nat}:∀{e i k:Nat} {b:List UInt8},leaves ps s m e i k=some b→∀j,j<k→∃c,says (pg ps (e+j))=some (s,i+j,m,c)
 |_,_,0,_,_,j,hj=>by omega
 |e,i,k+1,b,h,j,hj=>by
  rw [leaves] at h;split at h
  ·next s' i' m' b' hs=>
   split at h
   ·next hc=>
    obtain ⟨rfl,rfl,rfl⟩:=hc;cases hr:leaves ps s' m' (e+1) (i'+1) k with
    |none=>rw [hr] at h;cases h
    |some x=>
     cases j with
     |zero=>exact ⟨b',hs⟩
     |succ j=>
      obtain ⟨c,hc⟩:=aFi hr j (by omega);exact ⟨c,by rw [show e+(j+1)=e+1+j from by omega,show i'+(j+1)=i'+1+j from by omega];exact hc⟩
   ·cases h
  ·cases h
def chunk (b:List UInt8) (i:Nat):List UInt8:=(b.drop (480*i)).take 480
theorem aEm (b:List UInt8) (i:Nat):(chunk b i).length≤480:=by unfold chunk;rw [List.length_take];omega
def manyOf (n:Nat):Nat:=max 1 ((n+479) / 480)
theorem aMj (n:Nat):1≤manyOf n:=Nat.le_max_left _ _
theorem aF5 (n:Nat):n≤480*manyOf n:=by unfold manyOf;omega
theorem aLc {qs:Pages} {s m:Nat} {b:List UInt8}:∀{e i k:Nat},(∀j,j<k→says (pg qs (e+j))=some (s,i+j,m,chunk b (i+j)))→b.length≤480*(i+k)→leaves qs s m e i k=some (b.drop (480*i))
 |_,i,0,_,hb=>by
  rw [leaves,List.drop_eq_nil_of_le (by omega)]
 |e,i,k+1,h,hb=>by
  have h0:=h 0 (by omega);rw [Nat.add_zero,Nat.add_zero] at h0;rw [leaves,h0];dsimp only
  rw [if_pos ⟨rfl,rfl,rfl⟩,aLc (e:=e+1) (i:=i+1) (k:=k) (fun j hj=>by
   rw [show e+1+j=e+(j+1) from by omega,show i+1+j=i+(j+1) from by omega];exact h (j+1) (by omega)) (by omega)]
  show some (chunk b i++b.drop (480*(i+1)))=some (b.drop (480*i));unfold chunk;rw [show 480*(i+1)=480*i+480 from by omega,←List.drop_drop,List.take_append_drop]
def UpTo (ps:Pages) (N:Nat):Prop:=∀j s a o b,says (pg ps j)=some (s,a,o,b)→s≤N
theorem aH3 {ps qs:Pages} {N s l e m:Nat} {b:List UInt8} (hB:UpTo ps N) (hNs:N<s) (hl:l≤N) (hlen:qs.length=ps.length) (hm:1≤m) (hem:e+m≤ps.length) (hb:b.length≤480*m)
  (hin:∀j,j<m→says (pg qs (e+j))=some (s,j,m,chunk b j)) (hout:∀j,e+m≤j→pg qs j=pg ps j):
  rec1 qs l e=some (s,m,b)∧rec1 qs s (e+m)=none:=by
 constructor
 ·have h0:=hin 0 (by omega);have hL:=aLc (qs:=qs) (s:=s) (m:=m) (b:=b) (e:=e) (i:=0) (k:=m) (fun j hj=>by rw [Nat.zero_add];exact hin j hj) (by omega);rw [Nat.add_zero] at h0;unfold rec1;rw [h0];dsimp only
  rw [if_pos ⟨by omega,hm,by omega⟩,hL];rfl
 ·cases h:rec1 qs s (e+m) with
  |none=>rfl
  |some x=>
   obtain ⟨s',m',b'⟩:=x;obtain ⟨a1,a2,a3,a4,c,a5⟩:=aAz h;rw [hout _ (Nat.le_refl _)] at a5;have:=hB _ _ _ _ _ a5;omega
theorem aP4 {ps qs:Pages} {N s l e m:Nat} {b:List UInt8} (hB:UpTo ps N) (hNs:N<s) (hl:l≤N) (hlen:qs.length=ps.length) (hm:1≤m) (hem:e+m≤ps.length) (hb:b.length≤480*m)
  (hend:rec1 ps l e=none)
  (hin:∀j,j<m→pg qs (e+j)=pg ps (e+j)∨says (pg qs (e+j))=some (s,j,m,chunk b j)∨says (pg qs (e+j))=none) (hout:∀j,e+m≤j→pg qs j=pg ps j):
  (rec1 qs l e=some (s,m,b)∧rec1 qs s (e+m)=none)∨rec1 qs l e=none:=by
 cases h:rec1 qs l e with
 |none=>exact Or.inr rfl
 |some x=>
  obtain ⟨s',m',b'⟩:=x;obtain ⟨a1,a2,a3,a4,c,a5⟩:=aAz h;have hs:=aFi a4;rcases hin 0 (by omega) with h0|h0|h0
  ·rw [Nat.add_zero] at h0
   -- the first page is as it was: so are all of its record
   have hle:s'≤N:=by rw [h0] at a5;exact hB _ _ _ _ _ a5
   have hsame:∀j,e≤j→j<e+m'→pg ps j=pg qs j:=by
    intro j h1 h2;by_cases h3:j<e+m
    ·obtain ⟨i,rfl⟩:∃i,j=e+i:=⟨j - e,by omega⟩;obtain ⟨c',hc'⟩:=hs i (by omega);rcases hin i (by omega) with h4|h4|h4
     ·exact h4.symm
     ·rw [h4] at hc';have:=congrArg (fun x=>(x.getD (0,0,0,[])).1) hc';simp only [Option.getD_some] at this;omega
     ·rw [h4] at hc';cases hc'
    ·exact (hout j (by omega)).symm
   have:=aOn hlen.symm h hsame;rw [hend] at this;cases this
  ·rw [Nat.add_zero,a5] at h0;cases h0
   -- the first page is new: so are all
   have hall:∀j,j<m→says (pg qs (e+j))=some (s,j,m,chunk b j):=by
    intro j hj;obtain ⟨c',hc'⟩:=hs j hj;rcases hin j hj with h4|h4|h4
    ·rw [h4] at hc';have:=hB _ _ _ _ _ hc';omega
    ·exact h4
    ·rw [h4] at hc';cases hc'
   obtain ⟨r1,r2⟩:=aH3 hB hNs hl hlen hm hem hb hall hout;rw [h] at r1;exact Or.inl ⟨r1,r2⟩
  ·rw [Nat.add_zero,a5] at h0;cases h0
theorem aRe {ps qs:Pages} {N s:Nat} (hB:UpTo ps N) (hNs:N<s) (h0:says (pg qs 0)=some (s,0,0,[])) (hout:∀j,1≤j→pg qs j=pg ps j):Recs qs=(true,[],1)∧headP qs=some s∧rec1 qs s 1=none:=by
 have hh:headP qs=some s:=by
  unfold headP;rw [h0];exact if_pos ⟨rfl,rfl,rfl⟩
 have hn:rec1 qs s 1=none:=by
  cases h:rec1 qs s 1 with
  |none=>rfl
  |some x=>
   obtain ⟨s',m',b'⟩:=x;obtain ⟨a1,a2,a3,a4,c,a5⟩:=aAz h;rw [hout 1 (Nat.le_refl _)] at a5;have:=hB _ _ _ _ _ a5;omega
 refine ⟨?_,hh,hn⟩;unfold Recs;rw [hh];dsimp only
 rw [aMd (.nil s 1) hn (by omega)]
theorem aOb {qs:Pages} (h0:says (pg qs 0)=none):Recs qs=(false,[],1):=by
 have hh:headP qs=none:=by
  unfold headP;rw [h0]
 unfold Recs;rw [hh]
structure Sits (ps:Pages) (h:Nat) (bs:List (List UInt8)) (l e:Nat):Prop where
 head:headP ps=some h
 run:Run ps h 1 bs l e
 stop:rec1 ps l e=none
theorem Sits.of {ps:Pages} {h:Nat} (hh:headP ps=some h):Sits ps h (recs ps ps.length h 1).1 (recs ps ps.length h 1).2.1 (recs ps ps.length h 1).2.2:=
 ⟨hh,aR3 ps _ _ _,aRq ps _ _ _ (by omega)⟩
theorem Sits.recs {ps:Pages} {h l e:Nat} {bs:List (List UInt8)} (H:Sits ps h bs l e):Recs ps=(true,bs,e):=by
 unfold Recs;rw [H.head];dsimp only
 rw [aMd H.run H.stop (by omega)]
theorem UpTo.head {ps:Pages} {N h:Nat} (hB:UpTo ps N) (hh:headP ps=some h):h≤N:=by
 unfold headP at hh;split at hh
 ·next s a o b hs=>
  split at hh
  ·cases hh
   exact hB _ _ _ _ _ hs
  ·cases hh
 ·cases hh
theorem Run.within {ps:Pages} {N:Nat} (hB:UpTo ps N) {l e:Nat} {bs:List (List UInt8)} {l' e':Nat} (h:Run ps l e bs l' e') (hl:l≤N):l'≤N:=by
 induction h with
 |nil=>exact hl
 |cons h1 _ ih=>
  obtain ⟨_,_,_,_,c,a5⟩:=aAz h1;exact ih (hB _ _ _ _ _ a5)
theorem Sits.commit {ps qs:Pages} {N s h l e m:Nat} {bs:List (List UInt8)} {b:List UInt8} (H:Sits ps h bs l e) (hB:UpTo ps N) (hNs:N<s) (hlen:qs.length=ps.length) (hm:1≤m) (hem:e+m≤ps.length) (hb:b.length≤480*m)
  (hin:∀j,j<m→says (pg qs (e+j))=some (s,j,m,chunk b j)) (hlow:∀j,j<e→pg qs j=pg ps j) (hout:∀j,e+m≤j→pg qs j=pg ps j):Sits qs h (bs++[b]) s (e+m):=by
 have hl:=H.run.within hB (hB.head H.head);have h1:=H.run.le;obtain ⟨r1,r2⟩:=aH3 hB hNs hl hlen hm hem hb hin hout;refine ⟨?_,(H.run.same hlen fun j _ hj=>hlow j hj).snoc r1,r2⟩;have:=H.head;unfold headP at this ⊢;rwa [hlow 0 (by omega)]
theorem Sits.torn {ps qs:Pages} {N s h l e m:Nat} {bs:List (List UInt8)} {b:List UInt8} (H:Sits ps h bs l e) (hB:UpTo ps N) (hNs:N<s) (hlen:qs.length=ps.length) (hm:1≤m) (hem:e+m≤ps.length) (hb:b.length≤480*m)
  (hin:∀j,j<m→pg qs (e+j)=pg ps (e+j)∨says (pg qs (e+j))=some (s,j,m,chunk b j)∨says (pg qs (e+j))=none) (hlow:∀j,j<e→pg qs j=pg ps j) (hout:∀j,e+m≤j→pg qs j=pg ps j):
  Sits qs h (bs++[b]) s (e+m)∨Sits qs h bs l e:=by
 have hl:=H.run.within hB (hB.head H.head);have h1:=H.run.le;have hh:headP qs=some h:=by
  have:=H.head;unfold headP at this ⊢;rwa [hlow 0 (by omega)]
 have hr:=H.run.same hlen fun j _ hj=>hlow j hj;rcases aP4 hB hNs hl hlen hm hem hb H.stop hin hout with ⟨r1,r2⟩|r
 ·exact Or.inl ⟨hh,hr.snoc r1,r2⟩
 ·exact Or.inr ⟨hh,hr,r⟩
end Go.Proofs.YtgjmbbkcgillcaaGreat.Log
namespace Go.Proofs.YtgjmbbkcgillcaaGreat.Log
open Go.RowKit
theorem aE6 (x:List UInt8) (k:Nat):num x=num (x.take k)*256^(x.drop k).length+num (x.drop k):=by
 rw [←aCt,List.take_append_drop]
theorem aZi {x y:List UInt8} (hl:x.length=y.length) (h:num y<num x) (k:Nat):num y≤num (x.take k++y.drop k):=by
 have h1:=aE6 x k;have h2:=aE6 y k;have h3:=aFe (x.drop k);have e:(x.drop k).length=(y.drop k).length:=by rw [List.length_drop,List.length_drop,hl]
 rw [e] at h1 h3;rw [aCt];have h4:num (y.take k)≤num (x.take k):=by
  rcases Nat.lt_or_ge (num (x.take k)) (num (y.take k)) with h5|h5
  ·have h6:(num (x.take k)+1)*256^(y.drop k).length≤num (y.take k)*256^(y.drop k).length:=Nat.mul_le_mul_right _ h5;rw [Nat.add_mul,Nat.one_mul] at h6;omega
  ·exact h5
 have h7:=Nat.mul_le_mul_right (256^(y.drop k).length) h4;omega
def upTo (s:Nat):Nat:=s / 256*256+255
theorem aGb (s:Nat):s≤upTo s:=by unfold upTo;omega
theorem aZt {x y:List UInt8} (hx:x.length=8) (hy:y.length=8) (h:num y≤num x) (hs:num x<65536) (k:Nat):num (x.take k++y.drop k)≤upTo (num x):=by
 have h1:=aE6 x k;have h2:=aE6 y k;have h3:=aFe (x.drop k);have h4:=aFe (y.drop k);have ex:(x.drop k).length=8 - k:=by rw [List.length_drop,hx]
 have ey:(y.drop k).length=8 - k:=by rw [List.length_drop,hy]
 rw [ex] at h1 h3;rw [ey] at h2 h4;rw [aCt,ey];by_cases k8:8≤k
 ·rw [show 8 - k=0 from by omega] at h1 h3 h4 ⊢;have:=aGb (num x);simp only [Nat.pow_zero,Nat.mul_one] at h1 h3 h4 ⊢;omega
 ·by_cases k7:k=7
  ·subst k7;unfold upTo;simp only [show 8 - 7=1 from rfl,Nat.pow_one] at h1 h3 h4 ⊢;omega
  ·have hB:65536≤256^(8 - k):=by
    calc 65536=256^2:=rfl
     _≤256^(8 - k):=Nat.pow_le_pow_right (by decide) (by omega)
   have a0:num (x.take k)=0:=by
    rcases Nat.eq_zero_or_pos (num (x.take k)) with h5|h5
    ·exact h5
    ·have:=Nat.mul_le_mul_right (256^(8 - k)) h5;rw [Nat.succ_mul,Nat.zero_mul,Nat.zero_add] at this;omega
   have:=aGb (num x);rw [a0,Nat.zero_mul,Nat.zero_add];omega
def fixP (q:List UInt8):List UInt8:=be 8 (last8 q)++q.drop 8
def Calm (q:List UInt8):Prop:=last8 q≤first8 q∨says (fixP q)=none
structure New (s:Nat) (p:List UInt8):Prop where
 len:p.length=512
 first:first8 p=s
 last:last8 p=s
 alone:∀L,L<18446744073709551616→L≠s→says (be 8 L++((p.drop 8).take 496++be 8 L))=none
theorem aUo {x y:Nat} (hx:x<18446744073709551616) (hy:y<18446744073709551616) (h:be 8 x=be 8 y):x=y:=by
 have:=congrArg num h;rw [aE0,aE0] at this;rwa [Nat.mod_eq_of_lt hx,Nat.mod_eq_of_lt hy] at this
theorem aJ6 {s a o:Nat} {b:List UInt8} (hs:s<18446744073709551616) (hb:b.length≤480):New s (leafP s a o b):=by
 refine ⟨aCc hb,aJ9 hs,aL0 hb hs,fun L hL hne=>?_⟩;cases hsay:says (be 8 L++(((leafP s a o b).drop 8).take 496++be 8 L)) with
 |none=>rfl
 |some x=>
  exfalso;obtain ⟨s',a',o',b'⟩:=x;obtain ⟨e1,e2,_⟩:=aEc hsay;have hb':=(aGj hsay).1;have e3:s'=L:=by
   rw [e2];unfold first8;rw [List.take_left' (aA1 8 L),aE0];exact Nat.mod_eq_of_lt hL
  subst e3
  -- what both hold behind the first stamp
  have key:∀(s a o:Nat) (b:List UInt8),b.length≤480→∃r:List UInt8,r.length=488∧bodyP s a o b=be 8 s++r∧leafP s a o b=be 8 s++(r++((be 8 (Crc.sum (be 8 s++r))).reverse++be 8 s)):=by
   intro s a o b hb;refine ⟨be 2 a++(be 2 o++(be 4 b.length++(b++List.replicate (480 - b.length) 0))),?_,rfl,?_⟩
   ·simp only [List.length_append,aA1,List.length_replicate];omega
   ·simp only [leafP,bodyP,List.append_assoc]
  obtain ⟨r,r1,r2,r3⟩:=key s a o b hb;obtain ⟨r',r1',r2',r3'⟩:=key s' a' o' b' hb';have hX:((leafP s a o b).drop 8).take 496=r++(be 8 (Crc.sum (be 8 s++r))).reverse:=by
   rw [r3,List.drop_left' (aA1 8 s),←List.append_assoc,List.take_left' (by rw [List.length_append,r1,List.length_reverse,aA1])]
  rw [hX,r3'] at e1;have e4:=List.append_cancel_left e1;rw [List.append_assoc] at e4;have e5:=List.append_inj e4 (by rw [r1,r1']);obtain ⟨e6,e7⟩:=e5;subst e6;have e8:=List.reverse_inj.1 (List.append_cancel_right e7);have e9:=aUo (Crc.aW5 _) (Crc.aW5 _) e8;have e10:=(Crc.aS6 [] (be 8 s) (be 8 s') r (by rw [aA1,aA1]) (by rw [aA1];exact Nat.le_refl _)).1 e9;exact hne (aUo hL hs e10.symm)
theorem tornC {s k:Nat} {p q:List UInt8} (hp:New s p) (hq:q.length=512) (hk:k≤512) (hs:s<65536) (h3:first8 q<s) (h4:last8 q<s) (hc:Calm q):
  (p.take k++q.drop k=q∨p.take k++q.drop k=p∨says (p.take k++q.drop k)=none)∧first8 (p.take k++q.drop k)≤upTo s∧last8 (p.take k++q.drop k)≤upTo s∧Calm (p.take k++q.drop k):=by
 have hpl:=hp.len;have hlq:(q.drop 504).length=8:=by rw [List.length_drop];omega
 have hfq:(q.take 8).length=8:=by rw [List.length_take];omega
 have hlp:(p.drop 504).length=8:=by rw [List.length_drop];omega
 have hfp:(p.take 8).length=8:=by rw [List.length_take];omega
 have hup:=aGb s;by_cases k8:k<8
 ·have hf:first8 (p.take k++q.drop k)=num ((p.take 8).take k++(q.take 8).drop k):=by
   unfold first8
   congr 1
   rw [List.take_append,List.take_take,List.take_take,List.length_take,show min 8 k=k from by omega,show min k 8=k from by omega,show min k p.length=k from by omega,List.drop_take]
  have hd8:(p.take k++q.drop k).drop 8=q.drop 8:=by
   rw [List.drop_append,List.drop_eq_nil_of_le (by rw [List.length_take];omega),List.nil_append,List.length_take,List.drop_drop,show k+(8 - min k p.length)=8 from by omega]
  have hl:last8 (p.take k++q.drop k)=last8 q:=by
   unfold last8
   congr 1
   rw [show (504:Nat)=8+496 from rfl,←List.drop_drop,hd8,List.drop_drop]
  have hfix:fixP (p.take k++q.drop k)=fixP q:=by unfold fixP;rw [hl,hd8]
  have hge:first8 q≤first8 (p.take k++q.drop k):=by
   rw [hf];exact aZi (by rw [hfp,hfq]) (by have:=hp.first;unfold first8 at this h3;rw [this];exact h3) k
  have hle:first8 (p.take k++q.drop k)≤upTo s:=by
   rw [hf];have h1:num (p.take 8)=s:=hp.first;have:=aZt hfp hfq (by rw [h1];exact Nat.le_of_lt h3) (by rw [h1];exact hs) k;rwa [h1] at this
  have hcalm:Calm (p.take k++q.drop k):=by
   rcases hc with hc|hc
   ·exact Or.inl (by rw [hl];omega)
   ·exact Or.inr (by rw [hfix];exact hc)
  have hself:∀z:List UInt8,z.length=512→first8 z=last8 z→fixP z=z:=by
   intro z hz hzz;unfold fixP;rw [←hzz];unfold first8;have:=aJ0 (z.take 8);rw [show (z.take 8).length=8 from by rw [List.length_take];omega] at this;rw [this,List.take_append_drop]
  have hlen:(p.take k++q.drop k).length=512:=by rw [List.length_append,List.length_take,List.length_drop];omega
  refine ⟨?_,hle,by rw [hl];omega,hcalm⟩;by_cases hfl:first8 (p.take k++q.drop k)=last8 q
  ·have e:=hself _ hlen (hfl.trans hl.symm);rw [hfix] at e;rcases hc with hc|hc
   ·have hq2:first8 q=last8 q:=by omega
    exact Or.inl (by rw [←e];exact hself q hq hq2)
   ·exact Or.inr (Or.inr (by rw [←e];exact hc))
  ·exact Or.inr (Or.inr (aE8 (by rw [hl];exact hfl)))
 ·by_cases k5:k=512
  ·have e:p.take k++q.drop k=p:=by
    rw [List.take_of_length_le (by omega),List.drop_eq_nil_of_le (by omega),List.append_nil]
   rw [e,hp.first,hp.last];exact ⟨Or.inr (Or.inl rfl),hup,hup,Or.inl (by rw [hp.first,hp.last];exact Nat.le_refl _)⟩
  ·have hf:first8 (p.take k++q.drop k)=s:=by
    rw [←hp.first];unfold first8;rw [List.take_append_of_le_length (by rw [List.length_take];omega),List.take_take,Nat.min_eq_left (by omega)]
   by_cases k4:k≤504
   ·have hl:last8 (p.take k++q.drop k)=last8 q:=by
     unfold last8
     congr 1
     rw [List.drop_append,List.drop_eq_nil_of_le (by rw [List.length_take];omega),List.nil_append,List.length_take,List.drop_drop,show k+(504 - min k p.length)=504 from by omega]
    exact ⟨Or.inr (Or.inr (aE8 (by rw [hf,hl];omega))),by rw [hf];exact hup,by rw [hl];omega,Or.inl (by rw [hf,hl];omega)⟩
   ·have hdr:(p.take k++q.drop k).drop 504=(p.drop 504).take (k - 504)++(q.drop 504).drop (k - 504):=by
     rw [List.drop_append_of_le_length (by rw [List.length_take];omega),List.drop_take,List.drop_drop,show 504+(k - 504)=k from by omega]
    have hl:last8 (p.take k++q.drop k)=num ((p.drop 504).take (k - 504)++(q.drop 504).drop (k - 504)):=by
     unfold last8;rw [hdr]
    have hpn:num (p.drop 504)=s:=hp.last;have hle:last8 (p.take k++q.drop k)≤upTo s:=by
     rw [hl];have:=aZt hlp hlq (by rw [hpn];exact Nat.le_of_lt h4) (by rw [hpn];exact hs) (k - 504);rwa [hpn] at this
    have hlen8:((p.drop 504).take (k - 504)++(q.drop 504).drop (k - 504)).length=8:=by
     have e1:((q.drop 504).drop (k - 504)).length=8 - (k - 504):=by rw [List.length_drop,hlq]
     rw [List.length_append,List.length_take,e1,hlp];omega
    have hL64:last8 (p.take k++q.drop k)<18446744073709551616:=by
     rw [hl];have:=aFe ((p.drop 504).take (k - 504)++(q.drop 504).drop (k - 504));rw [hlen8] at this;exact this
    have hbe:be 8 (last8 (p.take k++q.drop k))=(p.take k++q.drop k).drop 504:=by
     have:=aJ0 ((p.take k++q.drop k).drop 504);rw [show ((p.take k++q.drop k).drop 504).length=8 from by rw [hdr];exact hlen8] at this;exact this
    have htk:(p.take k++q.drop k).take 504=p.take 504:=by
     rw [List.take_append_of_le_length (by rw [List.length_take];omega),List.take_take,Nat.min_eq_left (by omega)]
    have hmid:(p.take k++q.drop k).drop 8=(p.drop 8).take 496++be 8 (last8 (p.take k++q.drop k)):=by
     rw [hbe];have h1:(p.take k++q.drop k)=p.take 504++(p.take k++q.drop k).drop 504:=by rw [←htk,List.take_append_drop]
     conv=>lhs;rw [h1]
     rw [List.drop_append_of_le_length (by rw [List.length_take];omega),List.drop_take]
    by_cases hLs:last8 (p.take k++q.drop k)=s
    ·have e:p.take k++q.drop k=p:=by
      have h1:(p.take k++q.drop k)=p.take 504++(p.take k++q.drop k).drop 504:=by rw [←htk,List.take_append_drop]
      have h2:be 8 s=p.drop 504:=by
       have:=aJ0 (p.drop 504);rw [hlp,hpn] at this;exact this
      rw [h1,←hbe,hLs,h2,List.take_append_drop]
     rw [e,hp.first,hp.last];exact ⟨Or.inr (Or.inl rfl),hup,hup,Or.inl (by rw [hp.first,hp.last];exact Nat.le_refl _)⟩
    ·refine ⟨Or.inr (Or.inr (aE8 (by rw [hf];exact fun h=>hLs h.symm))),by rw [hf];exact hup,hle,Or.inr ?_⟩;unfold fixP;rw [hmid];exact hp.alone _ hL64 hLs
end Go.Proofs.YtgjmbbkcgillcaaGreat.Log
namespace Go.Proofs.YtgjmbbkcgillcaaGreat.Log
open Go.RowKit Disk
def rowOf:Nat→Pages→List (Nat×List UInt8)
 |_,[]=>[]
 |e,p::ls=>(e,p)::rowOf (e+1) ls
theorem bCj {ps:Pages} {j:Nat} (h:ps.length≤j):pg ps j=[]:=by
 unfold pg;rw [List.getD_eq_getElem?_getD,List.getElem?_eq_none h];rfl
theorem aUf {ps:Pages} {x:Nat×List UInt8} {n j:Nat} (hx:x.1<ps.length):pg (lay1 ps x n) j=if j=x.1 then x.2.take n++(pg ps j).drop n else pg ps j:=by
 unfold lay1 pg;rw [List.getD_eq_getElem?_getD,List.getElem?_set];by_cases h:x.1=j
 ·subst h;rw [if_pos rfl,if_pos hx,if_pos rfl];rfl
 ·rw [if_neg h,if_neg (fun h2=>h h2.symm),←List.getD_eq_getElem?_getD]
theorem aH0 (k:Nat→Nat):∀(ls:Pages) (i e j:Nat) (ps:Pages),e+ls.length≤ps.length→
  pg (lay k i ps (rowOf e ls)) j=if e≤j∧j<e+ls.length then (pg ls (j - e)).take (k (i+(j - e)))++(pg ps j).drop (k (i+(j - e))) else pg ps j
 |[],i,e,j,ps,h=>by
  rw [rowOf,lay,if_neg (by rw [List.length_nil];omega)]
 |p::ls,i,e,j,ps,h=>by
  rw [List.length_cons] at h;rw [rowOf,lay,aH0 k ls (i+1) (e+1) j _ (by rw [aB7];omega),aUf (by show e<_;omega),List.length_cons];by_cases h1:j=e
  ·subst h1;rw [if_neg (by omega),if_pos rfl,if_pos (by omega),Nat.sub_self,Nat.add_zero];rfl
  ·rw [if_neg h1];by_cases h2:e+1≤j∧j<e+1+ls.length
   ·rw [if_pos h2,if_pos (by omega)];have e1:j - e=(j - (e+1))+1:=by omega
    rw [show i+1+(j - (e+1))=i+(j - e) from by omega,e1];rfl
   ·rw [if_neg h2,if_neg (by omega)]
theorem aGx {ls:Pages} {e j:Nat} {ps:Pages} (h:e+ls.length≤ps.length) (h1:OkP ps) (h2:OkP ls):
  pg (lay (fun _=>512) 0 ps (rowOf e ls)) j=if e≤j∧j<e+ls.length then pg ls (j - e) else pg ps j:=by
 rw [aH0 _ _ _ _ _ _ h];split
 ·next hj=>
  have a1:(pg ls (j - e)).length=512:=h2.get (by omega);have a2:(pg ps j).length=512:=h1.get (by omega);rw [List.take_of_length_le (by omega),List.drop_eq_nil_of_le (by omega),List.append_nil]
 ·rfl
def wr:DK→Nat→Pages→Int×DK
 |d,_,[]=>d.sync
 |d,e,p::ls=>if (d.write e p).1≠0 then d.write e p else wr (d.write e p).2 (e+1) ls
theorem aYg {d:DK} {e:Nat} {p:List UInt8} (hd:d.dead=false) (he:e<d.pages.length) (hp:p.length=512):
  (d.write e p).1=d.burn.1∧(d.burn.1≠0→d.write e p=d.burn)∧(d.burn.1=0→d.write e p=(0,{d.burn.2 with row:=d.row++[(e,p)]})):=by
 have hf:d.faultAt (e:Int)=0:=by
  unfold DK.faultAt;rw [if_neg (by simp [hd]),if_neg (by omega)]
 unfold DK.write;rw [if_neg (by rw [hf];simp),if_neg (by omega)];by_cases h:d.burn.1=0
 ·rw [if_neg (by simp [h])];exact ⟨h.symm,fun h2=>absurd h h2,fun _=>by rw [aEt];rfl⟩
 ·rw [if_pos h];exact ⟨rfl,fun _=>rfl,fun h2=>absurd h2 h⟩
theorem aKx {d:DK} (hd:d.dead=false):(d.burn.1=0∧d.burn.2.dead=false∧(d.left<0→d.burn.2=d))∨(d.burn.1=9∧d.burn.2.dead=true∧d.left=0):=by
 unfold DK.burn;split
 ·next h=>exact Or.inr ⟨rfl,rfl,h⟩
 ·split
  ·exact Or.inl ⟨rfl,hd,fun h=>by omega⟩
  ·exact Or.inl ⟨rfl,hd,fun _=>rfl⟩
theorem aFt:∀(ls:Pages) (d:DK) (e:Nat),d.dead=false→e+ls.length≤d.pages.length→OkP ls→
  ((wr d e ls).1=0∧(wr d e ls).2.pages=lay (fun _=>512) 0 d.pages (d.row++rowOf e ls)∧(wr d e ls).2.row=[]∧(wr d e ls).2.dead=false∧(d.left<0→(wr d e ls).2.left=d.left))∨
  ((wr d e ls).1=9∧(wr d e ls).2.pages=d.pages∧(wr d e ls).2.dead=true∧0≤d.left∧∃i,i≤ls.length∧(wr d e ls).2.row=d.row++rowOf e (ls.take i))
 |[],d,e,hd,he,hl=>by
  rw [wr];unfold DK.sync;rw [if_neg (by simp [hd])];rcases aKx hd with ⟨h1,h2,h3⟩|⟨h1,h2,h3⟩
  ·rw [if_neg (by simp [h1])];exact Or.inl ⟨rfl,by rw [rowOf,List.append_nil],rfl,h2,fun h=>by rw [show ({d.burn.2 with pages:=lay (fun _=>512) 0 d.pages d.row,row:=[]}:DK).left=d.burn.2.left from rfl,h3 h]⟩
  ·rw [if_pos (by rw [h1];decide)];exact Or.inr ⟨h1,aCv d,h2,by omega,0,Nat.zero_le _,by rw [aEt];simp [rowOf]⟩
 |p::ls,d,e,hd,he,hl=>by
  rw [List.length_cons] at he;have hp:p.length=512:=hl p List.mem_cons_self;obtain ⟨w1,w2,w3⟩:=aYg (e:=e) hd (by omega) hp;rw [wr];rcases aKx hd with ⟨h1,h2,h3⟩|⟨h1,h2,h3⟩
  ·rw [if_neg (by rw [w1,h1];simp),w3 h1];obtain ⟨D,hD⟩:∃D:DK,D={d.burn.2 with row:=d.row++[(e,p)]}:=⟨_,rfl⟩;have hDp:D.pages=d.pages:=by rw [hD];exact aCv d
   have hDr:D.row=d.row++[(e,p)]:=by rw [hD]
   have hDd:D.dead=false:=by rw [hD];exact h2
   have hDl:d.left<0→D.left=d.left:=fun h=>by rw [hD];show d.burn.2.left=_;rw [h3 h]
   rw [←hD];have:=aFt ls D (e+1) hDd (by rw [hDp];omega) (fun b hb=>hl b (List.mem_cons_of_mem _ hb));have hrow:∀x:Pages,D.row++rowOf (e+1) x=d.row++rowOf e (p::x):=fun x=>by rw [hDr,rowOf,List.append_assoc];rfl
   rw [hDp,hrow] at this;rcases this with ⟨a1,a2,a3,a4,a5⟩|⟨a1,a2,a3,a4,i,a5,a6⟩
   ·exact Or.inl ⟨a1,a2,a3,a4,fun h=>by rw [a5 (by rw [hDl h];exact h),hDl h]⟩
   ·refine Or.inr ⟨a1,a2,a3,?_,i+1,by rw [List.length_cons];omega,by rw [a6,hrow,List.take_succ_cons]⟩;rcases Int.lt_or_le d.left 0 with h|h
    ·rw [hDl h] at a4;exact a4
    ·exact h
  ·rw [if_pos (by rw [w1,h1];decide),w2 (by rw [h1];decide)];exact Or.inr ⟨h1,aCv d,h2,by omega,0,Nat.zero_le _,by rw [aEt];simp [rowOf]⟩
theorem Ok.wr:∀(ls:Pages) (d:DK) (e:Nat),Ok d→Ok (wr d e ls).2
 |[],d,e,h=>h.sync
 |p::ls,d,e,h=>by
  rw [Log.wr];split
  ·exact h.write _ _
  ·exact Ok.wr ls _ _ (h.write _ _)
def leafs (s m:Nat) (b:List UInt8):Pages:=(List.range m).map fun j=>leafP s j m (chunk b j)
theorem aAb (s m:Nat) (b:List UInt8):(leafs s m b).length=m:=by rw [leafs,List.length_map,List.length_range]
theorem aHj {s m:Nat} {b:List UInt8} {j:Nat} (h:j<m):pg (leafs s m b) j=leafP s j m (chunk b j):=by
 unfold pg leafs;rw [List.getD_eq_getElem?_getD,List.getElem?_map,List.getElem?_range h];rfl
theorem aB6 (s m:Nat) (b:List UInt8):OkP (leafs s m b):=by
 intro p hp;obtain ⟨j,_,rfl⟩:=List.mem_map.1 hp;exact aCc (aEm b j)
theorem aJy {s m:Nat} {b:List UInt8} (hs:s<18446744073709551616):∀j,j<(leafs s m b).length→New s (pg (leafs s m b) j):=by
 intro j hj;rw [aAb] at hj;rw [aHj hj];exact aJ6 hs (aEm b j)
theorem New.calm {s:Nat} {p:List UInt8} (h:New s p):Calm p:=Or.inl (by rw [h.first,h.last];exact Nat.le_refl _)
structure Low (ps:Pages) (N:Nat):Prop where
 ok:OkP ps
 first:∀j,j<ps.length→first8 (pg ps j)≤N
 last:∀j,j<ps.length→last8 (pg ps j)≤N
 calm:∀j,j<ps.length→Calm (pg ps j)
theorem Low.upTo {ps:Pages} {N:Nat} (h:Low ps N):UpTo ps N:=by
 intro j s a o b hs;by_cases hj:j<ps.length
 ·rw [(aEc hs).2.1];exact h.first j hj
 ·rw [bCj (by omega),aQv] at hs;cases hs
theorem Low.mono {ps:Pages} {N M:Nat} (h:Low ps N) (hm:N≤M):Low ps M:=⟨h.ok,fun j hj=>Nat.le_trans (h.first j hj) hm,fun j hj=>Nat.le_trans (h.last j hj) hm,h.calm⟩
theorem aMb {n:Nat}:∀{ls:Pages} {e:Nat},OkP ls→e+ls.length≤n→OkR n (rowOf e ls)
 |[],_,_,_=>fun x hx=>nomatch hx
 |p::ls,e,hl,he=>by
  rw [List.length_cons] at he;intro x hx;rw [rowOf] at hx;rcases List.mem_cons.1 hx with rfl|hx
  ·exact ⟨by show e<n;omega,hl p List.mem_cons_self⟩
  ·exact aMb (fun b hb=>hl b (List.mem_cons_of_mem _ hb)) (by omega) x hx
theorem Low.left {ps ls:Pages} {N s e:Nat} {k:Nat→Nat} (h:Low ps N) (hNs:N<s) (hs:s<65536) (hk:∀i,k i≤512) (he:e+ls.length≤ps.length) (hl:OkP ls) (h1:∀j,j<ls.length→New s (pg ls j)):
  Low (lay k 0 ps (rowOf e ls)) (Log.upTo s)∧(∀j,j<ls.length→pg (lay k 0 ps (rowOf e ls)) (e+j)=pg ps (e+j)∨pg (lay k 0 ps (rowOf e ls)) (e+j)=pg ls j∨says (pg (lay k 0 ps (rowOf e ls)) (e+j))=none)∧
   ∀j,¬(e≤j∧j<e+ls.length)→pg (lay k 0 ps (rowOf e ls)) j=pg ps j:=by
 have hup:=aGb s;have hT:∀j,j<ls.length→_:=fun j hj=>tornC (p:=pg ls j) (q:=pg ps (e+j)) (k:=k (0+j)) (h1 j hj) (h.ok.get (by omega)) (hk _) hs (by have:=h.first (e+j) (by omega);omega) (by have:=h.last (e+j) (by omega);omega) (h.calm (e+j) (by omega));have hP:∀j,j<ls.length→pg (lay k 0 ps (rowOf e ls)) (e+j)=(pg ls j).take (k (0+j))++(pg ps (e+j)).drop (k (0+j)):=by
  intro j hj;rw [aH0 k ls 0 e (e+j) ps he,if_pos (by omega),show e+j - e=j from by omega]
 have hO:∀j,¬(e≤j∧j<e+ls.length)→pg (lay k 0 ps (rowOf e ls)) j=pg ps j:=by
  intro j hj;rw [aH0 k ls 0 e j ps he,if_neg hj]
 refine ⟨⟨h.ok.lay hk (aMb hl he),?_,?_,?_⟩,?_,hO⟩
 ·intro j hj;by_cases hc:e≤j∧j<e+ls.length
  ·obtain ⟨i,rfl⟩:∃i,j=e+i:=⟨j - e,by omega⟩;rw [hP i (by omega)];exact (hT i (by omega)).2.1
  ·rw [hO j hc];exact Nat.le_trans (h.first j (by rwa [aA9] at hj)) (by omega)
 ·intro j hj;by_cases hc:e≤j∧j<e+ls.length
  ·obtain ⟨i,rfl⟩:∃i,j=e+i:=⟨j - e,by omega⟩;rw [hP i (by omega)];exact (hT i (by omega)).2.2.1
  ·rw [hO j hc];exact Nat.le_trans (h.last j (by rwa [aA9] at hj)) (by omega)
 ·intro j hj;by_cases hc:e≤j∧j<e+ls.length
  ·obtain ⟨i,rfl⟩:∃i,j=e+i:=⟨j - e,by omega⟩;rw [hP i (by omega)];exact (hT i (by omega)).2.2.2
  ·rw [hO j hc];exact h.calm j (by rwa [aA9] at hj)
 ·intro j hj;rw [hP j hj];exact (hT j hj).1
end Go.Proofs.YtgjmbbkcgillcaaGreat.Log
namespace Go.Proofs.YtgjmbbkcgillcaaGreat.Log
open Go.RowKit Disk
theorem Low.all {ps ls:Pages} {N s e:Nat} (h:Low ps N) (hNs:N≤s) (he:e+ls.length≤ps.length) (hl:OkP ls) (h1:∀j,j<ls.length→New s (pg ls j)):
  Low (lay (fun _=>512) 0 ps (rowOf e ls)) s:=by
 refine ⟨h.ok.lay (fun _=>Nat.le_refl _) (aMb hl he),?_,?_,?_⟩<;>intro j hj<;>rw [aA9] at hj<;>rw [aGx he h.ok hl]
 ·split
  ·rw [(h1 _ (by omega)).first];exact Nat.le_refl _
  ·exact Nat.le_trans (h.first j hj) hNs
 ·split
  ·rw [(h1 _ (by omega)).last];exact Nat.le_refl _
  ·exact Nat.le_trans (h.last j hj) hNs
 ·split
  ·exact (h1 _ (by omega)).calm
  ·exact h.calm j hj
abbrev headL (s:Nat):Pages:=[leafP s 0 0 []]
theorem aCp (s:Nat):OkP (headL s):=fun p hp=>by rw [List.mem_singleton.1 hp];exact aCc (by decide)
theorem aHw {s:Nat} (hs:s<18446744073709551616):∀j,j<(headL s).length→New s (pg (headL s) j):=by
 intro j hj;have:j=0:=by have:j<1:=hj;omega
 subst this;exact aJ6 hs (by decide)
theorem aCw (ps:Pages):(∃h l,headP ps=some h∧Sits ps h (Recs ps).2.1 l (Recs ps).2.2∧(Recs ps).1=true)∨(headP ps=none∧Recs ps=(false,[],1)):=by
 cases h:headP ps with
 |none=>exact Or.inr ⟨rfl,by unfold Recs;rw [h]⟩
 |some s=>
  have H:=Sits.of h;refine Or.inl ⟨s,(recs ps ps.length s 1).2.1,rfl,?_,?_⟩
  ·have e:=H.recs;rw [show (Recs ps).2.1=(recs ps ps.length s 1).1 from by rw [e],show (Recs ps).2.2=(recs ps ps.length s 1).2.2 from by rw [e]];exact H
  ·rw [H.recs]
theorem aXe {ps:Pages} {N s:Nat} (h:Low ps N) (hNs:N<s) (hs:s<18446744073709551616) (h1:1≤ps.length):
  Recs (lay (fun _=>512) 0 ps (rowOf 0 (headL s)))=(true,[],1)∧headP (lay (fun _=>512) 0 ps (rowOf 0 (headL s)))=some s∧Low (lay (fun _=>512) 0 ps (rowOf 0 (headL s))) s:=by
 have hp:∀j,pg (lay (fun _=>512) 0 ps (rowOf 0 (headL s))) j=if 0≤j∧j<0+(headL s).length then pg (headL s) (j - 0) else pg ps j:=fun j=>aGx (by show 0+1≤_;omega) h.ok (aCp s)
 have hO:∀j,1≤j→pg (lay (fun _=>512) 0 ps (rowOf 0 (headL s))) j=pg ps j:=by
  intro j hj;rw [hp j,if_neg];intro h2;have:j<1:=by simpa using h2.2
  omega
 have:=aRe (qs:=lay (fun _=>512) 0 ps (rowOf 0 (headL s))) h.upTo hNs (by rw [hp 0,if_pos (by exact ⟨Nat.le_refl _,Nat.zero_lt_one⟩)];exact aFs (by omega) hs (by decide) (by decide) (by decide)) hO;exact ⟨this.1,this.2.1,h.all (Nat.le_of_lt hNs) (by show 0+1≤_;omega) (aCp s) (aHw hs)⟩
theorem aVz {ps:Pages} {N s:Nat} {k:Nat→Nat} (h:Low ps N) (hNs:N<s) (hs:s<65536) (hk:∀i,k i≤512) (h1:1≤ps.length):
  ((Recs (lay k 0 ps (rowOf 0 (headL s)))).2=(Recs ps).2∨(Recs (lay k 0 ps (rowOf 0 (headL s)))).2=([],1))∧Low (lay k 0 ps (rowOf 0 (headL s))) (Log.upTo s):=by
 have hs':s<18446744073709551616:=by omega
 obtain ⟨g1,g2,g3⟩:=h.left (e:=0) (ls:=headL s) hNs hs hk (by show 0+1≤_;omega) (aCp s) (aHw hs');refine ⟨?_,g1⟩;have hO:∀j,1≤j→pg (lay k 0 ps (rowOf 0 (headL s))) j=pg ps j:=fun j hj=>g3 j (fun h2=>by
  have:j<1:=by simpa using h2.2
  omega)
 rcases g2 0 Nat.zero_lt_one with h2|h2|h2
 ·left
  rw [Nat.zero_add] at h2;have:lay k 0 ps (rowOf 0 (headL s))=ps:=by
   refine List.ext_getElem (aA9 _ _ _ _) fun j a b=>?_;have e:pg (lay k 0 ps (rowOf 0 (headL s))) j=pg ps j:=by
    cases j with
    |zero=>exact h2
    |succ j=>exact hO _ (by omega)
   unfold pg at e;rw [List.getD_eq_getElem?_getD,List.getD_eq_getElem?_getD,List.getElem?_eq_getElem a,List.getElem?_eq_getElem b] at e;exact e
  rw [this]
 ·right
  rw [Nat.zero_add] at h2;rw [(aRe h.upTo hNs (by rw [h2];exact aFs (by omega) hs' (by decide) (by decide) (by decide)) hO).1]
 ·right
  rw [Nat.zero_add] at h2;rw [aOb h2]
theorem aKu {ps:Pages} {N s m:Nat} {b:List UInt8} (h:Low ps N) (hNs:N<s) (hs:s<18446744073709551616) (hm:1≤m) (hm2:m<65536) (hh:(Recs ps).1=true) (hem:(Recs ps).2.2+m≤ps.length) (hb:b.length≤480*m):
  Recs (lay (fun _=>512) 0 ps (rowOf (Recs ps).2.2 (leafs s m b)))=(true,(Recs ps).2.1++[b],(Recs ps).2.2+m)∧Low (lay (fun _=>512) 0 ps (rowOf (Recs ps).2.2 (leafs s m b))) s:=by
 rcases aCw ps with ⟨h0,l,_,H,_⟩|⟨_,h0⟩
 ·have hL:(Recs ps).2.2+(leafs s m b).length≤ps.length:=by rw [aAb];exact hem
  have hp:∀j,pg (lay (fun _=>512) 0 ps (rowOf (Recs ps).2.2 (leafs s m b))) j=if (Recs ps).2.2≤j∧j<(Recs ps).2.2+(leafs s m b).length then pg (leafs s m b) (j - (Recs ps).2.2) else pg ps j:=fun j=>aGx hL h.ok (aB6 s m b)
  refine ⟨(H.commit (qs:=lay (fun _=>512) 0 ps (rowOf (Recs ps).2.2 (leafs s m b))) h.upTo hNs (aA9 _ _ _ _) hm hem hb ?_ ?_ ?_).recs,h.all (Nat.le_of_lt hNs) hL (aB6 s m b) (aJy hs)⟩
  ·intro j hj;rw [hp,if_pos (by rw [aAb];omega),show (Recs ps).2.2+j - (Recs ps).2.2=j from by omega,aHj hj];exact aFs (by omega) hs (by omega) hm2 (aEm b j)
  ·intro j hj;rw [hp,if_neg (by omega)]
  ·intro j hj;rw [hp,if_neg (by rw [aAb];omega)]
 ·rw [h0] at hh;cases hh
theorem aJs {ps:Pages} {N s m i:Nat} {b:List UInt8} {k:Nat→Nat} (h:Low ps N) (hNs:N<s) (hs:s<65536) (hk:∀i,k i≤512) (hm:1≤m) (hm2:m<65536) (hh:(Recs ps).1=true) (hem:(Recs ps).2.2+m≤ps.length) (hb:b.length≤480*m):
  ((Recs (lay k 0 ps (rowOf (Recs ps).2.2 ((leafs s m b).take i)))).2.1=(Recs ps).2.1∨(Recs (lay k 0 ps (rowOf (Recs ps).2.2 ((leafs s m b).take i)))).2.1=(Recs ps).2.1++[b])∧Low (lay k 0 ps (rowOf (Recs ps).2.2 ((leafs s m b).take i))) (Log.upTo s):=by
 have hs':s<18446744073709551616:=by omega
 have hT:((leafs s m b).take i).length=min i m:=by rw [List.length_take,aAb]
 have hP:∀j,j<min i m→pg ((leafs s m b).take i) j=leafP s j m (chunk b j):=by
  intro j hj;rw [←aHj (s:=s) (b:=b) (show j<m from by omega)];unfold pg;rw [List.getD_eq_getElem?_getD,List.getD_eq_getElem?_getD,List.getElem?_take_of_lt (by omega)]
 obtain ⟨g1,g2,g3⟩:=h.left (e:=(Recs ps).2.2) (ls:=(leafs s m b).take i) hNs hs hk (by rw [hT];omega) (fun p hp=>aB6 s m b p (List.mem_of_mem_take hp))
  (fun j hj=>by rw [hP j (by omega)];exact aJ6 hs' (aEm b j))
 refine ⟨?_,g1⟩;rcases aCw ps with ⟨h0,l,_,H,_⟩|⟨_,h0⟩
 ·rcases H.torn (qs:=lay k 0 ps (rowOf (Recs ps).2.2 ((leafs s m b).take i))) (s:=s) (m:=m) (b:=b) h.upTo hNs (aA9 _ _ _ _) hm hem hb (fun j hj=>by
    by_cases hji:j<min i m
    ·rcases g2 j (by omega) with h2|h2|h2
     ·exact Or.inl h2
     ·exact Or.inr (Or.inl (by rw [h2,hP j hji];exact aFs (by omega) hs' (by omega) hm2 (aEm b j)))
     ·exact Or.inr (Or.inr h2)
    ·exact Or.inl (g3 _ (by omega))) (fun j hj=>g3 j (by omega)) (fun j hj=>g3 j (by omega)) with r|r
  ·exact Or.inr (by rw [r.recs])
  ·exact Or.inl (by rw [r.recs])
 ·rw [h0] at hh;cases hh
end Go.Proofs.YtgjmbbkcgillcaaGreat.Log
namespace Go.Proofs.YtgjmbbkcgillcaaGreat.Log
open Go.RowKit Disk
theorem aNg {ps qs:Pages} (hl:ps.length=qs.length) (h:∀j,j<ps.length→pg ps j=pg qs j):ps=qs:=by
 refine List.ext_getElem hl fun j a b=>?_;have e:=h j a;unfold pg at e;rwa [List.getD_eq_getElem?_getD,List.getD_eq_getElem?_getD,List.getElem?_eq_getElem a,List.getElem?_eq_getElem b] at e
def part (ps:Pages) (f n:Nat):Pages:=(ps.drop f).take n
theorem aB0 {ps:Pages} {f n:Nat} (h:f+n≤ps.length):(part ps f n).length=n:=by
 unfold part;rw [List.length_take,List.length_drop];omega
theorem aRo (ps:Pages):part ps 0 ps.length=ps:=by unfold part;rw [List.drop_zero,List.take_length]
theorem aGh {ps:Pages} {f n j:Nat} (hj:j<n):pg (part ps f n) j=pg ps (f+j):=by
 unfold pg part;rw [List.getD_eq_getElem?_getD,List.getD_eq_getElem?_getD,List.getElem?_take_of_lt hj,List.getElem?_drop]
theorem bBg {ps:Pages} (h:OkP ps) (f n:Nat):OkP (part ps f n):=fun p hp=>h p (List.mem_of_mem_drop (List.mem_of_mem_take hp))
theorem aMk {ps ls:Pages} {f n e i:Nat} {k:Nat→Nat} (h:f+n≤ps.length) (he:e+ls.length≤n):part (lay k i ps (rowOf (f+e) ls)) f n=lay k i (part ps f n) (rowOf e ls):=by
 refine aNg (by rw [aB0 (by rw [aA9];exact h),aA9,aB0 h]) fun j hj=>?_;rw [aB0 (by rw [aA9];exact h)] at hj;rw [aGh hj,aH0 _ _ _ _ _ _ (by omega),aH0 _ _ _ _ _ _ (by rw [aB0 h];exact he),aGh hj];by_cases hc:e≤j∧j<e+ls.length
 ·rw [if_pos (by omega),if_pos hc,show f+j - (f+e)=j - e from by omega]
 ·rw [if_neg (by omega),if_neg hc]
theorem aP0 {ps ls:Pages} {f n g i:Nat} {k:Nat→Nat} (h:f+n≤ps.length) (hg:g+ls.length≤ps.length) (hb:g+ls.length≤f∨f+n≤g):part (lay k i ps (rowOf g ls)) f n=part ps f n:=by
 refine aNg (by rw [aB0 (by rw [aA9];exact h),aB0 h]) fun j hj=>?_;rw [aB0 (by rw [aA9];exact h)] at hj;rw [aGh hj,aH0 _ _ _ _ _ _ hg,aGh hj,if_neg (by omega)]
def now (d:DK):Pages:=lay (fun _=>512) 0 d.pages d.row
theorem aJd (c:Nat):∀(r:List (Nat×List UInt8)) (i j:Nat) (ps:Pages),lay (fun _=>c) i ps r=lay (fun _=>c) j ps r
 |[],_,_,_=>rfl
 |x::r,i,j,ps=>by rw [lay,lay,aJd c r (i+1) (j+1)]
theorem aBu (d:DK):(now d).length=d.pages.length:=aA9 _ _ _ _
theorem bCu {d:DK} (h:Ok d):OkP (now d):=h.pages.lay (fun _=>Nat.le_refl _) h.row
theorem aDw {d:DK} (h:d.row=[]):now d=d.pages:=by unfold now;rw [h];rfl
theorem aLb {d:DK} {ps:Pages} {r:List (Nat×List UInt8)} (hp:ps=d.pages):lay (fun _=>512) 0 ps (d.row++r)=lay (fun _=>512) 0 (now d) r:=by
 rw [hp,aGd,aJd 512 r _ 0];rfl
theorem aZv {d:DK} (h:Ok d) (j:Nat) (hj:j<d.pages.length):pg (now d) j=d.seen j:=by
 have:∀(r:List (Nat×List UInt8)) (ps:Pages) (i:Nat),OkP ps→OkR ps.length r→j<ps.length→pg (lay (fun _=>512) i ps r) j=seenL r j (pg ps j):=by
  intro r
  induction r with
  |nil=>intro ps i _ _ _;rfl
  |cons x r ih=>
   intro ps i h1 h2 h3;have hx:=h2 x List.mem_cons_self;rw [lay,ih _ _ (h1.lay1 hx.1 hx.2 512 (Nat.le_refl _)) (by rw [aB7];exact fun y hy=>h2 y (List.mem_cons_of_mem _ hy)) (by rw [aB7];exact h3),aUf hx.1];show seenL r j _=seenL r j (if x.1=j then x.2 else pg ps j);have a2:(pg ps j).length=512:=h1.get h3;by_cases e:j=x.1
   ·rw [if_pos e,if_pos e.symm,List.take_of_length_le (by omega),List.drop_eq_nil_of_le (by omega),List.append_nil]
   ·rw [if_neg e,if_neg (fun h=>e h.symm)]
 exact this d.row d.pages 0 h.pages h.row hj
def newest (ps:Pages):Nat:=ps.foldl (fun v p=>max v (max (first8 p) (last8 p))) 0
theorem aFf:∀(ps:Pages) (v:Nat),ps.foldl (fun v p=>max v (max (first8 p) (last8 p))) v=max v (newest ps)
 |[],v=>by simp [newest]
 |p::ps,v=>by
  have e:newest (p::ps)=max (max (first8 p) (last8 p)) (newest ps):=by
   show ps.foldl _ (max 0 _)=_;rw [aFf ps,Nat.zero_max]
  rw [List.foldl_cons,aFf ps,e,Nat.max_assoc]
theorem aFj (p:List UInt8) (ps:Pages):newest (p::ps)=max (max (first8 p) (last8 p)) (newest ps):=by
 show ps.foldl _ (max 0 _)=_;rw [aFf ps,Nat.zero_max]
theorem aTu:∀{ps:Pages},OkP ps→(∀j,j<ps.length→Calm (pg ps j))→Low ps (newest ps)
 |ps,h,hc=>by
  have key:∀(ps:Pages) (j:Nat),j<ps.length→first8 (pg ps j)≤newest ps∧last8 (pg ps j)≤newest ps:=by
   intro ps
   induction ps with
   |nil=>intro j hj;cases hj
   |cons p ps ih=>
    intro j hj;rw [aFj];cases j with
    |zero=>exact ⟨by show first8 p≤_;omega,by show last8 p≤_;omega⟩
    |succ j=>
     have:=ih j (by rw [List.length_cons] at hj;omega);exact ⟨by show first8 (pg ps j)≤_;omega,by show last8 (pg ps j)≤_;omega⟩
  exact ⟨h,fun j hj=>(key ps j hj).1,fun j hj=>(key ps j hj).2,hc⟩
theorem aNk {ps:Pages} {N:Nat} (h:Low ps N):newest ps≤N:=by
 have key:∀(ps:Pages),(∀j,j<ps.length→first8 (pg ps j)≤N∧last8 (pg ps j)≤N)→newest ps≤N:=by
  intro ps
  induction ps with
  |nil=>exact fun _=>Nat.zero_le _
  |cons p ps ih=>
   intro h;rw [aFj];have h0:=h 0 (by rw [List.length_cons];omega);have h1:=ih fun j hj=>h (j+1) (by rw [List.length_cons];omega);have a1:first8 p≤N:=h0.1;have a2:last8 p≤N:=h0.2;omega
 exact key ps fun j hj=>⟨h.first j hj,h.last j hj⟩
def resetF (d:DK) (f N:Nat):Int×DK:=wr d f (headL (N+1))
def commitF (d:DK) (f n N:Nat) (b:List UInt8):(Int×DK)×Nat:=
 if d.dead=true then ((9,d),N)
 else if n<(Recs (part (now d) f n)).2.2+manyOf b.length then ((4,d),N)
 else if (Recs (part (now d) f n)).1=true then (wr d (f+(Recs (part (now d) f n)).2.2) (leafs (N+1) (manyOf b.length) b),N+1)
 else if (wr d f (headL (N+1))).1≠0 then (wr d f (headL (N+1)),N+1)
 else (wr (wr d f (headL (N+1))).2 (f+1) (leafs (N+2) (manyOf b.length) b),N+2)
structure Up (d:DK) (f n N:Nat):Prop where
 ok:Ok d
 on:d.dead=false
 two:2≤n
 in_:f+n≤d.pages.length
 low:Low (part (now d) f n) N
theorem Up.len {d:DK} {f n N:Nat} (h:Up d f n N):(part (now d) f n).length=n:=aB0 (by rw [aBu];exact h.in_)
theorem bAi {d:DK} {f n e:Nat} {ls:Pages} (_:Ok d) (hd:d.dead=false) (hin:f+n≤d.pages.length) (he:e+ls.length≤n) (hl:OkP ls) (h0:(wr d (f+e) ls).1=0):
  now (wr d (f+e) ls).2=lay (fun _=>512) 0 (now d) (rowOf (f+e) ls)∧part (now (wr d (f+e) ls).2) f n=lay (fun _=>512) 0 (part (now d) f n) (rowOf e ls)∧(wr d (f+e) ls).2.row=[]∧(wr d (f+e) ls).2.dead=false∧(wr d (f+e) ls).2.pages.length=d.pages.length∧(d.left<0→(wr d (f+e) ls).2.left=d.left):=by
 rcases aFt ls d (f+e) hd (by omega) hl with ⟨a1,a2,a3,a4,a5⟩|⟨a1,_⟩
 ·have hn:now (wr d (f+e) ls).2=lay (fun _=>512) 0 (now d) (rowOf (f+e) ls):=by rw [aDw a3,a2,aLb rfl]
  refine ⟨hn,?_,a3,a4,by rw [a2,aA9],a5⟩;rw [hn,aMk (by rw [aBu];exact hin) he]
 ·rw [h0] at a1;cases a1
theorem aDr {d:DK} {f n N:Nat} (h:Up d f n N) (hN:N+1<18446744073709551616) (h0:(resetF d f N).1=0):Up (resetF d f N).2 f n (N+1)∧Recs (part (now (resetF d f N).2) f n)=(true,[],1)∧(resetF d f N).2.row=[]∧(resetF d f N).2.pages.length=d.pages.length∧(d.left<0→(resetF d f N).2.left=d.left):=by
 have hw:=bAi (e:=0) (ls:=headL (N+1)) h.ok h.on h.in_ (by have:=h.two;show 0+1≤n;omega) (aCp _) h0;rw [Nat.add_zero] at hw;obtain ⟨a0,a1,a2,a3,a4,a5⟩:=hw;have hp:=aXe h.low (Nat.lt_succ_self N) hN (by rw [h.len];have:=h.two;omega);exact ⟨⟨Ok.wr _ _ _ h.ok,a3,h.two,by rw [show (resetF d f N).2.pages.length=_ from a4];exact h.in_,by unfold resetF;rw [a1];exact hp.2.2⟩,by unfold resetF;rw [a1];exact hp.1,a2,a4,a5⟩
theorem aJq {d:DK} {f n N:Nat} {b:List UInt8} (h:Up d f n N) (hN:N+2<18446744073709551616) (hn:n<65536) (h0:(commitF d f n N b).1.1=0):
  Up (commitF d f n N b).1.2 f n (commitF d f n N b).2∧(Recs (part (now (commitF d f n N b).1.2) f n))=(true,(Recs (part (now d) f n)).2.1++[b],(Recs (part (now d) f n)).2.2+manyOf b.length)∧(commitF d f n N b).1.2.row=[]∧(commitF d f n N b).1.2.pages.length=d.pages.length∧(d.left<0→(commitF d f n N b).1.2.left=d.left)∧(commitF d f n N b).2≤N+2:=by
 have hm:=aMj b.length;have hmb:=aF5 b.length;unfold commitF at h0 ⊢;rw [if_neg (by rw [h.on];decide)] at h0 ⊢;split at h0
 ·cases h0
 ·next hfull=>
  rw [if_neg hfull];split at h0
  ·next hh=>
   rw [if_pos hh];obtain ⟨a0,a1,a2,a3,a4,a5⟩:=bAi (e:=(Recs (part (now d) f n)).2.2) (ls:=leafs (N+1) (manyOf b.length) b) h.ok h.on h.in_ (by rw [aAb];omega) (aB6 _ _ _) h0;obtain ⟨c1,c2⟩:=aKu (b:=b) h.low (Nat.lt_succ_self N) (by omega) hm (by omega) hh (by rw [h.len];omega) hmb;exact ⟨⟨Ok.wr _ _ _ h.ok,a3,h.two,by dsimp only;rw [a4];exact h.in_,by dsimp only;rw [a1];exact c2⟩,by dsimp only;rw [a1];exact c1,a2,a4,a5,by dsimp only;omega⟩
  ·next hh=>
   rw [if_neg hh];have hR:Recs (part (now d) f n)=(false,[],1):=by
    rcases aCw (part (now d) f n) with ⟨_,_,_,_,h2⟩|⟨_,h2⟩
    ·exact absurd h2 hh
    ·exact h2
   split at h0
   ·next hbad=>exact absurd h0 hbad
   ·next hgood=>
    rw [if_neg hgood];have hr:(resetF d f N).1=0:=by unfold resetF;simpa using hgood
    obtain ⟨u1,u2,u3,u4,u5⟩:=aDr h (by omega) hr;rw [hR] at hfull;have hu:=u1.in_;obtain ⟨a0,a1,a2,a3,a4,a5⟩:=bAi (d:=(resetF d f N).2) (e:=1) (ls:=leafs (N+2) (manyOf b.length) b) u1.ok u1.on u1.in_ (by rw [aAb];dsimp only at hfull;omega) (aB6 _ _ _) h0;obtain ⟨c1,c2⟩:=aKu (s:=N+2) (b:=b) u1.low (by omega) (by omega) hm (by dsimp only at hfull;omega) (by rw [u2]) (by rw [u1.len,u2];dsimp only at hfull ⊢;omega) hmb;rw [u2] at c1 c2;rw [hR];unfold resetF at a1 a2 a3 a4 a5 u4 u5;exact ⟨⟨Ok.wr _ _ _ u1.ok,a3,h.two,by dsimp only;rw [a4,u4];exact h.in_,by dsimp only;unfold resetF at c2;rw [a1];exact c2⟩,by dsimp only;unfold resetF at c1;rw [a1];exact c1,a2,by dsimp only;rw [a4,u4],fun hl=>by dsimp only;rw [a5 (by rw [u5 hl];exact hl),u5 hl],Nat.le_refl _⟩
end Go.Proofs.YtgjmbbkcgillcaaGreat.Log
namespace Go.Proofs.YtgjmbbkcgillcaaGreat.Log
open Go.RowKit Disk
theorem aDk {s t:Nat} (h:s≤t):Log.upTo s≤Log.upTo t:=by unfold Log.upTo;omega
theorem aHs {d:DK} {e:Nat} {ls:Pages} (hd:d.dead=false) (hr:d.row=[]) (he:e+ls.length≤d.pages.length) (hl:OkP ls) (h0:(wr d e ls).1≠0):
  (wr d e ls).1=9∧(wr d e ls).2.pages=d.pages∧(wr d e ls).2.dead=true∧0≤d.left∧∃i,(wr d e ls).2.row=rowOf e (ls.take i):=by
 rcases aFt ls d e hd he hl with ⟨a1,_⟩|⟨a1,a2,a3,a4,i,_,a6⟩
 ·exact absurd a1 h0
 ·exact ⟨a1,a2,a3,a4,i,by rw [a6,hr];rfl⟩
theorem aOr {d:DK} {f n e:Nat} {ls:Pages} (hd:d.dead=false) (hr:d.row=[]) (hin:f+n≤d.pages.length) (he:e+ls.length≤n) (hl:OkP ls) (h0:(wr d (f+e) ls).1≠0) (fates:List Int):
  ∃i,part (now ((wr d (f+e) ls).2.restart fates)) f n=lay (takes fates) 0 (part (now d) f n) (rowOf e (ls.take i)):=by
 obtain ⟨a1,a2,a3,a4,i,a6⟩:=aHs hd hr (by omega) hl h0;refine ⟨i,?_⟩;rw [aDw (show ((wr d (f+e) ls).2.restart fates).row=[] from rfl),aDw hr];show part (lay (takes fates) 0 (wr d (f+e) ls).2.pages (wr d (f+e) ls).2.row) f n=_;rw [a2,a6,aMk hin (by rw [List.length_take];omega)]
theorem Up.again {d d':DK} {f n N M:Nat} (h:Up d f n N) (h1:Ok d') (h2:d'.pages.length=d.pages.length) (fates:List Int) (hl:Low (part (now (d'.restart fates)) f n) M):Up (d'.restart fates) f n M:=
 ⟨h1.restart fates,rfl,h.two,(by show f+n≤(lay _ _ _ _).length;rw [aA9,h2];exact h.in_),hl⟩
theorem aF2 {d:DK} {f n N:Nat} (h:Up d f n N) (hr:d.row=[]) (hN:N+1<65536) (h0:(resetF d f N).1≠0):
  (resetF d f N).1=9∧(resetF d f N).2.dead=true∧0≤d.left∧(resetF d f N).2.pages.length=d.pages.length∧
   ∀fates:List Int,Up ((resetF d f N).2.restart fates) f n (Log.upTo (N+1))∧((Recs (part (now ((resetF d f N).2.restart fates)) f n)).2=(Recs (part (now d) f n)).2∨(Recs (part (now ((resetF d f N).2.restart fates)) f n)).2=([],1)):=by
 have htwo:=h.two;have hin:=h.in_;obtain ⟨a1,a2,a3,a4,i,a6⟩:=aHs (e:=f) (ls:=headL (N+1)) h.on hr (by show f+1≤_;omega) (aCp _) h0;refine ⟨a1,a3,a4,congrArg List.length a2,fun fates=>?_⟩;obtain ⟨i,e⟩:=aOr (e:=0) (ls:=headL (N+1)) h.on hr h.in_ (by show 0+1≤n;omega) (aCp _) h0 fates;rw [Nat.add_zero] at e;have key:Low (part (now ((resetF d f N).2.restart fates)) f n) (Log.upTo (N+1))∧((Recs (part (now ((resetF d f N).2.restart fates)) f n)).2=(Recs (part (now d) f n)).2∨(Recs (part (now ((resetF d f N).2.restart fates)) f n)).2=([],1)):=by
  unfold resetF;rw [e];cases i with
  |zero=>exact ⟨h.low.mono (by have:=aGb (N+1);omega),Or.inl rfl⟩
  |succ i=>
   have ht:(headL (N+1)).take (i+1)=headL (N+1):=by rw [List.take_succ_cons,List.take_nil]
   rw [ht];have:=aVz (k:=takes fates) h.low (Nat.lt_succ_self N) hN (aFq fates) (by rw [h.len];omega);exact ⟨this.2,this.1⟩
 exact ⟨h.again (Ok.wr _ _ _ h.ok) (congrArg List.length a2) fates key.1,key.2⟩
theorem aFg {d:DK} {f n N:Nat} {b:List UInt8} (h:Up d f n N) (hr:d.row=[]) (hN:N+2<65536) (hn:n<65536) (h0:(commitF d f n N b).1.1≠0) (h4:(commitF d f n N b).1.1≠4):
  (commitF d f n N b).1.1=9∧(commitF d f n N b).1.2.dead=true∧0≤d.left∧(commitF d f n N b).1.2.pages.length=d.pages.length∧
   ∀fates:List Int,Up ((commitF d f n N b).1.2.restart fates) f n (Log.upTo (N+2))∧((Recs (part (now ((commitF d f n N b).1.2.restart fates)) f n)).2.1=(Recs (part (now d) f n)).2.1∨(Recs (part (now ((commitF d f n N b).1.2.restart fates)) f n)).2.1=(Recs (part (now d) f n)).2.1++[b]):=by
 have hm:=aMj b.length;have hmb:=aF5 b.length;have htwo:=h.two;have hin:=h.in_;unfold commitF at h0 h4 ⊢;rw [if_neg (by rw [h.on];decide)] at h0 h4 ⊢;by_cases hfull:n<(Recs (part (now d) f n)).2.2+manyOf b.length
 ·rw [if_pos hfull] at h4;exact absurd rfl h4
 ·rw [if_neg hfull] at h0 h4 ⊢;by_cases hh:(Recs (part (now d) f n)).1=true
  ·rw [if_pos hh] at h0 h4 ⊢;have hL:(Recs (part (now d) f n)).2.2+(leafs (N+1) (manyOf b.length) b).length≤n:=by rw [aAb];omega
   obtain ⟨a1,a2,a3,a4,i,a6⟩:=aHs h.on hr (by omega) (aB6 _ _ _) h0;refine ⟨a1,a3,a4,congrArg List.length a2,fun fates=>?_⟩;obtain ⟨i,e⟩:=aOr h.on hr h.in_ hL (aB6 _ _ _) h0 fates;obtain ⟨c1,c2⟩:=aJs (i:=i) (b:=b) (k:=takes fates) h.low (Nat.lt_succ_self N) (by omega) (aFq fates) hm (by omega) hh (by rw [h.len];omega) hmb;rw [←e] at c1 c2;exact ⟨h.again (Ok.wr _ _ _ h.ok) (congrArg List.length a2) fates (c2.mono (aDk (Nat.le_succ _))),c1⟩
  ·rw [if_neg hh] at h0 h4 ⊢;have hR:Recs (part (now d) f n)=(false,[],1):=by
    rcases aCw (part (now d) f n) with ⟨_,_,_,_,h2⟩|⟨_,h2⟩
    ·exact absurd h2 hh
    ·exact h2
   by_cases hg:(wr d f (headL (N+1))).1≠0
   ·rw [if_pos hg] at h0 h4 ⊢;obtain ⟨r1,r2,r3,r4,r5⟩:=aF2 h hr (by omega) hg;refine ⟨r1,r2,r3,r4,fun fates=>⟨?_,Or.inl ?_⟩⟩
    ·exact ⟨(r5 fates).1.ok,(r5 fates).1.on,htwo,(r5 fates).1.in_,(r5 fates).1.low.mono (aDk (Nat.le_succ _))⟩
    ·rcases (r5 fates).2 with r|r
     ·exact congrArg Prod.fst r
     ·rw [hR];exact congrArg Prod.fst r
   ·rw [if_neg hg] at h0 h4 ⊢;have hr0:(resetF d f N).1=0:=by unfold resetF;simpa using hg
    obtain ⟨u1,u2,u3,u4,u5⟩:=aDr h (by omega) hr0;rw [hR] at hfull;dsimp only at hfull
    have uin:=u1.in_;have hL:1+(leafs (N+2) (manyOf b.length) b).length≤n:=by rw [aAb];omega
    obtain ⟨a1,a2,a3,a4,i,a6⟩:=aHs (d:=(resetF d f N).2) u1.on u3 (by omega) (aB6 _ _ _) h0;refine ⟨a1,a3,?_,(congrArg List.length a2).trans u4,fun fates=>?_⟩
    ·rcases Int.lt_or_le d.left 0 with hl|hl
     ·rw [u5 hl] at a4;exact a4
     ·exact hl
    ·obtain ⟨i,e⟩:=aOr (d:=(resetF d f N).2) (e:=1) u1.on u3 u1.in_ hL (aB6 _ _ _) h0 fates;obtain ⟨c1,c2⟩:=aJs (s:=N+2) (i:=i) (b:=b) (k:=takes fates) u1.low (by omega) (by omega) (aFq fates) hm (by omega) (by rw [u2]) (by rw [u1.len,u2];dsimp only;omega) hmb;rw [u2] at c1 c2;dsimp only at c1 c2
     rw [←e] at c1 c2;refine ⟨u1.again (Ok.wr _ _ _ u1.ok) (congrArg List.length a2) fates c2,?_⟩;rw [hR];exact c1
end Go.Proofs.YtgjmbbkcgillcaaGreat.Log
namespace Go.Proofs.YtgjmbbkcgillcaaGreat.Log
open Go.RowKit Disk
theorem aM2 (k e n:Nat) (he:e≤n):n<e+manyOf k↔480*(n - e)<k∨e=n:=by
 unfold manyOf;omega
theorem aLu (n:Nat):Recs (List.replicate n (List.replicate 512 0))=(false,[],1):=by
 refine aOb ?_;unfold pg;cases n with
 |zero=>exact aQv
 |succ n=>
  show says (List.replicate 512 0)=none;have z1:first8 (List.replicate 512 0)=0:=by unfold first8;rw [List.take_replicate];rfl
  unfold says;rw [if_pos (Or.inl z1)]
theorem aU4 {p:List UInt8} (h:first8 p=last8 p):Calm p:=Or.inl (by rw [h];exact Nat.le_refl _)
theorem aW2 (n:Nat):Low (List.replicate n (List.replicate 512 0)) 0:=by
 have z1:first8 (List.replicate 512 0)=0:=by unfold first8;rw [List.take_replicate];rfl
 have z2:last8 (List.replicate 512 0)=0:=by unfold last8;rw [List.drop_replicate];rfl
 have hp:∀j,j<(List.replicate n (List.replicate 512 (0:UInt8))).length→pg (List.replicate n (List.replicate 512 0)) j=List.replicate 512 0:=by
  intro j hj;unfold pg;rw [List.getD_eq_getElem?_getD,List.getElem?_eq_getElem hj,List.getElem_replicate];rfl
 refine ⟨fun b hb=>by rw [(List.mem_replicate.1 hb).2,List.length_replicate],fun j hj=>?_,fun j hj=>?_,fun j hj=>?_⟩
 ·rw [hp j hj,z1];exact Nat.le_refl _
 ·rw [hp j hj,z2];exact Nat.le_refl _
 ·rw [hp j hj];exact aU4 (z1.trans z2.symm)
end Go.Proofs.YtgjmbbkcgillcaaGreat.Log
namespace Go.Proofs.YtgjmbbkcgillcaaGreat.Log
open Go.RowKit Disk
structure Stands (d:DK) (f n N:Nat) (kept:List (List UInt8)):Prop where
 up:Up d f n N
 row:d.row=[]
 left:d.left=-1
 recs:(Recs (part (now d) f n)).2.1=kept
theorem Up.mono {d:DK} {f n N M:Nat} (h:Up d f n N) (hm:N≤M):Up d f n M:=⟨h.ok,h.on,h.two,h.in_,h.low.mono hm⟩
theorem Stands.new {n:Nat} (h1:2≤n) (h2:n≤4096):Stands (DK.new n) 0 n 0 []:=by
 have e:now (DK.new n)=List.replicate n (List.replicate 512 0):=rfl;have e2:part (List.replicate n (List.replicate 512 (0:UInt8))) 0 n=List.replicate n (List.replicate 512 0):=by
  have:=aRo (List.replicate n (List.replicate 512 (0:UInt8)));rwa [List.length_replicate] at this
 refine ⟨⟨Ok.new (by omega) h2,rfl,h1,?_,?_⟩,rfl,rfl,?_⟩
 ·show 0+n≤(List.replicate n _).length;rw [List.length_replicate];omega
 ·rw [e,e2];exact aW2 n
 ·rw [e,e2,aLu]
end Go.Proofs.YtgjmbbkcgillcaaGreat.Log
namespace Go.Proofs.YtgjmbbkcgillcaaGreat.Log
open Go.RowKit Disk
end Go.Proofs.YtgjmbbkcgillcaaGreat.Log
