/- Lemmas, part 13: PathTexts, LogMem, LogRev, LogSmall, LogLeaf, LogRead -/
import Derived.Test.YtgjmbbkcgillcaaGreatPart12
import Derived.Test.YtgjmbbkcgillcaaGreatPart2
import Derived.Test.YtgjmbbkcgillcaaGreatPart9
import Derived.BigQuiet
import Derived.Test.YtgjmbbkcgillcaaGreatPart1
import Derived.Laws.BitsAllLaws
import Derived.Test.YtgjmbbkcgillcaaGreatPart3
import Derived.Test.YtgjmbbkcgillcaaGreatPart4
import Derived.Lib.SliceRun
set_option maxHeartbeats 16000000
namespace Go.Proofs.YtgjmbbkcgillcaaGreat
open Go.RowKit
structure RdV (w:World) (A:Option Addr) (n:Nat) (vs:List Value):Prop where
 len:vs.length=n
 cells:0<n→∃ad,A=some ad∧∀j v,vs[j]? =some v→w.cell? (ad.add j)=some v
theorem RdV.nil_ (w:World) (A:Option Addr):RdV w A 0 []:=⟨rfl,fun h=>absurd h (by omega)⟩
theorem RdV.keep {w w':World} {A:Option Addr} {n:Nat} {vs:List Value} (h:RdV w A n vs) (hk:∀(p:Addr) (v:Value),w.cell? p=some v→w'.cell? p=some v):RdV w' A n vs:=
 ⟨h.len,fun hn=>by
  obtain ⟨ad,e,hc⟩:=h.cells hn;exact ⟨ad,e,fun j b hb=>hk _ _ (hc j b hb)⟩⟩
theorem RdV.below {w w':World} {A:Option Addr} {n:Nat} {vs:List Value} (h:RdV w A n vs) (hb:Below w.heap.size w w'):RdV w' A n vs:=
 h.keep fun p _ hp=>(hb.cell (World.block_lt_of_cell? w p hp)).trans hp
theorem RdV.of_own {w:World} {base:Nat} {e:TypeId} {A:Option Addr} {n m c:Nat} {vs:List Value} (h:w.ownsRow base e 1 (.slice A n c) m vs):RdV w A n vs∧n=m:=by
 have hl:=h.1;rw [Nat.mul_one] at hl;rcases h.2 with ⟨e1,rfl⟩|⟨g,cap,cur,e1,_,hh,hnc,_,hs,ht⟩
 ·injection e1 with e1 e2 e3;subst e2;exact ⟨⟨hl,fun h0=>absurd h0 (by omega)⟩,rfl⟩
 ·injection e1 with e1 e2 e3;subst e1 e2 e3;refine ⟨⟨hl,fun _=>⟨_,rfl,fun j b hb=>?_⟩⟩,rfl⟩;have hj:j<n:=by
   have:=(List.getElem?_eq_some_iff.1 hb).1;omega
  have:w.cell? ⟨g,0+j,none⟩=some b:=by
   simp only [World.cell?,hh];rw [Nat.mul_one] at ht;have h2:(cur.toList.take n)[j]? =some b:=by rw [ht,hb]
   rw [List.getElem?_take,if_pos hj] at h2;simpa using h2
  unfold Addr.add;by_cases hj0:j=0
  ·subst hj0;simpa using this
  ·simpa [hj0] using this
theorem aAq {w:World} {base:Nat} {e:TypeId} {v:Value} {n:Nat} {xs:List Value} (h:w.ownsRow base e 1 v n xs):∃A c,v=.slice A n c:=by
 rcases h.2 with ⟨h0,h1⟩|⟨g,cap,cur,h0,_⟩
 ·exact ⟨none,0,by rw [h0,h1]⟩
 ·exact ⟨_,_,h0⟩
theorem aD0 (w:World) (base:Nat) (e:TypeId):w.ownsRow base e 1 (.slice none 0 0) 0 []:=⟨rfl,.inl ⟨rfl,rfl⟩⟩
theorem aKd {P:Program} {w:World} {t ty e:TypeId} {i:TypeInfo} {z:Value} {bytes:Nat} (ht:P.underlying t=some (.slice e)) (hi:P.info? e=some i) (hz:i.zero=some z) (hs:i.size=1) (hb:i.bytes=bytes) (hzs:z.cells.size=1)
  {base:Nat} {v:Value} {n:Nat} {xs:List Value} (hown:w.ownsRow base e 1 v n xs) {A:Option Addr} {m:Nat} {vs:List Value} (h:RdV w A m vs) (h1:∀u∈vs,u.oneCell'=true) (c:Nat) (h63:n+m≤maxLen) (hm:(n+m)*bytes≤140737488355328) (hbase:base≤w.heap.size):
  ∃v' w',(Builtin.append_ #[t,t] ty #[v,.slice A m c]).run P w=.ok v' w'∧w'.ownsRow base e 1 v' (n+m) (xs++vs)∧w.grownBy w' v.ownBlock:=by
 have hl:=h.len;cases A with
 |some ad=>
  have hcells:∀j u,vs[j]? =some u→w.cell? (ad.add j)=some u:=by
   intro j u hu;have h0:0<m:=by
    have:=(List.getElem?_eq_some_iff.1 hu).1;omega
   obtain ⟨ad',e',hc⟩:=h.cells h0;injection e' with e';subst e';exact hc j u hu
  obtain ⟨v',w',h1,h2,h3,_⟩:=run_append_own (P:=P) w base t ty e i z 1 bytes ht hi hz hs hb hzs (by decide) v n xs hown ad m c vs (by simp [hl]) hcells h1 h63 hm hbase;exact ⟨v',w',h1,h2,h3⟩
 |none=>
  have hm0:m=0:=by
   rcases Nat.eq_zero_or_pos m with h0|h0
   ·exact h0
   ·obtain ⟨_,e',_⟩:=h.cells h0;cases e'
  subst hm0;have hb0:vs=[]:=List.eq_nil_of_length_eq_zero hl;subst hb0;refine ⟨v,w,?_,by simpa using hown,⟨rfl,rfl,rfl,Nat.le_refl _,fun _ _ _=>rfl⟩⟩;rcases hown.2 with ⟨rfl,rfl⟩|⟨g,cap,cur,rfl,_,_,hnc,_⟩
  ·simp [Builtin.append_,run_underlying ht,sizeOf,typeInfo,hi,Builtin.lenOf,Builtin.firstCells]
  ·simp [Builtin.append_,run_underlying ht,sizeOf,typeInfo,hi,Builtin.lenOf,Builtin.firstCells,hnc,storeCells]
theorem aBg {P:Program} {w:World} {ops:Array Oper} {rest:List Oper} {o:Oper} {a:Act} {Q:Exit→Act→World→Prop} (hgd:o.guard=none) (s x:Operand) (t:TypeId)
  (ho:o.op=.call {callee:=.builtin .append,args:=#[s,x],argTypes:=#[t,t]}) {e:TypeId} {i:TypeInfo} {z:Value} {bytes:Nat} (ht:P.underlying t=some (.slice e)) (hi:P.info? e=some i) (hz:i.zero=some z) (hsz:i.size=1) (hb:i.bytes=bytes) (hzs:z.cells.size=1)
  {base:Nat} {v:Value} {n:Nat} {xs:List Value} (hs:a.eval s=v) (hown:w.ownsRow base e 1 v n xs) {A:Option Addr} {m c:Nat} {vs:List Value} (hx:a.eval x=.slice A m c) (h:RdV w A m vs) (h1:∀u∈vs,u.oneCell'=true) (h63:n+m≤maxLen) (hm:(n+m)*bytes≤140737488355328) (hbase:base≤w.heap.size)
  (hK:∀v' w',w'.ownsRow base e 1 v' (n+m) (xs++vs)→w.grownBy w' v.ownBlock→wpList P ops Q rest (a.put o.dst v') w'):wpList P ops Q (o::rest) a w:=by
 obtain ⟨v',w',h1,h2,h3⟩:=aKd (ty:=o.type) ht hi hz hsz hb hzs hown h h1 c h63 hm hbase;refine wpList_plain hgd fun K hK'=>?_;unfold Oper.wp execOp;simp only [ho,resolve,invoke,builtin,Sem.run_bind,Sem.run_pure,Result.andThen_ok,List.map_toArray,List.map_cons,List.map_nil,hs,hx,h1];exact hK' _ _ (hK v' w' h2 h3)
theorem infos {P:Program} {t:TypeId} {z:Value} {a b:Nat} (h:(P.info? t).map (fun i=>(i.zero,i.size,i.bytes))=some (some z,a,b)):∃i,P.info? t=some i∧i.zero=some z∧i.size=a∧i.bytes=b:=by
 cases hi:P.info? t with
 |none=>rw [hi] at h;cases h
 |some i=>
  rw [hi] at h;simp at h;exact ⟨i,rfl,h⟩
namespace Path
end Path
end Go.Proofs.YtgjmbbkcgillcaaGreat
namespace Go.Proofs.YtgjmbbkcgillcaaGreat.Log
open Go.RowKit Disk
structure Many (w:World) (vs:List Value) (bs:List (List UInt8)):Prop where
 len:vs.length=bs.length
 at_:∀(j:Nat) (b:List UInt8),bs[j]? =some b→∃A n c,vs[j]? =some (.slice A n c)∧n≤c∧Rd w A n b
theorem Many.below {w w':World} {vs:List Value} {bs:List (List UInt8)} (h:Many w vs bs) (hb:Below w.heap.size w w'):Many w' vs bs:=
 ⟨h.len,fun j b hj=>by
  obtain ⟨A,n,c,h1,h2,h3⟩:=h.at_ j b hj;exact ⟨A,n,c,h1,h2,h3.below hb⟩⟩
theorem Many.nil_ (w:World):Many w [] []:=⟨rfl,fun j b hj=>by simp at hj⟩
theorem Many.cons_ {w:World} {A:Option Addr} {n c:Nat} {b:List UInt8} {vs:List Value} {bs:List (List UInt8)} (h1:Rd w A n b) (h2:n≤c) (h:Many w vs bs):Many w (.slice A n c::vs) (b::bs):=
 ⟨by simp [h.len],fun j x hj=>by
  cases j with
  |zero=>simp at hj;subst hj;exact ⟨A,n,c,rfl,h2,h1⟩
  |succ j=>exact h.at_ j x (by simpa using hj)⟩
theorem Many.snoc {w:World} {A:Option Addr} {n c:Nat} {b:List UInt8} {vs:List Value} {bs:List (List UInt8)} (h:Many w vs bs) (h1:Rd w A n b) (h2:n≤c):Many w (vs++[.slice A n c]) (bs++[b]):=
 ⟨by simp [h.len],fun j x hj=>by
  rcases Nat.lt_or_ge j bs.length with hl|hl
  ·rw [List.getElem?_append_left hl] at hj;rw [List.getElem?_append_left (by rw [h.len];exact hl)];exact h.at_ j x hj
  ·rw [List.getElem?_append_right hl] at hj;rw [List.getElem?_append_right (by rw [h.len];exact hl),h.len];have:j - bs.length=0:=by
    have:=(List.getElem?_eq_some_iff.1 hj).1;simp at this;omega
   rw [this] at hj ⊢;simp at hj;subst hj;exact ⟨A,n,c,rfl,h2,h1⟩⟩
theorem aM6:(Tryz.prog.info? 37).map (fun i=>(i.zero,i.size,i.bytes))=some (some (.slice none 0 0),1,24):=by kernel_rfl
theorem aOz:Tryz.prog.underlying 58=some (.slice 37):=by kernel_rfl
def flatK (bs:List (List UInt8)) (k:Nat):List UInt8:=(bs.take k).flatten
theorem aU1 (bs:List (List UInt8)) (k:Nat) (h:k<bs.length):flatK bs (k+1)=flatK bs k++bs[k]:=by
 unfold flatK;rw [←List.take_append_getElem h,List.flatten_append];simp
theorem bC5 (bs:List (List UInt8)) (k:Nat):(flatK bs k).length≤bs.flatten.length:=by
 unfold flatK;have:bs.flatten=(bs.take k).flatten++(bs.drop k).flatten:=by rw [←List.flatten_append,List.take_append_drop]
 rw [this,List.length_append];omega
theorem aXa (bs:List (List UInt8)) (k:Nat) (h:bs.length≤k):flatK bs k=bs.flatten:=by unfold flatK;rw [List.take_of_length_le h]
def RelTog (w:World) (bs:List (List UInt8)) (n:Nat) (v i:Value) (wr:World):Prop:=
 ∃k:Nat,k≤n∧i=.int .i64 (k:Int)∧wr.ownsRow w.heap.size 5 1 v (flatK bs k).length ((flatK bs k).map U)∧Below w.heap.size w wr
set_option maxRecDepth 100000 in
theorem aE7 (A:Option Addr) (n c:Nat) (vs:List Value) (bs:List (List UInt8)) (w:World) (h:RdV w A n vs) (hm:Many w vs bs) (hl:bs.flatten.length≤100000000) (hn:n≤1000000):
  Calls Tryz.prog 235 #[.slice A n c] w (Put w bs.flatten):=by
 obtain ⟨i0,hi,hz0,hz1,hz2⟩:=info_parts aBh;have HI:=Lib.hid hi;have HZ0:=Lib.hid hz0;have HZ1:=Lib.hid hz1;have HZ2:=Lib.hid hz2;clear hi hz0 hz1 hz2;have HN:Hid (n=bs.length):=by show _=_;rw [←h.len,hm.len]
 have H:=Lib.hid h;have HM:=Lib.hid hm;have HL:=Lib.hid hl;clear h hm hl;go_enter Tryz.func235,Tryz.ntmps235
 go_wp2_with fail;go_loopw [3,5,8] (fun v _ i wr=>RelTog w bs n v i wr) (fun _ _ i _=>n - (intOf i).toNat)
 case atStart=>exact ⟨0,by omega,rfl,aD0 _ _ _,Below.refl _ _⟩
 case round=>
  obtain ⟨k,hk,rfl,hown,hbel⟩:=hrel;have HO:=Lib.hid hown;have HB:=Lib.hid hbel;clear hown hbel;by_cases hlt:k<n
  ·have hkl:k<bs.length:=by have:=HN.out;omega
   obtain ⟨A1,n1,c1,hv1,_,hr1⟩:=HM.out.at_ k _ (List.getElem?_eq_getElem hkl);obtain ⟨ad,rfl,hc⟩:=(H.out.below HB.out).cells (by omega);have hcell:=hc k _ hv1;have HR1:=Lib.hid (hr1.below HB.out);have hle:=bC5 bs (k+1);have hft:=aU1 bs k hkl;rw [hft,List.length_append] at hle;have hn1:=hr1.len;have HF:=Lib.hid hft;have HN1:=Lib.hid hn1;have HLE:Hid ((flatK bs k).length+n1≤100000000):=by
    have:=HL.out;show _≤_;omega
   clear hc hv1 hr1 hle hft hn1;go_wp2_with (at_builtin;refine aCg rfl (.tmp 12) (.tmp 13) _ rfl aAt HI.out HZ0.out HZ1.out HZ2.out rfl rfl HO.out rfl HR1.out (by have:=HLE.out;omega) HB.out.size ?_)
   intro v' w3 hown3 hgr3;have HO3:Hid (w3.ownsRow w.heap.size 5 1 v' (flatK bs (k+1)).length ((flatK bs (k+1)).map U)):=by
    show World.ownsRow _ _ _ _ _ _ _;rw [HF.out,List.length_append,HN1.out,List.map_append];exact hown3
   have HB3:=Lib.hid (HB.out.grown hgr3 HB.out.size (fun g hg=>(HO.out.lt g hg).1));clear hown3 hgr3;go_wp2_with fail;exact ⟨⟨k+1,by omega,rfl,HO3.out,HB3.out⟩,by simp [intOf];omega⟩
  ·obtain rfl:k=n:=by omega
   have HO3:=HO.out;rw [aXa bs k (by have:=HN.out;omega)] at HO3;have HO4:=Lib.hid HO3;clear HO3;go_wp2_with fail;go_ret;exact Put.of HO4.out HB.out
end Go.Proofs.YtgjmbbkcgillcaaGreat.Log
namespace Go.Proofs.YtgjmbbkcgillcaaGreat.Log
open Go.RowKit
def m3:Nat:=71777214294589695
def m4:Nat:=281470681808895
def rev1 (x:Nat):Nat:=(x / 256&&&m3)|||(x&&&m3)*256
def rev2 (x:Nat):Nat:=(x / 65536&&&m4)|||(x&&&m4)*65536
def rev3 (x:Nat):Nat:=x / 4294967296|||x*4294967296 % 18446744073709551616
def rev (x:Nat):Nat:=rev3 (rev2 (rev1 x))
theorem aVr:∀j,j<64→m3.testBit j=decide (j / 8 % 2=0):=by decide
theorem aVa:∀j,j<64→m4.testBit j=decide (j / 16 % 2=0):=by decide
theorem aQ1 (x k j:Nat):(x*2^k).testBit j=(decide (k≤j)&&x.testBit (j - k)):=by
 rw [←Nat.shiftLeft_eq,Nat.testBit_shiftLeft]
theorem aXn (x j:Nat) (hj:j<64):(rev1 x).testBit j=x.testBit (if j / 8 % 2=0 then j+8 else j - 8):=by
 have e:(rev1 x)=(x / 2^8&&&m3)|||(x&&&m3)*2^8:=rfl;rw [e,Nat.testBit_or,Nat.testBit_and,aQ1,Nat.testBit_and,Nat.testBit_div_two_pow,aVr j hj];split
 ·next h=>
  have h8:(decide (8≤j)&&(x.testBit (j - 8)&&m3.testBit (j - 8)))=false:=by
   by_cases h1:8≤j
   ·rw [aVr (j - 8) (by omega),decide_eq_false (p:=(j - 8) / 8 % 2=0) (by omega),Bool.and_false,Bool.and_false]
   ·rw [decide_eq_false h1,Bool.false_and]
  rw [h8,decide_eq_true h,Bool.and_true,Bool.or_false]
 ·next h=>
  rw [aVr (j - 8) (by omega),decide_eq_false h,Bool.and_false,Bool.false_or,decide_eq_true (p:=8≤j) (by omega),Bool.true_and,decide_eq_true (p:=(j - 8) / 8 % 2=0) (by omega),Bool.and_true]
theorem aZ4 (x j:Nat) (hj:j<64):(rev2 x).testBit j=x.testBit (if j / 16 % 2=0 then j+16 else j - 16):=by
 have e:(rev2 x)=(x / 2^16&&&m4)|||(x&&&m4)*2^16:=rfl;rw [e,Nat.testBit_or,Nat.testBit_and,aQ1,Nat.testBit_and,Nat.testBit_div_two_pow,aVa j hj];split
 ·next h=>
  have h8:(decide (16≤j)&&(x.testBit (j - 16)&&m4.testBit (j - 16)))=false:=by
   by_cases h1:16≤j
   ·rw [aVa (j - 16) (by omega),decide_eq_false (p:=(j - 16) / 16 % 2=0) (by omega),Bool.and_false,Bool.and_false]
   ·rw [decide_eq_false h1,Bool.false_and]
  rw [h8,decide_eq_true h,Bool.and_true,Bool.or_false]
 ·next h=>
  rw [aVa (j - 16) (by omega),decide_eq_false h,Bool.and_false,Bool.false_or,decide_eq_true (p:=16≤j) (by omega),Bool.true_and,decide_eq_true (p:=(j - 16) / 16 % 2=0) (by omega),Bool.and_true]
theorem aXj (x j:Nat) (hx:x<18446744073709551616) (hj:j<64):(rev3 x).testBit j=x.testBit (if j<32 then j+32 else j - 32):=by
 have e:(rev3 x)=x / 2^32|||x*2^32 % 2^64:=rfl;rw [e,Nat.testBit_or,Nat.testBit_mod_two_pow,aQ1,Nat.testBit_div_two_pow,decide_eq_true hj,Bool.true_and];split
 ·next h=>rw [decide_eq_false (p:=32≤j) (by omega),Bool.false_and,Bool.or_false]
 ·next h=>
  rw [decide_eq_true (p:=32≤j) (by omega),Bool.true_and,Nat.testBit_lt_two_pow (x:=x) (i:=j+32),Bool.false_or];exact Nat.lt_of_lt_of_le hx (show 2^64≤2^(j+32) from Nat.pow_le_pow_right (by decide) (by omega))
theorem aQ3 {x:Nat} (hx:x<18446744073709551616):rev1 x<18446744073709551616:=by
 have h1:x / 256&&&m3<2^64:=Nat.lt_of_le_of_lt Nat.and_le_left (by omega);have h2:(x&&&m3)*256<2^64:=by
  have:x&&&m3≤m3:=Nat.and_le_right;unfold m3 at this ⊢;omega
 exact Nat.or_lt_two_pow h1 h2
theorem aP7 {x:Nat} (hx:x<18446744073709551616):rev2 x<18446744073709551616:=by
 have h1:x / 65536&&&m4<2^64:=Nat.lt_of_le_of_lt Nat.and_le_left (by omega);have h2:(x&&&m4)*65536<2^64:=by
  have:x&&&m4≤m4:=Nat.and_le_right;unfold m4 at this ⊢;omega
 exact Nat.or_lt_two_pow h1 h2
theorem bAg {x:Nat} (hx:x<18446744073709551616):rev3 x<18446744073709551616:=
 Nat.or_lt_two_pow (n:=64) (by omega) (Nat.mod_lt _ (by decide))
theorem bD1 {x:Nat} (hx:x<18446744073709551616):rev x<18446744073709551616:=bAg (aP7 (aQ3 hx))
theorem bAy (x j:Nat) (hx:x<18446744073709551616) (hj:j<64):(rev x).testBit j=x.testBit (56 - 8*(j / 8)+j % 8):=by
 unfold rev;rw [aXj _ j (aP7 (aQ3 hx)) hj,aZ4 _ _ (by split<;>omega),aXn _ _ (by split<;>split<;>omega)]
 congr 1
 split<;>split<;>split<;>omega
theorem aXk (x i:Nat) (hx:x<18446744073709551616) (hi:i<8):rev x / 256^i % 256=x / 256^(7 - i) % 256:=by
 have p:∀k,256^k=2^(8*k):=fun k=>by rw [Nat.pow_mul]
 refine Nat.eq_of_testBit_eq fun k=>?_;rw [p,p,show (256:Nat)=2^8 from rfl,Nat.testBit_mod_two_pow,Nat.testBit_mod_two_pow,Nat.testBit_div_two_pow,Nat.testBit_div_two_pow];by_cases hk:k<8
 ·rw [bAy x _ hx (by omega)]
  congr 2
  omega
 ·rw [decide_eq_false hk,Bool.false_and,Bool.false_and]
theorem bCb {x:Nat} (hx:x<18446744073709551616):be 8 (rev x)=(be 8 x).reverse:=by
 have h:∀i,i<8→UInt8.ofNat (rev x / 256^i)=UInt8.ofNat (x / 256^(7 - i)):=fun i hi=>by
  apply UInt8.toNat_inj.1
  rw [UInt8.toNat_ofNat',UInt8.toNat_ofNat'];exact aXk x i hx hi
 simp only [be];rw [h 7 (by decide),h 6 (by decide),h 5 (by decide),h 4 (by decide),h 3 (by decide),h 2 (by decide),h 1 (by decide),h 0 (by decide)];rfl
end Go.Proofs.YtgjmbbkcgillcaaGreat.Log
namespace Go.Proofs.YtgjmbbkcgillcaaGreat.Log
open Go.RowKit Disk
theorem aUp (x:Nat) (hx:x<18446744073709551616):∃a b c y a2 b2 c2 y2 c3 z:Nat,
  bits .and .u64 ((x:Int) / 256) 71777214294589695=(a:Int)∧bits .and .u64 (x:Int) 71777214294589695=(b:Int)∧IntKind.u64.wrap ((b:Int)*256)=(c:Int)∧bits .or .u64 (a:Int) (c:Int)=(y:Int)∧
  bits .and .u64 ((y:Int) / 65536) 281470681808895=(a2:Int)∧bits .and .u64 (y:Int) 281470681808895=(b2:Int)∧IntKind.u64.wrap ((b2:Int)*65536)=(c2:Int)∧bits .or .u64 (a2:Int) (c2:Int)=(y2:Int)∧
  IntKind.u64.wrap ((y2:Int)*4294967296)=(c3:Int)∧bits .or .u64 ((y2:Int) / 4294967296) (c3:Int)=(z:Int)∧z=rev x:=by
 have h1:=aQ3 hx;have h2:=aP7 h1;have l1:x&&&m3≤71777214294589695:=Nat.and_le_right;have l2:rev1 x&&&m4≤281470681808895:=Nat.and_le_right;have d1:((x / 256:Nat):Int)=(x:Int) / 256:=by omega
 have d2:((rev1 x / 65536:Nat):Int)=(rev1 x:Int) / 65536:=by omega
 have d3:((rev2 (rev1 x) / 4294967296:Nat):Int)=(rev2 (rev1 x):Int) / 4294967296:=by omega
 refine ⟨x / 256&&&m3,x&&&m3,(x&&&m3)*256,rev1 x,rev1 x / 65536&&&m4,rev1 x&&&m4,(rev1 x&&&m4)*65536,rev2 (rev1 x),rev2 (rev1 x)*4294967296 % 18446744073709551616,rev x,?_,?_,?_,?_,?_,?_,?_,?_,?_,?_,rfl⟩
 ·rw [←d1];exact u64_and_nat _ m3 (by omega) (by decide)
 ·exact u64_and_nat _ m3 (by omega) (by decide)
 ·rw [IntKind.wrap_u64];omega
 ·exact u64_or_nat _ _ (by have:x / 256&&&m3≤x / 256:=Nat.and_le_left;omega) (by omega)
 ·rw [←d2];exact u64_and_nat _ m4 (by omega) (by decide)
 ·exact u64_and_nat _ m4 (by omega) (by decide)
 ·rw [IntKind.wrap_u64];omega
 ·exact u64_or_nat _ _ (by have:rev1 x / 65536&&&m4≤rev1 x / 65536:=Nat.and_le_left;omega) (by omega)
 ·rw [IntKind.wrap_u64];omega
 ·rw [←d3];exact u64_or_nat _ _ (by omega) (by omega)
theorem bBr (x:Nat) (hx:x<18446744073709551616) (w:World):Calls Tryz.prog 237 #[.int .u64 (x:Int)] w (Ans (.int .u64 (rev x:Nat)) w):=by
 obtain ⟨a,b,c,y,a2,b2,c2,y2,c3,z,e1,e2,e3,e4,e5,e6,e7,e8,e9,e10,hz⟩:=aUp x hx;have HZ:=Lib.hid hz;clear hz;go_enter Tryz.func237,Tryz.ntmps237
 go_wp2_with fail;go_ret;rw [←HZ.out];exact ⟨rfl,rfl⟩
set_option maxRecDepth 100000 in
theorem aKh (x:Nat) (hx:x<65536) (w:World):Calls Tryz.prog 236 #[.int .u16 (x:Int)] w (Put w (be 2 x)):=by
 have HP:Hid (Put w (be 2 x) (.returned (.slice (some ⟨w.heap.size,0,none⟩) 2 2)) (w.alloc (.cells #[.int .u8 ((x:Int) / 256),.int .u8 ((x:Int) % 256)] 5))):=by
  have e1:Value.int .u8 ((x:Int) / 256)=U (UInt8.ofNat (x / 256)):=by
   unfold U;rw [UInt8.toNat_ofNat',Nat.mod_eq_of_lt (by omega)]
   congr 1
  have e2:Value.int .u8 ((x:Int) % 256)=U (UInt8.ofNat x):=by
   unfold U;rw [UInt8.toNat_ofNat']
   congr 1
  rw [e1,e2];refine ⟨_,2,2,rfl,rfl,Nat.le_refl _,?_,(Below.refl _ _).alloc (Nat.le_refl _) _⟩;have:=World.ownsRow_lit (base:=w.heap.size) (e:=5) (size:=1) w #[U (UInt8.ofNat (x / 256)),U (UInt8.ofNat x)] 2 (Nat.le_refl _) (by unfold maxLen;omega) (by simp);simpa [be] using this
 go_enter Tryz.func236,Tryz.ntmps236
 go_wp2_with fail;go_ret;exact HP.out
set_option maxRecDepth 100000 in
theorem aL7 (x:Nat) (hx:x<100000000) (w:World):Calls Tryz.prog 221 #[.int .i64 (x:Int)] w (Ans (.int .i64 (manyOf x:Nat)) w):=by
 have HP:Hid (Ans (.int .i64 (manyOf x:Nat)) w (.returned (.int .i64 (max 1 (((x:Int)+480 - 1) / 480)))) w):=by
  refine ⟨?_,rfl⟩;unfold manyOf
  congr 2
  omega
 go_enter Tryz.func221,Tryz.ntmps221
 go_wp2_with fail;go_ret;exact HP.out
end Go.Proofs.YtgjmbbkcgillcaaGreat.Log
namespace Go.Proofs.YtgjmbbkcgillcaaGreat.Log
open Go.RowKit Disk
open PhaseG (aDc)
open Phase (aA0 aA2)
def SlAt (b:List UInt8) (x:Value) (W:World):Prop:=∃A n c,x=.slice A n c∧n=b.length∧n≤c∧Rd W A n b
theorem SlAt.below {b:List UInt8} {x:Value} {W W':World} (h:SlAt b x W) (hb:Below W.heap.size W W'):SlAt b x W':=by
 obtain ⟨A,n,c,h1,h2,h3,h4⟩:=h;exact ⟨A,n,c,h1,h2,h3,h4.below hb⟩
theorem _root_.Go.Proofs.YtgjmbbkcgillcaaGreat.Put.sl {w w':World} {b:List UInt8} {x:Value} (h:Put w b (.returned x) w'):SlAt b x w'∧Below w.heap.size w w':=by
 obtain ⟨A,n,c,h1,h2,h3,h4,h5⟩:=h;injection h1 with h1;exact ⟨⟨A,n,c,h1,h2,h3,(Rd.of_own h4).1⟩,h5⟩
theorem _root_.Go.Proofs.YtgjmbbkcgillcaaGreat.Put.from {w w1 w':World} {b:List UInt8} {e:Ending} (h:Put w1 b e w') (hb:Below w.heap.size w w1):Put w b e w':=by
 obtain ⟨A,n,c,h1,h2,h3,h4,h5⟩:=h;exact ⟨A,n,c,h1,h2,h3,aAh h4 hb.size,hb.trans (h5.mono hb.size)⟩
theorem _root_.Go.Proofs.YtgjmbbkcgillcaaGreat.Put.val {w w':World} {b:List UInt8} {e:Ending} (h:Put w b e w'):∃x,e=.returned x∧Put w b (.returned x) w':=by
 obtain ⟨A,n,c,rfl,h⟩:=h;exact ⟨_,rfl,A,n,c,rfl,h⟩
theorem aD8 (w:World) (t:TypeId) (vs:List Value):RdV (w.alloc (.cells vs.toArray t)) (some ⟨w.heap.size,0,none⟩) vs.length vs:=
 ⟨rfl,fun _=>⟨_,rfl,fun j u hu=>by
  have hadd:((⟨w.heap.size,0,none⟩:Addr).add j)=⟨w.heap.size,j,none⟩:=by unfold Addr.add;split<;>simp_all
  rw [hadd,(Bk.new w t vs.toArray).cell j];simpa using hu⟩⟩
theorem Many.sl {W:World} {b:List UInt8} {x:Value} {vs:List Value} {bs:List (List UInt8)} (h1:SlAt b x W) (h:Many W vs bs):Many W (x::vs) (b::bs):=by
 obtain ⟨A,n,c,rfl,_,h3,h4⟩:=h1;exact Many.cons_ h4 h3 h
structure LfAt (W:World) (g:Nat) (s a o:Nat) (A:Option Addr) (n c:Nat):Prop where
 c0:W.cell? ⟨g,0,none⟩=some (.int .u64 (s:Int))
 c1:W.cell? ⟨g,1,none⟩=some (.int .u16 (a:Int))
 c2:W.cell? ⟨g,2,none⟩=some (.int .u16 (o:Int))
 c3:W.cell? ⟨g,3,none⟩=some (.slice A n c)
theorem LfAt.keep {W W':World} {g s a o:Nat} {A:Option Addr} {n c:Nat} (h:LfAt W g s a o A n c) (hk:W'.heap[g]? =W.heap[g]?):LfAt W' g s a o A n c:=
 have e:∀i,W'.cell? ⟨g,i,none⟩=W.cell? ⟨g,i,none⟩:=fun i=>World.cell?_of_block (w:=W) (by exact hk)
 ⟨(e 0).trans h.c0,(e 1).trans h.c1,(e 2).trans h.c2,(e 3).trans h.c3⟩
theorem LfAt.new (w:World) (t:TypeId) (s a o:Nat) (A:Option Addr) (n c:Nat):LfAt (w.alloc (.cells #[.int .u64 (s:Int),.int .u16 (a:Int),.int .u16 (o:Int),.slice A n c] t)) w.heap.size s a o A n c:=
 have h:=Bk.new w t #[.int .u64 (s:Int),.int .u16 (a:Int),.int .u16 (o:Int),.slice A n c]
 ⟨h.cell 0,h.cell 1,h.cell 2,h.cell 3⟩
def RL1 (w:World) (s _p _o n c:Nat) (A:Option Addr) (_b:List UInt8):Nat→Value→World→Prop
 |0,x,_=>x=.pointer (some ⟨w.heap.size,0,none⟩)
 |1,x,_=>x=.int .u64 (s:Int)
 |2,x,W=>SlAt (be 8 s) x W
 |3,x,_=>x=.pointer (some ⟨w.heap.size,3,none⟩)
 |4,x,_=>x=.slice A n c
 |5,x,_=>x=.int .i64 (n:Int)
 |6,x,_=>x=.int .i64 ((480 - n:Nat):Int)
 |7,x,W=>SlAt (List.replicate (480 - n) 0) x W
 |8,x,W=>SlAt (be 8 s) x W
 |9,x,W=>SlAt (List.replicate (480 - n) 0) x W
 |_,_,_=>True
theorem RL1.below (w:World) (s p o n c:Nat) (A:Option Addr) (b:List UInt8) {k:Nat} {x:Value} {W W':World} (h:RL1 w s p o n c A b k x W) (hb:Below W.heap.size W W'):RL1 w s p o n c A b k x W':=by
 match k,h with
 |0,h=>exact h
 |1,h=>exact h
 |2,h=>exact SlAt.below h hb
 |3,h=>exact h
 |4,h=>exact h
 |5,h=>exact h
 |6,h=>exact h
 |7,h=>exact SlAt.below h hb
 |8,h=>exact SlAt.below h hb
 |9,h=>exact SlAt.below h hb
 |_+10,_=>trivial
def RL2 (w:World) (s p o n c:Nat) (A:Option Addr) (b:List UInt8):Nat→Value→World→Prop
 |0,x,W=>SlAt (be 8 s) x W
 |1,x,_=>x=.pointer (some ⟨w.heap.size,1,none⟩)
 |2,x,_=>x=.int .u16 (p:Int)
 |3,x,W=>SlAt (be 2 p) x W
 |4,x,_=>x=.pointer (some ⟨w.heap.size,2,none⟩)
 |5,x,_=>x=.int .u16 (o:Int)
 |6,x,W=>SlAt (be 2 o) x W
 |7,x,_=>x=.pointer (some ⟨w.heap.size,3,none⟩)
 |8,x,_=>x=.slice A n c
 |9,x,W=>SlAt (be 4 n++b) x W
 |10,x,W=>SlAt (List.replicate (480 - n) 0) x W
 |11,x,W=>∃g vs,x=.slice (some ⟨g,0,none⟩) 5 5∧RdV W (some ⟨g,0,none⟩) 5 vs∧Many W vs [be 8 s,be 2 p,be 2 o,be 4 n++b,List.replicate (480 - n) 0]
 |12,x,W=>SlAt (bodyP s p o b) x W
 |13,x,W=>SlAt (bodyP s p o b) x W
 |_,_,_=>True
theorem RL2.below (w:World) (s p o n c:Nat) (A:Option Addr) (b:List UInt8) {k:Nat} {x:Value} {W W':World} (h:RL2 w s p o n c A b k x W) (hb:Below W.heap.size W W'):RL2 w s p o n c A b k x W':=by
 match k,h with
 |0,h=>exact SlAt.below h hb
 |1,h=>exact h
 |2,h=>exact h
 |3,h=>exact SlAt.below h hb
 |4,h=>exact h
 |5,h=>exact h
 |6,h=>exact SlAt.below h hb
 |7,h=>exact h
 |8,h=>exact h
 |9,h=>exact SlAt.below h hb
 |10,h=>exact SlAt.below h hb
 |11,h=>obtain ⟨g,vs,h1,h2,h3⟩:=h;exact ⟨g,vs,h1,h2.below hb,h3.below hb⟩
 |12,h=>exact SlAt.below h hb
 |13,h=>exact SlAt.below h hb
 |_+14,_=>trivial
theorem aUc (w:World) (z:Nat):Rd (w.alloc (.cells (List.replicate z (U 0)).toArray 5)) (some ⟨w.heap.size,0,none⟩) z (List.replicate z 0):=by
 have:=aH8 w 5 (0,0) (List.replicate z 0);simpa using this
set_option maxRecDepth 100000 in
theorem aQj (s p o n c:Nat) (A:Option Addr) (b:List UInt8) (w:World) (hs:s<18446744073709551616) (hp:p<65536) (ho:o<65536) (h:Rd w A n b) (hn:n≤480):
  Calls Tryz.prog 207 #[.agg #[.int .u64 (s:Int),.int .u16 (p:Int),.int .u16 (o:Int),.slice A n c]] w (Put w (leafP s p o b)):=by
 obtain ⟨i0,hi,hz0,hz1,hz2⟩:=info_parts aBh;have HI:=Lib.hid hi;have HZ0:=Lib.hid hz0;have HZ1:=Lib.hid hz1;have HZ2:=Lib.hid hz2;clear hi hz0 hz1 hz2;have HS:=Lib.hid hs;have HP16:=Lib.hid hp;have HO16:=Lib.hid ho;have HN4:=Lib.hid hn;have HBL:Hid (b.length=n):=h.len;have HB0:Hid (Below w.heap.size w (w.alloc (.cells #[.int .u64 (s:Int),.int .u16 (p:Int),.int .u16 (o:Int),.slice A n c] 248))):=(Below.refl _ _).alloc (Nat.le_refl _) _;have HBODY:Hid ([be 8 s,be 2 p,be 2 o,be 4 n++b,List.replicate (480 - n) 0].flatten=bodyP s p o b):=by
  show _=_;unfold bodyP;rw [h.len];simp
 have hlf:LfAt (w.alloc (.cells #[.int .u64 (s:Int),.int .u16 (p:Int),.int .u16 (o:Int),.slice A n c] 248)) w.heap.size s p o A n c:=LfAt.new w _ s p o A n c;obtain ⟨w0,hw0⟩:∃w0,w0=w.alloc (.cells #[.int .u64 (s:Int),.int .u16 (p:Int),.int .u16 (o:Int),.slice A n c] 248):=⟨_,rfl⟩;have hsz:w.heap.size<w0.heap.size:=by rw [hw0,aBd];omega
 rw [←hw0] at HB0 hlf;have HL1:Hid (∀W,Below w0.heap.size w0 W→LfAt W w.heap.size s p o A n c):=fun W hW=>hlf.keep (hW.block _ hsz);have HRB0:Hid (∀W,Below w0.heap.size w0 W→Rd W A n b):=fun W hW=>(h.below HB0.out).below hW;have HW0:=Lib.hid hw0;have HSZ:=Lib.hid hsz;have HSUM:Hid (Crc.sum (bodyP s p o b)<18446744073709551616):=Crc.aW5 _;clear hs hp ho hn h hlf hw0 hsz;go_enter Tryz.func207,Tryz.ntmps207
 go_wp2_with fail;rw [←HW0.out];refine aDc (RL1 w s p o n c A b) (by kernel_rfl) (by kernel_rfl) (by kernel_rfl) ?_ ?_ (fun v=>{tmps:=#[.agg #[.int .u64 (s:Int),.int .u16 (p:Int),.int .u16 (o:Int),.slice A n c],.pointer (some ⟨w.heap.size,0,none⟩),.slice none 0 0,v 8,v 9,undef,undef,v 0,v 1,v 2,v 3,v 4,v 5,v 6,v 7,undef,undef,undef,undef,undef,undef,undef,undef,undef,undef,undef,undef,undef,undef,undef,undef,undef,undef,undef,undef,undef,undef],defers:=[]}) (fun v=>by kernel_rfl) ?_
 ·intro k x W W' hx h1 h2;exact RL1.below _ _ _ _ _ _ _ _ hx h2
 ·refine aA0 ?_ (aA0 ?_ (aA0 ?_ (aA0 ?_ (aA0 ?_ (aA0 ?_ (aA0 ?_ (aA0 ?_ (aA0 ?_ (aA0 ?_ (aA2))))))))))
  ·intro a v W hd hb K hK;have k1:a.tmps.getD 1 undef=.pointer (some ⟨w.heap.size,0,none⟩):=hd.kept 1 (by kernel_rfl);have hk:=hK (.pointer (some ⟨w.heap.size,0,none⟩)) W (Below.refl _ _) rfl;clear hK;unfold Oper.wp;go_simp;exact hk
  ·intro a v W hd hb K hK;obtain ⟨h7,r7⟩:=hd.done_ 0 _ 7 (by kernel_rfl) rfl rfl;have r7:v 0=.pointer (some ⟨w.heap.size,0,none⟩):=r7;rw [r7] at h7;have c0:=(HL1.out W hb).c0;have hk:=hK (.int .u64 (s:Int)) W (Below.refl _ _) rfl;clear hK;unfold Oper.wp;go_simp;exact hk
  ·intro a v W hd hb K hK;obtain ⟨h8,r8⟩:=hd.done_ 1 _ 8 (by kernel_rfl) rfl rfl;have r8:v 1=.int .u64 (s:Int):=r8;rw [r8] at h8;have cw:=aDy none 0 0 s (s:Int) [] W (Rd.nil_ _ _) rfl HS.out (by omega);unfold Oper.wp;go_simp;refine cw.mono ?_;intro e W' hp;obtain ⟨x,rfl,hp⟩:=hp.val;obtain ⟨h1,h2⟩:=hp.sl;exact hK x W' h2 h1
  ·intro a v W hd hb K hK;have k1:a.tmps.getD 1 undef=.pointer (some ⟨w.heap.size,0,none⟩):=hd.kept 1 (by kernel_rfl);have hk:=hK (.pointer (some ⟨w.heap.size,3,none⟩)) W (Below.refl _ _) rfl;clear hK;unfold Oper.wp;go_simp;exact hk
  ·intro a v W hd hb K hK;obtain ⟨h10,r10⟩:=hd.done_ 3 _ 10 (by kernel_rfl) rfl rfl;have r10:v 3=.pointer (some ⟨w.heap.size,3,none⟩):=r10;rw [r10] at h10;have c3:=(HL1.out W hb).c3;have hk:=hK (.slice A n c) W (Below.refl _ _) rfl;clear hK;unfold Oper.wp;go_simp;exact hk
  ·intro a v W hd hb K hK;obtain ⟨h11,r11⟩:=hd.done_ 4 _ 11 (by kernel_rfl) rfl rfl;have r11:v 4=.slice A n c:=r11;rw [r11] at h11;have hk:=hK (.int .i64 (n:Int)) W (Below.refl _ _) rfl;clear hK;unfold Oper.wp;go_simp;exact hk
  ·intro a v W hd hb K hK;obtain ⟨h12,r12⟩:=hd.done_ 5 _ 12 (by kernel_rfl) rfl rfl;have r12:v 5=.int .i64 (n:Int):=r12;rw [r12] at h12;have w1:IntKind.i64.wrap (480 - (n:Int))=((480 - n:Nat):Int):=by rw [IntKind.wrap_i64];have:=HN4.out;omega
   have hk:=hK (.int .i64 ((480 - n:Nat):Int)) W (Below.refl _ _) rfl;clear hK;unfold Oper.wp;go_simp;exact hk
  ·intro a v W hd hb K hK;obtain ⟨h13,r13⟩:=hd.done_ 6 _ 13 (by kernel_rfl) rfl rfl;have r13:v 6=.int .i64 ((480 - n:Nat):Int):=r13;rw [r13] at h13;have hmk:=aC1 (P:=Tryz.prog) aAt HI.out HZ0.out HZ1.out HZ2.out .i64 .i64 (480 - n) ((480 - n:Nat):Int) (Int.le_refl _) (by omega) W;rw [Int.toNat_natCast] at hmk;have hk:=hK (.slice (some ⟨W.heap.size,0,none⟩) (480 - n) (480 - n)) _ ((Below.refl _ _).alloc (Nat.le_refl _) _) ⟨_,_,_,rfl,by rw [List.length_replicate],Nat.le_refl _,aUc W (480 - n)⟩;generalize 480 - n=z at*;unfold Oper.wp;go_simp;exact hk
  ·intro a v W hd hb K hK;obtain ⟨h9,r9⟩:=hd.done_ 2 _ 9 (by kernel_rfl) rfl rfl;have q9:=r9;obtain ⟨A9,n9,c9,e9,-⟩:=r9;rw [e9] at h9 q9;have hk:=hK (.slice A9 n9 c9) W (Below.refl _ _) q9;clear hK;unfold Oper.wp;go_simp;exact hk
  ·intro a v W hd hb K hK;obtain ⟨h14,r14⟩:=hd.done_ 7 _ 14 (by kernel_rfl) rfl rfl;have q14:=r14;obtain ⟨A9,n9,c9,e9,-⟩:=r14;rw [e9] at h14 q14;have hk:=hK (.slice A9 n9 c9) W (Below.refl _ _) q14;clear hK;unfold Oper.wp;go_simp;exact hk
 ·intro v w1 hb1 hv;have v0:v 0=.pointer (some ⟨w.heap.size,0,none⟩):=hv 0 (by decide);have v1:v 1=.int .u64 (s:Int):=hv 1 (by decide);have v3:v 3=.pointer (some ⟨w.heap.size,3,none⟩):=hv 3 (by decide);have v4:v 4=.slice A n c:=hv 4 (by decide);have v5:v 5=.int .i64 (n:Int):=hv 5 (by decide);have v6:v 6=.int .i64 ((480 - n:Nat):Int):=hv 6 (by decide);have v8:SlAt (be 8 s) (v 8) w1:=hv 8 (by decide);have v9:SlAt (List.replicate (480 - n) 0) (v 9) w1:=hv 9 (by decide);clear hv;rw [v0,v1,v3,v4,v5,v6];generalize v 2=x9;generalize v 7=x14;obtain ⟨A9,n9,c9,e9,hl9,hc9,hr9⟩:=v8;obtain ⟨A14,n14,c14,e14,hl14,hc14,hr14⟩:=v9;rw [e9,e14];have HB1:=Lib.hid hb1;have HQ9:Hid (∀W,Below w1.heap.size w1 W→SlAt (be 8 s) (.slice A9 n9 c9) W):=fun W hW=>⟨_,_,_,rfl,hl9,hc9,hr9.below hW⟩;have HQ14:Hid (∀W,Below w1.heap.size w1 W→SlAt (List.replicate (480 - n) 0) (.slice A14 n14 c14) W):=fun W hW=>⟨_,_,_,rfl,hl14,hc14,hr14.below hW⟩;have HL2:Hid (∀W,Below w1.heap.size w1 W→LfAt W w.heap.size s p o A n c):=fun W hW=>HL1.out W (hb1.trans (hW.mono hb1.size));have HRB:Hid (∀W,Below w1.heap.size w1 W→Rd W A n b):=fun W hW=>HRB0.out W (hb1.trans (hW.mono hb1.size));clear v0 v1 v3 v4 v5 v6 e9 e14 hl9 hc9 hr9 hl14 hc14 hr14 hb1 HRB0 HL1;clear v;go_wp2_with fail;refine aDc (RL2 w s p o n c A b) (by kernel_rfl) (by kernel_rfl) (by kernel_rfl) ?_ ?_ (fun v=>{tmps:=#[.agg #[.int .u64 (s:Int),.int .u16 (p:Int),.int .u16 (o:Int),.slice A n c],.pointer (some ⟨w.heap.size,0,none⟩),.slice none 0 0,.slice A9 n9 c9,.slice A14 n14 c14,v 13,undef,.pointer (some ⟨w.heap.size,0,none⟩),.int .u64 (s:Int),x9,.pointer (some ⟨w.heap.size,3,none⟩),.slice A n c,.int .i64 (n:Int),.int .i64 ((480 - n:Nat):Int),x14,v 0,v 1,v 2,v 3,v 4,v 5,v 6,v 7,v 8,v 9,v 10,v 11,v 12,undef,undef,undef,undef,undef,undef,undef,undef,undef],defers:=[]}) (fun v=>by kernel_rfl) ?_
  ·intro k x W W' hx h1 h2;exact RL2.below _ _ _ _ _ _ _ _ hx h2
  ·refine aA0 ?_ (aA0 ?_ (aA0 ?_ (aA0 ?_ (aA0 ?_ (aA0 ?_ (aA0 ?_ (aA0 ?_ (aA0 ?_ (aA0 ?_ (aA0 ?_ (aA0 ?_ (aA0 ?_ (aA0 ?_ (aA2))))))))))))))
   ·intro a v W hd hb K hK;have k3:a.tmps.getD 3 undef=.slice A9 n9 c9:=hd.kept 3 (by kernel_rfl);have hk:=hK (.slice A9 n9 c9) W (Below.refl _ _) (HQ9.out W hb);clear hK;unfold Oper.wp;go_simp;exact hk
   ·intro a v W hd hb K hK;have k1:a.tmps.getD 1 undef=.pointer (some ⟨w.heap.size,0,none⟩):=hd.kept 1 (by kernel_rfl);have hk:=hK (.pointer (some ⟨w.heap.size,1,none⟩)) W (Below.refl _ _) rfl;clear hK;unfold Oper.wp;go_simp;exact hk
   ·intro a v W hd hb K hK;obtain ⟨h16,r16⟩:=hd.done_ 1 _ 16 (by kernel_rfl) rfl rfl;have r16:v 1=.pointer (some ⟨w.heap.size,1,none⟩):=r16;rw [r16] at h16;have c1:=(HL2.out W hb).c1;have hk:=hK (.int .u16 (p:Int)) W (Below.refl _ _) rfl;clear hK;unfold Oper.wp;go_simp;exact hk
   ·intro a v W hd hb K hK;obtain ⟨h17,r17⟩:=hd.done_ 2 _ 17 (by kernel_rfl) rfl rfl;have r17:v 2=.int .u16 (p:Int):=r17;rw [r17] at h17;have cw:=aKh p HP16.out W;unfold Oper.wp;go_simp;refine cw.mono ?_;intro e W' hp;obtain ⟨x,rfl,hp⟩:=hp.val;obtain ⟨h1,h2⟩:=hp.sl;exact hK x W' h2 h1
   ·intro a v W hd hb K hK;have k1:a.tmps.getD 1 undef=.pointer (some ⟨w.heap.size,0,none⟩):=hd.kept 1 (by kernel_rfl);have hk:=hK (.pointer (some ⟨w.heap.size,2,none⟩)) W (Below.refl _ _) rfl;clear hK;unfold Oper.wp;go_simp;exact hk
   ·intro a v W hd hb K hK;obtain ⟨h19,r19⟩:=hd.done_ 4 _ 19 (by kernel_rfl) rfl rfl;have r19:v 4=.pointer (some ⟨w.heap.size,2,none⟩):=r19;rw [r19] at h19;have c2:=(HL2.out W hb).c2;have hk:=hK (.int .u16 (o:Int)) W (Below.refl _ _) rfl;clear hK;unfold Oper.wp;go_simp;exact hk
   ·intro a v W hd hb K hK;obtain ⟨h20,r20⟩:=hd.done_ 5 _ 20 (by kernel_rfl) rfl rfl;have r20:v 5=.int .u16 (o:Int):=r20;rw [r20] at h20;have cw:=aKh o HO16.out W;unfold Oper.wp;go_simp;refine cw.mono ?_;intro e W' hp;obtain ⟨x,rfl,hp⟩:=hp.val;obtain ⟨h1,h2⟩:=hp.sl;exact hK x W' h2 h1
   ·intro a v W hd hb K hK;have k1:a.tmps.getD 1 undef=.pointer (some ⟨w.heap.size,0,none⟩):=hd.kept 1 (by kernel_rfl);have hk:=hK (.pointer (some ⟨w.heap.size,3,none⟩)) W (Below.refl _ _) rfl;clear hK;unfold Oper.wp;go_simp;exact hk
   ·intro a v W hd hb K hK;obtain ⟨h22,r22⟩:=hd.done_ 7 _ 22 (by kernel_rfl) rfl rfl;have r22:v 7=.pointer (some ⟨w.heap.size,3,none⟩):=r22;rw [r22] at h22;have c3:=(HL2.out W hb).c3;have hk:=hK (.slice A n c) W (Below.refl _ _) rfl;clear hK;unfold Oper.wp;go_simp;exact hk
   ·intro a v W hd hb K hK;obtain ⟨h23,r23⟩:=hd.done_ 8 _ 23 (by kernel_rfl) rfl rfl;have r23:v 8=.slice A n c:=r23;rw [r23] at h23;have cw:=aLo none A 0 0 n c [] b W (Rd.nil_ _ _) (HRB.out W hb) (by omega) (by have:=HN4.out;omega);unfold Oper.wp;go_simp;refine cw.mono ?_;intro e W' hp;obtain ⟨x,rfl,hp⟩:=hp.val;obtain ⟨h1,h2⟩:=hp.sl;exact hK x W' h2 h1
   ·intro a v W hd hb K hK;have k4:a.tmps.getD 4 undef=.slice A14 n14 c14:=hd.kept 4 (by kernel_rfl);have hk:=hK (.slice A14 n14 c14) W (Below.refl _ _) (HQ14.out W hb);clear hK;unfold Oper.wp;go_simp;exact hk
   ·intro a v W hd hb K hK;obtain ⟨h15,r15⟩:=hd.done_ 0 _ 15 (by kernel_rfl) rfl rfl;obtain ⟨Ap0,np0,cp0,ep0,lp0,bp0,qp0⟩:=r15;rw [ep0] at h15;obtain ⟨h18,r18⟩:=hd.done_ 3 _ 18 (by kernel_rfl) rfl rfl;obtain ⟨Ap3,np3,cp3,ep3,lp3,bp3,qp3⟩:=r18;rw [ep3] at h18;obtain ⟨h21,r21⟩:=hd.done_ 6 _ 21 (by kernel_rfl) rfl rfl;obtain ⟨Ap6,np6,cp6,ep6,lp6,bp6,qp6⟩:=r21;rw [ep6] at h21;obtain ⟨h24,r24⟩:=hd.done_ 9 _ 24 (by kernel_rfl) rfl rfl;obtain ⟨Ap9,np9,cp9,ep9,lp9,bp9,qp9⟩:=r24;rw [ep9] at h24;obtain ⟨h25,r25⟩:=hd.done_ 10 _ 25 (by kernel_rfl) rfl rfl;obtain ⟨Ap10,np10,cp10,ep10,lp10,bp10,qp10⟩:=r25;rw [ep10] at h25;have hb1:Below W.heap.size W (W.alloc (.cells #[.slice Ap0 np0 cp0,.slice Ap3 np3 cp3,.slice Ap6 np6 cp6,.slice Ap9 np9 cp9,.slice Ap10 np10 cp10] 37)):=(Below.refl _ _).alloc (Nat.le_refl _) _;have hm:Many W [.slice Ap0 np0 cp0,.slice Ap3 np3 cp3,.slice Ap6 np6 cp6,.slice Ap9 np9 cp9,.slice Ap10 np10 cp10] [be 8 s,be 2 p,be 2 o,be 4 n++b,List.replicate (480 - n) 0]:=.cons_ qp0 bp0 (.cons_ qp3 bp3 (.cons_ qp6 bp6 (.cons_ qp9 bp9 (.cons_ qp10 bp10 (.nil_ W)))));have hk:=hK (.slice (some ⟨W.heap.size,0,none⟩) 5 5) _ hb1 ⟨W.heap.size,_,rfl,aD8 W 37 [.slice Ap0 np0 cp0,.slice Ap3 np3 cp3,.slice Ap6 np6 cp6,.slice Ap9 np9 cp9,.slice Ap10 np10 cp10],hm.below hb1⟩;clear hK hm hb1 lp0 lp3 lp6 lp9 lp10 bp0 bp3 bp6 bp9 bp10;rw [Array.getD_eq_getD_getElem?] at h15 h18 h21 h24 h25;unfold Oper.wp;go_simp;exact hk
   ·intro a v W hd hb K hK;obtain ⟨h26,r26⟩:=hd.done_ 11 _ 26 (by kernel_rfl) rfl rfl;obtain ⟨g5,vs5,e5,hr5,hm5⟩:=r26;rw [e5] at h26;have cw:=aE7 _ 5 5 vs5 _ W hr5 hm5 (by have:=HN4.out;simp [aA1,HBL.out];omega) (by omega);rw [HBODY.out] at cw;unfold Oper.wp;go_simp;refine cw.mono ?_;intro e W' hp;obtain ⟨x,rfl,hp⟩:=hp.val;obtain ⟨h1,h2⟩:=hp.sl;exact hK x W' h2 h1
   ·intro a v W hd hb K hK;obtain ⟨h27,r27⟩:=hd.done_ 12 _ 27 (by kernel_rfl) rfl rfl;have q27:=r27;obtain ⟨A27,n27,c27,e27,-⟩:=r27;rw [e27] at h27 q27;have hk:=hK (.slice A27 n27 c27) W (Below.refl _ _) q27;clear hK;unfold Oper.wp;go_simp;exact hk
  ·intro v w2 hb2 hv;have v13:SlAt (bodyP s p o b) (v 13) w2:=hv 13 (by decide);have v12:SlAt (bodyP s p o b) (v 12) w2:=hv 12 (by decide);clear hv;obtain ⟨A27,n27,c27,e27,hl27,hc27,hr27⟩:=v13;obtain ⟨A28,n28,c28,e28,-⟩:=v12;rw [e27,e28];generalize v 0=y0;generalize v 1=y1;generalize v 2=y2;generalize v 3=y3;generalize v 4=y4;generalize v 5=y5;generalize v 6=y6;generalize v 7=y7;generalize v 8=y8;generalize v 9=y9;generalize v 10=y10;generalize v 11=y11;have HB2:=Lib.hid (HB1.out.trans (hb2.mono HB1.out.size));have HR2:=Lib.hid hr27;have HR9:=Lib.hid (HQ9.out w2 hb2);have HL27:Hid (n27=496):=by show _=_;rw [hl27,aD6 (by rw [HBL.out];exact HN4.out)]
   have HC27:=Lib.hid hc27;clear e27 e28 hl27 hc27 hr27 hb2 HL2 HRB HQ9 HQ14 HI HZ0 HZ1 HZ2;clear v;go_wp2_with fail;have cs:=Crc.aZy A27 n27 c27 _ w2 HR2.out (by rw [HL27.out];omega);refine cs.mono ?_;clear cs;rintro e w3 ⟨rfl,hb3⟩;have HB3:=Lib.hid (HB2.out.trans (hb3.mono HB2.out.size));have HR3:=Lib.hid (HR2.out.below hb3);have HR93:=Lib.hid (HR9.out.below hb3);clear hb3;go_wp2_with fail;have cr:=bBr (Crc.sum (bodyP s p o b)) HSUM.out w3;refine cr.mono ?_;clear cr;rintro e w4 ⟨rfl,rfl⟩;go_wp2_with fail;have cu:=aDy none 0 0 (rev (Crc.sum (bodyP s p o b))) _ [] w3 (Rd.nil_ _ _) rfl (bD1 HSUM.out) (by omega);refine cu.mono ?_;clear cu;intro e w4 hp;obtain ⟨x,rfl,hp⟩:=hp.val;obtain ⟨h1,h2⟩:=hp.sl;have HB4:=Lib.hid (HB3.out.trans (h2.mono HB3.out.size));have HM:Hid (Many w4 [.slice A27 n27 c27,x,.slice A9 n9 c9] [bodyP s p o b,be 8 (rev (Crc.sum (bodyP s p o b))),be 8 s]):=
    .sl ⟨_,_,_,rfl,by rw [HR3.out.len],HC27.out,HR3.out.below h2⟩ (.sl h1 (.sl (HR93.out.below h2) (.nil_ w4)))
   obtain ⟨A4,n4,c4,rfl,-⟩:=h1;clear h2 hp;go_wp2_with fail;have hb5:Below w4.heap.size w4 (w4.alloc (.cells #[.slice A27 n27 c27,.slice A4 n4 c4,.slice A9 n9 c9] 37)):=(Below.refl _ _).alloc (Nat.le_refl _) _;have ct:=aE7 _ 3 3 _ _ _ (aD8 w4 37 [.slice A27 n27 c27,.slice A4 n4 c4,.slice A9 n9 c9]) (HM.out.below hb5) (by simp [aA1,aD6 (s:=s) (a:=p) (o:=o) (b:=b) (by rw [HBL.out];exact HN4.out)]) (by omega);refine ct.mono ?_;clear ct;intro e w5 hp;have hf:=(hp.from (HB4.out.trans (hb5.mono HB4.out.size))).from HB0.out;have hl:[bodyP s p o b,be 8 (rev (Crc.sum (bodyP s p o b))),be 8 s].flatten=leafP s p o b:=by
    unfold leafP;rw [bCb HSUM.out];simp
   rw [hl] at hf;obtain ⟨x,rfl,hf⟩:=hf.val;have HF:=Lib.hid hf;obtain ⟨A5,n5,c5,e5,-⟩:=hf;injection e5 with e5;subst e5;clear hp hl hb5;go_wp2_with fail;go_ret;exact HF.out
end Go.Proofs.YtgjmbbkcgillcaaGreat.Log
namespace Go.Proofs.YtgjmbbkcgillcaaGreat.Log
open Go.RowKit Disk
open PhaseG (aDq Took)
open Phase (aA0 aA2)
theorem aGt (bs:List UInt8):val bs=num bs:=rfl
theorem aX1 (l:List UInt8):(S l).toList=l:=ByteArray.toList_mk l
set_option maxRecDepth 100000 in
theorem aK5 (A B:Option Addr) (n m c c':Nat) (a b:List UInt8) (w:World) (ha:Rd w A n a) (hb:Rd w B m b):
  Calls Tryz.prog 177 #[.slice A n c,.slice B m c'] w (Ans (.bool (decide (a=b))) w):=by
 have h1:=aDo (P:=Tryz.prog) 37 9 5 aAt aJ7 aJa ha c;have h2:=aDo (P:=Tryz.prog) 37 9 5 aAt aJ7 aJa hb c';have s1:=aX1 a;have s2:=aX1 b;clear ha hb;by_cases h:a=b
 ·subst h;rw [decide_eq_true rfl];go_enter Tryz.func177,Tryz.ntmps177
  go_wp2_with fail;go_ret;exact ⟨rfl,rfl⟩
 ·have hne:(a==b)=false:=by simpa using h
  rw [decide_eq_false h];clear h;go_enter Tryz.func177,Tryz.ntmps177
  go_wp2_with fail;go_ret;exact ⟨rfl,rfl⟩
theorem aQs (w:World) (e:TypeId):(w.alloc (.cells #[] e)).ownsRow w.heap.size e 1 (.slice (some ⟨w.heap.size,0,none⟩) 0 0) 0 []:=by
 have:=World.ownsRow_lit (base:=w.heap.size) (e:=e) (size:=1) w #[] 0 (Nat.le_refl _) (by unfold maxLen;omega) (by simp);simpa using this
set_option maxRecDepth 100000 in
theorem aEg (A:Option Addr) (n c:Nat) (bs:List UInt8) (w:World) (hr:Rd w A n bs) (hle:n≤100000000):
  Calls Tryz.prog 118 #[.slice A n c] w (Put w bs):=by
 have H:=Lib.hid hr;cases A with
 |none=>
  have h0:n=0:=by
   rcases Nat.eq_zero_or_pos n with h|h
   ·exact h
   ·obtain ⟨_,e',_⟩:=hr.cells h;cases e'
  subst h0;have hb0:bs=[]:=List.eq_nil_of_length_eq_zero hr.len;subst hb0;clear hr;have heq:=Lib.run_eql_slice_nil (P:=Tryz.prog) w 37 5 none 0 c 0 0 aAt;go_enter Tryz.func118,Tryz.ntmps118
  go_wp2_with fail;go_ret;exact ⟨none,0,0,rfl,rfl,Nat.le_refl _,aD0 _ _ _,Below.refl _ _⟩
 |some ad=>
  clear hr;obtain ⟨i,hi,hz0,hz1,hz2⟩:=infos aBh;have HI:=Lib.hid hi;have HZ0:=Lib.hid hz0;have HZ1:=Lib.hid hz1;have HZ2:=Lib.hid hz2;have HN:=Lib.hid H.out.len;clear hi hz0 hz1 hz2;have heq:=Lib.run_eql_slice_nil (P:=Tryz.prog) w 37 5 (some ad) n c 0 0 aAt;go_enter Tryz.func118,Tryz.ntmps118
  have HBa:=Lib.hid ((Below.refl w.heap.size w).alloc (Nat.le_refl _) (.cells #[] 5));go_wp2_with (at_builtin;refine aCg rfl (.tmp 5) (.tmp 6) _ rfl aAt HI.out HZ0.out HZ1.out HZ2.out rfl rfl (aQs w 5) rfl (H.out.below HBa.out) (by omega) (by simp) ?_)
  intro v' w3 hown3 hgr3;have HO3:=Lib.hid hown3;have HB3:=Lib.hid (HBa.out.grown hgr3 HBa.out.size (fun g hg=>((aQs w 5).lt g hg).1));clear hown3 hgr3;go_wp2_with fail;go_ret;refine Put.of ?_ HB3.out;rw [HN.out];simpa using HO3.out
theorem aBk {k:Nat} {bs:List UInt8} (h:k≤bs.length):takeS k (bs,false)=(bs.take k,(bs.drop k,false)):=by
 unfold takeS;rw [if_neg (by simp;omega)]
theorem bA3 (bs:List UInt8) (h:2≤bs.length):num (bs.take 2)=num (bs.take 1)*256+num ((bs.drop 1).take 1)∧num (bs.take 1)<256∧num ((bs.drop 1).take 1)<256:=by
 have e:bs.take 2=bs.take 1++(bs.drop 1).take 1:=by
  rw [←List.take_append_drop 1 (bs.take 2),List.take_take,List.drop_take];rfl
 have l1:=aFe (bs.take 1);have l2:=aFe ((bs.drop 1).take 1);have p1:(bs.take 1).length=1:=by rw [List.length_take];omega
 have p2:((bs.drop 1).take 1).length=1:=by rw [List.length_take,List.length_drop];omega
 rw [p1] at l1;rw [p2] at l2;rw [e,aCt,p2];exact ⟨rfl,l1,l2⟩
theorem bCd (a b:Nat) (ha:a<256) (hb:b<256):bits .or .u16 ((a:Int)*256) (b:Int)=((a*256+b:Nat):Int):=by
 have h:=u16_or_nat (a*256) b (by omega) (by omega);have:=Nat.two_pow_add_eq_or_of_lt (i:=8) (show b<2^8 from hb) a;rw [Nat.mul_comm a 256] at*;rw [←this] at h;rw [←h]
 congr 1
 omega
set_option maxRecDepth 100000 in
theorem aHv (r:Nat) (bs:List UInt8) (w:World) (h:Rdr w r (bs,false)) (hl:2≤bs.length):
  Calls Tryz.prog 206 #[.pointer (some ⟨r,0,none⟩)] w (Red w r (.int .u16 (num (bs.take 2):Nat)) (bs.drop 2,false)):=by
 have c1:=aN2 r (bs,false) w h;rw [aBk (by omega),aGt] at c1;obtain ⟨e1,e2,e3⟩:=bA3 bs hl;have HL:=Lib.hid hl;have HV:=Lib.hid e1;have HD:Hid ((bs.drop 1).drop 1=bs.drop 2):=List.drop_drop ..;have HA:=Lib.hid e2;have HB:=Lib.hid e3;have ho:=bCd _ _ e2 e3;have hw1:IntKind.u16.wrap ((num (bs.take 1):Int)*256)=(num (bs.take 1):Int)*256:=by rw [show IntKind.u16.wrap ((num (bs.take 1):Int)*256)=((num (bs.take 1):Int)*256) % 65536 from by simp [IntKind.wrap,IntKind.bits,IntKind.signed]];omega
 clear h hl e1;have HC:Hid (∀W,Rdr W r (bs.drop 1,false)→Calls Tryz.prog 84 #[.pointer (some ⟨r,0,none⟩)] W (Red W r (.int .u8 (num ((bs.drop 1).take 1):Int)) ((bs.drop 1).drop 1,false))):=fun W hW=>by
  have:=aN2 r (bs.drop 1,false) W hW;rwa [aBk (by rw [List.length_drop];have:=HL.out;omega),aGt] at this
 dsimp only at c1
 generalize num (bs.take 1)=x at*;generalize num ((bs.drop 1).take 1)=y at*;go_enter Tryz.func206,Tryz.ntmps206
 go_wp2_with fail;refine c1.mono ?_;clear c1;rintro e w1 ⟨rfl,h1,g1⟩;have G1:=Lib.hid g1;have H1:=Lib.hid h1;clear g1 h1;go_wp2_with fail;refine (HC.out w1 H1.out).mono ?_;rintro e w2 ⟨rfl,h2,g2⟩;rw [HD.out] at h2;have G2:=Lib.hid (aBm G1.out g2);have H2:=Lib.hid h2;clear g2 h2;go_wp2_with fail;go_ret;rw [HV.out];exact ⟨rfl,H2.out,G2.out⟩
end Go.Proofs.YtgjmbbkcgillcaaGreat.Log
