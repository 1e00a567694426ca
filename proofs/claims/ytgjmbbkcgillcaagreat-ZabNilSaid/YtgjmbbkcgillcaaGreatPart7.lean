/- Lemmas, part 7: ZmPut, ZmTells, ZmRef, RefPut, ZmRefPut, ZmAll -/
import Derived.Test.YtgjmbbkcgillcaaGreatPart4
import Derived.Test.YtgjmbbkcgillcaaGreatPart5
import Derived.Test.YtgjmbbkcgillcaaGreatPart6
import Derived.Lib.SlBytesConst
import Derived.Test.YtgjmbbkcgillcaaGreatPart2
set_option maxHeartbeats 16000000
namespace Go.Proofs.YtgjmbbkcgillcaaGreat.Zm
open Go.RowKit Disk Log Sto
open PhaseG (aC4 aFv aBw aAx aAq aG9 aAc)
open PhaseP (aC5 Took GG)
open Phase (aA0 aA2)
def nums (m:Mg):List Nat:=[m.epoch,m.current,u64 m.at_,u64 m.commit,m.lines.length]
def numsB (l:List Nat):List UInt8:=l.flatMap (be 8)
theorem aSo (l:List Nat) (x:Nat):numsB (l++[x])=numsB l++be 8 x:=by simp [numsB]
theorem aMs (l:List Nat):(numsB l).length=8*l.length:=by
 induction l with
 |nil=>rfl
 |cons x l ih=>
  have:numsB (x::l)=be 8 x++numsB l:=by simp [numsB]
  rw [this,List.length_append,ih,aA1,List.length_cons];omega
theorem aYd (m:Mg):be 1 m.kind++numsB (nums m)++encLs m.lines=m.enc:=by
 simp [nums,numsB,Mg.enc]
theorem bAq {m:Mg} (h:m.Ok):∀x∈nums m,x<18446744073709551616:=by
 intro x hx;have h1:=h.epoch;have h2:=h.current;have h3:=aRf m.at_;have h4:=aRf m.commit;have h5:=h.many;simp [nums] at hx;rcases hx with rfl|rfl|rfl|rfl|rfl
 ·exact h1
 ·exact h2
 ·exact h3
 ·exact h4
 ·omega
def PutYes (w:World) (bs:List UInt8) (e:Ending) (w':World):Prop:=
 ∃A n c,e=.returned (.tuple #[.slice A n c,.int .i64 0])∧n=bs.length∧n≤c∧w'.ownsRow w.heap.size 5 1 (.slice A n c) n (bs.map U)∧Below w.heap.size w w'
def PutNo (w:World) (e:Ending) (w':World):Prop:=e=.returned (.tuple #[.slice none 0 0,.int .i64 1])∧Below w.heap.size w w'
def Rel1 (w1:World) (nb:Nat) (m:Mg) (b i:Value) (wr:World):Prop:=
 ∃(k:Nat) (A:Option Addr) (n c:Nat),k≤5∧i=.int .i64 (k:Int)∧b=.slice A n c∧n=1+8*k∧n≤c∧wr.ownsRow w1.heap.size 5 1 (.slice A n c) n ((be 1 m.kind++numsB ((nums m).take k)).map U)∧Below w1.heap.size w1 wr∧Bk wr nb 33 ((nums m).map fun x=>.int .u64 (x:Int)).toArray
def pre (m:Mg) (k:Nat):List UInt8:=be 1 m.kind++numsB (nums m)++encLs (m.lines.take k)
def Rel2 (w1:World) (m:Mg) (n:Nat) (b i:Value) (wr:World):Prop:=
 ∃(k N:Nat),k≤n∧i=.int .i64 (k:Int)∧wr.ownsRow w1.heap.size 5 1 b N ((pre m k).map U)∧N=(pre m k).length∧Below w1.heap.size w1 wr
theorem aTp {m:Mg} (hm:m.may) (k:Nat):(pre m k).length≤2000000:=by
 have h:=aHo (l:=m.lines.take k) (b:=4096) fun x hx=>(aAi.1 (hm.2.2.2.2.2.2.2.2.2.2.1 x (List.mem_of_mem_take hx))).2.2.2;have h2:(m.lines.take k).length≤256:=Nat.le_trans (List.length_take_le' _ _) hm.2.2.2.2.2.2.2.2.2.1;have h3:=Nat.mul_le_mul_right 4108 h2;unfold pre;rw [List.length_append,List.length_append,aA1,aMs];have h4:(nums m).length=5:=rfl;omega
theorem aYo {m:Mg} {k:Nat} {x:Ln} (hx:m.lines[k]? =some x):pre m (k+1)=pre m k++(be 8 x.epoch++(be 4 x.bytes.length++x.bytes)):=by
 obtain ⟨hk,rfl⟩:=List.getElem?_eq_some_iff.1 hx;unfold pre;rw [←List.take_append_getElem hk,aKn];simp [encL]
theorem bA7 {m:Mg} {k:Nat} (h:m.lines.length≤k):pre m k=m.enc:=by
 unfold pre;rw [List.take_of_length_le h,aYd]
def conP (i:Nat):List Nat:=if i=7 then [0] else if i=8 then [7] else []
def OP (k:Nat) (x:Value) (_:World) (b:Nat):Prop:=(k=0∨k=3∨k=6∨k=7∨k=8)∧x.ownBlock=some b
def LP (_:Nat) (_:Nat→Value) (_:Value):Prop:=True
def GP (vb:Value) (i b:Nat):Prop:=i=0∧vb.ownBlock=some b
def RP (B S:Nat) (cur:List UInt8) (L:Nat) (x:Ln) (C:Option Addr) (mm c2:Nat):Nat→Value→World→Prop
 |0,y,W=>W.ownsRow B 5 1 y cur.length (cur.map U)
 |1,y,_=>y=.pointer (some ⟨L,0,none⟩)
 |2,y,_=>y=.int .u64 (x.epoch:Int)
 |3,y,W=>W.ownsRow S 5 1 y 8 ((be 8 x.epoch).map U)
 |4,y,_=>y=.pointer (some ⟨L,1,none⟩)
 |5,y,_=>y=.slice C mm c2
 |6,y,W=>W.ownsRow S 5 1 y (be 8 x.epoch++(be 4 mm++x.bytes)).length ((be 8 x.epoch++(be 4 mm++x.bytes)).map U)
 |7,y,W=>W.ownsRow B 5 1 y (cur++(be 8 x.epoch++(be 4 mm++x.bytes))).length ((cur++(be 8 x.epoch++(be 4 mm++x.bytes))).map U)
 |8,y,W=>W.ownsRow B 5 1 y (cur++(be 8 x.epoch++(be 4 mm++x.bytes))).length ((cur++(be 8 x.epoch++(be 4 mm++x.bytes))).map U)
 |_,_,_=>True
theorem RP.out {B S:Nat} {cur:List UInt8} {L:Nat} {x:Ln} {C:Option Addr} {mm c2:Nat} (k:Nat) (y:Value) (Z:Nat→Prop) (W W':World) (hr:RP B S cur L x C mm c2 k y W) (ho:Out Z W W') (hn:∀b,OP k y W b→¬Z b):RP B S cur L x C mm c2 k y W':=by
 match k,hr with
 |0,q=>exact aBw q ho fun b hb=>hn b ⟨by omega,hb⟩
 |1,q=>exact q
 |2,q=>exact q
 |3,q=>exact aBw q ho fun b hb=>hn b ⟨by omega,hb⟩
 |4,q=>exact q
 |5,q=>exact q
 |6,q=>exact aBw q ho fun b hb=>hn b ⟨by omega,hb⟩
 |7,q=>exact aBw q ho fun b hb=>hn b ⟨by omega,hb⟩
 |8,q=>exact aBw q ho fun b hb=>hn b ⟨by omega,hb⟩
 |_+9,_=>trivial
set_option maxRecDepth 100000 in
theorem bD2 {P:Nat→Prop} (A:Option Addr) (n c:Nat) (m:Mg) (w:World) (hok:m.Ok) (h:LnS P w A n m.lines) (hm:¬m.may):
  Calls Tryz.prog 72 #[.agg (mgC m A n c)] w (PutNo w):=by
 have hln:=aO9 h;have hb0:Below w.heap.size w (w.alloc (.cells (mgC m A n c) 36)):=(Below.refl _ _).alloc (Nat.le_refl _) _;have CM:=Lib.hid (aHr A n c m (w.alloc (.cells (mgC m A n c) 36)) hok (hln.below hb0));have HB0:=Lib.hid hb0;have HM:Hid (decide m.may=false):=by show _=_;simp [hm]
 clear hln hb0 h hok hm;unfold mgC at*;go_enter Tryz.func72,Tryz.ntmps72
 go_wp2_with fail;refine CM.out.mono ?_;rw [HM.out];rintro e w1 ⟨rfl,hb1⟩;have HB1:=Lib.hid (HB0.out.trans (hb1.mono HB0.out.size));clear hb1;go_wp2_with fail
 go_ret2
 exact ⟨rfl,HB1.out⟩
set_option maxRecDepth 100000 in
theorem aPe {P:Nat→Prop} (A:Option Addr) (n c:Nat) (m:Mg) (w:World) (hok:m.Ok) (h:LnS P w A n m.lines) (hm:m.may):
  Calls Tryz.prog 72 #[.agg (mgC m A n c)] w (PutYes w m.enc):=by
 have hln:=aO9 h;have hb0:Below w.heap.size w (w.alloc (.cells (mgC m A n c) 36)):=(Below.refl _ _).alloc (Nat.le_refl _) _;have hbk0:Bk (w.alloc (.cells (mgC m A n c) 36)) w.heap.size 36 (mgC m A n c):=Bk.new _ _ _;have CM:=Lib.hid (aHr A n c m (w.alloc (.cells (mgC m A n c) 36)) hok (hln.below hb0));have HL0:=Lib.hid (hln.below hb0);have HB0:=Lib.hid hb0;have HBK0:=Lib.hid hbk0;have HM:Hid (decide m.may=true):=by show _=_;simp [hm]
 have HMM:=Lib.hid hm;have HOK:=Lib.hid hok;have HN:=Lib.hid h.len;have hk:=hok.kind;have e1:IntKind.u64.wrap m.at_=(u64 m.at_:Int):=aG1 m.at_;have e2:IntKind.u64.wrap m.commit=(u64 m.commit:Int):=aG1 m.commit;have hnn:n≤256:=by have:=hm.2.2.2.2.2.2.2.2.2.1;have:=h.len;omega
 have e3:IntKind.u64.wrap (n:Int)=(n:Int):=by rw [IntKind.wrap_u64];omega
 clear hln hb0 hbk0 h hok hm;unfold mgC at CM HL0 HB0 HBK0 ⊢;go_enter Tryz.func72,Tryz.ntmps72
 go_wp2_with fail;refine CM.out.mono ?_;rw [HM.out];rintro e w1 ⟨rfl,hb1⟩;have HB1:=Lib.hid (HB0.out.trans (hb1.mono HB0.out.size));have HBK1:=Lib.hid (HBK0.out.below hb1);have HL1:=Lib.hid (HL0.out.below hb1);have HC:Hid (∀V,Below w1.heap.size w1 V→∀i,V.cell? ⟨w.heap.size,i,none⟩=(#[Value.int .u8 (m.kind:Int),.int .u64 (m.epoch:Int),.int .u64 (m.current:Int),.int .i64 m.at_,.int .i64 m.commit,.slice A n c]:Array Value)[i]?):=fun V hV i=>(HBK1.out.below hV).cell i;have k0:w1.cell? ⟨w.heap.size,0,none⟩=some (.int .u8 (m.kind:Int)):=HBK1.out.cell 0;clear hb1;go_wp2_with fail;refine (aRp none 0 0 m.kind _ [] w1 (Rd.nil_ _ _) rfl hk (by omega)).mono ?_;rintro e w2 ⟨A2,n2,c2,rfl,hl2,hc2,hown2,hb2⟩;obtain rfl:n2=1:=hl2;have HO2:=Lib.hid hown2;have HB2:=Lib.hid hb2;clear k0 hown2 hb2;have k1:w2.cell? ⟨w.heap.size,1,none⟩=some (.int .u64 (m.epoch:Int)):=HC.out w2 HB2.out 1;have k2:w2.cell? ⟨w.heap.size,2,none⟩=some (.int .u64 (m.current:Int)):=HC.out w2 HB2.out 2;have k3:w2.cell? ⟨w.heap.size,3,none⟩=some (.int .i64 m.at_):=HC.out w2 HB2.out 3;have k4:w2.cell? ⟨w.heap.size,4,none⟩=some (.int .i64 m.commit):=HC.out w2 HB2.out 4;have k5:w2.cell? ⟨w.heap.size,5,none⟩=some (.slice A n c):=HC.out w2 HB2.out 5;go_wp2_with fail;clear k1 k2 k3 k4 k5;have hnl:m.lines.length=n:=HN.out;have hbn:Bk (w2.alloc (.cells #[.int .u64 (m.epoch:Int),.int .u64 (m.current:Int),.int .u64 (u64 m.at_:Int),.int .u64 (u64 m.commit:Int),.int .u64 (n:Int)] 33)) w2.heap.size 33 ((nums m).map fun x=>.int .u64 (x:Int)).toArray:=by
  have:=Bk.new w2 33 #[.int .u64 (m.epoch:Int),.int .u64 (m.current:Int),.int .u64 (u64 m.at_:Int),.int .u64 (u64 m.commit:Int),.int .u64 (n:Int)];simpa [nums,hnl] using this
 have HBN:=Lib.hid hbn;clear hbn hnl;go_loopw [4,31] (fun b i wr=>Rel1 w1 w2.heap.size m b i wr) (fun _ i _=>5 - (intOf i).toNat)
 case atStart=>
  refine ⟨0,A2,1,c2,by omega,rfl,rfl,rfl,hc2,?_,HB2.out.alloc HB2.out.size _,HBN.out⟩;have:=HO2.out.alloc (.cells #[.int .u64 (m.epoch:Int),.int .u64 (m.current:Int),.int .u64 (u64 m.at_:Int),.int .u64 (u64 m.commit:Int),.int .u64 (n:Int)] 33);simpa [numsB] using this
 case round=>
  obtain ⟨k,Ab,nn,cb,hk5,rfl,rfl,rfl,hnc,hown,hbel,hbn⟩:=hrel;have HO3:=Lib.hid hown;have HB3:=Lib.hid hbel;have HN3:=Lib.hid hbn;clear hown hbel hbn;have hn5:(nums m).length=5:=rfl;by_cases hlt:k<5
  ·obtain ⟨v,hv⟩:∃v,(nums m)[k]? =some v:=⟨_,List.getElem?_eq_getElem (by omega)⟩;have hcell:wr.cell? ⟨w2.heap.size,k,none⟩=some (.int .u64 (v:Int)):=by rw [HN3.out.cell];simp [hv]
   have HV:=Lib.hid hv;have hvl:=bAq HOK.out v (List.mem_of_getElem? hv);clear hv hn5;go_wp2_with fail;refine (aDy Ab (1+8*k) cb v _ _ wr (Rd.of_own HO3.out).1 rfl hvl (by omega)).mono ?_;rintro e w3 ⟨A3,n3,c3,rfl,hl3,hc3,hown3,hb3⟩;have HO4:=Lib.hid hown3;have HB4:=Lib.hid (HB3.out.trans (hb3.mono HB3.out.size));have HN4:=Lib.hid (HN3.out.below hb3);have HL3:Hid (n3=1+8*(k+1)):=by
    show _=_;rw [hl3,List.length_append,(Rd.of_own HO3.out).1.len,aA1];omega
   have HS3:=Lib.hid HB3.out.size;clear hown3 hb3 hl3 hcell;go_wp2_with fail;refine ⟨⟨k+1,A3,n3,c3,by omega,rfl,rfl,HL3.out,hc3,?_,HB4.out,HN4.out⟩,by simp [intOf];omega⟩;have q:=aAh HO4.out HS3.out;rw [aSf _ k v HV.out,aSo,←List.append_assoc];exact q
  ·obtain rfl:k=5:=by omega
   have e0:pre m 0=be 1 m.kind++numsB ((nums m).take 5):=by
    unfold pre;rw [List.take_of_length_le (show (nums m).length≤5 by rw [hn5];omega)];simp [encLs]
   have HO5:Hid (wr.ownsRow w1.heap.size 5 1 (.slice Ab 41 cb) 41 ((pre m 0).map U)):=by
    have q:=HO3.out;rw [←e0] at q;exact q
   have HP0:Hid (41=(pre m 0).length):=by
    have q:=HO5.out.1;rw [List.length_map] at q;show _=_;omega
   have k5:wr.cell? ⟨w.heap.size,5,none⟩=some (.slice A n c):=HC.out wr HB3.out 5;clear e0 hn5 HO3 HN3 hk5 hlt;go_wp2_with fail;clear k5;obtain ⟨wo,rfl⟩:∃wo:World,wo=wr:=⟨_,rfl⟩;go_loopw [4,42] (fun b i wr=>Rel2 w1 m n b i wr) (fun _ i _=>n - (intOf i).toNat)
   case atStart=>exact ⟨0,41,by omega,rfl,HO5.out,HP0.out,HB3.out⟩
   case round=>
    obtain ⟨k,N,hk6,rfl,hown,hNl,hbel⟩:=hrel;have HO6:=Lib.hid hown;have HB6:=Lib.hid hbel;have HNL:=Lib.hid hNl;have hpl:=aTp HMM.out k;rw [←hNl] at hpl;clear hown hbel hNl HO5 HP0 HB3;by_cases hlt:k<n
    ·have hkl:k<m.lines.length:=by have:=HN.out;omega
     obtain ⟨x,hx⟩:∃x,m.lines[k]? =some x:=⟨_,List.getElem?_eq_getElem hkl⟩;obtain ⟨b,o,B,mm,c3,hA,-,he,hc,hmc,hr,hrb⟩:=(HL1.out.below HB6.out).at_ k x hx;subst hA;have HX:=Lib.hid hx;have HR:=Lib.hid hr;have HRB:=Lib.hid hrb;have hxe:=(HOK.out.each x (List.mem_of_getElem? hx)).1;have hmm:mm≤4096:=by
      have:=(aAi.1 (HMM.out.2.2.2.2.2.2.2.2.2.2.1 x (List.mem_of_getElem? hx))).2.2.2;have:=hr.len;omega
     have HMX:Hid (x.bytes.length=mm):=hr.len;clear hx hr hrb;go_wp2_with fail;obtain ⟨W0,hW0⟩:∃W0,W0=wr.alloc (.cells #[.int .u64 (x.epoch:Int),.slice B mm c3] 65):=⟨_,rfl⟩;have hba:Below wr.heap.size wr W0:=by rw [hW0];exact (Below.refl _ _).alloc (Nat.le_refl _) _
     have hbl:Bk W0 wr.heap.size 65 #[.int .u64 (x.epoch:Int),.slice B mm c3]:=by rw [hW0];exact Bk.new _ _ _
     rw [←hW0];clear hW0;have HOW:=Lib.hid (HO6.out.kept (aA7 hba none) (Classical.em _));have HBA:=Lib.hid hba;have HBL:=Lib.hid hbl;have HU:Hid (∀b,GG (GP u4) b→w1.heap.size≤b∧b<wr.heap.size):=fun b ⟨_,_,hg⟩=>aAx HO6.out hg;have HCL:Hid (∀V,Out (GG (GP u4)) W0 V→V.cell? ⟨wr.heap.size,0,none⟩=some (.int .u64 (x.epoch:Int))∧V.cell? ⟨wr.heap.size,1,none⟩=some (.slice B mm c3)∧Rd V B mm x.bytes):=fun V hV=>by
      have hn:¬GG (GP u4) wr.heap.size:=fun hg=>by have:=(HU.out _ hg).2;omega
      refine ⟨(hV.cell HBL.out.lt hn).trans (HBL.out.cell 0),(hV.cell HBL.out.lt hn).trans (HBL.out.cell 1),aHd (HR.out.below HBA.out) hV fun a ha h1 hg=>?_⟩;have q1:=HRB.out a ha h1;have q2:=(HU.out _ hg).1;have q3:=HB1.out.size;omega
     clear hba hbl;refine aC5 (F:=?F) conP (RP w1.heap.size W0.heap.size (pre m k) wr.heap.size x B mm c3) OP LP (GP u4) 20 (by kernel_rfl) (by kernel_rfl) (by kernel_rfl) (by kernel_rfl) ?hG1 ?hG2 ?hR (fun _ _ _ _ _ _=>trivial) ?hS ?hF ?hE
     case hF=>
      intro v;simp only [List.length_cons,List.length_nil,Nat.zero_add,Nat.reduceAdd,PhaseG.final,List.getElem?_toArray,List.getElem?_cons_zero,List.getElem?_cons_succ,Option.bind_some,Act.put,List.setIfInBounds_toArray,List.set_cons_zero,List.set_cons_succ];exact rfl
     case hG1=>
      intro j b hg;have:=(HU.out b ⟨j,hg⟩).2;have:=HBA.out.size;omega
     case hG2=>
      intro i j b h1 h2;exact h1.1.trans h2.1.symm
     case hR=>
      intro k x Z W W' hx hb ho hz hn;exact ⟨RP.out _ _ _ _ _ hx ho hn,fun b hb=>hb⟩
     case hS=>
      refine aA0 ?_ (aA0 ?_ (aA0 ?_ (aA0 ?_ (aA0 ?_ (aA0 ?_ (aA0 ?_ (aA0 ?_ (aA0 ?_ (aA2)))))))))
      ·intro a v W hd hb hw K hK;have k4:a.tmps.getD 4 undef=u4:=hd.kept 20 4 (by kernel_rfl);have ho46:W.ownsRow w1.heap.size 5 1 u4 (pre m k).length ((pre m k).map U):=by
        rw [←HNL.out];exact aFv HOW.out fun b hb'=>hw 0 b (.inl rfl) ⟨rfl,hb'⟩
       have hk:=hK u4 W (Out.refl _ _) ho46 trivial (fun b hob=>⟨(aAx ho46 hob.2).2,.inr (.inr ⟨rfl,hob.2⟩)⟩);clear hK;unfold Oper.wp;go_simp;exact hk
      ·intro a v W hd hb hw K hK;have k8:a.tmps.getD 8 undef=.pointer (some ⟨wr.heap.size,0,none⟩):=hd.kept 20 8 (by kernel_rfl);have hk:=hK (.pointer (some ⟨wr.heap.size,0,none⟩)) W (Out.refl _ _) rfl trivial (fun b hob=>absurd hob (by unfold OP;omega));clear hK;unfold Oper.wp;go_simp;exact hk
      ·intro a v W hd hb hw K hK;obtain ⟨h47,r47⟩:=hd.done_ 1 _ 47 (by kernel_rfl) rfl rfl (by kernel_rfl);have r47:v 1=.pointer (some ⟨wr.heap.size,0,none⟩):=r47;rw [r47] at h47;have kk:=(HCL.out W hb).1;have hk:=hK (.int .u64 (x.epoch:Int)) W (Out.refl _ _) rfl trivial (fun b hob=>absurd hob (by unfold OP;omega));clear hK;unfold Oper.wp;go_simp;exact hk
      ·intro a v W hd hb hw K hK;obtain ⟨h48,r48⟩:=hd.done_ 2 _ 48 (by kernel_rfl) rfl rfl (by kernel_rfl);have r48:v 2=.int .u64 (x.epoch:Int):=r48;rw [r48] at h48;have ct:=aDy none 0 0 x.epoch _ [] W (Rd.nil_ _ _) rfl hxe (by omega);unfold Oper.wp;go_simp;refine ct.mono ?_;rintro e W' ⟨A3,n3,c4,rfl,hl3,-,ho3,hb3⟩;obtain rfl:n3=8:=hl3;exact hK (.slice A3 8 c4) W' (Out.of_below hb3) (aAh ho3 hb.size) trivial (fun b hob=>⟨(aAx ho3 hob.2).2,.inl (aAx ho3 hob.2).1⟩)
      ·intro a v W hd hb hw K hK;have k8:a.tmps.getD 8 undef=.pointer (some ⟨wr.heap.size,0,none⟩):=hd.kept 20 8 (by kernel_rfl);have hk:=hK (.pointer (some ⟨wr.heap.size,1,none⟩)) W (Out.refl _ _) rfl trivial (fun b hob=>absurd hob (by unfold OP;omega));clear hK;unfold Oper.wp;go_simp;exact hk
      ·intro a v W hd hb hw K hK;obtain ⟨h50,r50⟩:=hd.done_ 4 _ 50 (by kernel_rfl) rfl rfl (by kernel_rfl);have r50:v 4=.pointer (some ⟨wr.heap.size,1,none⟩):=r50;rw [r50] at h50;have kk:=(HCL.out W hb).2.1;have hk:=hK (.slice B mm c3) W (Out.refl _ _) rfl trivial (fun b hob=>absurd hob (by unfold OP;omega));clear hK;unfold Oper.wp;go_simp;exact hk
      ·intro a v W hd hb hw K hK;obtain ⟨h49,r49⟩:=hd.done_ 3 _ 49 (by kernel_rfl) rfl rfl (by kernel_rfl);obtain ⟨A3,c4,e49,-⟩:=aAq (n:=8) r49;rw [e49] at h49;have ho3:W.ownsRow W0.heap.size 5 1 (.slice A3 8 c4) 8 ((be 8 x.epoch).map U):=by rw [←e49];exact r49
       obtain ⟨h51,r51⟩:=hd.done_ 5 _ 51 (by kernel_rfl) rfl rfl (by kernel_rfl);have r51:v 5=.slice B mm c3:=r51;rw [r51] at h51;have ct:=aLo A3 B 8 c4 mm c3 (be 8 x.epoch) x.bytes W (Rd.of_own ho3).1 (HCL.out W hb).2.2 (by omega) (by omega);unfold Oper.wp;go_simp;refine ct.mono ?_;rintro e W' ⟨A4,n4,c5,rfl,hl4,-,ho4,hb4⟩;subst hl4;exact hK (.slice A4 _ c5) W' (Out.of_below hb4) (aAh ho4 hb.size) trivial (fun b hob=>⟨(aAx ho4 hob.2).2,.inl (aAx ho4 hob.2).1⟩)
      ·intro a v W hd hb hw K hK;obtain ⟨h46,r46⟩:=hd.done_ 0 _ 46 (by kernel_rfl) rfl rfl (by kernel_rfl);obtain ⟨h52,r52⟩:=hd.done_ 6 _ 52 (by kernel_rfl) rfl rfl (by kernel_rfl);obtain ⟨A4,c5,e52,-⟩:=aAq (n:=(be 8 x.epoch++(be 4 mm++x.bytes)).length) r52;rw [e52] at h52;have ho4:W.ownsRow W0.heap.size 5 1 (.slice A4 (be 8 x.epoch++(be 4 mm++x.bytes)).length c5) (be 8 x.epoch++(be 4 mm++x.bytes)).length ((be 8 x.epoch++(be 4 mm++x.bytes)).map U):=by rw [←e52];exact r52
       have ho46:W.ownsRow w1.heap.size 5 1 (v 0) (pre m k).length ((pre m k).map U):=r46;have hlen:(be 8 x.epoch++(be 4 mm++x.bytes)).length=12+mm:=by rw [List.length_append,List.length_append,aA1,aA1,HMX.out];omega
       obtain ⟨i0,hi,hz0,hz1,hz2⟩:=info_parts aBh;obtain ⟨v',W',hrun,hown',hgr,hwh⟩:=aG9 (P:=Tryz.prog) (t:=37) (ty:=37) aAt hi hz0 hz1 hz2 rfl ho46 (Rd.of_own ho4).1 c5 (by rw [hlen,←HNL.out];omega) (Nat.le_trans HB6.out.size (Nat.le_trans HBA.out.size hb.size));have ho':W'.ownsRow w1.heap.size 5 1 v' (pre m k++(be 8 x.epoch++(be 4 mm++x.bytes))).length ((pre m k++(be 8 x.epoch++(be 4 mm++x.bytes))).map U):=by
        rw [List.length_append,List.map_append];exact hown'
       have hk:=hK v' W' ((aAc hgr).mono fun b hb'=>.inl (.inl ⟨0,by decide,by omega,hb'⟩)) ho' trivial (fun b hob=>⟨(aAx ho' hob.2).2,(hwh b hob.2).elim (fun q=>.inr (.inl ⟨0,by decide,by omega,q⟩)) .inl⟩);exact aC4 (.tmp 46) (.tmp 52) _ rfl h46 h52 hrun hk
      ·intro a v W hd hb hw K hK;obtain ⟨h53,r53⟩:=hd.done_ 7 _ 53 (by kernel_rfl) rfl rfl (by kernel_rfl);have ho53:W.ownsRow w1.heap.size 5 1 (v 7) (pre m k++(be 8 x.epoch++(be 4 mm++x.bytes))).length ((pre m k++(be 8 x.epoch++(be 4 mm++x.bytes))).map U):=r53;have hk:=hK (v 7) W (Out.refl _ _) r53 trivial (fun b hob=>⟨(aAx ho53 hob.2).2,.inr (.inl ⟨7,by decide,by omega,hob.2⟩)⟩);clear hK;unfold Oper.wp;go_simp;exact hk
     case hE=>
      intro v W hb hv hl;have h8:W.ownsRow w1.heap.size 5 1 (v 8) (pre m k++(be 8 x.epoch++(be 4 mm++x.bytes))).length ((pre m k++(be 8 x.epoch++(be 4 mm++x.bytes))).map U):=hv 8 (by decide) (fun j _ hc=>by
       unfold conP at hc;split at hc
       ·simp at hc
       ·split at hc<;>simp at hc)
      have HO8:=Lib.hid h8;have HB8:=Lib.hid (hb.below (HB6.out.trans (HBA.out.mono HB6.out.size)) (fun b hg=>(HU.out b hg).1) (Nat.le_trans HB6.out.size HBA.out.size));clear hv hl h8 hb;generalize v 0=x0;generalize v 1=x1;generalize v 2=x2;generalize v 3=x3;generalize v 4=x4;generalize v 5=x5;generalize v 6=x6;generalize v 7=x7;obtain ⟨u,hu⟩:∃u,u=v 8:=⟨_,rfl⟩;rw [←hu] at HO8 ⊢;clear hu v;go_wp2_with fail;refine ⟨⟨k+1,_,by omega,rfl,?_,rfl,HB8.out⟩,by simp [intOf];omega⟩;rw [aYo HX.out,HMX.out];exact HO8.out
    ·obtain rfl:k=n:=by omega
     obtain ⟨Af,cf,rfl,hncf⟩:=aAq HO6.out;have HE:Hid (pre m k=m.enc):=bA7 (by rw [HN.out];exact Nat.le_refl _);go_wp2_with fail
     go_ret2
     have hBB:=HB1.out.trans (HB6.out.mono HB1.out.size);refine ⟨Af,N,cf,rfl,by rw [←HE.out];exact HNL.out,hncf,?_,hBB⟩;have q:=aAh HO6.out HB1.out.size;rw [HE.out] at q;exact q
end Go.Proofs.YtgjmbbkcgillcaaGreat.Zm
namespace Go.Proofs.YtgjmbbkcgillcaaGreat.Zm
open Go.RowKit Disk Log Sto
open PhaseG (aAq)
end Go.Proofs.YtgjmbbkcgillcaaGreat.Zm
namespace Go.Proofs.YtgjmbbkcgillcaaGreat.Zm
open Go.RowKit Disk Log Sto
end Go.Proofs.YtgjmbbkcgillcaaGreat.Zm
namespace Go.Proofs.YtgjmbbkcgillcaaGreat
open Go.RowKit
end Go.Proofs.YtgjmbbkcgillcaaGreat
namespace Go.Proofs.YtgjmbbkcgillcaaGreat.Zm
open Go.RowKit Disk Log Sto
open PhaseG (aAq)
end Go.Proofs.YtgjmbbkcgillcaaGreat.Zm
namespace Go.Proofs.YtgjmbbkcgillcaaGreat.Zm
open Go.RowKit Disk Log Sto
def putB (m:Mg):List UInt8:=if m.may then m.enc else []
def putE (m:Mg):Int:=if m.may then 0 else 1
def aBa (w:World) (m:Mg) (e:Ending) (w':World):Prop:=
 ∃A n c,e=.returned (.tuple #[.slice A n c,.int .i64 (putE m)])∧n=(putB m).length∧n≤c∧w'.ownsRow w.heap.size 5 1 (.slice A n c) n ((putB m).map U)∧Below w.heap.size w w'
theorem aBa.yes {w:World} {m:Mg} (hm:m.may) {e:Ending} {w':World} (h:PutYes w m.enc e w'):aBa w m e w':=by
 obtain ⟨A,n,c,rfl,h1,h2,h3,h4⟩:=h;have e1:putB m=m.enc:=if_pos hm;have e2:putE m=0:=if_pos hm;exact ⟨A,n,c,by rw [e2],by rw [e1];exact h1,h2,by rw [e1];exact h3,h4⟩
theorem aBa.no {w:World} {m:Mg} (hm:¬m.may) {e:Ending} {w':World} (h:PutNo w e w'):aBa w m e w':=by
 obtain ⟨rfl,h4⟩:=h;have e1:putB m=[]:=if_neg hm;have e2:putE m=1:=if_neg hm;exact ⟨none,0,0,by rw [e2],by rw [e1];rfl,Nat.le_refl _,by rw [e1];exact ⟨rfl,.inl ⟨rfl,rfl⟩⟩,h4⟩
theorem bAb {P:Nat→Prop} (A:Option Addr) (n c:Nat) (m:Mg) (w:World) (hok:m.Ok) (h:LnS P w A n m.lines):
  Calls Tryz.prog 72 #[.agg (mgC m A n c)] w (aBa w m):=by
 by_cases hm:m.may
 ·exact (aPe A n c m w hok h hm).mono fun e w'=>aBa.yes hm
 ·exact (bD2 A n c m w hok h hm).mono fun e w'=>aBa.no hm
end Go.Proofs.YtgjmbbkcgillcaaGreat.Zm
