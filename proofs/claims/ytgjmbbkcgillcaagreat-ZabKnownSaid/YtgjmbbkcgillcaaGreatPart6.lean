/- Lemmas, part 6: ZmGet -/
import Derived.Test.YtgjmbbkcgillcaaGreatPart5
set_option maxHeartbeats 16000000
namespace Go.Proofs.YtgjmbbkcgillcaaGreat.Zm
open Go.RowKit Disk Log Sto
open PhaseG (aC4 aFv aBw aAx aAq aAc)
open PhaseP (aC5 Took GG)
open Phase (aA0 aA2)
theorem aW4 {Q X:Nat→Prop} {w w':World} {r:Nat} {s:List UInt8×Bool} (h:RdrQ Q w r s) (ho:Out X w w') (hr:w'.heap[r]? =w.heap[r]?) (hx:∀k,Q k→¬X k):RdrQ Q w' r s:=by
 obtain ⟨A,n,c,h1,h2,h3,h4,h5⟩:=h;exact ⟨A,n,c,h1.kept hr,h2,h3,aGs h4 ho fun a ha=>hx _ (h5 a ha),h5⟩
def conG (i:Nat):List Nat:=if i=5 then [3] else if i=6 then [5] else if i=7 then [6] else if i=8 then [1,7] else if i=10 then [8] else []
def GGt (row:Value) (r M:Nat) (i b:Nat):Prop:=(i=1∧row.ownBlock=some b)∨(i=3∧b=r)∨(i=10∧b=M)
def OG (r M k:Nat) (i:Nat) (x:Value) (W:World) (b:Nat):Prop:=match i with
 |1=>x.ownBlock=some b
 |3=>b=r
 |5=>OT r x b
 |6=>b=r∨∃y e,x=.agg #[e,y]∧y.ownBlock=some b
 |7=>OOne r x W b
 |8=>ORow r k x W b
 |10=>b=M∨ORow r k x W b
 |_=>False
def LG (e:Nat) (i:Nat) (_:Nat→Value) (x:Value):Prop:=i=3→x=.int .u64 (e:Int)
def RG (RD1 RD2:World→Prop) (B M r k e:Nat) (t:List UInt8) (row:Value) (cs hdC:List Value):Nat→Value→World→Prop
 |0,x,_=>x=.pointer (some ⟨M,5,none⟩)
 |1,x,W=>x=row∧W.ownsRow B 65 2 x k cs
 |2,x,_=>x=.pointer (some ⟨r,0,none⟩)
 |3,x,W=>x=.int .u64 (e:Int)∧RD1 W
 |4,x,_=>x=.pointer (some ⟨r,0,none⟩)
 |5,x,W=>TX RD2 B t x W
 |6,x,W=>∃y,x=.agg #[.int .u64 (e:Int),y]∧TX RD2 B t y W
 |7,x,W=>One RD2 B e t x W
 |8,x,W=>RowT RD2 B e k t cs x W
 |9,x,_=>x=.pointer (some ⟨M,5,none⟩)
 |10,x,W=>Bk W M 36 (hdC++[x]).toArray∧RowT RD2 B e k t cs x W
 |_,_,_=>True
theorem RG.out {RD1 RD2:World→Prop} {B M r k e:Nat} {t:List UInt8} {row:Value} {cs hdC:List Value} {K:Nat→Prop} (hk1:Keeps RD1 r K) (hk2:Keeps RD2 r K) (hcs:cs.length=2*k) (i:Nat) (x:Value) (Z:Nat→Prop) (W W':World) (hx:RG RD1 RD2 B M r k e t row cs hdC i x W) (ho:Out Z W W') (hK:∀b,K b→¬Z b) (hn:∀b,OG r M k i x W b→¬Z b):
  RG RD1 RD2 B M r k e t row cs hdC i x W'∧∀b,OG r M k i x W' b→OG r M k i x W b:=by
 match i,hx with
 |0,q=>exact ⟨q,fun b hb=>hb⟩
 |1,q=>exact ⟨⟨q.1,aBw q.2 ho fun b hb=>hn b hb⟩,fun b hb=>hb⟩
 |2,q=>exact ⟨q,fun b hb=>hb⟩
 |3,q=>exact ⟨⟨q.1,hk1 Z W W' q.2 ho (hn r rfl) hK⟩,fun b hb=>hb⟩
 |4,q=>exact ⟨q,fun b hb=>hb⟩
 |5,q=>exact ⟨TX.out hk2 q ho hK hn,fun b hb=>hb⟩
 |6,⟨y,e1,q⟩=>exact ⟨⟨y,e1,q.out hk2 ho hK fun b hb=>hn b (hb.elim .inl fun z=>.inr ⟨y,_,e1,z⟩)⟩,fun b hb=>hb⟩
 |7,q=>exact One.out hk2 q ho hK hn
 |8,q=>exact RowT.out hk2 hcs q ho hK hn
 |9,q=>exact ⟨q,fun b hb=>hb⟩
 |10,q=>
  have h1:=RowT.out hk2 hcs q.2 ho hK fun b hb=>hn b (.inr hb);exact ⟨⟨q.1.kept (ho.block M q.1.lt (hn M (.inl rfl))),h1.1⟩,fun b hb=>hb.imp id (h1.2 b)⟩
 |_+11,_=>exact ⟨trivial,fun b hb=>hb⟩
theorem aBy {P:Program} {fn:Func} {p u:Tmp} {ty:TypeId} (h:fn.results=#[.cell p ty,.tmp u]) (tmps:Array Value) (w:World) (g:Nat) (t:TypeId) (cs:Array Value) (fr:Nat×Nat) (d:TypeDesc)
  (hp:tmps.getD p undef=.pointer (some ⟨g,0,none⟩)) (hg:w.heap[g]? =some (.cells cs t fr))
  (hu:P.underlying ty=some d) (hd:(match d with|.struct _|.array _ _=>true|_=>false)=true) (hi:(P.info? ty).map (·.size)=some cs.size):
  (results fn tmps).run P w=.ok (.tuple #[.agg cs,tmps.getD u undef]) w:=by
 have hp':tmps[p]?.getD undef=.pointer (some ⟨g,0,none⟩):=by simpa using hp
 simp [results,h,hp',asAddr,run_loadVar_row w g t ty cs fr d hg hu hd hi]
theorem aCq:(Tryz.prog.info? 36).map (·.size)=some 6:=by kernel_rfl
def set6 (w:World) (g:Nat) (a b c d e f:Value):World:=((((((w.setCell ⟨g,0,none⟩ a).setCell ⟨g,1,none⟩ b).setCell ⟨g,2,none⟩ c).setCell ⟨g,3,none⟩ d).setCell ⟨g,4,none⟩ e).setCell ⟨g,5,none⟩ f)
theorem aP3 {w:World} {g:Nat} {t:TypeId} {x0 x1 x2 x3 x4 x5:Value} (h:Bk w g t #[x0,x1,x2,x3,x4,x5]) (a b c d e f:Value):Bk (set6 w g a b c d e f) g t #[a,b,c,d,e,f]:=by
 have q:=(((((h.set 0 a).set 1 b).set 2 c).set 3 d).set 4 e).set 5 f;unfold set6;simpa using q
theorem aM8 (w:World) (g:Nat) (a b c d e f:Value):Out (fun k=>k=g) w (set6 w g a b c d e f):=by
 have q:∀(w:World) (i:Nat) (u:Value),Out (fun k=>k=g) w (w.setCell ⟨g,i,none⟩ u):=fun w i u=>Out.setCell (X:=fun k=>k=g) w (p:=⟨g,i,none⟩) rfl u;exact (((((q w 0 a).trans (q _ 1 b) fun _ h=>.inl h).trans (q _ 2 c) fun _ h=>.inl h).trans (q _ 3 d) fun _ h=>.inl h).trans (q _ 4 e) fun _ h=>.inl h).trans (q _ 5 f) fun _ h=>.inl h
def aGp (bs:List UInt8) (w:World) (e:Ending) (w':World):Prop:=
 ∃A c,e=.returned (.tuple #[.agg (mgC (getM bs) A (getM bs).lines.length c),.int .i64 (getE bs)])∧OwnL w.heap.size w' (.slice A (getM bs).lines.length c) (getM bs).lines∧Below w.heap.size w w'
def RelG (w0:World) (M r:Nat) (Q:Nat→Prop) (b:List UInt8) (i:Value) (wr:World):Prop:=
 ∃(k:Nat) (A:Option Addr) (c:Nat) (xs:List Value),k≤nOf b∧i=.int .i64 (k:Int)∧Bk wr M 36 (mgC (said b) A k c)∧wr.ownsRow w0.heap.size 65 2 (.slice A k c) k (lnsC (linesS k (s6 b)).1 xs)∧Fresh w0.heap.size wr xs ((linesS k (s6 b)).1.map (·.bytes))∧RdrQ Q wr r (linesS k (s6 b)).2∧Out (fun b=>b=r∨b=M) w0 wr
def zeroC:Array Value:=#[.int .u8 0,.int .u64 0,.int .u64 0,.int .i64 0,.int .i64 0,.slice none 0 0]
set_option maxRecDepth 100000 in
theorem bBf (A:Option Addr) (n c:Nat) (bs:List UInt8) (w:World) (h:Rd w A n bs) (hn:n≤1000000):
  Calls Tryz.prog 47 #[.slice A n c] w (aGp bs w):=by
 have hb0:Below w.heap.size w (w.alloc (.cells zeroC 36)):=(Below.refl _ _).alloc (Nat.le_refl _) _;have hz0:Bk (w.alloc (.cells zeroC 36)) w.heap.size 36 zeroC:=Bk.new _ _ _;have CN:=Lib.hid (aVd A n c bs (w.alloc (.cells zeroC 36)) (h.below hb0) (by omega));have HB0:=Lib.hid hb0;have HZ0:=Lib.hid hz0;have HLEN:Hid (bs.length=n):=h.len;clear h hb0 hz0;unfold zeroC at CN HB0 HZ0;go_enter Tryz.func47,Tryz.ntmps47
 go_wp2_with fail;refine CN.out.mono ?_;rintro e w1 ⟨r,rfl,hr,hrd,hb1⟩;have HR0:Hid (w.heap.size<r):=Nat.lt_of_lt_of_le HZ0.out.lt hr;have HB1:=Lib.hid (HB0.out.trans (hb1.mono HB0.out.size));have HZ1:=Lib.hid (HZ0.out.below hb1);have HD1:=Lib.hid hrd;have HQ:Hid (∀b,(fun b=>(w.alloc (.cells #[.int .u8 0,.int .u64 0,.int .u64 0,.int .i64 0,.int .i64 0,.slice none 0 0] 36)).heap.size≤b∧b<r) b→b<r):=fun b hb=>hb.2;obtain ⟨Q,hQ⟩:∃Q:Nat→Prop,Q=(fun b=>(w.alloc (.cells #[.int .u8 0,.int .u64 0,.int .u64 0,.int .i64 0,.int .i64 0,.slice none 0 0] 36)).heap.size≤b∧b<r):=⟨_,rfl⟩;rw [←hQ] at HD1 HQ;clear hr hrd hb1 CN HB0 HZ0 hQ;go_wp2_with fail;have K1:Calls Tryz.prog 84 #[.pointer (some ⟨r,0,none⟩)] w1 (RedQ Q w1 r (.int .u8 ((said bs).kind:Int)) (s1 bs)):=aKr r _ w1 HD1.out;refine K1.mono ?_;rintro e w2 ⟨rfl,hrd,hg2⟩;have HD2:=Lib.hid hrd;have HO2:Hid (Out (fun b=>b=r) w1 w2):=(aAc hg2).mono fun b hb=>.inl (by injection hb with hb;exact hb.symm);clear hrd hg2 K1;go_wp2_with fail;have K1:Calls Tryz.prog 85 #[.pointer (some ⟨r,0,none⟩)] w2 (RedQ Q w2 r (.int .u64 ((said bs).epoch:Int)) (s2 bs)):=aF0 r _ w2 HD2.out;refine K1.mono ?_;rintro e w3 ⟨rfl,hrd,hg⟩;have HD3:=Lib.hid hrd;have HO3:Hid (Out (fun b=>b=r) w1 w3):=HO2.out.trans (aAc hg) fun b hb=>.inl (by injection hb with hb;exact hb.symm);clear hrd hg K1 HD2 HO2;go_wp2_with fail;have K1:Calls Tryz.prog 85 #[.pointer (some ⟨r,0,none⟩)] w3 (RedQ Q w3 r (.int .u64 ((said bs).current:Int)) (s3 bs)):=aF0 r _ w3 HD3.out;refine K1.mono ?_;rintro e w4 ⟨rfl,hrd,hg⟩;have HD4:=Lib.hid hrd;have HO4:Hid (Out (fun b=>b=r) w1 w4):=HO3.out.trans (aAc hg) fun b hb=>.inl (by injection hb with hb;exact hb.symm);clear hrd hg K1 HD3 HO3;go_wp2_with fail;have K1:Calls Tryz.prog 86 #[.pointer (some ⟨r,0,none⟩),.int .i64 256] w4 (RedQ Q w4 r (.int .i64 (said bs).at_) (s4 bs)):=aDv r 256 _ w4 HD4.out (by omega) (by omega);refine K1.mono ?_;rintro e w5 ⟨rfl,hrd,hg⟩;have HD5:=Lib.hid hrd;have HO5:Hid (Out (fun b=>b=r) w1 w5):=HO4.out.trans (aAc hg) fun b hb=>.inl (by injection hb with hb;exact hb.symm);clear hrd hg K1 HD4 HO4;go_wp2_with fail;have K1:Calls Tryz.prog 86 #[.pointer (some ⟨r,0,none⟩),.int .i64 256] w5 (RedQ Q w5 r (.int .i64 (said bs).commit) (s5 bs)):=aDv r 256 _ w5 HD5.out (by omega) (by omega);refine K1.mono ?_;rintro e w6 ⟨rfl,hrd,hg⟩;have HD6:=Lib.hid hrd;have HO6:Hid (Out (fun b=>b=r) w1 w6):=HO5.out.trans (aAc hg) fun b hb=>.inl (by injection hb with hb;exact hb.symm);clear hrd hg K1 HD5 HO5;go_wp2_with fail;have hba:Below w6.heap.size w6 (w6.alloc (.cells #[.int .u8 ((said bs).kind:Int),.int .u64 ((said bs).epoch:Int),.int .u64 ((said bs).current:Int),.int .i64 (said bs).at_,.int .i64 (said bs).commit,.slice none 0 0] 36)):=(Below.refl _ _).alloc (Nat.le_refl _) _;have hbm:Bk (w6.alloc (.cells #[.int .u8 ((said bs).kind:Int),.int .u64 ((said bs).epoch:Int),.int .u64 ((said bs).current:Int),.int .i64 (said bs).at_,.int .i64 (said bs).commit,.slice none 0 0] 36)) w6.heap.size 36 (mgC (said bs) none 0 0):=Bk.new _ _ _;have K1:Calls Tryz.prog 86 #[.pointer (some ⟨r,0,none⟩),.int .i64 256] _ (RedQ Q _ r (.int .i64 (nOf bs:Int)) (s6 bs)):=aDv r 256 _ _ (HD6.out.below hba) (by omega) (by omega);have HRM:Hid (r<w6.heap.size):=HD6.out.lt;refine K1.mono ?_;rintro e w8 ⟨rfl,hrd,hg⟩;obtain ⟨M,hM⟩:∃M,M=w6.heap.size:=⟨_,rfl⟩;rw [←hM] at HRM hbm ⊢;have HD8:=Lib.hid hrd;have hg8:Out (fun b=>b=r) _ w8:=(aAc hg).mono fun b hb=>.inl (by injection hb with hb;exact hb.symm);have HM8:Hid (Bk w8 M 36 (mgC (said bs) none 0 0)):=hbm.kept (hg8.block M hbm.lt (by have:=HRM.out;omega));have HO8:Hid (Out (fun b=>b=r) w1 w8):=(HO6.out.trans (Out.of_below (X:=fun b=>b=r) hba) fun _ h=>.inl h).trans hg8 fun _ h=>.inl h;have HRL:Hid (r<w8.heap.size):=Nat.lt_trans HRM.out HM8.out.lt;have HQB:Hid (∀b,Q b→b<w8.heap.size∧b≠r∧b≠M):=fun b hb=>by
  have:=HQ.out b hb;have:=HRM.out;have:=HRL.out;refine ⟨?_,?_,?_⟩<;>omega
 have HMB:Hid (M<w8.heap.size):=HM8.out.lt;have HZ8:Hid (Bk w8 w.heap.size 36 zeroC):=HZ1.out.kept (HO8.out.block _ HZ1.out.lt (by have:=HR0.out;omega));have HMZ:Hid (M≠w.heap.size):=by have:=HRM.out;have:=HR0.out;show _≠_;omega
 have hnl:=aZo bs;have HRMl:Hid (r<M):=HRM.out;have HRM2:Hid (M≠r):=by have:=HRM.out;show _≠_;omega
 clear hba hbm hrd hg hg8 K1 hM HD6 HO6;go_wp2_with fail;go_loopw [21] (fun i wr=>RelG w8 M r Q bs i wr) (fun i _=>nOf bs - (intOf i).toNat)
 case atStart=>exact ⟨0,none,0,[],Nat.zero_le _,rfl,HM8.out,⟨rfl,.inl ⟨rfl,rfl⟩⟩,⟨rfl,fun j b hj=>by simp [linesS] at hj⟩,HD8.out,Out.refl _ _⟩
 case round=>
  obtain ⟨k,Ar,cr,xs,hk,rfl,hbm,hown,hfr,hrd,hout⟩:=hrel;obtain ⟨st,hst⟩:∃st,st=(linesS k (s6 bs)).2:=⟨_,rfl⟩;obtain ⟨ls,hls⟩:∃ls,ls=(linesS k (s6 bs)).1:=⟨_,rfl⟩;have hll:ls.length=k:=by rw [hls,aDu]
  rw [←hst] at hrd;rw [←hls] at hown hfr;have HM:=Lib.hid hbm;have HO:=Lib.hid hown;have HF:=Lib.hid hfr;have HD:=Lib.hid hrd;have HU:=Lib.hid hout;have HST:=Lib.hid hst;have HLS:=Lib.hid hls;have HLL:=Lib.hid hll;have HXL:Hid (xs.length=k):=by
   have:=hfr.len;rw [List.length_map] at this;show _=_;omega
  clear hbm hown hfr hrd hout hst hls hll;by_cases hlt:k<nOf bs
  ·obtain ⟨e,he⟩:∃e,e=val (takeS 8 st).1:=⟨_,rfl⟩;obtain ⟨t,ht⟩:∃t,t=(textS (takeS 8 st).2).1:=⟨_,rfl⟩;have HE:=Lib.hid he;have HT:=Lib.hid ht;have hcs:(lnsC ls xs).length=2*k:=by rw [aD3 _ _ (by rw [HLL.out,HXL.out]),HLL.out]
   have HCS:=Lib.hid hcs;have hk256:k<256:=by omega
   have HGB:Hid (∀b,GG (GGt (.slice Ar k cr) r M) b→(b=M∨b=r)∨(w8.heap.size≤b∧b<wr.heap.size∧(Value.slice Ar k cr).ownBlock=some b)):=fun b ⟨_,hg⟩=>by
    rcases hg with ⟨_,hg⟩|⟨_,hg⟩|⟨_,hg⟩
    ·have q:=aAx HO.out hg;exact .inr ⟨q.1,q.2,hg⟩
    ·exact .inl (.inr hg)
    ·exact .inl (.inl hg)
   have HQZ:Hid (∀b,Q b→∀Z:Nat→Prop,(∀b,Z b→wr.heap.size≤b∨GG (GGt (.slice Ar k cr) r M) b)→¬Z b):=fun b hq Z hz hzb=>by
    have q:=HQB.out b hq;have q2:=HU.out.size;rcases hz b hzb with h|h
    ·omega
    ·rcases HGB.out b h with (h|h)|h
     ·exact q.2.2 h
     ·exact q.2.1 h
     ·omega
   have HQG:Hid (∀b,Q b→¬GG (GGt (.slice Ar k cr) r M) b):=fun b hq=>HQZ.out b hq _ fun _ h=>.inr h;clear he ht hcs;go_wp2_with fail;refine aC5 (F:=?F) conG (RG (fun W=>RdrQ Q W r (takeS 8 st).2) (fun W=>RdrQ Q W r (lineS st).2) w8.heap.size M r k e t (.slice Ar k cr) (lnsC ls xs) [Value.int .u8 ((said bs).kind:Int),.int .u64 ((said bs).epoch:Int),.int .u64 ((said bs).current:Int),.int .i64 (said bs).at_,.int .i64 (said bs).commit]) (OG r M k) (LG e) (GGt (.slice Ar k cr) r M) 20 (by kernel_rfl) (by kernel_rfl) (by kernel_rfl) (by kernel_rfl) ?hG1 ?hG2 ?hR (fun i v v' x _ h=>h) ?hS ?hF ?hE
   case hF=>
    intro v;simp only [List.length_cons,List.length_nil,Nat.zero_add,Nat.reduceAdd,PhaseG.final,List.getElem?_toArray,List.getElem?_cons_zero,List.getElem?_cons_succ,Option.bind_some,Act.put,List.setIfInBounds_toArray,List.set_cons_zero,List.set_cons_succ];exact rfl
   case hG1=>
    intro j b hg;rcases HGB.out b ⟨j,hg⟩ with (h|h)|h
    ·rw [h];exact HM.out.lt
    ·rw [h];exact HD.out.lt
    ·exact h.2.1
   case hG2=>
    intro i j b h1 h2;have hne:=HRM2.out;have hMl:=HMB.out;have hrl:=HRL.out;rcases h1 with ⟨e1,h1⟩|⟨e1,h1⟩|⟨e1,h1⟩<;>rcases h2 with ⟨e2,h2⟩|⟨e2,h2⟩|⟨e2,h2⟩
    ·omega
    ·have:=(aAx HO.out h1).1;omega
    ·have:=(aAx HO.out h1).1;omega
    ·have:=(aAx HO.out h2).1;omega
    ·omega
    ·omega
    ·have:=(aAx HO.out h2).1;omega
    ·omega
    ·omega
   case hR=>
    intro k x Z W W' hx hb ho hz hn;exact RG.out (aDn Q r _) (aDn Q r _) HCS.out _ _ _ _ _ hx ho (fun b hq=>HQZ.out b hq Z hz) hn
   case hS=>
    refine aA0 ?_ (aA0 ?_ (aA0 ?_ (aA0 ?_ (aA0 ?_ (aA0 ?_ (aA0 ?_ (aA0 ?_ (aA0 ?_ (aA0 ?_ (aA0 ?_ (aA2)))))))))))
    ·intro a v W hd hb hw K hK;have k5:a.tmps.getD 5 undef=.pointer (some ⟨M,0,none⟩):=hd.kept 20 5 (by kernel_rfl);have hk:=hK (.pointer (some ⟨M,5,none⟩)) W (Out.refl _ _) rfl (fun h=>absurd h (by decide)) (fun b hob=>absurd hob id);clear hK;unfold Oper.wp;go_simp;exact hk
    ·intro a v W hd hb hw K hK;obtain ⟨h23,r23⟩:=hd.done_ 0 _ 23 (by kernel_rfl) rfl rfl (by kernel_rfl);have r23:v 0=.pointer (some ⟨M,5,none⟩):=r23;rw [r23] at h23;have kk:W.cell? ⟨M,5,none⟩=some (.slice Ar k cr):=(HM.out.kept (hw 10 M (.inr (by kernel_rfl)) (.inr (.inr ⟨rfl,rfl⟩)))).cell 5;have ho1:W.ownsRow w8.heap.size 65 2 (.slice Ar k cr) k (lnsC ls xs):=aFv HO.out fun b hb'=>hw 1 b (.inl rfl) (.inl ⟨rfl,hb'⟩);have hk:=hK (.slice Ar k cr) W (Out.refl _ _) ⟨rfl,ho1⟩ (fun h=>absurd h (by decide)) (fun b hob=>⟨(aAx ho1 hob).2,.inr (.inr (.inl ⟨rfl,hob⟩))⟩);clear hK;unfold Oper.wp;go_simp;exact hk
    ·intro a v W hd hb hw K hK;have k4:a.tmps.getD 4 undef=.pointer (some ⟨r,0,none⟩):=hd.kept 20 4 (by kernel_rfl);have hk:=hK (.pointer (some ⟨r,0,none⟩)) W (Out.refl _ _) rfl (fun h=>absurd h (by decide)) (fun b hob=>absurd hob id);clear hK;unfold Oper.wp;go_simp;exact hk
    ·intro a v W hd hb hw K hK;obtain ⟨h25,r25⟩:=hd.done_ 2 _ 25 (by kernel_rfl) rfl rfl (by kernel_rfl);have r25:v 2=.pointer (some ⟨r,0,none⟩):=r25;rw [r25] at h25;have hrd:RdrQ Q W r st:=aW4 HD.out hb (hw 3 r (.inl rfl) (.inr (.inl ⟨rfl,rfl⟩))) HQG.out;have ct:=aF0 r st W hrd;rw [←HE.out] at ct;unfold Oper.wp;go_simp;refine ct.mono ?_;rintro e' W' ⟨rfl,hr',hg⟩;exact hK (.int .u64 (e:Int)) W' ((aAc hg).mono fun b hb'=>.inl (.inr (.inr (.inl ⟨rfl,by injection hb' with hb';exact hb'.symm⟩)))) ⟨rfl,hr'⟩ (fun _=>rfl) (fun b hob=>by
      have hob:b=r:=hob;exact ⟨by rw [hob];exact hr'.lt,.inr (.inr (.inr (.inl ⟨rfl,hob⟩)))⟩)
    ·intro a v W hd hb hw K hK;have k4:a.tmps.getD 4 undef=.pointer (some ⟨r,0,none⟩):=hd.kept 20 4 (by kernel_rfl);have hk:=hK (.pointer (some ⟨r,0,none⟩)) W (Out.refl _ _) rfl (fun h=>absurd h (by decide)) (fun b hob=>absurd hob id);clear hK;unfold Oper.wp;go_simp;exact hk
    ·intro a v W hd hb hw K hK;obtain ⟨h27,r27⟩:=hd.done_ 4 _ 27 (by kernel_rfl) rfl rfl (by kernel_rfl);have r27:v 4=.pointer (some ⟨r,0,none⟩):=r27;rw [r27] at h27;obtain ⟨h26,r26⟩:=hd.done_ 3 _ 26 (by kernel_rfl) rfl rfl (by kernel_rfl);have ct:=aL4 r (takeS 8 st).2 W r26.2;rw [←HT.out] at ct;unfold Oper.wp;go_simp;refine ct.mono ?_;rintro e' W' ⟨A4,n4,c4,rfl,hown4,hr',hg⟩;have hn4:n4=t.length:=by have:=hown4.1;rw [List.length_map] at this;omega
     have ho4:W'.ownsRow w8.heap.size 5 1 (.slice A4 n4 c4) t.length (t.map U):=by
      have q:=aAh hown4 (Nat.le_trans HU.out.size hb.size);rwa [hn4] at q ⊢
     exact hK (.slice A4 n4 c4) W' ((aAc hg).mono fun b hb'=>.inl (.inl ⟨3,by decide,by injection hb' with hb';exact hb'.symm⟩)) ⟨ho4,hr'⟩ (fun h=>absurd h (by decide)) (fun b hob=>by
      rcases hob with hob|hob
      ·exact ⟨by rw [hob];exact hr'.lt,.inr (.inl ⟨3,by decide,hob⟩)⟩
      ·exact ⟨(aAx hown4 hob).2,.inl (aAx hown4 hob).1⟩)
    ·intro a v W hd hb hw K hK;obtain ⟨h26,r26⟩:=hd.told 3 _ 26 (by kernel_rfl) rfl rfl;have r26:v 3=.int .u64 (e:Int):=r26 rfl;rw [r26] at h26;obtain ⟨h28,r28⟩:=hd.done_ 5 _ 28 (by kernel_rfl) rfl rfl (by kernel_rfl);have ht28:TX (fun W=>RdrQ Q W r (lineS st).2) w8.heap.size t (v 5) W:=r28;have hk:=hK (.agg #[.int .u64 (e:Int),v 5]) W (Out.refl _ _) ⟨v 5,rfl,ht28⟩ (fun h=>absurd h (by decide)) (fun b hob=>by
      refine ⟨?_,.inr (.inl ⟨5,by decide,?_⟩)⟩
      ·rcases hob with hob|⟨y,e',h1,h2⟩
       ·rw [hob];exact ht28.2.lt
       ·injection h1 with h1;have h3:v 5=y:=by have:=congrArg (fun l:Array Value=>l[1]?) h1;simpa using this
        rw [←h3] at h2;exact (aAx ht28.1 h2).2
      ·rcases hob with hob|⟨y,e',h1,h2⟩
       ·exact .inl hob
       ·injection h1 with h1;have h3:v 5=y:=by have:=congrArg (fun l:Array Value=>l[1]?) h1;simpa using this
        rw [←h3] at h2;exact .inr h2)
     obtain ⟨Ay,cy,ey,-⟩:=aAq ht28.1;rw [ey] at h28 hk;clear hK;simp only [Array.getD_eq_getD_getElem?] at h26 h28;unfold Oper.wp;go_simp;exact hk
    ·intro a v W hd hb hw K hK;obtain ⟨h29,r29⟩:=hd.done_ 6 _ 29 (by kernel_rfl) rfl rfl (by kernel_rfl);obtain ⟨y,e29,ht29⟩:=r29;rw [e29] at h29;have ht29:TX (fun W=>RdrQ Q W r (lineS st).2) w8.heap.size t y W:=ht29;obtain ⟨Ay,cy,ey,-⟩:=aAq ht29.1;subst ey;have hba:Below W.heap.size W (W.alloc (.cells #[.int .u64 (e:Int),.slice Ay t.length cy] 65)):=(Below.refl _ _).alloc (Nat.le_refl _) _;have hbn:Bk (W.alloc (.cells #[.int .u64 (e:Int),.slice Ay t.length cy] 65)) W.heap.size 65 #[.int .u64 (e:Int),.slice Ay t.length cy]:=Bk.new _ _ _;have hc1:(W.alloc (.cells #[.int .u64 (e:Int),.slice Ay t.length cy] 65)).cell? ⟨W.heap.size,1,none⟩=some (.slice Ay t.length cy):=hbn.cell 1;have hk:=hK (.slice (some ⟨W.heap.size,0,none⟩) 1 1) (W.alloc (.cells #[.int .u64 (e:Int),.slice Ay t.length cy] 65)) (Out.of_below hba) ⟨W.heap.size,_,rfl,hbn,ht29.out (aDn Q r _) (Out.of_below (X:=fun _=>False) hba) (fun _ _ q=>q) (fun _ _ q=>q)⟩ (fun h=>absurd h (by decide)) (fun b hob=>by
      rcases hob with hob|⟨nb,e1,hob⟩
      ·exact ⟨by rw [hob];exact Nat.lt_of_lt_of_le ht29.2.lt hba.size,.inr (.inl ⟨6,by decide,.inl hob⟩)⟩
      ·injection e1 with e1;injection e1 with e1;injection e1 with e1;subst e1;rcases hob with hob|⟨y,h1,h2⟩
       ·exact ⟨by rw [hob];exact hbn.lt,.inl (by omega)⟩
       ·rw [hc1] at h1;injection h1 with h1;rw [←h1] at h2;exact ⟨Nat.lt_of_lt_of_le (aAx ht29.1 h2).2 hba.size,.inr (.inl ⟨6,by decide,.inr ⟨_,_,e29,h2⟩⟩)⟩)
     clear hK;simp only [Array.getD_eq_getD_getElem?] at h29;unfold Oper.wp;go_simp;exact hk
    ·intro a v W hd hb hw K hK;obtain ⟨h24,r24⟩:=hd.done_ 1 _ 24 (by kernel_rfl) rfl rfl (by kernel_rfl);obtain ⟨e24,ho24⟩:=r24;rw [e24] at h24 ho24;obtain ⟨h30,r30⟩:=hd.done_ 7 _ 30 (by kernel_rfl) rfl rfl (by kernel_rfl);obtain ⟨nb,y,e30,hbn,ht30⟩:=r30;rw [e30] at h30;have ho24:W.ownsRow w8.heap.size 65 2 (.slice Ar k cr) k (lnsC ls xs):=ho24;have ht30:TX (fun W=>RdrQ Q W r (lineS st).2) w8.heap.size t y W:=ht30;obtain ⟨Ay,cy,ey,-⟩:=aAq ht30.1;subst ey;have hc1:W.cell? ⟨nb,1,none⟩=some (.slice Ay t.length cy):=hbn.cell 1;obtain ⟨i0,hi,hz0,hz1,hz2⟩:=info_parts aEb;obtain ⟨g,cap,W',hrun,hown',hgr,hwh,hlt'⟩:=run_append_lies (P:=Tryz.prog) (w:=W) 34 34 w8.heap.size 65 i0 _ 2 32 aEj hi hz0 hz1 hz2 rfl (by decide) (.slice Ar k cr) k (lnsC ls xs) ho24 ⟨nb,0,none⟩ 1 1 [.int .u64 (e:Int),.slice Ay t.length cy] rfl (World.news_of_block (cs:=#[.int .u64 (e:Int),.slice Ay t.length cy]) (t:=65) (fr:=(0,0)) hbn) (by simp [Value.oneCell']) (by decide) (by unfold maxLen;omega) (by omega) (Nat.le_trans HU.out.size hb.size) _ rfl;have hoo:=aAc hgr;have htk:TX (fun W=>RdrQ Q W r (lineS st).2) w8.heap.size t (.slice Ay t.length cy) W':=by
      refine ht30.out (aDn Q r _) hoo (fun b hq hz=>?_) (fun b hob hz=>?_)
      ·have:=(aAx ho24 hz).1;have:=(HQB.out b hq).1;omega
      ·rcases hob with hob|hob
       ·have:=(aAx ho24 hz).1;have:=HRL.out;omega
       ·obtain ⟨c1,f1,q1⟩:=Lib.ownsRow_kind ht30.1 b hob;obtain ⟨c2,f2,q2⟩:=Lib.ownsRow_kind ho24 b hz;rw [q1] at q2;injection q2 with q2;injection q2 with _ q3;exact absurd q3 (by decide)
     have hcl:=aE3 hown' HCS.out;have hk:=hK (.slice (some ⟨g,0,none⟩) (k+1) cap) W' (hoo.mono fun b hb'=>.inl (.inl ⟨1,by decide,by rw [e24];exact hb'⟩)) ⟨g,cap,_,rfl,hown',htk⟩ (fun h=>absurd h (by decide)) (fun b hob=>by
      rcases hob with hob|⟨g',cap',e1,hob⟩
      ·exact ⟨by rw [hob];exact htk.2.lt,.inr (.inl ⟨7,by decide,.inl hob⟩)⟩
      ·injection e1 with e1 _ e3;injection e1 with e1;injection e1 with e1;subst e1;subst e3;rcases hob with hob|⟨y',h1,h2⟩
       ·subst hob;exact ⟨hlt',hwh.elim (fun q=>.inr (.inl ⟨1,by decide,by rw [e24];exact q⟩)) (fun q=>.inl (by omega))⟩
       ·rw [hcl] at h1;injection h1 with h1;rw [←h1] at h2;exact ⟨(aAx htk.1 h2).2,.inr (.inl ⟨7,by decide,.inr ⟨nb,e30,.inr ⟨_,hc1,h2⟩⟩⟩)⟩)
     exact aC4 (.tmp 24) (.tmp 30) _ rfl h24 h30 hrun hk
    ·intro a v W hd hb hw K hK;have k5:a.tmps.getD 5 undef=.pointer (some ⟨M,0,none⟩):=hd.kept 20 5 (by kernel_rfl);have hk:=hK (.pointer (some ⟨M,5,none⟩)) W (Out.refl _ _) rfl (fun h=>absurd h (by decide)) (fun b hob=>absurd hob id);clear hK;unfold Oper.wp;go_simp;exact hk
    ·intro a v W hd hb hw K hK;obtain ⟨h32,r32⟩:=hd.done_ 9 _ 32 (by kernel_rfl) rfl rfl (by kernel_rfl);have r32:v 9=.pointer (some ⟨M,5,none⟩):=r32;rw [r32] at h32;obtain ⟨h31,r31⟩:=hd.done_ 8 _ 31 (by kernel_rfl) rfl rfl (by kernel_rfl);obtain ⟨g,cap,y,e31,ho31,ht31⟩:=r31;rw [e31] at h31 ho31;have ho31:W.ownsRow w8.heap.size 65 2 (.slice (some ⟨g,0,none⟩) (k+1) cap) (k+1) (lnsC ls xs++[.int .u64 (e:Int),y]):=ho31;have ht31:TX (fun W=>RdrQ Q W r (lineS st).2) w8.heap.size t y W:=ht31;have hbm:=HM.out.kept (hw 10 M (.inl rfl) (.inr (.inr ⟨rfl,rfl⟩)));have kk:W.cell? ⟨M,5,none⟩=some (.slice Ar k cr):=hbm.cell 5;have kf:W.frozen? ⟨M,5,none⟩=false:=hbm.frozen 5;have hoo:Out (fun b=>b=M) W (W.setCell ⟨M,5,none⟩ (.slice (some ⟨g,0,none⟩) (k+1) cap)):=Out.setCell (X:=fun b=>b=M) W (p:=⟨M,5,none⟩) rfl _;have hnb:Bk (W.setCell ⟨M,5,none⟩ (.slice (some ⟨g,0,none⟩) (k+1) cap)) M 36 ([Value.int .u8 ((said bs).kind:Int),.int .u64 ((said bs).epoch:Int),.int .u64 ((said bs).current:Int),.int .i64 (said bs).at_,.int .i64 (said bs).commit]++[Value.slice (some ⟨g,0,none⟩) (k+1) cap]).toArray:=by
      have q:=hbm.set 5 (.slice (some ⟨g,0,none⟩) (k+1) cap);simpa [mgC] using q
     have hrw:=RowT.out (aDn Q r _) HCS.out (W:=W) (W':=W.setCell ⟨M,5,none⟩ (.slice (some ⟨g,0,none⟩) (k+1) cap)) (Z:=fun b=>b=M) ⟨g,cap,y,rfl,ho31,ht31⟩ hoo (fun b hq hz=>(HQB.out b hq).2.2 hz) (fun b hob hz=>by
      have hMl:=HMB.out;rcases hob with hob|⟨g',cap',e1,hob⟩
      ·exact HRM2.out (hz.symm.trans hob)
      ·injection e1 with e1 _ e3;injection e1 with e1;injection e1 with e1;subst e1;subst e3;have hcl:=aE3 ho31 HCS.out;rcases hob with hob|⟨y',h1,h2⟩
       ·have:=(aAx ho31 (b:=g) rfl).1;omega
       ·rw [hcl] at h1;injection h1 with h1;rw [←h1] at h2;have:=(aAx ht31.1 h2).1;omega)
     have hk:=hK (.slice (some ⟨g,0,none⟩) (k+1) cap) _ (hoo.mono fun b hb'=>.inl (.inr (.inr (.inr ⟨rfl,hb'⟩)))) ⟨hnb,hrw.1⟩ (fun h=>absurd h (by decide)) (fun b hob=>by
      rcases hob with hob|hob
      ·exact ⟨by rw [hob];exact hnb.lt,.inr (.inr (.inr (.inr ⟨rfl,hob⟩)))⟩
      ·have hob':=hrw.2 b hob;have hlt':b<W.heap.size:=by
        rcases hob' with hob|⟨g',cap',e1,hob⟩
        ·rw [hob];exact ht31.2.lt
        ·injection e1 with e1 _ e3;injection e1 with e1;injection e1 with e1;subst e1;subst e3;have hcl:=aE3 ho31 HCS.out;rcases hob with hob|⟨y',h1,h2⟩
         ·rw [hob];exact (aAx ho31 (b:=g) rfl).2
         ·rw [hcl] at h1;injection h1 with h1;rw [←h1] at h2;exact (aAx ht31.1 h2).2
       exact ⟨Nat.lt_of_lt_of_le hlt' hoo.size,.inr (.inl ⟨8,by decide,by rw [e31];exact hob'⟩)⟩)
     clear hK;unfold Oper.wp;go_simp;exact hk
   case hE=>
    intro v W hb hv hl;obtain ⟨hb10,g,cap,y,e10,ho10,ht10⟩:=hv 10 (by decide) (fun j _ hc=>by
     unfold conG at hc
     repeat' (split at hc)
     all_goals simp at hc)
    rw [e10] at hb10 ho10;have ho10:W.ownsRow w8.heap.size 65 2 (.slice (some ⟨g,0,none⟩) (k+1) cap) (k+1) (lnsC ls xs++[.int .u64 (e:Int),y]):=ho10;have ht10:TX (fun W=>RdrQ Q W r (lineS st).2) w8.heap.size t y W:=ht10;obtain ⟨Ay,cy,ey,-⟩:=aAq ht10.1;subst ey;have HREL:Hid (RelG w8 M r Q bs (.int .i64 ((k:Int)+1)) W):=by
     have e1:(linesS (k+1) (s6 bs)).1=ls++[(lineS st).1]:=by rw [HLS.out,HST.out];rfl
     have e2:(linesS (k+1) (s6 bs)).2=(lineS st).2:=by rw [HST.out];rfl
     have e3:(lineS st).1.bytes=t:=HT.out.symm;have e4:(lineS st).1.epoch=e:=HE.out.symm;refine ⟨k+1,some ⟨g,0,none⟩,cap,xs++[.slice Ay t.length cy],by omega,rfl,?_,?_,?_,?_,?_⟩
     ·simpa [mgC] using hb10
     ·rw [e1,aJ1 _ _ _ _ (by rw [HLL.out,HXL.out])];unfold lnC;rw [e4];exact ho10
     ·rw [e1,List.map_append,List.map_cons,List.map_nil,e3];refine Fresh.snoc (aN8 HF.out hb fun b hg=>?_) ht10.1;rcases HGB.out b hg with (h|h)|h
      ·left;rw [h];exact HMB.out
      ·left;rw [h];exact HRL.out
      ·right
       obtain ⟨c1,f1,q1⟩:=Lib.ownsRow_kind HO.out b h.2.2;exact ⟨_,c1,f1,by decide,q1⟩
     ·rw [e2];exact ht10.2
     ·refine HU.out.trans hb fun b hg=>?_;rcases HGB.out b hg with (h|h)|h
      ·exact .inl (.inr h)
      ·exact .inl (.inl h)
      ·exact .inr h.1
    clear hv hl hb hb10 ho10 ht10 e10;generalize v 0=x0;generalize v 1=x1;generalize v 2=x2;generalize v 3=x3;generalize v 4=x4;generalize v 5=x5;generalize v 6=x6;generalize v 7=x7;generalize v 8=x8;generalize v 9=x9;go_wp2_with fail;exact ⟨HREL.out,by simp [intOf];omega⟩
  ·obtain rfl:k=nOf bs:=by omega
   go_wp2_with fail;have hdone:=aNr r st wr HD.out.rdr;have hbw:Below w.heap.size w wr:=by
    have q1:=HO8.out.below HB1.out (fun b hb=>by rw [hb];exact Nat.le_of_lt HR0.out) HB1.out.size;refine HU.out.below q1 (fun b hb=>?_) q1.size;rcases hb with hb|hb
    ·rw [hb];exact Nat.le_of_lt HR0.out
    ·rw [hb];have:=HRM2.out;have:=HR0.out;have:=HRMl.out;omega
   have HBW:=Lib.hid hbw;have HZR:Hid (Bk wr w.heap.size 36 zeroC):=HZ8.out.kept (HU.out.block _ HZ8.out.lt (fun h=>h.elim (fun q=>by have:=HR0.out;omega) (fun q=>HMZ.out q.symm)));have HLN:Hid (OwnL w8.heap.size wr (.slice Ar (nOf bs) cr) ls):=⟨xs,by rw [HLL.out];exact HO.out,HF.out⟩;have HSL:Hid ((said bs).lines=ls):=HLS.out.symm;have HLF:Hid (st=left bs):=HST.out;have z0:wr.cell? ⟨w.heap.size,0,none⟩=some (.int .u8 0):=HZR.out.cell 0;have z1:wr.cell? ⟨w.heap.size,1,none⟩=some (.int .u64 0):=HZR.out.cell 1;have z2:wr.cell? ⟨w.heap.size,2,none⟩=some (.int .u64 0):=HZR.out.cell 2;have z3:wr.cell? ⟨w.heap.size,3,none⟩=some (.int .i64 0):=HZR.out.cell 3;have z4:wr.cell? ⟨w.heap.size,4,none⟩=some (.int .i64 0):=HZR.out.cell 4;have z5:wr.cell? ⟨w.heap.size,5,none⟩=some (.slice none 0 0):=HZR.out.cell 5;have y0:=HZR.out.frozen 0;have y1:=HZR.out.frozen 1;have y2:=HZR.out.frozen 2;have y3:=HZR.out.frozen 3;have y4:=HZR.out.frozen 4;have y5:=HZR.out.frozen 5;refine hdone.mono ?_;rintro e _ ⟨rfl,rfl⟩;clear hdone hbw;by_cases hgood:st.2=true∨0<st.1.length
   ·have HNO:Hid (¬getOk bs):=fun hg=>by
     obtain ⟨g1,g2,-⟩:=hg;rw [←HLF.out] at g1 g2;rw [g1,g2] at hgood;simp at hgood
    rw [if_pos hgood];clear hgood;go_wp2_with fail;have ho6:=aM8 wr w.heap.size (.int .u8 0) (.int .u64 0) (.int .u64 0) (.int .i64 0) (.int .i64 0) (.slice none 0 0);have hb6:=aP3 HZR.out (.int .u8 0) (.int .u64 0) (.int .u64 0) (.int .i64 0) (.int .i64 0) (.slice none 0 0);have hbe:=ho6.below HBW.out (fun b hb=>by rw [hb];exact Nat.le_refl _) HBW.out.size;refine bodyPost_ret (aBy rfl _ _ w.heap.size 36 _ (0,0) _ rfl hb6 Tryz.underlying36 rfl aCq) rfl ?_;have e1:getM bs=Mg.zero:=by unfold getM;rw [if_neg HNO.out]
    have e2:getE bs=2:=by unfold getE;rw [if_neg HNO.out]
    unfold aGp;rw [e1,e2];exact ⟨none,0,rfl,OwnL.nil_ _ _,hbe⟩
   ·have HYE:Hid (st.2=false∧st.1=[]):=by
     simp only [not_or,Nat.not_lt,Bool.not_eq_true] at hgood;exact ⟨hgood.1,List.eq_nil_of_length_eq_zero (by omega)⟩
    rw [if_neg hgood];clear hgood;have m0:wr.cell? ⟨M,0,none⟩=some (.int .u8 ((said bs).kind:Int)):=HM.out.cell 0;have m1:wr.cell? ⟨M,1,none⟩=some (.int .u64 ((said bs).epoch:Int)):=HM.out.cell 1;have m2:wr.cell? ⟨M,2,none⟩=some (.int .u64 ((said bs).current:Int)):=HM.out.cell 2;have m3:wr.cell? ⟨M,3,none⟩=some (.int .i64 (said bs).at_):=HM.out.cell 3;have m4:wr.cell? ⟨M,4,none⟩=some (.int .i64 (said bs).commit):=HM.out.cell 4;have m5:wr.cell? ⟨M,5,none⟩=some (.slice Ar (nOf bs) cr):=HM.out.cell 5;have hmay:=aHr (P:=fun k=>w8.heap.size≤k∧k<wr.heap.size) Ar (nOf bs) cr (said bs) wr (aWf bs (by have:=HLEN.out;omega)) (by
     have q:=HLN.out.lns;rw [HLL.out] at q;rw [HSL.out];exact q)
    have HMAY:=Lib.hid hmay;clear hmay;unfold mgC at HMAY;go_wp2_with fail;refine HMAY.out.mono ?_;rintro e w9 ⟨rfl,hb9⟩;have HBW9:=Lib.hid (HBW.out.trans (hb9.mono HBW.out.size));have HZR9:=Lib.hid (HZR.out.below hb9);have hbm9:=HM.out.below hb9;have hln9:OwnL w8.heap.size w9 (.slice Ar (nOf bs) cr) ls:=by
     obtain ⟨xs',q1,q2⟩:=HLN.out;exact ⟨xs',q1.kept (aA7 hb9 none) (Classical.em _),q2.below hb9⟩
    have HLN9:=Lib.hid hln9;have z0:w9.cell? ⟨w.heap.size,0,none⟩=some (.int .u8 0):=HZR9.out.cell 0;have z1:w9.cell? ⟨w.heap.size,1,none⟩=some (.int .u64 0):=HZR9.out.cell 1;have z2:w9.cell? ⟨w.heap.size,2,none⟩=some (.int .u64 0):=HZR9.out.cell 2;have z3:w9.cell? ⟨w.heap.size,3,none⟩=some (.int .i64 0):=HZR9.out.cell 3;have z4:w9.cell? ⟨w.heap.size,4,none⟩=some (.int .i64 0):=HZR9.out.cell 4;have z5:w9.cell? ⟨w.heap.size,5,none⟩=some (.slice none 0 0):=HZR9.out.cell 5;have y0:=HZR9.out.frozen 0;have y1:=HZR9.out.frozen 1;have y2:=HZR9.out.frozen 2;have y3:=HZR9.out.frozen 3;have y4:=HZR9.out.frozen 4;have y5:=HZR9.out.frozen 5;have m0:w9.cell? ⟨M,0,none⟩=some (.int .u8 ((said bs).kind:Int)):=hbm9.cell 0;have m1:w9.cell? ⟨M,1,none⟩=some (.int .u64 ((said bs).epoch:Int)):=hbm9.cell 1;have m2:w9.cell? ⟨M,2,none⟩=some (.int .u64 ((said bs).current:Int)):=hbm9.cell 2;have m3:w9.cell? ⟨M,3,none⟩=some (.int .i64 (said bs).at_):=hbm9.cell 3;have m4:w9.cell? ⟨M,4,none⟩=some (.int .i64 (said bs).commit):=hbm9.cell 4;have m5:w9.cell? ⟨M,5,none⟩=some (.slice Ar (nOf bs) cr):=hbm9.cell 5;have hlw:w.heap.size≤w8.heap.size:=Nat.le_trans HB1.out.size HO8.out.size;have HLW:=Lib.hid hlw;clear hb9 hbm9 hln9 hlw;by_cases hmy:(said bs).may
    ·have hd:decide (said bs).may=true:=by simp [hmy]
     rw [hd];have HG:Hid (getOk bs):=⟨by rw [←HLF.out];exact HYE.out.1,by rw [←HLF.out];exact HYE.out.2,hmy⟩;clear hd hmy;go_wp2_with fail;have ho6:=aM8 w9 w.heap.size (.int .u8 ((said bs).kind:Int)) (.int .u64 ((said bs).epoch:Int)) (.int .u64 ((said bs).current:Int)) (.int .i64 (said bs).at_) (.int .i64 (said bs).commit) (.slice Ar (nOf bs) cr);have hb6:=aP3 HZR9.out (.int .u8 ((said bs).kind:Int)) (.int .u64 ((said bs).epoch:Int)) (.int .u64 ((said bs).current:Int)) (.int .i64 (said bs).at_) (.int .i64 (said bs).commit) (.slice Ar (nOf bs) cr);have hbe:=ho6.below HBW9.out (fun b hb=>by rw [hb];exact Nat.le_refl _) HBW9.out.size;refine bodyPost_ret (aBy rfl _ _ w.heap.size 36 _ (0,0) _ rfl hb6 Tryz.underlying36 rfl aCq) rfl ?_;have e1:getM bs=said bs:=by unfold getM;rw [if_pos HG.out]
     have e2:getE bs=0:=by unfold getE;rw [if_pos HG.out]
     have e3:(said bs).lines.length=nOf bs:=by rw [HSL.out,HLL.out]
     unfold aGp;rw [e1,e2,e3,HSL.out];refine ⟨Ar,cr,rfl,?_,hbe⟩;obtain ⟨xs',q1,q2⟩:=HLN9.out;refine ⟨xs',aAh (aBw q1 ho6 fun b hb hx=>?_) HLW.out,aSc (aN8 q2 ho6 fun b hb=>.inl ?_) HLW.out⟩
     ·have:=(aAx q1 hb).1;have:=HZ8.out.lt;omega
     ·rw [hb];exact HZ8.out.lt
    ·have hd:decide (said bs).may=false:=by simp [hmy]
     rw [hd];have HNO:Hid (¬getOk bs):=fun hg=>hmy hg.2.2;clear hd hmy;go_wp2_with fail;have ho6:=aM8 w9 w.heap.size (.int .u8 0) (.int .u64 0) (.int .u64 0) (.int .i64 0) (.int .i64 0) (.slice none 0 0);have hb6:=aP3 HZR9.out (.int .u8 0) (.int .u64 0) (.int .u64 0) (.int .i64 0) (.int .i64 0) (.slice none 0 0);have hbe:=ho6.below HBW9.out (fun b hb=>by rw [hb];exact Nat.le_refl _) HBW9.out.size;refine bodyPost_ret (aBy rfl _ _ w.heap.size 36 _ (0,0) _ rfl hb6 Tryz.underlying36 rfl aCq) rfl ?_;have e1:getM bs=Mg.zero:=by unfold getM;rw [if_neg HNO.out]
     have e2:getE bs=2:=by unfold getE;rw [if_neg HNO.out]
     unfold aGp;rw [e1,e2];exact ⟨none,0,rfl,OwnL.nil_ _ _,hbe⟩
end Go.Proofs.YtgjmbbkcgillcaaGreat.Zm
