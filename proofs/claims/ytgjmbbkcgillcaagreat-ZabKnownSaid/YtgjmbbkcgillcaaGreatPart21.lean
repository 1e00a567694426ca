/- Lemmas, part 21: StoSmall, StoRoom, StoLay, LineVals, StoConcat -/
import Derived.Test.YtgjmbbkcgillcaaGreatPart20
import Derived.Test.YtgjmbbkcgillcaaGreatPart1
import Derived.Test.YtgjmbbkcgillcaaGreatPart2
import Derived.Deep.AppendSrc
import Derived.Deep.AppendLies
import Derived.Lib.AppendZeros
import Derived.OwnWalk
set_option maxHeartbeats 16000000
namespace Go.Proofs.YtgjmbbkcgillcaaGreat.Sto
open Go.RowKit Disk Log
def thrown (e:Int):Ending:=.panicked [{v:=.iface 27 (.int .i64 e),recovered:=false}]
theorem aAo (e:Int) (w:World):Calls Tryz.prog 117 #[.bool false,.int .i64 e] w fun r w'=>r=.returned (.tuple #[])∧w=w':=by
 go_enter Tryz.func117,Tryz.ntmps117
 go_wp2_with fail
 go_end0
 exact ⟨rfl,rfl⟩
theorem aAr (e:Int) (w:World):Calls Tryz.prog 117 #[.bool true,.int .i64 e] w fun r w'=>r=.panicked [{v:=.iface 27 (.int .i64 e),recovered:=false}]∧w=w':=by
 go_enter Tryz.func117,Tryz.ntmps117
 go_wp2_with fail;exact ⟨rfl,rfl,rfl⟩
theorem aOo (x:Int) (w:World):Calls Tryz.prog 216 #[.int .u64 x] w fun e w'=>e=.returned (.bool false)∧w=w':=by
 go_enter Tryz.func216,Tryz.ntmps216
 go_wp2_with fail;go_ret;exact ⟨rfl,rfl⟩
def cmpF (x y:Int):Int:=if x<y then -1 else if y<x then 1 else 0
set_option maxRecDepth 8000 in
theorem bAa (x y:Int) (w:World):Calls Tryz.prog 182 #[.int .u64 x,.int .u64 y] w fun e w'=>e=.returned (.int .i64 (cmpF x y))∧w=w':=by
 obtain ⟨r,hr⟩:∃r,r=cmpF x y:=⟨_,rfl⟩;rw [←hr];unfold cmpF at hr;go_enter Tryz.func182,Tryz.ntmps182
 go_wp2_with fail;refine (aOo x w).mono ?_;rintro e _ ⟨rfl,rfl⟩;go_wp2_with fail;refine (aOo y w).mono ?_;rintro e _ ⟨rfl,rfl⟩;by_cases h1:x<y
 ·rw [if_pos h1] at hr;subst hr;go_wp2_with fail;go_ret;exact ⟨rfl,rfl⟩
 ·rw [if_neg h1] at hr;by_cases h2:y<x
  ·rw [if_pos h2] at hr;subst hr;go_wp2_with fail;go_ret;exact ⟨rfl,rfl⟩
  ·rw [if_neg h2] at hr;subst hr;go_wp2_with fail;go_ret;exact ⟨rfl,rfl⟩
def cmpL:List Int→List Int→Int
 |x::xs,y::ys=>if cmpF x y=0 then cmpL xs ys else cmpF x y
 |_,_=>0
def numV (x:Int):Value:=.int .u64 x
theorem aRm {w:World} {A:Option Addr} {n k:Nat} {xs:List Int} (h:RdV w A n (xs.map numV)) (hk:k<n):∃b o x,A=some ⟨b,o,none⟩∧xs[k]? =some x∧w.cell? ⟨b,o+k,none⟩=some (.int .u64 x):=by
 have hl:=h.len;rw [List.length_map] at hl;obtain ⟨ad,rfl,hc⟩:=h.cells (by omega);have hx:=hc k (numV (xs[k]'(by omega))) (by rw [List.getElem?_map,List.getElem?_eq_getElem (by omega)];rfl);obtain ⟨b,o,p⟩:=ad;cases p with
 |none=>
  refine ⟨b,o,_,rfl,List.getElem?_eq_getElem (by omega),?_⟩;have hadd:((⟨b,o,none⟩:Addr).add k)=⟨b,o+k,none⟩:=by unfold Addr.add;split<;>simp_all
  rw [hadd] at hx;exact hx
 |some q=>
  exfalso;have h0:=hc 0 (numV (xs[0]'(by omega))) (by rw [List.getElem?_map,List.getElem?_eq_getElem (by omega)];rfl);have hadd:((⟨b,o,some q⟩:Addr).add 0)=⟨b,o,some q⟩:=rfl;rw [hadd] at h0;unfold World.cell? at h0;split at h0<;>simp_all
set_option maxRecDepth 8000 in
theorem aMu (A B:Option Addr) (n c c2:Nat) (xs ys:List Int) (w:World) (hx:RdV w A n (xs.map numV)) (hy:RdV w B n (ys.map numV)) (hn:n≤1000000):
  Calls Tryz.prog 158 #[.slice A n c,.slice B n c2] w fun e w'=>e=.returned (.int .i64 (cmpL xs ys))∧w=w':=by
 have HX:=Lib.hid hx;have HY:=Lib.hid hy;have HM:=Lib.hid hn;clear hx hy hn;go_enter Tryz.func158,Tryz.ntmps158
 go_wp2_with fail
 go_loop [5,6,7,8,11] (fun _ _ _ _ i=>∃k:Nat,k≤n∧i=.int .i64 (k:Int)∧Hid (cmpL xs ys=cmpL (xs.drop k) (ys.drop k))) (fun _ _ _ _ i=>n - (intOf i).toNat)
 case atStart=>exact ⟨0,by omega,rfl,rfl⟩
 case round=>
  obtain ⟨k,hk,rfl,HR⟩:=hrel;by_cases hlt:k<n
  ·obtain ⟨b1,o1,x,rfl,hx1,hc1⟩:=aRm HX.out hlt;obtain ⟨b2,o2,y,rfl,hy1,hc2⟩:=aRm HY.out hlt;have hk0:(0:Int)≤(k:Int):=Int.natCast_nonneg _;have hk1:(k:Int)<(n:Int):=by omega
   have hdx:xs.drop k=x::xs.drop (k+1):=by
    rw [List.drop_eq_getElem_cons (List.getElem?_eq_some_iff.1 hx1).1,(List.getElem?_eq_some_iff.1 hx1).2]
   have hdy:ys.drop k=y::ys.drop (k+1):=by
    rw [List.drop_eq_getElem_cons (List.getElem?_eq_some_iff.1 hy1).1,(List.getElem?_eq_some_iff.1 hy1).2]
   have HE:Hid (cmpL xs ys=if cmpF x y=0 then cmpL (xs.drop (k+1)) (ys.drop (k+1)) else cmpF x y):=by
    show _=_;rw [HR.out,hdx,hdy,cmpL]
   have HW:Hid (wrap64 ((k:Int)+1)=((k+1:Nat):Int)):=by
    have:=HM.out;show _=_;rw [IntWalk.wrap64_in _ (by omega)];omega
   clear hdx hdy hx1 hy1;go_wp2_with fail;refine (bAa x y w).mono ?_;rintro e _ ⟨rfl,rfl⟩;by_cases hz:cmpF x y=0
   ·have HE2:=HE.out;rw [if_pos hz] at HE2;have HF:=Lib.hid HE2;clear HE2 HE;rw [hz];clear hz;go_wp2_with fail;rw [HW.out];exact ⟨⟨k+1,by omega,rfl,HF⟩,by simp [intOf];omega⟩
   ·have HE2:=HE.out;rw [if_neg hz] at HE2;have hzb:((cmpF x y) != 0)=true:=by simpa using hz
    have HF:=Lib.hid HE2;clear HE2 HE hz;go_wp2_with fail;go_ret;rw [HF.out];exact ⟨rfl,rfl⟩
  ·obtain rfl:k=n:=by omega
   have HZ:Hid (cmpL xs ys=0):=by
    have h1:=HX.out.len;rw [List.length_map] at h1;show _=_;rw [HR.out,List.drop_eq_nil_of_le (by omega)];rfl
   go_wp2_with fail;go_ret;rw [HZ.out];exact ⟨rfl,rfl⟩
def kpV (k:Kp) (A:Option Addr) (c:Nat):Value:=.agg #[.int .u64 (k.promised:Int),.int .u64 (k.current:Int),.slice A k.lines.length c]
def rankL (k:Kp):List Int:=[k.promised,k.current,k.lines.length]
def aYj (k:Kp) (w:World) (e:Ending) (w':World):Prop:=
 ∃g,e=.returned (.slice (some ⟨g,0,none⟩) 3 3)∧RdV w' (some ⟨g,0,none⟩) 3 ((rankL k).map numV)∧Below w.heap.size w w'
set_option maxRecDepth 8000 in
theorem aQx (k:Kp) (A:Option Addr) (c:Nat) (w:World) (hn:k.lines.length≤1000000):
  Calls Tryz.prog 159 #[kpV k A c] w (aYj k w):=by
 unfold kpV;have HW:Hid (IntKind.u64.wrap ((k.lines.length:Nat):Int)=(k.lines.length:Int)):=by
  show _=_;exact IntWalk.u64_in _ (by omega)
 have HR:Hid (∀V:World,RdV (V.alloc (.cells #[.int .u64 (k.promised:Int),.int .u64 (k.current:Int),.int .u64 (k.lines.length:Int)] 33)) (some ⟨V.heap.size,0,none⟩) 3 ((rankL k).map numV)):=fun V=>by
  refine ⟨rfl,fun _=>⟨_,rfl,fun j v hv=>?_⟩⟩;rw [aBj,(Bk.new V _ _).cell];simpa [rankL,numV] using hv
 generalize k.lines.length=n at*;go_enter Tryz.func159,Tryz.ntmps159
 go_wp2_with fail;go_ret;have hb:Below w.heap.size w (w.alloc (.cells #[.int .u64 (k.promised:Int),.int .u64 (k.current:Int),.slice A n c] 69)):=(Below.refl _ _).alloc (Nat.le_refl _) _;have HR:=HR.out (w.alloc (.cells #[.int .u64 (k.promised:Int),.int .u64 (k.current:Int),.slice A n c] 69));rw [World.size_alloc] at HR;exact ⟨_,rfl,HR,hb.alloc hb.size _⟩
theorem aYx (a b:Nat):cmpF (a:Int) (b:Int)=if a<b then -1 else if b<a then 1 else 0:=by
 unfold cmpF;by_cases h1:a<b
 ·rw [if_pos h1,if_pos (by omega)]
 ·rw [if_neg h1,if_neg (by omega)];by_cases h2:b<a
  ·rw [if_pos h2,if_pos (by omega)]
  ·rw [if_neg h2,if_neg (by omega)]
def cmpK (a b:Kp):Int:=cmpL (rankL a) (rankL b)
theorem aVq (a b:Kp):(cmpK a b<0↔Later a b)∧(cmpK a b=0↔¬Later a b∧¬Later b a):=by
 unfold cmpK rankL Later;simp only [cmpL,aYx]
 repeat' split
 all_goals omega
def aPn (a b:Kp) (w:World) (e:Ending) (w':World):Prop:=e=.returned (.int .i64 (cmpK a b))∧Below w.heap.size w w'
set_option maxRecDepth 8000 in
theorem aP2 (a b:Kp) (A B:Option Addr) (c c2:Nat) (w:World) (ha:a.lines.length≤1000000) (hb:b.lines.length≤1000000):
  Calls Tryz.prog 116 #[kpV a A c,kpV b B c2] w (aPn a b w):=by
 have HRA:=Lib.hid fun V=>aQx a A c V ha;have HRB:=Lib.hid fun V=>aQx b B c2 V hb;have HCK:Hid (cmpL (rankL a) (rankL b)=cmpK a b):=rfl;unfold kpV at*;generalize a.lines.length=na at*;generalize b.lines.length=nb at*;go_enter Tryz.func116,Tryz.ntmps116
 go_wp2_with fail;obtain ⟨W,hW⟩:∃W,W=(w.alloc (.cells #[.int .u64 (a.promised:Int),.int .u64 (a.current:Int),.slice A na c] 69)).alloc (.cells #[.int .u64 (b.promised:Int),.int .u64 (b.current:Int),.slice B nb c2] 69):=⟨_,rfl⟩;have hwb:Below w.heap.size w W:=by rw [hW];exact ((Below.refl _ _).alloc (Nat.le_refl _) _).alloc (by simp) _
 have hb0:Bk W w.heap.size 69 #[.int .u64 (a.promised:Int),.int .u64 (a.current:Int),.slice A na c]:=by rw [hW];exact (Bk.new w _ _).alloc _
 have hb1:Bk W (w.heap.size+1) 69 #[.int .u64 (b.promised:Int),.int .u64 (b.current:Int),.slice B nb c2]:=by
  have:=Bk.new (w.alloc (.cells #[.int .u64 (a.promised:Int),.int .u64 (a.current:Int),.slice A na c] 69)) 69 #[.int .u64 (b.promised:Int),.int .u64 (b.current:Int),.slice B nb c2];rw [World.size_alloc] at this;rw [hW];exact this
 rw [←hW];have HW:=Lib.hid hwb;have HC:Hid (∀V,Below W.heap.size W V→V.cell? ⟨w.heap.size,0,none⟩=some (.int .u64 (a.promised:Int))∧V.cell? ⟨w.heap.size,1,none⟩=some (.int .u64 (a.current:Int))∧V.cell? ⟨w.heap.size,2,none⟩=some (.slice A na c)∧V.cell? ⟨w.heap.size+1,0,none⟩=some (.int .u64 (b.promised:Int))∧V.cell? ⟨w.heap.size+1,1,none⟩=some (.int .u64 (b.current:Int))∧V.cell? ⟨w.heap.size+1,2,none⟩=some (.slice B nb c2)):=
  fun V hV=>⟨(hb0.below hV).cell 0,(hb0.below hV).cell 1,(hb0.below hV).cell 2,(hb1.below hV).cell 0,(hb1.below hV).cell 1,(hb1.below hV).cell 2⟩
 have BD:Hid (Below W.heap.size W W.drew):=(Below.refl _ W).drew;obtain ⟨k0,k1,k2,k3,k4,k5⟩:=HC.out _ (Below.refl _ W);have HSD:=Lib.hid (HC.out _ BD.out);clear hW hwb hb0 hb1
 go_region_held3 (fun V=>V.cell? ⟨w.heap.size,0,none⟩=some (.int .u64 (a.promised:Int))∧V.cell? ⟨w.heap.size,1,none⟩=some (.int .u64 (a.current:Int))∧V.cell? ⟨w.heap.size,2,none⟩=some (.slice A na c)∧V.cell? ⟨w.heap.size+1,0,none⟩=some (.int .u64 (b.promised:Int))∧V.cell? ⟨w.heap.size+1,1,none⟩=some (.int .u64 (b.current:Int))∧V.cell? ⟨w.heap.size+1,2,none⟩=some (.slice B nb c2))
  (first|(with_reducible assumption)|(with_reducible exact HSD.out)|(with_reducible exact HS1.out)|(with_reducible exact HS2.out))
  (first
   |(go_at_call 159;(with_reducible refine (HRA.out _).mono ?_);rintro e w1 ⟨g1,rfl,hr1,hb1⟩;have HR1:=Lib.hid hr1;have HB1:=Lib.hid (BD.out.trans hb1);have HS1:=Lib.hid (HC.out _ HB1.out);clear hr1 hb1 HRA)
   |(go_at_call 159;(with_reducible refine (HRB.out _).mono ?_);rintro e w2 ⟨g2,rfl,hr2,hb2⟩;have HR2:=Lib.hid hr2;have HR12:=Lib.hid (HR1.out.below hb2);have HB2:=Lib.hid (HB1.out.trans (hb2.mono HB1.out.size));have HS2:=Lib.hid (HC.out _ HB2.out);clear hr2 hb2 HRB)
   |(go_at_call 158;(with_reducible refine (aMu _ _ _ _ _ _ _ _ HR12.out HR2.out (by omega)).mono ?_);rintro e w3 ⟨rfl,rfl⟩))
 go_wp2_with fail;go_ret;rw [HCK.out];exact ⟨rfl,HW.out.trans (HB2.out.mono HW.out.size)⟩
end Go.Proofs.YtgjmbbkcgillcaaGreat.Sto
namespace Go.Proofs.YtgjmbbkcgillcaaGreat.Sto
open Go.RowKit Disk Log
set_option maxRecDepth 8000 in
theorem aJh (P:Nat→Prop) (k:Kp) (A:Option Addr) (c p:Nat) (w:World) (h:LnS P w A k.lines.length k.lines) (hn:k.lines.length≤1000000) (hs:∀x∈k.lines,x.bytes.length≤100000000) (hp:1≤p) (hp2:p≤4096):
  Calls Tryz.prog 124 #[kpV k A c,.int .i64 (p:Int)] w fun e w'=>e=.returned (.bool (fits k p))∧Below w.heap.size w w':=by
 have HFT:Hid (fits k p=decide (64+aAj k.lines≤480*(p - 1))):=rfl;have hkl:∀j,aAj (k.lines.take j)≤1000000*100000016:=fun j=>by
  refine Nat.le_trans (aEx (n:=100000000) fun x hx=>hs x (List.mem_of_mem_take hx)) ?_;rw [List.length_take];exact Nat.mul_le_mul (by omega) (by omega)
 have HKL:=Lib.hid hkl;have H:=Lib.hid h;have HM:Hid (k.lines.length≤1000000):=hn;unfold kpV;generalize hls:k.lines=ls at*;have HLS:=Lib.hid hls;clear hkl h hn hs hls;generalize hn:ls.length=n at*;have HN:=Lib.hid hn;clear hn;go_enter Tryz.func124,Tryz.ntmps124
 go_wp2_with fail;go_loopw [5,7,11] (fun v _ i wr=>∃j:Nat,j≤n∧i=.int .i64 (j:Int)∧v=.int .i64 ((64+aAj (ls.take j):Nat):Int)∧Below w.heap.size w wr) (fun _ _ i _=>n - (intOf i).toNat)
 case atStart=>exact ⟨0,by omega,rfl,rfl,(Below.refl _ _).alloc (Nat.le_refl _) _⟩
 case round=>
  obtain ⟨j,hj,rfl,rfl,hbel⟩:=hrel;have HB:=Lib.hid hbel;clear hbel;by_cases hlt:j<n
  ·have hkl:j<ls.length:=by have:=HN.out;omega
   obtain ⟨b,o,B,m,c2,hA,-,he,hc,hmc,hr,-⟩:=(H.out.below HB.out).at_ j _ (List.getElem?_eq_getElem hkl);subst hA;have hk0:(0:Int)≤(j:Int):=Int.natCast_nonneg _;have hk1:(j:Int)<(n:Int):=by omega
   have hm:=hr.len;have hst:=aOh ls j hkl;have hub:=HKL.out (j+1);have HW:Hid (wrap64 ((j:Int)+1)=((j+1:Nat):Int)):=by
    have:=HM.out;show _=_;rw [IntWalk.wrap64_in _ (by omega)];omega
   have HV:Hid (wrap64 (16+(m:Int))=16+(m:Int)):=by
    show _=_;exact IntWalk.wrap64_in _ (by omega)
   have HV2:Hid (wrap64 (((64+aAj (ls.take j):Nat):Int)+(16+(m:Int)))=((64+aAj (ls.take (j+1)):Nat):Int)):=by
    show _=_;rw [IntWalk.wrap64_in _ (by omega)];omega
   have hb2:=HB.out.alloc (HB.out.size) (.cells #[.int .u64 ((ls[j]).epoch:Int),.slice B m c2] 65);have HB2:=Lib.hid hb2;clear hm hst hub hr hb2;generalize (64+aAj (ls.take j):Nat)=t at*;go_wp2_with fail;rw [HW.out,HV.out,HV2.out];exact ⟨⟨j+1,by omega,rfl,rfl,HB2.out⟩,by simp [intOf];omega⟩
  ·obtain rfl:j=n:=by omega
   have htk:ls.take j=ls:=List.take_of_length_le (by have:=HN.out;omega);rw [htk];have hub:=HKL.out j;rw [htk] at hub;have HD:Hid (decide (((64+aAj ls:Nat):Int)≤480*((p:Int) - 1))=fits k p):=by
    show _=_;rw [HFT.out]
    congr 1
    apply propext
    omega
   clear htk hub HFT;generalize (64+aAj ls:Nat)=t at*;go_wp2_with fail;go_ret;refine ⟨?_,HB.out⟩;rw [←HD.out];rfl
def aPg (ls:List Ln) (G:Ln→Bool) (w:World) (e:Ending) (w':World):Prop:=
 Below w.heap.size w w'∧((e=.returned (.tuple #[])∧∀x∈ls,lineB x=true∧G x=true)∨(e=thrown 1∧∃x∈ls,¬(lineB x=true∧G x=true)))
theorem aXv {ls:List Ln} {Q:Ln→Prop} {j:Nat} {x:Ln} (h:∀y∈ls.take j,Q y) (hj:ls[j]? =some x) (hx:Q x):∀y∈ls.take (j+1),Q y:=by
 intro y hy;have hjl:=(List.getElem?_eq_some_iff.1 hj).1;rw [←List.take_append_getElem hjl] at hy;rcases List.mem_append.1 hy with q|q
 ·exact h y q
 ·rw [List.mem_singleton.1 q,(List.getElem?_eq_some_iff.1 hj).2];exact hx
set_option maxRecDepth 8000 in
theorem aKg (P:Nat→Prop) (A:Option Addr) (n c F:Nat) (caps:Array Value) (ls:List Ln) (G:Ln→Bool) (w:World) (h:LnS P w A n ls) (hn:n≤1000000) (hs:∀x∈ls,x.bytes.length≤100000000)
  (hE:∀args w,(callFunc F args).run Tryz.prog w=.ok (.enter F args) w)
  (hG:∀V (x:Ln),x∈ls→Below w.heap.size w V→Calls Tryz.prog F (#[.int .u64 (x.epoch:Int)]++caps) V fun e w'=>e=.returned (.bool (G x))∧Below V.heap.size V w'):
  Calls Tryz.prog 144 #[.slice A n c,.func (.func F) #[] caps] w (aPg ls G w):=by
 have H:=Lib.hid h;have HM:Hid (n≤1000000):=hn;have HN:=Lib.hid h.len;have HS:=Lib.hid hs;have HG:=Lib.hid hG;clear h hn hs hG;go_enter Tryz.func144,Tryz.ntmps144
 go_wp2_with fail;go_loopw [5,8] (fun _ i wr=>∃j:Nat,j≤n∧i=.int .i64 (j:Int)∧Hid (∀x∈ls.take j,lineB x=true∧G x=true)∧Below w.heap.size w wr) (fun _ i _=>n - (intOf i).toNat)
 case atStart=>exact ⟨0,by omega,rfl,fun x hx=>by simp at hx,Below.refl _ _⟩
 case round=>
  obtain ⟨j,hj,rfl,HA,hbel⟩:=hrel;have HB:=Lib.hid hbel;clear hbel;by_cases hlt:j<n
  ·have hkl:j<ls.length:=by have:=HN.out;omega
   obtain ⟨x,hx⟩:∃x,ls[j]? =some x:=⟨_,List.getElem?_eq_getElem hkl⟩;obtain ⟨b,o,B,m,c2,hA,-,he,hc,hmc,hr,-⟩:=(H.out.below HB.out).at_ j _ hx;subst hA;have hk0:(0:Int)≤(j:Int):=Int.natCast_nonneg _;have hk1:(j:Int)<(n:Int):=by omega
   have hm:m≤100000000:=by
    have:=HS.out x (List.mem_of_getElem? hx);have:=hr.len;omega
   have HX:=Lib.hid hx;have HL:=Lib.hid hr.len;have HW:Hid (wrap64 ((j:Int)+1)=((j+1:Nat):Int)):=by
    have:=HM.out;show _=_;rw [IntWalk.wrap64_in _ (by omega)];omega
   have hmem:x∈ls:=List.mem_of_getElem? hx;have hb2:=HB.out.alloc HB.out.size (.cells #[.int .u64 (x.epoch:Int),.slice B m c2] 65);have HB2:=Lib.hid hb2;have hal:Bk (wr.alloc (.cells #[.int .u64 (x.epoch:Int),.slice B m c2] 65)) wr.heap.size 65 #[.int .u64 (x.epoch:Int),.slice B m c2]:=Bk.new wr _ _;have HAL:=Lib.hid hal;have HMEM:Hid (x∈ls):=hmem;have HLB:Hid (lineB x=true↔1≤x.epoch∧x.epoch≤281474976710656∧1≤m∧m≤4096):=by
    show _↔_;rw [aAi,hr.len];rfl
   clear hx hr hkl hb2 hmem hal HL;by_cases h1:(x.epoch:Int)<1
   ·go_wp2_with (go_at_call 117;(with_reducible refine (aAr _ _).mono ?_);rintro e _ ⟨rfl,rfl⟩)
    exact ⟨rfl,HB2.out,.inr ⟨rfl,x,HMEM.out,fun hg=>by have:=(HLB.out.1 hg.1).1;omega⟩⟩
   ·have h1':(1:Int)≤(x.epoch:Int):=by omega
    have h1b:((x.epoch:Int)<1)=False:=eq_false h1;clear h1;by_cases h2:(281474976710656:Int)<(x.epoch:Int)
    ·go_wp2_with (go_at_call 117;(with_reducible refine (aAr _ _).mono ?_);rintro e _ ⟨rfl,rfl⟩)
     exact ⟨rfl,HB2.out,.inr ⟨rfl,x,HMEM.out,fun hg=>by have:=(HLB.out.1 hg.1).2.1;omega⟩⟩
    ·have h2':(x.epoch:Int)≤281474976710656:=by omega
     clear h2;cases hgx:G x with
     |false=>
      have HGX:=Lib.hid hgx;have CG:Hid (∀V,Below w.heap.size w V→Calls Tryz.prog F (#[.int .u64 (x.epoch:Int)]++caps) V fun e w'=>e=.returned (.bool false)∧Below V.heap.size V w'):=fun V hV=>(HG.out V x HMEM.out hV).mono fun e w' ⟨q1,q2⟩=>⟨by rw [q1,HGX.out],q2⟩;clear hgx;go_wp2_with (first
       |(go_at_fn F;(with_reducible refine (CG.out _ HB2.out).mono ?_);rintro e w1 ⟨rfl,hb1⟩;have HB3:=Lib.hid (HB2.out.trans (hb1.mono HB2.out.size));clear hb1)
       |(go_at_call 117;(with_reducible refine (aAr _ _).mono ?_);rintro e _ ⟨rfl,rfl⟩))
      exact ⟨rfl,HB3.out,.inr ⟨rfl,x,HMEM.out,fun hg=>by rw [HGX.out] at hg;exact absurd hg.2 (by decide)⟩⟩
     |true=>
      have HGX:=Lib.hid hgx;have CG:Hid (∀V,Below w.heap.size w V→Calls Tryz.prog F (#[.int .u64 (x.epoch:Int)]++caps) V fun e w'=>e=.returned (.bool true)∧Below V.heap.size V w'):=fun V hV=>(HG.out V x HMEM.out hV).mono fun e w' ⟨q1,q2⟩=>⟨by rw [q1,HGX.out],q2⟩;clear hgx;have h2b:((281474976710656:Int)<(x.epoch:Int))=False:=eq_false (by omega);by_cases h3:(m:Int)<1
      ·go_wp2_with (first
        |(go_at_fn F;(with_reducible refine (CG.out _ HB2.out).mono ?_);rintro e w1 ⟨rfl,hb1⟩;have HB3:=Lib.hid (HB2.out.trans (hb1.mono HB2.out.size));have hc1:w1.cell? ⟨wr.heap.size,1,none⟩=some (.slice B m c2):=(HAL.out.below hb1).cell 1;clear hb1)
        |(go_at_call 117;(with_reducible refine (aAo _ _).mono ?_);rintro e _ ⟨rfl,rfl⟩)
        |(go_at_call 117;(with_reducible refine (aAr _ _).mono ?_);rintro e _ ⟨rfl,rfl⟩))
       exact ⟨rfl,HB3.out,.inr ⟨rfl,x,HMEM.out,fun hg=>by have:=(HLB.out.1 hg.1).2.2.1;omega⟩⟩
      ·have h3b:((m:Int)<1)=False:=eq_false h3;have h3':(1:Int)≤(m:Int):=by omega
       clear h3;by_cases h4:(4096:Int)<(m:Int)
       ·go_wp2_with (first
        |(go_at_fn F;(with_reducible refine (CG.out _ HB2.out).mono ?_);rintro e w1 ⟨rfl,hb1⟩;have HB3:=Lib.hid (HB2.out.trans (hb1.mono HB2.out.size));have hc1:w1.cell? ⟨wr.heap.size,1,none⟩=some (.slice B m c2):=(HAL.out.below hb1).cell 1;clear hb1)
        |(go_at_call 117;(with_reducible refine (aAo _ _).mono ?_);rintro e _ ⟨rfl,rfl⟩)
        |(go_at_call 117;(with_reducible refine (aAr _ _).mono ?_);rintro e _ ⟨rfl,rfl⟩))
        exact ⟨rfl,HB3.out,.inr ⟨rfl,x,HMEM.out,fun hg=>by have:=(HLB.out.1 hg.1).2.2.2;omega⟩⟩
       ·have h4b:((4096:Int)<(m:Int))=False:=eq_false h4;have h4':(m:Int)≤4096:=by omega
        have HAT:Hid (∀y∈ls.take (j+1),lineB y=true∧G y=true):=aXv HA.out HX.out ⟨HLB.out.2 ⟨by omega,by omega,by omega,by omega⟩,HGX.out⟩;clear h4;go_wp2_with (first
        |(go_at_fn F;(with_reducible refine (CG.out _ HB2.out).mono ?_);rintro e w1 ⟨rfl,hb1⟩;have HB3:=Lib.hid (HB2.out.trans (hb1.mono HB2.out.size));have hc1:w1.cell? ⟨wr.heap.size,1,none⟩=some (.slice B m c2):=(HAL.out.below hb1).cell 1;clear hb1)
        |(go_at_call 117;(with_reducible refine (aAo _ _).mono ?_);rintro e _ ⟨rfl,rfl⟩)
        |(go_at_call 117;(with_reducible refine (aAr _ _).mono ?_);rintro e _ ⟨rfl,rfl⟩))
        rw [HW.out];exact ⟨⟨j+1,by omega,rfl,HAT,HB3.out⟩,by simp [intOf];omega⟩
  ·obtain rfl:j=n:=by omega
   have htk:ls.take j=ls:=List.take_of_length_le (by have:=HN.out;omega);have HA2:=HA.out;rw [htk] at HA2;have HA3:=Lib.hid HA2;clear HA2 htk;go_wp2_with fail
   go_end0
   exact ⟨HB.out,.inl ⟨rfl,HA3.out⟩⟩
end Go.Proofs.YtgjmbbkcgillcaaGreat.Sto
namespace Go.Proofs.YtgjmbbkcgillcaaGreat.Sto
open Go.RowKit Disk Log
def numsT (xs:List Nat):List UInt8:=xs.flatMap (be 8)
theorem aSt (xs:List Nat) (j:Nat) (h:j<xs.length):numsT (xs.take (j+1))=numsT (xs.take j)++be 8 xs[j]:=by
 unfold numsT;rw [←List.take_append_getElem h,List.flatMap_append];simp
theorem aFw (xs:List Nat):(numsT xs).length=8*xs.length:=by
 unfold numsT
 induction xs with
 |nil=>rfl
 |cons x xs ih=>rw [List.flatMap_cons,List.length_append,ih,aA1,List.length_cons];omega
def RelLay (w:World) (bs:List UInt8) (v:Value) (wr:World):Prop:=
 ∃A n c,v=.slice A n c∧n=bs.length∧n≤c∧wr.ownsRow w.heap.size 5 1 (.slice A n c) n (bs.map U)∧Below w.heap.size w wr
theorem RelLay.of {w wr w2:World} {bs bs2:List UInt8} {A:Option Addr} {n c:Nat} (hb:Below w.heap.size w wr) (h1:n=bs2.length) (h2:n≤c) (h3:w2.ownsRow wr.heap.size 5 1 (.slice A n c) n (bs2.map U)) (h4:Below wr.heap.size wr w2) (he:bs2=bs):RelLay w bs (.slice A n c) w2:=by
 subst he;exact ⟨A,n,c,rfl,h1,h2,aAh h3 hb.size,hb.trans (h4.mono hb.size)⟩
set_option maxRecDepth 8000 in
theorem aJd (kd:Nat) (A:Option Addr) (n c:Nat) (xs:List Nat) (w:World) (hk:kd<256) (hx:RdV w A n (xs.map fun (x:Nat)=>numV (x:Int))) (hlt:∀x∈xs,x<18446744073709551616) (hn:n≤1000):
  Calls Tryz.prog 76 #[.int .u8 (kd:Int),.slice A n c] w (Put w (be 1 kd++numsT xs)):=by
 have HX:=Lib.hid hx;have HLT:=Lib.hid hlt;have HN:Hid (xs.length=n):=by have:=hx.len;rw [List.length_map] at this;exact this
 have CB:=Lib.hid (aRp none 0 0 kd kd [] w (Rd.nil_ _ _) rfl hk (by omega));clear hx hlt;go_enter Tryz.func76,Tryz.ntmps76
 go_wp2_with fail;refine CB.out.mono ?_;rintro e w1 ⟨A1,n1,c1,rfl,q1,q2,q3,q4⟩;have HR:Hid (RelLay w (be 1 kd++numsT (xs.take 0)) (.slice A1 n1 c1) w1):=RelLay.of (Below.refl _ _) q1 q2 q3 q4 (by simp [numsT]);clear q1 q2 q3 q4;go_wp2_with fail;go_loopw [5,7,12] (fun v _ i wr=>∃j:Nat,j≤n∧i=.int .i64 (j:Int)∧RelLay w (be 1 kd++numsT (xs.take j)) v wr) (fun _ _ i _=>n - (intOf i).toNat)
 case atStart=>exact ⟨0,by omega,rfl,HR.out⟩
 case round=>
  obtain ⟨j,hj,rfl,A2,n2,c2,rfl,hn2,hc2,hown,hbel⟩:=hrel;have HO:=Lib.hid hown;have HB:=Lib.hid hbel;have HN2:=Lib.hid hn2;clear hown hbel hn2;by_cases hlt:j<n
  ·have hjl:j<xs.length:=by have:=HN.out;omega
   obtain ⟨ad,rfl,hc⟩:=HX.out.cells (by omega);have hcell:=hc j (numV ((xs[j]:Nat):Int)) (by rw [List.getElem?_map,List.getElem?_eq_getElem hjl];rfl);have hcell2:=(HB.out.cell (World.block_lt_of_cell? w _ hcell)).trans hcell;have HT:=Lib.hid (aSt xs j hjl);have hln:=aFw (xs.take j);rw [List.length_take] at hln;have hn2b:n2≤10000:=by
    have:=HN2.out;rw [List.length_append,aA1,hln] at this;omega
   have CU2:=Lib.hid (aDy A2 n2 c2 xs[j] ((xs[j]:Nat):Int) _ wr (Rd.of_own HO.out).1 rfl (HLT.out _ (List.getElem_mem hjl)) (by omega));have HW:Hid (wrap64 ((j:Int)+1)=((j+1:Nat):Int)):=by
    show _=_;rw [IntWalk.wrap64_in _ (by omega)];omega
   unfold numV at hcell2;clear hcell hln hc;generalize xs[j]=x at*;have hk0:(0:Int)≤(j:Int):=Int.natCast_nonneg _;have hk1:(j:Int)<(n:Int):=by omega
   go_wp2_with fail;refine CU2.out.mono ?_;rintro e w3 ⟨A3,n3,c3,rfl,q1,q2,q3,q4⟩;have HR3:Hid (RelLay w (be 1 kd++numsT (xs.take (j+1))) (.slice A3 n3 c3) w3):=RelLay.of HB.out q1 q2 q3 q4 (by rw [HT.out,List.append_assoc]);clear q1 q2 q3 q4;go_wp2_with fail;exact ⟨⟨j+1,by omega,rfl,HR3.out⟩,by simp [intOf];omega⟩
  ·obtain rfl:j=n:=by omega
   have htk:xs.take j=xs:=List.take_of_length_le (by have:=HN.out;omega);rw [htk] at HO HN2;go_wp2_with fail;go_ret;exact ⟨A2,n2,c2,rfl,HN2.out,hc2,HO.out,HB.out⟩
theorem aMy (ls:List Ln) (j:Nat) (h:j<ls.length):(ls.take (j+1)).flatMap lineT=(ls.take j).flatMap lineT++(be 8 ls[j].epoch++(be 4 ls[j].bytes.length++ls[j].bytes)):=by
 rw [←List.take_append_getElem h,List.flatMap_append];simp [lineT]
theorem aSj (ls:List Ln) (j:Nat):((ls.take j).flatMap lineT).length≤aAj ls:=by
 have h1:=aHf (ls.take j);have h2:aAj ls=aAj (ls.take j)+aAj (ls.drop j):=by rw [←aDd,List.take_append_drop]
 omega
set_option maxRecDepth 8000 in
theorem aEf (P:Nat→Prop) (A A2:Option Addr) (n c m c2:Nat) (bs:List UInt8) (ls:List Ln) (w:World) (hr:Rd w A n bs) (h:LnS P w A2 m ls) (hn:n≤1000000) (hm:m≤300000) (hs:∀x∈ls,x.bytes.length≤100000000∧x.epoch<18446744073709551616):
  Calls Tryz.prog 108 #[.slice A n c,.slice A2 m c2] w (Put w (bs++linesT ls)):=by
 obtain ⟨i0,hi,hz0,hz1,hz2⟩:=info_parts aBh;have HI:=Lib.hid hi;have HZ0:=Lib.hid hz0;have HZ1:=Lib.hid hz1;have HZ2:=Lib.hid hz2;clear hi hz0 hz1 hz2;have H:=Lib.hid h;have HN:=Lib.hid h.len;have HS:=Lib.hid hs;have HNB:Hid (n=bs.length):=hr.len.symm;have HLS:Hid (aAj ls≤300000*100000016):=by
  refine Nat.le_trans (aEx (n:=100000000) fun x hx=>(hs x hx).1) ?_;have:=h.len;exact Nat.mul_le_mul (by omega) (by omega)
 have hcv:IntKind.u64.wrap (m:Int)=(m:Int):=IntWalk.u64_in _ (by omega);have CU0:=Lib.hid (aDy A n c m (m:Int) bs w hr rfl (by omega) (by omega));clear hr h hs;go_enter Tryz.func108,Tryz.ntmps108
 go_wp2_with fail;refine CU0.out.mono ?_;rintro e w1 ⟨A1,n1,c1,rfl,q1,q2,q3,q4⟩;have HR:Hid (RelLay w (bs++be 8 m++(ls.take 0).flatMap lineT) (.slice A1 n1 c1) w1):=RelLay.of (Below.refl _ _) q1 q2 q3 q4 (by simp);clear q1 q2 q3 q4 CU0;go_wp2_with fail;go_loopw [5,7,15] (fun v _ i wr=>∃j:Nat,j≤m∧i=.int .i64 (j:Int)∧RelLay w (bs++be 8 m++(ls.take j).flatMap lineT) v wr) (fun _ _ i _=>m - (intOf i).toNat)
 case atStart=>exact ⟨0,by omega,rfl,HR.out⟩
 case round=>
  obtain ⟨j,hj,rfl,A3,n3,c3,rfl,hn3,hc3,hown,hbel⟩:=hrel;have HO:=Lib.hid hown;have HB:=Lib.hid hbel;have HN3:=Lib.hid hn3;clear hown hbel hn3;by_cases hlt:j<m
  ·have hjl:j<ls.length:=by have:=HN.out;omega
   obtain ⟨b,o,B,k,c4,hA,-,he,hc,hkc,hrd,-⟩:=(H.out.below HB.out).at_ j _ (List.getElem?_eq_getElem hjl);subst hA;have hxb:=HS.out _ (List.getElem_mem hjl);have HT:=Lib.hid (aMy ls j hjl);have hle:=aSj ls j;have HKN:Hid (k=(ls[j]).bytes.length):=hrd.len.symm;have hkk:k≤100000000:=by have:=HKN.out;omega
   have hn3b:n3≤40000000000000:=by
    have:=HN3.out;have:=HLS.out;have:=HNB.out;rw [List.length_append,List.length_append,aA1] at*;omega
   have HW:Hid (wrap64 ((j:Int)+1)=((j+1:Nat):Int)):=by
    show _=_;rw [IntWalk.wrap64_in _ (by omega)];omega
   generalize ls[j]=x at*;have hk0:(0:Int)≤(j:Int):=Int.natCast_nonneg _;have hk1:(j:Int)<(m:Int):=by omega
   have HRD:=Lib.hid hrd;have hxe:=hxb.2;clear hle hrd hxb;go_wp2_with fail;obtain ⟨W,hW⟩:∃W,W=wr.alloc (.cells #[.int .u64 (x.epoch:Int),.slice B k c4] 65):=⟨_,rfl⟩;have hwb:Below wr.heap.size wr W:=by rw [hW];exact (Below.refl _ _).alloc (Nat.le_refl _) _
   have hbk:Bk W wr.heap.size 65 #[.int .u64 (x.epoch:Int),.slice B k c4]:=by rw [hW];exact Bk.new wr _ _
   rw [←hW];have HWB:=Lib.hid hwb;have HBK:=Lib.hid hbk;have BD:Hid (Below W.heap.size W W.drew):=(Below.refl _ W).drew;have k0:W.cell? ⟨wr.heap.size,0,none⟩=some (.int .u64 (x.epoch:Int)):=hbk.cell 0;have k1:W.cell? ⟨wr.heap.size,1,none⟩=some (.slice B k c4):=hbk.cell 1;have HC:Hid (∀V,Below W.heap.size W V→V.cell? ⟨wr.heap.size,0,none⟩=some (.int .u64 (x.epoch:Int))∧V.cell? ⟨wr.heap.size,1,none⟩=some (.slice B k c4)):=fun V hV=>⟨(HBK.out.below hV).cell 0,(HBK.out.below hV).cell 1⟩;have HSD:=Lib.hid (HC.out _ BD.out);have CU:=Lib.hid (aDy none 0 0 x.epoch (x.epoch:Int) [] W.drew (Rd.nil_ _ _) rfl hxe (by omega));have HNE:Hid ((Value.slice A3 n3 c3).ownBlock≠some wr.heap.size):=fun e=>by
    have:=(HO.out.lt _ e).2;omega
   have HWS:Hid (wr.heap.size<W.heap.size):=HBK.out.lt;have HBS:Hid (w.heap.size≤wr.heap.size):=HB.out.size;have CT:Hid (∀V A6 n6 c6,Below W.heap.size W V→Rd V A6 n6 ([]++be 8 x.epoch)→Calls Tryz.prog 121 #[.slice A6 n6 c6,.slice B k c4] V (Put V (([]++be 8 x.epoch)++(be 4 k++x.bytes)))):=fun V A6 n6 c6 hV h6=>aLo A6 B n6 c6 k c4 _ _ V h6 ((HRD.out.below HWB.out).below hV) (by have:=h6.len;rw [List.nil_append,aA1] at this;omega) (by omega);clear hW hwb hbk he hc hxe
   go_region_held3 (fun V=>V.cell? ⟨wr.heap.size,0,none⟩=some (.int .u64 (x.epoch:Int))∧V.cell? ⟨wr.heap.size,1,none⟩=some (.slice B k c4))
    (first|(with_reducible assumption)|(with_reducible exact HSD.out)|(with_reducible exact HS1.out)|(with_reducible exact HS2.out)|(with_reducible exact HS5.out))
    (first
     |(go_at_call 120;(with_reducible refine CU.out.mono ?_);rintro e w5 ⟨A6,n6,c6,rfl,q1,q2,q3,q4⟩;have HR6:=Lib.hid (Rd.of_own q3).1;have HB6:=Lib.hid (BD.out.trans q4);have HS1:=Lib.hid (HC.out _ HB6.out);clear q1 q2 q3 q4)
     |(go_at_call 121;(with_reducible refine (CT.out _ _ _ _ HB6.out HR6.out).mono ?_);rintro e w7 ⟨A7,n7,c7,rfl,q1,q2,q3,q4⟩;have HN7:=Lib.hid q1;have hn7:12≤n7:=(by rw [q1];simp only [List.length_append,aA1];omega);have hn7b:n7≤100000100:=(by have h1:=q1;have h2:=HKN.out;simp only [List.length_append,aA1,List.length_nil] at h1;omega);obtain ⟨g7,cap7,hv7,-,hg7⟩:=World.ownsRow.form q3 (by omega);(injection hv7 with hA7 hnn hcap7);subst hA7;subst hcap7;have HO7:=Lib.hid q3;have HNW:=Lib.hid (q3.cells (g:=g7) rfl);have HB7:=Lib.hid (HB6.out.trans (q4.mono HB6.out.size));have HS2:=Lib.hid (HC.out _ HB7.out);have HW7:=Lib.hid (HWB.out.trans (HB7.out.mono HWB.out.size));have HOW:=Lib.hid (HO.out.kept (aA7 HW7.out none) (Classical.em _));have HSZ:Hid (W.heap.size≤w7.heap.size):=HB7.out.size;clear q1 q2 q3 q4 hnn)
     |((refine step_append_lies _ (by rfl) _ _ _ (by rfl) w.heap.size 5 i0 _ 1 1 aAt HI.out HZ0.out HZ1.out HZ2.out rfl (by omega) (.slice A3 n3 c3) n3 _ (by rfl) HOW.out ⟨g7,0,none⟩ n7 c7 _ (by rfl) (by rw [List.length_map,Nat.mul_one];exact HN7.out.symm) HNW.out (aM9 _) (by omega) (by unfold maxLen;omega) (by omega) (by have:=HSZ.out;have:=HWS.out;have:=HBS.out;omega) w7.heap.size (by simp) ?_);intro gg cap w8 hown8 hgr8 hat8 hlt8;have HO8:=Lib.hid hown8;have HG8:=Lib.hid hgr8;have HS5:Hid (w8.cell? ⟨wr.heap.size,0,none⟩=some (.int .u64 (x.epoch:Int))∧w8.cell? ⟨wr.heap.size,1,none⟩=some (.slice B k c4)):=⟨(HG8.out.cell_far _ (by have:=HSZ.out;have:=HWS.out;simp;omega) (Ne.symm HNE.out)).trans HS2.out.1,(HG8.out.cell_far _ (by have:=HSZ.out;have:=HWS.out;simp;omega) (Ne.symm HNE.out)).trans HS2.out.2⟩;clear hown8 hgr8 hat8 hlt8))
   have HE8:Hid (bs++be 8 m++(ls.take j).flatMap lineT++([]++be 8 x.epoch++(be 4 k++x.bytes))=bs++be 8 m++(ls.take (j+1)).flatMap lineT):=by
    show _=_;rw [HT.out,HKN.out];simp only [List.nil_append,List.append_assoc]
   have HR8:Hid (RelLay w (bs++be 8 m++(ls.take (j+1)).flatMap lineT) (.slice (some ⟨gg,0,none⟩) (n3+n7) cap) w8):=by
    rw [←HE8.out];have ho:=HO8.out;rw [←List.map_append] at ho;exact ⟨_,_,_,rfl,by rw [List.length_append,←HN3.out,←HN7.out],aRb ho,ho,(HB.out.trans (HW7.out.mono HB.out.size)).grown HG8.out (Nat.le_trans HB.out.size HW7.out.size) (fun g hg=>(HO.out.lt g hg).1)⟩
   go_wp2_with fail;exact ⟨⟨j+1,by omega,rfl,HR8.out⟩,by simp [intOf];omega⟩
  ·obtain rfl:j=m:=by omega
   have htk:ls.take j=ls:=List.take_of_length_le (by have:=HN.out;omega);rw [htk] at HO HN3;have HE:Hid (bs++be 8 j++ls.flatMap lineT=bs++linesT ls):=by
    show _=_;unfold linesT;rw [HN.out,List.append_assoc]
   rw [HE.out] at HO HN3;go_wp2_with fail;go_ret;exact ⟨A3,n3,c3,rfl,HN3.out,hc3,HO.out,HB.out⟩
end Go.Proofs.YtgjmbbkcgillcaaGreat.Sto
namespace Go.Proofs.YtgjmbbkcgillcaaGreat.Sto
open Go.RowKit Disk Log
structure LnV (P:Nat→Prop) (w:World) (vs:List Value) (ls:List Ln):Prop where
 len:vs.length=ls.length
 at_:∀(j:Nat) (x:Ln),ls[j]? =some x→∃B m c,vs[j]? =some (.slice B m c)∧m≤c∧Rd w B m x.bytes∧∀b,B=some b→1≤m→P b.block
theorem LnV.one {P:Nat→Prop} {w:World} {vs:List Value} {ls:List Ln} (h:LnV P w vs ls):∀u∈lnsC ls vs,u.oneCell'=true:=by
 suffices hh:∀(ls:List Ln) (vs:List Value),(∀v∈vs,v.oneCell'=true)→∀u∈lnsC ls vs,u.oneCell'=true by
  refine hh ls vs fun v hv=>?_;obtain ⟨j,hj,rfl⟩:=List.mem_iff_getElem.1 hv;obtain ⟨B,m,c,h1,_⟩:=h.at_ j (ls[j]'(by rw [←h.len];exact hj)) (List.getElem?_eq_getElem _);rw [List.getElem?_eq_getElem hj] at h1;injection h1 with h1;rw [h1];rfl
 intro ls
 induction ls with
 |nil=>intro vs _ u hu;cases hu
 |cons x ls ih=>
  intro vs hv u hu;cases vs with
  |nil=>cases hu
  |cons v vs=>
   rw [lnsC] at hu;rcases List.mem_append.1 hu with q|q
   ·exact bA9 x (hv v List.mem_cons_self) u q
   ·exact ih vs (fun v hv2=>hv v (List.mem_cons_of_mem _ hv2)) u q
theorem LnV.out {P X:Nat→Prop} {w w':World} {vs:List Value} {ls:List Ln} (h:LnV P w vs ls) (ho:Out X w w') (hx:∀k,P k→¬X k):LnV P w' vs ls:=
 ⟨h.len,fun j x hj=>by
  obtain ⟨B,m,c,h1,h2,h3,h4⟩:=h.at_ j x hj;exact ⟨B,m,c,h1,h2,aHd h3 ho (fun a ha h0=>hx _ (h4 a ha h0)),h4⟩⟩
theorem LnV.below {P:Nat→Prop} {w w':World} {vs:List Value} {ls:List Ln} (h:LnV P w vs ls) (hb:Below w.heap.size w w'):LnV P w' vs ls:=
 h.out (X:=fun _=>False) (Out.of_below hb) fun _ _ q=>q
theorem LnV.append {P Q:Nat→Prop} {w:World} {vs us:List Value} {ls ms:List Ln} (h:LnV P w vs ls) (k:LnV Q w us ms):LnV (fun b=>P b∨Q b) w (vs++us) (ls++ms):=
 ⟨by rw [List.length_append,List.length_append,h.len,k.len],fun j x hj=>by
  rcases Nat.lt_or_ge j ls.length with hl|hl
  ·rw [List.getElem?_append_left hl] at hj;obtain ⟨B,m,c,h1,h2,h3,h4⟩:=h.at_ j x hj;exact ⟨B,m,c,by rw [List.getElem?_append_left (by rw [h.len];exact hl)];exact h1,h2,h3,fun b hb h0=>.inl (h4 b hb h0)⟩
  ·rw [List.getElem?_append_right hl] at hj;obtain ⟨B,m,c,h1,h2,h3,h4⟩:=k.at_ _ x hj;exact ⟨B,m,c,by rw [List.getElem?_append_right (by rw [h.len];exact hl),h.len];exact h1,h2,h3,fun b hb h0=>.inr (h4 b hb h0)⟩⟩
theorem LnS.vals {P:Nat→Prop} {w:World} {A:Option Addr} {n:Nat} {ls:List Ln} (h:LnS P w A n ls):∃vs,LnV P w vs ls∧∀ad,A=some ad→∀j u,(lnsC ls vs)[j]? =some u→w.cell? (ad.add j)=some u:=by
 have hch:∀j:Nat,∃v:Value,∀x,ls[j]? =some x→∃b o B m c,v=.slice B m c∧A=some ⟨b,o,none⟩∧w.cell? ⟨b,o+j*2,none⟩=some (.int .u64 (x.epoch:Int))∧w.cell? ⟨b,o+j*2+1,none⟩=some (.slice B m c)∧m≤c∧Rd w B m x.bytes∧∀b,B=some b→1≤m→P b.block:=by
  intro j;cases hj:ls[j]? with
  |none=>exact ⟨.slice none 0 0,fun x hx=>by cases hx⟩
  |some x=>
   obtain ⟨b,o,B,m,c,h1,_,h3,h4,h5,h6,h7⟩:=h.at_ j x hj;exact ⟨.slice B m c,fun y hy=>by injection hy with hy;subst hy;exact ⟨b,o,B,m,c,rfl,h1,h3,h4,h5,h6,h7⟩⟩
 obtain ⟨f,hf⟩:∃f:Nat→Value,∀j x,ls[j]? =some x→∃b o B m c,f j=.slice B m c∧A=some ⟨b,o,none⟩∧w.cell? ⟨b,o+j*2,none⟩=some (.int .u64 (x.epoch:Int))∧w.cell? ⟨b,o+j*2+1,none⟩=some (.slice B m c)∧m≤c∧Rd w B m x.bytes∧∀b,B=some b→1≤m→P b.block:=
  ⟨fun j=>Classical.choose (hch j),fun j=>Classical.choose_spec (hch j)⟩
 have hget:∀j,j<ls.length→((List.range ls.length).map f)[j]? =some (f j):=fun j hj=>by
  rw [List.getElem?_map,List.getElem?_range hj];rfl
 refine ⟨(List.range ls.length).map f,⟨by simp,fun j x hj=>?_⟩,fun ad hA i u hu=>?_⟩
 ·obtain ⟨b,o,B,m,c,h1,_,_,_,h5,h6,h7⟩:=hf j x hj;exact ⟨B,m,c,by rw [hget j (List.getElem?_eq_some_iff.1 hj).1,h1],h5,h6,h7⟩
 ·have hil:i<2*ls.length:=by
   have:=(List.getElem?_eq_some_iff.1 hu).1;rwa [aD3 _ _ (by simp)] at this
  have hjl:i / 2<ls.length:=by omega
  obtain ⟨b,o,B,m,c,h1,h2,h3,h4,_⟩:=hf (i / 2) _ (List.getElem?_eq_getElem hjl);have hg:=aF1 ls ((List.range ls.length).map f) (i / 2) (i % 2) _ _ (List.getElem?_eq_getElem hjl) (hget _ hjl) (by omega);rw [show 2*(i / 2)+i % 2=i from by omega,hu] at hg;rw [hA] at h2;injection h2 with h2;subst h2;have hadd:((⟨b,o,none⟩:Addr).add i)=⟨b,o+i,none⟩:=by unfold Addr.add;split<;>simp_all
  rw [hadd];rcases Nat.mod_two_eq_zero_or_one i with h0|h0
  ·rw [h0] at hg;injection hg with hg;rw [hg,show o+i=o+i / 2*2 from by omega];exact h3
  ·rw [h0] at hg;injection hg with hg;rw [hg,show o+i=o+i / 2*2+1 from by omega,h1];exact h4
theorem aS5 {P:Nat→Prop} {w:World} {base:Nat} {A:Option Addr} {c:Nat} {ls:List Ln} {vs:List Value} (h:w.ownsRow base 65 2 (.slice A ls.length c) ls.length (lnsC ls vs)) (hv:LnV P w vs ls):LnS (fun b=>P b∨base≤b) w A ls.length ls:=by
 refine ⟨rfl,fun j x hj=>?_⟩;obtain ⟨B,m,c2,h1,h2,h3,h4⟩:=hv.at_ j x hj;have g0:=aF1 ls vs j 0 x _ hj h1 (by omega);have g1:=aF1 ls vs j 1 x _ hj h1 (by omega);have hjl:=(List.getElem?_eq_some_iff.1 hj).1;rcases h.2 with ⟨_,h0⟩|⟨g,cap,cur,e,hg,hh,_⟩
 ·omega
 ·injection e with e;subst e;refine ⟨g,0,B,m,c2,rfl,.inr hg,?_,?_,h2,h3,fun b hb h0=>.inl (h4 b hb h0)⟩
  ·have:=h.cells (g:=g) rfl _ _ g0;rw [aBj] at this;rw [show 0+j*2=2*j+0 from by omega];exact this
  ·have:=h.cells (g:=g) rfl _ _ g1;rw [aBj] at this;rw [show 0+j*2+1=2*j+1 from by omega];exact this
theorem aN7 {P:Program} {w w':World} {o:Oper} {a:Act} {K:Act→World→Prop} {Q:Exit→Act→World→Prop} (s x:Operand) (t:TypeId) (ho:o.op=.call {callee:=.builtin .append,args:=#[s,x],argTypes:=#[t,t]}) {v u r:Value} (hs:a.eval s=v) (hx:a.eval x=u) (hr:(Builtin.append_ #[t,t] o.type #[v,u]).run P w=.ok r w') (h:K (a.put o.dst r) w'):o.wp P a w K Q:=by
 unfold Oper.wp execOp;simp only [ho,resolve,invoke,builtin,Sem.run_bind,Sem.run_pure,Result.andThen_ok,List.map_toArray,List.map_cons,List.map_nil,hs,hx,hr];exact h
end Go.Proofs.YtgjmbbkcgillcaaGreat.Sto
namespace Go.Proofs.YtgjmbbkcgillcaaGreat.Sto
open Go.RowKit Disk Log
def aQg (n:Nat) (w:World) (e:Ending) (w':World):Prop:=
 ∃cap,e=.returned (.slice (some ⟨w.heap.size,0,none⟩) 0 cap)∧n≤cap∧w'.ownsRow w.heap.size 65 2 (.slice (some ⟨w.heap.size,0,none⟩) 0 cap) 0 []∧Below w.heap.size w w'
set_option maxRecDepth 8000 in
theorem aY9 (n:Nat) (w:World) (h1:1≤n) (h2:n≤1000000):
  Calls Tryz.prog 169 #[.slice none 0 0,.int .i64 (n:Int)] w (aQg n w):=by
 obtain ⟨i0,hi,hz0,hz1,hz2⟩:=info_parts aEb;have hrun:=Lib.run_append_nil_zeros (P:=Tryz.prog) w 34 3 34 65 i0 _ .i64 .i64 aEj (by kernel_rfl) hi hz0 n (by omega) (by omega) (by omega) (by rw [hz2];omega);have hge:=grownCap_ge w n 0 65;have hle:=grownCap_le_maxLen w n 0 65 (by unfold maxLen;omega);generalize grownCap w n 0 65=cap at*;obtain ⟨cs,hcs⟩:∃cs,cs=Builtin.zeroCells (Value.agg #[.int .u64 0,.slice none 0 0]).cells n++Builtin.zeroCells (Value.agg #[.int .u64 0,.slice none 0 0]).cells (cap - n):=⟨_,rfl⟩;have hsz:cs.size=cap*2:=by
  rw [hcs,Array.size_append,size_zeroCells,size_zeroCells];show n*2+(cap - n)*2=cap*2;omega
 rw [←hcs] at hrun;have HR:=Lib.hid hrun;have hown:(w.drew.alloc (.cells cs 65)).ownsRow w.heap.size 65 2 (.slice (some ⟨w.heap.size,0,none⟩) 0 cap) 0 []:=
  ⟨rfl,.inr ⟨w.heap.size,cap,cs,rfl,Nat.le_refl _,Bk.new w.drew _ _,Nat.zero_le _,hle,hsz,rfl⟩⟩
 have HO:=Lib.hid hown;have HB:Hid (Below w.heap.size w (w.drew.alloc (.cells cs 65))):=((Below.refl _ w).drew).alloc (Nat.le_refl _) _;have HG:Hid (n≤cap):=hge;have hn0:(0:Int)<(n:Int):=by omega
 have hn1:((n:Int)<0)=False:=eq_false (by omega);clear hrun hown hcs hsz hge hle hi hz0 hz1 hz2;go_enter Tryz.func169,Tryz.ntmps169
 go_wp2_with (at_builtin;refine Lib.wpList_append_run _ rfl _ _ _ _ rfl _ _ rfl rfl _ _ HR.out ?_)
 go_ret;exact ⟨cap,rfl,HG.out,HO.out,HB.out⟩
def aKf (P Q:Nat→Prop) (ls ms:List Ln) (w:World) (e:Ending) (w':World):Prop:=
 ∃A c,e=.returned (.slice A (ls++ms).length c)∧(ls++ms).length≤c∧A≠none∧LnS (fun b=>(P b∨Q b)∨w.heap.size≤b) w' A (ls++ms).length (ls++ms)∧Below w.heap.size w w'
set_option maxRecDepth 8000 in
theorem aRy (P Q:Nat→Prop) (A1 A2:Option Addr) (c1 c2 g:Nat) (ls ms:List Ln) (w:World) (hb:Bk w g 34 #[.slice A1 ls.length c1,.slice A2 ms.length c2]) (h1:LnS P w A1 ls.length ls) (h2:LnS Q w A2 ms.length ms) (hn1:A1=none→c1=0) (hn2:A2=none→c2=0) (hl1:ls.length≤300000) (hl2:ms.length≤300000) (hpos:1≤ms.length):
  Calls Tryz.prog 146 #[.slice (some ⟨g,0,none⟩) 2 2] w (aKf P Q ls ms w):=by
 obtain ⟨vs,hv1,hc1⟩:=h1.vals;obtain ⟨us,hv2,hc2⟩:=h2.vals;obtain ⟨i0,hi,hz0,hz1,hz2⟩:=info_parts aEb;have HI:=Lib.hid hi;have HZ1:=Lib.hid hz1;have HV1:=Lib.hid hv1;have HV2:=Lib.hid hv2;have HC1:=Lib.hid hc1;have HC2:=Lib.hid hc2;have HL1:Hid ((lnsC ls vs).length=ls.length*2):=by
  show _=_;rw [aD3 _ _ hv1.len.symm];omega
 have HL2:Hid ((lnsC ms us).length=ms.length*2):=by
  show _=_;rw [aD3 _ _ hv2.len.symm];omega
 have HA1:Hid (A1=none→ls.length=0∧c1=0):=fun e=>by
  refine ⟨?_,hn1 e⟩;rcases Nat.eq_zero_or_pos ls.length with h|h
  ·exact h
  ·obtain ⟨_,_,_,_,_,q,_⟩:=h1.at_ 0 _ (List.getElem?_eq_getElem h);rw [e] at q;cases q
 have HA2:Hid (A2=none→ms.length=0∧c2=0):=fun e=>by
  refine ⟨?_,hn2 e⟩;obtain ⟨_,_,_,_,_,q,_⟩:=h2.at_ 0 _ (List.getElem?_eq_getElem hpos);rw [e] at q;cases q
 have HAP:Hid ((ls++ms).length=ls.length+ms.length):=List.length_append;have HAC:Hid (lnsC (ls++ms) (vs++us)=lnsC ls vs++lnsC ms us):=aFm _ _ _ _ hv1.len.symm;have HB:=Lib.hid hb;clear hi hz0 hz1 hz2 hv1 hv2 hc1 hc2 h1 h2 hn1 hn2;obtain ⟨n1,hn1⟩:∃n1,n1=ls.length:=⟨_,rfl⟩;obtain ⟨n2,hn2⟩:∃n2,n2=ms.length:=⟨_,rfl⟩;have HN1:=Lib.hid hn1;have HN2:=Lib.hid hn2;rw [←hn1] at hb HL1 HA1 HAP hl1;rw [←hn2] at hb HL2 HA2 HAP hl2 hpos;have k0:w.cell? ⟨g,0,none⟩=some (.slice A1 n1 c1):=hb.cell 0;have k1:w.cell? ⟨g,1,none⟩=some (.slice A2 n2 c2):=hb.cell 1;clear hb HB hn1 hn2;have w1:wrap64 ((n1:Int)+(n2:Int))=((n1+n2:Nat):Int):=by
  rw [IntWalk.wrap64_in _ (by omega)];omega
 go_enter Tryz.func146,Tryz.ntmps146
 go_wp2_with fail
 go_loop [3,5,11] (fun v _ i=>(i=.int .i64 0∧v=.int .i64 0)∨(i=.int .i64 1∧v=.int .i64 (n1:Int))∨(i=.int .i64 2∧v=.int .i64 ((n1:Int)+(n2:Int)))) (fun _ _ i=>2 - (intOf i).toNat)
 case atStart=>exact .inl ⟨rfl,rfl⟩
 case round=>
  rcases hrel with ⟨rfl,rfl⟩|⟨rfl,rfl⟩|⟨rfl,rfl⟩
  ·have hz:wrap64 (0+(n1:Int))=(n1:Int):=by rw [IntWalk.wrap64_in _ (by omega)];omega
   go_wp2_with fail;exact ⟨.inr (.inl ⟨rfl,rfl⟩),by decide⟩
  ·go_wp2_with fail;exact ⟨.inr (.inr ⟨rfl,rfl⟩),by decide⟩
  ·have CG:Calls Tryz.prog 169 #[.slice none 0 0,.int .i64 ((n1:Int)+(n2:Int))] w (aQg (n1+n2) w):=by
    have:=aY9 (n1+n2) w (by omega) (by omega);rwa [Int.natCast_add] at this
   clear w1;go_wp2_with fail;refine CG.mono ?_;rintro e w2 ⟨cap,rfl,hcap,hown,hbel⟩;have HO0:=Lib.hid hown;have HB0:=Lib.hid hbel;have HCAP:Hid (n1+n2≤cap):=hcap;clear CG hown hbel hcap;go_wp2_with fail;go_loopw [6,8,27] (fun v _ i wr=>Below w.heap.size w wr∧((i=.int .i64 0∧v=.slice (some ⟨w.heap.size,0,none⟩) 0 cap∧wr.ownsRow w.heap.size 65 2 (.slice (some ⟨w.heap.size,0,none⟩) 0 cap) 0 [])∨(i=.int .i64 1∧v=.slice (some ⟨w.heap.size,0,none⟩) n1 cap∧wr.ownsRow w.heap.size 65 2 (.slice (some ⟨w.heap.size,0,none⟩) n1 cap) n1 (lnsC ls vs))∨(i=.int .i64 2∧v=.slice (some ⟨w.heap.size,0,none⟩) (n1+n2) cap∧wr.ownsRow w.heap.size 65 2 (.slice (some ⟨w.heap.size,0,none⟩) (n1+n2) cap) (n1+n2) (lnsC ls vs++lnsC ms us)))) (fun _ _ i _=>2 - (intOf i).toNat)
   case atStart=>exact ⟨HB0.out,.inl ⟨rfl,rfl,HO0.out⟩⟩
   case round=>
    obtain ⟨hbel,hrel⟩:=hrel;have HB:=Lib.hid hbel;have hcell:∀(p:Addr) (v:Value),w.cell? p=some v→wr.cell? p=some v:=fun p v h=>(hbel.cell (World.block_lt_of_cell? w _ h)).trans h;have HCE:=Lib.hid hcell;have q0:=hcell _ _ k0;have q1:=hcell _ _ k1;clear hcell hbel;rcases hrel with ⟨rfl,rfl,hown⟩|⟨rfl,rfl,hown⟩|⟨rfl,rfl,hown⟩
    ·have HO:=Lib.hid hown;clear hown;go_wp2_with (at_builtin;refine wpList_append_fits_any _ rfl (.tmp 31) (.tmp 32) _ rfl w.heap.size 65 i0 2 aEj HI.out HZ1.out w.heap.size 0 cap [] rfl HO.out A1 n1 c1 (lnsC ls vs) rfl HL1.out HA1.out (fun ad h j u hu=>HCE.out _ _ (HC1.out ad h j u hu)) HV1.out.one (by have:=HCAP.out;omega) ?_)
     intro w3 hown3 hg3;have HO3:=Lib.hid hown3;have HB3:=Lib.hid (HB.out.grown hg3 HB.out.size (fun g hg=>by injection hg with hg;exact Nat.le_of_eq hg));clear hown3 hg3;go_wp2_with fail;exact ⟨⟨HB3.out,.inr (.inl ⟨rfl,by simp,HO3.out⟩)⟩,by decide⟩
    ·have HO:=Lib.hid hown;clear hown;go_wp2_with (at_builtin;refine wpList_append_fits_any _ rfl (.tmp 31) (.tmp 32) _ rfl w.heap.size 65 i0 2 aEj HI.out HZ1.out w.heap.size n1 cap (lnsC ls vs) rfl HO.out A2 n2 c2 (lnsC ms us) rfl HL2.out HA2.out (fun ad h j u hu=>HCE.out _ _ (HC2.out ad h j u hu)) HV2.out.one (by have:=HCAP.out;omega) ?_)
     intro w3 hown3 hg3;have HO3:=Lib.hid hown3;have HB3:=Lib.hid (HB.out.grown hg3 HB.out.size (fun g hg=>by injection hg with hg;exact Nat.le_of_eq hg));clear hown3 hg3;go_wp2_with fail;exact ⟨⟨HB3.out,.inr (.inr ⟨rfl,rfl,HO3.out⟩)⟩,by decide⟩
    ·have HO:Hid (wr.ownsRow w.heap.size 65 2 (.slice (some ⟨w.heap.size,0,none⟩) (ls++ms).length cap) (ls++ms).length (lnsC (ls++ms) (vs++us))):=by
      show World.ownsRow _ _ _ _ _ _ _;rw [HAP.out,HAC.out];exact hown
     clear hown;go_wp2_with fail;go_ret;rw [←HAP.out];exact ⟨_,cap,rfl,by rw [HAP.out];exact HCAP.out,(fun h=>by cases h),aS5 HO.out ((HV1.out.below HB.out).append (HV2.out.below HB.out)),HB.out⟩
end Go.Proofs.YtgjmbbkcgillcaaGreat.Sto
