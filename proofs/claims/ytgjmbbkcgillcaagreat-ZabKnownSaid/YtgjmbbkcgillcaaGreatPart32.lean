/- Lemmas, part 32: ZabBest, ZabLead, PhaseTab -/
import Derived.Test.YtgjmbbkcgillcaaGreatPart31
import Derived.Test.YtgjmbbkcgillcaaGreatPart30
import Derived.BigRegion
import Derived.Test.YtgjmbbkcgillcaaGreatPart4
set_option maxHeartbeats 16000000
namespace Go.Proofs.YtgjmbbkcgillcaaGreat.Zab
open Go.RowKit Disk Log Sto Zm Bal
structure Pv where
 c:Nat
 A:Option Addr
 n:Nat
 d:Nat
def Pv.v (p:Pv):Value:=pmV p.c p.A p.n p.d
def Pv.zero:Pv:=⟨0,none,0,0⟩
def better (b p:Pv):Pv:=if btr (p.c:Int) (p.n:Int) (b.c:Int) (b.n:Int)=true then p else b
def bestV (l:List Pv):Pv:=l.foldl better Pv.zero
theorem aL2 (l:List Pv) (p:Pv):bestV (l++[p])=better (bestV l) p:=by unfold bestV;rw [List.foldl_append];rfl
theorem aSq {b p:Pv} {P:Pv→Prop} (hb:P b) (hp:P p):P (better b p):=by unfold better;split<;>assumption
theorem aWz {P:Pv→Prop} (h0:P Pv.zero):∀(l:List Pv),(∀p∈l,P p)→P (bestV l):=fun l h=>by
 unfold bestV
 suffices ∀(l:List Pv) (b:Pv),P b→(∀p∈l,P p)→P (l.foldl better b) from this l _ h0 h
 intro l
 induction l with
 |nil=>exact fun b hb _=>hb
 |cons x l ih=>exact fun b hb hl=>ih _ (aSq hb (hl x (by simp))) fun p hp=>hl p (by simp [hp])
theorem aFx:Tryz.prog.underlying 190=some (.map 3 189):=by kernel_rfl
theorem aN0 (w:World):(zeroValue 189).run Tryz.prog w=.ok Pv.zero.v w:=by kernel_rfl
theorem aEe:(Tryz.prog.info? 189).map (·.size)=some 2:=by kernel_rfl
def pvC (p:Pv):Array Value:=#[.int .u64 (p.c:Int),.slice p.A p.n p.d]
theorem bCm {A:Option Addr} {n:Nat} {zs:List Int} {w:World} (h:RdV w A n (vi zs)) {k:Nat} (hk:k<zs.length):∃ad,A=some ad∧w.cell? (ad.add k)=some (.int .i64 zs[k]):=by
 have hl:=h.len;rw [aBi] at hl;obtain ⟨ad,e,hc⟩:=h.cells (by omega);exact ⟨ad,e,hc k _ (by simp [vi,hk])⟩
def RelB (w5:World) (gb n:Nat) (ps:List Pv) (i:Value) (wr:World):Prop:=∃j:Nat,j≤n∧i=.int .i64 (j:Int)∧Bk wr gb 189 (pvC (bestV (ps.take j)))∧Out (fun b=>b=gb) w5 wr
def BestP (p:Pv) (w:World) (e:Ending) (w':World):Prop:=e=.returned p.v∧Below w.heap.size w w'
set_option maxRecDepth 100000 in
theorem aZ0 {w:World} {gp gm e0:Nat} {f:Nat→Option Value} {c:Nat} {D:DataW Value} (hb:Bk w gp 192 #[.int .u64 (e0:Int),.map (some gm)]) (h:IMap w gm f c D) (hc:c≤1000) (L:List Nat) (hs:L.Pairwise (·<·)) (hL:∀i∈L,i<1000) (hm:∀i,i∈L↔(f i).isSome=true) (g:Nat→Pv) (hg:∀i∈L,f i=some (g i).v) (hn:∀i∈L,(g i).n<1000000) (hlen:L.length≤1000):
  Calls Tryz.prog 163 #[.pointer (some ⟨gp,0,none⟩)] w (BestP (bestV (L.map g)) w):=by
 obtain ⟨W,hW⟩:∃W,W=(w.alloc (.cells #[.int .u64 0,.slice none 0 0] 189)).alloc (.cells #[.int .u64 0,.slice none 0 0] 189):=⟨_,rfl⟩;have hbw:Below w.heap.size w W:=by rw [hW];exact ((Below.refl _ _).alloc (Nat.le_refl _) _).alloc (by simp) _
 have hz1:Bk W (w.heap.size+1) 189 #[.int .u64 0,.slice none 0 0]:=by
  rw [hW];have:=Bk.new (w.alloc (.cells #[.int .u64 0,.slice none 0 0] 189)) 189 #[.int .u64 0,.slice none 0 0];rwa [World.size_alloc] at this
 have hz0:Bk W w.heap.size 189 #[.int .u64 0,.slice none 0 0]:=by rw [hW];exact (Bk.new _ _ _).alloc _
 have q1:W.cell? ⟨gp,1,none⟩=some (.map (some gm)):=(hb.below hbw).cell 1;have HBK:=Lib.hid (hb.below hbw);have HM:=Lib.hid (h.below hbw);have CK:=Lib.hid (aX7 gm W);have CS:=Lib.hid (aSz (h.below hbw) hc L hs hm);have HZ0:=Lib.hid hz0;have HZ1:=Lib.hid hz1;have HBW:=Lib.hid hbw;have HLB:=Lib.hid hL;have HGP:=Lib.hid hb.lt;have HGM:=Lib.hid h.lt;have HGL:=Lib.hid hg;have HNN:=Lib.hid hn;have hsw:W.heap.size=w.heap.size+1+1:=by rw [hW,World.size_alloc,World.size_alloc]
 have HSW:=Lib.hid hsw;rw [hW] at q1;have HW:=Lib.hid hW;clear hb h hs hL hm hg hn hbw hz0 hz1 hW hsw;go_enter Tryz.func163,Tryz.ntmps163
 go_wp2_with fail;rw [←HW.out];refine CK.out.mono ?_;rintro e w1 ⟨rfl,rfl⟩;go_wp2_with fail;refine CS.out.mono ?_;rintro e w5 ⟨A,cp,rfl,hrow,hb5⟩;have hb6:Below W.heap.size W w5:=((Below.refl _ _).alloc (Nat.le_refl _) _).trans (hb5.mono (Nat.le_succ _));have hrd:RdV w5 A L.length (vi (L.map fun i:Nat=>(i:Int))):=(RdV.of_own hrow).1;have hba:∀a,A=some a→W.heap.size≤a.block:=fun a ha=>by
  have:=aBx hrow a.block (by rw [ha];rfl);omega
 have HRD:=Lib.hid hrd;have HBA:=Lib.hid hba;have HBK5:=Lib.hid (HBK.out.below hb6);have HM5:=Lib.hid (HM.out.below hb6);have HZ05:=Lib.hid (HZ0.out.below hb6);have HB5:=Lib.hid (HBW.out.trans (hb6.mono HBW.out.size));have h0:Hid (RelB w5 (w.heap.size+1) L.length (L.map g) (.int .i64 ((0:Nat):Int)) w5):=⟨0,Nat.zero_le _,rfl,HZ1.out.below hb6,Out.refl _ _⟩;have HS5:Hid (w.heap.size+1+1≤w5.heap.size):=by have:=hb6.size;have:=HSW.out;show _≤_;omega
 clear hrow hb5 hb6 hrd hba CK CS HBK HM HZ0 HZ1 HBW q1 HW;go_wp2_with fail;go_loopw [14] (fun i wr=>RelB w5 (w.heap.size+1) L.length (L.map g) i wr) (fun i _=>L.length - (intOf i).toNat)
 case atStart=>exact h0.out
 case round=>
  clear h0;obtain ⟨j,hj,rfl,hbx,hox⟩:=hrel;by_cases hlt:j<L.length
  ·obtain ⟨ad,hA,hcell⟩:=bCm HRD.out (k:=j) (by simpa using hlt);have hi0:=HLB.out L[j] (List.getElem_mem hlt);have hgi:=HGL.out L[j] (List.getElem_mem hlt);have hni:=HNN.out L[j] (List.getElem_mem hlt);obtain ⟨Wb,hWb⟩:∃Wb,Wb=wr.alloc (.cells (pvC (g L[j])) 189):=⟨_,rfl⟩;have hsnoc:(L.map g).take (j+1)=(L.map g).take j++[g L[j]]:=by
    rw [List.take_succ_eq_append_getElem (by simpa using hlt),List.getElem_map]
   have hcell:w5.cell? (ad.add j)=some (.int .i64 ((L[j]:Nat):Int)):=by rw [hcell,List.getElem_map]
   have had:ad.block<w5.heap.size∧w.heap.size+1<ad.block:=by
    have h1:=HBA.out ad hA;have h2:=World.block_lt_of_cell? w5 _ hcell;have h3:=HSW.out;rw [aAa] at h2;omega
   have k1:wr.cell? (ad.add j)=some (.int .i64 ((L[j]:Nat):Int)):=(hox.cell (by rw [aAa];exact had.1) (by rw [aAa];omega)).trans hcell;have k2:wr.cell? ⟨gp,1,none⟩=some (.map (some gm)):=(HBK5.out.out hox (by have:=HGP.out;omega)).cell 1;have hk:=((HM5.out.out hox (by have:=HGM.out;omega)).look aFx (aN0 wr) L[j] (by omega)).1;rw [hgi] at hk;have hbn:(bestV ((L.map g).take j)).n<1000000:=aWz (P:=fun p=>p.n<1000000) (by show 0<1000000;omega) _ fun p hp=>by
    obtain ⟨i,hi,rfl⟩:=List.mem_map.1 (List.mem_of_mem_take hp);exact HNN.out i hi
   have HSN:=Lib.hid hsnoc;have hj0:(0:Int)≤(j:Int):=Int.natCast_nonneg _;have hj1:(j:Int)<(L.length:Int):=by omega
   have HBX:=Lib.hid hbx;have HOX:=Lib.hid hox;generalize hp:g L[j]=p at*;generalize hq:bestV ((L.map g).take j)=q at*;generalize hLj:L[j]=ij at*;obtain ⟨pc,pA,pn,pd⟩:=p;obtain ⟨bc,bA,bn,bd⟩:=q;have HPQ:=Lib.hid hq;have HNI:=Lib.hid hni;have HBN:=Lib.hid hbn;have HHH:=Lib.hid had;unfold pvC at hWb;dsimp only at hWb
   have b0:Wb.cell? ⟨w.heap.size+1,0,none⟩=some (.int .u64 (bc:Int)):=by rw [hWb];exact (hbx.alloc _).cell 0
   have b1:Wb.cell? ⟨w.heap.size+1,1,none⟩=some (.slice bA bn bd):=by rw [hWb];exact (hbx.alloc _).cell 1
   have hpk:Bk Wb wr.heap.size 189 #[.int .u64 (pc:Int),.slice pA pn pd]:=by rw [hWb];exact Bk.new _ _ _
   have HPK:=Lib.hid hpk;have HWB:=Lib.hid hWb;rw [hWb] at b0 b1;subst hA;clear hp hq hLj hi0 hgi hni hbn hsnoc hcell had hbx hox hpk hWb;unfold Pv.v pmV at hk;simp only [Option.getD_some] at hk;go_wp2_with fail;rw [←HWB.out];refine (aSg (pc:Int) (pn:Int) (bc:Int) (bn:Int) Wb (by have:=HNI.out;omega) (by have:=HBN.out;omega)).mono ?_;rintro e w6 ⟨rfl,hb6⟩;have hpk6:=HPK.out.below hb6;have hbw6:Below wr.heap.size wr w6:=by
    have h1:Below wr.heap.size wr Wb:=by rw [HWB.out];exact (Below.refl _ _).alloc (Nat.le_refl _) _
    exact h1.trans (hb6.mono h1.size)
   have hbx6:Bk w6 (w.heap.size+1) 189 #[.int .u64 (bc:Int),.slice bA bn bd]:=HBX.out.below hbw6;have hox6:Out (fun b=>b=w.heap.size+1) w5 w6:=HOX.out.trans (Out.of_below hbw6 (X:=fun b=>b=w.heap.size+1)) fun k hk=>.inl hk;have p0:w6.cell? ⟨wr.heap.size,0,none⟩=some (.int .u64 (pc:Int)):=hpk6.cell 0;have p1:w6.cell? ⟨wr.heap.size,1,none⟩=some (.slice pA pn pd):=hpk6.cell 1;have HBX6:=Lib.hid hbx6;have HOX6:=Lib.hid hox6;obtain ⟨t,ht⟩:∃t,t=btr (pc:Int) (pn:Int) (bc:Int) (bn:Int):=⟨_,rfl⟩;rw [←ht];have HT:=Lib.hid ht;clear hb6 hpk6 hbw6 hbx6 hox6 ht b0 b1 k1 k2 hk HOX HBX HWB HPK;cases t with
   |true=>
    go_wp2_with ((with_reducible refine aBo ?_ 189 (.tmp 3) (.tmp 35) ?_ (w.heap.size+1) 189 #[.int .u64 (bc:Int),.slice bA bn bd] #[.int .u64 (pc:Int),.slice pA pn pd] ?_ ?_ ?_ ?_ ?_ ?_ ?_);(exact rfl);(exact rfl);(exact rfl);(exact rfl);(exact HBX6.out);(exact aEe);(exact rfl);(simp [Value.oneCell']))
    refine Lib.hid ?_;intro V hV1 hV2;have HF:Hid (RelB w5 (w.heap.size+1) L.length (L.map g) (.int .i64 ((j+1:Nat):Int)) V):=⟨j+1,by omega,rfl,by
     rw [HSN.out,aL2,HPQ.out];unfold better;rw [if_pos HT.out.symm];exact hV1,HOX6.out.trans hV2 fun k hk=>.inl hk⟩
    clear hV1 hV2 p0 p1;go_wp2_with fail;exact ⟨HF.out,by simp [intOf];omega⟩
   |false=>
    have HF:Hid (RelB w5 (w.heap.size+1) L.length (L.map g) (.int .i64 ((j+1:Nat):Int)) w6):=⟨j+1,by omega,rfl,by
     rw [HSN.out,aL2,HPQ.out];unfold better;rw [if_neg (by rw [←HT.out];exact Bool.false_ne_true)];exact HBX6.out,HOX6.out⟩
    clear p0 p1;go_wp2_with fail;exact ⟨HF.out,by simp [intOf];omega⟩
  ·have hjn:j=L.length:=by omega
   subst hjn;rw [List.take_of_length_le (by simp)] at hbx;have hb:Below w.heap.size w wr:=hox.below HB5.out (fun k hk=>by omega) HB5.out.size;have hz:=HZ05.out.out hox (by omega);generalize hq:bestV (L.map g)=q at*;obtain ⟨bc,bA,bn,bd⟩:=q;have b0:wr.cell? ⟨w.heap.size+1,0,none⟩=some (.int .u64 (bc:Int)):=hbx.cell 0;have b1:wr.cell? ⟨w.heap.size+1,1,none⟩=some (.slice bA bn bd):=hbx.cell 1;have HB:=Lib.hid hb;have HZ:=Lib.hid hz;clear hbx hox hb hz hq HRD HBA HBK5 HM5 HZ05;go_wp2_with ((with_reducible refine aBo ?_ 189 (.tmp 2) (.tmp 37) ?_ w.heap.size 189 #[.int .u64 0,.slice none 0 0] #[.int .u64 (bc:Int),.slice bA bn bd] ?_ ?_ ?_ ?_ ?_ ?_ ?_);(exact rfl);(exact rfl);(exact rfl);(exact rfl);(exact HZ.out);(exact aEe);(exact rfl);(simp [Value.oneCell']))
   refine Lib.hid ?_;intro V hV1 hV2;have HV1:=Lib.hid hV1;have HBV:Hid (Below w.heap.size w V):=hV2.below HB.out (fun k hk=>by omega) HB.out.size;clear hV1 hV2 b0 b1;go_wp2_with fail;refine bodyPost_ret (results_cell_row rfl _ _ w.heap.size 189 _ (0,0) _ rfl HV1.out Tryz.underlying189 rfl aEe) rfl ?_;exact ⟨rfl,HBV.out⟩
end Go.Proofs.YtgjmbbkcgillcaaGreat.Zab
namespace Go.Proofs.YtgjmbbkcgillcaaGreat.Zab
open Go.RowKit Disk Log Sto Zm Bal
structure Nc (w0 w:World) (Y Z:Nat→Prop) (gz gs gd pg:Nat) (z:Zn) (N:Nat):Prop where
 ss:Ss w0 w Z gs gd pg z.k N
 bk:∃rv,Bk w gz 94 (ndC z.id z.n gs rv z.seen z.waited z.com)
 ok:({z with role:=.follow}:Zn).Ok
 pp:z.p=pg / 2
 low:w0.heap.size≤gz
 gzn:¬Z gz∧¬Y gz
 yz:∀b,Y b→w0.heap.size≤b∧¬Z b∧b<w.heap.size
theorem Zn.Ok.bare {z:Zn} (h:z.Ok):({z with role:=.follow}:Zn).Ok:=⟨h.n1,h.n3,h.id,h.fine,h.seen,h.com,trivial⟩
section
variable {w0 w w':World} {Y Z:Nat→Prop} {gz gs gd pg:Nat} {z:Zn} {N:Nat}
theorem Nd.nc (h:Nd w0 w Y Z gz gs gd pg z N):Nc w0 w Y Z gz gs gd pg z N:=by
 obtain ⟨rv,h1,_⟩:=h.bk;exact ⟨h.ss,⟨rv,h1⟩,h.ok.bare,h.pp,h.low,h.gzn,h.yz⟩
theorem Nc.below_ (h:Nc w0 w Y Z gz gs gd pg z N) (hb:Below w.heap.size w w'):Nc w0 w' Y Z gz gs gd pg z N:=by
 obtain ⟨h1,⟨rv,h2⟩,h4,h5,h6,h7,h8⟩:=h;exact ⟨h1.below_ hb,⟨rv,h2.below hb⟩,h4,h5,h6,h7,fun b hb'=>⟨(h8 b hb').1,(h8 b hb').2.1,Nat.lt_of_lt_of_le (h8 b hb').2.2 hb.size⟩⟩
theorem Nc.lt (h:Nc w0 w Y Z gz gs gd pg z N):gz<w.heap.size:=by obtain ⟨rv,h1⟩:=h.bk;exact h1.lt
theorem Nc.follows (h:Nc w0 w Y Z gz gs gd pg z N):Calls Tryz.prog 140 #[.pointer (some ⟨gz,0,none⟩)] w (DidP w0 Y Z gz gs gd pg (.tuple #[]) z.follow N w):=by
 obtain ⟨rv,hb⟩:=h.bk;refine (aCa hb).mono fun e w' ⟨he,h1,h2⟩=>⟨Y,Z,he,⟨h.ss.out h2 fun b hb=>?_,⟨_,h1,rfl⟩,⟨h.ok.n1,h.ok.n3,h.ok.id,h.ok.fine,h.ok.seen,h.ok.com,trivial⟩,h.pp,h.low,h.gzn,fun b hy=>⟨(h.yz b hy).1,(h.yz b hy).2.1,Nat.lt_of_lt_of_le (h.yz b hy).2.2 h2.size⟩⟩,⟨h2.mono fun k hk=>.inl (.inl hk),fun b hb=>.inl hb⟩⟩;rw [hb];exact ⟨h.gzn.1,h.low⟩
end
theorem IMap.len {w:World} {b:Nat} {f:Nat→Option Value} {c:Nat} {D:DataW Value} (h:IMap w b f c D) {t e ty:TypeId} (ht:Tryz.prog.underlying t=some (.map 3 e)) (W:World) (hW:W.heap=w.heap):(Builtin.len_ #[t] ty #[.map (some b)]).run Tryz.prog W=.ok (.int .i64 (c:Int)) W:=by
 obtain ⟨es,clock,h1,h2,h3,h4⟩:=h.own;have hs:=h.size;rw [h4] at hs;have hc:es.size=c:=by
  rw [←hs];simp [Maps.size,length_sorted]
 have hb:W.heap[b]? =some (.map es clock):=by rw [hW];exact h1
 rw [←hc];simp [Builtin.len_,run_underlying ht,MapKept.run_getObj_map hb,goInt]
theorem aO3 {w w':World} (h:Below w.drew.heap.size w.drew w'):Below w.heap.size w w':=⟨h.os,h.tape,h.output,h.size,h.block⟩
theorem aCs {X:Nat→Prop} {w w':World} (h:Out X w.drew w'):Out X w w':=⟨h.os,h.tape,h.output,h.size,h.block⟩
theorem aBe (w:World):Below w.heap.size w w.drew:=(Below.refl _ _).drew
theorem aKi {D:Deed} {k:Kp} {p:Nat} (h:ans D k p≠0):thn D k p=k:=by
 unfold ans at h;unfold thn;split at h
 ·next hm=>
  split at h
  ·exact absurd rfl h
  ·next hf=>rw [if_neg fun q=>hf q.2]
 ·next hm=>rw [if_neg fun q=>hm q.1]
theorem aGm {D:Deed} {k:Kp} {p:Nat} (h:ans D k p=0):D.may k=true∧fits (D.run k) p=true∧thn D k p=D.run k:=by
 unfold ans at h;unfold thn;split at h
 ·next hm=>
  split at h
  ·next hf=>exact ⟨hm,hf,by rw [if_pos ⟨hm,hf⟩]⟩
  ·cases h
 ·cases h
theorem Nc.stored {w0 w w':World} {Y Z Z':Nat→Prop} {gz gs gd pg:Nat} {z z':Zn} {N M:Nat} (h:Nc w0 w Y Z gz gs gd pg z N) (hs:Ss w0 w' Z' gs gd pg z'.k M) (he:z'.id=z.id∧z'.n=z.n∧z'.p=z.p∧z'.seen=z.seen∧z'.waited=z.waited∧z'.com=z.com) (hok:({z' with role:=.follow}:Zn).Ok) (ho:Out Z w w') (hz:∀b,Z' b→Z b∨w.heap.size≤b):Nc w0 w' Y Z' gz gs gd pg z' M∧Gz Y Z Y Z' gz w w':=by
 obtain ⟨e1,e2,e3,e4,e5,e6⟩:=he;obtain ⟨rv,hb⟩:=h.bk;have hlt:=hb.lt;refine ⟨⟨hs,⟨rv,?_⟩,hok,by rw [e3];exact h.pp,h.low,⟨fun q=>?_,h.gzn.2⟩,fun b hb'=>⟨(h.yz b hb').1,fun q=>?_,Nat.lt_of_lt_of_le (h.yz b hb').2.2 ho.size⟩⟩,ho.mono fun k hk=>.inl (.inr (.inr hk)),fun b hb=>?_⟩
 ·rw [e1,e2,e4,e5,e6];exact hb.out ho h.gzn.1
 ·rcases hz gz q with q|q
  ·exact h.gzn.1 q
  ·omega
 ·have:=(h.yz b hb').2.2;rcases hz b q with q|q
  ·exact (h.yz b hb').2.1 q
  ·omega
 ·rcases hb with hb|hb|hb
  ·exact .inl (.inl hb)
  ·exact .inl (.inr (.inl hb))
  ·rcases hz b hb with q|q
   ·exact .inl (.inr (.inr q))
   ·exact .inr q
theorem Nd.same {w0 w w':World} {Y Z Z':Nat→Prop} {gz gs gd pg:Nat} {z:Zn} {N M:Nat} (h:Nd w0 w Y Z gz gs gd pg z N) (hs:Ss w0 w' Z' gs gd pg z.k M) (ho:Out Z w w') (hz:∀b,Z' b→Z b∨w.heap.size≤b):Nd w0 w' Y Z' gz gs gd pg z M∧Gz Y Z Y Z' gz w w':=by
 obtain ⟨h1,h2⟩:=h.nc.stored hs ⟨rfl,rfl,rfl,rfl,rfl,rfl⟩ h.ok.bare ho hz;obtain ⟨rv,hb,hr⟩:=h.bk;exact ⟨⟨hs,⟨rv,hb.out ho h.gzn.1,hr.out ho fun b hy=>(h.yz b hy).2.1⟩,h.ok,h.pp,h.low,h1.gzn,h1.yz⟩,h2⟩
theorem quo {n:Nat} (h1:1≤n) (h3:n≤3):quorum n=if n=1 then 1 else 2:=by
 unfold quorum;obtain rfl|rfl|rfl:n=1∨n=2∨n=3:=by omega
 all_goals rfl
theorem aTc (a b:Value) (w:World):(Instr.field 189 (.agg #[a,b]) 1).run Tryz.prog w=.ok b w:=by kernel_rfl
section
variable {w0 w w':World} {Y Z:Nat→Prop} {gz gs gd pg:Nat} {z:Zn} {N:Nat}
set_option maxRecDepth 100000 in
theorem aLv {P:Nat→Prop} {gp gm e:Nat} {f:Nat→Option Value} {c:Nat} {D:DataW Value} (h:Nc w0 w Y Z gz gs gd pg z N) (hN:N+4<65536) (hb:Bk w gp 192 #[.int .u64 (e:Int),.map (some gm)]) (hm:IMap w gm f c D) (hc:quorum z.n≤c) (hc2:c≤1000) (L:List Nat) (hs:L.Pairwise (·<·)) (hL:∀i∈L,i<1000) (hlen:L.length≤1000) (hmm:∀i,i∈L↔(f i).isSome=true) (g:Nat→Pv) (hg:∀i∈L,f i=some (g i).v) (hn:∀i∈L,(g i).n<1000000)
  (he:e<18446744073709551616) (heo:e % z.n=z.id) (ls:List Ln) (hls:LnS P w (bestV (L.map g)).A (bestV (L.map g)).n ls) (hla:Laid ls) (hP:∀b,P b→¬Z b∧b<w.heap.size) (hYs:¬Z gp):
  Calls Tryz.prog 130 #[.pointer (some ⟨gz,0,none⟩),.pointer (some ⟨gp,0,none⟩)] w (ToldP w0 Y Z gz gs gd pg (z.lead e ls) (N+4) w):=by
 obtain ⟨rv,hbk⟩:=h.bk;have CB:=Lib.hid (aZ0 (w:=w.drew) hb (hm.kept rfl) hc2 L hs hL hmm g hg hn hlen);have q0:w.cell? ⟨gp,0,none⟩=some (.int .u64 (e:Int)):=hb.cell 0;have q1:w.cell? ⟨gp,1,none⟩=some (.map (some gm)):=hb.cell 1;have z1:w.cell? ⟨gz,1,none⟩=some (.int .i64 (z.n:Int)):=hbk.cell 1;have hn1:1≤z.n:=h.ok.n1;have hn3:z.n≤3:=h.ok.n3;have hqc:(quorum z.n:Int)≤(c:Int):=by omega
 have hlq:¬(c:Int)<(quorum z.n:Int):=by omega
 have hlb:decide ((c:Int)<(quorum z.n:Int))=false:=decide_eq_false hlq;have hlenM:=hm.len (ty:=3) aFx w.drew rfl;have H:=Lib.hid h;have HB:=Lib.hid hb;have HLS:=Lib.hid hls;have HLA:=Lib.hid hla;have HP:=Lib.hid hP;have HBK:=Lib.hid hbk;have HQ:=Lib.hid (aEs z.n w hn1 (by omega));clear h hb hm hs hL hlen hmm hg hn hls hla hP hbk hc;go_enter Tryz.func130,Tryz.ntmps130
 go_wp2_with fail;refine aAk 10 (by kernel_rfl) (by kernel_rfl) ?_;simp only [List.take_succ_cons,List.take_zero,List.drop_succ_cons,List.drop_zero]
 iterate 9
  refine aA6 (by kernel_rfl) ?_;apply Exists.intro
  refine And.intro ?_ ?_
  ·unfold aA5;first
    |(go_simp;done)
    |(go_simp;exact rfl)
  try simp only [Act.put,List.setIfInBounds_toArray,List.set_cons_zero,List.set_cons_succ]
 refine aBn (by kernel_rfl) ?_;apply Exists.intro
 apply Exists.intro
 apply Exists.intro
 refine And.intro ?_ (And.intro ?_ ?_)
 ·first
   |(go_simp;exact ⟨rfl,rfl⟩)
   |(go_simp;exact rfl)
   |(go_simp;done)
 ·exact (aEs z.n _ hn1 (by omega)).mono (fun _ _ h=>⟨h.1,h.2.symm⟩)
 try simp only [Act.put,List.setIfInBounds_toArray,List.set_cons_zero,List.set_cons_succ]
 refine aAv ?_;change wpList _ _ _ _ _ w.drew;go_wp2_with fail;refine CB.out.mono ?_;rintro r1 w1 ⟨rfl,hb1'⟩;have hb1:=aO3 hb1';generalize hbest:bestV (L.map g)=bv at*;obtain ⟨bc,bA,bn,bd⟩:=bv;have hll:ls.length=bn:=HLS.out.len;have hf:=aTc (.int .u64 (bc:Int)) (.slice bA bn bd) w1;have q0':w1.cell? ⟨gp,0,none⟩=some (.int .u64 (e:Int)):=(HB.out.below hb1).cell 0;have z2':w1.cell? ⟨gz,2,none⟩=some (.pointer (some ⟨gs,0,none⟩)):=(HBK.out.below hb1).cell 2;have hss:Ss w0 w1.drew Z gs gd pg z.k N:=(H.out.ss.below_ hb1).below_ (aBe w1);have CA:=Lib.hid (hss.adopt hN e ls he bA bn bd ((HLS.out.below hb1).below (aBe w1)) HLA.out fun b hb=>⟨(HP.out b hb).1,Nat.lt_of_lt_of_le (HP.out b hb).2 hb1.size⟩);have HB1:=Lib.hid hb1;have HLL:=Lib.hid hll;unfold Pv.v pmV;clear hb1' hb1 hbest hll hss q0 q1 z1 hlenM HQ CB hqc hlq hlb;go_wp2_with fail;refine aAk 10 (by kernel_rfl) (by kernel_rfl) ?_;simp only [List.take_succ_cons,List.take_zero,List.drop_succ_cons,List.drop_zero]
 iterate 8
  refine aA6 (by kernel_rfl) ?_;apply Exists.intro
  refine And.intro ?_ ?_
  ·unfold aA5;first
    |(go_simp;done)
    |(go_simp;exact rfl)
  try simp only [Act.put,List.setIfInBounds_toArray,List.set_cons_zero,List.set_cons_succ]
 refine aBn (by kernel_rfl) ?_;apply Exists.intro
 apply Exists.intro
 apply Exists.intro
 refine And.intro ?_ (And.intro ?_ ?_)
 ·first
   |(go_simp;exact ⟨rfl,rfl⟩)
   |(go_simp;exact rfl)
   |(go_simp;done)
 ·exact (aB3 (e:Int) _).mono (fun _ _ h=>⟨h.1,h.2.symm⟩)
 try simp only [Act.put,List.setIfInBounds_toArray,List.set_cons_zero,List.set_cons_succ]
 refine aA6 (by kernel_rfl) ?_;apply Exists.intro
 refine And.intro ?_ ?_
 ·unfold aA5;first
   |(go_simp;done)
   |(go_simp;exact rfl)
 try simp only [Act.put,List.setIfInBounds_toArray,List.set_cons_zero,List.set_cons_succ]
 refine aAv ?_;change wpList _ _ _ _ _ w1.drew;obtain ⟨av,hav⟩:∃av,av=ans (.adopt e ls) z.k (pg / 2):=⟨_,rfl⟩;rw [←hav] at CA;go_wp2_with fail;refine CA.out.mono ?_;rintro r2 w2 ⟨rfl,Z2,hs2,hg2,hz2⟩;have hg2':=aCs hg2;have hbk2:=(HBK.out.below HB1.out).out hg2' H.out.gzn.1;by_cases ha:ans (.adopt e ls) z.k (pg / 2)=0
 ·obtain ⟨hmay,hfits,hthn⟩:=aGm ha;rw [hthn] at hs2;have hk':(Deed.adopt e ls).run z.k=⟨e,e,ls⟩:=rfl;rw [hk'] at hs2 hthn;obtain ⟨m1,m2,m3,m4,m5⟩:=aCb.1 hmay;subst hav;rw [ha];obtain ⟨W3,hW3⟩:∃W3,W3=w2.alloc (.map #[] 0):=⟨_,rfl⟩;obtain ⟨W4,hW4⟩:∃W4,W4=W3.alloc (.cells #[.int .u64 (e:Int),.int .i64 (bn:Int),.map (some w2.heap.size),.bool false] 112):=⟨_,rfl⟩;have hs3:W3.heap.size=w2.heap.size+1:=by rw [hW3,World.size_alloc]
  have hb23:Below w2.heap.size w2 W3:=by rw [hW3];exact (Below.refl _ _).alloc (Nat.le_refl _) _
  have hb34:Below W3.heap.size W3 W4:=by rw [hW4];exact (Below.refl _ _).alloc (Nat.le_refl _) _
  have hb24:Below w2.heap.size w2 W4:=hb23.trans (hb34.mono hb23.size);have hs4:W4.heap.size=w2.heap.size+1+1:=by rw [hW4,World.size_alloc,hs3]
  have him:IMap W4 w2.heap.size (fun _=>none) 0 (.map []):=by
   have h1:=IMap.new w2;rw [←hW3] at h1;exact h1.below hb34
  have hbl:Bk W4 (w2.heap.size+1) 112 #[.int .u64 (e:Int),.int .i64 (bn:Int),.map (some w2.heap.size),.bool false]:=by rw [hW4,←hs3];exact Bk.new _ _ _
  have hbk4:=hbk2.below hb24;have z3:W4.cell? ⟨gz,3,none⟩=some rv:=hbk4.cell 3;have z6:W4.cell? ⟨gz,6,none⟩=some (.int .i64 (z.com:Int)):=hbk4.cell 6;have f3:=hbk4.frozen 3;have f6:=hbk4.frozen 6;have l1:W4.cell? ⟨w2.heap.size+1,1,none⟩=some (.int .i64 (bn:Int)):=hbl.cell 1;have p0:w2.cell? ⟨gp,0,none⟩=some (.int .u64 (e:Int)):=((HB.out.below HB1.out).out hg2' hYs).cell 0;have hmin:min (z.com:Int) (bn:Int)=((min z.com bn:Nat):Int):=by omega
  have HS2:=Lib.hid hs2;have HW4:Hid (W4=(w2.alloc (.map #[] 0)).alloc (.cells #[.int .u64 (e:Int),.int .i64 (bn:Int),.map (some w2.heap.size),.bool false] 112)):=by show _=_;rw [hW4,hW3]
  have hmm:=@run_makeMap Tryz.prog;clear hs3 hb23 hb34 hW3 hW4;go_wp2_with fail;rw [←HW4.out];go_wp2_with fail;clear hmm
  go_region
  obtain ⟨V,hV⟩:∃V,V=((W4.setCell ⟨gz,3,none⟩ (.iface 89 (.pointer (some ⟨w2.heap.size+1,0,none⟩)))).setCell ⟨gz,6,none⟩ (.int .i64 ((min z.com bn:Nat):Int))).drew:=⟨_,rfl⟩;rw [←hV];have hVo:Out (fun b=>b=gz) W4 V:=by
   rw [hV];exact ((Out.setCell (X:=fun b=>b=gz) W4 (p:=⟨gz,3,none⟩) rfl _).trans (Out.setCell (X:=fun b=>b=gz) _ (p:=⟨gz,6,none⟩) rfl _) fun k hk=>.inl hk).drew
  have hVb:Bk V gz 94 (ndC z.id z.n gs (.iface 89 (.pointer (some ⟨w2.heap.size+1,0,none⟩))) z.seen z.waited (min z.com bn)):=by
   rw [hV];exact ((hbk4.set 3 _).set 6 _)
  have hgz2:gz<w2.heap.size:=hbk2.lt;obtain ⟨z1,hz1⟩:∃z1:Zn,z1={z with k:=⟨e,e,ls⟩,com:=min z.com bn,role:=.lead e bn none_ false}:=⟨_,rfl⟩;have hok1:z1.Ok:=by
   rw [hz1];have hok:=H.out.ok;refine ⟨hok.n1,hok.n3,hok.id,?_,hok.seen,?_,rfl,rfl,heo,?_,fun i a hh=>by cases hh⟩
   ·have:=hok.fine.run hmay;rwa [hk'] at this
   ·show min z.com bn≤ls.length;have:=HLL.out;omega
   ·show bn≤ls.length;have:=HLL.out;omega
  have hY1:∀b,(Y b∨b=w2.heap.size+1∨b=w2.heap.size)→w0.heap.size≤b∧¬Z2 b∧b<V.heap.size:=fun b hb=>by
   have h1:=hVo.size;have h2:=HB1.out.size;have h3:=hg2'.size;have h4:=HS2.out.lt;have h5:=HS2.out.below.size;rcases hb with hb|hb|hb
   ·have h6:=H.out.yz b hb;refine ⟨h6.1,fun hz=>?_,by omega⟩;rcases hz2 b hz with q|q
    ·exact h6.2.1 q
    ·have h7:w1.heap.size≤b:=q;omega
   ·refine ⟨by omega,fun hz=>?_,by omega⟩;have:=h4 b hz;omega
   ·refine ⟨by omega,fun hz=>?_,by omega⟩;have:=h4 b hz;omega
  have hgn:¬Z2 gz:=fun hz=>by
   rcases hz2 gz hz with q|q
   ·exact H.out.gzn.1 q
   ·have h1:=H.out.lt;have h2:=HB1.out.size;have h3:w1.heap.size≤gz:=q;omega
  have himV:=him.out hVo (by omega);have hblV:=hbl.out hVo (by omega);have hcn:cntA z1.n none_=0:=by unfold cntA none_;simp
  have hack:ackV none_=fun _=>none:=by unfold ackV none_;rfl
  have himV:IMap V w2.heap.size (ackV none_) (cntA z1.n none_) (.map []):=by rw [hack,hcn];exact himV
  have hnd:Nd w0 V (fun b=>Y b∨b=w2.heap.size+1∨b=w2.heap.size) Z2 gz gs gd pg z1 (N+4):=by
   refine ⟨?_,⟨.iface 89 (.pointer (some ⟨w2.heap.size+1,0,none⟩)),?_,?_⟩,hok1,?_,H.out.low,⟨hgn,?_⟩,hY1⟩
   ·rw [hz1];refine (HS2.out.below_ hb24).out hVo fun b hb=>?_;rw [hb];exact ⟨hgn,H.out.low⟩
   ·rw [hz1];exact hVb
   ·rw [hz1] at himV ⊢;exact ⟨_,_,_,rfl,.inr (.inl rfl),.inr (.inr rfl),hblV,himV⟩
   ·rw [hz1];exact H.out.pp
   ·intro hb;rcases hb with hb|hb|hb
    ·exact H.out.gzn.2 hb
    ·omega
    ·omega
  have hgzA:Gz Y Z (fun b=>Y b∨b=w2.heap.size+1∨b=w2.heap.size) Z2 gz w V:=by
   refine ⟨(((Out.of_below HB1.out).trans (X':=Nx Y Z gz) (hg2'.mono fun k hk=>.inl (.inr (.inr hk))) fun k hk=>.inl hk).trans (Out.of_below hb24 (X:=Nx Y Z gz)) fun k hk=>.inl hk).trans (X':=Nx Y Z gz) (hVo.mono fun k hk=>.inl (.inl hk)) fun k hk=>.inl hk,fun b hb=>?_⟩;have h2:=HB1.out.size;have h3:=hg2'.size;rcases hb with hb|(hb|hb|hb)|hb
   ·exact .inl (.inl hb)
   ·exact .inl (.inr (.inl hb))
   ·exact .inr (by omega)
   ·exact .inr (by omega)
   ·rcases hz2 b hb with q|q
    ·exact .inl (.inr (.inr q))
    ·exact .inr (Nat.le_trans HB1.out.size q)
  have hrole1:z1.role=.lead e bn none_ false:=by rw [hz1]
  have CC:=Lib.hid (aJ5 (gl:=w2.heap.size+1) (gm:=w2.heap.size) hnd hrole1 (by rw [hz1];exact hVb) (.inr (.inl rfl)) (.inr (.inr rfl)) hblV himV);have HGZ:=Lib.hid hgzA;have hzl:z.lead e ls=(z1.count e bn none_ false,Zab.remind (z1.count e bn none_ false) e none_):=by
   have ha':ans (.adopt e ls) z.k z.p=0:=by rw [H.out.pp];exact ha
   have hthn':thn (.adopt e ls) z.k z.p=⟨e,e,ls⟩:=by rw [H.out.pp];exact hthn
   unfold Zn.lead;rw [if_pos ha',hthn',HLL.out,hz1];rfl
  have HZL:=Lib.hid hzl;have hrc:∃rr,(z1.count e bn none_ false).role=.lead e bn none_ rr:=by
   unfold Zn.count;split
   ·exact ⟨_,rfl⟩
   ·exact ⟨_,rfl⟩
  have HRC:=Lib.hid hrc;clear hrc hzl hrole1 hgzA hnd hack hcn himV hblV hgn hY1 hok1 hz1 hgz2 hVb hVo hV him hbl hbk4 hb24 hs4 HS2 HW4 hmay hfits hthn hk' m1 m2 m3 m4 m5 ha hs2 hg2 hz2 hg2' hbk2 z3 z6 f3 f6 l1 p0 hmin CA H HB HLS HLA HP HBK HB1 HLL;go_wp2_with fail;refine CC.out.mono ?_;rintro r3 w5 ⟨⟨Y5,Z5,rfl,hnd5,hg5⟩,hc5⟩;obtain ⟨rr,hrr⟩:=HRC.out;obtain ⟨rv5,hb5,hr5⟩:=hnd5.bk;have e5:some rv5=some (Value.iface 89 (.pointer (some ⟨w2.heap.size+1,0,none⟩))):=by
   have:=hb5.cell 3;rw [hc5] at this;exact this.symm
  injection e5 with e5;subst e5;rw [hrr] at hr5;obtain ⟨gl5,gm5,D5,e6,-,-,hl5,hm5⟩:=hr5;injection e6 with _ e6;injection e6 with e6;injection e6 with e6;injection e6 with e6;subst e6;have CM:=Lib.hid (aKs hnd5 hrr hl5 hm5);have HN5:=Lib.hid hnd5;have HG5:=Lib.hid (HGZ.out.trans hg5);clear hnd5 hg5 hc5 hb5 hl5 hm5 hrr CC HGZ HRC;go_wp2_with fail;refine CM.out.mono ?_;rintro r4 w6 ⟨v,rfl,ho6,hni6,hb6⟩;have HF:Hid (ToldP w0 Y Z gz gs gd pg (z.lead e ls) (N+4) w (.returned v) w6):=by
   rw [HZL.out];exact ⟨v,Y5,Z5,w5.heap.size,rfl,HG5.out.1.size,ho6,hni6,fun b hb=>(HN5.out.nx b hb).2,HN5.out.below_ hb6,HG5.out.later hb6⟩
  clear ho6 hni6 hb6 CM HN5 HG5 HZL;go_wp2_with fail;go_ret;exact HF.out
 ·have hzl:z.lead e ls=(z.follow,[]):=by unfold Zn.lead;rw [H.out.pp,if_neg ha]
  rw [aKi ha] at hs2;have hne:(av != 0)=true:=by rw [hav];simpa using ha
  have hnc:Nc w0 w2 Y Z2 gz gs gd pg z (N+4):=⟨hs2,⟨_,hbk2⟩,H.out.ok,H.out.pp,H.out.low,⟨fun hz=>by
   rcases hz2 gz hz with q|q
   ·exact H.out.gzn.1 q
   ·have h1:=H.out.lt;have h2:=HB1.out.size;have h3:w1.heap.size≤gz:=q;omega,H.out.gzn.2⟩,fun b hb=>⟨(H.out.yz b hb).1,fun hz=>by
   rcases hz2 b hz with q|q
   ·exact (H.out.yz b hb).2.1 q
   ·have h1:=(H.out.yz b hb).2.2;have h2:=HB1.out.size;have h3:w1.heap.size≤b:=q;omega,Nat.lt_of_lt_of_le (Nat.lt_of_lt_of_le (H.out.yz b hb).2.2 HB1.out.size) hg2'.size⟩⟩
  have hgz:Gz Y Z Y Z2 gz w w2:=by
   refine ⟨(Out.of_below HB1.out).trans (hg2'.mono fun k hk=>.inl (.inr (.inr hk))) fun k hk=>.inl hk,fun b hb=>?_⟩;rcases hb with hb|hb|hb
   ·exact .inl (.inl hb)
   ·exact .inl (.inr (.inl hb))
   ·rcases hz2 b hb with q|q
    ·exact .inl (.inr (.inr q))
    ·exact .inr (Nat.le_trans HB1.out.size q)
  have CF:=Lib.hid hnc.follows;have HGZ:=Lib.hid hgz;have HZL:=Lib.hid hzl;clear hav hs2 hg2 hz2 hg2' hbk2 ha hzl hnc hgz CA H HB HLS HLA HP HBK HB1 HLL;go_wp2_with fail;refine CF.out.mono ?_;rintro r3 w3 ⟨Y3,Z3,rfl,hnd,hgz3⟩;have HF:Hid (ToldP w0 Y Z gz gs gd pg (z.lead e ls) (N+4) w (.returned (.slice none 0 0)) w3):=by
   rw [HZL.out];exact ⟨_,Y3,Z3,w3.heap.size,rfl,(HGZ.out.trans hgz3).1.size,OwnO.nil_ _ _,fun _=>rfl,fun b hb=>(hnd.nx b hb).2,hnd,HGZ.out.trans hgz3⟩
  clear hnd hgz3 CF;go_wp2_with fail;go_ret;exact HF.out
end
end Go.Proofs.YtgjmbbkcgillcaaGreat.Zab
namespace Go.Proofs.YtgjmbbkcgillcaaGreat.PhaseG
open Go.RowKit
def RT (vals:List (Option Value)) (A:Nat→Value→World→Prop) (k:Nat) (x:Value) (W:World):Prop:=match vals[k]? with
 |some (some v)=>x=v
 |_=>A k x W
theorem RT.out {vals:List (Option Value)} {A:Nat→Value→World→Prop} {k:Nat} {x:Value} {W W':World} (h:RT vals A k x W) (hA:A k x W→A k x W'):RT vals A k x W':=by
 unfold RT at*;split at h
 ·exact h
 ·exact hA h
end Go.Proofs.YtgjmbbkcgillcaaGreat.PhaseG
