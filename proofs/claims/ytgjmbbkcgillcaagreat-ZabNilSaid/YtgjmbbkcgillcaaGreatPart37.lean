/- Lemmas, part 37: ZabPropose, ZabOpens, ZabWake1, ZabWakes -/
import Derived.Test.YtgjmbbkcgillcaaGreatPart36
set_option maxHeartbeats 16000000
namespace Go.Proofs.YtgjmbbkcgillcaaGreat.Zab
open Go.RowKit Disk Log Sto Zm Bal
open PhaseG (aB9 RT RT.out StepF StepZ StepT)
open Phase (aA0 aA2)
section
variable {w0 w w':World} {Y Z:Nat→Prop} {gz gs gd pg:Nat} {z:Zn} {N:Nat}
set_option maxRecDepth 100000 in
theorem aBv {P:Nat→Prop} (h:Nd w0 w Y Z gz gs gd pg z N) (hN:N+8<65536) (A:Option Addr) (n c:Nat) (bs:List UInt8) (hr:Rd w A n bs) (hn:n≤1000000) (hc:n≤c) (hA:∀a,A=some a→1≤n→P a.block) (hP:∀b,P b→¬Nx Y Z gz b∧b<w.heap.size):
  Calls Tryz.prog 20 #[.pointer (some ⟨gz,0,none⟩),.slice A n c] w (DidP w0 Y Z gz gs gd pg (.int .i64 (z.propose bs).2) (z.propose bs).1 (N+4) w):=by
 obtain ⟨rv,hbk,hrl⟩:=h.bk;have z3:w.cell? ⟨gz,3,none⟩=some rv:=hbk.cell 3;have CD:=Lib.hid (aCo h);have H:=Lib.hid h;have HBK:=Lib.hid hbk;have hlen:=hr.len;by_cases h1:bs.length<1∨4096<bs.length
 case pos=>
  have hz:z.propose bs=(z,1):=by unfold Zn.propose;exact if_pos h1
  have HQ:Hid (DidP w0 Y Z gz gs gd pg (.int .i64 (z.propose bs).2) (z.propose bs).1 (N+4) w (.returned (.int .i64 1)) w):=by
   rw [hz];exact ⟨Y,Z,rfl,h.mono (by omega),Gz.of_below (Below.refl _ _)⟩
  rw [hlen] at h1;clear hz h hbk hrl hr hA hP hlen;rcases (by omega:n<1∨(¬n<1∧4096<n)) with q|⟨q,q2⟩
  ·have d1:decide ((n:Int)<1)=true:=decide_eq_true (by omega);have d2:(n:Int)<1:=by omega
   go_enter Tryz.func20,Tryz.ntmps20
   go_wp2_with fail;refine CD.out.mono ?_;rintro r1 w1 ⟨rfl,rfl⟩;go_wp2_with fail;go_ret;exact HQ.out
  ·have d1:decide ((n:Int)<1)=false:=decide_eq_false (by omega);have d2:¬(n:Int)<1:=by omega
   have d3:decide ((4096:Int)<(n:Int))=true:=decide_eq_true (by omega);have d4:(4096:Int)<(n:Int):=by omega
   go_enter Tryz.func20,Tryz.ntmps20
   go_wp2_with fail;refine CD.out.mono ?_;rintro r1 w1 ⟨rfl,rfl⟩;go_wp2_with fail;go_ret;exact HQ.out
 have HB1:=Lib.hid h1;rw [hlen] at h1;have d1:decide ((n:Int)<1)=false:=decide_eq_false (by omega);have d2:¬(n:Int)<1:=by omega
 have d3:decide ((4096:Int)<(n:Int))=false:=decide_eq_false (by omega);have d4:¬(4096:Int)<(n:Int):=by omega
 have HRD0:=Lib.hid hr;have HPA:=Lib.hid hA;have HP:=Lib.hid hP;have HCAP:=Lib.hid hc;have HLEN:=Lib.hid hlen;clear h hbk hr hA hP hlen h1;have hno:(∀e base acked,z.role≠.lead e base acked true)→z.propose bs=(z,64):=fun q=>by
  unfold Zn.propose;rw [if_neg HB1.out];split
  ·next e base acked hq=>exact absurd hq (q e base acked)
  ·rfl
 cases hrole:z.role with
 |follow=>
  rw [hrole] at hrl;subst hrl;have hs:=aBr w;have HQ:Hid (DidP w0 Y Z gz gs gd pg (.int .i64 (z.propose bs).2) (z.propose bs).1 (N+4) w (.returned (.int .i64 64)) w):=by
   rw [hno (by rw [hrole];intro _ _ _ q;cases q)];exact ⟨Y,Z,rfl,H.out.mono (by omega),Gz.of_below (Below.refl _ _)⟩
  clear hno hrole;go_enter Tryz.func20,Tryz.ntmps20
  go_wp2_with fail;refine CD.out.mono ?_;rintro r1 w1 ⟨rfl,rfl⟩;go_wp2_with fail;go_ret;exact HQ.out
 |stand e=>
  rw [hrole] at hrl;obtain ⟨gp,gm,A1,c1,D,rfl,-⟩:=hrl;have hs:=aBq gp w;have HQ:Hid (DidP w0 Y Z gz gs gd pg (.int .i64 (z.propose bs).2) (z.propose bs).1 (N+4) w (.returned (.int .i64 64)) w):=by
   rw [hno (by rw [hrole];intro _ _ _ q;cases q)];exact ⟨Y,Z,rfl,H.out.mono (by omega),Gz.of_below (Below.refl _ _)⟩
  clear hno hrole;go_enter Tryz.func20,Tryz.ntmps20
  go_wp2_with fail;refine CD.out.mono ?_;rintro r1 w1 ⟨rfl,rfl⟩;go_wp2_with fail;go_ret;exact HQ.out
 |lead e base acked ready=>
  rw [hrole] at hrl;obtain ⟨gl,gm,D,rfl,hYl,hYm,hl,him⟩:=hrl;have hs:=aD1 gl w;have g3:w.cell? ⟨gl,3,none⟩=some (.bool ready):=hl.cell 3;cases ready with
  |false=>
   have HQ:Hid (DidP w0 Y Z gz gs gd pg (.int .i64 (z.propose bs).2) (z.propose bs).1 (N+4) w (.returned (.int .i64 64)) w):=by
    rw [hno (by rw [hrole];intro _ _ _ q;cases q)];exact ⟨Y,Z,rfl,H.out.mono (by omega),Gz.of_below (Below.refl _ _)⟩
   clear hno hrole hl him;go_enter Tryz.func20,Tryz.ntmps20
   go_wp2_with fail;refine CD.out.mono ?_;rintro r1 w1 ⟨rfl,rfl⟩;go_wp2_with fail;go_ret;exact HQ.out
  |true=>
   have CL:=Lib.hid (aC9 H.out);have HL:=Lib.hid hl;have HIM:=Lib.hid him;have HYL:=Lib.hid hYl;have HYM:=Lib.hid hYm;have HROLE:=Lib.hid hrole;obtain ⟨L,hL⟩:∃L,L=z.k.lines.length:=⟨_,rfl⟩;rw [←hL] at CL;have HLL:=Lib.hid hL;clear hno hrole hl him hYl hYm hL;by_cases hfull:256≤L
   case pos=>
    have hz:z.propose bs=(z,4):=by unfold Zn.propose;rw [if_neg HB1.out,HROLE.out];exact if_pos (by have:=HLL.out;omega)
    have f1:decide ((256:Int)≤(L:Int))=true:=decide_eq_true (by omega);have f2:(256:Int)≤(L:Int):=by omega
    have HQ:Hid (∀V,Below w.heap.size w V→DidP w0 Y Z gz gs gd pg (.int .i64 (z.propose bs).2) (z.propose bs).1 (N+4) w (.returned (.int .i64 4)) V):=fun V hb=>by
     rw [hz];exact ⟨Y,Z,rfl,(H.out.below_ hb).mono (by omega),Gz.of_below hb⟩
    clear hz hfull;go_enter Tryz.func20,Tryz.ntmps20
    go_wp2_with fail;refine CD.out.mono ?_;rintro r1 w1 ⟨rfl,rfl⟩;go_wp2_with fail;refine CL.out.mono ?_;rintro r2 w2 ⟨A2,c2,rfl,-,hb2⟩;have HB2:=Lib.hid hb2;clear hb2 CL;go_wp2_with fail;go_ret;exact HQ.out _ HB2.out
   have f1:decide ((256:Int)≤(L:Int))=false:=decide_eq_false (by omega);have f2:¬(256:Int)≤(L:Int):=by omega
   have hpl:=H.out.ok.role;rw [HROLE.out] at hpl;obtain ⟨hp1,hp2,hp3,hp4,hp5⟩:=hpl;have he:e≤top:=by have:=H.out.ok.fine.prom;omega
   have HHE:=Lib.hid he;have HOK5:=Lib.hid hp5;have HLAID:Hid (Laid [⟨e,bs⟩]):=⟨by simp,fun x hx=>by
    rw [List.mem_singleton] at hx;subst hx;have:=HLEN.out;have:=HB1.out;unfold top at he;show bs.length≤100000000∧e<18446744073709551616;omega⟩
   obtain ⟨av,hav⟩:∃av,av=ans (.add [⟨e,bs⟩]) z.k (pg / 2):=⟨_,rfl⟩;have HAV:=Lib.hid hav;have HPP:Hid (z.k.promised=e∧z.k.current=e∧e % z.n=z.id∧base≤z.k.lines.length):=⟨hp1,hp2,hp3,hp4⟩;have HFULL:=Lib.hid hfull;clear hav hp1 hp2 hp3 hp4 hp5 he hfull;go_enter Tryz.func20,Tryz.ntmps20
   go_wp2_with fail;refine CD.out.mono ?_;rintro r1 w1 ⟨rfl,rfl⟩;go_wp2_with fail;refine CL.out.mono ?_;rintro r2 w2 ⟨A2,c2,rfl,-,hb2⟩;have hnd2:=H.out.below_ hb2;have HSS:=Lib.hid hnd2.ss;have HBK2:=Lib.hid (HBK.out.below hb2);have HL2:=Lib.hid (HL.out.below hb2);have HIM2:=Lib.hid (HIM.out.below hb2);have HRD:=Lib.hid (HRD0.out.below hb2);have HZL:Hid (∀b,Z b→b<w2.heap.size):=fun b q=>hnd2.ss.lt b q;have HPF:Hid (∀b,P b→¬Z b∧b<w2.heap.size):=fun b q=>⟨fun t=>(HP.out b q).1 (.inr (.inr t)),Nat.lt_of_lt_of_le (HP.out b q).2 hb2.size⟩;have HB2:=Lib.hid hb2;clear hb2 hnd2 CL CD;go_wp2_with fail;refine aB9 12 20 (RT [some (.pointer (some ⟨gz,0,none⟩)),some (.pointer (some ⟨gz,0,none⟩)),some (.pointer (some ⟨gz,2,none⟩)),some (.pointer (some ⟨gs,0,none⟩)),some (.pointer (some ⟨gl,0,none⟩)),some (.pointer (some ⟨gl,0,none⟩)),some (.pointer (some ⟨gl,0,none⟩)),some (.int .u64 (e:Int)),some (.int .u64 (e:Int)),some (.slice A n c),some (.agg #[.int .u64 (e:Int),.slice A n c]),none,none,none] (fun k x W=>match k with|11=>∃g,x=.slice (some ⟨g,0,none⟩) 1 1∧w2.heap.size≤g∧Bk W g 65 #[.int .u64 (e:Int),.slice A n c]|_=>True)) (fun x W'=>x=.int .i64 av∧∃Z3,Ss w0 W' Z3 gs gd pg (thn (.add [⟨e,bs⟩]) z.k (pg / 2)) (N+4)∧Out Z w2 W'∧∀b,Z3 b→Z b∨w2.heap.size≤b) (fun k x y=>k=13→y=x) (by kernel_rfl) (by kernel_rfl) (by kernel_rfl) (by kernel_rfl) (by kernel_rfl) (by decide) ?hR ?hS1 ?hS2 ?hS3 ?F ?hF ?hE
   case hF=>
    intro v;simp only [List.length_cons,List.length_nil,Nat.zero_add,Nat.reduceAdd,PhaseG.final,List.getElem?_toArray,List.getElem?_cons_zero,List.getElem?_cons_succ,Option.bind_some,Act.put,List.setIfInBounds_toArray,List.set_cons_zero,List.set_cons_succ];exact rfl
   case hR=>
    intro k x W W' hx _ _;refine RT.out hx fun hA=>?_
    match k,hA with
    |11,⟨g,q1,q2,q3⟩=>exact ⟨g,q1,q2,q3.below ‹Below W.heap.size W W'›⟩
    |0,_=>trivial
    |1,_=>trivial
    |2,_=>trivial
    |3,_=>trivial
    |4,_=>trivial
    |5,_=>trivial
    |6,_=>trivial
    |7,_=>trivial
    |8,_=>trivial
    |9,_=>trivial
    |10,_=>trivial
    |k+12,_=>trivial
   case hS1=>
    simp only [List.take_succ_cons,List.take_zero];refine aA0 ?_ (aA0 ?_ (aA0 ?_ (aA0 ?_ (aA0 ?_ (aA0 ?_ (aA0 ?_ (aA0 ?_ (aA0 ?_ (aA0 ?_ (aA0 ?_ (aA0 ?_ (aA2))))))))))))
    ·intro a v W hd hb K hK;have k0:a.tmps.getD 0 undef=.pointer (some ⟨gz,0,none⟩):=hd.kept 0 (by kernel_rfl);have hk:=hK (.pointer (some ⟨gz,0,none⟩)) W (Below.refl _ _) rfl;clear hK;unfold Oper.wp;go_simp;exact hk
    ·intro a v W hd hb K hK;obtain ⟨h46,r46⟩:=hd.done_ 0 _ 46 (by kernel_rfl) rfl rfl;have r46:v 0=.pointer (some ⟨gz,0,none⟩):=r46;rw [r46] at h46;have hk:=hK (.pointer (some ⟨gz,0,none⟩)) W (Below.refl _ _) rfl;clear hK;unfold Oper.wp;go_simp;exact hk
    ·intro a v W hd hb K hK;obtain ⟨h47,r47⟩:=hd.done_ 1 _ 47 (by kernel_rfl) rfl rfl;have r47:v 1=.pointer (some ⟨gz,0,none⟩):=r47;rw [r47] at h47;have hk:=hK (.pointer (some ⟨gz,2,none⟩)) W (Below.refl _ _) rfl;clear hK;unfold Oper.wp;go_simp;exact hk
    ·intro a v W hd hb K hK;obtain ⟨h48,r48⟩:=hd.done_ 2 _ 48 (by kernel_rfl) rfl rfl;have r48:v 2=.pointer (some ⟨gz,2,none⟩):=r48;rw [r48] at h48;have kk:W.cell? ⟨gz,2,none⟩=some (.pointer (some ⟨gs,0,none⟩)):=(HBK2.out.below hb).cell 2;have hk:=hK (.pointer (some ⟨gs,0,none⟩)) W (Below.refl _ _) rfl;clear hK;unfold Oper.wp;go_simp;exact hk
    ·intro a v W hd hb K hK;have k5:a.tmps.getD 5 undef=.pointer (some ⟨gl,0,none⟩):=hd.kept 5 (by kernel_rfl);have hk:=hK (.pointer (some ⟨gl,0,none⟩)) W (Below.refl _ _) rfl;clear hK;unfold Oper.wp;go_simp;exact hk
    ·intro a v W hd hb K hK;obtain ⟨h50,r50⟩:=hd.done_ 4 _ 50 (by kernel_rfl) rfl rfl;have r50:v 4=.pointer (some ⟨gl,0,none⟩):=r50;rw [r50] at h50;have hk:=hK (.pointer (some ⟨gl,0,none⟩)) W (Below.refl _ _) rfl;clear hK;unfold Oper.wp;go_simp;exact hk
    ·intro a v W hd hb K hK;obtain ⟨h51,r51⟩:=hd.done_ 5 _ 51 (by kernel_rfl) rfl rfl;have r51:v 5=.pointer (some ⟨gl,0,none⟩):=r51;rw [r51] at h51;have hk:=hK (.pointer (some ⟨gl,0,none⟩)) W (Below.refl _ _) rfl;clear hK;unfold Oper.wp;go_simp;exact hk
    ·intro a v W hd hb K hK;obtain ⟨h52,r52⟩:=hd.done_ 6 _ 52 (by kernel_rfl) rfl rfl;have r52:v 6=.pointer (some ⟨gl,0,none⟩):=r52;rw [r52] at h52;have kk:W.cell? ⟨gl,0,none⟩=some (.int .u64 (e:Int)):=(HL2.out.below hb).cell 0;have hk:=hK (.int .u64 (e:Int)) W (Below.refl _ _) rfl;clear hK;unfold Oper.wp;go_simp;exact hk
    ·intro a v W hd hb K hK;obtain ⟨h53,r53⟩:=hd.done_ 7 _ 53 (by kernel_rfl) rfl rfl;have r53:v 7=.int .u64 (e:Int):=r53;rw [r53] at h53;have ct:=aB3 (e:Int) W;unfold Oper.wp;go_simp;refine ct.mono ?_;rintro e' W' ⟨rfl,rfl⟩;exact hK _ W (Below.refl _ _) rfl
    ·intro a v W hd hb K hK;have k1:a.tmps.getD 1 undef=.slice A n c:=hd.kept 1 (by kernel_rfl);have hk:=hK (.slice A n c) W (Below.refl _ _) rfl;clear hK;unfold Oper.wp;go_simp;exact hk
    ·intro a v W hd hb K hK;obtain ⟨h54,r54⟩:=hd.done_ 8 _ 54 (by kernel_rfl) rfl rfl;have r54:v 8=.int .u64 (e:Int):=r54;rw [r54] at h54;obtain ⟨h55,r55⟩:=hd.done_ 9 _ 55 (by kernel_rfl) rfl rfl;have r55:v 9=.slice A n c:=r55;rw [r55] at h55;simp only [Array.getD_eq_getD_getElem?] at h54 h55;have hk:=hK (.agg #[.int .u64 (e:Int),.slice A n c]) W (Below.refl _ _) rfl;clear hK;unfold Oper.wp;go_simp;exact hk
    ·intro a v W hd hb K hK;obtain ⟨h56,r56⟩:=hd.done_ 10 _ 56 (by kernel_rfl) rfl rfl;have r56:v 10=.agg #[.int .u64 (e:Int),.slice A n c]:=r56;rw [r56] at h56;simp only [Array.getD_eq_getD_getElem?] at h56;have hk:=hK (.slice (some ⟨W.heap.size,0,none⟩) 1 1) (W.alloc (.cells #[.int .u64 (e:Int),.slice A n c] 65)) ((Below.refl _ _).alloc (Nat.le_refl _) _) ⟨W.heap.size,rfl,hb.size,Bk.new _ _ _⟩;clear hK;unfold Oper.wp;go_simp;exact hk
   case hS2=>
    intro o ho;injection ho with ho;subst ho;intro a v W hd hb K hK;obtain ⟨h49,r49⟩:=hd.done_ 3 _ 49 (by kernel_rfl) rfl rfl;have r49:v 3=.pointer (some ⟨gs,0,none⟩):=r49;obtain ⟨h57,r57⟩:=hd.done_ 11 _ 57 (by kernel_rfl) rfl rfl;obtain ⟨g,e57,hgB,hgk⟩:=r57;rw [r49] at h49;rw [e57] at h57;have hls:LnS (fun b=>(w2.heap.size≤b∧b<W.heap.size)∨P b) W (some ⟨g,0,none⟩) 1 [⟨e,bs⟩]:=⟨rfl,fun j x hj=>by
     match j,hj with
     |0,hj=>
      injection hj with hj;subst hj;exact ⟨g,0,A,n,c,rfl,.inl ⟨hgB,hgk.lt⟩,hgk.cell 0,hgk.cell 1,HCAP.out,(HRD.out.below hb),fun a ha h0=>.inr (HPA.out a ha h0)⟩
     |j+1,hj=>simp at hj⟩
    have ct:=Lib.hid ((HSS.out.below_ hb).append (by omega) [⟨e,bs⟩] (some ⟨g,0,none⟩) 1 1 hls HLAID.out fun b q=>by
     rcases q with q|q
     ·exact ⟨fun t=>by have:=HZL.out b t;omega,q.2⟩
     ·exact ⟨(HPF.out b q).1,Nat.lt_of_lt_of_le (HPF.out b q).2 hb.size⟩)
    have HBB:=Lib.hid hb;clear hls hgk hb;unfold Oper.wp;go_simp;refine ct.out.mono ?_;rintro e' W' ⟨rfl,Z3,hs3,hg3,hz3⟩;exact hK _ W' ⟨by rw [HAV.out],Z3,hs3,((Out.of_below HBB.out).trans (X':=Z) hg3 fun k hk=>.inl hk),fun b q=>(hz3 b q).imp id fun t=>Nat.le_trans HBB.out.size t⟩
   case hS3=>
    simp only [List.drop_succ_cons,List.drop_zero];refine aA0 ?_ aA2;intro a vz W hz hE K hK;have h58:=hz _ 58 rfl rfl;have hk:=hK vz (fun _=>rfl);clear hK hE;unfold Oper.wp;go_simp;exact hk
   case hE=>
    intro v W' hE hT;have h13:v 13=v 12:=hT 13 (by decide) (by decide) rfl;obtain ⟨e12,Z3,hs3,hg3,hz3⟩:=hE;rw [e12] at h13;have hpp:=H.out.pp;have hnd2:=H.out.below_ HB2.out;have hgrow:∀b,Nx Y Z gz b→b<w2.heap.size:=fun b q=>(hnd2.nx b q).2;by_cases ha:ans (.add [⟨e,bs⟩]) z.k (pg / 2)=0
    case neg=>
     have hz:z.propose bs=(z,av):=by
      unfold Zn.propose;rw [if_neg HB1.out,HROLE.out];show (if 256≤z.k.lines.length then _ else _)=_;rw [if_neg (by have:=HLL.out;have:=HFULL.out;omega),hpp,if_neg ha,HAV.out]
     rw [aKi ha] at hs3;obtain ⟨hn3,hgz3⟩:=hnd2.same hs3 hg3 hz3;have hne:(av != 0)=true:=by rw [HAV.out];simpa using ha
     have HQ:Hid (∀V,V=W'→DidP w0 Y Z gz gs gd pg (.int .i64 (z.propose bs).2) (z.propose bs).1 (N+4) w (.returned (.int .i64 av)) V):=fun V hV=>by
      rw [hz,hV];exact ⟨Y,Z3,rfl,hn3,Gz.earlier HB2.out hgz3⟩
     clear hT hs3 hg3 hz3 hz hn3 hgz3 hpp hnd2 hgrow ha;rw [h13];go_wp2_with fail;go_ret;exact HQ.out _ rfl
    obtain ⟨hmay,hfits,hthn⟩:=aGm ha;have hk:(Deed.add [⟨e,bs⟩]).run z.k=⟨z.k.promised,z.k.current,z.k.lines++[⟨e,bs⟩]⟩:=rfl;have hkf:Fine ⟨z.k.promised,z.k.current,z.k.lines++[⟨e,bs⟩]⟩:=by have:=H.out.ok.fine.run hmay;rwa [hk] at this
    rw [hthn,hk] at hs3;obtain ⟨z2,hz2⟩:∃z2:Zn,z2={z with k:=⟨z.k.promised,z.k.current,z.k.lines++[⟨e,bs⟩]⟩,role:=.lead e base acked true}:=⟨_,rfl⟩;have hz:z.propose bs=(z2.count e base acked true,0):=by
     unfold Zn.propose;rw [if_neg HB1.out,HROLE.out];show (if 256≤z.k.lines.length then _ else _)=_;rw [if_neg (by have:=HLL.out;have:=HFULL.out;omega),if_pos (by rw [hpp];exact ha),hz2,hpp,hthn,hk]
    obtain ⟨hp1,hp2,hp3,hp4⟩:=HPP.out;have hok:=H.out.ok;have hll:(z.k.lines++([⟨e,bs⟩]:List Ln)).length=z.k.lines.length+1:=by simp
    have hokz:z2.Ok:=by
     rw [hz2];refine ⟨hok.n1,hok.n3,hok.id,hkf,hok.seen,?_,?_⟩
     ·show z.com≤(z.k.lines++([⟨e,bs⟩]:List Ln)).length;have:=hok.com;omega
     ·refine ⟨hp1,hp2,hp3,?_,fun j a hj=>?_⟩
      ·show base≤(z.k.lines++([⟨e,bs⟩]:List Ln)).length;omega
      ·obtain ⟨q1,q2,q3⟩:=HOK5.out j a hj;refine ⟨q1,q2,?_⟩;show a≤(z.k.lines++([⟨e,bs⟩]:List Ln)).length;omega
    have hg0:¬Z3 gz:=fun q=>by
     rcases hz3 gz q with q|q
     ·exact H.out.gzn.1 q
     ·have:=hgrow gz (.inl rfl);omega
    have hbk3:=HBK2.out.out hg3 H.out.gzn.1;have hl3:=HL2.out.out hg3 fun q=>(H.out.yz _ HYL.out).2.1 q;have him3:=HIM2.out.out hg3 fun q=>(H.out.yz _ HYM.out).2.1 q;have hnd3:Nd w0 W' Y Z3 gz gs gd pg z2 (N+4):=by
     refine ⟨?_,⟨.iface 89 (.pointer (some ⟨gl,0,none⟩)),?_,?_⟩,hokz,?_,H.out.low,⟨hg0,H.out.gzn.2⟩,fun b hb=>⟨(H.out.yz b hb).1,fun q=>?_,Nat.lt_of_lt_of_le (hgrow b (.inr (.inl hb))) hg3.size⟩⟩
     ·rw [hz2];exact hs3
     ·rw [hz2];exact hbk3
     ·rw [hz2];exact ⟨gl,gm,D,rfl,HYL.out,HYM.out,hl3,him3⟩
     ·rw [hz2];exact hpp
     ·rcases hz3 b q with q|q
      ·exact (H.out.yz b hb).2.1 q
      ·have:=hgrow b (.inr (.inl hb));omega
    have hgA:Gz Y Z Y Z3 gz w W':=Gz.earlier HB2.out ⟨hg3.mono fun k hk=>.inl (.inr (.inr hk)),fun b hb=>by
     rcases hb with hb|hb|hb
     ·exact .inl (.inl hb)
     ·exact .inl (.inr (.inl hb))
     ·rcases hz3 b hb with q|q
      ·exact .inl (.inr (.inr q))
      ·exact .inr q⟩
    have hrole2:z2.role=.lead e base acked true:=by rw [hz2]
    have CC:=Lib.hid (aJ5 hnd3 hrole2 (by rw [hz2];exact hbk3) HYL.out HYM.out hl3 (by rw [hz2];exact him3));have hav0:av=0:=by rw [HAV.out];exact ha
    have HZ:=Lib.hid hz;have HGA:=Lib.hid hgA;rw [hav0] at h13;clear hT hs3 hg3 hz3 hpp hnd2 hgrow ha hmay hfits hthn hk hkf hz2 hz hp1 hp2 hp3 hp4 hok hll hokz hg0 hbk3 hl3 him3 hnd3 hgA hrole2 hav0 HAV;rw [h13];go_wp2_with fail;refine CC.out.mono ?_;rintro r6 w6 ⟨⟨Y6,Z6,rfl,hn6,hg6⟩,-⟩;have HQ:Hid (DidP w0 Y Z gz gs gd pg (.int .i64 (z.propose bs).2) (z.propose bs).1 (N+4) w (.returned (.int .i64 0)) w6):=by
     rw [HZ.out];exact ⟨Y6,Z6,rfl,hn6,HGA.out.trans hg6⟩
    clear hn6 hg6 CC;go_wp2_with fail;go_ret;exact HQ.out
end
end Go.Proofs.YtgjmbbkcgillcaaGreat.Zab
namespace Go.Proofs.YtgjmbbkcgillcaaGreat.Zab
open Go.RowKit Disk Log Sto Zm Bal
theorem aOk {P:Program} {fn:Func} {t u v x:Tmp} (h:fn.results=#[.tmp t,.tmp u,.tmp v,.tmp x]) (tmps:Array Value) (w:World):
  (results fn tmps).run P w=.ok (.tuple #[tmps.getD t undef,tmps.getD u undef,tmps.getD v undef,tmps.getD x undef]) w:=by
 simp [results,h]
section
variable {w0 w w':World} {Y Z:Nat→Prop} {gz gs gd pg:Nat} {z:Zn} {N:Nat}
def OpensP (w0:World) (id n:Nat) (w:World) (e:Ending) (w':World):Prop:=∃gd gs gz Z,e=.returned (.tuple #[.pointer (some ⟨gd,0,none⟩),.pointer (some ⟨gs,0,none⟩),.pointer (some ⟨gz,0,none⟩),.int .i64 0])∧Nd w0 w' (fun _=>False) Z gz gs gd 400 (newN id n 400 Kp.zero) 0∧(∀b,Nx (fun _=>False) Z gz b→w.heap.size≤b)∧Below w.heap.size w w'
set_option maxRecDepth 100000 in
theorem aG7 (hb:Below w0.heap.size w0 w) (id n:Nat) (hid:id<n) (hn:n≤3):
  Calls Tryz.prog 11 #[.int .i64 (id:Int),.int .i64 (n:Int)] w (OpensP w0 id n w):=by
 have CN:Hid (Calls Tryz.prog 40 #[.int .i64 400] w fun e w'=>∃gd X,e=.returned (.tuple #[.pointer (some ⟨gd,0,none⟩),.int .i64 0])∧Ds w0 w' X gd 400 Kp.zero 0∧(∀b,X b→w.heap.size≤b)∧Below w.heap.size w w'):=bD4 (n:=400) (by omega) (by omega) hb;go_enter Tryz.func11,Tryz.ntmps11
 go_wp2_with fail;refine CN.out.mono ?_;rintro r1 w1 ⟨gd,X,rfl,hd1,hX1,hb1⟩;have CO:=Lib.hid (hd1.open_ (by omega));have HX1:=Lib.hid hX1;have HB1:=Lib.hid hb1;clear hd1 hX1 hb1 CN;go_wp2_with fail;refine CO.out.mono ?_;rintro r2 w2 ⟨gs,Z,rfl,hs2,hb2,hz2,-⟩;have CZ:=Lib.hid (aOx hs2 id n hid hn);have HZ2:=Lib.hid hz2;have HB2:=Lib.hid hb2;clear hs2 hb2 hz2 CO;go_wp2_with fail;refine CZ.out.mono ?_;rintro r3 w3 ⟨gz,rfl,hgz,hn3,hb3⟩;have hb12:=HB1.out.trans (HB2.out.mono HB1.out.size);have HF:Hid (OpensP w0 id n w (.returned (.tuple #[.pointer (some ⟨gd,0,none⟩),.pointer (some ⟨gs,0,none⟩),.pointer (some ⟨gz,0,none⟩),.int .i64 0])) w3):=by
  refine ⟨gd,gs,gz,Z,rfl,hn3,fun b hb=>?_,hb12.trans (hb3.mono hb12.size)⟩;rcases hb with rfl|hb|hb
  ·rw [hgz];exact hb12.size
  ·exact hb.elim
  ·rcases HZ2.out b hb with q|q
   ·exact HX1.out b q
   ·exact Nat.le_trans HB1.out.size q
 clear hgz hn3 hb3 hb12 CZ HZ2 HB2 HB1 HX1;go_wp2_with fail
 try simp only [Exit.inBlock,Exit.then]
 refine bodyPost_ret (aOk rfl _ _) rfl ?_;exact HF.out
theorem aZ9 (w:World):Calls Tryz.prog 15 #[.pointer none] w fun e w'=>e=.returned (.slice none 0 0)∧w=w':=by
 go_enter Tryz.func15,Tryz.ntmps15
 go_wp2_with fail;go_ret;exact ⟨rfl,rfl⟩
theorem aXf (i:Int) (b:Value) (w:World):Calls Tryz.prog 18 #[.pointer none,.int .i64 i,b] w fun e w'=>e=.returned (.slice none 0 0)∧w=w':=by
 go_enter Tryz.func18,Tryz.ntmps18
 go_wp2_with fail;go_ret;exact ⟨rfl,rfl⟩
theorem aPr (b:Value) (w:World):Calls Tryz.prog 20 #[.pointer none,b] w fun e w'=>e=.returned (.int .i64 8)∧w=w':=by
 go_enter Tryz.func20,Tryz.ntmps20
 go_wp2_with fail;go_ret;exact ⟨rfl,rfl⟩
theorem aM4 (w:World):Calls Tryz.prog 32 #[.pointer none] w fun e w'=>e=.returned (.slice none 0 0)∧w=w':=by
 go_enter Tryz.func32,Tryz.ntmps32
 go_wp2_with fail;go_ret;exact ⟨rfl,rfl⟩
theorem aUr (w:World):Calls Tryz.prog 36 #[.pointer none] w fun e w'=>e=.returned (.bool false)∧w=w':=by
 go_enter Tryz.func36,Tryz.ntmps36
 go_wp2_with fail;go_ret;exact ⟨rfl,rfl⟩
theorem aVp (w:World):Calls Tryz.prog 33 #[.pointer none] w fun e w'=>e=.returned (.int .u64 0)∧w=w':=by
 go_enter Tryz.func33,Tryz.ntmps33
 go_wp2_with fail;go_ret;exact ⟨rfl,rfl⟩
theorem aZ8 (w:World):Calls Tryz.prog 23 #[.pointer none] w fun e w'=>e=.returned (.bool false)∧w=w':=by
 go_enter Tryz.func23,Tryz.ntmps23
 go_wp2_with fail;go_ret;exact ⟨rfl,rfl⟩
theorem bAm (id n:Int) (w:World):Calls Tryz.prog 26 #[.int .i64 id,.int .i64 n,.pointer none] w fun e w'=>e=.returned (.tuple #[.pointer none,.int .i64 8])∧w=w':=by
 go_enter Tryz.func26,Tryz.ntmps26
 go_wp2_with fail
 go_ret2
 exact ⟨rfl,rfl⟩
end
end Go.Proofs.YtgjmbbkcgillcaaGreat.Zab
namespace Go.Proofs.YtgjmbbkcgillcaaGreat.Zab
open Go.RowKit Disk Log Sto Zm Bal
theorem aCi {z:Zn} {m:Mg} (hm:m.may) {i:Nat} (hi:i<z.n) (hii:i≠z.id):z.hear (i:Int) m.enc=z.heard i m:=by
 obtain ⟨h1,h2⟩:=bAk hm;have h3:said m.enc=m:=by unfold getM at h2;rwa [if_pos h1] at h2
 unfold Zn.hear;rw [if_neg (by omega),if_pos h1,h3];rfl
def wk0:Zn:=newN 0 3 400 Kp.zero
def wk1:Zn:=wk0.tick.1
def wk2:Zn:=wk1.tick.1
def wk3:Zn:=wk2.tick.1
def wk4:Zn:=wk3.tick.1
def mP:Mg:=prM 3 0 []
def mA0:Mg:=akM 3 0
def mA1:Mg:=akM 3 1
theorem aZ5:mP.may:=by decide
theorem aZp:mA0.may:=by decide
theorem aZj:mA1.may:=by decide
theorem wake1:wk0.tick.2=[]∧wk1.tick.2=[]∧wk2.tick.2=[]∧wk1.waited=1∧wk2.waited=2∧wk3.waited=3:=⟨by kernel_rfl,by kernel_rfl,by kernel_rfl,by kernel_rfl,by kernel_rfl,by kernel_rfl⟩
theorem wake2:wk3.tick.2.length=2∧wk4.k.promised=3:=⟨by kernel_rfl,by kernel_rfl⟩
theorem bC6:best [0,-1,-1]=-1:=by simp [best,List.mergeSort,List.MergeSort.Internal.splitInTwo]
theorem bCa:best [0,0,-1]=0:=by simp [best,List.mergeSort,List.MergeSort.Internal.splitInTwo]
theorem bC9:best [1,0,-1]=0:=by simp [best,List.mergeSort,List.MergeSort.Internal.splitInTwo]
theorem bCc:best [1,1,-1]=1:=by simp [best,List.mergeSort,List.MergeSort.Internal.splitInTwo]
def wk5:Zn:=⟨0,3,200,⟨3,3,[]⟩,.lead 3 0 none_ false,3,0,0⟩
def wk6:Zn:=⟨0,3,200,⟨3,3,[]⟩,.lead 3 0 (setA none_ 1 0) true,3,0,0⟩
def wk7:Zn:=⟨0,3,200,⟨3,3,[⟨3,[97]⟩]⟩,.lead 3 0 (setA none_ 1 0) true,3,0,0⟩
def wk8:Zn:=⟨0,3,200,⟨3,3,[⟨3,[97]⟩]⟩,.lead 3 0 (setA (setA none_ 1 0) 1 1) true,3,0,1⟩
theorem wake3:wk4.heard 1 mP=(wk5,[⟨1,adM 3 []⟩,⟨2,adM 3 []⟩]):=by
 have h1:wk4.heard 1 mP=(let z1:=wk5.count 3 0 none_ false;(z1,Zab.remind z1 3 none_)):=by kernel_rfl
 have h2:wk5.count 3 0 none_ false=wk5:=by
  have:aDb wk5.id wk5.n wk5.k.lines.length none_=-1:=bC6;unfold Zn.count;rw [this,if_neg (by decide)];rfl
 rw [h1,h2];rfl
theorem wake4:wk5.heard 1 mA0=(wk6,[]):=by
 have h1:wk5.heard 1 mA0=(wk5.count 3 0 (setA none_ 1 0) false,[]):=by kernel_rfl
 have:aDb wk5.id wk5.n wk5.k.lines.length (setA none_ 1 0)=0:=bCa;rw [h1];unfold Zn.count;rw [this,if_pos (by decide)];rfl
theorem wake5:wk6.leads=true:=rfl
theorem wake6:wk6.propose [97]=(wk7,0):=by
 have h1:wk6.propose [97]=(wk7.count 3 0 (setA none_ 1 0) true,0):=by kernel_rfl
 have:aDb wk7.id wk7.n wk7.k.lines.length (setA none_ 1 0)=0:=bC9;rw [h1];unfold Zn.count;rw [this,if_pos (by decide)];rfl
theorem wake7:wk7.heard 1 mA1=(wk8,[]):=by
 have h1:wk7.heard 1 mA1=(wk7.count 3 0 (setA (setA none_ 1 0) 1 1) true,[]):=by kernel_rfl
 have:aDb wk7.id wk7.n wk7.k.lines.length (setA (setA none_ 1 0) 1 1)=1:=bCc;rw [h1];unfold Zn.count;rw [this,if_pos (by decide)];rfl
theorem aZn:wk4.n=3∧wk4.id=0:=⟨by kernel_rfl,by kernel_rfl⟩
def MsgP (bs:List UInt8) (w:World) (e:Ending) (w':World):Prop:=∃A n c,e=.returned (.slice A n c)∧n=bs.length∧Rd w' A n bs∧Below w.heap.size w w'
set_option maxRecDepth 100000 in
theorem aCy (m:Mg) (hm:m.may) (hl:m.lines=[]) (w:World):Calls Tryz.prog 37 #[.agg (mgC m none 0 0)] w (MsgP m.enc w):=by
 obtain ⟨W,hW⟩:∃W,W=w.alloc (.cells (mgC m none 0 0) 36):=⟨_,rfl⟩;have hb0:Below w.heap.size w W:=by rw [hW];exact (Below.refl _ _).alloc (Nat.le_refl _) _
 have hbm:Bk W w.heap.size 36 (mgC m none 0 0):=by rw [hW];exact Bk.new _ _ _
 obtain ⟨t1,t2,t3,t4,t5,t6,t7,t8,t9,_⟩:=id hm;have hok:m.Ok:=⟨by omega,by unfold top at t4;omega,by unfold top at t4;omega,by omega,by omega,by omega,by omega,by rw [hl];simp,fun x hx=>by rw [hl] at hx;cases hx⟩;have CP:=Lib.hid (aPe (P:=fun _=>True) none 0 0 m W hok (by rw [hl];exact LnS.nil_ _ _ _) hm);have m0:W.cell? ⟨w.heap.size,0,none⟩=some (.int .u8 (m.kind:Int)):=hbm.cell 0;have m1:W.cell? ⟨w.heap.size,1,none⟩=some (.int .u64 (m.epoch:Int)):=hbm.cell 1;have m2:W.cell? ⟨w.heap.size,2,none⟩=some (.int .u64 (m.current:Int)):=hbm.cell 2;have m3:W.cell? ⟨w.heap.size,3,none⟩=some (.int .i64 m.at_):=hbm.cell 3;have m4:W.cell? ⟨w.heap.size,4,none⟩=some (.int .i64 m.commit):=hbm.cell 4;have m5:W.cell? ⟨w.heap.size,5,none⟩=some (.slice none 0 0):=hbm.cell 5;have hw:w.alloc (.cells #[.int .u8 (m.kind:Int),.int .u64 (m.epoch:Int),.int .u64 (m.current:Int),.int .i64 m.at_,.int .i64 m.commit,.slice none 0 0] 36)=W:=hW.symm;have HB0:=Lib.hid hb0;unfold mgC at CP ⊢;clear hW hbm hb0 hok hl t1 t2 t3 t4 t5 t6 t7 t8 t9;go_enter Tryz.func37,Tryz.ntmps37
 go_wp2_with fail;refine CP.out.mono ?_;rintro r1 w1 ⟨A,n,c,rfl,hn,-,ho,hb1⟩;subst hn;have hrd:=(Rd.of_own ho).1;have HF:Hid (MsgP m.enc w (.returned (.slice A m.enc.length c)) w1):=⟨A,_,c,rfl,rfl,hrd,HB0.out.trans (hb1.mono HB0.out.size)⟩;clear ho hb1 hrd CP m0 m1 m2 m3 m4 m5;go_wp2_with fail;go_ret;exact HF.out
end Go.Proofs.YtgjmbbkcgillcaaGreat.Zab
namespace Go.Proofs.YtgjmbbkcgillcaaGreat.Zab
open Go.RowKit Disk Log Sto Zm Bal
set_option maxRecDepth 100000 in
theorem aOc (w:World):Calls Tryz.prog 12 #[] w fun e w'=>e=.returned (.bool true)∧Below w.heap.size w w':=by
 have CO:Hid (Calls Tryz.prog 11 #[.int .i64 0,.int .i64 3] w (OpensP w 0 3 w)):=aG7 (Below.refl _ _) 0 3 (by omega) (by omega);go_enter Tryz.func12,Tryz.ntmps12
 go_wp2_with fail;refine CO.out.mono ?_;rintro r0 w0 ⟨gd,gs,gz,Z0,rfl,hn0,-,-⟩;have hn0:Nd w w0 (fun _=>False) Z0 gz gs gd 400 wk0 0:=hn0;have C1:=Lib.hid (aFr hn0 (by omega) (by show 0<1000000;omega));clear hn0 CO;go_wp2_with fail;refine C1.out.mono ?_;rintro r1 w1 ⟨v1,Y1,Z1,B1,rfl,-,-,hv1,-,hn1,-⟩;obtain rfl:=hv1 wake1.1;have hn1:Nd w w1 Y1 Z1 gz gs gd 400 wk1 8:=hn1;have C2:=Lib.hid (aFr hn1 (by omega) (by rw [wake1.2.2.2.1];omega));clear hv1 hn1 C1;go_wp2_with fail;refine C2.out.mono ?_;rintro r2 w2 ⟨v2,Y2,Z2,B2,rfl,-,-,hv2,-,hn2,-⟩;obtain rfl:=hv2 wake1.2.1;have hn2:Nd w w2 Y2 Z2 gz gs gd 400 wk2 16:=hn2;have C3:=Lib.hid (aFr hn2 (by omega) (by rw [wake1.2.2.2.2.1];omega));clear hv2 hn2 C2;go_wp2_with fail;refine C3.out.mono ?_;rintro r3 w3 ⟨v3,Y3,Z3,B3,rfl,-,-,hv3,-,hn3,-⟩;obtain rfl:=hv3 wake1.2.2.1;have hn3:Nd w w3 Y3 Z3 gz gs gd 400 wk3 24:=hn3;have C4:=Lib.hid (aFr hn3 (by omega) (by rw [wake1.2.2.2.2.2];omega));clear hv3 hn3 C3;go_wp2_with fail;refine C4.out.mono ?_;rintro r4 w4 ⟨v4,Y4,Z4,B4,rfl,-,ho4,-,-,hn4,-⟩;obtain ⟨A4,c4,rfl,-,-⟩:=ho4.form;rw [aEv,wake2.1];have hn4:Nd w w4 Y4 Z4 gz gs gd 400 wk4 32:=hn4;have CE:=Lib.hid (aO1 hn4);rw [wake2.2] at CE;have HN4:=Lib.hid hn4;clear ho4 hn4 C4;go_wp2_with fail;refine CE.out.mono ?_;rintro r5 w5 ⟨rfl,hb5⟩;have hn5:=HN4.out.below_ hb5;have CM:Hid (Calls Tryz.prog 37 #[.agg #[.int .u8 2,.int .u64 3,.int .u64 0,.int .i64 0,.int .i64 0,.slice none 0 0]] w5 (MsgP mP.enc w5)):=aCy mP aZ5 rfl w5;have HN5:=Lib.hid hn5;clear hb5 hn5 HN4 CE;go_wp2_with fail;refine CM.out.mono ?_;rintro r6 w6 ⟨A6,n6,c6,rfl,hl6,hr6,hb6⟩;have hn6:=HN5.out.below_ hb6;have hc6:=aCk hn6 (by omega) 1 A6 n6 c6 mP.enc hr6 (by rw [hl6];decide);have he6:wk4.hear 1 mP.enc=(wk5,[⟨1,adM 3 []⟩,⟨2,adM 3 []⟩]):=(aCi (i:=1) aZ5 (by rw [aZn.1];omega) (by rw [aZn.2];omega)).trans wake3;rw [he6] at hc6;have C6:=Lib.hid hc6;clear hl6 hr6 hb6 hn6 hc6 he6 CM HN5;go_wp2_with fail;refine C6.out.mono ?_;rintro r7 w7 ⟨v7,Y7,Z7,B7,rfl,-,ho7,-,-,hn7,-⟩;obtain ⟨A7,c7,rfl,-,-⟩:=ho7.form;rw [aEv];have hn7:Nd w w7 Y7 Z7 gz gs gd 400 wk5 36:=hn7;have CM:Hid (Calls Tryz.prog 37 #[.agg #[.int .u8 6,.int .u64 3,.int .u64 0,.int .i64 0,.int .i64 0,.slice none 0 0]] w7 (MsgP mA0.enc w7)):=aCy mA0 aZp rfl w7;have HN7:=Lib.hid hn7;clear ho7 hn7 C6;go_wp2_with fail;refine CM.out.mono ?_;rintro r8 w8 ⟨A8,n8,c8,rfl,hl8,hr8,hb8⟩;have hn8:=HN7.out.below_ hb8;have hc8:=aCk hn8 (by omega) 1 A8 n8 c8 mA0.enc hr8 (by rw [hl8];decide);have he8:wk5.hear 1 mA0.enc=(wk6,[]):=(aCi (z:=wk5) (i:=1) aZp (by decide) (by decide)).trans wake4;rw [he8] at hc8;have C8:=Lib.hid hc8;clear hl8 hr8 hb8 hn8 hc8 he8 CM HN7;go_wp2_with fail;refine C8.out.mono ?_;rintro r9 w9 ⟨v9,Y9,Z9,B9,rfl,-,-,hv9,-,hn9,-⟩;obtain rfl:=hv9 rfl;have hn9:Nd w w9 Y9 Z9 gz gs gd 400 wk6 40:=hn9;have CL:=Lib.hid (aK4 hn9);rw [wake5] at CL;have HN9:=Lib.hid hn9;clear hv9 hn9 C8;go_wp2_with fail;refine CL.out.mono ?_;rintro r10 w10 ⟨rfl,rfl⟩;obtain ⟨X9,hX9⟩:∃X9,X9=w9.alloc (.cells #[.int .u8 97] 5 (1,2)):=⟨_,rfl⟩;have hw9:w9.alloc (.cells #[.int .u8 97] 5 (1,2))=X9:=hX9.symm;have hcv:=aDg;have hb9:Below w9.heap.size w9 X9:=by rw [hX9];exact (Below.refl _ _).alloc (Nat.le_refl _) _
 have hs9:X9.heap.size=w9.heap.size+1:=by rw [hX9,World.size_alloc]
 have hc9:X9.cell? ⟨w9.heap.size,0,none⟩=some (.int .u8 97):=by
  rw [hX9];unfold World.cell? World.alloc;simp
 have hr9:Rd X9 (some ⟨w9.heap.size,0,none⟩) 1 [97]:=⟨rfl,fun _=>⟨_,rfl,fun j b hj=>by
  match j,hj with
  |0,hj=>injection hj with hj;subst hj;exact hc9
  |j+1,hj=>simp at hj⟩⟩
 have hn9:=HN9.out.below_ hb9;have hp9:=aBv (P:=fun b=>b=w9.heap.size) hn9 (by omega) (some ⟨w9.heap.size,0,none⟩) 1 1 [97] hr9 (by omega) (by omega) (fun a ha _=>by injection ha with ha;subst ha;rfl) (fun b hb=>by
  subst hb;exact ⟨fun q=>by have:=(HN9.out.nx _ q).2;omega,by omega⟩)
 rw [wake6] at hp9;have CP:=Lib.hid hp9;clear CL hb9 hs9 hc9 hr9 hn9 hp9 hX9 HN9;go_wp2_with fail;refine CP.out.mono ?_;rintro r11 w11 ⟨Y11,Z11,rfl,hn11,-⟩;have hn11:Nd w w11 Y11 Z11 gz gs gd 400 wk7 44:=hn11;have CC:=Lib.hid (aCm hn11);have HN11:=Lib.hid hn11;clear hn11 CP;go_wp2_with fail;refine CC.out.mono ?_;rintro r12 w12 ⟨A12,c12,rfl,-,hb12⟩;have e12:wk7.com=0:=rfl;rw [e12];have hn12:=HN11.out.below_ hb12;have CM:Hid (Calls Tryz.prog 37 #[.agg #[.int .u8 6,.int .u64 3,.int .u64 0,.int .i64 1,.int .i64 0,.slice none 0 0]] w12 (MsgP mA1.enc w12)):=aCy mA1 aZj rfl w12;have HN12:=Lib.hid hn12;clear e12 hb12 hn12 CC HN11;go_wp2_with fail;refine CM.out.mono ?_;rintro r13 w13 ⟨A13,n13,c13,rfl,hl13,hr13,hb13⟩;have hn13:=HN12.out.below_ hb13;have hc13:=aCk hn13 (by omega) 1 A13 n13 c13 mA1.enc hr13 (by rw [hl13];decide);have he13:wk7.hear 1 mA1.enc=(wk8,[]):=(aCi (z:=wk7) (i:=1) aZj (by decide) (by decide)).trans wake7;rw [he13] at hc13;have C13:=Lib.hid hc13;clear hl13 hr13 hb13 hn13 hc13 he13 CM HN12;go_wp2_with fail;refine C13.out.mono ?_;rintro r14 w14 ⟨v14,Y14,Z14,B14,rfl,-,-,-,-,hn14,-⟩;have CC:=Lib.hid (aCm hn14);have HN14:=Lib.hid hn14;clear hn14 C13;go_wp2_with fail;refine CC.out.mono ?_;rintro r15 w15 ⟨A15,c15,rfl,hl15,hb15⟩;have hB:=(HN14.out.below_ hb15).below;have hl15:LnS _ w15 A15 1 [⟨3,[97]⟩]:=hl15;obtain ⟨b,o,B,mm,cc,rfl,-,-,hq2,-,hrd,-⟩:=hl15.at_ 0 ⟨3,[97]⟩ rfl;have hq2:w15.cell? ⟨b,o+1,none⟩=some (.slice B mm cc):=by simpa using hq2
 have hcs:(convert 37 9 (.slice B mm cc)).run Tryz.prog w15=.ok (.string ⟨#[97]⟩) w15:=aB1 hrd cc;have e15:wk8.com=1:=rfl;rw [e15];have HB:=Lib.hid hB;clear e15 hrd hb15 hl15 hB CC HN14 hcv hw9;go_wp2_with fail;go_ret;exact ⟨rfl,HB.out⟩
end Go.Proofs.YtgjmbbkcgillcaaGreat.Zab
