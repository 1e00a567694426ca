/- Lemmas, part 36: ZabHearAppend, ZabHearings, ZabHeard, ZabHear -/
import Derived.Test.YtgjmbbkcgillcaaGreatPart35
import Derived.Test.YtgjmbbkcgillcaaGreatPart3
import Derived.Test.YtgjmbbkcgillcaaGreatPart32
import Derived.Test.YtgjmbbkcgillcaaGreatPart26
set_option maxHeartbeats 16000000
namespace Go.Proofs.YtgjmbbkcgillcaaGreat.Zab
open Go.RowKit Disk Log Sto Zm Bal
section
variable {w0 w w':World} {Y Z:Nat→Prop} {gz gs gd pg:Nat} {z:Zn} {N:Nat}
set_option maxRecDepth 100000 in
theorem aKb {P:Nat→Prop} (h:Nd w0 w Y Z gz gs gd pg z N) (hN:N+8<65536) (i:Nat) {m:Mg} {A:Option Addr} {c:Nat} (hm:Hrd w P Y Z gz m A c):
  Calls Tryz.prog 94 #[.pointer (some ⟨gz,0,none⟩),.int .i64 (i:Int),.agg (mgC m A m.lines.length c)] w (ToldP w0 Y Z gz gs gd pg (z.hearAppend i m) (N+4) w):=by
 obtain ⟨W,hW⟩:∃W,W=w.alloc (.cells (mgC m A m.lines.length c) 36):=⟨_,rfl⟩;have hb0:Below w.heap.size w W:=by rw [hW];exact (Below.refl _ _).alloc (Nat.le_refl _) _
 have hbm:Bk W w.heap.size 36 (mgC m A m.lines.length c):=by rw [hW];exact Bk.new _ _ _
 obtain ⟨rv,hbk,hr⟩:=h.bk;have hbk0:=hbk.below hb0;have z2:W.cell? ⟨gz,2,none⟩=some (.pointer (some ⟨gs,0,none⟩)):=hbk0.cell 2;have hw:w.alloc (.cells #[.int .u8 (m.kind:Int),.int .u64 (m.epoch:Int),.int .u64 (m.current:Int),.int .i64 m.at_,.int .i64 m.commit,.slice A m.lines.length c] 36)=W:=hW.symm;have CK:=Lib.hid (h.ss.below_ hb0).kept;have hme:m.epoch≤top:=hm.may.2.2.2.1;have HF0:Hid (Zn.hearAppend z i m=Zn.hearAppend z i m):=rfl;have HB0:=Lib.hid hb0;have HBM:=Lib.hid hbm;have HBK0:=Lib.hid hbk0;have H:=Lib.hid h;have HM:=Lib.hid hm;unfold mgC;clear hW hbm hb0 h hm hbk hbk0 hr;go_enter Tryz.func94,Tryz.ntmps94
 go_wp2_with fail;refine CK.out.mono ?_;rintro r1 w1 ⟨B,d,rfl,ho1,hb1⟩;obtain ⟨W1,hW1⟩:∃W1,W1=w1.alloc (.cells #[.int .u64 (z.k.promised:Int),.int .u64 (z.k.current:Int),.slice B z.k.lines.length d] 69):=⟨_,rfl⟩;have hb2:Below w1.heap.size w1 W1:=by rw [hW1];exact (Below.refl _ _).alloc (Nat.le_refl _) _
 have hk1:Bk W1 w1.heap.size 69 #[.int .u64 (z.k.promised:Int),.int .u64 (z.k.current:Int),.slice B z.k.lines.length d]:=by rw [hW1];exact Bk.new _ _ _
 have hb02:Below W.heap.size W W1:=hb1.trans (hb2.mono hb1.size);have hbw:Below w.heap.size w W1:=HB0.out.trans (hb02.mono HB0.out.size);have hbm1:=HBM.out.below hb02;have hbk1:=HBK0.out.below hb02;have p0:W1.cell? ⟨w1.heap.size,0,none⟩=some (.int .u64 (z.k.promised:Int)):=hk1.cell 0;have p1:W1.cell? ⟨w1.heap.size,1,none⟩=some (.int .u64 (z.k.current:Int)):=hk1.cell 1;have m1:W1.cell? ⟨w.heap.size,1,none⟩=some (.int .u64 (m.epoch:Int)):=hbm1.cell 1;have y2:W1.cell? ⟨gz,2,none⟩=some (.pointer (some ⟨gs,0,none⟩)):=hbk1.cell 2;have hw1:w1.alloc (.cells #[.int .u64 (z.k.promised:Int),.int .u64 (z.k.current:Int),.slice B z.k.lines.length d] 69)=W1:=hW1.symm;have CO:=Lib.hid (aMi (H.out.below_ hbw) (i:Int) m.epoch);have HLN:=Lib.hid (ho1.lns.below hb2);have HK1:=Lib.hid hk1;have HBW:=Lib.hid hbw;have HBK1:=Lib.hid hbk1;have HBM1:=Lib.hid hbm1;have HW1:Hid (W.heap.size≤w1.heap.size):=hb1.size;clear hW1 hb2 hk1 hb02 hbw hbm1 hbk1 ho1 hb1 CK HF0 z2;by_cases hown:m.epoch % z.n=i
 case neg=>
  have hz:z.hearAppend i m=(z,[]):=by unfold Zn.hearAppend;rw [if_pos hown]
  have hob:((((m.epoch % z.n:Nat)):Int)==(i:Int))=false:=by rw [beq_eq_false_iff_ne];omega
  rw [hob] at CO;have HZ:=Lib.hid hz;unfold kpV;clear hob hz hown;go_wp2_with fail;refine CO.out.mono ?_;rintro r2 w2 ⟨rfl,rfl⟩;go_wp2_with fail;go_ret;rw [HZ.out];exact (aAe (H.out.mono (M:=N+4) (by omega)) HBW.out)
 have hob:((((m.epoch % z.n:Nat)):Int)==(i:Int))=true:=by rw [beq_iff_eq];omega
 rw [hob] at CO;clear hob;by_cases hle:m.epoch<z.k.promised
 case pos=>
  have hz:z.hearAppend i m=(z,one i (reM z.k.promised)):=by unfold Zn.hearAppend;rw [if_neg (by omega),if_pos hle]
  have hlb:decide ((m.epoch:Int)<(z.k.promised:Int))=true:=decide_eq_true (by omega);have hli:(m.epoch:Int)<(z.k.promised:Int):=by omega
  have hpt:z.k.promised<18446744073709551616:=by have:=H.out.ok.fine.prom;unfold top at this;omega
  have CR:=Lib.hid (aGe (.pointer (some ⟨gz,0,none⟩)) i z.k.promised W1 hpt);have HZ:=Lib.hid hz;unfold kpV;clear hz hown hle hpt;go_wp2_with fail;refine CO.out.mono ?_;rintro r2 w2 ⟨rfl,rfl⟩;go_wp2_with fail;refine CR.out.mono ?_;intro r3 w3 ht;have HF:=Lib.hid (aBs ((H.out.below_ HBW.out).mono (M:=N+4) (by omega)) (Gz.of_below HBW.out) ht);obtain ⟨v,rfl,-,-⟩:=ht;clear CR CO;go_wp2_with fail;go_ret;rw [HZ.out];exact HF.out
 have HLE:=Lib.hid hle;have HOW:=Lib.hid hown;have H0:=H;have m3:W1.cell? ⟨w.heap.size,3,none⟩=some (.int .i64 m.at_):=HBM1.out.cell 3;have m4:W1.cell? ⟨w.heap.size,4,none⟩=some (.int .i64 m.commit):=HBM1.out.cell 4;have m5:W1.cell? ⟨w.heap.size,5,none⟩=some (.slice A m.lines.length c):=HBM1.out.cell 5;have hlb:decide ((m.epoch:Int)<(z.k.promised:Int))=false:=decide_eq_false (by omega);have hli:¬(m.epoch:Int)<(z.k.promised:Int):=by omega
 by_cases hep:m.epoch=z.k.promised
 case neg=>
  have hz:z.hearAppend i m=(z,[]):=by unfold Zn.hearAppend;rw [if_neg (fun q=>q hown),if_neg hle,if_pos (.inl hep)]
  have hbe:((m.epoch:Int) != (z.k.promised:Int))=true:=by rw [bne_iff_ne];omega
  have hbn:¬(m.epoch:Int)=(z.k.promised:Int):=by omega
  have HZ:=Lib.hid hz;unfold kpV;clear hz hown hle hep;go_wp2_with fail;refine CO.out.mono ?_;rintro r2 w2 ⟨rfl,rfl⟩;go_wp2_with fail;go_ret;rw [HZ.out];exact (aAe (H0.out.mono (M:=N+4) (by omega)) HBW.out)
 have HEP:=Lib.hid hep;rw [←hep] at p0;have hlb:decide ((m.epoch:Int)<(m.epoch:Int))=false:=by simp
 have hpn:((m.epoch:Int) != (m.epoch:Int))=false:=by simp
 clear hlb hli hep;by_cases hec:m.epoch=z.k.current
 case neg=>
  have hz:z.hearAppend i m=(z,[]):=by unfold Zn.hearAppend;rw [if_neg (fun q=>q hown),if_neg hle,if_pos (.inr hec)]
  have hbe:((m.epoch:Int) != (z.k.current:Int))=true:=by rw [bne_iff_ne];omega
  have hbn:¬(m.epoch:Int)=(z.k.current:Int):=by omega
  have HZ:=Lib.hid hz;unfold kpV;clear hz hown hle hec;go_wp2_with fail;refine CO.out.mono ?_;rintro r2 w2 ⟨rfl,rfl⟩;go_wp2_with fail;go_ret;rw [HZ.out];exact (aAe (H0.out.mono (M:=N+4) (by omega)) HBW.out)
 have HEC:=Lib.hid hec;rw [←hec] at p1;clear hec hown hle;have CF:=Lib.hid (aCa HBK1.out);have hat:0≤m.at_∧m.at_≤256∧0≤m.commit∧m.commit≤256∧m.lines.length≤256:=by obtain ⟨_,_,_,_,_,q1,q2,q3,q4,q5,_⟩:=HM.out.may;exact ⟨q1,q2,q3,q4,q5⟩
 have hkl:=H0.out.ok.fine.many;have hcap:=HM.out.cap;unfold kpV;go_wp2_with fail;refine CO.out.mono ?_;rintro r2 w2 ⟨rfl,rfl⟩;go_wp2_with fail;refine CF.out.mono ?_;rintro r3 w3 ⟨rfl,hb3,ho3⟩;have hgs:gz<w.heap.size:=(H0.out.nx gz (.inl rfl)).2;have hgs1:w.heap.size≤w1.heap.size:=Nat.le_trans HB0.out.size HW1.out;have hk3:=HK1.out.out ho3 (by omega);have hbm3:=HBM1.out.out ho3 (by omega);have p2:w3.cell? ⟨w1.heap.size,2,none⟩=some (.slice B z.k.lines.length d):=hk3.cell 2;have n1:w3.cell? ⟨w.heap.size,1,none⟩=some (.int .u64 (m.epoch:Int)):=hbm3.cell 1;have n3:w3.cell? ⟨w.heap.size,3,none⟩=some (.int .i64 m.at_):=hbm3.cell 3;have n4:w3.cell? ⟨w.heap.size,4,none⟩=some (.int .i64 m.commit):=hbm3.cell 4;have n5:w3.cell? ⟨w.heap.size,5,none⟩=some (.slice A m.lines.length c):=hbm3.cell 5;have x2:w3.cell? ⟨gz,2,none⟩=some (.pointer (some ⟨gs,0,none⟩)):=hb3.cell 2;have hs3:Ss w0 w3 Z gs gd pg z.k N:=(H0.out.ss.below_ HBW.out).out ho3 fun b hb=>by rw [hb];exact ⟨H0.out.gzn.1,H0.out.low⟩
 have hok:=H0.out.ok;have hn3:Nd w0 w3 Y Z gz gs gd pg z.follow N:=⟨hs3,⟨_,hb3,rfl⟩,hok.follow,H0.out.pp,H0.out.low,H0.out.gzn,fun b hb=>⟨(H0.out.yz b hb).1,(H0.out.yz b hb).2.1,Nat.lt_of_lt_of_le (Nat.lt_of_lt_of_le (H0.out.yz b hb).2.2 HBW.out.size) ho3.size⟩⟩;have hg3:Gz Y Z Y Z gz w w3:=Gz.earlier HBW.out ⟨ho3.mono fun k hk=>.inl (.inl hk),fun b hb=>.inl hb⟩;have hl3:LnS P w3 A m.lines.length m.lines:=(HM.out.lns.below HBW.out).out ho3 fun b hb q=>(HM.out.far b hb).1 (.inl q);obtain ⟨L,hL⟩:∃L,L=z.k.lines.length:=⟨_,rfl⟩;obtain ⟨M,hM⟩:∃M,M=m.lines.length:=⟨_,rfl⟩;rw [←hL] at p2 hkl;rw [←hM] at n5 hcap hat;have HN3:=Lib.hid hn3;have HG3:=Lib.hid hg3;have HL3:=Lib.hid hl3;have HB3:=Lib.hid hb3;have HS3:=Lib.hid hs3;have HBM3:=Lib.hid hbm3;have HLL:=Lib.hid hL;have HMM:=Lib.hid hM;clear hk3 hbm3 hs3 hok hn3 hg3 hl3 hb3 ho3 CF CO hgs1 hL hM m1 m3 m4 m5 p0 p1;by_cases hlt:m.at_≤(L:Int)
 case neg=>
  have hz:z.hearAppend i m=(z.follow,[]):=by unfold Zn.hearAppend;rw [if_neg (fun q=>q HOW.out),if_neg HLE.out,if_neg (by rintro (q|q);exact q HEP.out;exact q HEC.out),if_pos (by have:=HLL.out;omega)]
  have hgb:decide ((L:Int)<m.at_)=true:=decide_eq_true (by omega);have hgi:(L:Int)<m.at_:=by omega
  have HF:Hid (ToldP w0 Y Z gz gs gd pg (z.hearAppend i m) (N+4) w (.returned (.slice none 0 0)) w3):=by
   rw [hz];exact ⟨_,Y,Z,w3.heap.size,rfl,HG3.out.1.size,OwnO.nil_ _ _,fun _=>rfl,fun b hb=>(HN3.out.nx b hb).2,HN3.out.mono (by omega),HG3.out⟩
  clear hz hlt;go_wp2_with fail;go_ret;exact HF.out
 have hgb:decide ((L:Int)<m.at_)=false:=decide_eq_false (by omega);have hgi:¬(L:Int)<m.at_:=by omega
 obtain ⟨o1,ho1⟩:∃o1,o1=L - m.at_.toNat:=⟨_,rfl⟩;obtain ⟨o,ho⟩:∃o,o=min o1 M:=⟨_,rfl⟩;have hsub:IntKind.i64.wrap ((L:Int) - m.at_)=(o1:Int):=by rw [IntWalk.i64_in _ (by omega)];omega
 have hsub2:(L:Int) - m.at_=(o1:Int):=by omega
 have hmin:min (o1:Int) (M:Int)=(o:Int):=by omega
 have hoM:o≤M:=by omega
 have hfr:m.lines.drop o1=m.lines.drop o:=by
  rw [ho];rcases Nat.le_total o1 M with q|q
  ·rw [Nat.min_eq_left q]
  ·rw [Nat.min_eq_right q,List.drop_eq_nil_of_le (by have:=HMM.out;omega),List.drop_eq_nil_of_le (by have:=HMM.out;omega)]
 have HFR:=Lib.hid hfr;have HO1:=Lib.hid ho1;clear hfr ho1 ho hlt;have hthr:¬(m.epoch<z.k.promised)∧¬(m.epoch≠z.k.promised∨m.epoch≠z.k.current)∧¬(z.k.lines.length<m.at_.toNat)∧m.lines.drop (z.k.lines.length - m.at_.toNat)=m.lines.drop o:=⟨HLE.out,(by rintro (q|q);exact q HEP.out;exact q HEC.out),(by have:=HLL.out;omega),by rw [←HFR.out,HO1.out,HLL.out]⟩;have HTHR:=Lib.hid hthr;clear hthr;by_cases hom:o=M
 case pos=>
  have hz:z.hearAppend i m=({z.follow with k:=z.k,com:=max z.com (min m.commit.toNat L)},one i (akM m.epoch L)):=by
   obtain ⟨t1,t2,t3,t4⟩:=HTHR.out;unfold Zn.hearAppend;rw [if_neg (fun q=>q HOW.out),if_neg t1,if_neg t2,if_neg t3,HLL.out];show (if m.lines.drop (z.k.lines.length - m.at_.toNat)=[] then _ else _)=_;rw [t4,if_pos (List.drop_eq_nil_of_le (by have:=HMM.out;omega))];rfl
  have HZ:=Lib.hid hz;have hMo:M - o=0:=by omega
  have HLH:Hid (L=(z.k).lines.length):=HLL.out;have hkf:Fine z.k:=H0.out.ok.fine;have HKF:=Lib.hid hkf;have HBW:=HB3;have HMW:=HBM3;have HSW:Hid (Ss w0 w3 Z gs gd pg z.k (N+4)):=HS3.out.mono (by omega);have HGW:=HG3;have HGN:Hid (¬Z gz):=H0.out.gzn.1;have HYW:Hid (∀b,Y b→¬Z b∧b<w3.heap.size):=fun b hb=>(HN3.out.yz b hb).2;have HKC:Hid (z.com≤z.k.lines.length):=H0.out.ok.com;clear hkf;clear hz hom;by_cases hco:c=o
  ·have z6:w3.cell? ⟨gz,6,none⟩=some (.int .i64 (z.com:Int)):=HBW.out.cell 6;have f6:=HBW.out.frozen 6;have k4:w3.cell? ⟨w.heap.size,4,none⟩=some (.int .i64 m.commit):=HMW.out.cell 4;obtain ⟨cm,hcm⟩:∃cm,cm=min m.commit.toNat L:=⟨_,rfl⟩;obtain ⟨nc,hnc⟩:∃nc,nc=max z.com cm:=⟨_,rfl⟩;have hmn:min m.commit (L:Int)=(cm:Int):=by omega
   have HCM:=Lib.hid hcm;have HNC:=Lib.hid hnc;have hmx:max (z.com:Int) (cm:Int)=(nc:Int):=by omega
   have hwH:IntKind.i64.wrap (L:Int)=(L:Int):=IntWalk.i64_in _ (by omega);clear hcm hnc;go_wp2_with fail
   go_region
   obtain ⟨V5,hV5⟩:∃V5,V5=(w3.setCell ⟨gz,6,none⟩ (.int .i64 (nc:Int))).drew:=⟨_,rfl⟩;rw [←hV5];have ho5:Out (fun b=>b=gz) w3 V5:=by rw [hV5];exact (Out.setCell (X:=fun b=>b=gz) w3 (p:=⟨gz,6,none⟩) rfl _).drew
   have hbk5:Bk V5 gz 94 (ndC z.id z.n gs (.iface 129 (.agg #[])) z.seen 0 nc):=by rw [hV5];exact HBW.out.set 6 _
   have hbm5:=HMW.out.out ho5 (by omega);have v1:V5.cell? ⟨w.heap.size,1,none⟩=some (.int .u64 (m.epoch:Int)):=hbm5.cell 1;have hs5:Ss w0 V5 Z gs gd pg z.k (N+4):=HSW.out.out ho5 fun b hb=>by rw [hb];exact ⟨HGN.out,H0.out.low⟩
   have hn5:Nd w0 V5 Y Z gz gs gd pg {z.follow with k:=z.k,com:=max z.com (min m.commit.toNat L)} (N+4):=by
    rw [←HCM.out,←HNC.out];refine ⟨hs5,⟨_,hbk5,rfl⟩,⟨H0.out.ok.n1,H0.out.ok.n3,H0.out.ok.id,HKF.out,H0.out.ok.seen,?_,trivial⟩,H0.out.pp,H0.out.low,⟨HGN.out,H0.out.gzn.2⟩,fun b hb=>⟨(H0.out.yz b hb).1,(HYW.out b hb).1,Nat.lt_of_lt_of_le (HYW.out b hb).2 ho5.size⟩⟩;refine Nat.le_trans (show nc≤L from ?_) (Nat.le_of_eq HLH.out);have t2:=HCM.out;have t3:=HNC.out;have t4:z.com≤L:=Nat.le_trans HKC.out (Nat.le_of_eq HLH.out.symm);omega
   have hg5:Gz Y Z Y Z gz w V5:=HGW.out.trans ⟨ho5.mono fun k hk=>.inl (.inl hk),fun b hb=>.inl hb⟩;have CA:=Lib.hid (aJc (.pointer (some ⟨gz,0,none⟩)) i m.epoch (L) V5 (by unfold top at hme;omega) (by have:=HKF.out.many;have:=HLH.out;omega));have HF:Hid (∀r V,TellP i (akM m.epoch (L)) V5 r V→ToldP w0 Y Z gz gs gd pg (z.hearAppend i m) (N+4) w r V):=fun r V ht=>by
    rw [HZ.out];exact aBs hn5 hg5 ht
   clear ho5 hbk5 hV5 hbm5 hs5 hn5 hg5 HZ;go_wp2_with fail;refine CA.out.mono ?_;intro r6 w6 ht;have HP:=Lib.hid (HF.out _ _ ht);obtain ⟨v,rfl,-,-⟩:=ht;clear HF CA;go_wp2_with fail;go_ret;exact HP.out
  ·have z6:w3.cell? ⟨gz,6,none⟩=some (.int .i64 (z.com:Int)):=HBW.out.cell 6;have f6:=HBW.out.frozen 6;have k4:w3.cell? ⟨w.heap.size,4,none⟩=some (.int .i64 m.commit):=HMW.out.cell 4;obtain ⟨cm,hcm⟩:∃cm,cm=min m.commit.toNat L:=⟨_,rfl⟩;obtain ⟨nc,hnc⟩:∃nc,nc=max z.com cm:=⟨_,rfl⟩;have hmn:min m.commit (L:Int)=(cm:Int):=by omega
   have HCM:=Lib.hid hcm;have HNC:=Lib.hid hnc;have hmx:max (z.com:Int) (cm:Int)=(nc:Int):=by omega
   have hwH:IntKind.i64.wrap (L:Int)=(L:Int):=IntWalk.i64_in _ (by omega);clear hcm hnc;go_wp2_with fail
   go_region
   obtain ⟨V5,hV5⟩:∃V5,V5=(w3.setCell ⟨gz,6,none⟩ (.int .i64 (nc:Int))).drew:=⟨_,rfl⟩;rw [←hV5];have ho5:Out (fun b=>b=gz) w3 V5:=by rw [hV5];exact (Out.setCell (X:=fun b=>b=gz) w3 (p:=⟨gz,6,none⟩) rfl _).drew
   have hbk5:Bk V5 gz 94 (ndC z.id z.n gs (.iface 129 (.agg #[])) z.seen 0 nc):=by rw [hV5];exact HBW.out.set 6 _
   have hbm5:=HMW.out.out ho5 (by omega);have v1:V5.cell? ⟨w.heap.size,1,none⟩=some (.int .u64 (m.epoch:Int)):=hbm5.cell 1;have hs5:Ss w0 V5 Z gs gd pg z.k (N+4):=HSW.out.out ho5 fun b hb=>by rw [hb];exact ⟨HGN.out,H0.out.low⟩
   have hn5:Nd w0 V5 Y Z gz gs gd pg {z.follow with k:=z.k,com:=max z.com (min m.commit.toNat L)} (N+4):=by
    rw [←HCM.out,←HNC.out];refine ⟨hs5,⟨_,hbk5,rfl⟩,⟨H0.out.ok.n1,H0.out.ok.n3,H0.out.ok.id,HKF.out,H0.out.ok.seen,?_,trivial⟩,H0.out.pp,H0.out.low,⟨HGN.out,H0.out.gzn.2⟩,fun b hb=>⟨(H0.out.yz b hb).1,(HYW.out b hb).1,Nat.lt_of_lt_of_le (HYW.out b hb).2 ho5.size⟩⟩;refine Nat.le_trans (show nc≤L from ?_) (Nat.le_of_eq HLH.out);have t2:=HCM.out;have t3:=HNC.out;have t4:z.com≤L:=Nat.le_trans HKC.out (Nat.le_of_eq HLH.out.symm);omega
   have hg5:Gz Y Z Y Z gz w V5:=HGW.out.trans ⟨ho5.mono fun k hk=>.inl (.inl hk),fun b hb=>.inl hb⟩;have CA:=Lib.hid (aJc (.pointer (some ⟨gz,0,none⟩)) i m.epoch (L) V5 (by unfold top at hme;omega) (by have:=HKF.out.many;have:=HLH.out;omega));have HF:Hid (∀r V,TellP i (akM m.epoch (L)) V5 r V→ToldP w0 Y Z gz gs gd pg (z.hearAppend i m) (N+4) w r V):=fun r V ht=>by
    rw [HZ.out];exact aBs hn5 hg5 ht
   clear ho5 hbk5 hV5 hbm5 hs5 hn5 hg5 HZ;go_wp2_with fail;refine CA.out.mono ?_;intro r6 w6 ht;have HP:=Lib.hid (HF.out _ _ ht);obtain ⟨v,rfl,-,-⟩:=ht;clear HF CA;go_wp2_with fail;go_ret;exact HP.out
 case neg=>
  obtain ⟨R,hR⟩:∃R,M - o=R:=⟨_,rfl⟩;have hR0:0<R:=by omega
  have hco:¬c=o:=by omega
  obtain ⟨f,hf⟩:∃f,f=m.lines.drop o:=⟨_,rfl⟩;have hfl:f.length=R:=by rw [hf,List.length_drop,←HMM.out,hR]
  have hfn:¬f=[]:=fun q=>by rw [q] at hfl;simp at hfl;omega
  have hlF:LnS P w3 (Option.map (fun x=>x.add (o*2)) A) R f:=by
   have:=aQm HL3.out o;rwa [←HMM.out,hR,←hf] at this
  have hlaid:Laid f:=⟨by omega,fun x hx=>HM.out.laid.2 x (by rw [hf] at hx;exact List.mem_of_mem_drop hx)⟩;obtain ⟨av,hav⟩:∃av,av=ans (.add f) z.k (pg / 2):=⟨_,rfl⟩;have hsz:w.heap.size≤w3.heap.size:=HG3.out.1.size;have CP:=Lib.hid (HS3.out.append (by omega) f (Option.map (fun x=>x.add (o*2)) A) R (c - o) hlF hlaid fun b hb=>⟨fun q=>(HM.out.far b hb).1 (.inr (.inr q)),Nat.lt_of_lt_of_le (HM.out.far b hb).2 hsz⟩);rw [←hav] at CP;have HFF:=Lib.hid hf;have HFN:=Lib.hid hfn;have HFL:=Lib.hid hfl;have HSZ:=Lib.hid hsz;have hgr:decide ((0:Int)<(R:Int))=true:=decide_eq_true (by omega);have hgri:(0:Int)<(R:Int):=by omega
  clear hf hfl hfn hlF hlaid hom hsz;go_wp2_with fail;refine CP.out.mono ?_;rintro r5 w5 ⟨rfl,Z5,hs5,hg5,hz5⟩;have hpp:=H0.out.pp;have hgrow:∀b,Nx Y Z gz b→b<w3.heap.size:=fun b q=>(HN3.out.nx b q).2;by_cases ha:ans (.add f) z.k (pg / 2)=0
  case neg=>
   have hz:z.hearAppend i m=(z.follow,[]):=by
    obtain ⟨t1,t2,t3,t4⟩:=HTHR.out;unfold Zn.hearAppend;rw [if_neg (fun q=>q HOW.out),if_neg t1,if_neg t2,if_neg t3];show (if m.lines.drop (z.k.lines.length - m.at_.toNat)=[] then _ else _)=_;rw [t4,←HFF.out,if_neg HFN.out,if_neg (by rw [hpp];exact ha)]
   rw [aKi ha] at hs5;obtain ⟨hn5,hgz5⟩:=HN3.out.same (show Ss w0 w5 Z5 gs gd pg z.follow.k (N+4) from hs5) hg5 hz5;have hne:(av != 0)=true:=by rw [hav];simpa using ha
   have HF:Hid (ToldP w0 Y Z gz gs gd pg (z.hearAppend i m) (N+4) w (.returned (.slice none 0 0)) w5):=by
    rw [hz];exact ⟨_,Y,Z5,w5.heap.size,rfl,(HG3.out.trans hgz5).1.size,OwnO.nil_ _ _,fun _=>rfl,fun b hb=>(hn5.nx b hb).2,hn5,HG3.out.trans hgz5⟩
   clear hav hs5 hg5 hz5 ha hz hn5 hgz5 hpp hgrow CP;go_wp2_with fail;go_ret;exact HF.out
  obtain ⟨hmay,hfits,hthn⟩:=aGm ha;have hk:(Deed.add f).run z.k=⟨z.k.promised,z.k.current,z.k.lines++f⟩:=rfl;have hkf:Fine ⟨z.k.promised,z.k.current,z.k.lines++f⟩:=by have:=H0.out.ok.fine.run hmay;rwa [hk] at this
  rw [hthn,hk] at hs5;obtain ⟨H,hH⟩:∃H,H=L+R:=⟨_,rfl⟩;have HLH:Hid (H=(⟨z.k.promised,z.k.current,z.k.lines++f⟩:Kp).lines.length):=by
   show _=_;show H=(z.k.lines++f).length;rw [List.length_append,HFL.out,hH,HLL.out]
  have hz:z.hearAppend i m=({z.follow with k:=⟨z.k.promised,z.k.current,z.k.lines++f⟩,com:=max z.com (min m.commit.toNat H)},one i (akM m.epoch H)):=by
   obtain ⟨t1,t2,t3,t4⟩:=HTHR.out;unfold Zn.hearAppend;rw [if_neg (fun q=>q HOW.out),if_neg t1,if_neg t2,if_neg t3];show (if m.lines.drop (z.k.lines.length - m.at_.toNat)=[] then _ else _)=_;rw [t4,←HFF.out,if_neg HFN.out,if_pos (by rw [hpp];exact ha),hpp,hthn,hk,HFL.out,←HLL.out,←hH]
  have HZ:=Lib.hid hz;have HKF:=Lib.hid hkf;have hkm:H≤256:=by have:=hkf.many;have:=HLH.out;omega
  have hadd:IntKind.i64.wrap ((L:Int)+(R:Int))=(H:Int):=by rw [IntWalk.i64_in _ (by omega)];omega
  have hadd2:(L:Int)+(R:Int)=(H:Int):=by omega
  have HBW:Hid (Bk w5 gz 94 _):=HB3.out.out hg5 H0.out.gzn.1;have HMW:Hid (Bk w5 w.heap.size 36 _):=HBM3.out.out hg5 fun q=>by have:=(H0.out.nx _ (.inr (.inr q))).2;omega
  have HSW:Hid (Ss w0 w5 Z5 gs gd pg ⟨z.k.promised,z.k.current,z.k.lines++f⟩ (N+4)):=hs5;have HGN:Hid (¬Z5 gz):=fun q=>by
   rcases hz5 gz q with q|q
   ·exact H0.out.gzn.1 q
   ·have:=hgrow gz (.inl rfl);omega
  have HYW:Hid (∀b,Y b→¬Z5 b∧b<w5.heap.size):=fun b hb=>⟨fun q=>by
   rcases hz5 b q with q|q
   ·exact (H0.out.yz b hb).2.1 q
   ·have:=hgrow b (.inr (.inl hb));omega,Nat.lt_of_lt_of_le (hgrow b (.inr (.inl hb))) hg5.size⟩
  have HGW:Hid (Gz Y Z Y Z5 gz w w5):=HG3.out.trans ⟨hg5.mono fun k hk=>.inl (.inr (.inr hk)),fun b hb=>by
   rcases hb with hb|hb|hb
   ·exact .inl (.inl hb)
   ·exact .inl (.inr (.inl hb))
   ·rcases hz5 b hb with q|q
    ·exact .inl (.inr (.inr q))
    ·exact .inr q⟩
  have HKC:Hid (z.com≤(⟨z.k.promised,z.k.current,z.k.lines++f⟩:Kp).lines.length):=by
   show _≤_;show z.com≤(z.k.lines++f).length;rw [List.length_append];have:=H0.out.ok.com;omega
  subst hav;rw [ha];clear hs5 hg5 hz5 hpp hgrow ha hmay hfits hthn hk hkf hH hz CP hR0 p2 n1 n3 n4 n5 x2
  ·have z6:w5.cell? ⟨gz,6,none⟩=some (.int .i64 (z.com:Int)):=HBW.out.cell 6;have f6:=HBW.out.frozen 6;have k4:w5.cell? ⟨w.heap.size,4,none⟩=some (.int .i64 m.commit):=HMW.out.cell 4;obtain ⟨cm,hcm⟩:∃cm,cm=min m.commit.toNat H:=⟨_,rfl⟩;obtain ⟨nc,hnc⟩:∃nc,nc=max z.com cm:=⟨_,rfl⟩;have hmn:min m.commit (H:Int)=(cm:Int):=by omega
   have HCM:=Lib.hid hcm;have HNC:=Lib.hid hnc;have hmx:max (z.com:Int) (cm:Int)=(nc:Int):=by omega
   have hwH:IntKind.i64.wrap (H:Int)=(H:Int):=IntWalk.i64_in _ (by omega);clear hcm hnc;go_wp2_with fail
   go_region
   obtain ⟨V5,hV5⟩:∃V5,V5=(w5.setCell ⟨gz,6,none⟩ (.int .i64 (nc:Int))).drew:=⟨_,rfl⟩;rw [←hV5];have ho5:Out (fun b=>b=gz) w5 V5:=by rw [hV5];exact (Out.setCell (X:=fun b=>b=gz) w5 (p:=⟨gz,6,none⟩) rfl _).drew
   have hbk5:Bk V5 gz 94 (ndC z.id z.n gs (.iface 129 (.agg #[])) z.seen 0 nc):=by rw [hV5];exact HBW.out.set 6 _
   have hbm5:=HMW.out.out ho5 (by omega);have v1:V5.cell? ⟨w.heap.size,1,none⟩=some (.int .u64 (m.epoch:Int)):=hbm5.cell 1;have hs5:Ss w0 V5 Z5 gs gd pg ⟨z.k.promised,z.k.current,z.k.lines++f⟩ (N+4):=HSW.out.out ho5 fun b hb=>by rw [hb];exact ⟨HGN.out,H0.out.low⟩
   have hn5:Nd w0 V5 Y Z5 gz gs gd pg {z.follow with k:=⟨z.k.promised,z.k.current,z.k.lines++f⟩,com:=max z.com (min m.commit.toNat H)} (N+4):=by
    rw [←HCM.out,←HNC.out];refine ⟨hs5,⟨_,hbk5,rfl⟩,⟨H0.out.ok.n1,H0.out.ok.n3,H0.out.ok.id,HKF.out,H0.out.ok.seen,?_,trivial⟩,H0.out.pp,H0.out.low,⟨HGN.out,H0.out.gzn.2⟩,fun b hb=>⟨(H0.out.yz b hb).1,(HYW.out b hb).1,Nat.lt_of_lt_of_le (HYW.out b hb).2 ho5.size⟩⟩;refine Nat.le_trans (show nc≤H from ?_) (Nat.le_of_eq HLH.out);have t2:=HCM.out;have t3:=HNC.out;have t4:z.com≤H:=Nat.le_trans HKC.out (Nat.le_of_eq HLH.out.symm);omega
   have hg5:Gz Y Z Y Z5 gz w V5:=HGW.out.trans ⟨ho5.mono fun k hk=>.inl (.inl hk),fun b hb=>.inl hb⟩;have CA:=Lib.hid (aJc (.pointer (some ⟨gz,0,none⟩)) i m.epoch (H) V5 (by unfold top at hme;omega) (by have:=HKF.out.many;have:=HLH.out;omega));have HF:Hid (∀r V,TellP i (akM m.epoch (H)) V5 r V→ToldP w0 Y Z gz gs gd pg (z.hearAppend i m) (N+4) w r V):=fun r V ht=>by
    rw [HZ.out];exact aBs hn5 hg5 ht
   clear ho5 hbk5 hV5 hbm5 hs5 hn5 hg5 HZ;go_wp2_with fail;refine CA.out.mono ?_;intro r6 w6 ht;have HP:=Lib.hid (HF.out _ _ ht);obtain ⟨v,rfl,-,-⟩:=ht;clear HF CA;go_wp2_with fail;go_ret;exact HP.out
end
end Go.Proofs.YtgjmbbkcgillcaaGreat.Zab
namespace Go.Proofs.YtgjmbbkcgillcaaGreat.Zab
open Go.RowKit Disk Log Sto Zm Bal
theorem aDt:Tryz.prog.underlying 103=some (.map 5 102):=by kernel_rfl
def hearF:Nat→Value
 |1=>.func (.func 90) #[] #[]
 |2=>.func (.func 91) #[] #[]
 |3=>.func (.func 92) #[] #[]
 |4=>.func (.func 93) #[] #[]
 |5=>.func (.func 94) #[] #[]
 |6=>.func (.func 95) #[] #[]
 |_=>.nilFunc
def hearsD:DataW Value:=(((((((DataW.map []:DataW Value)).put (.int .u8 1) (.held (hearF 1))).put (.int .u8 2) (.held (hearF 2))).put (.int .u8 3) (.held (hearF 3))).put (.int .u8 4) (.held (hearF 4))).put (.int .u8 5) (.held (hearF 5))).put (.int .u8 6) (.held (hearF 6))
theorem aQ4 (k:Nat) (h1:1≤k) (h6:k≤6) (z:DataW Value):hearsD.atKey (.int .u8 (k:Int)) z=.held (hearF k):=by
 obtain rfl|rfl|rfl|rfl|rfl|rfl:k=1∨k=2∨k=3∨k=4∨k=5∨k=6:=by omega
 all_goals kernel_rfl
def HearsP (w:World) (e:Ending) (w':World):Prop:=∃b,e=.returned (.map (some b))∧w.heap.size≤b∧Below w.heap.size w w'∧w'.ownsMap Tryz.prog 5 fV b 6 hearsD
set_option maxRecDepth 100000 in
theorem aN3 (w:World):Calls Tryz.prog 48 #[] w (HearsP w):=by
 have hmm:=@run_makeMap Tryz.prog;obtain ⟨w1,hr1,ho1,hg1⟩:=(World.ownsMap_made w Tryz.prog 5 fV).update (Go.Maps.int_keyed Zm.aAy) aDt (by unfold maxLen;omega) (Zm.aAs 1 (by decide)) (val:=.func (.func 90) #[] #[]) (d:=.held (hearF 1)) (ps:=[]) rfl;obtain ⟨w2,hr2,ho2,hg2⟩:=ho1.update (Go.Maps.int_keyed Zm.aAy) aDt (by unfold maxLen;omega) (Zm.aAs 2 (by decide)) (val:=.func (.func 91) #[] #[]) (d:=.held (hearF 2)) (ps:=[]) rfl;obtain ⟨w3,hr3,ho3,hg3⟩:=ho2.update (Go.Maps.int_keyed Zm.aAy) aDt (by unfold maxLen;omega) (Zm.aAs 3 (by decide)) (val:=.func (.func 92) #[] #[]) (d:=.held (hearF 3)) (ps:=[]) rfl;obtain ⟨w4,hr4,ho4,hg4⟩:=ho3.update (Go.Maps.int_keyed Zm.aAy) aDt (by unfold maxLen;omega) (Zm.aAs 4 (by decide)) (val:=.func (.func 93) #[] #[]) (d:=.held (hearF 4)) (ps:=[]) rfl;obtain ⟨w5,hr5,ho5,hg5⟩:=ho4.update (Go.Maps.int_keyed Zm.aAy) aDt (by unfold maxLen;omega) (Zm.aAs 5 (by decide)) (val:=.func (.func 94) #[] #[]) (d:=.held (hearF 5)) (ps:=[]) rfl;obtain ⟨w6,hr6,ho6,hg6⟩:=ho5.update (Go.Maps.int_keyed Zm.aAy) aDt (by unfold maxLen;omega) (Zm.aAs 6 (by decide)) (val:=.func (.func 95) #[] #[]) (d:=.held (hearF 6)) (ps:=[]) rfl;have HO:=Lib.hid ho6;have hB:Below w.heap.size w (w.alloc (.map #[] 0)):=(Below.refl _ _).alloc (Nat.le_refl _) _;have hb1:=hB.grown hg1 hB.size (fun k e=>by cases e;exact Nat.le_refl _);have hb2:=hb1.grown hg2 hb1.size (fun k e=>by cases e;exact Nat.le_refl _);have hb3:=hb2.grown hg3 hb2.size (fun k e=>by cases e;exact Nat.le_refl _);have hb4:=hb3.grown hg4 hb3.size (fun k e=>by cases e;exact Nat.le_refl _);have hb5:=hb4.grown hg5 hb4.size (fun k e=>by cases e;exact Nat.le_refl _);have hb6:=hb5.grown hg6 hb5.size (fun k e=>by cases e;exact Nat.le_refl _);have HB:=Lib.hid hb6;clear ho1 hg1 hb1 ho2 hg2 hb2 ho3 hg3 hb3 ho4 hg4 hb4 ho5 hg5 hb5 ho6 hg6 hb6 hB;go_enter Tryz.func48,Tryz.ntmps48
 go_wp2_with fail;go_ret;exact ⟨_,rfl,Nat.le_refl _,HB.out,HO.out⟩
theorem aN9 (w:World):(zeroValue 102).run Tryz.prog w=.ok (.nilFunc) w:=by kernel_rfl
theorem aSv {b:Nat} {w:World} (h:w.ownsMap Tryz.prog 5 fV b 6 hearsD) (k:Nat) (h1:1≤k) (h6:k≤6):
  (Instr.lookup 103 (.map (some b)) (.int .u8 (k:Int)) false).run Tryz.prog w=.ok (hearF k) w:=by
 have hkey:=Zm.aAs (k:Int) (by simp [Lit.wf,IntKind.min,IntKind.max,IntKind.signed,IntKind.bits];omega);obtain ⟨es,clock,hb,Fi,_,hD⟩:=h;rcases Maps.fit_look false (Go.Maps.int_keyed Zm.aAy) aDt (aN9 w) hb Fi hkey with ⟨hrun,_,hat⟩|⟨e0,y,_,_,hrun,hRv,hat,_⟩
 ·have:=hat .nil;rw [←hD,aQ4 k h1 h6] at this;cases this
 ·have h2:=hat .nil;rw [←hD,aQ4 k h1 h6] at h2;have hy:y=(.held e0.val,[]):=(Option.some.inj hRv).symm;rw [hy] at h2;rw [aHn h2];exact hrun
end Go.Proofs.YtgjmbbkcgillcaaGreat.Zab
namespace Go.Proofs.YtgjmbbkcgillcaaGreat.Zab
open Go.RowKit Disk Log Sto Zm Bal
def Zn.byKind (z:Zn) (i:Nat) (m:Mg):Zn×List Tl:=
 if m.kind=1 then z.hearStand i m else if m.kind=2 then z.hearPromise i m else if m.kind=3 then z.hearRefuse m
 else if m.kind=4 then z.hearAdopt i m else if m.kind=5 then z.hearAppend i m else z.hearAck i m
section
variable {w0 w w':World} {Y Z:Nat→Prop} {gz gs gd pg:Nat} {z:Zn} {N:Nat}
theorem bAo {P:Nat→Prop} (h:Nd w0 w Y Z gz gs gd pg z N) (hN:N+8<65536) (i:Nat) (hi:i<z.n) (hii:i≠z.id) {m:Mg} {A:Option Addr} {c:Nat} (hm:Hrd w P Y Z gz m A c):
  ∃F,hearF m.kind=.func (.func F) #[] #[]∧(∀args V,(callFunc F args).run Tryz.prog V=.ok (.enter F args) V)∧Calls Tryz.prog F #[.pointer (some ⟨gz,0,none⟩),.int .i64 (i:Int),.agg (mgC m A m.lines.length c)] w (ToldP w0 Y Z gz gs gd pg (z.byKind i m) (N+4) w):=by
 obtain ⟨k1,k6,_⟩:=hm.may;unfold Zn.byKind;rcases (by omega:m.kind=1∨m.kind=2∨m.kind=3∨m.kind=4∨m.kind=5∨m.kind=6) with hk|hk|hk|hk|hk|hk
 ·rw [if_pos hk,hk];exact ⟨_,rfl,fun args V=>by kernel_rfl,aLr h hN i hm⟩
 ·rw [if_neg (by omega),if_pos hk,hk];exact ⟨_,rfl,fun args V=>by kernel_rfl,aK1 h hN i hi hii hm⟩
 ·rw [if_neg (by omega),if_neg (by omega),if_pos hk,hk];exact ⟨_,rfl,fun args V=>by kernel_rfl,(aKc h (i:Int) m A c).mono fun e V q=>q.mono (by omega)⟩
 ·rw [if_neg (by omega),if_neg (by omega),if_neg (by omega),if_pos hk,hk];exact ⟨_,rfl,fun args V=>by kernel_rfl,aLs h hN i hm⟩
 ·rw [if_neg (by omega),if_neg (by omega),if_neg (by omega),if_neg (by omega),if_pos hk,hk];exact ⟨_,rfl,fun args V=>by kernel_rfl,aKb h hN i hm⟩
 ·rw [if_neg (by omega),if_neg (by omega),if_neg (by omega),if_neg (by omega),if_neg (by omega),hk];exact ⟨_,rfl,fun args V=>by kernel_rfl,(aPy h i hi hii hm).mono fun e V q=>q.mono (by omega)⟩
end
end Go.Proofs.YtgjmbbkcgillcaaGreat.Zab
namespace Go.Proofs.YtgjmbbkcgillcaaGreat.Zab
open Go.RowKit Disk Log Sto Zm Bal
open PhaseG (aB9 RT RT.out StepF StepZ StepT)
open Phase (aA0 aA2)
section
variable {w0 w w':World} {Y Z:Nat→Prop} {gz gs gd pg:Nat} {z:Zn} {N:Nat}
set_option maxRecDepth 100000 in
theorem aCk (h:Nd w0 w Y Z gz gs gd pg z N) (hN:N+8<65536) (i:Int) (A:Option Addr) (n c:Nat) (bs:List UInt8) (hr:Rd w A n bs) (hn:n≤1000000):
  Calls Tryz.prog 18 #[.pointer (some ⟨gz,0,none⟩),.int .i64 i,.slice A n c] w (ToldP w0 Y Z gz gs gd pg (z.hear i bs) (N+4) w):=by
 obtain ⟨rv,hbk,hrl⟩:=h.bk;have z0:w.cell? ⟨gz,0,none⟩=some (.int .i64 (z.id:Int)):=hbk.cell 0;have z1:w.cell? ⟨gz,1,none⟩=some (.int .i64 (z.n:Int)):=hbk.cell 1;have CD:=Lib.hid (aCo h);have CG:=Lib.hid (bBf A n c bs w hr hn);have H:=Lib.hid h;have HBK:=Lib.hid hbk;clear h hbk hr hrl;by_cases hi:i<0∨(z.n:Int)≤i∨i=(z.id:Int)
 case pos=>
  have HQ:Hid (∀V,Below w.heap.size w V→ToldP w0 Y Z gz gs gd pg (z.hear i bs) (N+4) w (.returned (.slice none 0 0)) V):=fun V hb=>by
   have:z.hear i bs=(z,[]):=if_pos hi;rw [this];exact aAe (H.out.mono (by omega)) hb
  by_cases h1:i<0
  ·have d1:decide (i<0)=true:=decide_eq_true h1;go_enter Tryz.func18,Tryz.ntmps18
   go_wp2_with fail;refine CD.out.mono ?_;rintro r1 w1 ⟨rfl,rfl⟩;go_wp2_with fail;go_ret;exact HQ.out _ (Below.refl _ _)
  have d1:decide (i<0)=false:=decide_eq_false h1;by_cases h2:(z.n:Int)≤i
  ·have d2:decide ((z.n:Int)≤i)=true:=decide_eq_true h2;go_enter Tryz.func18,Tryz.ntmps18
   go_wp2_with fail;refine CD.out.mono ?_;rintro r1 w1 ⟨rfl,rfl⟩;go_wp2_with fail;go_ret;exact HQ.out _ (Below.refl _ _)
  have d2:decide ((z.n:Int)≤i)=false:=decide_eq_false h2;have h3:i=(z.id:Int):=by omega
  clear hi;subst h3;go_enter Tryz.func18,Tryz.ntmps18
  go_wp2_with fail;refine CD.out.mono ?_;rintro r1 w1 ⟨rfl,rfl⟩;go_wp2_with fail;go_ret;exact HQ.out _ (Below.refl _ _)
 obtain ⟨j,rfl⟩:∃j:Nat,i=(j:Int):=⟨i.toNat,by omega⟩;have hj:j<z.n:=by omega
 have hjj:j≠z.id:=by omega
 have d1:decide ((j:Int)<0)=false:=decide_eq_false (by omega);have d2:decide ((z.n:Int)≤(j:Int))=false:=decide_eq_false (by omega);have d3:((j:Int)==(z.id:Int))=false:=by rw [beq_eq_false_iff_ne];omega
 have e1:¬(j:Int)<0:=by omega
 have e2:¬(z.n:Int)≤(j:Int):=by omega
 have e3:¬(j:Int)=(z.id:Int):=by omega
 have e4:¬j=z.id:=hjj;have e5:¬z.n≤j:=by omega
 have HI:=Lib.hid hi;clear hi;by_cases hg:getOk bs
 case neg=>
  have hz:z.hear (j:Int) bs=(z,[]):=by unfold Zn.hear;rw [if_neg HI.out,if_neg hg]
  have hge:getE bs=2:=by unfold getE;exact if_neg hg
  have HZ:=Lib.hid hz;unfold aGp at CG;rw [hge] at CG;obtain ⟨mm,hmm⟩:∃mm,mm=getM bs:=⟨_,rfl⟩;rw [←hmm] at CG;clear hz hge hmm hg;go_enter Tryz.func18,Tryz.ntmps18
  go_wp2_with fail;refine CD.out.mono ?_;rintro r1 w1 ⟨rfl,rfl⟩;go_wp2_with fail;refine CG.out.mono ?_;rintro r2 w1 ⟨A1,c1,rfl,-,hb1⟩;have HQ:Hid (∀V,Below w1.heap.size w1 V→ToldP w0 Y Z gz gs gd pg (z.hear (j:Int) bs) (N+4) w (.returned (.slice none 0 0)) V):=fun V hb=>by
   rw [HZ.out];exact aAe (H.out.mono (by omega)) (hb1.trans (hb.mono hb1.size))
  clear hb1 CG;unfold mgC;go_wp2_with fail;go_ret;exact HQ.out _ ((Below.refl _ _).alloc (Nat.le_refl _) _)
 obtain ⟨m,hm⟩:∃m,m=said bs:=⟨_,rfl⟩;obtain ⟨z1',hz1⟩:∃z1':Zn,z1'={z with seen:=max z.seen m.epoch}:=⟨_,rfl⟩;have hz:z.hear (j:Int) bs=z1'.byKind j m:=by
  unfold Zn.hear;rw [if_neg HI.out,if_pos hg,←hm,hz1];rfl
 have hge:getE bs=0:=by unfold getE;exact if_pos hg
 have hgm:getM bs=m:=by unfold getM;rw [if_pos hg,hm]
 have hmay:m.may:=by rw [hm];exact (bBd hg).1
 have HMAY:=Lib.hid hmay;have hk1:=hmay.1;have hk6:=hmay.2.1;have het:=hmay.2.2.2.1;unfold aGp at CG;rw [hge,hgm] at CG;have HZ:=Lib.hid hz;clear hz hge hgm hmay hm hg;go_enter Tryz.func18,Tryz.ntmps18
 go_wp2_with fail;refine CD.out.mono ?_;rintro r1 w1 ⟨rfl,rfl⟩;go_wp2_with fail;refine CG.out.mono ?_;rintro r2 w1 ⟨A1,c1,rfl,ho1,hb1⟩;obtain ⟨W1,hW1⟩:∃W1,W1=w1.alloc (.cells (mgC m A1 m.lines.length c1) 36):=⟨_,rfl⟩;have hb2:Below w1.heap.size w1 W1:=by rw [hW1];exact (Below.refl _ _).alloc (Nat.le_refl _) _
 have hbm:Bk W1 w1.heap.size 36 (mgC m A1 m.lines.length c1):=by rw [hW1];exact Bk.new _ _ _
 have hbw:Below w.heap.size w W1:=hb1.trans (hb2.mono hb1.size);have hbk1:=HBK.out.below hbw;have q1:W1.cell? ⟨w1.heap.size,1,none⟩=some (.int .u64 (m.epoch:Int)):=hbm.cell 1;have q4:W1.cell? ⟨gz,4,none⟩=some (.int .u64 (z.seen:Int)):=hbk1.cell 4;have f4:=hbk1.frozen 4;have hw1:w1.alloc (.cells #[.int .u8 (m.kind:Int),.int .u64 (m.epoch:Int),.int .u64 (m.current:Int),.int .i64 m.at_,.int .i64 m.commit,.slice A1 m.lines.length c1] 36)=W1:=hW1.symm;obtain ⟨sn,hsn⟩:∃sn,sn=max z.seen m.epoch:=⟨_,rfl⟩;have hmx:max (z.seen:Int) (m.epoch:Int)=(sn:Int):=by omega
 have HSN:=Lib.hid hsn;have HLN:=Lib.hid (ho1.lns.below hb2);have HCAP:Hid (m.lines.length≤c1):=ho1.caps.1;have HBM:=Lib.hid hbm;have HBW:=Lib.hid hbw;have HBK1:=Lib.hid hbk1;have HZ1:=Lib.hid hz1;have HSZ:Hid (w.heap.size≤w1.heap.size):=hb1.size;clear hW1 hb2 hbm hbw hbk1 hsn ho1 hb1 hz1 CG CD;unfold mgC;go_wp2_with fail
 go_region
 obtain ⟨V,hV⟩:∃V,V=(W1.setCell ⟨gz,4,none⟩ (.int .u64 (sn:Int))).drew:=⟨_,rfl⟩;rw [←hV];have hoV:Out (fun b=>b=gz) W1 V:=by rw [hV];exact (Out.setCell (X:=fun b=>b=gz) W1 (p:=⟨gz,4,none⟩) rfl _).drew
 have hbkV:Bk V gz 94 (ndC z.id z.n gs rv sn z.waited z.com):=by rw [hV];exact HBK1.out.set 4 _
 have hbmV:Bk V w1.heap.size 36 (mgC m A1 m.lines.length c1):=HBM.out.out hoV (by have:=(H.out.nx gz (.inl rfl)).2;have:=HSZ.out;omega);have hnx:∀b,Nx Y Z gz b→b<w.heap.size:=fun b q=>(H.out.nx b q).2;have hnV:Nd w0 V Y Z gz gs gd pg z1' N:=by
  have hn1:=H.out.below_ HBW.out;obtain ⟨rv2,t1,t2⟩:=hn1.bk;have e:rv2=rv:=by
   have:=t1.cell 3;rw [show W1.cell? ⟨gz,3,none⟩=some rv from HBK1.out.cell 3] at this;injection this with this;exact this.symm
  subst e;rw [HZ1.out];refine ⟨hn1.ss.out hoV fun b hb=>by rw [hb];exact ⟨H.out.gzn.1,H.out.low⟩,⟨rv2,?_,t2.out hoV fun b hy q=>H.out.gzn.2 (q ▸ hy)⟩,⟨hn1.ok.n1,hn1.ok.n3,hn1.ok.id,hn1.ok.fine,?_,hn1.ok.com,hn1.ok.role⟩,hn1.pp,hn1.low,hn1.gzn,fun b hb=>⟨(hn1.yz b hb).1,(hn1.yz b hb).2.1,Nat.lt_of_lt_of_le (hn1.yz b hb).2.2 hoV.size⟩⟩
  ·show Bk V gz _ (ndC z.id z.n gs rv2 (max z.seen m.epoch) z.waited z.com);rw [←HSN.out];exact hbkV
  ·show max z.seen m.epoch≤top;have:=H.out.ok.seen;omega
 have hrV:Hrd V (fun k=>w.heap.size≤k∧k<w1.heap.size) Y Z gz m A1 c1:=⟨HMAY.out,HLN.out.out hoV fun b hb q=>by have:=hnx gz (.inl rfl);have:=hb.1;omega,fun b hb=>⟨fun q=>by have:=hnx b q;have:=hb.1;omega,Nat.lt_of_lt_of_le hb.2 (Nat.le_of_lt hbmV.lt)⟩,HCAP.out⟩;have hgV:Gz Y Z Y Z gz w V:=Gz.earlier HBW.out ⟨hoV.mono fun k hk=>.inl (.inl hk),fun b hb=>.inl hb⟩;have hjn:j<z1'.n:=by rw [HZ1.out];exact hj
 have hjj':j≠z1'.id:=by rw [HZ1.out];exact hjj
 have HMV:=Lib.hid hbmV;have HNV:=Lib.hid hnV;have HRV:=Lib.hid hrV;have HF:Hid (∀x W',ToldP w0 Y Z gz gs gd pg (z1'.byKind j m) (N+4) V (.returned x) W'→ToldP w0 Y Z gz gs gd pg (z.hear (j:Int) bs) (N+4) w (.returned x) W'):=fun x W' ht=>by
  rw [HZ.out];exact ht.behind hgV
 clear hV hoV hbkV hbmV hnx hnV hrV hgV HZ1 HBK1 HBW HBM HLN HSZ HCAP hmx q1 q4 f4 d1 d2 d3 e1 e2 e3 e4 e5 hj hjj;go_wp2_with fail;refine aB9 7 20 (RT [none,some (.pointer (some ⟨w1.heap.size,0,none⟩)),some (.int .u8 (m.kind:Int)),some (hearF m.kind),some (.pointer (some ⟨gz,0,none⟩)),some (.int .i64 (j:Int)),some (.agg (mgC m A1 m.lines.length c1))] (fun k x W=>match k with|0=>∃b,x=.map (some b)∧W.ownsMap Tryz.prog 5 fV b 6 hearsD|_=>True)) (fun x W'=>ToldP w0 Y Z gz gs gd pg (z1'.byKind j m) (N+4) V (.returned x) W') (fun k x y=>k=8→y=x) (by kernel_rfl) (by kernel_rfl) (by kernel_rfl) (by kernel_rfl) (by kernel_rfl) (by decide) ?hR ?hS1 ?hS2 ?hS3 ?F ?hF ?hE
 case hF=>
  intro v;simp only [List.length_cons,List.length_nil,Nat.zero_add,Nat.reduceAdd,PhaseG.final,List.getElem?_toArray,List.getElem?_cons_zero,List.getElem?_cons_succ,Option.bind_some,Act.put,List.setIfInBounds_toArray,List.set_cons_zero,List.set_cons_succ];exact rfl
 case hR=>
  intro k x W W' hx _ _;refine RT.out hx fun hA=>?_
  match k,hA with
  |0,⟨b,e,how⟩=>exact ⟨b,e,aQe how (‹Below W.heap.size W W'›.block b how.lt)⟩
  |k+1,_=>trivial
 case hS1=>
  simp only [List.take_succ_cons,List.take_zero];refine aA0 ?_ (aA0 ?_ (aA0 ?_ (aA0 ?_ (aA0 ?_ (aA0 ?_ (aA0 ?_ (aA2)))))))
  ·intro a v W hd hb K hK;have ct:=aN3 W;unfold Oper.wp;go_simp;refine ct.mono ?_;rintro e' W' ⟨b,rfl,hbl,hb',how⟩;exact hK _ W' hb' ⟨b,rfl,how⟩
  ·intro a v W hd hb K hK;have k7:a.tmps.getD 7 undef=.pointer (some ⟨w1.heap.size,0,none⟩):=hd.kept 7 (by kernel_rfl);have hk:=hK (.pointer (some ⟨w1.heap.size,0,none⟩)) W (Below.refl _ _) rfl;clear hK;unfold Oper.wp;go_simp;exact hk
  ·intro a v W hd hb K hK;obtain ⟨h53,r53⟩:=hd.done_ 1 _ 53 (by kernel_rfl) rfl rfl;have r53:v 1=.pointer (some ⟨w1.heap.size,0,none⟩):=r53;rw [r53] at h53;have kk:W.cell? ⟨w1.heap.size,0,none⟩=some (.int .u8 (m.kind:Int)):=(HMV.out.below hb).cell 0;have hk:=hK (.int .u8 (m.kind:Int)) W (Below.refl _ _) rfl;clear hK;unfold Oper.wp;go_simp;exact hk
  ·intro a v W hd hb K hK;obtain ⟨h52,r52⟩:=hd.done_ 0 _ 52 (by kernel_rfl) rfl rfl;obtain ⟨b,e52,how⟩:=r52;rw [e52] at h52;obtain ⟨h54,r54⟩:=hd.done_ 2 _ 54 (by kernel_rfl) rfl rfl;have r54:v 2=.int .u8 (m.kind:Int):=r54;rw [r54] at h54;have hlk:=aSv how m.kind hk1 hk6;have hk:=hK (hearF m.kind) W (Below.refl _ _) rfl;clear hK;unfold Oper.wp;go_simp;exact hk
  ·intro a v W hd hb K hK;have k0:a.tmps.getD 0 undef=.pointer (some ⟨gz,0,none⟩):=hd.kept 0 (by kernel_rfl);have hk:=hK (.pointer (some ⟨gz,0,none⟩)) W (Below.refl _ _) rfl;clear hK;unfold Oper.wp;go_simp;exact hk
  ·intro a v W hd hb K hK;have k1:a.tmps.getD 1 undef=.int .i64 (j:Int):=hd.kept 1 (by kernel_rfl);have hk:=hK (.int .i64 (j:Int)) W (Below.refl _ _) rfl;clear hK;unfold Oper.wp;go_simp;exact hk
  ·intro a v W hd hb K hK;have k7:a.tmps.getD 7 undef=.pointer (some ⟨w1.heap.size,0,none⟩):=hd.kept 7 (by kernel_rfl);have hbW:=HMV.out.below hb;have kk0:W.cell? ⟨w1.heap.size,0,none⟩=some (.int .u8 (m.kind:Int)):=hbW.cell 0;have kk1:W.cell? ⟨w1.heap.size,1,none⟩=some (.int .u64 (m.epoch:Int)):=hbW.cell 1;have kk2:W.cell? ⟨w1.heap.size,2,none⟩=some (.int .u64 (m.current:Int)):=hbW.cell 2;have kk3:W.cell? ⟨w1.heap.size,3,none⟩=some (.int .i64 m.at_):=hbW.cell 3;have kk4:W.cell? ⟨w1.heap.size,4,none⟩=some (.int .i64 m.commit):=hbW.cell 4;have kk5:W.cell? ⟨w1.heap.size,5,none⟩=some (.slice A1 m.lines.length c1):=hbW.cell 5;clear hbW;have hk:=hK (.agg (mgC m A1 m.lines.length c1)) W (Below.refl _ _) rfl;clear hK;unfold Oper.wp;go_simp;exact hk
 case hS2=>
  intro o ho;injection ho with ho;subst ho;intro a v W hd hb K hK;obtain ⟨h55,r55⟩:=hd.done_ 3 _ 55 (by kernel_rfl) rfl rfl;have r55:v 3=hearF m.kind:=r55;obtain ⟨h56,r56⟩:=hd.done_ 4 _ 56 (by kernel_rfl) rfl rfl;have r56:v 4=.pointer (some ⟨gz,0,none⟩):=r56;obtain ⟨h57,r57⟩:=hd.done_ 5 _ 57 (by kernel_rfl) rfl rfl;have r57:v 5=.int .i64 (j:Int):=r57;obtain ⟨h58,r58⟩:=hd.done_ 6 _ 58 (by kernel_rfl) rfl rfl;have r58:v 6=.agg (mgC m A1 m.lines.length c1):=r58;obtain ⟨F,hF1,hF2,hF3⟩:=bAo (HNV.out.below_ hb) hN j hjn hjj' (HRV.out.below hb);rw [r55,hF1] at h55;rw [r56] at h56;rw [r57] at h57;rw [r58] at h58;have hc:=hF2 (#[]++#[.pointer (some ⟨gz,0,none⟩),.int .i64 (j:Int),.agg (mgC m A1 m.lines.length c1)]++#[]) W;have HC3:=Lib.hid hF3;have HBW:=Lib.hid hb;clear hF3 hb;unfold Oper.wp;go_simp;refine HC3.out.mono ?_;intro e' W' ht;have ht':=Lib.hid (ToldP.from_ HBW.out ht);obtain ⟨v',Y',Z',B',rfl,-⟩:=ht;exact hK _ W' ht'.out
 case hS3=>
  simp only [List.drop_succ_cons,List.drop_zero];refine aA0 ?_ aA2;intro a vz W hz hE K hK;have h59:=hz _ 59 rfl rfl;have hk:=hK vz (fun _=>rfl);clear hK hE;unfold Oper.wp;go_simp;exact hk
 case hE=>
  intro v V' hE hT;have h8:v 8=v 7:=hT 8 (by decide) (by decide) rfl;have HP:=Lib.hid (HF.out _ _ hE);clear hE hT HF;go_wp2_with fail;go_ret;rw [h8];exact HP.out
end
end Go.Proofs.YtgjmbbkcgillcaaGreat.Zab
