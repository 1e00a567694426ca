/- Lemmas, part 35: ZabHearProm, ZabHearAck -/
import Derived.Test.YtgjmbbkcgillcaaGreatPart34
import Derived.Test.YtgjmbbkcgillcaaGreatPart26
set_option maxHeartbeats 16000000
namespace Go.Proofs.YtgjmbbkcgillcaaGreat.Zab
open Go.RowKit Disk Log Sto Zm Bal
theorem bA4 {l:List Ln} (hl:l.length≤256) (h:∀x∈l,lineB x=true):Laid l:=by
 refine ⟨by omega,fun x hx=>?_⟩;obtain ⟨_,q2,_,q4⟩:=aAi.1 (h x hx);unfold top at q2;omega
theorem Fine.laid {k:Kp} (h:Fine k):Laid k.lines:=bA4 h.many fun x hx=>(h.each x hx).1
theorem aJn {c1 c2:Nat} {l1 l2:List Ln} (h1:Laid l1) (h2:Laid l2):Laid (bestOf c1 l1 c2 l2):=by unfold bestOf;split<;>assumption
theorem aWu {a b c d:Nat}:btr (a:Int) (b:Int) (c:Int) (d:Int)=true↔c<a∨(a=c∧d<b):=by
 unfold btr;simp only [Bool.or_eq_true,Bool.and_eq_true,decide_eq_true_eq];omega
theorem best2 {P:Nat→Prop} {w:World} {p1 p2:Pv} {l1 l2:List Ln} (h1:LnS P w p1.A p1.n l1) (h2:LnS P w p2.A p2.n l2):LnS P w (bestV [p1,p2]).A (bestV [p1,p2]).n (bestOf p1.c l1 p2.c l2):=by
 have e1:=h1.len;have e2:=h2.len;have hx:∀b:Pv,b.c=p1.c→b.n=p1.n→LnS P w b.A b.n l1→LnS P w (better b p2).A (better b p2).n (bestOf p1.c l1 p2.c l2):=fun b hc hn hb=>by
  unfold better bestOf;rw [e1,e2];by_cases hq:p1.c<p2.c∨(p2.c=p1.c∧p1.n<p2.n)
  ·rw [if_pos hq,if_pos (aWu.2 (by omega))];exact h2
  ·rw [if_neg hq,if_neg (fun q=>by have:=aWu.1 q;omega)];exact hb
 show LnS P w (better (better Pv.zero p1) p2).A (better (better Pv.zero p1) p2).n _;cases hz:btr (p1.c:Int) (p1.n:Int) 0 0 with
 |true=>
  have:better Pv.zero p1=p1:=by unfold better;exact if_pos hz
  rw [this];exact hx p1 rfl rfl h1
 |false=>
  have:better Pv.zero p1=Pv.zero:=by unfold better;exact if_neg (fun q=>by rw [show btr (p1.c:Int) (p1.n:Int) ((Pv.zero.c:Nat):Int) ((Pv.zero.n:Nat):Int)=btr (p1.c:Int) (p1.n:Int) 0 0 from rfl,hz] at q;cases q)
  rw [this];obtain ⟨q1,q2⟩:=aQt hz;have hl:l1=[]:=List.length_eq_zero_iff.1 (by omega);exact hx Pv.zero q1.symm q2.symm (by rw [hl];exact LnS.nil_ _ _ _)
theorem aUs {P:Nat→Prop} {w:World} {A:Option Addr} {n:Nat} {ls:List Ln} {g c:Nat} {f:Nat→Option Value} {D:DataW Value} (hm:IMap w g f c D) (h:LnS P w A n ls):LnS (fun b=>P b∧b≠g) w A n ls:=
 ⟨h.len,fun j x hj=>by
  obtain ⟨es,clock,e1,_⟩:=hm.own;have hn:∀a:Addr,a.block=g→w.cell? a=none:=fun a ha=>by unfold World.cell?;rw [ha,e1]
  obtain ⟨b,o,B,m,d,h1,h2,h3,h4,h5,h6,h7⟩:=h.at_ j x hj;refine ⟨b,o,B,m,d,h1,⟨h2,fun q=>by rw [hn ⟨b,o+j*2,none⟩ q] at h3;cases h3⟩,h3,h4,h5,h6,fun a ha h0=>⟨h7 a ha h0,fun q=>?_⟩⟩;have hl:=h6.len;obtain ⟨ad,e,hc⟩:=h6.cells (by omega);rw [ha] at e;injection e with e;subst e;have:=hc 0 (x.bytes[0]'(by omega)) (by simp);rw [hn (a.add 0) q] at this;cases this⟩
section
variable {w0 w w':World} {Y Z:Nat→Prop} {gz gs gd pg:Nat} {z:Zn} {N:Nat}
set_option maxRecDepth 100000 in
theorem aK1 {P:Nat→Prop} (h:Nd w0 w Y Z gz gs gd pg z N) (hN:N+8<65536) (i:Nat) (hi:i<z.n) (hii:i≠z.id) {m:Mg} {A:Option Addr} {c:Nat} (hm:Hrd w P Y Z gz m A c):
  Calls Tryz.prog 91 #[.pointer (some ⟨gz,0,none⟩),.int .i64 (i:Int),.agg (mgC m A m.lines.length c)] w (ToldP w0 Y Z gz gs gd pg (z.hearPromise i m) (N+4) w):=by
 obtain ⟨W,hW⟩:∃W,W=w.alloc (.cells (mgC m A m.lines.length c) 36):=⟨_,rfl⟩;have hb0:Below w.heap.size w W:=by rw [hW];exact (Below.refl _ _).alloc (Nat.le_refl _) _
 have hbm:Bk W w.heap.size 36 (mgC m A m.lines.length c):=by rw [hW];exact Bk.new _ _ _
 have m1:W.cell? ⟨w.heap.size,1,none⟩=some (.int .u64 (m.epoch:Int)):=hbm.cell 1;have m2:W.cell? ⟨w.heap.size,2,none⟩=some (.int .u64 (m.current:Int)):=hbm.cell 2;have m5:W.cell? ⟨w.heap.size,5,none⟩=some (.slice A m.lines.length c):=hbm.cell 5;obtain ⟨rv,hbk,hr⟩:=h.bk;have z3:W.cell? ⟨gz,3,none⟩=some rv:=(hbk.below hb0).cell 3;have hw:w.alloc (.cells #[.int .u8 (m.kind:Int),.int .u64 (m.epoch:Int),.int .u64 (m.current:Int),.int .i64 m.at_,.int .i64 m.commit,.slice A m.lines.length c] 36)=W:=hW.symm;have HB0:=Lib.hid hb0;have H:=Lib.hid h;have HM:=Lib.hid hm;have HBK:=Lib.hid hbk;unfold mgC;clear hW hbm hb0 h hm hbk;cases hrole:z.role with
 |follow=>
  rw [hrole] at hr;subst hr;have hs:=aFb W;have hz:z.hearPromise i m=(z,[]):=by unfold Zn.hearPromise;rw [hrole]
  clear hrole;have HZ:=Lib.hid hz;clear hz;go_enter Tryz.func91,Tryz.ntmps91
  go_wp2_with fail;refine aAk 18 (by kernel_rfl) (by kernel_rfl) ?_;simp only [List.take_succ_cons,List.take_zero,List.drop_succ_cons,List.drop_zero]
  iterate 3
   refine aA6 (by kernel_rfl) ?_;apply Exists.intro
   refine And.intro ?_ ?_
   ·unfold aA5;first
     |(go_simp;done)
     |(go_simp;exact rfl)
   try simp only [Act.put,List.setIfInBounds_toArray,List.set_cons_zero,List.set_cons_succ]
  iterate 8
   refine aCd (by kernel_rfl) ?_
   try simp only [Act.put,List.setIfInBounds_toArray,List.set_cons_zero,List.set_cons_succ]
  iterate 2
   refine aA6 (by kernel_rfl) ?_;apply Exists.intro
   refine And.intro ?_ ?_
   ·unfold aA5;first
     |(go_simp;done)
     |(go_simp;exact rfl)
   try simp only [Act.put,List.setIfInBounds_toArray,List.set_cons_zero,List.set_cons_succ]
  iterate 5
   refine aCd (by kernel_rfl) ?_
   try simp only [Act.put,List.setIfInBounds_toArray,List.set_cons_zero,List.set_cons_succ]
  refine aAv ?_;change wpList _ _ _ _ _ W.drew;go_wp2_with fail;go_ret;rw [HZ.out];exact aAe (H.out.mono (M:=N+4) (by omega)) (HB0.out.trans (aAg HB0.out))
 |lead e base acked ready=>
  rw [hrole] at hr;obtain ⟨gp,gm,D,rfl,-,-,-,-⟩:=hr;have hs:=aFa gp W;have hz:z.hearPromise i m=(z,[]):=by unfold Zn.hearPromise;rw [hrole]
  clear hrole;have HZ:=Lib.hid hz;clear hz;go_enter Tryz.func91,Tryz.ntmps91
  go_wp2_with fail;refine aAk 18 (by kernel_rfl) (by kernel_rfl) ?_;simp only [List.take_succ_cons,List.take_zero,List.drop_succ_cons,List.drop_zero]
  iterate 3
   refine aA6 (by kernel_rfl) ?_;apply Exists.intro
   refine And.intro ?_ ?_
   ·unfold aA5;first
     |(go_simp;done)
     |(go_simp;exact rfl)
   try simp only [Act.put,List.setIfInBounds_toArray,List.set_cons_zero,List.set_cons_succ]
  iterate 8
   refine aCd (by kernel_rfl) ?_
   try simp only [Act.put,List.setIfInBounds_toArray,List.set_cons_zero,List.set_cons_succ]
  iterate 2
   refine aA6 (by kernel_rfl) ?_;apply Exists.intro
   refine And.intro ?_ ?_
   ·unfold aA5;first
     |(go_simp;done)
     |(go_simp;exact rfl)
   try simp only [Act.put,List.setIfInBounds_toArray,List.set_cons_zero,List.set_cons_succ]
  iterate 5
   refine aCd (by kernel_rfl) ?_
   try simp only [Act.put,List.setIfInBounds_toArray,List.set_cons_zero,List.set_cons_succ]
  refine aAv ?_;change wpList _ _ _ _ _ W.drew;go_wp2_with fail;go_ret;rw [HZ.out];exact aAe (H.out.mono (M:=N+4) (by omega)) (HB0.out.trans (aAg HB0.out))
 |stand e=>
  rw [hrole] at hr;obtain ⟨gp,gm,A1,c1,D,rfl,hYp,hYm,hb,him,hlnA⟩:=hr;have p0:W.cell? ⟨gp,0,none⟩=some (.int .u64 (e:Int)):=(hb.below HB0.out).cell 0;have p1:W.cell? ⟨gp,1,none⟩=some (.map (some gm)):=(hb.below HB0.out).cell 1;have hs:=aH4 gp W;have HROLE:=Lib.hid hrole;have HYP:=Lib.hid hYp;have HYM:=Lib.hid hYm;have HB:=Lib.hid hb;have HIM:=Lib.hid him;have HLA:=Lib.hid hlnA;clear hYp hYm hb him hlnA hrole;by_cases hee:m.epoch=e
  case neg=>
   have hz:z.hearPromise i m=(z,[]):=by unfold Zn.hearPromise;rw [HROLE.out];exact if_pos (.inl hee)
   have hbe:((m.epoch:Int) != (e:Int))=true:=by rw [bne_iff_ne];omega
   have hbn:¬(m.epoch:Int)=(e:Int):=by omega
   clear hee;have HZ:=Lib.hid hz;clear hz;go_enter Tryz.func91,Tryz.ntmps91
   go_wp2_with fail;refine aAk 18 (by kernel_rfl) (by kernel_rfl) ?_;simp only [List.take_succ_cons,List.take_zero,List.drop_succ_cons,List.drop_zero]
   iterate 9
    refine aA6 (by kernel_rfl) ?_;apply Exists.intro
    refine And.intro ?_ ?_
    ·unfold aA5;first
      |(go_simp;done)
      |(go_simp;exact rfl)
    try simp only [Act.put,List.setIfInBounds_toArray,List.set_cons_zero,List.set_cons_succ]
   refine aBn (by kernel_rfl) ?_;apply Exists.intro
   apply Exists.intro
   apply Exists.intro
   refine And.intro ?_ (And.intro ?_ ?_)
   ·first
     |(go_simp;exact ⟨rfl,rfl⟩)
     |(go_simp;exact rfl)
     |(go_simp;done)
   ·exact (aB3 (e:Int) _).mono (fun _ _ h=>⟨h.1,h.2.symm⟩)
   try simp only [Act.put,List.setIfInBounds_toArray,List.set_cons_zero,List.set_cons_succ]
   iterate 3
    refine aA6 (by kernel_rfl) ?_;apply Exists.intro
    refine And.intro ?_ ?_
    ·unfold aA5;first
      |(go_simp;done)
      |(go_simp;exact rfl)
    try simp only [Act.put,List.setIfInBounds_toArray,List.set_cons_zero,List.set_cons_succ]
   iterate 5
    refine aCd (by kernel_rfl) ?_
    try simp only [Act.put,List.setIfInBounds_toArray,List.set_cons_zero,List.set_cons_succ]
   refine aAv ?_;change wpList _ _ _ _ _ W.drew;go_wp2_with fail;go_ret;rw [HZ.out];exact aAe (H.out.mono (M:=N+4) (by omega)) (HB0.out.trans (aAg HB0.out))
  subst hee;by_cases hcu:m.epoch≤m.current
  case pos=>
   have hz:z.hearPromise i m=(z,[]):=by unfold Zn.hearPromise;rw [HROLE.out];exact if_pos (.inr hcu)
   have hge:decide ((m.epoch:Int)≤(m.current:Int))=true:=decide_eq_true (by omega);have hgi:(m.epoch:Int)≤(m.current:Int):=by omega
   clear hcu;have HZ:=Lib.hid hz;clear hz;go_enter Tryz.func91,Tryz.ntmps91
   go_wp2_with fail;refine aAk 18 (by kernel_rfl) (by kernel_rfl) ?_;simp only [List.take_succ_cons,List.take_zero,List.drop_succ_cons,List.drop_zero]
   iterate 9
    refine aA6 (by kernel_rfl) ?_;apply Exists.intro
    refine And.intro ?_ ?_
    ·unfold aA5;first
      |(go_simp;done)
      |(go_simp;exact rfl)
    try simp only [Act.put,List.setIfInBounds_toArray,List.set_cons_zero,List.set_cons_succ]
   refine aBn (by kernel_rfl) ?_;apply Exists.intro
   apply Exists.intro
   apply Exists.intro
   refine And.intro ?_ (And.intro ?_ ?_)
   ·first
     |(go_simp;exact ⟨rfl,rfl⟩)
     |(go_simp;exact rfl)
     |(go_simp;done)
   ·exact (aB3 (m.epoch:Int) _).mono (fun _ _ h=>⟨h.1,h.2.symm⟩)
   try simp only [Act.put,List.setIfInBounds_toArray,List.set_cons_zero,List.set_cons_succ]
   iterate 8
    refine aA6 (by kernel_rfl) ?_;apply Exists.intro
    refine And.intro ?_ ?_
    ·unfold aA5;first
      |(go_simp;done)
      |(go_simp;exact rfl)
    try simp only [Act.put,List.setIfInBounds_toArray,List.set_cons_zero,List.set_cons_succ]
   refine aAv ?_;change wpList _ _ _ _ _ W.drew;go_wp2_with fail;go_ret;rw [HZ.out];exact aAe (H.out.mono (M:=N+4) (by omega)) (HB0.out.trans (aAg HB0.out))
  have hge:decide ((m.epoch:Int)≤(m.current:Int))=false:=decide_eq_false (by omega);have hgi:¬(m.epoch:Int)≤(m.current:Int):=by omega
  have hi3:i<3:=by have:=H.out.ok.n3;omega
  have hid3:z.id<3:=by have:=H.out.ok.n3;have:=H.out.ok.id;omega
  obtain ⟨W6,D6,hput,him6,hgr⟩:=(show IMap W.drew.drew gm _ _ _ from (HIM.out.below HB0.out).kept rfl).put aFx i (by omega) (.agg #[.int .u64 (m.current:Int),.slice A m.lines.length c]) (by omega);have ho6:Out (fun b=>b=gm) W W6:=aCs (aCs ((PhaseG.aAc hgr).mono fun k hk=>.inl (by injection hk with hk;exact hk.symm)));have hgmz:¬Z gm:=(H.out.yz _ HYM.out).2.1;have hngz:gm≠gz:=fun q=>H.out.gzn.2 (q ▸ HYM.out);have hngp:gp≠gm:=fun q=>by
   obtain ⟨es,clock,h1,_⟩:=HIM.out.own;have h2:w.heap[gp]? =_:=HB.out;rw [q] at h2;rw [h1] at h2;cases h2
  have hpl:=H.out.ok.role;rw [HROLE.out] at hpl;obtain ⟨hp1,hp2,hp3,hp4⟩:=hpl;have hnc:Nc w0 W6 Y Z gz gs gd pg z N:=by
   have hn:=(H.out.below_ HB0.out).nc;refine ⟨hn.ss.out ho6 fun b hb=>by rw [hb];exact ⟨hgmz,(H.out.yz _ HYM.out).1⟩,⟨_,(HBK.out.below HB0.out).out ho6 fun q=>hngz q.symm⟩,hn.ok,hn.pp,hn.low,hn.gzn,fun b hb=>⟨(hn.yz b hb).1,(hn.yz b hb).2.1,Nat.lt_of_lt_of_le (hn.yz b hb).2.2 ho6.size⟩⟩
  have hbp:Bk W6 gp 192 #[.int .u64 (m.epoch:Int),.map (some gm)]:=(HB.out.below HB0.out).out ho6 hngp;have hlm:LnS (fun b=>P b∨Y b) W6 A m.lines.length m.lines:=((HM.out.lns.below HB0.out).out ho6 fun b hb q=>(HM.out.far b hb).1 (.inr (.inl (by rw [q];exact HYM.out)))).mono fun b hb=>.inl hb;have hlk:LnS (fun b=>P b∨Y b) W6 A1 z.k.lines.length z.k.lines:=(((aUs HIM.out HLA.out).below HB0.out).out ho6 fun b hb=>hb.2).mono fun b hb=>.inr hb.1;obtain ⟨ls,hls⟩:∃ls,ls=if z.id<i then bestOf z.k.current z.k.lines m.current m.lines else bestOf m.current m.lines z.k.current z.k.lines:=⟨_,rfl⟩
  have hz:z.hearPromise i m=z.lead m.epoch ls:=by unfold Zn.hearPromise;rw [HROLE.out,hls];exact if_neg (fun q=>by omega)
  have hqc:quorum z.n≤2:=by have:=quo H.out.ok.n1 H.out.ok.n3;split at this<;>omega
  have hone:oneV z.id (pmV z.k.current A1 z.k.lines.length c1) i=none:=by unfold oneV;exact if_neg hii
  have him2:IMap W6 gm (upd (oneV z.id (pmV z.k.current A1 z.k.lines.length c1)) i (pmV m.current A m.lines.length c)) 2 D6:=by rw [hone] at him6;exact him6
  have hPb:∀b,(P b∨Y b)→¬Z b∧b<W6.heap.size:=fun b hb=>by
   have h1:=HB0.out.size;have h2:=ho6.size;rcases hb with hb|hb
   ·exact ⟨fun q=>(HM.out.far b hb).1 (.inr (.inr q)),by have:=(HM.out.far b hb).2;omega⟩
   ·exact ⟨(H.out.yz b hb).2.1,by have:=(H.out.yz b hb).2.2;omega⟩
  have hup:∀j v,upd (oneV z.id (pmV z.k.current A1 z.k.lines.length c1)) i (pmV m.current A m.lines.length c) j=some v↔(j=i∧pmV m.current A m.lines.length c=v)∨(j=z.id∧pmV z.k.current A1 z.k.lines.length c1=v):=fun j v=>by
   unfold upd oneV;by_cases hj:j=i
   ·rw [if_pos hj];simp only [Option.some.injEq,hj,true_and];exact ⟨.inl,fun q=>q.elim id fun q=>absurd q.1 hii⟩
   ·rw [if_neg hj];by_cases hk:j=z.id
    ·rw [if_pos hk];simp only [Option.some.injEq,hk,true_and];exact ⟨.inr,fun q=>q.elim (fun q=>absurd q.1.symm hii) id⟩
    ·rw [if_neg hk];constructor
     ·intro q;cases q
     ·rintro (q|q)
      ·exact absurd q.1 hj
      ·exact absurd q.1 hk
  have he64:m.epoch<18446744073709551616:=by have:=H.out.ok.fine.prom;unfold top at this;omega
  obtain ⟨g,hg⟩:∃g:Nat→Pv,g=fun j=>if j=i then ⟨m.current,A,m.lines.length,c⟩ else ⟨z.k.current,A1,z.k.lines.length,c1⟩:=⟨_,rfl⟩
  have hgi1:g i=⟨m.current,A,m.lines.length,c⟩:=by rw [hg];exact if_pos rfl
  have hgi2:g z.id=⟨z.k.current,A1,z.k.lines.length,c1⟩:=by rw [hg];exact if_neg (fun q=>hii q.symm)
  have hml:m.lines.length≤256:=by obtain ⟨_,_,_,_,_,_,_,_,_,q,_⟩:=HM.out.may;exact q
  have hkl:=H.out.ok.fine.many;have CL:Hid (Calls Tryz.prog 130 #[.pointer (some ⟨gz,0,none⟩),.pointer (some ⟨gp,0,none⟩)] W6 (ToldP w0 Y Z gz gs gd pg (z.lead m.epoch ls) (N+4) W6)):=by
   rcases Nat.lt_or_ge z.id i with hlt|hge'
   ·refine aLv (P:=fun b=>P b∨Y b) hnc (by omega) hbp him2 hqc (by omega) [z.id,i] (by simp [hlt]) (by simp;omega) (by simp) (fun j=>?_) g (fun j hj=>?_) (fun j hj=>?_) he64 hp2 ls ?_ ?_ hPb (H.out.yz _ HYP.out).2.1
    ·simp only [List.mem_cons,List.not_mem_nil,or_false,Option.isSome_iff_exists];exact ⟨fun q=>q.elim (fun q=>⟨_,(hup j _).2 (.inr ⟨q,rfl⟩)⟩) fun q=>⟨_,(hup j _).2 (.inl ⟨q,rfl⟩)⟩,fun ⟨v,q⟩=>((hup j v).1 q).elim (fun q=>.inr q.1) fun q=>.inl q.1⟩
    ·simp only [List.mem_cons,List.not_mem_nil,or_false] at hj;rcases hj with rfl|rfl
     ·rw [hgi2];exact (hup _ _).2 (.inr ⟨rfl,rfl⟩)
     ·rw [hgi1];exact (hup _ _).2 (.inl ⟨rfl,rfl⟩)
    ·simp only [List.mem_cons,List.not_mem_nil,or_false] at hj;rcases hj with rfl|rfl
     ·rw [hgi2];show z.k.lines.length<1000000;omega
     ·rw [hgi1];show m.lines.length<1000000;omega
    ·rw [hls,if_pos hlt];show LnS _ W6 (bestV [g z.id,g i]).A (bestV [g z.id,g i]).n _;rw [hgi1,hgi2];exact best2 (p1:=⟨z.k.current,A1,z.k.lines.length,c1⟩) (p2:=⟨m.current,A,m.lines.length,c⟩) hlk hlm
    ·rw [hls,if_pos hlt];exact aJn (Fine.laid H.out.ok.fine) HM.out.laid
   ·have hlt:i<z.id:=by omega
    refine aLv (P:=fun b=>P b∨Y b) hnc (by omega) hbp him2 hqc (by omega) [i,z.id] (by simp [hlt]) (by simp;omega) (by simp) (fun j=>?_) g (fun j hj=>?_) (fun j hj=>?_) he64 hp2 ls ?_ ?_ hPb (H.out.yz _ HYP.out).2.1
    ·simp only [List.mem_cons,List.not_mem_nil,or_false,Option.isSome_iff_exists];exact ⟨fun q=>q.elim (fun q=>⟨_,(hup j _).2 (.inl ⟨q,rfl⟩)⟩) fun q=>⟨_,(hup j _).2 (.inr ⟨q,rfl⟩)⟩,fun ⟨v,q⟩=>((hup j v).1 q).elim (fun q=>.inl q.1) fun q=>.inr q.1⟩
    ·simp only [List.mem_cons,List.not_mem_nil,or_false] at hj;rcases hj with rfl|rfl
     ·rw [hgi1];exact (hup _ _).2 (.inl ⟨rfl,rfl⟩)
     ·rw [hgi2];exact (hup _ _).2 (.inr ⟨rfl,rfl⟩)
    ·simp only [List.mem_cons,List.not_mem_nil,or_false] at hj;rcases hj with rfl|rfl
     ·rw [hgi1];show m.lines.length<1000000;omega
     ·rw [hgi2];show z.k.lines.length<1000000;omega
    ·rw [hls,if_neg (by omega)];show LnS _ W6 (bestV [g i,g z.id]).A (bestV [g i,g z.id]).n _;rw [hgi1,hgi2];exact best2 (p1:=⟨m.current,A,m.lines.length,c⟩) (p2:=⟨z.k.current,A1,z.k.lines.length,c1⟩) hlm hlk
    ·rw [hls,if_neg (by omega)];exact aJn HM.out.laid (Fine.laid H.out.ok.fine)
  have hgA:Gz Y Z Y Z gz w W6:=(Gz.of_below HB0.out).trans ⟨ho6.mono fun k hk=>.inl (.inr (.inl (by rw [hk];exact HYM.out))),fun b hb=>.inl hb⟩;have HF:Hid (∀r V,ToldP w0 Y Z gz gs gd pg (z.lead m.epoch ls) (N+4) W6 r V→ToldP w0 Y Z gz gs gd pg (z.hearPromise i m) (N+4) w r V):=fun r V ht=>by
   rw [hz];exact ht.behind hgA
  clear ho6 him6 hgr hcu hgmz hngz hngp hp1 hp2 hp3 hp4 hnc hbp hlm hlk hls hz hqc hone him2 hPb hup he64 hg hgi1 hgi2 hml hkl hgA HLA HIM HB HYM HYP HBK HM;go_enter Tryz.func91,Tryz.ntmps91
  go_wp2_with fail;refine aAk 18 (by kernel_rfl) (by kernel_rfl) ?_;simp only [List.take_succ_cons,List.take_zero,List.drop_succ_cons,List.drop_zero]
  iterate 9
   refine aA6 (by kernel_rfl) ?_;apply Exists.intro
   refine And.intro ?_ ?_
   ·unfold aA5;first
     |(go_simp;done)
     |(go_simp;exact rfl)
   try simp only [Act.put,List.setIfInBounds_toArray,List.set_cons_zero,List.set_cons_succ]
  refine aBn (by kernel_rfl) ?_;apply Exists.intro
  apply Exists.intro
  apply Exists.intro
  refine And.intro ?_ (And.intro ?_ ?_)
  ·first
    |(go_simp;exact ⟨rfl,rfl⟩)
    |(go_simp;exact rfl)
    |(go_simp;done)
  ·exact (aB3 (m.epoch:Int) _).mono (fun _ _ h=>⟨h.1,h.2.symm⟩)
  try simp only [Act.put,List.setIfInBounds_toArray,List.set_cons_zero,List.set_cons_succ]
  iterate 8
   refine aA6 (by kernel_rfl) ?_;apply Exists.intro
   refine And.intro ?_ ?_
   ·unfold aA5;first
     |(go_simp;done)
     |(go_simp;exact rfl)
   try simp only [Act.put,List.setIfInBounds_toArray,List.set_cons_zero,List.set_cons_succ]
  refine aAv ?_;change wpList _ _ _ _ _ W.drew;go_wp2_with fail
  go_region
  go_wp2_with fail;refine CL.out.mono ?_;intro r7 w7 ht;have HP:=Lib.hid (HF.out _ _ ht);obtain ⟨v,Y',Z',B,rfl,-⟩:=ht;clear HF CL;go_wp2_with fail;go_ret;exact HP.out
end
end Go.Proofs.YtgjmbbkcgillcaaGreat.Zab
namespace Go.Proofs.YtgjmbbkcgillcaaGreat.Zab
open Go.RowKit Disk Log Sto Zm Bal
open PhaseG (aB9 RT RT.out StepF StepZ StepT)
open Phase (aA0 aA2)
theorem aXx (acked:Nat→Option Nat) (i a:Nat):ackV (setA acked i a)=upd (ackV acked) i (.int .i64 (a:Int)):=by
 funext j
 unfold ackV setA upd;split<;>rfl
theorem aUd (acked:Nat→Option Nat) (i:Nat):(ackV acked i).isSome=(acked i).isSome:=by unfold ackV;cases acked i<;>rfl
theorem aYw (acked:Nat→Option Nat) (i:Nat):(ackV acked i).getD (.int .i64 0)=.int .i64 (((acked i).getD 0:Nat):Int):=by unfold ackV;cases acked i<;>rfl
theorem aYs {n:Nat} {acked:Nat→Option Nat} {i a:Nat} (hn:n≤3) (hi:i<n):cntA n (setA acked i a)=if (acked i).isSome then cntA n acked else cntA n acked+1:=by
 obtain rfl|rfl|rfl:n=1∨n=2∨n=3:=by omega
 all_goals
  obtain rfl|rfl|rfl:i=0∨i=1∨i=2:=by omega
  all_goals first
   |omega
   |(unfold cntA setA;simp only [List.range_succ,List.range_zero,List.nil_append,List.cons_append,List.filter_cons,List.filter_nil];cases h0:acked 0<;>cases h1:acked 1<;>cases h2:acked 2<;>simp [*])
section
variable {w0 w w':World} {Y Z:Nat→Prop} {gz gs gd pg:Nat} {z:Zn} {N:Nat}
set_option maxRecDepth 100000 in
theorem aPy {P:Nat→Prop} (h:Nd w0 w Y Z gz gs gd pg z N) (i:Nat) (hi:i<z.n) (hii:i≠z.id) {m:Mg} {A:Option Addr} {c:Nat} (hm:Hrd w P Y Z gz m A c):
  Calls Tryz.prog 95 #[.pointer (some ⟨gz,0,none⟩),.int .i64 (i:Int),.agg (mgC m A m.lines.length c)] w (ToldP w0 Y Z gz gs gd pg (z.hearAck i m) N w):=by
 obtain ⟨W,hW⟩:∃W,W=w.alloc (.cells (mgC m A m.lines.length c) 36):=⟨_,rfl⟩;have hb0:Below w.heap.size w W:=by rw [hW];exact (Below.refl _ _).alloc (Nat.le_refl _) _
 have hbm:Bk W w.heap.size 36 (mgC m A m.lines.length c):=by rw [hW];exact Bk.new _ _ _
 have m1:W.cell? ⟨w.heap.size,1,none⟩=some (.int .u64 (m.epoch:Int)):=hbm.cell 1;obtain ⟨rv,hbk,hr⟩:=h.bk;have z3:W.cell? ⟨gz,3,none⟩=some rv:=(hbk.below hb0).cell 3;have hw:w.alloc (.cells #[.int .u8 (m.kind:Int),.int .u64 (m.epoch:Int),.int .u64 (m.current:Int),.int .i64 m.at_,.int .i64 m.commit,.slice A m.lines.length c] 36)=W:=hW.symm;have HB0:=Lib.hid hb0;have H:=Lib.hid h;have HM:=Lib.hid hm;have HBK:=Lib.hid hbk;have HBM:=Lib.hid hbm;unfold mgC;clear hW hbm hb0 h hm hbk;cases hrole:z.role with
 |follow=>
  rw [hrole] at hr;subst hr;have hs:=aBr W;have hz:z.hearAck i m=(z,[]):=by unfold Zn.hearAck;rw [hrole]
  clear hrole;have HZ:=Lib.hid hz;clear hz;go_enter Tryz.func95,Tryz.ntmps95
  go_wp2_with fail;refine aAk 11 (by kernel_rfl) (by kernel_rfl) ?_;simp only [List.take_succ_cons,List.take_zero,List.drop_succ_cons,List.drop_zero]
  iterate 3
   refine aA6 (by kernel_rfl) ?_;apply Exists.intro
   refine And.intro ?_ ?_
   ·unfold aA5;first
     |(go_simp;done)
     |(go_simp;exact rfl)
   try simp only [Act.put,List.setIfInBounds_toArray,List.set_cons_zero,List.set_cons_succ]
  iterate 8
   refine aCd (by kernel_rfl) ?_
   try simp only [Act.put,List.setIfInBounds_toArray,List.set_cons_zero,List.set_cons_succ]
  refine aAv ?_;change wpList _ _ _ _ _ W.drew;go_wp2_with fail;go_ret;rw [HZ.out];exact aAe H.out (HB0.out.trans (aAg HB0.out))
 |stand e=>
  rw [hrole] at hr;obtain ⟨gp,gm,A1,c1,D,rfl,-⟩:=hr;have hs:=aBq gp W;have hz:z.hearAck i m=(z,[]):=by unfold Zn.hearAck;rw [hrole]
  clear hrole;have HZ:=Lib.hid hz;clear hz;go_enter Tryz.func95,Tryz.ntmps95
  go_wp2_with fail;refine aAk 11 (by kernel_rfl) (by kernel_rfl) ?_;simp only [List.take_succ_cons,List.take_zero,List.drop_succ_cons,List.drop_zero]
  iterate 3
   refine aA6 (by kernel_rfl) ?_;apply Exists.intro
   refine And.intro ?_ ?_
   ·unfold aA5;first
     |(go_simp;done)
     |(go_simp;exact rfl)
   try simp only [Act.put,List.setIfInBounds_toArray,List.set_cons_zero,List.set_cons_succ]
  iterate 8
   refine aCd (by kernel_rfl) ?_
   try simp only [Act.put,List.setIfInBounds_toArray,List.set_cons_zero,List.set_cons_succ]
  refine aAv ?_;change wpList _ _ _ _ _ W.drew;go_wp2_with fail;go_ret;rw [HZ.out];exact aAe H.out (HB0.out.trans (aAg HB0.out))
 |lead e base acked ready=>
  rw [hrole] at hr;obtain ⟨gl,gm,D,rfl,hYl,hYm,hl,him⟩:=hr;have p0:W.cell? ⟨gl,0,none⟩=some (.int .u64 (e:Int)):=(hl.below HB0.out).cell 0;have hs:=aD1 gl W;have HROLE:=Lib.hid hrole;have HYL:=Lib.hid hYl;have HYM:=Lib.hid hYm;have HLL:=Lib.hid hl;have HIM:=Lib.hid him;clear hYl hYm hl him hrole;by_cases hee:m.epoch=e
  case neg=>
   have hz:z.hearAck i m=(z,[]):=by unfold Zn.hearAck;rw [HROLE.out];exact if_pos hee
   have hbe:((m.epoch:Int) != (e:Int))=true:=by rw [bne_iff_ne];omega
   have hbn:¬(m.epoch:Int)=(e:Int):=by omega
   clear hee;have HZ:=Lib.hid hz;clear hz;go_enter Tryz.func95,Tryz.ntmps95
   go_wp2_with fail;refine aAk 11 (by kernel_rfl) (by kernel_rfl) ?_;simp only [List.take_succ_cons,List.take_zero,List.drop_succ_cons,List.drop_zero]
   iterate 9
    refine aA6 (by kernel_rfl) ?_;apply Exists.intro
    refine And.intro ?_ ?_
    ·unfold aA5;first
      |(go_simp;done)
      |(go_simp;exact rfl)
    try simp only [Act.put,List.setIfInBounds_toArray,List.set_cons_zero,List.set_cons_succ]
   refine aBn (by kernel_rfl) ?_;apply Exists.intro
   apply Exists.intro
   apply Exists.intro
   refine And.intro ?_ (And.intro ?_ ?_)
   ·first
     |(go_simp;exact ⟨rfl,rfl⟩)
     |(go_simp;exact rfl)
     |(go_simp;done)
   ·exact (aB3 (e:Int) _).mono (fun _ _ h=>⟨h.1,h.2.symm⟩)
   try simp only [Act.put,List.setIfInBounds_toArray,List.set_cons_zero,List.set_cons_succ]
   refine aA6 (by kernel_rfl) ?_;apply Exists.intro
   refine And.intro ?_ ?_
   ·unfold aA5;first
     |(go_simp;done)
     |(go_simp;exact rfl)
   try simp only [Act.put,List.setIfInBounds_toArray,List.set_cons_zero,List.set_cons_succ]
   refine aAv ?_;change wpList _ _ _ _ _ W.drew;go_wp2_with fail;go_ret;rw [HZ.out];exact aAe H.out (HB0.out.trans (aAg HB0.out))
  subst hee;have hpl:=H.out.ok.role;rw [HROLE.out] at hpl;obtain ⟨hp1,hp2,hp3,hp4,hp5⟩:=hpl;have hi3:i<3:=by have:=H.out.ok.n3;omega
  have hkl:=H.out.ok.fine.many;have hat:0≤m.at_∧m.at_≤256:=by obtain ⟨_,_,_,_,_,q1,q2,_⟩:=HM.out.may;exact ⟨q1,q2⟩
  obtain ⟨ad,had⟩:∃ad,ad=(acked i).getD 0:=⟨_,rfl⟩;obtain ⟨q,hq⟩:∃q,q=min m.at_.toNat z.k.lines.length:=⟨_,rfl⟩;obtain ⟨s,hsm⟩:∃s,s=max ad q:=⟨_,rfl⟩;have hadl:ad≤z.k.lines.length:=by
   rw [had];cases ha:acked i with
   |none=>exact Nat.zero_le _
   |some a=>exact (hp5 i a ha).2.2
  have hmin:min m.at_ (z.k.lines.length:Int)=(q:Int):=by omega
  have hmax:max (ad:Int) (q:Int)=(s:Int):=by omega
  have hlv:(ackV acked i).getD (.int .i64 0)=.int .i64 (ad:Int):=by rw [aYw,had]
  have hcl:cntA z.n acked≤3:=by
   have h1:=List.length_filter_le (fun i=>(acked i).isSome) (List.range z.n);rw [List.length_range] at h1;have:=H.out.ok.n3;unfold cntA;omega
  have hz:z.hearAck i m=(z.count m.epoch base (setA acked i s) ready,[]):=by unfold Zn.hearAck;rw [HROLE.out,hsm,had,hq];exact if_neg (fun q=>q rfl)
  have hsl:s≤z.k.lines.length:=by omega
  have hbD:=HB0.out.trans (aAg HB0.out);have HBD:=Lib.hid hbD;have HL:=Lib.hid (HLL.out.below hbD);have HBMD:=Lib.hid (HBM.out.below (aBe W));have HIMD:=Lib.hid (HIM.out.below hbD);have HBKD:=Lib.hid (HBK.out.below hbD);have HSS:=Lib.hid (H.out.below_ hbD).ss;have HZ:=Lib.hid hz;have HP5:=Lib.hid hp5;clear had hq hsm hbD hz HM hp5;go_enter Tryz.func95,Tryz.ntmps95
  go_wp2_with fail;refine aAk 11 (by kernel_rfl) (by kernel_rfl) ?_;simp only [List.take_succ_cons,List.take_zero,List.drop_succ_cons,List.drop_zero]
  iterate 9
   refine aA6 (by kernel_rfl) ?_;apply Exists.intro
   refine And.intro ?_ ?_
   ·unfold aA5;first
     |(go_simp;done)
     |(go_simp;exact rfl)
   try simp only [Act.put,List.setIfInBounds_toArray,List.set_cons_zero,List.set_cons_succ]
  refine aBn (by kernel_rfl) ?_;apply Exists.intro
  apply Exists.intro
  apply Exists.intro
  refine And.intro ?_ (And.intro ?_ ?_)
  ·first
    |(go_simp;exact ⟨rfl,rfl⟩)
    |(go_simp;exact rfl)
    |(go_simp;done)
  ·exact (aB3 (m.epoch:Int) _).mono (fun _ _ h=>⟨h.1,h.2.symm⟩)
  try simp only [Act.put,List.setIfInBounds_toArray,List.set_cons_zero,List.set_cons_succ]
  refine aA6 (by kernel_rfl) ?_;apply Exists.intro
  refine And.intro ?_ ?_
  ·unfold aA5;first
    |(go_simp;done)
    |(go_simp;exact rfl)
  try simp only [Act.put,List.setIfInBounds_toArray,List.set_cons_zero,List.set_cons_succ]
  refine aAv ?_;change wpList _ _ _ _ _ W.drew;go_wp2_with fail;refine aB9 18 20 (RT [some (.pointer (some ⟨gl,0,none⟩)),some (.pointer (some ⟨gl,0,none⟩)),some (.pointer (some ⟨gl,2,none⟩)),some (.map (some gm)),some (.int .i64 (i:Int)),some (.pointer (some ⟨gl,0,none⟩)),some (.pointer (some ⟨gl,0,none⟩)),some (.pointer (some ⟨gl,2,none⟩)),some (.map (some gm)),some (.int .i64 (i:Int)),some (.int .i64 (ad:Int)),some (.pointer (some ⟨w.heap.size,3,none⟩)),some (.int .i64 m.at_),some (.pointer (some ⟨gz,0,none⟩)),none,some (.int .i64 (z.k.lines.length:Int)),some (.int .i64 (q:Int)),some (.int .i64 (s:Int)),none] (fun k x _=>match k with|14=>∃A' c',x=.slice A' z.k.lines.length c'|_=>True)) (fun _ W'=>∃D',IMap W' gm (upd (ackV acked) i (.int .i64 (s:Int))) (if (ackV acked i).isSome then cntA z.n acked else cntA z.n acked+1) D'∧Out (fun b=>b=gm) W.drew W') (fun _ _ _=>True) (by kernel_rfl) (by kernel_rfl) (by kernel_rfl) (by kernel_rfl) (by kernel_rfl) (by decide) ?hR ?hS1 ?hS2 ?hS3 ?F ?hF ?hE
  case hF=>
   intro v;simp only [List.length_cons,List.length_nil,Nat.zero_add,Nat.reduceAdd,PhaseG.final,List.getElem?_toArray,List.getElem?_cons_zero,List.getElem?_cons_succ,Option.bind_some,Act.put,List.setIfInBounds_toArray,List.set_cons_zero,List.set_cons_succ];exact rfl
  case hR=>
   intro k x W W' hx _ _;exact RT.out hx id
  case hS1=>
   simp only [List.take_succ_cons,List.take_zero];refine aA0 ?_ (aA0 ?_ (aA0 ?_ (aA0 ?_ (aA0 ?_ (aA0 ?_ (aA0 ?_ (aA0 ?_ (aA0 ?_ (aA0 ?_ (aA0 ?_ (aA0 ?_ (aA0 ?_ (aA0 ?_ (aA0 ?_ (aA0 ?_ (aA0 ?_ (aA0 ?_ (aA2))))))))))))))))))
   ·intro a v W hd hb K hK;have k7:a.tmps.getD 7 undef=.pointer (some ⟨gl,0,none⟩):=hd.kept 7 (by kernel_rfl);have hk:=hK (.pointer (some ⟨gl,0,none⟩)) W (Below.refl _ _) rfl;clear hK;unfold Oper.wp;go_simp;exact hk
   ·intro a v W hd hb K hK;obtain ⟨h29,r29⟩:=hd.done_ 0 _ 29 (by kernel_rfl) rfl rfl;have r29:v 0=.pointer (some ⟨gl,0,none⟩):=r29;rw [r29] at h29;have hk:=hK (.pointer (some ⟨gl,0,none⟩)) W (Below.refl _ _) rfl;clear hK;unfold Oper.wp;go_simp;exact hk
   ·intro a v W hd hb K hK;obtain ⟨h30,r30⟩:=hd.done_ 1 _ 30 (by kernel_rfl) rfl rfl;have r30:v 1=.pointer (some ⟨gl,0,none⟩):=r30;rw [r30] at h30;have hk:=hK (.pointer (some ⟨gl,2,none⟩)) W (Below.refl _ _) rfl;clear hK;unfold Oper.wp;go_simp;exact hk
   ·intro a v W hd hb K hK;obtain ⟨h31,r31⟩:=hd.done_ 2 _ 31 (by kernel_rfl) rfl rfl;have r31:v 2=.pointer (some ⟨gl,2,none⟩):=r31;rw [r31] at h31;have kk:W.cell? ⟨gl,2,none⟩=some (.map (some gm)):=(HL.out.below hb).cell 2;have hk:=hK (.map (some gm)) W (Below.refl _ _) rfl;clear hK;unfold Oper.wp;go_simp;exact hk
   ·intro a v W hd hb K hK;have k1:a.tmps.getD 1 undef=.int .i64 (i:Int):=hd.kept 1 (by kernel_rfl);have hk:=hK (.int .i64 (i:Int)) W (Below.refl _ _) rfl;clear hK;unfold Oper.wp;go_simp;exact hk
   ·intro a v W hd hb K hK;have k7:a.tmps.getD 7 undef=.pointer (some ⟨gl,0,none⟩):=hd.kept 7 (by kernel_rfl);have hk:=hK (.pointer (some ⟨gl,0,none⟩)) W (Below.refl _ _) rfl;clear hK;unfold Oper.wp;go_simp;exact hk
   ·intro a v W hd hb K hK;obtain ⟨h34,r34⟩:=hd.done_ 5 _ 34 (by kernel_rfl) rfl rfl;have r34:v 5=.pointer (some ⟨gl,0,none⟩):=r34;rw [r34] at h34;have hk:=hK (.pointer (some ⟨gl,0,none⟩)) W (Below.refl _ _) rfl;clear hK;unfold Oper.wp;go_simp;exact hk
   ·intro a v W hd hb K hK;obtain ⟨h35,r35⟩:=hd.done_ 6 _ 35 (by kernel_rfl) rfl rfl;have r35:v 6=.pointer (some ⟨gl,0,none⟩):=r35;rw [r35] at h35;have hk:=hK (.pointer (some ⟨gl,2,none⟩)) W (Below.refl _ _) rfl;clear hK;unfold Oper.wp;go_simp;exact hk
   ·intro a v W hd hb K hK;obtain ⟨h36,r36⟩:=hd.done_ 7 _ 36 (by kernel_rfl) rfl rfl;have r36:v 7=.pointer (some ⟨gl,2,none⟩):=r36;rw [r36] at h36;have kk:W.cell? ⟨gl,2,none⟩=some (.map (some gm)):=(HL.out.below hb).cell 2;have hk:=hK (.map (some gm)) W (Below.refl _ _) rfl;clear hK;unfold Oper.wp;go_simp;exact hk
   ·intro a v W hd hb K hK;have k1:a.tmps.getD 1 undef=.int .i64 (i:Int):=hd.kept 1 (by kernel_rfl);have hk:=hK (.int .i64 (i:Int)) W (Below.refl _ _) rfl;clear hK;unfold Oper.wp;go_simp;exact hk
   ·intro a v W hd hb K hK;obtain ⟨h37,r37⟩:=hd.done_ 8 _ 37 (by kernel_rfl) rfl rfl;have r37:v 8=.map (some gm):=r37;rw [r37] at h37;obtain ⟨h38,r38⟩:=hd.done_ 9 _ 38 (by kernel_rfl) rfl rfl;have r38:v 9=.int .i64 (i:Int):=r38;rw [r38] at h38;have hlk:=((HIMD.out.below hb).look aK7 (z:=.int .i64 0) (aLk W) i (by omega)).1;rw [hlv] at hlk;have hk:=hK (.int .i64 (ad:Int)) W (Below.refl _ _) rfl;clear hK;unfold Oper.wp;go_simp;exact hk
   ·intro a v W hd hb K hK;have k5:a.tmps.getD 5 undef=.pointer (some ⟨w.heap.size,0,none⟩):=hd.kept 5 (by kernel_rfl);have hk:=hK (.pointer (some ⟨w.heap.size,3,none⟩)) W (Below.refl _ _) rfl;clear hK;unfold Oper.wp;go_simp;exact hk
   ·intro a v W hd hb K hK;obtain ⟨h40,r40⟩:=hd.done_ 11 _ 40 (by kernel_rfl) rfl rfl;have r40:v 11=.pointer (some ⟨w.heap.size,3,none⟩):=r40;rw [r40] at h40;have kk:W.cell? ⟨w.heap.size,3,none⟩=some (.int .i64 m.at_):=(HBMD.out.below hb).cell 3;have hk:=hK (.int .i64 m.at_) W (Below.refl _ _) rfl;clear hK;unfold Oper.wp;go_simp;exact hk
   ·intro a v W hd hb K hK;have k0:a.tmps.getD 0 undef=.pointer (some ⟨gz,0,none⟩):=hd.kept 0 (by kernel_rfl);have hk:=hK (.pointer (some ⟨gz,0,none⟩)) W (Below.refl _ _) rfl;clear hK;unfold Oper.wp;go_simp;exact hk
   ·intro a v W hd hb K hK;obtain ⟨h42,r42⟩:=hd.done_ 13 _ 42 (by kernel_rfl) rfl rfl;have r42:v 13=.pointer (some ⟨gz,0,none⟩):=r42;rw [r42] at h42;have ct:=aMc (HSS.out.below_ hb) (HBKD.out.below hb);unfold Oper.wp;go_simp;refine ct.mono ?_;rintro e' W' ⟨A',c',rfl,-,hb'⟩;exact hK _ W' hb' ⟨A',c',rfl⟩
   ·intro a v W hd hb K hK;obtain ⟨h43,r43⟩:=hd.done_ 14 _ 43 (by kernel_rfl) rfl rfl;obtain ⟨A',c',e43⟩:=r43;rw [e43] at h43;have hk:=hK (.int .i64 (z.k.lines.length:Int)) W (Below.refl _ _) rfl;clear hK;unfold Oper.wp;go_simp;exact hk
   ·intro a v W hd hb K hK;obtain ⟨h41,r41⟩:=hd.done_ 12 _ 41 (by kernel_rfl) rfl rfl;have r41:v 12=.int .i64 m.at_:=r41;rw [r41] at h41;obtain ⟨h44,r44⟩:=hd.done_ 15 _ 44 (by kernel_rfl) rfl rfl;have r44:v 15=.int .i64 (z.k.lines.length:Int):=r44;rw [r44] at h44;have hk:=hK (.int .i64 (q:Int)) W (Below.refl _ _) rfl;clear hK;unfold Oper.wp;go_simp;exact hk
   ·intro a v W hd hb K hK;obtain ⟨h39,r39⟩:=hd.done_ 10 _ 39 (by kernel_rfl) rfl rfl;have r39:v 10=.int .i64 (ad:Int):=r39;rw [r39] at h39;obtain ⟨h45,r45⟩:=hd.done_ 16 _ 45 (by kernel_rfl) rfl rfl;have r45:v 16=.int .i64 (q:Int):=r45;rw [r45] at h45;have hk:=hK (.int .i64 (s:Int)) W (Below.refl _ _) rfl;clear hK;unfold Oper.wp;go_simp;exact hk
  case hS2=>
   intro o ho;injection ho with ho;subst ho;intro a v W hd hb K hK;obtain ⟨h32,r32⟩:=hd.done_ 3 _ 32 (by kernel_rfl) rfl rfl;have r32:v 3=.map (some gm):=r32;rw [r32] at h32;obtain ⟨h33,r33⟩:=hd.done_ 4 _ 33 (by kernel_rfl) rfl rfl;have r33:v 4=.int .i64 (i:Int):=r33;rw [r33] at h33;obtain ⟨h46,r46⟩:=hd.done_ 17 _ 46 (by kernel_rfl) rfl rfl;have r46:v 17=.int .i64 (s:Int):=r46;rw [r46] at h46;obtain ⟨W',D',hput,him',hgr⟩:=(HIMD.out.below hb).put aK7 i (by omega) (.int .i64 (s:Int)) (by omega);have hk:=hK undef W' ⟨D',him',((Out.of_below hb).trans (X':=fun b=>b=gm) ((PhaseG.aAc hgr).mono fun k hk=>.inl (by injection hk with hk;exact hk.symm)) fun k hk=>.inl hk)⟩;clear hK him' hgr;unfold Oper.wp;go_simp;exact hk
  case hS3=>exact aA2
  case hE=>
   intro v V hE _;obtain ⟨D',him',ho'⟩:=hE;obtain ⟨z1,hz1⟩:∃z1:Zn,z1={z with role:=.lead m.epoch base (setA acked i s) ready}:=⟨_,rfl⟩;have hngz:gz≠gm:=fun q=>H.out.gzn.2 (q ▸ HYM.out);have hngl:gl≠gm:=fun q=>by
    obtain ⟨es,clock,h1,_⟩:=HIM.out.own;have h2:w.heap[gl]? =_:=HLL.out;rw [q] at h2;rw [h1] at h2;cases h2
   have hbkV:=HBKD.out.out ho' hngz;have hlV:=HL.out.out ho' hngl;have himV:IMap V gm (ackV (setA acked i s)) (cntA z.n (setA acked i s)) D':=by rw [aXx,aYs H.out.ok.n3 hi,←aUd];exact him'
   have hok:=H.out.ok;have hokz:z1.Ok:=by
    rw [hz1];refine ⟨hok.n1,hok.n3,hok.id,hok.fine,hok.seen,hok.com,hp1,hp2,hp3,hp4,fun j a ha=>?_⟩;unfold setA at ha;split at ha
    ·next hj=>
     injection ha with ha;subst ha;rw [hj];exact ⟨hi,hii,hsl⟩
    ·exact HP5.out j a ha
   have hsz:w.heap.size≤V.heap.size:=Nat.le_trans HBD.out.size ho'.size;have hnd:Nd w0 V Y Z gz gs gd pg z1 N:=by
    refine ⟨?_,⟨.iface 89 (.pointer (some ⟨gl,0,none⟩)),?_,?_⟩,hokz,?_,H.out.low,H.out.gzn,fun b hb=>⟨(H.out.yz b hb).1,(H.out.yz b hb).2.1,Nat.lt_of_lt_of_le (H.out.yz b hb).2.2 hsz⟩⟩
    ·rw [hz1];exact HSS.out.out ho' fun b hb=>by rw [hb];exact ⟨(H.out.yz _ HYM.out).2.1,(H.out.yz _ HYM.out).1⟩
    ·rw [hz1];exact hbkV
    ·rw [hz1];exact ⟨gl,gm,D',rfl,HYL.out,HYM.out,hlV,himV⟩
    ·rw [hz1];exact H.out.pp
   have hrole1:z1.role=.lead m.epoch base (setA acked i s) ready:=by rw [hz1]
   have hgA:Gz Y Z Y Z gz w V:=(Gz.of_below HBD.out).trans ⟨ho'.mono fun k hk=>.inl (.inr (.inl (by rw [hk];exact HYM.out))),fun b hb=>.inl hb⟩;have CC:=Lib.hid (aJ5 hnd hrole1 (by rw [hz1];exact hbkV) HYL.out HYM.out hlV (by rw [hz1];exact himV));have hcz:z1.count m.epoch base (setA acked i s) ready=z.count m.epoch base (setA acked i s) ready:=by rw [hz1];unfold Zn.count;split<;>rfl
   rw [hcz] at CC;have HGA:=Lib.hid hgA;clear him' ho' hz1 hngz hngl hbkV hlV himV hok hokz hsz hnd hrole1 hgA hcz HSS HBKD HIMD HBMD HL HBD HP5 HIM HLL HYM HYL hmin hmax hlv hp1 hp2 hp3 hp4;go_wp2_with fail;refine CC.out.mono ?_;rintro r6 w6 ⟨⟨Y6,Z6,rfl,hn6,hg6⟩,-⟩;have HF:Hid (ToldP w0 Y Z gz gs gd pg (z.hearAck i m) N w (.returned (.slice none 0 0)) w6):=by
    rw [HZ.out];exact ⟨_,Y6,Z6,w6.heap.size,rfl,(HGA.out.trans hg6).1.size,OwnO.nil_ _ _,fun _=>rfl,fun b hb=>(hn6.nx b hb).2,hn6,HGA.out.trans hg6⟩
   clear hn6 hg6 CC;go_wp2_with fail;go_ret;exact HF.out
end
end Go.Proofs.YtgjmbbkcgillcaaGreat.Zab
