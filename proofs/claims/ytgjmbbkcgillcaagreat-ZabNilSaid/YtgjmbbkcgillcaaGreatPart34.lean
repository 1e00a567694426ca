/- Lemmas, part 34: ZabRefuse, ZabHearStand, ZabHearAdopt -/
import Derived.Test.YtgjmbbkcgillcaaGreatPart33
set_option maxHeartbeats 16000000
namespace Go.Proofs.YtgjmbbkcgillcaaGreat.Zab
open Go.RowKit Disk Log Sto Zm Bal
structure Hrd (w:World) (P:Nat→Prop) (Y Z:Nat→Prop) (gz:Nat) (m:Mg) (A:Option Addr) (c:Nat):Prop where
 may:m.may
 lns:LnS P w A m.lines.length m.lines
 far:∀b,P b→¬Nx Y Z gz b∧b<w.heap.size
 cap:m.lines.length≤c
theorem Hrd.below {w w':World} {P Y Z:Nat→Prop} {gz:Nat} {m:Mg} {A:Option Addr} {c:Nat} (h:Hrd w P Y Z gz m A c) (hb:Below w.heap.size w w'):Hrd w' P Y Z gz m A c:=⟨h.may,h.lns.below hb,fun b q=>⟨(h.far b q).1,Nat.lt_of_lt_of_le (h.far b q).2 hb.size⟩,h.cap⟩
theorem Hrd.laid {w:World} {P Y Z:Nat→Prop} {gz:Nat} {m:Mg} {A:Option Addr} {c:Nat} (h:Hrd w P Y Z gz m A c):Laid m.lines:=by
 obtain ⟨_,_,_,_,_,_,_,_,_,h1,h2,_⟩:=h.may;refine ⟨by omega,fun x hx=>?_⟩;obtain ⟨_,q2,_,q4⟩:=aAi.1 (h2 x hx);unfold top at q2;omega
section
variable {w0 w w':World} {Y Z:Nat→Prop} {gz gs gd pg:Nat} {z:Zn} {N:Nat}
theorem aAe (h:Nd w0 w Y Z gz gs gd pg z N) {V:World} (hb:Below w.heap.size w V):ToldP w0 Y Z gz gs gd pg (z,[]) N w (.returned (.slice none 0 0)) V:=
 ⟨_,Y,Z,V.heap.size,rfl,hb.size,OwnO.nil_ _ _,fun _=>rfl,fun b q=>((h.below_ hb).nx b q).2,h.below_ hb,Gz.of_below hb⟩
theorem aTk {k gp e : Nat} {W : World} (h : W.cell? ⟨gp, 0, none⟩ = some (.int .u64 (e : Int))) : (method (k + 1) 187 (.pointer (some ⟨gp, 0, none⟩)) "outrider/zab.epoch").run Tryz.prog W = .ok (59, .int .u64 (e : Int)) W := by
 have hm : (method (k + 1) 187 (.pointer (some ⟨gp, 0, none⟩)) "outrider/zab.epoch").run Tryz.prog W = (do let v ← loadVar 109 ⟨gp, 0, none⟩; pure (59, v)).run Tryz.prog W := by kernel_rfl
 have ha:(isAgg 109).run Tryz.prog W=.ok false W:=by kernel_rfl
 rw [hm];simp only [loadVar,Sem.run_bind,ha,Result.andThen_ok,Sem.run_pure,run_load,h,Bool.false_eq_true,if_false]
theorem aUa {k gp e : Nat} {W : World} (h : W.cell? ⟨gp, 0, none⟩ = some (.int .u64 (e : Int))) : (method (k + 1) 89 (.pointer (some ⟨gp, 0, none⟩)) "outrider/zab.epoch").run Tryz.prog W = .ok (59, .int .u64 (e : Int)) W := by
 have hm : (method (k + 1) 89 (.pointer (some ⟨gp, 0, none⟩)) "outrider/zab.epoch").run Tryz.prog W = (do let v ← loadVar 109 ⟨gp, 0, none⟩; pure (59, v)).run Tryz.prog W := by kernel_rfl
 have ha:(isAgg 109).run Tryz.prog W=.ok false W:=by kernel_rfl
 rw [hm];simp only [loadVar,Sem.run_bind,ha,Result.andThen_ok,Sem.run_pure,run_load,h,Bool.false_eq_true,if_false]
theorem aBs {V w2:World} {z':Zn} {Y' Z':Nat→Prop} {M to:Nat} {m:Mg} {e:Ending} (hn:Nd w0 V Y' Z' gz gs gd pg z' M) (hg:Gz Y Z Y' Z' gz w V) (ht:TellP to m V e w2):ToldP w0 Y Z gz gs gd pg (z',one to m) M w e w2:=by
 obtain ⟨v,rfl,ho,hb⟩:=ht;exact ⟨v,Y',Z',V.heap.size,rfl,hg.1.size,ho,(fun q=>by cases q),fun b q=>(hn.nx b q).2,hn.below_ hb,hg.later hb⟩
theorem ToldP.behind {V:World} {Y1 Z1:Nat→Prop} {r:Zn×List Tl} {e:Ending} (h:ToldP w0 Y1 Z1 gz gs gd pg r N V e w') (hg:Gz Y Z Y1 Z1 gz w V):ToldP w0 Y Z gz gs gd pg r N w e w':=by
 obtain ⟨v,Y',Z',B,h1,h2,h3,h4,h5,h6,h7⟩:=h;exact ⟨v,Y',Z',B,h1,Nat.le_trans hg.1.size h2,h3,h4,h5,h6,hg.trans h7⟩
theorem aAg {w W:World} (h:Below w.heap.size w W):Below w.heap.size W W.drew:=(aBe W).mono h.size
set_option maxRecDepth 100000 in
theorem aKc (h:Nd w0 w Y Z gz gs gd pg z N) (i:Int) (m:Mg) (A:Option Addr) (c:Nat):
  Calls Tryz.prog 92 #[.pointer (some ⟨gz,0,none⟩),.int .i64 i,.agg (mgC m A m.lines.length c)] w (ToldP w0 Y Z gz gs gd pg (z.hearRefuse m) N w):=by
 obtain ⟨W,hW⟩:∃W,W=w.alloc (.cells (mgC m A m.lines.length c) 36):=⟨_,rfl⟩;have hb0:Below w.heap.size w W:=by rw [hW];exact (Below.refl _ _).alloc (Nat.le_refl _) _
 have hbm:Bk W w.heap.size 36 (mgC m A m.lines.length c):=by rw [hW];exact Bk.new _ _ _
 have m1:W.cell? ⟨w.heap.size,1,none⟩=some (.int .u64 (m.epoch:Int)):=hbm.cell 1;obtain ⟨rv,hbk,hr⟩:=h.bk;have z3:W.cell? ⟨gz,3,none⟩=some rv:=(hbk.below hb0).cell 3;have hw:w.alloc (.cells #[.int .u8 (m.kind:Int),.int .u64 (m.epoch:Int),.int .u64 (m.current:Int),.int .i64 m.at_,.int .i64 m.commit,.slice A m.lines.length c] 36)=W:=hW.symm;have HB0:=Lib.hid hb0;have H:=Lib.hid h;unfold mgC;clear hW hbm hb0 h;cases hrole:z.role with
 |follow=>
  rw [hrole] at hr;subst hr;have ha:=aBr W;have hs:=aFb W;have hz:z.hearRefuse m=(z,[]):=by unfold Zn.hearRefuse;rw [hrole]
  rw [hz];clear hrole hz hbk;go_enter Tryz.func92,Tryz.ntmps92
  go_wp2_with fail;go_ret;exact aAe H.out HB0.out
 |stand e=>
  rw [hrole] at hr;obtain ⟨gp,gm,A1,c1,D,rfl,-,-,hb,-⟩:=hr;have p0:W.cell? ⟨gp,0,none⟩=some (.int .u64 (e:Int)):=(hb.below HB0.out).cell 0;have ha:=aBq gp W;have hs:=aH4 gp W;have hme:=fun k=>aTk (k:=k) (W:=W.drew) (show W.drew.cell? ⟨gp,0,none⟩=some (.int .u64 (e:Int)) from p0);have hz:z.hearRefuse m=(if e<m.epoch then z.follow else z,[]):=by unfold Zn.hearRefuse;rw [hrole]
  rw [hz];clear hrole hz hbk hb;by_cases hle:e<m.epoch
  ·rw [if_pos hle];have hlb:decide ((e:Int)<(m.epoch:Int))=true:=decide_eq_true (by omega);have hli:(e:Int)<(m.epoch:Int):=by omega
   clear hle;go_enter Tryz.func92,Tryz.ntmps92
   go_wp2_with fail;refine aAk 4 (by kernel_rfl) (by kernel_rfl) ?_;simp only [List.take_succ_cons,List.take_zero,List.drop_succ_cons,List.drop_zero]
   iterate 3
    refine aA6 (by kernel_rfl) ?_;apply Exists.intro
    refine And.intro ?_ ?_
    ·unfold aA5;first
      |(go_simp;done)
      |(go_simp;exact rfl)
    try simp only [Act.put,List.setIfInBounds_toArray,List.set_cons_zero,List.set_cons_succ]
   refine aBn (by kernel_rfl) ?_;apply Exists.intro
   apply Exists.intro
   apply Exists.intro
   refine And.intro ?_ (And.intro ?_ ?_)
   ·first
     |(go_simp;exact ⟨rfl,rfl⟩)
     |(go_simp;exact rfl)
     |(go_simp;done)
   ·exact (aB3 (e:Int) _).mono (fun _ _ h=>⟨h.1,h.2.symm⟩)
   try simp only [Act.put,List.setIfInBounds_toArray,List.set_cons_zero,List.set_cons_succ]
   refine aAv ?_;change wpList _ _ _ _ _ W.drew;go_wp2_with fail;refine (aL3 (H.out.below_ (HB0.out.trans (aAg HB0.out)))).mono ?_;rintro r1 w1 ⟨Y1,Z1,rfl,hn1,hg1⟩;have HF:Hid (ToldP w0 Y Z gz gs gd pg (z.follow,[]) N w (.returned (.slice none 0 0)) w1):=⟨_,Y1,Z1,w1.heap.size,rfl,Nat.le_trans (HB0.out.trans (aAg HB0.out)).size hg1.1.size,OwnO.nil_ _ _,fun _=>rfl,fun b q=>(hn1.nx b q).2,hn1,Gz.earlier (HB0.out.trans (aAg HB0.out)) hg1⟩;clear hn1 hg1;go_wp2_with fail;go_ret;exact HF.out
  ·rw [if_neg hle];have hlb:decide ((e:Int)<(m.epoch:Int))=false:=decide_eq_false (by omega);have hli:¬(e:Int)<(m.epoch:Int):=by omega
   clear hle;go_enter Tryz.func92,Tryz.ntmps92
   go_wp2_with fail;refine aAk 4 (by kernel_rfl) (by kernel_rfl) ?_;simp only [List.take_succ_cons,List.take_zero,List.drop_succ_cons,List.drop_zero]
   iterate 3
    refine aA6 (by kernel_rfl) ?_;apply Exists.intro
    refine And.intro ?_ ?_
    ·unfold aA5;first
      |(go_simp;done)
      |(go_simp;exact rfl)
    try simp only [Act.put,List.setIfInBounds_toArray,List.set_cons_zero,List.set_cons_succ]
   refine aBn (by kernel_rfl) ?_;apply Exists.intro
   apply Exists.intro
   apply Exists.intro
   refine And.intro ?_ (And.intro ?_ ?_)
   ·first
     |(go_simp;exact ⟨rfl,rfl⟩)
     |(go_simp;exact rfl)
     |(go_simp;done)
   ·exact (aB3 (e:Int) _).mono (fun _ _ h=>⟨h.1,h.2.symm⟩)
   try simp only [Act.put,List.setIfInBounds_toArray,List.set_cons_zero,List.set_cons_succ]
   refine aAv ?_;change wpList _ _ _ _ _ W.drew;go_wp2_with fail;go_ret;exact aAe H.out (HB0.out.trans (aAg HB0.out))
 |lead e base acked ready=>
  rw [hrole] at hr;obtain ⟨gp,gm,D,rfl,-,-,hb,-⟩:=hr;have p0:W.cell? ⟨gp,0,none⟩=some (.int .u64 (e:Int)):=(hb.below HB0.out).cell 0;have ha:=aD1 gp W;have hs:=aFa gp W;have hme:=fun k=>aUa (k:=k) (W:=W.drew) (show W.drew.cell? ⟨gp,0,none⟩=some (.int .u64 (e:Int)) from p0);have hz:z.hearRefuse m=(if e<m.epoch then z.follow else z,[]):=by unfold Zn.hearRefuse;rw [hrole]
  rw [hz];clear hrole hz hbk hb;by_cases hle:e<m.epoch
  ·rw [if_pos hle];have hlb:decide ((e:Int)<(m.epoch:Int))=true:=decide_eq_true (by omega);have hli:(e:Int)<(m.epoch:Int):=by omega
   clear hle;go_enter Tryz.func92,Tryz.ntmps92
   go_wp2_with fail;refine aAk 4 (by kernel_rfl) (by kernel_rfl) ?_;simp only [List.take_succ_cons,List.take_zero,List.drop_succ_cons,List.drop_zero]
   iterate 3
    refine aA6 (by kernel_rfl) ?_;apply Exists.intro
    refine And.intro ?_ ?_
    ·unfold aA5;first
      |(go_simp;done)
      |(go_simp;exact rfl)
    try simp only [Act.put,List.setIfInBounds_toArray,List.set_cons_zero,List.set_cons_succ]
   refine aBn (by kernel_rfl) ?_;apply Exists.intro
   apply Exists.intro
   apply Exists.intro
   refine And.intro ?_ (And.intro ?_ ?_)
   ·first
     |(go_simp;exact ⟨rfl,rfl⟩)
     |(go_simp;exact rfl)
     |(go_simp;done)
   ·exact (aB3 (e:Int) _).mono (fun _ _ h=>⟨h.1,h.2.symm⟩)
   try simp only [Act.put,List.setIfInBounds_toArray,List.set_cons_zero,List.set_cons_succ]
   refine aAv ?_;change wpList _ _ _ _ _ W.drew;go_wp2_with fail;refine (aL3 (H.out.below_ (HB0.out.trans (aAg HB0.out)))).mono ?_;rintro r1 w1 ⟨Y1,Z1,rfl,hn1,hg1⟩;have HF:Hid (ToldP w0 Y Z gz gs gd pg (z.follow,[]) N w (.returned (.slice none 0 0)) w1):=⟨_,Y1,Z1,w1.heap.size,rfl,Nat.le_trans (HB0.out.trans (aAg HB0.out)).size hg1.1.size,OwnO.nil_ _ _,fun _=>rfl,fun b q=>(hn1.nx b q).2,hn1,Gz.earlier (HB0.out.trans (aAg HB0.out)) hg1⟩;clear hn1 hg1;go_wp2_with fail;go_ret;exact HF.out
  ·rw [if_neg hle];have hlb:decide ((e:Int)<(m.epoch:Int))=false:=decide_eq_false (by omega);have hli:¬(e:Int)<(m.epoch:Int):=by omega
   clear hle;go_enter Tryz.func92,Tryz.ntmps92
   go_wp2_with fail;refine aAk 4 (by kernel_rfl) (by kernel_rfl) ?_;simp only [List.take_succ_cons,List.take_zero,List.drop_succ_cons,List.drop_zero]
   iterate 3
    refine aA6 (by kernel_rfl) ?_;apply Exists.intro
    refine And.intro ?_ ?_
    ·unfold aA5;first
      |(go_simp;done)
      |(go_simp;exact rfl)
    try simp only [Act.put,List.setIfInBounds_toArray,List.set_cons_zero,List.set_cons_succ]
   refine aBn (by kernel_rfl) ?_;apply Exists.intro
   apply Exists.intro
   apply Exists.intro
   refine And.intro ?_ (And.intro ?_ ?_)
   ·first
     |(go_simp;exact ⟨rfl,rfl⟩)
     |(go_simp;exact rfl)
     |(go_simp;done)
   ·exact (aB3 (e:Int) _).mono (fun _ _ h=>⟨h.1,h.2.symm⟩)
   try simp only [Act.put,List.setIfInBounds_toArray,List.set_cons_zero,List.set_cons_succ]
   refine aAv ?_;change wpList _ _ _ _ _ W.drew;go_wp2_with fail;go_ret;exact aAe H.out (HB0.out.trans (aAg HB0.out))
end
end Go.Proofs.YtgjmbbkcgillcaaGreat.Zab
namespace Go.Proofs.YtgjmbbkcgillcaaGreat.Zab
open Go.RowKit Disk Log Sto Zm Bal
section
variable {w0 w w':World} {Y Z:Nat→Prop} {gz gs gd pg:Nat} {z:Zn} {N:Nat}
set_option maxRecDepth 100000 in
theorem aLr {P:Nat→Prop} (h:Nd w0 w Y Z gz gs gd pg z N) (hN:N+8<65536) (i:Nat) {m:Mg} {A:Option Addr} {c:Nat} (hm:Hrd w P Y Z gz m A c):
  Calls Tryz.prog 90 #[.pointer (some ⟨gz,0,none⟩),.int .i64 (i:Int),.agg (mgC m A m.lines.length c)] w (ToldP w0 Y Z gz gs gd pg (z.hearStand i m) (N+4) w):=by
 obtain ⟨W,hW⟩:∃W,W=w.alloc (.cells (mgC m A m.lines.length c) 36):=⟨_,rfl⟩;have hb0:Below w.heap.size w W:=by rw [hW];exact (Below.refl _ _).alloc (Nat.le_refl _) _
 have hbm:Bk W w.heap.size 36 (mgC m A m.lines.length c):=by rw [hW];exact Bk.new _ _ _
 obtain ⟨rv,hbk,hr⟩:=h.bk;have hbk0:=hbk.below hb0;have z2:W.cell? ⟨gz,2,none⟩=some (.pointer (some ⟨gs,0,none⟩)):=hbk0.cell 2;have hw:w.alloc (.cells #[.int .u8 (m.kind:Int),.int .u64 (m.epoch:Int),.int .u64 (m.current:Int),.int .i64 m.at_,.int .i64 m.commit,.slice A m.lines.length c] 36)=W:=hW.symm;have CK:=Lib.hid (h.ss.below_ hb0).kept;have hme:m.epoch≤top:=hm.may.2.2.2.1;have HF0:Hid (Zn.hearStand z i m=Zn.hearStand z i m):=rfl;have HB0:=Lib.hid hb0;have HBM:=Lib.hid hbm;have HBK0:=Lib.hid hbk0;have H:=Lib.hid h;have HM:=Lib.hid hm;unfold mgC;clear hW hbm hb0 h hm hbk hbk0 hr;go_enter Tryz.func90,Tryz.ntmps90
 go_wp2_with fail;refine CK.out.mono ?_;rintro r1 w1 ⟨B,d,rfl,ho1,hb1⟩;obtain ⟨W1,hW1⟩:∃W1,W1=w1.alloc (.cells #[.int .u64 (z.k.promised:Int),.int .u64 (z.k.current:Int),.slice B z.k.lines.length d] 69):=⟨_,rfl⟩;have hb2:Below w1.heap.size w1 W1:=by rw [hW1];exact (Below.refl _ _).alloc (Nat.le_refl _) _
 have hk1:Bk W1 w1.heap.size 69 #[.int .u64 (z.k.promised:Int),.int .u64 (z.k.current:Int),.slice B z.k.lines.length d]:=by rw [hW1];exact Bk.new _ _ _
 have hb02:Below W.heap.size W W1:=hb1.trans (hb2.mono hb1.size);have hbw:Below w.heap.size w W1:=HB0.out.trans (hb02.mono HB0.out.size);have hbm1:=HBM.out.below hb02;have hbk1:=HBK0.out.below hb02;have p0:W1.cell? ⟨w1.heap.size,0,none⟩=some (.int .u64 (z.k.promised:Int)):=hk1.cell 0;have p1:W1.cell? ⟨w1.heap.size,1,none⟩=some (.int .u64 (z.k.current:Int)):=hk1.cell 1;have m1:W1.cell? ⟨w.heap.size,1,none⟩=some (.int .u64 (m.epoch:Int)):=hbm1.cell 1;have y2:W1.cell? ⟨gz,2,none⟩=some (.pointer (some ⟨gs,0,none⟩)):=hbk1.cell 2;have hw1:w1.alloc (.cells #[.int .u64 (z.k.promised:Int),.int .u64 (z.k.current:Int),.slice B z.k.lines.length d] 69)=W1:=hW1.symm;have CO:=Lib.hid (aMi (H.out.below_ hbw) (i:Int) m.epoch);have HLN:=Lib.hid (ho1.lns.below hb2);have HK1:=Lib.hid hk1;have HBW:=Lib.hid hbw;have HBK1:=Lib.hid hbk1;have HBM1:=Lib.hid hbm1;have HW1:Hid (W.heap.size≤w1.heap.size):=hb1.size;clear hW1 hb2 hk1 hb02 hbw hbm1 hbk1 ho1 hb1 CK HF0 z2;by_cases hown:m.epoch % z.n=i
 case neg=>
  have hz:z.hearStand i m=(z,[]):=by unfold Zn.hearStand;rw [if_pos hown]
  have hob:((((m.epoch % z.n:Nat)):Int)==(i:Int))=false:=by rw [beq_eq_false_iff_ne];omega
  rw [hob] at CO;have HZ:=Lib.hid hz;unfold kpV;clear hob hz hown;go_wp2_with fail;refine CO.out.mono ?_;rintro r2 w2 ⟨rfl,rfl⟩;go_wp2_with fail;go_ret;rw [HZ.out];exact (aAe (H.out.mono (M:=N+4) (by omega)) HBW.out)
 have hob:((((m.epoch % z.n:Nat)):Int)==(i:Int))=true:=by rw [beq_iff_eq];omega
 rw [hob] at CO;clear hob;by_cases hle:m.epoch≤z.k.promised
 case pos=>
  have hz:z.hearStand i m=(z,one i (reM z.k.promised)):=by unfold Zn.hearStand;rw [if_neg (by omega),if_pos hle]
  have hlb:decide ((m.epoch:Int)≤(z.k.promised:Int))=true:=decide_eq_true (by omega);have hli:(m.epoch:Int)≤(z.k.promised:Int):=by omega
  have hpt:z.k.promised<18446744073709551616:=by have:=H.out.ok.fine.prom;unfold top at this;omega
  have CR:=Lib.hid (aGe (.pointer (some ⟨gz,0,none⟩)) i z.k.promised W1 hpt);have HZ:=Lib.hid hz;unfold kpV;clear hz hown hle hpt;go_wp2_with fail;refine CO.out.mono ?_;rintro r2 w2 ⟨rfl,rfl⟩;go_wp2_with fail;refine CR.out.mono ?_;intro r3 w3 ht;have HF:=Lib.hid (aBs ((H.out.below_ HBW.out).mono (M:=N+4) (by omega)) (Gz.of_below HBW.out) ht);obtain ⟨v,rfl,-,-⟩:=ht;clear CR CO;go_wp2_with fail;go_ret;rw [HZ.out];exact HF.out
 have hlb:decide ((m.epoch:Int)≤(z.k.promised:Int))=false:=decide_eq_false (by omega);have hli:¬(m.epoch:Int)≤(z.k.promised:Int):=by omega
 unfold kpV;go_wp2_with fail;refine CO.out.mono ?_;rintro r2 w2 ⟨rfl,rfl⟩;go_wp2_with fail;obtain ⟨av,hav⟩:∃av,av=ans (.prom m.epoch) z.k (pg / 2):=⟨_,rfl⟩;have hss:Ss w0 W1.drew Z gs gd pg z.k N:=(H.out.ss.below_ HBW.out).below_ (aBe W1);have CP:=Lib.hid (hss.promise (by omega) m.epoch (by unfold top at hme;omega));rw [←hav] at CP;have HLE:=Lib.hid hle;clear hss CO hlb hli hle;refine aAk 6 (by kernel_rfl) (by kernel_rfl) ?_;simp only [List.take_succ_cons,List.take_zero,List.drop_succ_cons,List.drop_zero]
 iterate 6
  refine aA6 (by kernel_rfl) ?_;apply Exists.intro
  refine And.intro ?_ ?_
  ·unfold aA5;first
    |(go_simp;done)
    |(go_simp;exact rfl)
  try simp only [Act.put,List.setIfInBounds_toArray,List.set_cons_zero,List.set_cons_succ]
 refine aAv ?_;change wpList _ _ _ _ _ W1.drew;go_wp2_with fail;refine CP.out.mono ?_;rintro r2 w2 ⟨rfl,Z2,hs2,hg2,hz2⟩;have hg2':=aCs hg2;have hz2':∀b,Z2 b→Z b∨W1.heap.size≤b:=hz2;by_cases ha:ans (.prom m.epoch) z.k (pg / 2)=0
 case neg=>
  have hz:z.hearStand i m=(z,[]):=by unfold Zn.hearStand;rw [if_neg (fun q=>q hown),if_neg HLE.out,H.out.pp,if_neg ha]
  rw [aKi ha] at hs2;obtain ⟨hn2,hgz2⟩:=(H.out.below_ HBW.out).same hs2 hg2' hz2';have hne:(av != 0)=true:=by rw [hav];simpa using ha
  have HF:Hid (ToldP w0 Y Z gz gs gd pg (z.hearStand i m) (N+4) w (.returned (.slice none 0 0)) w2):=by
   rw [hz];have:=aAe hn2 (Below.refl _ _);exact this.behind (Gz.earlier HBW.out hgz2)
  clear hav hs2 hg2 hz2 hg2' hz2' ha hz hn2 hgz2 CP hown;go_wp2_with fail;go_ret;exact HF.out
 obtain ⟨hmay,hfits,hthn⟩:=aGm ha;obtain ⟨q1,q2⟩:=aD4.1 hmay;obtain ⟨z1,hz1⟩:∃z1:Zn,z1={z with k:=thn (.prom m.epoch) z.k (pg / 2)}:=⟨_,rfl⟩;have hz:z.hearStand i m=(z1.follow,one i (prM m.epoch z.k.current z.k.lines)):=by
  unfold Zn.hearStand;rw [if_neg (fun q=>q hown),if_neg HLE.out,if_pos (by rw [H.out.pp];exact ha),hz1,←H.out.pp]
 have hnc:Nc w0 W1 Y Z gz gs gd pg z N:=(H.out.below_ HBW.out).nc;have hk:thn (.prom m.epoch) z.k (pg / 2)=⟨m.epoch,z.k.current,z.k.lines⟩:=by rw [hthn];rfl
 have hfn:Fine (thn (.prom m.epoch) z.k (pg / 2)):=by rw [hthn];exact H.out.ok.fine.run hmay
 have hok1:({z1 with role:=.follow}:Zn).Ok:=by
  have hok:=H.out.ok;rw [hz1];refine ⟨hok.n1,hok.n3,hok.id,hfn,hok.seen,?_,trivial⟩;show z.com≤(thn (.prom m.epoch) z.k (pg / 2)).lines.length;rw [hk];exact hok.com
 obtain ⟨hnc1,hgz2⟩:=hnc.stored (z':=z1) (by rw [hz1];exact hs2) (by rw [hz1];exact ⟨rfl,rfl,rfl,rfl,rfl,rfl⟩) hok1 hg2' hz2';subst hav;rw [ha];have CF:=Lib.hid hnc1.follows;have HZ:=Lib.hid hz;have HGZ2:=Lib.hid hgz2;have HMO:Hid ((prM m.epoch z.k.current z.k.lines).Ok):=bCs (by unfold top at hme;omega) (by have:=H.out.ok.fine.cur;have:=H.out.ok.fine.prom;unfold top at*;omega) H.out.ok.fine.many (fun x hx=>(H.out.ok.fine.each x hx).1);clear hs2 hg2 hz2 hg2' hz2' ha hz hnc1 hgz2 hnc hmay hfits hthn q1 q2 hz1 hk hfn hok1 CP hown;go_wp2_with fail;refine CF.out.mono ?_;rintro r3 w3 ⟨Y3,Z3,rfl,hn3,hg3⟩;have hgA:=HGZ2.out.trans hg3;have hfar:∀b,w.heap.size≤b→¬Nx Y Z gz b:=fun b hb q=>by have:=(H.out.nx b q).2;omega
 have hbs:w.heap.size≤w1.heap.size:=Nat.le_trans HB0.out.size HW1.out;have hkb:=HK1.out.out hgA.1 (hfar _ hbs);have m1':w3.cell? ⟨w.heap.size,1,none⟩=some (.int .u64 (m.epoch:Int)):=(HBM1.out.out hgA.1 (hfar _ (Nat.le_refl _))).cell 1;have p1':w3.cell? ⟨w1.heap.size,1,none⟩=some (.int .u64 (z.k.current:Int)):=hkb.cell 1;have p2':w3.cell? ⟨w1.heap.size,2,none⟩=some (.slice B z.k.lines.length d):=hkb.cell 2;have hln3:=HLN.out.out hgA.1 fun b q=>hfar b (by have:=q.1;have:=HB0.out.size;omega);have CT:=Lib.hid (aEr (.pointer (some ⟨gz,0,none⟩)) i (prM m.epoch z.k.current z.k.lines) B d w3 HMO.out hln3);unfold mgC prM at CT;have HF:Hid (∀r V,TellP i (prM m.epoch z.k.current z.k.lines) w3 r V→ToldP w0 Y Z gz gs gd pg (z.hearStand i m) (N+4) w r V):=fun r V ht=>by
  rw [HZ.out];exact aBs hn3 (Gz.earlier HBW.out hgA) ht
 clear hn3 hg3 hgA hfar hbs hkb hln3 HGZ2 CF HZ HMO;go_wp2_with fail;refine CT.out.mono ?_;intro r4 w4 ht;have HP:=Lib.hid (HF.out _ _ ht);obtain ⟨v,rfl,-,-⟩:=ht;clear HF CT;go_wp2_with fail;go_ret;exact HP.out
end
end Go.Proofs.YtgjmbbkcgillcaaGreat.Zab
namespace Go.Proofs.YtgjmbbkcgillcaaGreat.Zab
open Go.RowKit Disk Log Sto Zm Bal
section
variable {w0 w w':World} {Y Z:Nat→Prop} {gz gs gd pg:Nat} {z:Zn} {N:Nat}
theorem aMc {k:Kp} {id n gs seen waited com:Nat} {rv:Value} (hs:Ss w0 w Z gs gd pg k N) (hb:Bk w gz 94 (ndC id n gs rv seen waited com)):Calls Tryz.prog 57 #[.pointer (some ⟨gz,0,none⟩)] w fun e w'=>∃A c,e=.returned (.slice A k.lines.length c)∧OwnL w.heap.size w' (.slice A k.lines.length c) k.lines∧Below w.heap.size w w':=by
 have q2:=hb.cell 2;simp only [ndC] at q2;have CK:=Lib.hid hs.kept;clear hs hb;go_enter Tryz.func57,Tryz.ntmps57
 go_wp2_with fail;refine CK.out.mono ?_;rintro e w1 ⟨A,c,rfl,ho,hb1⟩;have HO:=Lib.hid ho;have HB:=Lib.hid hb1;have hf:=(aGw (.int .u64 (k.promised:Int)) (.int .u64 (k.current:Int)) (.slice A k.lines.length c) w1).2.2;clear ho hb1 CK;unfold kpV;go_wp2_with fail;go_ret;exact ⟨A,c,rfl,HO.out,HB.out⟩
set_option maxRecDepth 100000 in
theorem aLs {P:Nat→Prop} (h:Nd w0 w Y Z gz gs gd pg z N) (hN:N+8<65536) (i:Nat) {m:Mg} {A:Option Addr} {c:Nat} (hm:Hrd w P Y Z gz m A c):
  Calls Tryz.prog 93 #[.pointer (some ⟨gz,0,none⟩),.int .i64 (i:Int),.agg (mgC m A m.lines.length c)] w (ToldP w0 Y Z gz gs gd pg (z.hearAdopt i m) (N+4) w):=by
 obtain ⟨W,hW⟩:∃W,W=w.alloc (.cells (mgC m A m.lines.length c) 36):=⟨_,rfl⟩;have hb0:Below w.heap.size w W:=by rw [hW];exact (Below.refl _ _).alloc (Nat.le_refl _) _
 have hbm:Bk W w.heap.size 36 (mgC m A m.lines.length c):=by rw [hW];exact Bk.new _ _ _
 obtain ⟨rv,hbk,hr⟩:=h.bk;have hbk0:=hbk.below hb0;have z2:W.cell? ⟨gz,2,none⟩=some (.pointer (some ⟨gs,0,none⟩)):=hbk0.cell 2;have hw:w.alloc (.cells #[.int .u8 (m.kind:Int),.int .u64 (m.epoch:Int),.int .u64 (m.current:Int),.int .i64 m.at_,.int .i64 m.commit,.slice A m.lines.length c] 36)=W:=hW.symm;have CK:=Lib.hid (h.ss.below_ hb0).kept;have hme:m.epoch≤top:=hm.may.2.2.2.1;have HF0:Hid (Zn.hearAdopt z i m=Zn.hearAdopt z i m):=rfl;have HB0:=Lib.hid hb0;have HBM:=Lib.hid hbm;have HBK0:=Lib.hid hbk0;have H:=Lib.hid h;have HM:=Lib.hid hm;unfold mgC;clear hW hbm hb0 h hm hbk hbk0 hr;go_enter Tryz.func93,Tryz.ntmps93
 go_wp2_with fail;refine CK.out.mono ?_;rintro r1 w1 ⟨B,d,rfl,ho1,hb1⟩;obtain ⟨W1,hW1⟩:∃W1,W1=w1.alloc (.cells #[.int .u64 (z.k.promised:Int),.int .u64 (z.k.current:Int),.slice B z.k.lines.length d] 69):=⟨_,rfl⟩;have hb2:Below w1.heap.size w1 W1:=by rw [hW1];exact (Below.refl _ _).alloc (Nat.le_refl _) _
 have hk1:Bk W1 w1.heap.size 69 #[.int .u64 (z.k.promised:Int),.int .u64 (z.k.current:Int),.slice B z.k.lines.length d]:=by rw [hW1];exact Bk.new _ _ _
 have hb02:Below W.heap.size W W1:=hb1.trans (hb2.mono hb1.size);have hbw:Below w.heap.size w W1:=HB0.out.trans (hb02.mono HB0.out.size);have hbm1:=HBM.out.below hb02;have hbk1:=HBK0.out.below hb02;have p0:W1.cell? ⟨w1.heap.size,0,none⟩=some (.int .u64 (z.k.promised:Int)):=hk1.cell 0;have p1:W1.cell? ⟨w1.heap.size,1,none⟩=some (.int .u64 (z.k.current:Int)):=hk1.cell 1;have m1:W1.cell? ⟨w.heap.size,1,none⟩=some (.int .u64 (m.epoch:Int)):=hbm1.cell 1;have y2:W1.cell? ⟨gz,2,none⟩=some (.pointer (some ⟨gs,0,none⟩)):=hbk1.cell 2;have hw1:w1.alloc (.cells #[.int .u64 (z.k.promised:Int),.int .u64 (z.k.current:Int),.slice B z.k.lines.length d] 69)=W1:=hW1.symm;have CO:=Lib.hid (aMi (H.out.below_ hbw) (i:Int) m.epoch);have HLN:=Lib.hid (ho1.lns.below hb2);have HK1:=Lib.hid hk1;have HBW:=Lib.hid hbw;have HBK1:=Lib.hid hbk1;have HBM1:=Lib.hid hbm1;have HW1:Hid (W.heap.size≤w1.heap.size):=hb1.size;clear hW1 hb2 hk1 hb02 hbw hbm1 hbk1 ho1 hb1 CK HF0 z2;by_cases hown:m.epoch % z.n=i
 case neg=>
  have hz:z.hearAdopt i m=(z,[]):=by unfold Zn.hearAdopt;rw [if_pos hown]
  have hob:((((m.epoch % z.n:Nat)):Int)==(i:Int))=false:=by rw [beq_eq_false_iff_ne];omega
  rw [hob] at CO;have HZ:=Lib.hid hz;unfold kpV;clear hob hz hown;go_wp2_with fail;refine CO.out.mono ?_;rintro r2 w2 ⟨rfl,rfl⟩;go_wp2_with fail;go_ret;rw [HZ.out];exact (aAe (H.out.mono (M:=N+4) (by omega)) HBW.out)
 have hob:((((m.epoch % z.n:Nat)):Int)==(i:Int))=true:=by rw [beq_iff_eq];omega
 rw [hob] at CO;clear hob;by_cases hle:m.epoch<z.k.promised
 case pos=>
  have hz:z.hearAdopt i m=(z,one i (reM z.k.promised)):=by unfold Zn.hearAdopt;rw [if_neg (by omega),if_pos hle]
  have hlb:decide ((m.epoch:Int)<(z.k.promised:Int))=true:=decide_eq_true (by omega);have hli:(m.epoch:Int)<(z.k.promised:Int):=by omega
  have hpt:z.k.promised<18446744073709551616:=by have:=H.out.ok.fine.prom;unfold top at this;omega
  have CR:=Lib.hid (aGe (.pointer (some ⟨gz,0,none⟩)) i z.k.promised W1 hpt);have HZ:=Lib.hid hz;unfold kpV;clear hz hown hle hpt;go_wp2_with fail;refine CO.out.mono ?_;rintro r2 w2 ⟨rfl,rfl⟩;go_wp2_with fail;refine CR.out.mono ?_;intro r3 w3 ht;have HF:=Lib.hid (aBs ((H.out.below_ HBW.out).mono (M:=N+4) (by omega)) (Gz.of_below HBW.out) ht);obtain ⟨v,rfl,-,-⟩:=ht;clear CR CO;go_wp2_with fail;go_ret;rw [HZ.out];exact HF.out
 have hlb:decide ((m.epoch:Int)<(z.k.promised:Int))=false:=decide_eq_false (by omega);have hli:¬(m.epoch:Int)<(z.k.promised:Int):=by omega
 have HLE:=Lib.hid hle;by_cases hcur:m.epoch=z.k.current
 case pos=>
  have hz:z.hearAdopt i m=({z.follow with k:=z.k,com:=min z.com z.k.lines.length},one i (akM m.epoch z.k.lines.length)):=by unfold Zn.hearAdopt;rw [if_neg (fun q=>q hown),if_neg hle,if_pos hcur];rfl
  rw [hcur] at m1 hlb hli CO;have hbe:((z.k.current:Int) != (z.k.current:Int))=false:=by simp
  have HZ:=Lib.hid hz;unfold kpV;clear hz hown hle hcur;go_wp2_with fail;refine CO.out.mono ?_;rintro r2 w2 ⟨rfl,rfl⟩;go_wp2_with fail;clear CO hlb hli;refine aAk 17 (by kernel_rfl) (by kernel_rfl) ?_;simp only [List.take_succ_cons,List.take_zero,List.drop_succ_cons,List.drop_zero]
  iterate 6
   refine aA6 (by kernel_rfl) ?_;apply Exists.intro
   refine And.intro ?_ ?_
   ·unfold aA5;first
     |(go_simp;done)
     |(go_simp;exact rfl)
   try simp only [Act.put,List.setIfInBounds_toArray,List.set_cons_zero,List.set_cons_succ]
  iterate 10
   refine aCd (by kernel_rfl) ?_
   try simp only [Act.put,List.setIfInBounds_toArray,List.set_cons_zero,List.set_cons_succ]
  refine aA6 (by kernel_rfl) ?_;apply Exists.intro
  refine And.intro ?_ ?_
  ·unfold aA5;first
    |(go_simp;done)
    |(go_simp;exact rfl)
  try simp only [Act.put,List.setIfInBounds_toArray,List.set_cons_zero,List.set_cons_succ]
  refine aAv ?_;change wpList _ _ _ _ _ W1.drew;have hbD:=aBe W1;have hbwD:=HBW.out.trans (hbD.mono HBW.out.size);have hnD:=H.out.below_ hbwD;have hbkV:=HBK1.out.below hbD;have hsV:Ss w0 W1.drew Z gs gd pg z.k (N+4):=hnD.ss.mono (by omega);have hgzV:Gz Y Z Y Z gz w W1.drew:=Gz.of_below hbwD;have hkf:Fine z.k:=H.out.ok.fine;have hgnV:¬Z gz:=H.out.gzn.1;have hbmV:=HBM1.out.below hbD;have hyV:∀b,Y b→¬Z b∧b<W1.drew.heap.size:=fun b hb=>(hnD.yz b hb).2;clear hbD hbwD hnD;have CF:=Lib.hid (aCa hbkV);have HSV:=Lib.hid hsV;have HGV:=Lib.hid hgzV;have HKF:=Lib.hid hkf;have HGN:=Lib.hid hgnV;have HMV:=Lib.hid hbmV;have HYV:=Lib.hid hyV;clear hbkV hsV hgzV hkf hgnV hbmV hyV;go_wp2_with fail;refine CF.out.mono ?_;rintro r3 w3 ⟨rfl,hb3,ho3⟩;have hs3:Ss w0 w3 Z gs gd pg z.k (N+4):=HSV.out.out ho3 fun b hb=>by rw [hb];exact ⟨HGN.out,H.out.low⟩
  have CL:=Lib.hid (aMc hs3 hb3);have HB3:=Lib.hid hb3;have HO3:=Lib.hid ho3;have HS3:=Lib.hid hs3;clear hb3 ho3 hs3 CF HSV;go_wp2_with fail;refine CL.out.mono ?_;rintro r4 w4 ⟨A4,c4,rfl,-,hb4⟩;have hbk4:=HB3.out.below hb4;have z6:w4.cell? ⟨gz,6,none⟩=some (.int .i64 (z.com:Int)):=hbk4.cell 6;have f6:=hbk4.frozen 6;have hmin:min (z.com:Int) (z.k.lines.length:Int)=((min z.com z.k.lines.length:Nat):Int):=by omega
  obtain ⟨V5,hV5⟩:∃V5,V5=w4.setCell ⟨gz,6,none⟩ (.int .i64 ((min z.com z.k.lines.length:Nat):Int)):=⟨_,rfl⟩;have ho5:Out (fun b=>b=gz) w4 V5:=by rw [hV5];exact Out.setCell (X:=fun b=>b=gz) w4 (p:=⟨gz,6,none⟩) rfl _
  have hbk5:Bk V5 gz 94 (ndC z.id z.n gs (.iface 129 (.agg #[])) z.seen 0 (min z.com z.k.lines.length)):=by rw [hV5];exact hbk4.set 6 _
  have hw5:w4.setCell ⟨gz,6,none⟩ (.int .i64 ((min z.com z.k.lines.length:Nat):Int))=V5:=hV5.symm;have hgs:gz<w.heap.size:=(H.out.nx gz (.inl rfl)).2;have hbm5:=((HMV.out.out HO3.out (by omega)).below hb4).out ho5 (by omega);have m5:V5.cell? ⟨w.heap.size,1,none⟩=some (.int .u64 (m.epoch:Int)):=hbm5.cell 1;have hs5:Ss w0 V5 Z gs gd pg z.k (N+4):=(HS3.out.below_ hb4).out ho5 fun b hb=>by rw [hb];exact ⟨HGN.out,H.out.low⟩
  have hsz:W1.drew.heap.size≤V5.heap.size:=Nat.le_trans HO3.out.size (Nat.le_trans hb4.size ho5.size);have hn5:Nd w0 V5 Y Z gz gs gd pg {z.follow with k:=z.k,com:=min z.com z.k.lines.length} (N+4):=⟨hs5,⟨_,hbk5,rfl⟩,⟨H.out.ok.n1,H.out.ok.n3,H.out.ok.id,HKF.out,H.out.ok.seen,by (show min z.com z.k.lines.length≤z.k.lines.length);have:=H.out.ok.com;omega,trivial⟩,H.out.pp,H.out.low,⟨HGN.out,H.out.gzn.2⟩,fun b hb=>⟨(H.out.yz b hb).1,(HYV.out b hb).1,Nat.lt_of_lt_of_le (HYV.out b hb).2 hsz⟩⟩;have hg5:Gz Y Z Y Z gz w V5:=(((HGV.out.trans ⟨HO3.out.mono fun k hk=>.inl (.inl hk),fun b hb=>.inl hb⟩).later hb4).trans ⟨ho5.mono fun k hk=>.inl (.inl hk),fun b hb=>.inl hb⟩);have CA:=Lib.hid (aJc (.pointer (some ⟨gz,0,none⟩)) i m.epoch (z.k.lines.length) V5 (by unfold top at hme;omega) (by have:=HKF.out.many;have hq:(z.k:Kp).lines.length=z.k.lines.length:=rfl;omega));have HF:Hid (∀r V,TellP i (akM m.epoch (z.k.lines.length)) V5 r V→ToldP w0 Y Z gz gs gd pg (z.hearAdopt i m) (N+4) w r V):=fun r V ht=>by
   rw [HZ.out];exact aBs hn5 hg5 ht
  clear hbk4 hb4 ho5 hbk5 hV5 hgs hbm5 hs5 hsz hn5 hg5 CL HB3 HO3 HS3 HKF HGN HMV HYV HGV HZ;go_wp2_with fail;refine CA.out.mono ?_;intro r6 w6 ht;have HP:=Lib.hid (HF.out _ _ ht);obtain ⟨v,rfl,-,-⟩:=ht;clear HF CA;go_wp2_with fail;go_ret;exact HP.out
 case neg=>
  have hbe:((m.epoch:Int) != (z.k.current:Int))=true:=by rw [bne_iff_ne];omega
  have hbn:¬(m.epoch:Int)=(z.k.current:Int):=by omega
  have m5:W1.cell? ⟨w.heap.size,5,none⟩=some (.slice A m.lines.length c):=HBM1.out.cell 5;have HCU:=Lib.hid hcur;have HOW:=Lib.hid hown;have hbD:=aBe W1;have hbwD:=HBW.out.trans (hbD.mono HBW.out.size);have hss:Ss w0 W1.drew Z gs gd pg z.k N:=H.out.ss.below_ hbwD;obtain ⟨av,hav⟩:∃av,av=ans (.adopt m.epoch m.lines) z.k (pg / 2):=⟨_,rfl⟩;have CP:=Lib.hid (hss.adopt (by omega) m.epoch m.lines (by unfold top at hme;omega) A m.lines.length c (HM.out.lns.below hbwD) HM.out.laid fun b hb=>⟨fun q=>(HM.out.far b hb).1 (.inr (.inr q)),Nat.lt_of_lt_of_le (HM.out.far b hb).2 hbwD.size⟩);rw [←hav] at CP;unfold kpV;clear hown hle hcur hss hbD hbwD;go_wp2_with fail;refine CO.out.mono ?_;rintro r2 w2 ⟨rfl,rfl⟩;go_wp2_with fail;clear CO hlb hli;refine aAk 14 (by kernel_rfl) (by kernel_rfl) ?_;simp only [List.take_succ_cons,List.take_zero,List.drop_succ_cons,List.drop_zero]
  iterate 14
   refine aA6 (by kernel_rfl) ?_;apply Exists.intro
   refine And.intro ?_ ?_
   ·unfold aA5;first
     |(go_simp;done)
     |(go_simp;exact rfl)
   try simp only [Act.put,List.setIfInBounds_toArray,List.set_cons_zero,List.set_cons_succ]
  refine aAv ?_;change wpList _ _ _ _ _ W1.drew;go_wp2_with fail;refine CP.out.mono ?_;rintro r2 w2 ⟨rfl,Z2,hs2,hg2,hz2⟩;have hg2':=aCs hg2;have hz2':∀b,Z2 b→Z b∨W1.heap.size≤b:=hz2;have hpp:=H.out.pp;by_cases ha:ans (.adopt m.epoch m.lines) z.k (pg / 2)=0
  case neg=>
   have hz:z.hearAdopt i m=(z,[]):=by unfold Zn.hearAdopt;rw [if_neg (fun q=>q HOW.out),if_neg HLE.out,if_neg HCU.out,if_neg (by rw [hpp];exact ha)]
   rw [aKi ha] at hs2;obtain ⟨hn2,hgz2⟩:=(H.out.below_ HBW.out).same hs2 hg2' hz2';have hne:(av != 0)=true:=by rw [hav];simpa using ha
   have HF:Hid (ToldP w0 Y Z gz gs gd pg (z.hearAdopt i m) (N+4) w (.returned (.slice none 0 0)) w2):=by
    rw [hz];have:=aAe hn2 (Below.refl _ _);exact this.behind (Gz.earlier HBW.out hgz2)
   clear hav hs2 hg2 hz2 hg2' hz2' ha hz hn2 hgz2 CP hpp hbe hbn;go_wp2_with fail;go_ret;exact HF.out
  obtain ⟨hmay,hfits,hthn⟩:=aGm ha;have hz:z.hearAdopt i m=({z.follow with k:=⟨m.epoch,m.epoch,m.lines⟩,com:=min z.com m.lines.length},one i (akM m.epoch m.lines.length)):=by
   unfold Zn.hearAdopt;rw [if_neg (fun q=>q HOW.out),if_neg HLE.out,if_neg HCU.out,if_pos (by rw [hpp];exact ha),hpp,hthn];rfl
  have HZ:=Lib.hid hz;rw [hthn] at hs2;have hk:(Deed.adopt m.epoch m.lines).run z.k=⟨m.epoch,m.epoch,m.lines⟩:=rfl;rw [hk] at hs2;have hkf:Fine ⟨m.epoch,m.epoch,m.lines⟩:=by have:=H.out.ok.fine.run hmay;rwa [hk] at this
  have hnlt:∀b,Nx Y Z gz b→b<W1.heap.size:=fun b q=>Nat.lt_of_lt_of_le (H.out.nx b q).2 HBW.out.size;have hbkV:=HBK1.out.out hg2' H.out.gzn.1;have hsV:=hs2;have hgnV:¬Z2 gz:=fun q=>by
   rcases hz2' gz q with q|q
   ·exact H.out.gzn.1 q
   ·have:=hnlt gz (.inl rfl);omega
  have hyV:∀b,Y b→¬Z2 b∧b<w2.heap.size:=fun b hb=>⟨fun q=>by
   rcases hz2' b q with q|q
   ·exact (H.out.yz b hb).2.1 q
   ·have:=hnlt b (.inr (.inl hb));omega,Nat.lt_of_lt_of_le (hnlt b (.inr (.inl hb))) hg2'.size⟩
  have hgzV:Gz Y Z Y Z2 gz w w2:=Gz.earlier HBW.out ⟨hg2'.mono fun k hk=>.inl (.inr (.inr hk)),fun b hb=>by
   rcases hb with hb|hb|hb
   ·exact .inl (.inl hb)
   ·exact .inl (.inr (.inl hb))
   ·rcases hz2' b hb with q|q
    ·exact .inl (.inr (.inr q))
    ·exact .inr q⟩
  have hbmV:=HBM1.out.out hg2' fun q=>by have:=(H.out.nx _ (.inr (.inr q))).2;omega
  subst hav;rw [ha];clear hs2 hg2 hz2 hg2' hz2' ha hz hmay hfits hthn hk hnlt CP hbe hbn;have CF:=Lib.hid (aCa hbkV);have HSV:=Lib.hid hsV;have HGV:=Lib.hid hgzV;have HKF:=Lib.hid hkf;have HGN:=Lib.hid hgnV;have HMV:=Lib.hid hbmV;have HYV:=Lib.hid hyV;clear hbkV hsV hgzV hkf hgnV hbmV hyV;go_wp2_with fail;refine CF.out.mono ?_;rintro r3 w3 ⟨rfl,hb3,ho3⟩;have hs3:Ss w0 w3 Z2 gs gd pg ⟨m.epoch,m.epoch,m.lines⟩ (N+4):=HSV.out.out ho3 fun b hb=>by rw [hb];exact ⟨HGN.out,H.out.low⟩
  have CL:=Lib.hid (aMc hs3 hb3);have HB3:=Lib.hid hb3;have HO3:=Lib.hid ho3;have HS3:=Lib.hid hs3;clear hb3 ho3 hs3 CF HSV;go_wp2_with fail;refine CL.out.mono ?_;rintro r4 w4 ⟨A4,c4,rfl,-,hb4⟩;have hbk4:=HB3.out.below hb4;have z6:w4.cell? ⟨gz,6,none⟩=some (.int .i64 (z.com:Int)):=hbk4.cell 6;have f6:=hbk4.frozen 6;have hmin:min (z.com:Int) (m.lines.length:Int)=((min z.com m.lines.length:Nat):Int):=by omega
  obtain ⟨V5,hV5⟩:∃V5,V5=w4.setCell ⟨gz,6,none⟩ (.int .i64 ((min z.com m.lines.length:Nat):Int)):=⟨_,rfl⟩;have ho5:Out (fun b=>b=gz) w4 V5:=by rw [hV5];exact Out.setCell (X:=fun b=>b=gz) w4 (p:=⟨gz,6,none⟩) rfl _
  have hbk5:Bk V5 gz 94 (ndC z.id z.n gs (.iface 129 (.agg #[])) z.seen 0 (min z.com m.lines.length)):=by rw [hV5];exact hbk4.set 6 _
  have hw5:w4.setCell ⟨gz,6,none⟩ (.int .i64 ((min z.com m.lines.length:Nat):Int))=V5:=hV5.symm;have hgs:gz<w.heap.size:=(H.out.nx gz (.inl rfl)).2;have hbm5:=((HMV.out.out HO3.out (by omega)).below hb4).out ho5 (by omega);have m5:V5.cell? ⟨w.heap.size,1,none⟩=some (.int .u64 (m.epoch:Int)):=hbm5.cell 1;have hs5:Ss w0 V5 Z2 gs gd pg ⟨m.epoch,m.epoch,m.lines⟩ (N+4):=(HS3.out.below_ hb4).out ho5 fun b hb=>by rw [hb];exact ⟨HGN.out,H.out.low⟩
  have hsz:w2.heap.size≤V5.heap.size:=Nat.le_trans HO3.out.size (Nat.le_trans hb4.size ho5.size);have hn5:Nd w0 V5 Y Z2 gz gs gd pg {z.follow with k:=⟨m.epoch,m.epoch,m.lines⟩,com:=min z.com m.lines.length} (N+4):=⟨hs5,⟨_,hbk5,rfl⟩,⟨H.out.ok.n1,H.out.ok.n3,H.out.ok.id,HKF.out,H.out.ok.seen,by (show min z.com m.lines.length≤m.lines.length);have:=H.out.ok.com;omega,trivial⟩,H.out.pp,H.out.low,⟨HGN.out,H.out.gzn.2⟩,fun b hb=>⟨(H.out.yz b hb).1,(HYV.out b hb).1,Nat.lt_of_lt_of_le (HYV.out b hb).2 hsz⟩⟩;have hg5:Gz Y Z Y Z2 gz w V5:=(((HGV.out.trans ⟨HO3.out.mono fun k hk=>.inl (.inl hk),fun b hb=>.inl hb⟩).later hb4).trans ⟨ho5.mono fun k hk=>.inl (.inl hk),fun b hb=>.inl hb⟩);have CA:=Lib.hid (aJc (.pointer (some ⟨gz,0,none⟩)) i m.epoch (m.lines.length) V5 (by unfold top at hme;omega) (by have:=HKF.out.many;have hq:(⟨m.epoch,m.epoch,m.lines⟩:Kp).lines.length=m.lines.length:=rfl;omega));have HF:Hid (∀r V,TellP i (akM m.epoch (m.lines.length)) V5 r V→ToldP w0 Y Z gz gs gd pg (z.hearAdopt i m) (N+4) w r V):=fun r V ht=>by
   rw [HZ.out];exact aBs hn5 hg5 ht
  clear hbk4 hb4 ho5 hbk5 hV5 hgs hbm5 hs5 hsz hn5 hg5 CL HB3 HO3 HS3 HKF HGN HMV HYV HGV HZ;go_wp2_with fail;refine CA.out.mono ?_;intro r6 w6 ht;have HP:=Lib.hid (HF.out _ _ ht);obtain ⟨v,rfl,-,-⟩:=ht;clear HF CA;go_wp2_with fail;go_ret;exact HP.out
end
end Go.Proofs.YtgjmbbkcgillcaaGreat.Zab
