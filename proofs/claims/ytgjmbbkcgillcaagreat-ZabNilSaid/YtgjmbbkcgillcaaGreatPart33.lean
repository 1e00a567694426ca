/- Lemmas, part 33: ZabStand, StoKill, ZabTick -/
import Derived.Test.YtgjmbbkcgillcaaGreatPart32
import Derived.Test.YtgjmbbkcgillcaaGreatPart29
set_option maxHeartbeats 16000000
namespace Go.Proofs.YtgjmbbkcgillcaaGreat.Zab
open Go.RowKit Disk Log Sto Zm Bal
open PhaseG (aC3 RT RT.out)
open Phase (aA0 aA2)
theorem Nc.nx' {w0 w:World} {Y Z:Nat→Prop} {gz gs gd pg:Nat} {z:Zn} {N:Nat} (h:Nc w0 w Y Z gz gs gd pg z N):∀b,Nx Y Z gz b→b<w.heap.size:=fun b hb=>by
 rcases hb with rfl|hb|hb
 ·exact h.lt
 ·exact (h.yz b hb).2.2
 ·exact h.ss.lt b hb
theorem aQt {c n:Nat} (h:btr (c:Int) (n:Int) 0 0=false):c=0∧n=0:=by
 unfold btr at h;simp only [Bool.or_eq_false_iff,decide_eq_false_iff_not,Bool.and_eq_false_iff] at h;omega
theorem aSp {id n:Nat} {f:Nat→Mg} (h1:1≤n) (h:others id n f=[]):n=1:=by
 unfold others oth at h;rw [List.map_eq_nil_iff,List.filter_eq_nil_iff] at h;rcases Nat.lt_or_ge 1 n with h2|h2
 ·have a0:=h 0 (List.mem_range.2 (by omega));have a1:=h 1 (List.mem_range.2 h2);simp at a0 a1;omega
 ·omega
theorem aGf {f:Nat→Mg} {id:Nat} (h:id<1):others id 1 f=[]:=by
 obtain rfl:id=0:=by omega
 rfl
theorem aOw (w:World):(Builtin.append_ #[41,41] 41 #[.slice none 0 0,.slice none 0 0]).run Tryz.prog w=.ok (.slice none 0 0) w:=by
 obtain ⟨i0,hi,hz0,hz1,hz2⟩:=info_parts aQu;simp [Builtin.append_,run_underlying aHe,sizeOf,typeInfo,hi,Builtin.lenOf,Builtin.firstCells]
theorem aZ7 {z:Zn} {e:Nat} {l:List Ln} (h:z.n=1) (hid:z.id<1):(z.lead e l).2=[]:=by
 unfold Zn.lead;split
 ·show Zab.remind _ e none_=[];have h1:∀y:Zn,y.id=z.id→y.n=z.n→Zab.remind y e none_=[]:=fun y e1 e2=>by
   unfold Zab.remind;rw [e1,e2,h];exact aGf hid
  refine h1 _ ?_ ?_
  ·unfold Zn.count;split<;>rfl
  ·unfold Zn.count;split<;>rfl
 ·rfl
section
variable {w0 w w':World} {Y Z:Nat→Prop} {gz gs gd pg:Nat} {z:Zn} {N:Nat}
set_option maxRecDepth 100000 in
theorem bA8 {gp gm e:Nat} {f:Nat→Option Value} {c:Nat} {D:DataW Value} (hb:Bk w gp 192 #[.int .u64 (e:Int),.map (some gm)]) (hm:IMap w gm f c D) {rv:Value} {id n gs seen waited com:Nat} (hbk:Bk w gz 94 (ndC id n gs rv seen waited com)) (hn1:1≤n) (hn3:n≤1000) (hc:c<quorum n):
  Calls Tryz.prog 130 #[.pointer (some ⟨gz,0,none⟩),.pointer (some ⟨gp,0,none⟩)] w fun r w'=>r=.returned (.slice none 0 0)∧Below w.heap.size w w':=by
 have q1:w.cell? ⟨gp,1,none⟩=some (.map (some gm)):=hb.cell 1;have z1:w.cell? ⟨gz,1,none⟩=some (.int .i64 (n:Int)):=hbk.cell 1;have hlb:decide ((c:Int)<(quorum n:Int))=true:=decide_eq_true (by omega);have hlq:(c:Int)<(quorum n:Int):=by omega
 have hlenM:=hm.len (ty:=3) aFx w.drew rfl;clear hb hm hbk hc;go_enter Tryz.func130,Tryz.ntmps130
 go_wp2_with fail;refine aAk 10 (by kernel_rfl) (by kernel_rfl) ?_;simp only [List.take_succ_cons,List.take_zero,List.drop_succ_cons,List.drop_zero]
 iterate 9
  refine aA6 (by kernel_rfl) ?_;apply Exists.intro
  refine And.intro ?_ ?_
  ·unfold aA5;first
    |(go_simp;done)
    |(go_simp;exact rfl)
  try simp only [Act.put,List.setIfInBounds_toArray,List.set_cons_zero,List.set_cons_succ]
 refine aBn (by kernel_rfl) ?_;apply Exists.intro
 apply Exists.intro
 apply Exists.intro
 refine And.intro ?_ (And.intro ?_ ?_)
 ·first
   |(go_simp;exact ⟨rfl,rfl⟩)
   |(go_simp;exact rfl)
   |(go_simp;done)
 ·exact (aEs n _ hn1 (by omega)).mono (fun _ _ h=>⟨h.1,h.2.symm⟩)
 try simp only [Act.put,List.setIfInBounds_toArray,List.set_cons_zero,List.set_cons_succ]
 refine aAv ?_;change wpList _ _ _ _ _ w.drew;go_wp2_with fail;go_ret;exact ⟨rfl,aBe w⟩
theorem aNp (a b:Value) (W:World):(callFunc 129 (#[a]++#[b])).run Tryz.prog W=.ok (.enter 129 (#[a]++#[b])) W:=by kernel_rfl
set_option maxRecDepth 100000 in
theorem aTz {w:World} {be e:Nat} (hb:Bk w be 33 #[.int .u64 (e:Int)]) (i:Nat):
  Calls Tryz.prog 129 #[.int .i64 (i:Int),.pointer (some ⟨be,0,none⟩)] w (SaidP (stM e) w):=by
 obtain ⟨W,hW⟩:∃W,W=w.alloc (.cells (mgC (stM e) none 0 0) 36):=⟨_,rfl⟩;have hbw:Below w.heap.size w W:=by rw [hW];exact (Below.refl _ _).alloc (Nat.le_refl _) _
 have q0:w.cell? ⟨be,0,none⟩=some (.int .u64 (e:Int)):=hb.cell 0;have q1:(w.alloc (.cells #[.int .u8 0,.int .u64 0,.int .u64 0,.int .i64 0,.int .i64 0,.slice none 0 0] 36)).cell? ⟨be,0,none⟩=some (.int .u64 (e:Int)):=(hb.alloc _).cell 0;have hbv:Bk W w.heap.size 36 (mgC (stM e) none 0 0):=by rw [hW];exact Bk.new _ _ _
 have HBW:=Lib.hid hbw;have HBV:=Lib.hid hbv;have HW:Hid (W=w.alloc (.cells #[.int .u8 1,.int .u64 (e:Int),.int .u64 0,.int .i64 0,.int .i64 0,.slice none 0 0] 36)):=hW;clear hb hbw hbv hW;go_enter Tryz.func129,Tryz.ntmps129
 go_wp2_with fail;rw [←HW.out];refine bodyPost_ret (results_cell_row rfl _ _ w.heap.size 36 _ (0,0) _ rfl HBV.out Tryz.underlying36 rfl aCq) rfl ?_;exact ⟨none,0,rfl,LnS.nil_ _ _ _,HBW.out⟩
set_option maxRecDepth 100000 in
theorem aOp (h:Nd w0 w Y Z gz gs gd pg z N) (hN:N+8<65536):
  Calls Tryz.prog 79 #[.pointer (some ⟨gz,0,none⟩)] w (ToldP w0 Y Z gz gs gd pg z.stand (N+8) w):=by
 obtain ⟨rv,hbk,_⟩:=h.bk;have z2:w.cell? ⟨gz,2,none⟩=some (.pointer (some ⟨gs,0,none⟩)):=hbk.cell 2;have CK:=Lib.hid h.ss.kept;have H:=Lib.hid h;have HBK:=Lib.hid hbk;clear h hbk;go_enter Tryz.func79,Tryz.ntmps79
 go_wp2_with fail;refine CK.out.mono ?_;rintro r1 w1 ⟨A,c,rfl,ho1,hb1⟩;obtain ⟨W1,hW1⟩:∃W1,W1=w1.alloc (.cells #[.int .u64 (z.k.promised:Int),.int .u64 (z.k.current:Int),.slice A z.k.lines.length c] 69):=⟨_,rfl⟩;have hb2:Below w1.heap.size w1 W1:=by rw [hW1];exact (Below.refl _ _).alloc (Nat.le_refl _) _
 have hk1:Bk W1 w1.heap.size 69 #[.int .u64 (z.k.promised:Int),.int .u64 (z.k.current:Int),.slice A z.k.lines.length c]:=by rw [hW1];exact Bk.new _ _ _
 have hb02:=hb1.trans (hb2.mono hb1.size);have hbk2:=HBK.out.below hb02;have p0:W1.cell? ⟨w1.heap.size,0,none⟩=some (.int .u64 (z.k.promised:Int)):=hk1.cell 0;have z0:W1.cell? ⟨gz,0,none⟩=some (.int .i64 (z.id:Int)):=hbk2.cell 0;have z1:W1.cell? ⟨gz,1,none⟩=some (.int .i64 (z.n:Int)):=hbk2.cell 1;have z4:W1.cell? ⟨gz,4,none⟩=some (.int .u64 (z.seen:Int)):=hbk2.cell 4;have hmax:max (z.k.promised:Int) (z.seen:Int)=((max z.k.promised z.seen:Nat):Int):=by omega
 have HLN:=Lib.hid (ho1.lns.below hb2);have HB1s:Hid (w.heap.size≤w1.heap.size):=hb1.size;have HW1:=Lib.hid hW1;have HK1:=Lib.hid hk1;have HB02:=Lib.hid hb02;have HBK1:=Lib.hid hbk2;clear ho1 hb1 hb2 hk1 hb02 hbk2 hW1 CK;unfold kpV;go_wp2_with fail;rw [←HW1.out];go_wp2_with fail;have CN:Hid (∀V:World,Calls Tryz.prog 128 #[.int .u64 ((max z.k.promised z.seen:Nat):Int),.int .i64 (z.id:Int),.int .i64 (z.n:Int)] V fun e w'=>e=.returned (.int .u64 (z.nextE:Int))∧V=w'):=fun V=>aZf _ _ _ V H.out.ok.id (by have:=H.out.ok.n3;omega) (by have:=H.out.ok.fine.prom;have:=H.out.ok.seen;unfold top at*;omega)
 -- REGION2
 refine aC3 (F:=?F) (fun i=>if i=17 then some 16 else none) (RT [some (.pointer (some ⟨w1.heap.size,0,none⟩)),some (.int .u64 (z.k.promised:Int)),some (.pointer (some ⟨gz,0,none⟩)),some (.pointer (some ⟨gz,0,none⟩)),some (.pointer (some ⟨gz,4,none⟩)),some (.int .u64 (z.seen:Int)),some (.int .u64 ((max z.k.promised z.seen:Nat):Int)),some (.pointer (some ⟨gz,0,none⟩)),some (.pointer (some ⟨gz,0,none⟩)),some (.pointer (some ⟨gz,0,none⟩)),some (.int .i64 (z.id:Int)),some (.pointer (some ⟨gz,0,none⟩)),some (.pointer (some ⟨gz,0,none⟩)),some (.pointer (some ⟨gz,1,none⟩)),some (.int .i64 (z.n:Int)),some (.int .u64 (z.nextE:Int)),none,none] (fun k x W=>match k with|16=>∃g,W1.heap.size≤g∧x=.pointer (some ⟨g,0,none⟩)∧Bk W g 33 #[.int .u64 0]|17=>∃g,W1.heap.size≤g∧x=.pointer (some ⟨g,0,none⟩)∧Bk W g 33 #[.int .u64 (z.nextE:Int)]|_=>True)) (fun k x b=>(k=16∨k=17)∧x=.pointer (some ⟨b,0,none⟩)) (fun i x y=>i=17→y=x) (by kernel_rfl) (by kernel_rfl) (by kernel_rfl) (by kernel_rfl) ?hR ?hS ?hF ?hE
 case hF=>
  intro v;simp only [List.length_cons,List.length_nil,Nat.zero_add,Nat.reduceAdd,PhaseG.final,List.getElem?_toArray,List.getElem?_cons_zero,List.getElem?_cons_succ,Option.bind_some,Act.put,List.setIfInBounds_toArray,List.set_cons_zero,List.set_cons_succ];exact rfl
 case hR=>
  intro k x Z W W' hx hb ho hzw hz hn;refine RT.out hx fun hA=>?_
  match k,hA,hn with
  |16,⟨g,hB,e,q⟩,hn=>exact ⟨g,hB,e,q.out ho (hn g ⟨.inl rfl,e⟩)⟩
  |17,⟨g,hB,e,q⟩,hn=>exact ⟨g,hB,e,q.out ho (hn g ⟨.inr rfl,e⟩)⟩
  |0,_,_=>trivial
  |1,_,_=>trivial
  |2,_,_=>trivial
  |3,_,_=>trivial
  |4,_,_=>trivial
  |5,_,_=>trivial
  |6,_,_=>trivial
  |7,_,_=>trivial
  |8,_,_=>trivial
  |9,_,_=>trivial
  |10,_,_=>trivial
  |11,_,_=>trivial
  |12,_,_=>trivial
  |13,_,_=>trivial
  |14,_,_=>trivial
  |15,_,_=>trivial
  |_+18,_,_=>trivial
 case hS=>
  refine aA0 ?_ (aA0 ?_ (aA0 ?_ (aA0 ?_ (aA0 ?_ (aA0 ?_ (aA0 ?_ (aA0 ?_ (aA0 ?_ (aA0 ?_ (aA0 ?_ (aA0 ?_ (aA0 ?_ (aA0 ?_ (aA0 ?_ (aA0 ?_ (aA0 ?_ (aA0 ?_ (aA2))))))))))))))))))
  ·intro a v W hd hb K hK;have k3:a.tmps.getD 3 undef=.pointer (some ⟨w1.heap.size,0,none⟩):=hd.kept 3 (by kernel_rfl);have hk:=hK (.pointer (some ⟨w1.heap.size,0,none⟩)) W (Out.refl _ _) rfl (fun k hk=>by cases hk) (fun b hob=>absurd hob (fun h=>by have:=h.1;omega));clear hK;unfold Oper.wp;go_simp;exact hk
  ·intro a v W hd hb K hK;obtain ⟨h12,r12⟩:=hd.done_ 0 _ 12 (by kernel_rfl) rfl rfl (by kernel_rfl);have r12:v 0=.pointer (some ⟨w1.heap.size,0,none⟩):=r12;rw [r12] at h12;have kk:W.cell? ⟨w1.heap.size,0,none⟩=some (.int .u64 (z.k.promised:Int)):=(HK1.out.below hb).cell 0;have hk:=hK (.int .u64 (z.k.promised:Int)) W (Out.refl _ _) rfl (fun k hk=>by cases hk) (fun b hob=>absurd hob (fun h=>by have:=h.1;omega));clear hK;unfold Oper.wp;go_simp;exact hk
  ·intro a v W hd hb K hK;have k0:a.tmps.getD 0 undef=.pointer (some ⟨gz,0,none⟩):=hd.kept 0 (by kernel_rfl);have hk:=hK (.pointer (some ⟨gz,0,none⟩)) W (Out.refl _ _) rfl (fun k hk=>by cases hk) (fun b hob=>absurd hob (fun h=>by have:=h.1;omega));clear hK;unfold Oper.wp;go_simp;exact hk
  ·intro a v W hd hb K hK;obtain ⟨h14,r14⟩:=hd.done_ 2 _ 14 (by kernel_rfl) rfl rfl (by kernel_rfl);have r14:v 2=.pointer (some ⟨gz,0,none⟩):=r14;rw [r14] at h14;have hk:=hK (.pointer (some ⟨gz,0,none⟩)) W (Out.refl _ _) rfl (fun k hk=>by cases hk) (fun b hob=>absurd hob (fun h=>by have:=h.1;omega));clear hK;unfold Oper.wp;go_simp;exact hk
  ·intro a v W hd hb K hK;obtain ⟨h15,r15⟩:=hd.done_ 3 _ 15 (by kernel_rfl) rfl rfl (by kernel_rfl);have r15:v 3=.pointer (some ⟨gz,0,none⟩):=r15;rw [r15] at h15;have hk:=hK (.pointer (some ⟨gz,4,none⟩)) W (Out.refl _ _) rfl (fun k hk=>by cases hk) (fun b hob=>absurd hob (fun h=>by have:=h.1;omega));clear hK;unfold Oper.wp;go_simp;exact hk
  ·intro a v W hd hb K hK;obtain ⟨h16,r16⟩:=hd.done_ 4 _ 16 (by kernel_rfl) rfl rfl (by kernel_rfl);have r16:v 4=.pointer (some ⟨gz,4,none⟩):=r16;rw [r16] at h16;have kk:W.cell? ⟨gz,4,none⟩=some (.int .u64 (z.seen:Int)):=(HBK1.out.below hb).cell 4;have hk:=hK (.int .u64 (z.seen:Int)) W (Out.refl _ _) rfl (fun k hk=>by cases hk) (fun b hob=>absurd hob (fun h=>by have:=h.1;omega));clear hK;unfold Oper.wp;go_simp;exact hk
  ·intro a v W hd hb K hK;obtain ⟨h13,r13⟩:=hd.done_ 1 _ 13 (by kernel_rfl) rfl rfl (by kernel_rfl);have r13:v 1=.int .u64 (z.k.promised:Int):=r13;rw [r13] at h13;obtain ⟨h17,r17⟩:=hd.done_ 5 _ 17 (by kernel_rfl) rfl rfl (by kernel_rfl);have r17:v 5=.int .u64 (z.seen:Int):=r17;rw [r17] at h17;have hk:=hK (.int .u64 ((max z.k.promised z.seen:Nat):Int)) W (Out.refl _ _) rfl (fun k hk=>by cases hk) (fun b hob=>absurd hob (fun h=>by have:=h.1;omega));clear hK;unfold Oper.wp;go_simp;exact hk
  ·intro a v W hd hb K hK;have k0:a.tmps.getD 0 undef=.pointer (some ⟨gz,0,none⟩):=hd.kept 0 (by kernel_rfl);have hk:=hK (.pointer (some ⟨gz,0,none⟩)) W (Out.refl _ _) rfl (fun k hk=>by cases hk) (fun b hob=>absurd hob (fun h=>by have:=h.1;omega));clear hK;unfold Oper.wp;go_simp;exact hk
  ·intro a v W hd hb K hK;obtain ⟨h19,r19⟩:=hd.done_ 7 _ 19 (by kernel_rfl) rfl rfl (by kernel_rfl);have r19:v 7=.pointer (some ⟨gz,0,none⟩):=r19;rw [r19] at h19;have hk:=hK (.pointer (some ⟨gz,0,none⟩)) W (Out.refl _ _) rfl (fun k hk=>by cases hk) (fun b hob=>absurd hob (fun h=>by have:=h.1;omega));clear hK;unfold Oper.wp;go_simp;exact hk
  ·intro a v W hd hb K hK;obtain ⟨h20,r20⟩:=hd.done_ 8 _ 20 (by kernel_rfl) rfl rfl (by kernel_rfl);have r20:v 8=.pointer (some ⟨gz,0,none⟩):=r20;rw [r20] at h20;have hk:=hK (.pointer (some ⟨gz,0,none⟩)) W (Out.refl _ _) rfl (fun k hk=>by cases hk) (fun b hob=>absurd hob (fun h=>by have:=h.1;omega));clear hK;unfold Oper.wp;go_simp;exact hk
  ·intro a v W hd hb K hK;obtain ⟨h21,r21⟩:=hd.done_ 9 _ 21 (by kernel_rfl) rfl rfl (by kernel_rfl);have r21:v 9=.pointer (some ⟨gz,0,none⟩):=r21;rw [r21] at h21;have kk:W.cell? ⟨gz,0,none⟩=some (.int .i64 (z.id:Int)):=(HBK1.out.below hb).cell 0;have hk:=hK (.int .i64 (z.id:Int)) W (Out.refl _ _) rfl (fun k hk=>by cases hk) (fun b hob=>absurd hob (fun h=>by have:=h.1;omega));clear hK;unfold Oper.wp;go_simp;exact hk
  ·intro a v W hd hb K hK;have k0:a.tmps.getD 0 undef=.pointer (some ⟨gz,0,none⟩):=hd.kept 0 (by kernel_rfl);have hk:=hK (.pointer (some ⟨gz,0,none⟩)) W (Out.refl _ _) rfl (fun k hk=>by cases hk) (fun b hob=>absurd hob (fun h=>by have:=h.1;omega));clear hK;unfold Oper.wp;go_simp;exact hk
  ·intro a v W hd hb K hK;obtain ⟨h23,r23⟩:=hd.done_ 11 _ 23 (by kernel_rfl) rfl rfl (by kernel_rfl);have r23:v 11=.pointer (some ⟨gz,0,none⟩):=r23;rw [r23] at h23;have hk:=hK (.pointer (some ⟨gz,0,none⟩)) W (Out.refl _ _) rfl (fun k hk=>by cases hk) (fun b hob=>absurd hob (fun h=>by have:=h.1;omega));clear hK;unfold Oper.wp;go_simp;exact hk
  ·intro a v W hd hb K hK;obtain ⟨h24,r24⟩:=hd.done_ 12 _ 24 (by kernel_rfl) rfl rfl (by kernel_rfl);have r24:v 12=.pointer (some ⟨gz,0,none⟩):=r24;rw [r24] at h24;have hk:=hK (.pointer (some ⟨gz,1,none⟩)) W (Out.refl _ _) rfl (fun k hk=>by cases hk) (fun b hob=>absurd hob (fun h=>by have:=h.1;omega));clear hK;unfold Oper.wp;go_simp;exact hk
  ·intro a v W hd hb K hK;obtain ⟨h25,r25⟩:=hd.done_ 13 _ 25 (by kernel_rfl) rfl rfl (by kernel_rfl);have r25:v 13=.pointer (some ⟨gz,1,none⟩):=r25;rw [r25] at h25;have kk:W.cell? ⟨gz,1,none⟩=some (.int .i64 (z.n:Int)):=(HBK1.out.below hb).cell 1;have hk:=hK (.int .i64 (z.n:Int)) W (Out.refl _ _) rfl (fun k hk=>by cases hk) (fun b hob=>absurd hob (fun h=>by have:=h.1;omega));clear hK;unfold Oper.wp;go_simp;exact hk
  ·intro a v W hd hb K hK;obtain ⟨h18,r18⟩:=hd.done_ 6 _ 18 (by kernel_rfl) rfl rfl (by kernel_rfl);have r18:v 6=.int .u64 ((max z.k.promised z.seen:Nat):Int):=r18;rw [r18] at h18;obtain ⟨h22,r22⟩:=hd.done_ 10 _ 22 (by kernel_rfl) rfl rfl (by kernel_rfl);have r22:v 10=.int .i64 (z.id:Int):=r22;rw [r22] at h22;obtain ⟨h26,r26⟩:=hd.done_ 14 _ 26 (by kernel_rfl) rfl rfl (by kernel_rfl);have r26:v 14=.int .i64 (z.n:Int):=r26;rw [r26] at h26;have ct:=CN.out W;unfold Oper.wp;go_simp;refine ct.mono ?_;rintro e' W' ⟨rfl,rfl⟩;exact hK (.int .u64 (z.nextE:Int)) W (Out.refl _ _) rfl (fun k hk=>by cases hk) (fun b hob=>absurd hob.1 (by omega))
  ·intro a v W hd hb K hK;have hk:=hK (.pointer (some ⟨W.heap.size,0,none⟩)) (W.alloc (.cells #[.int .u64 0] 33)) (Out.of_below ((Below.refl _ _).alloc (Nat.le_refl _) _)) ⟨W.heap.size,hb.size,rfl,Bk.new _ _ _⟩ (fun k hk=>by cases hk) (fun b hob=>by
    have e:=hob.2;injection e with e;injection e with e;injection e with e;subst e;exact ⟨by simp,.inl (Nat.le_refl _)⟩)
   clear hK;unfold Oper.wp;go_simp;exact hk
  ·intro a v W hd hb K hK;obtain ⟨h4,r4⟩:=hd.done_ 16 _ 4 (by kernel_rfl) rfl rfl (by kernel_rfl);obtain ⟨h27,r27⟩:=hd.done_ 15 _ 27 (by kernel_rfl) rfl rfl (by kernel_rfl);have r27:v 15=.int .u64 (z.nextE:Int):=r27;rw [r27] at h27;obtain ⟨g,hgB,e4,hg⟩:=r4;rw [e4] at h4;have q0:W.cell? ⟨g,0,none⟩=some (.int .u64 0):=hg.cell 0;have f0:=hg.frozen 0;have hset:=hg.set 0 (.int .u64 (z.nextE:Int));have hlt:=hset.lt;have hk:=hK (v 16) (W.setCell ⟨g,0,none⟩ (.int .u64 (z.nextE:Int))) ((Out.setCell (X:=fun b=>b=g) W (p:=⟨g,0,none⟩) rfl _).mono fun k hk=>.inl ⟨16,rfl,.inl rfl,by rw [e4,hk]⟩) ⟨g,hgB,e4,hset⟩ (fun k hk _=>by injection hk with hk;subst hk;rfl) (fun b hob=>by
    have e:=hob.2;rw [e4] at e;injection e with e;injection e with e;injection e with e;subst e;exact ⟨hlt,.inr ⟨16,rfl,.inl rfl,e4⟩⟩)
   clear hK;unfold Oper.wp;go_simp;exact hk
 -- END2
 case hE=>
  intro v W hb1 hv hl;obtain ⟨g,hgl,e17,hg⟩:=hv 17 (by decide) (by decide);have e16:v 17=v 16:=hl 17 16 (by decide) rfl rfl;rw [←e16,e17];generalize v 0=x0;generalize v 1=x1;generalize v 2=x2;generalize v 3=x3;generalize v 4=x4;generalize v 5=x5;generalize v 6=x6;generalize v 7=x7;generalize v 8=x8;generalize v 9=x9;generalize v 10=x10;generalize v 11=x11;generalize v 12=x12;generalize v 13=x13;generalize v 14=x14;generalize v 15=x15;have hbw:Below w.heap.size w W:=HB02.out.trans (hb1.mono HB02.out.size);have HG:=Lib.hid hg;have HBW:=Lib.hid hbw;have HGL:=Lib.hid hgl;have HKW:=Lib.hid (HK1.out.below hb1);have HLW:=Lib.hid (HLN.out.below hb1);have hbkw:=HBK1.out.below hb1;have z2':W.cell? ⟨gz,2,none⟩=some (.pointer (some ⟨gs,0,none⟩)):=hbkw.cell 2;have g0:W.cell? ⟨g,0,none⟩=some (.int .u64 (z.nextE:Int)):=hg.cell 0;have hne64:z.nextE<18446744073709551616:=by
   have h1:=(aLf (a:=max z.k.promised z.seen) (i:=z.id) (n:=z.n) H.out.ok.id).2;have h2:=H.out.ok.fine.prom;have h3:=H.out.ok.seen;have h4:=H.out.ok.n3;unfold Zn.nextE;unfold top at h2 h3;omega
  have CP:=Lib.hid (((H.out.ss.below_ hbw).below_ (aBe W)).promise (by omega) z.nextE hne64);obtain ⟨av,hav⟩:∃av,av=ans (.prom z.nextE) z.k (pg / 2):=⟨_,rfl⟩;rw [←hav] at CP;have HNE:=Lib.hid hne64;clear hv hl e16 e17 hg hb1 hbw hgl hbkw hne64 v CN p0 z0 z1 z4 hmax;go_wp2_with fail;refine aAk 5 (by kernel_rfl) (by kernel_rfl) ?_;simp only [List.take_succ_cons,List.take_zero,List.drop_succ_cons,List.drop_zero]
  iterate 5
   refine aA6 (by kernel_rfl) ?_;apply Exists.intro
   refine And.intro ?_ ?_
   ·unfold aA5;first
     |(go_simp;done)
     |(go_simp;exact rfl)
   try simp only [Act.put,List.setIfInBounds_toArray,List.set_cons_zero,List.set_cons_succ]
  refine aAv ?_;change wpList _ _ _ _ _ W.drew;go_wp2_with fail;refine CP.out.mono ?_;rintro r2 w5 ⟨rfl,Z5,hs5,hg5,hz5⟩;have hg5':=aCs hg5;by_cases ha:ans (.prom z.nextE) z.k (pg / 2)=0
  ·obtain ⟨hmay,hfits,hthn⟩:=aGm ha;rw [hthn] at hs5;have hk':(Deed.prom z.nextE).run z.k=⟨z.nextE,z.k.current,z.k.lines⟩:=rfl;rw [hk'] at hs5 hthn;obtain ⟨m1,m2⟩:=aD4.1 hmay;have hgz5:∀b,Z b→b<w.heap.size:=H.out.ss.lt;have hgl:=HGL.out;have hw1:=HB02.out.size;have hb5:∀{b:Nat} {t:TypeId} {cs:Array Value},Bk W b t cs→w.heap.size≤b→Bk w5 b t cs:=fun hb hle=>hb.out hg5' fun q=>by have:=hgz5 _ q;omega
   have hg5k:=hb5 HG.out (by omega);have hk5:=hb5 HKW.out (by have:=HK1.out.lt;have:=HB1s.out;omega);have hnd5:=(HBK.out.below HBW.out).out hg5' H.out.gzn.1;have g0':w5.cell? ⟨g,0,none⟩=some (.int .u64 (z.nextE:Int)):=hg5k.cell 0;have z0':w5.cell? ⟨gz,0,none⟩=some (.int .i64 (z.id:Int)):=hnd5.cell 0;have k1':w5.cell? ⟨w1.heap.size,1,none⟩=some (.int .u64 (z.k.current:Int)):=hk5.cell 1;have k2':w5.cell? ⟨w1.heap.size,2,none⟩=some (.slice A z.k.lines.length c):=hk5.cell 2;have hmk:=@run_makeMap Tryz.prog;obtain ⟨W6,D6,hput,him,hgr⟩:=(show IMap (w5.alloc (.map #[] 0)).drew w5.heap.size _ _ _ from (IMap.new w5).kept rfl).put aFx z.id (by have:=H.out.ok.id;have:=H.out.ok.n3;omega) (.agg #[.int .u64 (z.k.current:Int),.slice A z.k.lines.length c]) (by omega);have ho6:Out (fun b=>b=w5.heap.size) w5 W6:=by
    have h1:Out (fun b=>b=w5.heap.size) w5 (w5.alloc (.map #[] 0)).drew:=(Out.alloc w5 _).drew;refine h1.trans (PhaseG.aAc hgr) fun k hk=>.inl ?_;injection hk with hk;exact hk.symm
   have g0'':W6.cell? ⟨g,0,none⟩=some (.int .u64 (z.nextE:Int)):=(hg5k.out ho6 (by have:=hg5k.lt;omega)).cell 0;have a0:(w5.alloc (.map #[] 0)).cell? ⟨g,0,none⟩=some (.int .u64 (z.nextE:Int)):=(hg5k.alloc _).cell 0;have a1:(w5.alloc (.map #[] 0)).cell? ⟨gz,0,none⟩=some (.int .i64 (z.id:Int)):=(hnd5.alloc _).cell 0;have a2:(w5.alloc (.map #[] 0)).cell? ⟨w1.heap.size,1,none⟩=some (.int .u64 (z.k.current:Int)):=(hk5.alloc _).cell 1;have a3:(w5.alloc (.map #[] 0)).cell? ⟨w1.heap.size,2,none⟩=some (.slice A z.k.lines.length c):=(hk5.alloc _).cell 2;go_wp2_with fail
   go_region
   obtain ⟨W7,hW7⟩:∃W7,W7=W6.alloc (.cells #[.int .u64 (z.nextE:Int),.map (some w5.heap.size)] 192):=⟨_,rfl⟩;rw [←hW7];have hb7:Below W6.heap.size W6 W7:=by rw [hW7];exact (Below.refl _ _).alloc (Nat.le_refl _) _
   have hst7:Bk W7 W6.heap.size 192 #[.int .u64 (z.nextE:Int),.map (some w5.heap.size)]:=by rw [hW7];exact Bk.new _ _ _
   have hgzw:gz<w.heap.size:=HBK.out.lt;have hww:w.heap.size≤W.heap.size:=HBW.out.size;have hw5:W.heap.size≤w5.heap.size:=hg5'.size;have hw6:w5.heap.size≤W6.heap.size:=ho6.size;have hw56:w5.heap.size<W6.heap.size:=him.lt;have ho7:Out (fun b=>b=w5.heap.size) w5 W7:=ho6.trans (Out.of_below hb7 (X:=fun b=>b=w5.heap.size)) fun k hk=>.inl hk;have hnd7:=hnd5.out ho7 (by omega);have z3:W7.cell? ⟨gz,3,none⟩=some rv:=hnd7.cell 3;have z5:W7.cell? ⟨gz,5,none⟩=some (.int .i64 (z.waited:Int)):=hnd7.cell 5;have f3:=hnd7.frozen 3;have f5:=hnd7.frozen 5;obtain ⟨V,hV⟩:∃V,V=(W7.setCell ⟨gz,3,none⟩ (.iface 187 (.pointer (some ⟨W6.heap.size,0,none⟩)))).setCell ⟨gz,5,none⟩ (.int .i64 0):=⟨_,rfl⟩;have hVo:Out (fun b=>b=gz) W7 V:=by
    rw [hV];exact (Out.setCell (X:=fun b=>b=gz) W7 (p:=⟨gz,3,none⟩) rfl _).trans (Out.setCell (X:=fun b=>b=gz) _ (p:=⟨gz,5,none⟩) rfl _) fun k hk=>.inl hk
   have hVb:Bk V gz 94 (ndC z.id z.n gs (.iface 187 (.pointer (some ⟨W6.heap.size,0,none⟩))) z.seen 0 z.com):=by
    rw [hV];exact (hnd7.set 3 _).set 5 _
   have hV7:W7.heap.size≤V.heap.size:=hVo.size;have hW67:W6.heap.size<W7.heap.size:=hst7.lt;have hstV:=hst7.out hVo (by omega);have himV:IMap V w5.heap.size (oneV z.id (pmV z.k.current A z.k.lines.length c)) 1 D6:=(him.below hb7).out hVo (by omega);have hgV:Bk V g 33 #[.int .u64 (z.nextE:Int)]:=((hg5k.out ho7 (by have:=hg5k.lt;omega)).out hVo (by omega));have hlnV:LnS (fun k=>w.heap.size≤k∧k<w1.heap.size) V A z.k.lines.length z.k.lines:=by
    have hw1s:=HB1s.out;have hk1l:=HK1.out.lt;have hb1w:=HBW.out.size;refine ((HLW.out.out hg5' fun b hb q=>?_).out ho7 fun b hb e=>?_).out hVo fun b hb e=>?_
    ·have:=hgz5 b q;omega
    ·have:=HKW.out.lt;omega
    ·omega
   have hw1W:w1.heap.size≤W.heap.size:=by have:=HKW.out.lt;omega
   obtain ⟨z1,hz1⟩:∃z1:Zn,z1={z with k:=⟨z.nextE,z.k.current,z.k.lines⟩,role:=.stand z.nextE,waited:=0}:=⟨_,rfl⟩;obtain ⟨Y1,hY1⟩:∃Y1:Nat→Prop,Y1=fun b=>(w.heap.size≤b∧b<w1.heap.size)∨b=w5.heap.size∨b=W6.heap.size:=⟨_,rfl⟩;have hY1b:∀b,Y1 b→w.heap.size≤b∧b≤W6.heap.size∧¬Z5 b:=fun b hb=>by
    rw [hY1] at hb;have h5:=hs5.lt;refine ⟨?_,?_,fun q=>?_⟩
    ·rcases hb with hb|hb|hb<;>omega
    ·rcases hb with hb|hb|hb<;>omega
    ·have h6:=h5 b q;rcases hb with hb|hb|hb
     ·rcases hz5 b q with q2|q2
      ·have:=hgz5 b q2;omega
      ·have q3:W.heap.size≤b:=q2;omega
     ·omega
     ·omega
   have hgn:¬Z5 gz:=fun q=>by
    rcases hz5 gz q with q2|q2
    ·exact H.out.gzn.1 q2
    ·have q3:W.heap.size≤gz:=q2;omega
   have hoV:Out (fun b=>b=gz∨b=w5.heap.size) w5 V:=(ho7.mono fun k hk=>.inl (.inr hk)).trans (X':=fun b=>b=gz∨b=w5.heap.size) (hVo.mono fun k hk=>.inl (.inl hk)) fun k hk=>.inl hk;have hw0:=H.out.below.size;have hssV:Ss w0 V Z5 gs gd pg z1.k (N+4):=by
    rw [hz1];refine hs5.out hoV fun b hb=>?_;rcases hb with hb|hb
    ·rw [hb];exact ⟨hgn,H.out.low⟩
    ·rw [hb];exact ⟨fun q=>by have:=hs5.lt _ q;omega,by omega⟩
   have hokz:({z1 with role:=.follow}:Zn).Ok:=by
    rw [hz1];have hok:=H.out.ok;have hfr:=hok.fine.run hmay;rw [hk'] at hfr;exact ⟨hok.n1,hok.n3,hok.id,hfr,hok.seen,hok.com,trivial⟩
   have hnc:Nc w0 V Y1 Z5 gz gs gd pg z1 (N+4):=by
    refine ⟨hssV,⟨.iface 187 (.pointer (some ⟨W6.heap.size,0,none⟩)),?_⟩,hokz,?_,H.out.low,⟨hgn,fun q=>?_⟩,fun b hb=>⟨?_,(hY1b b hb).2.2,?_⟩⟩
    ·rw [hz1];exact hVb
    ·rw [hz1];exact H.out.pp
    ·have:=(hY1b gz q).1;omega
    ·have:=(hY1b b hb).1;omega
    ·have:=(hY1b b hb).2.1;omega
   have hgzV:Gz Y Z Y1 Z5 gz w V:=by
    refine ⟨((Out.of_below HBW.out).trans (X':=Nx Y Z gz) (hg5'.mono fun k hk=>.inl (.inr (.inr hk))) fun k hk=>.inl hk).trans (X':=Nx Y Z gz) (hoV.mono fun k hk=>?_) fun k hk=>.inl hk,fun b hb=>?_⟩
    ·rcases hk with hk|hk
     ·exact .inl (.inl hk)
     ·exact .inr (by omega)
    ·rcases hb with hb|hb|hb
     ·exact .inl (.inl hb)
     ·exact .inr (hY1b b hb).1
     ·rcases hz5 b hb with q|q
      ·exact .inl (.inr (.inr q))
      ·have q3:W.heap.size≤b:=q;exact .inr (by omega)
   have CT:=Lib.hid (aFc hVb (by have:=H.out.ok.n3;omega) 129 #[.pointer (some ⟨g,0,none⟩)] (fun _=>stM z.nextE) ⟨fun a U=>aNp a _ U,fun i U hi hid hbi=>⟨bCx HNE.out,aTz (hgV.below hbi) i⟩⟩);have HVW:Hid (V=(W7.setCell ⟨gz,3,none⟩ (.iface 187 (.pointer (some ⟨W6.heap.size,0,none⟩)))).setCell ⟨gz,5,none⟩ (.int .i64 0)):=hV;have HST:=Lib.hid hstV;have HIM:=Lib.hid himV;have HLV:=Lib.hid hlnV;have HNC:=Lib.hid hnc;have HGZV:=Lib.hid hgzV;have HVB:=Lib.hid hVb;have HZ1:=Lib.hid hz1;have HY1:=Lib.hid hY1;have HM1:=Lib.hid hthn;have HAZ:=Lib.hid ha;have HSW:Hid (W6.heap.size<V.heap.size∧w5.heap.size<V.heap.size∧w1.heap.size≤V.heap.size∧w.heap.size≤V.heap.size):=⟨by omega,by omega,by omega,by omega⟩;have hid1:z.n=1∨2≤z.n:=by have:=H.out.ok.n1;omega
   have HNB:Hid (∀b,w.heap.size≤b∧b<w1.heap.size→¬Z5 b):=fun b hb=>(hY1b b (by rw [hY1];exact .inl hb)).2.2;have HSTZ:Hid (¬Z5 W6.heap.size):=(hY1b _ (by rw [hY1];exact .inr (.inr rfl))).2.2;have HM4:Hid (z.k.promised<z.nextE):=m1;clear hav;clear hmay hfits hthn hk' m1 m2 hgz5 hgl hw1 hg5k hk5 hnd5 g0' z0' k1' k2' hmk hput him hgr ho6 g0'' a0 a1 a2 a3 hW7 hb7 hst7 hgzw hww hw5 hw6 hw56 ho7 hnd7 hVo hVb hV7 hW67 hstV himV hgV hlnV hw1W hz1 hY1 hY1b hgn hoV hw0 hssV hokz hnc hgzV hV hs5 hg5 hz5 hg5' ha CP HG HBW HGL HKW HLW HK1 HB02 HBK1 HW1 HLN HBK;go_wp2_with fail;rw [←HVW.out];refine CT.out.mono ?_;rintro r8 w8 ⟨v8,rfl,ho8,hni8,hb8⟩;rcases hid1 with hn1|hn2
   ·have e8:v8=.slice none 0 0:=hni8 (by rw [hn1];exact aGf (by have:=H.out.ok.id;omega));subst e8;have hbv:bestV ([z.id].map fun _=>(⟨z.k.current,A,z.k.lines.length,c⟩:Pv))=better Pv.zero ⟨z.k.current,A,z.k.lines.length,c⟩:=rfl;have hlb:LnS (fun k=>w.heap.size≤k∧k<w1.heap.size) w8 (better Pv.zero ⟨z.k.current,A,z.k.lines.length,c⟩).A (better Pv.zero ⟨z.k.current,A,z.k.lines.length,c⟩).n z.k.lines:=by
     unfold better;by_cases hbt:btr (z.k.current:Int) (z.k.lines.length:Int) (Pv.zero.c:Int) (Pv.zero.n:Int)=true
     ·rw [if_pos hbt];exact HLV.out.below hb8
     ·rw [if_neg hbt];have h0:z.k.lines.length=0:=by
       have h1:btr (z.k.current:Int) (z.k.lines.length:Int) 0 0=false:=Bool.eq_false_iff.2 hbt;exact (aQt h1).2
      have e0:=List.eq_nil_of_length_eq_zero h0;show LnS _ _ none 0 z.k.lines;rw [e0];exact LnS.nil_ _ _ _
    have hfk:=H.out.ok.fine;have CL:=Lib.hid (aLv (P:=fun k=>w.heap.size≤k∧k<w1.heap.size) (g:=fun _=>(⟨z.k.current,A,z.k.lines.length,c⟩:Pv)) (L:=[z.id]) (HNC.out.below_ hb8) (by omega) (HST.out.below hb8) (HIM.out.below hb8) (by rw [HZ1.out];show quorum z.n≤1;rw [hn1];decide) (by omega) (by simp) (by have:=H.out.ok.id;simp;omega) (by simp) (fun i=>by
      unfold oneV;by_cases hi:i=z.id<;>simp [hi]) (fun i hi=>by
      have:i=z.id:=by simpa using hi
      unfold oneV;rw [if_pos this];rfl) (fun i _=>by have:=hfk.many;show z.k.lines.length<1000000;omega) HNE.out (by rw [HZ1.out];exact aMg H.out.ok.id) z.k.lines (by rw [hbv];exact hlb) ⟨by have:=hfk.many;omega,fun x hx=>by
       obtain ⟨_,q2,_,q4⟩:=aAi.1 (hfk.each x hx).1;unfold top at q2;omega⟩ (fun b hb=>⟨fun q=>HNB.out b hb q,by have:=HSW.out;have:=hb8.size;omega⟩) (HSTZ.out))
    have HB8:=Lib.hid hb8;clear ho8 hni8 hb8 hbv hlb hfk CT;go_wp2_with fail;refine CL.out.mono ?_;rintro r9 w9 ⟨v9,Y9,Z9,B9,rfl,hB9,ho9,hni9,hlt9,hnd9,hgz9⟩;have hn9:(z1.lead z.nextE z.k.lines).2=[]:=aZ7 (by rw [HZ1.out];exact hn1) (by rw [HZ1.out];have:=H.out.ok.id;show z.id<1;omega);have e9:v9=.slice none 0 0:=hni9 hn9;subst e9;have happ:=aOw w9;have HF:Hid (ToldP w0 Y Z gz gs gd pg z.stand (N+8) w (.returned (.slice none 0 0)) w9):=by
     have hst:z.stand=((z1.lead z.nextE z.k.lines).1,[]):=by
      have hnn:z1={z with k:=thn (.prom z.nextE) z.k z.p,role:=.stand z.nextE,waited:=0}:=by rw [HZ1.out,H.out.pp,HM1.out]
      unfold Zn.stand;rw [if_pos (by rw [H.out.pp];exact HAZ.out),←hnn];simp only [hn1,if_true];rw [aGf (by have:=H.out.ok.id;omega),hn9];rfl
     rw [hst];have hg2:=(HGZV.out.later HB8.out).trans hgz9;exact ⟨_,Y9,Z9,w9.heap.size,rfl,hg2.1.size,OwnO.nil_ _ _,fun _=>rfl,fun b hb=>(hnd9.nx b hb).2,hnd9,hg2⟩
    clear hB9 ho9 hni9 hlt9 hnd9 hgz9 hn9 CL HGZV HNC HST HIM HLV H;go_wp2_with (at_builtin;refine aCe rfl (.tmp 60) (.tmp 63) 41 rfl rfl rfl happ ?_)
    go_ret;exact HF.out
   ·have hqn:1<quorum z.n:=by
     rw [quo H.out.ok.n1 H.out.ok.n3,if_neg (by omega)];omega
    have CL:=Lib.hid (bA8 (HST.out.below hb8) (HIM.out.below hb8) (HVB.out.below hb8) H.out.ok.n1 (by have:=H.out.ok.n3;omega) hqn);have HB8:=Lib.hid hb8;have HO8:=Lib.hid ho8;clear ho8 hni8 hb8 hqn CT;go_wp2_with fail;refine CL.out.mono ?_;rintro r9 w9 ⟨rfl,hb9⟩;have ho9:=HO8.out.below hb9;have hsz9:V.heap.size≤w9.heap.size:=Nat.le_trans HB8.out.size hb9.size;have hlen:=aG0 z.id z.n (fun _=>stM z.nextE);obtain ⟨v10,w10,happ,ho10,hg10⟩:=aQc ho9 (OwnO.nil_ V.heap.size w9) (by rw [aEv];have:=H.out.ok.n3;simp;omega) hsz9;have hnd10:Nd w0 w10 Y1 Z5 gz gs gd pg z1 (N+4):=by
     have hndV:Nd w0 V Y1 Z5 gz gs gd pg z1 (N+4):=by
      have hnc:=HNC.out;refine ⟨hnc.ss,⟨.iface 187 (.pointer (some ⟨W6.heap.size,0,none⟩)),?_,?_⟩,?_,hnc.pp,hnc.low,hnc.gzn,hnc.yz⟩
      ·rw [HZ1.out];exact HVB.out
      ·rw [HZ1.out,HY1.out];exact ⟨W6.heap.size,w5.heap.size,A,c,D6,rfl,.inr (.inr rfl),.inr (.inl rfl),HST.out,HIM.out,HLV.out.mono fun b hb=>.inl hb⟩
      ·have hok:=hnc.ok;refine ⟨hok.n1,hok.n3,hok.id,hok.fine,hok.seen,hok.com,?_⟩;rw [HZ1.out];refine ⟨rfl,aMg H.out.ok.id,?_,hn2⟩;show z.k.current<z.nextE;have:=H.out.ok.fine.cur;have:=HM4.out;omega
     have hg':Out (fun b=>V.heap.size≤b) w9 w10:=(PhaseG.aAc hg10).mono fun k hk=>.inl (by
      obtain ⟨xs,hx,_⟩:=ho9;exact (aBx hx k hk).1)
     refine ((hndV.below_ HB8.out).below_ hb9).out hg' fun b hb=>⟨fun hx=>?_,?_⟩
     ·have:=(hndV.nx b hx).2;omega
     ·have:=hndV.below.size;omega
    have hg10':Gz Y Z Y1 Z5 gz w w10:=by
     have h1:=(HGZV.out.later HB8.out).later hb9;refine ⟨h1.1.trans (X':=fun b=>V.heap.size≤b) ((PhaseG.aAc hg10).mono fun k hk=>.inl ?_) fun k hk=>.inr ?_,h1.2⟩
     ·obtain ⟨xs,hx,_⟩:=ho9;exact (aBx hx k hk).1
     ·have:=HSW.out;omega
    have HF:Hid (ToldP w0 Y Z gz gs gd pg z.stand (N+8) w (.returned v10) w10):=by
     have hst:z.stand=(z1,others z.id z.n fun _=>stM z.nextE):=by
      have hnn:z1={z with k:=thn (.prom z.nextE) z.k z.p,role:=.stand z.nextE,waited:=0}:=by rw [HZ1.out,H.out.pp,HM1.out]
      unfold Zn.stand;rw [if_pos (by rw [H.out.pp];exact HAZ.out),←hnn];rw [if_neg (by omega)]
     rw [hst];rw [List.append_nil] at ho10;exact ⟨v10,Y1,Z5,V.heap.size,rfl,HGZV.out.1.size,ho10,fun e=>by have:=aSp H.out.ok.n1 e;omega,fun b hb=>(HNC.out.nx' b hb),hnd10.mono (by omega),hg10'⟩
    clear ho9 hsz9 hlen ho10 hg10 hnd10 hg10' hb9 CL HO8 HB8 HGZV HNC HST HIM HLV HVB HZ1 HY1 H;go_wp2_with (at_builtin;refine aCe rfl (.tmp 60) (.tmp 63) 41 rfl rfl rfl happ ?_)
    go_ret;exact HF.out
  ·have hzs:z.stand=(z,[]):=by unfold Zn.stand;rw [H.out.pp,if_neg ha]
   rw [aKi ha] at hs5;have hne:(av != 0)=true:=by rw [hav];simpa using ha
   obtain ⟨hn5,hgz⟩:=(H.out.below_ HBW.out).same hs5 hg5' hz5;have HF:Hid (ToldP w0 Y Z gz gs gd pg z.stand (N+8) w (.returned (.slice none 0 0)) w5):=by
    rw [hzs];have hg2:=Gz.earlier HBW.out hgz;exact ⟨_,Y,Z5,w5.heap.size,rfl,hg2.1.size,OwnO.nil_ _ _,fun _=>rfl,fun b hb=>(hn5.nx b hb).2,hn5.mono (by omega),hg2⟩
   clear hav hs5 hg5 hz5 hg5' ha hzs hn5 hgz CP H HBK HK1 HLN HW1 HB02 HBK1 HG HBW HGL HKW HLW;go_wp2_with fail;go_ret;exact HF.out
end
end Go.Proofs.YtgjmbbkcgillcaaGreat.Zab
namespace Go.Proofs.YtgjmbbkcgillcaaGreat.Sto
open Go.RowKit Disk Log
def Sq (w0 w:World) (Z:Nat→Prop) (gs gd:Nat) (k:Kp):Prop:=∃d p La Lb lv,Sw w0 w Z gs gd d p La Lb lv k false∧Fine k∧d.dead=true
section
variable {w0 w w':World} {Z X:Nat→Prop} {gs gd n:Nat} {k:Kp} {N:Nat}
theorem Ss.kill (h:Ss w0 w Z gs gd n k N):Calls Tryz.prog 22 #[.pointer (some ⟨gd,0,none⟩)] w fun e w'=>e=.returned (.tuple #[])∧∃Z',Sq w0 w' Z' gs gd k∧Grow Z Z' w w':=by
 obtain ⟨d,⟨La,Lb,lv,q1,q2⟩,-⟩:=h;obtain ⟨ga,gb,X,Ya,Yb,V,q3,q4⟩:=q1.at_;refine (aZa q3.disk).mono ?_;rintro e w' ⟨rfl,X',r1,r2,r3⟩;have hlt:=q3.lt;have hX:∀b,X' b→¬Ya b∧¬Yb b∧b≠gs∧¬V b:=fun b hb=>by
  rcases r3 b hb with q|q
  ·exact q3.xs b q
  ·exact ⟨fun r=>by have:=hlt b (.inr (.inl r));omega,fun r=>by have:=hlt b (.inr (.inr (.inl r)));omega,fun r=>by have:=hlt gs (by simp);omega,fun r=>by have:=hlt b (.inr (.inr (.inr (.inl r))));omega⟩
 obtain ⟨A,c,b1,b2,b3⟩:=q3.bk;have hm:SvM w' X' Ya Yb V gs gd ga gb d.kill _ La Lb lv k false:=
  ⟨⟨A,c,aAd b1 r2 (fun r=>(q3.xs gs r).2.2.1 rfl),b2.out r2 (fun b hb r=>(q3.xs b r).2.2.2 hb),b3⟩,r1,q3.la.out r2 (fun b hb r=>(q3.xs b r).1 hb),q3.lb.out r2 (fun b hb r=>(q3.xs b r).2.1 hb),q3.half,hX,q3.ys,q3.zs,fun b hb=>⟨(q3.vs b hb).1,Nat.lt_of_lt_of_le (q3.vs b hb).2 r2.size⟩⟩
 have ho:Out Z w w':=r2.mono fun b hb=>.inl (q4 b (.inl hb));have hz:∀b,(X' b∨Ya b∨Yb b∨V b∨b=gs)→Z b∨w.heap.size≤b:=fun b hb=>by
  rcases hb with q|q
  ·rcases r3 b q with r|r
   ·exact .inl (q4 b (.inl r))
   ·exact .inr r
  ·exact .inl (q4 b (.inr q))
 exact ⟨rfl,fun j=>X' j∨Ya j∨Yb j∨V j∨j=gs,⟨_,_,La,Lb,lv,⟨⟨ga,gb,X',Ya,Yb,V,hm,fun _ h=>h⟩,ho.below q1.below q1.own q1.below.size,fun j hj=>(hz j hj).elim (q1.own j) fun q=>Nat.le_trans q1.below.size q,hm.lt⟩,q2.fine,rfl⟩,ho,hz⟩
theorem Sq.below (h:Sq w0 w Z gs gd k):Below w0.heap.size w0 w:=by obtain ⟨_,_,_,_,_,h,_⟩:=h;exact h.below
theorem Sq.dead (h:Sq w0 w Z gs gd k):Calls Tryz.prog 63 #[.pointer (some ⟨gs,0,none⟩)] w fun e w'=>e=.returned (.bool true)∧w=w':=by
 obtain ⟨d,p,La,Lb,lv,h1,_,hd⟩:=h;obtain ⟨ga,gb,X,Ya,Yb,V,h3,h4⟩:=h1.at_;have:=aJw h3;rwa [hd] at this
end
end Go.Proofs.YtgjmbbkcgillcaaGreat.Sto
namespace Go.Proofs.YtgjmbbkcgillcaaGreat.Zab
open Go.RowKit Disk Log Sto Zm Bal
section
variable {w0 w w':World} {Y Z:Nat→Prop} {gz gs gd pg:Nat} {z:Zn} {N:Nat}
theorem Nd.waits (h:Nd w0 w Y Z gz gs gd pg z N) {V:World} {k:Nat} (hb:∀rv,Bk w gz 94 (ndC z.id z.n gs rv z.seen z.waited z.com)→Bk V gz 94 (ndC z.id z.n gs rv z.seen k z.com)) (ho:Out (fun b=>b=gz) w V):Nd w0 V Y Z gz gs gd pg {z with waited:=k} N:=by
 obtain ⟨rv,h1,h2⟩:=h.bk;refine ⟨h.ss.out ho fun b hb=>?_,⟨rv,hb rv h1,h2.out ho fun b hy e=>h.gzn.2 (e ▸ hy)⟩,⟨h.ok.n1,h.ok.n3,h.ok.id,h.ok.fine,h.ok.seen,h.ok.com,h.ok.role⟩,h.pp,h.low,h.gzn,fun b hy=>⟨(h.yz b hy).1,(h.yz b hy).2.1,Nat.lt_of_lt_of_le (h.yz b hy).2.2 ho.size⟩⟩;rw [hb];exact ⟨h.gzn.1,h.low⟩
def Zn.wait (z:Zn):Zn×List Tl:=if z.waited+1≤3+2*z.id then ({z with waited:=z.waited+1},[]) else ({z with waited:=z.waited+1}:Zn).stand
set_option maxRecDepth 100000 in
theorem aYa (h:Nd w0 w Y Z gz gs gd pg z N) (hN:N+8<65536) (hw:z.waited<1000000):
  Calls Tryz.prog 42 #[.pointer (some ⟨gz,0,none⟩)] w (ToldP w0 Y Z gz gs gd pg z.wait (N+8) w):=by
 obtain ⟨rv,hbk,_⟩:=h.bk;have z5:w.cell? ⟨gz,5,none⟩=some (.int .i64 (z.waited:Int)):=hbk.cell 5;have f5:=hbk.frozen 5;have z0:w.cell? ⟨gz,0,none⟩=some (.int .i64 (z.id:Int)):=hbk.cell 0;obtain ⟨q,hq⟩:∃q,q=z.waited+1:=⟨_,rfl⟩;obtain ⟨V,hV⟩:∃V,V=w.setCell ⟨gz,5,none⟩ (.int .i64 (q:Int)):=⟨_,rfl⟩;have ho:Out (fun b=>b=gz) w V:=by rw [hV];exact Out.setCell (X:=fun b=>b=gz) w (p:=⟨gz,5,none⟩) rfl _
 have hbv:∀rv,Bk w gz 94 (ndC z.id z.n gs rv z.seen z.waited z.com)→Bk V gz 94 (ndC z.id z.n gs rv z.seen q z.com):=fun rv hb=>by rw [hV];exact hb.set 5 _
 have hnd:=h.waits hbv ho;have hbk2:=hbv rv hbk;have y0:V.cell? ⟨gz,0,none⟩=some (.int .i64 (z.id:Int)):=hbk2.cell 0;have y5:V.cell? ⟨gz,5,none⟩=some (.int .i64 (q:Int)):=hbk2.cell 5;have e1:(z.waited:Int)+1=(q:Int):=by omega
 have hq2:q<1000001:=by omega
 have hid:=h.ok.id;have hn3:=h.ok.n3;have e2:IntKind.i64.wrap (2*(z.id:Int))=2*(z.id:Int):=IntWalk.i64_in _ (by omega);have e3:IntKind.i64.wrap (3+2*(z.id:Int))=3+2*(z.id:Int):=IntWalk.i64_in _ (by omega);have HV:=Lib.hid hV;have HND:=Lib.hid hnd;have hgz:Gz Y Z Y Z gz w V:=⟨ho.mono fun k hk=>.inl (.inl hk),fun b hb=>.inl hb⟩;have HGZ:=Lib.hid hgz;have CS:=Lib.hid (aOp hnd hN);have hz:z.wait=if q≤3+2*z.id then ({z with waited:=q},[]) else ({z with waited:=q}:Zn).stand:=by rw [hq];rfl
 have HZ:=Lib.hid hz;clear hq h hbk ho hbv hnd hbk2 hV hgz hz;go_enter Tryz.func42,Tryz.ntmps42
 go_wp2_with fail;rw [←HV.out];clear z5 z0 f5 e1;by_cases hle:q≤3+2*z.id
 ·have hlb:decide ((q:Int)≤3+2*(z.id:Int))=true:=decide_eq_true (by omega);have hli:(q:Int)≤3+2*(z.id:Int):=by omega
  have HF:Hid (∀V',Below V.heap.size V V'→ToldP w0 Y Z gz gs gd pg z.wait (N+8) w (.returned (.slice none 0 0)) V'):=fun V' hV'=>by
   rw [HZ.out,if_pos hle];have hg:=HGZ.out.later hV';have hn:=HND.out.below_ hV';exact ⟨_,Y,Z,V'.heap.size,rfl,hg.1.size,OwnO.nil_ _ _,fun _=>rfl,fun b hb=>(hn.nx b hb).2,hn.mono (by omega),hg⟩
  clear HV HND HGZ CS HZ hle
  go_quiet (fail)
  go_wp2_with fail;go_ret;exact HF.out _ (below_drewN _ _)
 ·have hlb:decide ((q:Int)≤3+2*(z.id:Int))=false:=decide_eq_false (by omega);have hli:¬(q:Int)≤3+2*(z.id:Int):=by omega
  have CS2:Hid (∀V',Below V.heap.size V V'→Calls Tryz.prog 79 #[.pointer (some ⟨gz,0,none⟩)] V' (ToldP w0 Y Z gz gs gd pg ({z with waited:=q}:Zn).stand (N+8) V')):=fun V' hV'=>aOp (HND.out.below_ hV') hN;have HF:Hid (∀V' e w',Below V.heap.size V V'→ToldP w0 Y Z gz gs gd pg ({z with waited:=q}:Zn).stand (N+8) V' e w'→ToldP w0 Y Z gz gs gd pg z.wait (N+8) w e w'):=fun V' e w' hV' ⟨v,Y',Z',B,h1,h2,h3,h4,h5,h6,h7⟩=>by
   rw [HZ.out,if_neg hle];have hg:=(HGZ.out.later hV').trans h7;exact ⟨v,Y',Z',B,h1,Nat.le_trans (HGZ.out.later hV').1.size h2,h3,h4,h5,h6,hg⟩
  clear HV HND HGZ CS HZ hle
  go_quiet (fail)
  go_wp2_with fail;refine (CS2.out _ (below_drewN _ _)).mono ?_;intro e w3 hp;have HP:=Lib.hid (HF.out _ _ _ (below_drewN _ _) hp);clear hp HF CS2;obtain ⟨v,Y',Z',B,rfl,hrest⟩:=HP.out;clear hrest;go_wp2_with fail;go_ret;exact HP.out
theorem ToldP.from_ {w1:World} {r:Zn×List Tl} {e:Ending} (hb:Below w.heap.size w w1) (h:ToldP w0 Y Z gz gs gd pg r N w1 e w'):ToldP w0 Y Z gz gs gd pg r N w e w':=by
 obtain ⟨v,Y',Z',B,h1,h2,h3,h4,h5,h6,h7⟩:=h;exact ⟨v,Y',Z',B,h1,Nat.le_trans hb.size h2,h3,h4,h5,h6,Gz.earlier hb h7⟩
theorem ToldP.mono {M:Nat} {r:Zn×List Tl} {e:Ending} (h:ToldP w0 Y Z gz gs gd pg r N w e w') (hm:N≤M):ToldP w0 Y Z gz gs gd pg r M w e w':=by
 obtain ⟨v,Y',Z',B,h1,h2,h3,h4,h5,h6,h7⟩:=h;exact ⟨v,Y',Z',B,h1,h2,h3,h4,h5,h6.mono hm,h7⟩
set_option maxRecDepth 100000 in
theorem aFr (h:Nd w0 w Y Z gz gs gd pg z N) (hN:N+8<65536) (hw:z.waited<1000000):
  Calls Tryz.prog 15 #[.pointer (some ⟨gz,0,none⟩)] w (ToldP w0 Y Z gz gs gd pg z.tick (N+8) w):=by
 obtain ⟨rv,hbk,hr⟩:=h.bk;have z3:w.cell? ⟨gz,3,none⟩=some rv:=hbk.cell 3;have CD:=Lib.hid (aCo h);have CW:=Lib.hid (aYa h hN hw);cases hrole:z.role with
 |follow=>
  rw [hrole] at hr;subst hr;have ha:=aBr w;have hz:z.tick=z.wait:=by
   unfold Zn.tick;split
   ·next q=>rw [hrole] at q;cases q
   ·rfl
  rw [hz];clear hrole hz hbk h;go_enter Tryz.func15,Tryz.ntmps15
  go_wp2_with fail;refine CD.out.mono ?_;rintro r1 w1 ⟨rfl,rfl⟩;go_wp2_with fail;refine CW.out.mono ?_;intro e w3 hp;have HP:=Lib.hid hp;clear hp CW CD;obtain ⟨v,Y',Z',B,rfl,hrest⟩:=HP.out;clear hrest;go_wp2_with fail;go_ret;exact HP.out
 |stand e=>
  rw [hrole] at hr;obtain ⟨gp,gm,A,c,D,rfl,-⟩:=hr;have ha:=aBq gp w;have hz:z.tick=z.wait:=by
   unfold Zn.tick;split
   ·next q=>rw [hrole] at q;cases q
   ·rfl
  rw [hz];clear hrole hz hbk h;go_enter Tryz.func15,Tryz.ntmps15
  go_wp2_with fail;refine CD.out.mono ?_;rintro r1 w1 ⟨rfl,rfl⟩;go_wp2_with fail;refine CW.out.mono ?_;intro e w3 hp;have HP:=Lib.hid hp;clear hp CW CD;obtain ⟨v,Y',Z',B,rfl,hrest⟩:=HP.out;clear hrest;go_wp2_with fail;go_ret;exact HP.out
 |lead e base acked ready=>
  rw [hrole] at hr;obtain ⟨gl,gm,D,rfl,hyl,hym,hl,hm⟩:=hr;have ha:=aD1 gl w;have CM:=Lib.hid (aKs h hrole hl hm);have hz:z.tick=(z,Zab.remind z e acked):=by unfold Zn.tick;rw [hrole]
  have HZ:=Lib.hid hz;have H:=Lib.hid h;clear hrole hz hbk h hl hm hyl hym;go_enter Tryz.func15,Tryz.ntmps15
  go_wp2_with fail;refine CD.out.mono ?_;rintro r1 w1 ⟨rfl,rfl⟩;go_wp2_with fail;refine CM.out.mono ?_;rintro r2 w6 ⟨v,rfl,ho6,hni6,hb6⟩;have HF:Hid (ToldP w0 Y Z gz gs gd pg z.tick (N+8) w (.returned v) w6):=by
   rw [HZ.out];exact ⟨v,Y,Z,w.heap.size,rfl,Nat.le_refl _,ho6,hni6,fun b hb=>(H.out.nx b hb).2,(H.out.below_ hb6).mono (by omega),Gz.of_below hb6⟩
  clear ho6 hni6 hb6 CM CW CD H HZ;go_wp2_with fail;go_ret;exact HF.out
end
def newN (id n pg:Nat) (k:Kp):Zn:=⟨id,n,pg / 2,k,.follow,0,0,0⟩
def NewP (w0:World) (Z:Nat→Prop) (gs gd pg id n:Nat) (k:Kp) (N:Nat) (w:World) (e:Ending) (w':World):Prop:=∃gz,e=.returned (.tuple #[.pointer (some ⟨gz,0,none⟩),.int .i64 0])∧gz=w.heap.size∧Nd w0 w' (fun _=>False) Z gz gs gd pg (newN id n pg k) N∧Below w.heap.size w w'
set_option maxRecDepth 100000 in
theorem aOx {w0 w:World} {Z:Nat→Prop} {gs gd pg:Nat} {k:Kp} {N:Nat} (h:Ss w0 w Z gs gd pg k N) (id n:Nat) (hid:id<n) (hn:n≤3):
  Calls Tryz.prog 26 #[.int .i64 (id:Int),.int .i64 (n:Int),.pointer (some ⟨gs,0,none⟩)] w (NewP w0 Z gs gd pg id n k N w):=by
 have CD:=Lib.hid h.dead;obtain ⟨V,hV⟩:∃V,V=w.alloc (.cells (ndC id n gs (.iface 129 (.agg #[])) 0 0 0) 94):=⟨_,rfl⟩;have hb:Below w.heap.size w V:=by rw [hV];exact (Below.refl _ _).alloc (Nat.le_refl _) _
 have HF:Hid (NewP w0 Z gs gd pg id n k N w (.returned (.tuple #[.pointer (some ⟨w.heap.size,0,none⟩),.int .i64 0])) V):=by
  refine ⟨_,rfl,rfl,⟨h.below_ hb,⟨_,?_,rfl⟩,⟨?_,hn,hid,h.fine,?_,?_,trivial⟩,rfl,h.below.size,⟨fun q=>by have:=h.lt _ q;omega,fun q=>q⟩,fun b q=>q.elim⟩,hb⟩
  ·rw [hV];exact Bk.new _ _ _
  ·show 1≤n;omega
  ·show 0≤top;exact Nat.zero_le _
  ·exact Nat.zero_le _
 have HV:Hid (V=w.alloc (.cells #[.int .i64 (id:Int),.int .i64 (n:Int),.pointer (some ⟨gs,0,none⟩),.iface 129 (.agg #[]),.int .u64 0,.int .i64 0,.int .i64 0] 94)):=hV;have c1:¬(n:Int)<1:=by omega
 have c2:¬(3:Int)<(n:Int):=by omega
 have c3:¬(id:Int)<0:=by omega
 have c4:¬(n:Int)≤(id:Int):=by omega
 clear h hb hV hid hn;go_enter Tryz.func26,Tryz.ntmps26
 go_wp2_with fail;refine CD.out.mono ?_;rintro r1 w1 ⟨rfl,rfl⟩;go_wp2_with fail;rw [←HV.out]
 go_ret2
 exact HF.out
end Go.Proofs.YtgjmbbkcgillcaaGreat.Zab
