/- Lemmas, part 27: StoKeep, StoCalls, StoDoes -/
import Derived.Test.YtgjmbbkcgillcaaGreatPart26
set_option maxHeartbeats 16000000
namespace Go.Proofs.YtgjmbbkcgillcaaGreat.Sto
open Go.RowKit Disk Log
open PhaseG (aCj StepF StepP StepT)
open Phase (aA0 aA2)
set_option maxRecDepth 8000 in
theorem aPw {w:World} {X Ya Yb V:Nat→Prop} {gs gd ga gb:Nat} {d:DK} {p:Nat} {La Lb:LK} {lv:Bool} {k:Kp} {met:Bool} (h:SvM w X Ya Yb V gs gd ga gb d p La Lb lv k met):
  Calls Tryz.prog 123 #[.pointer (some ⟨gs,0,none⟩),.int .i64 9] w (aGn X Ya Yb V gs gd ga gb d p La Lb lv k true (ErrE 9) w):=by
 cases met with
 |false=>exact aCu 9 (by decide) h
 |true=>
  obtain ⟨A,c,hb,-⟩:=h.bk;have q7:w.cell? ⟨gs,7,none⟩=some (.bool true):=hb.cell 7;have f7:w.frozen? ⟨gs,7,none⟩=false:=hb.frozen 7;have HM:=Lib.hid (h.meet true (ErrE 9));clear hb h;go_enter Tryz.func123,Tryz.ntmps123
  go_wp2_with (go_at_call 117;(with_reducible refine (aAr _ _).mono ?_);rintro e _ ⟨rfl,rfl⟩)
  exact ⟨rfl,HM.out⟩
def RecV (P:Nat→Prop) (w:World) (v:Value) (t:List UInt8):Prop:=
 ∃F caps,v=.func (.func F) #[] caps∧(∀args w,(callFunc F args).run Tryz.prog w=.ok (.enter F args) w)∧∀(W:World) (Z:Nat→Prop),Out Z w W→(∀b,P b→¬Z b)→Calls Tryz.prog F caps W (Put W t)
def aDs (X Ya Yb V:Nat→Prop) (gs gd ga gb:Nat) (d:DK) (p:Nat) (La Lb:LK) (lv:Bool) (k:Kp) (met:Bool) (D:Deed) (w:World) (e:Ending) (w':World):Prop:=
 ((met||d.dead)=true∧e=ErrE 9∧SvM w' X Ya Yb V gs gd ga gb d p La Lb lv k true∧Out (·=gs) w w')∨
 ((met||d.dead)=false∧((D.may k=false∧e=ErrE 1∧SvM w' X Ya Yb V gs gd ga gb d p La Lb lv k false∧Out (·=gs) w w')∨
  (D.may k=true∧fits (D.run k) p=false∧e=ErrE 4∧SvM w' X Ya Yb V gs gd ga gb d p La Lb lv k false∧Out (·=gs) w w')∨
  (D.may k=true∧fits (D.run k) p=true∧∃x d' La' Lb' lv' ga' gb' X' Ya' Yb' V',WrR d p La Lb lv D.text (wholeT (D.run k)) x d' La' Lb' lv'∧SvM w' X' Ya' Yb' V' gs gd ga' gb' d' p La' Lb' lv' (if x=0 then D.run k else k) (x==9)∧Out (fun b=>X b∨Ya b∨Yb b∨b=gs) w w'∧(∀b,X' b∨Ya' b∨Yb' b∨V' b→(X b∨Ya b∨Yb b∨V b)∨w.heap.size≤b)∧((x=0∧e=.returned (.tuple #[]))∨(x≠0∧e=ErrE x)))))
def RK4 (gs p:Nat) (kv:Value) (f:Bool):Nat→Value→World→Prop
 |0,x,_=>x=kv
 |1,x,_=>x=.pointer (some ⟨gs,0,none⟩)
 |2,x,_=>x=.int .i64 (p:Int)
 |3,x,_=>x=.bool f
 |4,x,_=>x=.bool (!f)
 |_,_,_=>True
theorem RK4.keep {gs p:Nat} {kv:Value} {f:Bool}:∀{k:Nat} {x:Value} {W W':World},RK4 gs p kv f k x W→RK4 gs p kv f k x W'
 |0,_,_,_,h=>h
 |1,_,_,_,h=>h
 |2,_,_,_,h=>h
 |3,_,_,_,h=>h
 |4,_,_,_,h=>h
 |_+5,_,_,_,_=>trivial
def SlR (w0:World) (t:List UInt8) (x:Value) (W:World):Prop:=∃A n c,x=.slice A n c∧n=t.length∧n≤c∧Rd W A n t∧∀a,A=some a→w0.heap.size≤a.block
def RK5 (w0:World) (gs:Nat) (fv kv:Value) (t:List UInt8):Nat→Value→World→Prop
 |0,x,_=>x=.pointer (some ⟨gs,0,none⟩)
 |1,x,_=>x=fv
 |2,x,W=>SlR w0 t x W
 |3,x,_=>x=kv
 |_,_,_=>True
theorem RK5.keep {w0:World} {gs:Nat} {fv kv:Value} {t:List UInt8}:∀{k:Nat} {x:Value} {W W':World},RK5 w0 gs fv kv t k x W→Below W.heap.size W W'→RK5 w0 gs fv kv t k x W'
 |0,_,_,_,h,_=>h
 |1,_,_,_,h,_=>h
 |2,_,_,_,⟨A,n,c,h1,h2,h3,h4,h5⟩,hb=>⟨A,n,c,h1,h2,h3,h4.below hb,h5⟩
 |3,_,_,_,h,_=>h
 |_+4,_,_,_,_,_=>trivial
set_option maxRecDepth 100000 in
theorem aS4 {w:World} {X Ya Yb V P:Nat→Prop} {gs gd ga gb:Nat} {d:DK} {p:Nat} {La Lb:LK} {lv:Bool} {k:Kp} {met:Bool} {D:Deed} {b1 b2 b3:Nat} {v vr:Value} (h:SvM w X Ya Yb V gs gd ga gb d p La Lb lv k met)
  (hg:(met||d.dead)=false→KL d (fOf lv p) p La∧KL d (fOf (!lv) p) p Lb∧La.top+2<65536∧Lb.top+4<65536) (hf:Fine k)
  (h1:Bk w b1 25 #[.pointer (some ⟨gs,0,none⟩)]) (h2:Bk w b2 138 #[v]) (h3:Bk w b3 141 #[vr])
  (hv:DeedV P w v (.deed D)) (hsm:SmallR (.deed D)) (hr:RecV P w vr D.text)
  (hP:∀b,P b∨b=b1∨b=b2∨b=b3→¬X b∧¬Ya b∧¬Yb b∧b≠gs∧b<w.heap.size):
  Calls Tryz.prog 122 #[.pointer (some ⟨b1,0,none⟩),.pointer (some ⟨b2,0,none⟩),.pointer (some ⟨b3,0,none⟩)] w (aDs X Ya Yb V gs gd ga gb d p La Lb lv k met D w):=by
 have HS:=Lib.hid h;have HG:=Lib.hid hg;have HF:=Lib.hid hf;have HB1:=Lib.hid h1;have HB2:=Lib.hid h2;have HBX3:=Lib.hid h3;have HV:=Lib.hid hv;have HR:=Lib.hid hr;have HSM:=Lib.hid hsm;have HP:=Lib.hid hP;have CD:=Lib.hid (aJw h);have s1:w.cell? ⟨b1,0,none⟩=some (.pointer (some ⟨gs,0,none⟩)):=h1.cell 0;obtain ⟨dd,hdd⟩:∃dd,dd=(met||d.dead):=⟨_,rfl⟩;rw [←hdd] at CD;have HDD:=Lib.hid hdd;clear h hg hf h1 h2 h3 hv hr hsm hP hdd;go_enter Tryz.func122,Tryz.ntmps122
 go_wp2_with fail;refine CD.out.mono ?_;rintro e _ ⟨rfl,rfl⟩;clear CD;cases dd with
 |true=>
  have CE:=Lib.hid (aPw HS.out);go_wp2_with fail;refine CE.out.mono ?_;rintro e w2 ⟨rfl,hs2,ho2⟩;have HFIN:Hid (aDs X Ya Yb V gs gd ga gb d p La Lb lv k met D w (ErrE 9) w2):=.inl ⟨HDD.out.symm,rfl,hs2,ho2⟩;clear hs2 ho2;unfold ErrE at*;go_wp2_with fail;exact ⟨rfl,HFIN.out⟩
 |false=>
  obtain ⟨rfl,hdead⟩:=Bool.or_eq_false_iff.1 HDD.out.symm;have HG2:=Lib.hid (HG.out HDD.out.symm);have HFA:Hid ((false||d.dead)=false):=HDD.out.symm;clear HG HDD hdead;obtain ⟨A,c,hbk,hl,hlc,hn⟩:=HS.out.bk;have k4:=hbk.cell 4;have k5:=hbk.cell 5;have k6:=hbk.cell 6;simp only [svC] at k4 k5 k6;have hb1:Below w.heap.size w (w.alloc (.cells #[.int .u64 (k.promised:Int),.int .u64 (k.current:Int),.slice A k.lines.length c] 69)):=(Below.refl _ _).alloc (Nat.le_refl _) _;obtain ⟨W,hW⟩:∃W,W=w.alloc (.cells #[.int .u64 (k.promised:Int),.int .u64 (k.current:Int),.slice A k.lines.length c] 69):=⟨_,rfl⟩;have hkb:Bk W w.heap.size 69 #[.int .u64 (k.promised:Int),.int .u64 (k.current:Int),.slice A k.lines.length c]:=by rw [hW];exact Bk.new w _ _
  rw [←hW] at hb1;have HWE:=Lib.hid hW;have HWB:=Lib.hid hb1;have HK:Hid (KpAt V W w.heap.size k):=⟨A,c,hkb,hl.below hb1,hlc,hn⟩;have HVW:=Lib.hid (HV.out.below hb1);have s2:W.cell? ⟨b2,0,none⟩=some v:=(HB2.out.below hb1).cell 0;have d1:W.cell? ⟨b1,0,none⟩=some (.pointer (some ⟨gs,0,none⟩)):=(HB1.out.below hb1).cell 0;obtain ⟨F,caps,rfl,hE,hcall⟩:=aOt (.deed D) _ _ _ HVW.out;have CX:=Lib.hid (hcall P V W w.heap.size k HVW.out HK.out (fun q=>by have:=(HP.out _ (.inl q)).2.2.2.2;omega) (fun q=>by have:=(HS.out.vs _ q).2;omega) HF.out.many HSM.out (fun a ha=>by cases ha));rw [HWE.out] at s2 d1 CX;clear hbk hl hlc hn hb1 hW hkb hcall;go_wp2_with (go_at_fn F;(with_reducible refine CX.out.mono ?_))
  rw [←HWE.out];rintro e w2 (⟨hm,rfl,hk2,ho2⟩|⟨hm,rfl,hb2⟩)
  rotate_left
  ·have HFIN:Hid (aDs X Ya Yb V gs gd ga gb d p La Lb lv k false D w (ErrE 1) w2):=by
    have hbw:=HWB.out.trans (hb2.mono HWB.out.size);exact .inr ⟨HFA.out,.inl ⟨hm,rfl,HS.out.below hbw,Out.of_below hbw⟩⟩
   clear hb2 hm;unfold thrown;go_wp2_with fail;exact ⟨rfl,HFIN.out⟩
  have hk2:KpAt (fun b=>V b∨W.heap.size≤b) w2 w.heap.size (D.run k):=hk2;have HM:Hid (D.may k=true):=hm;have HF2:Hid (Fine (D.run k)):=HF.out.run hm;have HK2:=Lib.hid (hk2.cut HF2.out);have HBW:Hid (Below w.heap.size w w2):=ho2.below HWB.out (fun b hb=>by rw [hb];exact Nat.le_refl _) HWB.out.size;clear hm hk2 ho2 CX HVW HK;obtain ⟨A2,c2,hbk2,hl2,hlc2,hn2⟩:=HK2.out.at_;have HBK2:=Lib.hid hbk2;have HL2:=Lib.hid hl2;have HLN2:Hid ((D.run k).lines.length≤c2∧(A2=none→c2=0)):=⟨hlc2,hn2⟩;have HC:Hid (∀V,Below w2.heap.size w2 V→V.cell? ⟨b1,0,none⟩=some (.pointer (some ⟨gs,0,none⟩))∧V.cell? ⟨w.heap.size,0,none⟩=some (.int .u64 ((D.run k).promised:Int))∧V.cell? ⟨w.heap.size,1,none⟩=some (.int .u64 ((D.run k).current:Int))∧V.cell? ⟨w.heap.size,2,none⟩=some (.slice A2 (D.run k).lines.length c2)):=fun V hV=>⟨((HB1.out.below HBW.out).below hV).cell 0,(HBK2.out.below hV).cell 0,(HBK2.out.below hV).cell 1,(HBK2.out.below hV).cell 2⟩;have HCP:Hid (∀V,Below w2.heap.size w2 V→Calls Tryz.prog 115 #[.pointer (some ⟨gs,0,none⟩)] V fun e w'=>e=.returned (.int .i64 (p:Int))∧V=w'):=fun V hV=>by
   have hs:=(HS.out.below HBW.out).below hV;obtain ⟨A0,c0,hbs,-⟩:=hs.bk;exact aQo gs gd p d X V hs.disk (hbs.cell 0) hs.half.1
  obtain ⟨ff,hff⟩:∃ff,ff=fits (D.run k) p:=⟨_,rfl⟩;have HFF:=Lib.hid hff;have HCH:Hid (∀V,Below w2.heap.size w2 V→Calls Tryz.prog 124 #[(.agg #[.int .u64 ((D.run k).promised:Int),.int .u64 ((D.run k).current:Int),.slice A2 (D.run k).lines.length c2]),.int .i64 (p:Int)] V fun e w'=>e=.returned (.bool ff)∧Below V.heap.size V w'):=fun V hV=>by
   rw [HFF.out];exact aJh _ (D.run k) A2 c2 p V (HL2.out.below hV) (by have:=HF2.out.many;omega) (fun x hx=>by have:=(aAi.1 (HF2.out.each x hx).1).2.2.2;omega) (by have:=HS.out.half.2;omega) (by have:=HS.out.half.1;have:=HS.out.disk.ok.many;omega)
  clear hbk2 hl2 hlc2 hn2 s1 s2 d1 k4 k5 k6 hff;cases ff with
  |false=>
   have HFIN:Hid (∀w3,Below w2.heap.size w2 w3→aDs X Ya Yb V gs gd ga gb d p La Lb lv k false D w (ErrE 4) w3):=fun w3 hb3=>by
    have hbw:=HBW.out.trans (hb3.mono HBW.out.size);exact .inr ⟨HFA.out,.inr (.inl ⟨HM.out,HFF.out.symm,rfl,HS.out.below hbw,Out.of_below hbw⟩)⟩
   go_wp2_with fail;refine aCj 5 20 (RK4 gs p (.agg #[.int .u64 ((D.run k).promised:Int),.int .u64 ((D.run k).current:Int),.slice A2 (D.run k).lines.length c2]) false) (fun _ _=>False) (fun _ _ _=>True) (by kernel_rfl) (by kernel_rfl) (by kernel_rfl) (by kernel_rfl) (by kernel_rfl) (by decide) (fun _ _ _ _ h _ _=>h.keep) ?_ ?_ aA2 (fun v=>{tmps:=#[.pointer (some ⟨b1,0,none⟩),.pointer (some ⟨b2,0,none⟩),.pointer (some ⟨b3,0,none⟩),.pointer (some ⟨w.heap.size,0,none⟩),.pointer (some ⟨gs,0,none⟩),.bool false,undef,undef,.pointer (some ⟨gs,0,none⟩),.pointer (some ⟨gs,0,none⟩),.pointer (some ⟨gs,4,none⟩),.agg #[.int .u64 (k.promised:Int),.int .u64 (k.current:Int),.slice A k.lines.length c],.func (.func F) #[] caps,.tuple #[],v 0,v 1,v 2,v 3,v 4,v 5,undef,undef,undef,undef,undef,undef,undef,undef,undef],defers:=[]}) (fun v=>by kernel_rfl) ?_
   ·refine aA0 ?_ (aA0 ?_ (aA0 ?_ (aA0 ?_ (aA0 ?_ aA2))))
    ·intro a v W hd hb K hK;have k0:a.tmps.getD 3 undef=.pointer (some ⟨w.heap.size,0,none⟩):=hd.kept 3 (by kernel_rfl);obtain ⟨-,q0,q1,q2⟩:=HC.out W hb;have hk:=hK (.agg #[.int .u64 ((D.run k).promised:Int),.int .u64 ((D.run k).current:Int),.slice A2 (D.run k).lines.length c2]) W (Below.refl _ _) rfl;clear hK;unfold Oper.wp;go_simp;exact hk
    ·intro a v W hd hb K hK;have k0:a.tmps.getD 0 undef=.pointer (some ⟨b1,0,none⟩):=hd.kept 0 (by kernel_rfl);obtain ⟨e1,-⟩:=HC.out W hb;have hk:=hK (.pointer (some ⟨gs,0,none⟩)) W (Below.refl _ _) rfl;clear hK;unfold Oper.wp;go_simp;exact hk
    ·intro a v W hd hb K hK;obtain ⟨h15,r15⟩:=hd.done_ 1 _ 15 (by kernel_rfl) rfl rfl;have r15:v 1=.pointer (some ⟨gs,0,none⟩):=r15;rw [r15] at h15;have cw:=HCP.out W hb;have hk:=hK (.int .i64 (p:Int)) W (Below.refl _ _) rfl;clear hK;unfold Oper.wp;go_simp;refine cw.mono ?_;rintro e _ ⟨rfl,rfl⟩;exact hk
    ·intro a v W hd hb K hK;obtain ⟨h14,r14⟩:=hd.done_ 0 _ 14 (by kernel_rfl) rfl rfl;obtain ⟨h16,r16⟩:=hd.done_ 2 _ 16 (by kernel_rfl) rfl rfl;have r14:v 0=(.agg #[.int .u64 ((D.run k).promised:Int),.int .u64 ((D.run k).current:Int),.slice A2 (D.run k).lines.length c2]):=r14;have r16:v 2=.int .i64 (p:Int):=r16;rw [r14] at h14;rw [r16] at h16;have cw:=HCH.out W hb;unfold Oper.wp;go_simp;refine cw.mono ?_;rintro e W' ⟨rfl,hb'⟩;exact hK (.bool false) W' hb' rfl
    ·intro a v W hd hb K hK;obtain ⟨h17,r17⟩:=hd.done_ 3 _ 17 (by kernel_rfl) rfl rfl;have r17:v 3=.bool false:=r17;rw [r17] at h17;have hk:=hK (.bool (!false)) W (Below.refl _ _) rfl;clear hK;unfold Oper.wp;go_simp;exact hk
   ·intro o ho a v W hd hdf hb K hK;have HDF:=Lib.hid hdf;clear hdf;have ho':_=o:=Option.some.inj ho;subst ho';obtain ⟨h18,r18⟩:=hd.done_ 4 _ 18 (by kernel_rfl) rfl rfl;have r18:v 4=.bool (!false):=r18;rw [r18] at h18;have hfin:=HFIN.out W hb;clear hK;have cw:=aAr 4 W;unfold ErrE at hfin;unfold Oper.wp;go_simp;refine cw.mono ?_;rintro e _ ⟨rfl,rfl⟩;exact ⟨HDF.out,hfin⟩
   ·intro v W h;exact h.elim
  |true=>
   go_wp2_with fail;refine aCj 5 20 (RK4 gs p (.agg #[.int .u64 ((D.run k).promised:Int),.int .u64 ((D.run k).current:Int),.slice A2 (D.run k).lines.length c2]) true) (fun x W=>x=.tuple #[]∧Below w2.heap.size w2 W) (fun _ _ _=>True) (by kernel_rfl) (by kernel_rfl) (by kernel_rfl) (by kernel_rfl) (by kernel_rfl) (by decide) (fun _ _ _ _ h _ _=>h.keep) ?_ ?_ aA2 (fun v=>{tmps:=#[.pointer (some ⟨b1,0,none⟩),.pointer (some ⟨b2,0,none⟩),.pointer (some ⟨b3,0,none⟩),.pointer (some ⟨w.heap.size,0,none⟩),.pointer (some ⟨gs,0,none⟩),.bool false,undef,undef,.pointer (some ⟨gs,0,none⟩),.pointer (some ⟨gs,0,none⟩),.pointer (some ⟨gs,4,none⟩),.agg #[.int .u64 (k.promised:Int),.int .u64 (k.current:Int),.slice A k.lines.length c],.func (.func F) #[] caps,.tuple #[],v 0,v 1,v 2,v 3,v 4,v 5,undef,undef,undef,undef,undef,undef,undef,undef,undef],defers:=[]}) (fun v=>by kernel_rfl) ?_
   ·refine aA0 ?_ (aA0 ?_ (aA0 ?_ (aA0 ?_ (aA0 ?_ aA2))))
    ·intro a v W hd hb K hK;have k0:a.tmps.getD 3 undef=.pointer (some ⟨w.heap.size,0,none⟩):=hd.kept 3 (by kernel_rfl);obtain ⟨-,q0,q1,q2⟩:=HC.out W hb;have hk:=hK (.agg #[.int .u64 ((D.run k).promised:Int),.int .u64 ((D.run k).current:Int),.slice A2 (D.run k).lines.length c2]) W (Below.refl _ _) rfl;clear hK;unfold Oper.wp;go_simp;exact hk
    ·intro a v W hd hb K hK;have k0:a.tmps.getD 0 undef=.pointer (some ⟨b1,0,none⟩):=hd.kept 0 (by kernel_rfl);obtain ⟨e1,-⟩:=HC.out W hb;have hk:=hK (.pointer (some ⟨gs,0,none⟩)) W (Below.refl _ _) rfl;clear hK;unfold Oper.wp;go_simp;exact hk
    ·intro a v W hd hb K hK;obtain ⟨h15,r15⟩:=hd.done_ 1 _ 15 (by kernel_rfl) rfl rfl;have r15:v 1=.pointer (some ⟨gs,0,none⟩):=r15;rw [r15] at h15;have cw:=HCP.out W hb;have hk:=hK (.int .i64 (p:Int)) W (Below.refl _ _) rfl;clear hK;unfold Oper.wp;go_simp;refine cw.mono ?_;rintro e _ ⟨rfl,rfl⟩;exact hk
    ·intro a v W hd hb K hK;obtain ⟨h14,r14⟩:=hd.done_ 0 _ 14 (by kernel_rfl) rfl rfl;obtain ⟨h16,r16⟩:=hd.done_ 2 _ 16 (by kernel_rfl) rfl rfl;have r14:v 0=(.agg #[.int .u64 ((D.run k).promised:Int),.int .u64 ((D.run k).current:Int),.slice A2 (D.run k).lines.length c2]):=r14;have r16:v 2=.int .i64 (p:Int):=r16;rw [r14] at h14;rw [r16] at h16;have cw:=HCH.out W hb;unfold Oper.wp;go_simp;refine cw.mono ?_;rintro e W' ⟨rfl,hb'⟩;exact hK (.bool true) W' hb' rfl
    ·intro a v W hd hb K hK;obtain ⟨h17,r17⟩:=hd.done_ 3 _ 17 (by kernel_rfl) rfl rfl;have r17:v 3=.bool true:=r17;rw [r17] at h17;have hk:=hK (.bool (!true)) W (Below.refl _ _) rfl;clear hK;unfold Oper.wp;go_simp;exact hk
   ·intro o ho a v W hd hdf hb K hK;have HDF:=Lib.hid hdf;clear hdf;have ho':_=o:=Option.some.inj ho;subst ho';obtain ⟨h18,r18⟩:=hd.done_ 4 _ 18 (by kernel_rfl) rfl rfl;have r18:v 4=.bool (!true):=r18;rw [r18] at h18;have cw:=aAo 4 W;have hk:=hK (.tuple #[]) W ⟨rfl,hb⟩;clear hK;unfold Oper.wp;go_simp;refine cw.mono ?_;rintro e _ ⟨rfl,rfl⟩;exact hk
   ·intro v w3 hE _;obtain ⟨hy5,hb3⟩:=hE;have HB3:=Lib.hid hb3;generalize v 0=y0;generalize v 1=y1;generalize v 2=y2;generalize v 3=y3;generalize v 4=y4;generalize v 5=y5 at*;clear hy5;clear hb3 HCP HCH v;have HBW3:Hid (Below w.heap.size w w3):=HBW.out.trans (HB3.out.mono HBW.out.size);obtain ⟨FR,capsR,hvr,hER,hcallR⟩:=HR.out;subst hvr;have HCR:Hid (∀V0,Below w3.heap.size w3 V0→Calls Tryz.prog FR capsR V0 (Put V0 D.text)):=fun V0 hV0=>hcallR V0 (fun _=>False) (Out.of_below (HBW3.out.trans (hV0.mono HBW3.out.size))) (fun _ _ q=>q);have HDL:=Lib.hid (aMq HM.out);have HPP:Hid (∀(b:Nat),(V b∨W.heap.size≤b)∧b<w2.heap.size→¬X b∧¬Ya b∧¬Yb b∧b≠gs∧b<w2.heap.size):=fun b hb=>by
     have hlt:=HS.out.lt b;have hsz:=HWB.out.size;rcases hb.1 with q|q
     ·exact ⟨fun r=>(HS.out.xs b r).2.2.2 q,fun r=>(HS.out.ys b r).2.2 q,fun r=>(HS.out.zs b r).2 q,(HS.out.vs b q).1,hb.2⟩
     ·have hw:w.heap.size≤b:=Nat.le_trans hsz q;exact ⟨fun r=>by have:=hlt (.inl r);omega,fun r=>by have:=hlt (.inr (.inl r));omega,fun r=>by have:=hlt (.inr (.inr (.inl r)));omega,fun r=>by have:=hlt (.inr (.inr (.inr (.inr r))));omega,hb.2⟩
    have HCW:Hid (∀(V0:World) A4 n4 c4,Below w3.heap.size w3 V0→n4=D.text.length→n4≤c4→Rd V0 A4 n4 D.text→(∀a,A4=some a→w3.heap.size≤a.block)→Calls Tryz.prog 125 #[.pointer (some ⟨gs,0,none⟩),.slice A4 n4 c4,(.agg #[.int .u64 ((D.run k).promised:Int),.int .u64 ((D.run k).current:Int),.slice A2 (D.run k).lines.length c2])] V0 (aJg X Ya Yb V gs gd d p La Lb lv k (D.run k) D.text V0)):=fun V0 A4 n4 c4 hb y1 y2 y3 y4=>by
     have hbw:=HBW3.out.trans (hb.mono HBW3.out.size);have hbw2:=HB3.out.trans (hb.mono HB3.out.size);refine (aS7 (HS.out.below hbw) HG2.out.1 HG2.out.2.1 HG2.out.2.2.1 HG2.out.2.2.2 A4 n4 c4 D.text y3 (fun a ha q=>?_) y2 (by have:=HDL.out;omega) (HL2.out.below hbw2) (fun b hb2=>?_) HF2.out).mono fun e w' h=>h.wrote
     ·have h1:=y4 a ha;have h2:=HBW3.out.size;have:=HS.out.lt a.block (by rcases q with q|q<;>simp [q])
      omega
     ·have:=HPP.out b hb2;exact ⟨this.1,this.2.1,this.2.2.1,this.2.2.2.1,Nat.lt_of_lt_of_le this.2.2.2.2 hbw2.size⟩
    have HCE:Hid (∀V,Below w3.heap.size w3 V→V.cell? ⟨b1,0,none⟩=some (.pointer (some ⟨gs,0,none⟩))∧V.cell? ⟨w.heap.size,0,none⟩=some (.int .u64 ((D.run k).promised:Int))∧V.cell? ⟨w.heap.size,1,none⟩=some (.int .u64 ((D.run k).current:Int))∧V.cell? ⟨w.heap.size,2,none⟩=some (.slice A2 (D.run k).lines.length c2)):=fun V hV=>HC.out V (HB3.out.trans (hV.mono HB3.out.size));have HCF:Hid (∀V,Below w3.heap.size w3 V→V.cell? ⟨b3,0,none⟩=some (.func (.func FR) #[] capsR)):=fun V hV=>((HBX3.out.below HBW3.out).below hV).cell 0;have HOO:Hid (∀w4 w5,Below w3.heap.size w3 w4→Out (fun b=>X b∨Ya b∨Yb b∨b=gs) w4 w5→Out (fun b=>X b∨Ya b∨Yb b∨b=gs) w w5):=fun w4 w5 hb ho=>(Out.of_below (X:=fun b=>X b∨Ya b∨Yb b∨b=gs) (HBW3.out.trans (hb.mono HBW3.out.size))).trans ho fun _ h=>.inl h;have HZZ:Hid (∀(w4:World) (X' Ya' Yb':Nat→Prop),Below w3.heap.size w3 w4→(∀b,X' b∨Ya' b∨Yb' b→(X b∨Ya b∨Yb b)∨w4.heap.size≤b)→∀b,X' b∨Ya' b∨Yb' b∨V b→(X b∨Ya b∨Yb b∨V b)∨w.heap.size≤b):=fun w4 X' Ya' Yb' hb hz b h=>by
     have h5:(X' b∨Ya' b∨Yb' b)∨V b:=by
      rcases h with q|q|q|q
      ·exact .inl (.inl q)
      ·exact .inl (.inr (.inl q))
      ·exact .inl (.inr (.inr q))
      ·exact .inr q
     rcases h5 with q|q
     ·rcases hz b q with (r|r|r)|r
      ·exact .inl (.inl r)
      ·exact .inl (.inr (.inl r))
      ·exact .inl (.inr (.inr (.inl r)))
      ·exact .inr (Nat.le_trans HBW3.out.size (Nat.le_trans hb.size r))
     ·exact .inl (.inr (.inr (.inr q)))
    clear hcallR HC;go_wp2_with fail;refine aCj 4 20 (RK5 w3 gs (.func (.func FR) #[] capsR) (.agg #[.int .u64 ((D.run k).promised:Int),.int .u64 ((D.run k).current:Int),.slice A2 (D.run k).lines.length c2]) D.text) (fun x w5=>x=.tuple #[]∧∃V0,Below w3.heap.size w3 V0∧aJg X Ya Yb V gs gd d p La Lb lv k (D.run k) D.text V0 (.returned (.tuple #[])) w5) (fun _ _ _=>True) (by kernel_rfl) (by kernel_rfl) (by kernel_rfl) (by kernel_rfl) (by kernel_rfl) (by decide) (fun _ _ _ _ h _ hb=>h.keep hb) ?_ ?_ aA2 (fun v=>{tmps:=#[.pointer (some ⟨b1,0,none⟩),.pointer (some ⟨b2,0,none⟩),.pointer (some ⟨b3,0,none⟩),.pointer (some ⟨w.heap.size,0,none⟩),.pointer (some ⟨gs,0,none⟩),.bool false,undef,undef,.pointer (some ⟨gs,0,none⟩),.pointer (some ⟨gs,0,none⟩),.pointer (some ⟨gs,4,none⟩),.agg #[.int .u64 (k.promised:Int),.int .u64 (k.current:Int),.slice A k.lines.length c],.func (.func F) #[] caps,.tuple #[],y0,y1,y2,y3,y4,y5,v 0,v 1,v 2,v 3,v 4,undef,undef,undef,undef],defers:=[]}) (fun v=>by kernel_rfl) ?_
    ·refine aA0 ?_ (aA0 ?_ (aA0 ?_ (aA0 ?_ aA2)))
     ·intro a v W hd hb K hK;have k0:a.tmps.getD 0 undef=.pointer (some ⟨b1,0,none⟩):=hd.kept 0 (by kernel_rfl);obtain ⟨e1,-⟩:=HCE.out W hb;have hk:=hK (.pointer (some ⟨gs,0,none⟩)) W (Below.refl _ _) rfl;clear hK;unfold Oper.wp;go_simp;exact hk
     ·intro a v W hd hb K hK;have k0:a.tmps.getD 2 undef=.pointer (some ⟨b3,0,none⟩):=hd.kept 2 (by kernel_rfl);have e3:=HCF.out W hb;have hk:=hK (.func (.func FR) #[] capsR) W (Below.refl _ _) rfl;clear hK;unfold Oper.wp;go_simp;exact hk
     ·intro a v W hd hb K hK;obtain ⟨h21,r21⟩:=hd.done_ 1 _ 21 (by kernel_rfl) rfl rfl;have r21:v 1=.func (.func FR) #[] capsR:=r21;rw [r21] at h21;have cw:=HCR.out W hb;unfold Oper.wp;go_simp;refine cw.mono ?_;rintro e W' ⟨A4,n4,c4,rfl,z1,z2,z3,z4⟩;exact hK (.slice A4 n4 c4) W' z4 ⟨A4,n4,c4,rfl,z1,z2,(Rd.of_own z3).1,fun a ha=>by
       have:=(z3.lt a.block (by subst ha;rfl)).1;exact Nat.le_trans hb.size this⟩
     ·intro a v W hd hb K hK;have k0:a.tmps.getD 3 undef=.pointer (some ⟨w.heap.size,0,none⟩):=hd.kept 3 (by kernel_rfl);obtain ⟨-,q0,q1,q2⟩:=HCE.out W hb;have hk:=hK (.agg #[.int .u64 ((D.run k).promised:Int),.int .u64 ((D.run k).current:Int),.slice A2 (D.run k).lines.length c2]) W (Below.refl _ _) rfl;clear hK;unfold Oper.wp;go_simp;exact hk
    ·intro o ho a v W hd hdf hb K hK;have HDF:=Lib.hid hdf;clear hdf;have ho':_=o:=Option.some.inj ho;subst ho';obtain ⟨h20,r20⟩:=hd.done_ 0 _ 20 (by kernel_rfl) rfl rfl;obtain ⟨h22,A4,n4,c4,e4,z1,z2,z3,z4⟩:=hd.done_ 2 _ 22 (by kernel_rfl) rfl rfl;obtain ⟨h23,r23⟩:=hd.done_ 3 _ 23 (by kernel_rfl) rfl rfl;have r20:v 0=.pointer (some ⟨gs,0,none⟩):=r20;have r23:v 3=(.agg #[.int .u64 ((D.run k).promised:Int),.int .u64 ((D.run k).current:Int),.slice A2 (D.run k).lines.length c2]):=r23;rw [r20] at h20;rw [e4] at h22;rw [r23] at h23;have CW:=Lib.hid (HCW.out W A4 n4 c4 hb z1 z2 z3 z4);clear z1 z2 z3 z4 e4 r20 r23;unfold Oper.wp;go_simp;refine CW.out.mono ?_;intro e w5 hw5;have HW5:=Lib.hid hw5;obtain ⟨x,d',La',Lb',lv',ga',gb',X',Ya',Yb',hwr,hs5,ho5,hz5,hx⟩:=hw5;rcases hx with ⟨rfl,rfl⟩|⟨hx,rfl⟩
     ·exact hK (.tuple #[]) w5 ⟨rfl,W,hb,HW5.out⟩
     ·refine ⟨HDF.out,?_⟩;exact .inr ⟨HFA.out,.inr (.inr ⟨HM.out,HFF.out.symm,x,d',La',Lb',lv',ga',gb',X',Ya',Yb',V,hwr,by rw [if_neg hx];exact hs5,HOO.out _ _ hb ho5,HZZ.out _ _ _ _ hb hz5,.inr ⟨hx,rfl⟩⟩)⟩
    ·intro v w5 hE _;obtain ⟨z5,V0,hb0,x,d',La',Lb',lv',ga',gb',X',Ya',Yb',hwr,hs5,ho5,hz5,hx⟩:=hE;have hx0:x=0:=by
      rcases hx with ⟨h,_⟩|⟨_,h⟩
      ·exact h
      ·unfold ErrE at h;cases h
     subst hx0;generalize v 0=z0;generalize v 1=z1;generalize v 2=z2;generalize v 3=z3;generalize v 4=z4 at*;obtain ⟨A0,c0,hbs,-⟩:=hs5.bk;have hnot:∀b,V b∨W.heap.size≤b→b<w2.heap.size→¬(X b∨Ya b∨Yb b∨b=gs):=fun b h1 h2 q=>by
      have:=HPP.out b ⟨h1,h2⟩;rcases q with q|q|q|q
      ·exact this.1 q
      ·exact this.2.1 q
      ·exact this.2.2.1 q
      ·exact this.2.2.2.1 q
     have hbw0:=HBW3.out.trans (hb0.mono HBW3.out.size);have hb20:=HB3.out.trans (hb0.mono HB3.out.size);have hk5:Bk w5 w.heap.size 69 #[.int .u64 ((D.run k).promised:Int),.int .u64 ((D.run k).current:Int),.slice A2 (D.run k).lines.length c2]:=aAd (HBK2.out.below hb20) ho5 (fun q=>by
      have hlt:=HS.out.lt w.heap.size;rcases q with q|q|q|q
      ·have:=hlt (.inl q);omega
      ·have:=hlt (.inr (.inl q));omega
      ·have:=hlt (.inr (.inr (.inl q)));omega
      ·have:=hlt (.inr (.inr (.inr (.inr q))));omega)
     have hs1:Bk w5 b1 25 #[.pointer (some ⟨gs,0,none⟩)]:=aAd (HB1.out.below hbw0) ho5 (fun q=>by
      have:=HP.out b1 (.inr (.inl rfl));rcases q with q|q|q|q
      ·exact this.1 q
      ·exact this.2.1 q
      ·exact this.2.2.1 q
      ·exact this.2.2.2.1 q)
     have hl5:LnS (fun b=>(V b∨W.heap.size≤b)∧b<w2.heap.size) w5 A2 (D.run k).lines.length (D.run k).lines:=(HL2.out.below hb20).out ho5 fun b hb=>hnot b hb.1 hb.2;have q0:w5.cell? ⟨w.heap.size,0,none⟩=some (.int .u64 ((D.run k).promised:Int)):=hk5.cell 0;have q1:w5.cell? ⟨w.heap.size,1,none⟩=some (.int .u64 ((D.run k).current:Int)):=hk5.cell 1;have q2:w5.cell? ⟨w.heap.size,2,none⟩=some (.slice A2 (D.run k).lines.length c2):=hk5.cell 2;have e1:w5.cell? ⟨b1,0,none⟩=some (.pointer (some ⟨gs,0,none⟩)):=hs1.cell 0;have g4:=hbs.cell 4;have g5:=hbs.cell 5;have g6:=hbs.cell 6;have f4:=hbs.frozen 4;have f5:=hbs.frozen 5;have f6:=hbs.frozen 6;simp only [svC] at g4 g5 g6;obtain ⟨w6,hw6⟩:∃w6,w6=((w5.setCell ⟨gs,4,none⟩ (.int .u64 ((D.run k).promised:Int))).setCell ⟨gs,5,none⟩ (.int .u64 ((D.run k).current:Int))).setCell ⟨gs,6,none⟩ (.slice A2 (D.run k).lines.length c2):=⟨_,rfl⟩;have ho6:Out (·=gs) w5 w6:=by
      rw [hw6];exact ((Out.setCell (X:=(·=gs)) w5 (p:=⟨gs,4,none⟩) rfl _).trans (Out.setCell (X:=(·=gs)) _ (p:=⟨gs,5,none⟩) rfl _) fun _ h=>.inl h).trans (Out.setCell (X:=(·=gs)) _ (p:=⟨gs,6,none⟩) rfl _) fun _ h=>.inl h
     have hb6:Bk w6 gs 126 (svC gd ga' gb' lv' (D.run k) A2 c2 (0==9)):=by
      rw [hw6];have:=((hbs.set 4 (.int .u64 ((D.run k).promised:Int))).set 5 (.int .u64 ((D.run k).current:Int))).set 6 (.slice A2 (D.run k).lines.length c2);simpa [svC] using this
     have HFIN:Hid (aDs X Ya Yb V gs gd ga gb d p La Lb lv k false D w (.returned (.tuple #[])) w6):=by
      refine .inr ⟨HFA.out,.inr (.inr ⟨HM.out,HFF.out.symm,0,d',La',Lb',lv',ga',gb',X',Ya',Yb',(fun b=>(V b∨W.heap.size≤b)∧b<w2.heap.size),hwr,?_,?_,?_,.inl ⟨rfl,rfl⟩⟩)⟩
      ·rw [if_pos rfl];refine hs5.own ho6 hb6 (hl5.out ho6 fun b hb e=>hnot b hb.1 hb.2 (.inr (.inr (.inr e)))) HLN2.out.1 HLN2.out.2 fun b hb=>?_;have hn:=hnot b hb.1 hb.2;have hsz:w2.heap.size≤w5.heap.size:=Nat.le_trans hb20.size ho5.size;refine ⟨fun e=>hn (.inr (.inr (.inr e))),Nat.lt_of_lt_of_le hb.2 (Nat.le_trans hsz ho6.size),fun q=>?_,fun q=>?_,fun q=>?_⟩
       all_goals
        rcases hz5 b (by simp [q]) with r|r
        ·exact hn (by rcases r with r|r|r<;>simp [r])
        ·have:=hb20.size;have:=hb.2;omega
      ·exact (HOO.out _ _ hb0 ho5).trans ho6 fun b hb=>.inl (.inr (.inr (.inr hb)))
      ·intro b h;have h5:(X' b∨Ya' b∨Yb' b∨V b)∨W.heap.size≤b:=by
        rcases h with q|q|q|q
        ·exact .inl (.inl q)
        ·exact .inl (.inr (.inl q))
        ·exact .inl (.inr (.inr (.inl q)))
        ·exact q.1.elim (fun r=>.inl (.inr (.inr (.inr r)))) .inr
       rcases h5 with q|q
       ·exact HZZ.out _ _ _ _ hb0 hz5 b q
       ·exact .inr (Nat.le_trans HWB.out.size q)
     have HW6:=Lib.hid hw6;clear hnot hbw0 hb20 hk5 hs1 hl5 hw6 ho6 hb6 hbs hx hz5 ho5 hs5 hwr hb0;go_wp2_with fail;rw [←HW6.out]
     go_end0
     exact HFIN.out
end Go.Proofs.YtgjmbbkcgillcaaGreat.Sto
namespace Go.Proofs.YtgjmbbkcgillcaaGreat.Sto
open Go.RowKit Disk Log
def StR (d:DK) (p:Nat) (La Lb:LK) (lv:Bool) (k:Kp) (met:Bool) (D:Deed) (x:Int) (d':DK) (La' Lb':LK) (lv':Bool) (k':Kp) (met':Bool):Prop:=
 ((met||d.dead)=true∧x=9∧d'=d∧La'=La∧Lb'=Lb∧lv'=lv∧k'=k∧met'=true)∨
 ((met||d.dead)=false∧((D.may k=false∧x=1∧d'=d∧La'=La∧Lb'=Lb∧lv'=lv∧k'=k∧met'=false)∨
  (D.may k=true∧fits (D.run k) p=false∧x=4∧d'=d∧La'=La∧Lb'=Lb∧lv'=lv∧k'=k∧met'=false)∨
  (D.may k=true∧fits (D.run k) p=true∧WrR d p La Lb lv D.text (wholeT (D.run k)) x d' La' Lb' lv'∧k'=(if x=0 then D.run k else k)∧met'=(x==9))))
def MemR (X Ya Yb V:Nat→Prop) (gs gd N p:Nat) (d':DK) (La' Lb':LK) (lv':Bool) (k':Kp) (met':Bool) (w w':World):Prop:=
 ∃ga' gb' X' Ya' Yb' V',SvM w' X' Ya' Yb' V' gs gd ga' gb' d' p La' Lb' lv' k' met'∧Out (fun b=>X b∨Ya b∨Yb b∨b=gs) w w'∧∀b,X' b∨Ya' b∨Yb' b∨V' b→(X b∨Ya b∨Yb b∨V b)∨N≤b
def DoneP (X Ya Yb V:Nat→Prop) (gs gd N:Nat) (d:DK) (p:Nat) (La Lb:LK) (lv:Bool) (k:Kp) (met:Bool) (D:Deed) (x:Int) (w w':World):Prop:=
 ∃d' La' Lb' lv' k' met',StR d p La Lb lv k met D x d' La' Lb' lv' k' met'∧MemR X Ya Yb V gs gd N p d' La' Lb' lv' k' met' w w'
section
variable {w w' w1 w2:World} {X Ya Yb V P:Nat→Prop} {gs gd ga gb N M:Nat} {d:DK} {p:Nat} {La Lb:LK} {lv:Bool} {k:Kp} {met:Bool} {D:Deed}
theorem aDs.done {e:Ending} (h:aDs X Ya Yb V gs gd ga gb d p La Lb lv k met D w e w'):∃x,DoneP X Ya Yb V gs gd w.heap.size d p La Lb lv k met D x w w'∧((x=0∧e=.returned (.tuple #[]))∨(x≠0∧e=ErrE x)):=by
 have hg:Out (·=gs) w w'→Out (fun b=>X b∨Ya b∨Yb b∨b=gs) w w':=fun h=>h.mono fun b hb=>.inl (.inr (.inr (.inr hb)));rcases h with ⟨h1,rfl,h2,h3⟩|⟨h0,⟨h1,rfl,h2,h3⟩|⟨h1,hf,rfl,h2,h3⟩|⟨h1,hf,x,d',La',Lb',lv',ga',gb',X',Ya',Yb',V',hw,h2,h3,h4,h5⟩⟩
 ·exact ⟨9,⟨d,La,Lb,lv,k,true,.inl ⟨h1,rfl,rfl,rfl,rfl,rfl,rfl,rfl⟩,ga,gb,X,Ya,Yb,V,h2,hg h3,fun b hb=>.inl hb⟩,.inr ⟨by decide,rfl⟩⟩
 ·exact ⟨1,⟨d,La,Lb,lv,k,false,.inr ⟨h0,.inl ⟨h1,rfl,rfl,rfl,rfl,rfl,rfl,rfl⟩⟩,ga,gb,X,Ya,Yb,V,h2,hg h3,fun b hb=>.inl hb⟩,.inr ⟨by decide,rfl⟩⟩
 ·exact ⟨4,⟨d,La,Lb,lv,k,false,.inr ⟨h0,.inr (.inl ⟨h1,hf,rfl,rfl,rfl,rfl,rfl,rfl,rfl⟩)⟩,ga,gb,X,Ya,Yb,V,h2,hg h3,fun b hb=>.inl hb⟩,.inr ⟨by decide,rfl⟩⟩
 ·exact ⟨x,⟨d',La',Lb',lv',_,_,.inr ⟨h0,.inr (.inr ⟨h1,hf,hw,rfl,rfl⟩)⟩,ga',gb',X',Ya',Yb',V',h2,h3,h4⟩,h5⟩
theorem DoneP.wider {x:Int} (h:DoneP X Ya Yb V gs gd N d p La Lb lv k met D x w1 w2) (hb:Below w.heap.size w w1) (hs:SvM w X Ya Yb V gs gd ga gb d p La Lb lv k met) (hN:w.heap.size≤M∧M<N) (ho:Out (·=M) w2 w'):DoneP X Ya Yb V gs gd w.heap.size d p La Lb lv k met D x w w':=by
 obtain ⟨d',La',Lb',lv',k',met',h1,ga',gb',X',Ya',Yb',V',h2,h3,h4⟩:=h;have hlt:=hs.lt;refine ⟨d',La',Lb',lv',k',met',h1,ga',gb',X',Ya',Yb',V',h2.out ho fun b hb e=>?_,?_,fun b hb=>(h4 b hb).imp id fun q=>by omega⟩
 ·have e:b=M:=e;subst e;have hg:=hlt gs (by simp);have h5:(X' b∨Ya' b∨Yb' b∨V' b)∨b=gs:=by
   rcases hb with q|q|q|q|q
   ·exact .inl (.inl q)
   ·exact .inl (.inr (.inl q))
   ·exact .inl (.inr (.inr (.inl q)))
   ·exact .inl (.inr (.inr (.inr q)))
   ·exact .inr q
  rcases h5 with q|q
  ·rcases h4 b q with r|r
   ·have:=hlt b (by rcases r with r|r|r|r<;>simp [r])
    omega
   ·omega
  ·omega
 ·exact ((Out.of_below (X:=fun b=>X b∨Ya b∨Yb b∨b=gs) hb).trans h3 fun _ q=>.inl q).trans ho fun b hb=>.inr (by omega)
theorem RecV.below {v:Value} {t:List UInt8} (h:RecV P w v t) (hb:Below w.heap.size w w'):RecV P w' v t:=by
 obtain ⟨F,caps,h1,h2,h3⟩:=h;exact ⟨F,caps,h1,h2,fun W Z ho hz=>h3 W Z ((Out.of_below (X:=Z) hb).trans ho fun _ q=>.inl q) hz⟩
end
def CallP (X Ya Yb V:Nat→Prop) (gs gd:Nat) (d:DK) (p:Nat) (La Lb:LK) (lv:Bool) (k:Kp) (met:Bool) (D:Deed) (w:World) (e:Ending) (w':World):Prop:=
 ∃x,e=.returned (.int .i64 x)∧DoneP X Ya Yb V gs gd w.heap.size d p La Lb lv k met D x w w'
theorem aSd:∀args w,(callFunc 122 args).run Tryz.prog w=.ok (.enter 122 args) w:=by intro args w;kernel_rfl
set_option maxRecDepth 100000 in
theorem aF7 {w:World} {X Ya Yb V P:Nat→Prop} {gs gd ga gb:Nat} {d:DK} {p:Nat} {La Lb:LK} {lv:Bool} {k:Kp} {met:Bool} {D:Deed} {v vr:Value} (h:SvM w X Ya Yb V gs gd ga gb d p La Lb lv k met)
  (hg:(met||d.dead)=false→KL d (fOf lv p) p La∧KL d (fOf (!lv) p) p Lb∧La.top+2<65536∧Lb.top+4<65536) (hf:Fine k)
  (hv:DeedV P w v (.deed D)) (hsm:SmallR (.deed D)) (hr:RecV P w vr D.text) (hP:∀b,P b→¬X b∧¬Ya b∧¬Yb b∧b≠gs∧b<w.heap.size):
  Calls Tryz.prog 73 #[.pointer (some ⟨gs,0,none⟩),v,vr] w (CallP X Ya Yb V gs gd d p La Lb lv k met D w):=by
 obtain ⟨F,c1,rfl,-⟩:=aOt (.deed D) _ _ _ hv;obtain ⟨G,c2,rfl,-⟩:=id hr;have hlt:=h.lt;obtain ⟨W3,hW⟩:∃W,W=((w.alloc (.cells #[.pointer (some ⟨gs,0,none⟩)] 25)).alloc (.cells #[.func (.func F) #[] c1] 138)).alloc (.cells #[.func (.func G) #[] c2] 141):=⟨_,rfl⟩;have hsz:W3.heap.size=w.heap.size+3:=by rw [hW];simp
 have hb3:Below w.heap.size w W3:=by rw [hW];exact (((Below.refl _ _).alloc (Nat.le_refl _) _).alloc (by simp) _).alloc (by simp;omega) _
 have k1:Bk W3 w.heap.size 25 #[.pointer (some ⟨gs,0,none⟩)]:=by rw [hW];exact ((Bk.new w _ _).alloc _).alloc _
 have k2:Bk W3 (w.heap.size+1) 138 #[.func (.func F) #[] c1]:=by
  rw [hW];have:=Bk.new (w.alloc (.cells #[.pointer (some ⟨gs,0,none⟩)] 25)) 138 #[.func (.func F) #[] c1];rw [World.size_alloc] at this;exact this.alloc _
 have k3:Bk W3 (w.heap.size+2) 141 #[.func (.func G) #[] c2]:=by
  rw [hW];have:=Bk.new ((w.alloc (.cells #[.pointer (some ⟨gs,0,none⟩)] 25)).alloc (.cells #[.func (.func F) #[] c1] 138)) 141 #[.func (.func G) #[] c2];rw [World.size_alloc,World.size_alloc] at this;exact this
 have hb4:Below W3.heap.size W3 (W3.alloc (.cells #[.int .i64 0] 27)):=(Below.refl _ _).alloc (Nat.le_refl _) _;have hbw4:=hb3.trans (hb4.mono hb3.size);have hs4:(W3.alloc (.cells #[.int .i64 0] 27)).heap.size=w.heap.size+4:=by rw [World.size_alloc,hsz]
 have hkd:=aS4 (P:=P) (h.below hbw4) hg hf (k1.below hb4) (k2.below hb4) (k3.below hb4) (hv.below hbw4) hsm (hr.below hbw4) (fun b hb=>by
  rcases hb with q|rfl|rfl|rfl
  ·have:=hP b q;exact ⟨this.1,this.2.1,this.2.2.1,this.2.2.2.1,Nat.lt_of_lt_of_le this.2.2.2.2 hbw4.size⟩
  all_goals
   refine ⟨fun r=>?_,fun r=>?_,fun r=>?_,fun r=>?_,by omega⟩
   ·have:=hlt _ (.inl r);omega
   ·have:=hlt _ (.inr (.inl r));omega
   ·have:=hlt _ (.inr (.inr (.inl r)));omega
   ·have:=hlt gs (by simp);omega)
 have hdo:Calls Tryz.prog 122 (#[]++#[.pointer (some ⟨w.heap.size,0,none⟩),.pointer (some ⟨w.heap.size+1,0,none⟩),.pointer (some ⟨w.heap.size+2,0,none⟩)]) (W3.alloc (.cells #[.int .i64 0] 27)) (DoPost (fun x w'=>DoneP X Ya Yb V gs gd (w.heap.size+4) d p La Lb lv k met D x (W3.alloc (.cells #[.int .i64 0] 27)) w') W3):=
  hkd.mono fun e w' hk=>by
   obtain ⟨x,hx,he⟩:=hk.done;rw [hs4] at hx;obtain ⟨d',La',Lb',lv',k',met',q1,q2⟩:=id hx;obtain ⟨ga',gb',X',Ya',Yb',V',q3,q4,q5⟩:=q2;refine ⟨aAd (Bk.new W3 _ _) q4 (fun r=>?_),?_⟩
   ·have:=hlt W3.heap.size (by rcases r with r|r|r|r<;>simp [r])
    omega
   ·rcases he with ⟨rfl,rfl⟩|⟨_,rfl⟩
    ·exact .inl ⟨rfl,hx⟩
    ·exact .inr ⟨x,rfl,hx⟩
 have CC:=Lib.hid (aL1 122 _ _ _ W3 aSd hdo);have HFIN:Hid (∀x w1 w',DoneP X Ya Yb V gs gd (w.heap.size+4) d p La Lb lv k met D x (W3.alloc (.cells #[.int .i64 0] 27)) w1→Out (·=W3.heap.size) w1 w'→CallP X Ya Yb V gs gd d p La Lb lv k met D w (.returned (.int .i64 x)) w'):=fun x w1 w' h1 h2=>
  ⟨x,rfl,h1.wider hbw4 h (by omega) h2⟩
 have HWE:=Lib.hid hW;have hmf:∀(fn:Fn) (first cap:Array Value) (w:World),(Instr.makeFunc fn first cap).run Tryz.prog w=.ok (.func fn first cap) w:=fun _ _ _ _=>rfl;clear h hg hf hv hsm hr hP hlt hW hsz hb3 k1 k2 k3 hb4 hbw4 hs4 hkd hdo;go_enter Tryz.func73,Tryz.ntmps73
 go_wp2_with fail;rw [←HWE.out];refine CC.out.mono ?_;rintro e w2 ⟨x,w1,rfl,h1,h2⟩;have HF:=Lib.hid (HFIN.out x w1 w2 h1 h2);clear h1 h2 CC HFIN;go_wp2_with fail;go_ret;exact HF.out
end Go.Proofs.YtgjmbbkcgillcaaGreat.Sto
namespace Go.Proofs.YtgjmbbkcgillcaaGreat.Sto
open Go.RowKit Disk Log
def Apart (P X Ya Yb:Nat→Prop) (gs:Nat) (w:World):Prop:=∀b,P b→¬X b∧¬Ya b∧¬Yb b∧b≠gs∧b<w.heap.size
theorem CallP.from_ {w w1 w':World} {X Ya Yb V:Nat→Prop} {gs gd:Nat} {d:DK} {p:Nat} {La Lb:LK} {lv:Bool} {k:Kp} {met:Bool} {D:Deed} {e:Ending} (h:CallP X Ya Yb V gs gd d p La Lb lv k met D w1 e w') (hb:Below w.heap.size w w1):CallP X Ya Yb V gs gd d p La Lb lv k met D w e w':=by
 obtain ⟨x,rfl,d',La',Lb',lv',k',met',h1,ga',gb',X',Ya',Yb',V',h2,h3,h4⟩:=h;exact ⟨x,rfl,d',La',Lb',lv',k',met',h1,ga',gb',X',Ya',Yb',V',h2,(Out.of_below (X:=fun b=>X b∨Ya b∨Yb b∨b=gs) hb).trans h3 fun _ q=>.inl q,fun b hb'=>(h4 b hb').imp id fun q=>Nat.le_trans hb.size q⟩
theorem aMa:∀args w,(callFunc 75 args).run Tryz.prog w=.ok (.enter 75 args) w:=by intro args w;kernel_rfl
theorem aP1:∀args w,(callFunc 168 args).run Tryz.prog w=.ok (.enter 168 args) w:=by intro args w;kernel_rfl
theorem aMw:∀args w,(callFunc 107 args).run Tryz.prog w=.ok (.enter 107 args) w:=by intro args w;kernel_rfl
def MakeP2 (P:Nat→Prop) (r:Rec) (w:World) (e:Ending) (w':World):Prop:=
 ∃v,e=.returned v∧DeedV (fun b=>P b∨(w.heap.size≤b∧b<w'.heap.size)) w' v r∧Below w.heap.size w w'
set_option maxRecDepth 8000 in
theorem aPa (P:Nat→Prop) (e:Nat) (l:List Ln) (A:Option Addr) (c:Nat) (w:World) (h:LnS P w A l.length l):Calls Tryz.prog 167 #[.int .u64 (e:Int),.slice A l.length c] w (MakeP2 P (.deed (.adopt e l)) w):=by
 have hb:Below w.heap.size w ((w.alloc (.cells #[.int .u64 (e:Int)] 33)).alloc (.cells #[.slice A l.length c] 34)):=((Below.refl _ _).alloc (Nat.le_refl _) _).alloc (by simp) _;have h2:Bk ((w.alloc (.cells #[.int .u64 (e:Int)] 33)).alloc (.cells #[.slice A l.length c] 34)) (w.heap.size+1) 34 #[.slice A l.length c]:=by
  have:=Bk.new (w.alloc (.cells #[.int .u64 (e:Int)] 33)) 34 #[.slice A l.length c];rwa [World.size_alloc] at this
 have HF:Hid (MakeP2 P (.deed (.adopt e l)) w (.returned (.func (.func 193) #[] #[.pointer (some ⟨w.heap.size,0,none⟩),.pointer (some ⟨w.heap.size+1,0,none⟩)])) ((w.alloc (.cells #[.int .u64 (e:Int)] 33)).alloc (.cells #[.slice A l.length c] 34))):=
  ⟨_,rfl,⟨w.heap.size,w.heap.size+1,A,c,rfl,(Bk.new w _ _).alloc _,h2,(h.below hb).mono fun _ q=>.inl q,.inr ⟨Nat.le_refl _,by simp;omega⟩,.inr ⟨Nat.le_succ _,by simp⟩⟩,hb⟩
 have hmf:∀(fn:Fn) (first cap:Array Value) (w:World),(Instr.makeFunc fn first cap).run Tryz.prog w=.ok (.func fn first cap) w:=fun _ _ _ _=>rfl;clear hb h2;go_enter Tryz.func167,Tryz.ntmps167
 go_wp2_with fail;go_ret;exact HF.out
set_option maxRecDepth 8000 in
theorem aV0 (P:Nat→Prop) (l:List Ln) (A:Option Addr) (c:Nat) (w:World) (h:LnS P w A l.length l):Calls Tryz.prog 106 #[.slice A l.length c] w (MakeP2 P (.deed (.add l)) w):=by
 have hb:Below w.heap.size w (w.alloc (.cells #[.slice A l.length c] 34)):=(Below.refl _ _).alloc (Nat.le_refl _) _;have HF:Hid (MakeP2 P (.deed (.add l)) w (.returned (.func (.func 143) #[] #[.pointer (some ⟨w.heap.size,0,none⟩)])) (w.alloc (.cells #[.slice A l.length c] 34))):=
  ⟨_,rfl,⟨w.heap.size,A,c,rfl,Bk.new w _ _,(h.below hb).mono fun _ q=>.inl q,.inr ⟨Nat.le_refl _,by simp⟩⟩,hb⟩
 have hmf:∀(fn:Fn) (first cap:Array Value) (w:World),(Instr.makeFunc fn first cap).run Tryz.prog w=.ok (.func fn first cap) w:=fun _ _ _ _=>rfl;clear hb;go_enter Tryz.func106,Tryz.ntmps106
 go_wp2_with fail;go_ret;exact HF.out
set_option maxRecDepth 8000 in
theorem aPs {w:World} {X Ya Yb V:Nat→Prop} {gs gd ga gb:Nat} {d:DK} {p:Nat} {La Lb:LK} {lv:Bool} {k:Kp} {met:Bool} (e:Nat) (h:SvM w X Ya Yb V gs gd ga gb d p La Lb lv k met)
  (hg:(met||d.dead)=false→KL d (fOf lv p) p La∧KL d (fOf (!lv) p) p Lb∧La.top+2<65536∧Lb.top+4<65536) (hf:Fine k) (he:e<18446744073709551616):
  Calls Tryz.prog 38 #[.pointer (some ⟨gs,0,none⟩),.int .u64 (e:Int)] w (CallP X Ya Yb V gs gd d p La Lb lv k met (.prom e) w):=by
 have hlt:=h.lt;obtain ⟨W,hW⟩:∃W,W=(w.alloc (.cells #[.int .u64 (e:Int)] 33)):=⟨_,rfl⟩;have hb1:Below w.heap.size w W:=by rw [hW];exact (Below.refl _ _).alloc (Nat.le_refl _) _
 have hsz:W.heap.size=w.heap.size+1:=by rw [hW];simp
 have k1:Bk W w.heap.size 33 #[.int .u64 (e:Int)]:=by rw [hW];exact Bk.new w _ _
 have CM:=Lib.hid (aFy (fun _=>False) e W);have HK:Hid (∀w2 v,Below W.heap.size W w2→DeedV (fun b=>False∨W.heap.size≤b) w2 v (.deed (.prom e))→Calls Tryz.prog 73 #[.pointer (some ⟨gs,0,none⟩),v,.func (.func 75) #[] #[.pointer (some ⟨w.heap.size,0,none⟩)]] w2 (CallP X Ya Yb V gs gd d p La Lb lv k met (.prom e) w)):=fun w2 v hb hv=>by
  have hbw:=hb1.trans (hb.mono hb1.size);have hsz2:=hb.size;have hv2:DeedV (fun b=>(w.heap.size≤b∧b<w2.heap.size)) w2 v (.deed (.prom e)):=by
   obtain ⟨b,q1,q2,q3⟩:=hv;exact ⟨b,q1,q2,by rcases q3 with q|q;exact q.elim;omega,q2.lt⟩
  refine (aF7 (P:=fun b=>(w.heap.size≤b∧b<w2.heap.size)) (h.below hbw) hg hf hv2 trivial ⟨75,#[.pointer (some ⟨w.heap.size,0,none⟩)],rfl,aMa,fun W5 Z ho hz=>?_⟩ (fun b hb=>?_)).mono fun _ _ hc=>hc.from_ hbw
  ·exact aY0 e w.heap.size W5 (aAd (k1.below hb) ho (hz _ ⟨Nat.le_refl _,by omega⟩)) he
  ·skip
   have hb1:=hb.1;refine ⟨fun r=>?_,fun r=>?_,fun r=>?_,fun r=>?_,hb.2⟩
   ·have:=hlt b (.inl r);omega
   ·have:=hlt b (.inr (.inl r));omega
   ·have:=hlt b (.inr (.inr (.inl r)));omega
   ·have:=hlt gs (by simp);omega
 have kc0:W.cell? ⟨w.heap.size,0,none⟩=some (.int .u64 (e:Int)):=k1.cell 0;have hmf:∀(fn:Fn) (first cap:Array Value) (w:World),(Instr.makeFunc fn first cap).run Tryz.prog w=.ok (.func fn first cap) w:=fun _ _ _ _=>rfl;rw [hW] at kc0;have HWE:=Lib.hid hW;clear h hg hf hlt hb1 k1 hsz hW he;go_enter Tryz.func38,Tryz.ntmps38
 go_wp2_with fail;rw [←HWE.out];refine CM.out.mono ?_;rintro _ w2 ⟨v,rfl,hv,hb⟩;have CK:=Lib.hid (HK.out w2 v hb hv);clear hv hb HK CM;go_wp2_with fail;refine CK.out.mono ?_;rintro _ w3 ⟨x,rfl,hx⟩;have HX:=Lib.hid hx;clear hx CK;go_wp2_with fail;go_ret;exact ⟨x,rfl,HX.out⟩
set_option maxRecDepth 8000 in
theorem aW1 {w:World} {X Ya Yb V P:Nat→Prop} {gs gd ga gb:Nat} {d:DK} {p:Nat} {La Lb:LK} {lv:Bool} {k:Kp} {met:Bool} (e:Nat) (l:List Ln) (h:SvM w X Ya Yb V gs gd ga gb d p La Lb lv k met)
  (hg:(met||d.dead)=false→KL d (fOf lv p) p La∧KL d (fOf (!lv) p) p Lb∧La.top+2<65536∧Lb.top+4<65536) (hf:Fine k) (he:e<18446744073709551616) (A:Option Addr) (c:Nat) (hl:LnS P w A l.length l) (hs:Laid l) (hP:Apart P X Ya Yb gs w):
  Calls Tryz.prog 141 #[.pointer (some ⟨gs,0,none⟩),.int .u64 (e:Int),.slice A l.length c] w (CallP X Ya Yb V gs gd d p La Lb lv k met (.adopt e l) w):=by
 have hlt:=h.lt;obtain ⟨W,hW⟩:∃W,W=((w.alloc (.cells #[.int .u64 (e:Int)] 33)).alloc (.cells #[.slice A l.length c] 34)):=⟨_,rfl⟩;have hb1:Below w.heap.size w W:=by rw [hW];exact ((Below.refl _ _).alloc (Nat.le_refl _) _).alloc (by simp) _
 have hsz:W.heap.size=w.heap.size+2:=by rw [hW];simp
 have k1:Bk W w.heap.size 33 #[.int .u64 (e:Int)]:=by rw [hW];exact (Bk.new w _ _).alloc _
 have k2:Bk W (w.heap.size+1) 34 #[.slice A l.length c]:=by
  rw [hW];have:=Bk.new (w.alloc (.cells #[.int .u64 (e:Int)] 33)) 34 #[.slice A l.length c];rwa [World.size_alloc] at this
 have CM:=Lib.hid (aPa P e l A c W (hl.below hb1));have HK:Hid (∀w2 v,Below W.heap.size W w2→DeedV (fun b=>P b∨(W.heap.size≤b∧b<w2.heap.size)) w2 v (.deed (.adopt e l))→Calls Tryz.prog 73 #[.pointer (some ⟨gs,0,none⟩),v,.func (.func 168) #[] #[.pointer (some ⟨w.heap.size,0,none⟩),.pointer (some ⟨w.heap.size+1,0,none⟩)]] w2 (CallP X Ya Yb V gs gd d p La Lb lv k met (.adopt e l) w)):=fun w2 v hb hv=>by
  have hbw:=hb1.trans (hb.mono hb1.size);have hsz2:=hb.size;have hv2:DeedV (fun b=>P b∨(w.heap.size≤b∧b<w2.heap.size)) w2 v (.deed (.adopt e l)):=by
   obtain ⟨b,b2,A',c',q1,q2,q3,q4,q5,q6⟩:=hv;exact ⟨b,b2,A',c',q1,q2,q3,q4.mono fun b hb=>hb.imp id fun q=>⟨by omega,q.2⟩,q5.imp id fun q=>⟨by omega,q.2⟩,q6.imp id fun q=>⟨by omega,q.2⟩⟩
  refine (aF7 (P:=fun b=>P b∨(w.heap.size≤b∧b<w2.heap.size)) (h.below hbw) hg hf hv2 ⟨hs.1,fun x hx=>(hs.2 x hx).1⟩ ⟨168,#[.pointer (some ⟨w.heap.size,0,none⟩),.pointer (some ⟨w.heap.size+1,0,none⟩)],rfl,aP1,fun W5 Z ho hz=>?_⟩ (fun b hb=>?_)).mono fun _ _ hc=>hc.from_ hbw
  ·exact aU5 P e w.heap.size (w.heap.size+1) l A c W5 (aAd (k1.below hb) ho (hz _ (.inr ⟨Nat.le_refl _,by omega⟩))) (aAd (k2.below hb) ho (hz _ (.inr ⟨Nat.le_succ _,by omega⟩))) ((hl.below hbw).out ho fun b hb=>hz b (.inl hb)) he hs
  ·rcases hb with q|hb
   ·have:=hP b q;exact ⟨this.1,this.2.1,this.2.2.1,this.2.2.2.1,Nat.lt_of_lt_of_le this.2.2.2.2 hbw.size⟩
   have hb1:=hb.1;refine ⟨fun r=>?_,fun r=>?_,fun r=>?_,fun r=>?_,hb.2⟩
   ·have:=hlt b (.inl r);omega
   ·have:=hlt b (.inr (.inl r));omega
   ·have:=hlt b (.inr (.inr (.inl r)));omega
   ·have:=hlt gs (by simp);omega
 have kc0:W.cell? ⟨w.heap.size,0,none⟩=some (.int .u64 (e:Int)):=k1.cell 0;have kc1:W.cell? ⟨w.heap.size+1,0,none⟩=some (.slice A l.length c):=k2.cell 0;have hmf:∀(fn:Fn) (first cap:Array Value) (w:World),(Instr.makeFunc fn first cap).run Tryz.prog w=.ok (.func fn first cap) w:=fun _ _ _ _=>rfl;rw [hW] at kc0 kc1;have HWE:=Lib.hid hW;clear h hg hf hlt hb1 k1 k2 hsz hW he hl hs hP;go_enter Tryz.func141,Tryz.ntmps141
 go_wp2_with fail;rw [←HWE.out];refine CM.out.mono ?_;rintro _ w2 ⟨v,rfl,hv,hb⟩;have CK:=Lib.hid (HK.out w2 v hb hv);clear hv hb HK CM;go_wp2_with fail;refine CK.out.mono ?_;rintro _ w3 ⟨x,rfl,hx⟩;have HX:=Lib.hid hx;clear hx CK;go_wp2_with fail;go_ret;exact ⟨x,rfl,HX.out⟩
set_option maxRecDepth 8000 in
theorem aS9 {w:World} {X Ya Yb V P:Nat→Prop} {gs gd ga gb:Nat} {d:DK} {p:Nat} {La Lb:LK} {lv:Bool} {k:Kp} {met:Bool} (l:List Ln) (h:SvM w X Ya Yb V gs gd ga gb d p La Lb lv k met)
  (hg:(met||d.dead)=false→KL d (fOf lv p) p La∧KL d (fOf (!lv) p) p Lb∧La.top+2<65536∧Lb.top+4<65536) (hf:Fine k) (A:Option Addr) (c:Nat) (hl:LnS P w A l.length l) (hs:Laid l) (hP:Apart P X Ya Yb gs w):
  Calls Tryz.prog 58 #[.pointer (some ⟨gs,0,none⟩),.slice A l.length c] w (CallP X Ya Yb V gs gd d p La Lb lv k met (.add l) w):=by
 have hlt:=h.lt;obtain ⟨W,hW⟩:∃W,W=(w.alloc (.cells #[.slice A l.length c] 34)):=⟨_,rfl⟩;have hb1:Below w.heap.size w W:=by rw [hW];exact (Below.refl _ _).alloc (Nat.le_refl _) _
 have hsz:W.heap.size=w.heap.size+1:=by rw [hW];simp
 have k1:Bk W w.heap.size 34 #[.slice A l.length c]:=by rw [hW];exact Bk.new w _ _
 have CM:=Lib.hid (aV0 P l A c W (hl.below hb1));have HK:Hid (∀w2 v,Below W.heap.size W w2→DeedV (fun b=>P b∨(W.heap.size≤b∧b<w2.heap.size)) w2 v (.deed (.add l))→Calls Tryz.prog 73 #[.pointer (some ⟨gs,0,none⟩),v,.func (.func 107) #[] #[.pointer (some ⟨w.heap.size,0,none⟩)]] w2 (CallP X Ya Yb V gs gd d p La Lb lv k met (.add l) w)):=fun w2 v hb hv=>by
  have hbw:=hb1.trans (hb.mono hb1.size);have hsz2:=hb.size;have hv2:DeedV (fun b=>P b∨(w.heap.size≤b∧b<w2.heap.size)) w2 v (.deed (.add l)):=by
   obtain ⟨b2,A',c',q1,q3,q4,q6⟩:=hv;exact ⟨b2,A',c',q1,q3,q4.mono fun b hb=>hb.imp id fun q=>⟨by omega,q.2⟩,q6.imp id fun q=>⟨by omega,q.2⟩⟩
  refine (aF7 (P:=fun b=>P b∨(w.heap.size≤b∧b<w2.heap.size)) (h.below hbw) hg hf hv2 ⟨hs.1,fun x hx=>(hs.2 x hx).1⟩ ⟨107,#[.pointer (some ⟨w.heap.size,0,none⟩)],rfl,aMw,fun W5 Z ho hz=>?_⟩ (fun b hb=>?_)).mono fun _ _ hc=>hc.from_ hbw
  ·exact bBe P w.heap.size l A c W5 (aAd (k1.below hb) ho (hz _ (.inr ⟨Nat.le_refl _,by omega⟩))) ((hl.below hbw).out ho fun b hb=>hz b (.inl hb)) hs
  ·rcases hb with q|hb
   ·have:=hP b q;exact ⟨this.1,this.2.1,this.2.2.1,this.2.2.2.1,Nat.lt_of_lt_of_le this.2.2.2.2 hbw.size⟩
   have hb1:=hb.1;refine ⟨fun r=>?_,fun r=>?_,fun r=>?_,fun r=>?_,hb.2⟩
   ·have:=hlt b (.inl r);omega
   ·have:=hlt b (.inr (.inl r));omega
   ·have:=hlt b (.inr (.inr (.inl r)));omega
   ·have:=hlt gs (by simp);omega
 have kc0:W.cell? ⟨w.heap.size,0,none⟩=some (.slice A l.length c):=k1.cell 0;have hmf:∀(fn:Fn) (first cap:Array Value) (w:World),(Instr.makeFunc fn first cap).run Tryz.prog w=.ok (.func fn first cap) w:=fun _ _ _ _=>rfl;rw [hW] at kc0;have HWE:=Lib.hid hW;clear h hg hf hlt hb1 k1 hsz hW hl hs hP;go_enter Tryz.func58,Tryz.ntmps58
 go_wp2_with fail;rw [←HWE.out];refine CM.out.mono ?_;rintro _ w2 ⟨v,rfl,hv,hb⟩;have CK:=Lib.hid (HK.out w2 v hb hv);clear hv hb HK CM;go_wp2_with fail;refine CK.out.mono ?_;rintro _ w3 ⟨x,rfl,hx⟩;have HX:=Lib.hid hx;clear hx CK;go_wp2_with fail;go_ret;exact ⟨x,rfl,HX.out⟩
end Go.Proofs.YtgjmbbkcgillcaaGreat.Sto
