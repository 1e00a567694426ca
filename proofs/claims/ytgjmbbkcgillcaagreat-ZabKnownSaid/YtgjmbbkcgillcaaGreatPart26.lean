/- Lemmas, part 26: StoBegin, StoWrite, StoWrote, PhaseLast, PhasePan -/
import Derived.Test.YtgjmbbkcgillcaaGreatPart25
import Derived.Test.YtgjmbbkcgillcaaGreatPart3
set_option maxHeartbeats 16000000
namespace Go.Proofs.YtgjmbbkcgillcaaGreat.Sto
open Go.RowKit Disk Log
theorem SvM.flip {w w':World} {X Ya Yb V:Nat→Prop} {gs gd ga gb:Nat} {d:DK} {p:Nat} {La Lb:LK} {lv:Bool} {k:Kp} {met:Bool} (h:SvM w X Ya Yb V gs gd ga gb d p La Lb lv k met) (hw:w'=w.setCell ⟨gs,3,none⟩ (.int .i64 (bif lv then 0 else 1))):SvM w' X Yb Ya V gs gd gb ga d p Lb La (!lv) k met∧Out (·=gs) w w':=by
 subst hw;obtain ⟨A,c,hb,hl,hc,hn⟩:=h.bk;have ho:Out (·=gs) w (w.setCell ⟨gs,3,none⟩ (.int .i64 (bif lv then 0 else 1))):=Out.setCell (X:=(·=gs)) w (p:=⟨gs,3,none⟩) rfl _;refine ⟨⟨⟨A,c,?_,hl.out ho fun b hb e=>(h.vs b hb).1 e,hc,hn⟩,h.disk.out ho fun b hb e=>(h.xs b hb).2.2.1 e,?_,?_,h.half,fun b hb=>⟨(h.xs b hb).2.1,(h.xs b hb).1,(h.xs b hb).2.2⟩,fun b hb=>⟨fun q=>(h.ys b q).1 hb,h.zs b hb⟩,fun b hb=>(h.ys b hb).2,fun b hb=>⟨(h.vs b hb).1,Nat.lt_of_lt_of_le (h.vs b hb).2 ho.size⟩⟩,ho⟩
 ·have:=hb.set 3 (.int .i64 (bif lv then 0 else 1));cases lv<;>simpa [svC] using this
 ·have:=h.lb.out ho fun b hb e=>(h.zs b hb).1 e;cases lv<;>exact this
 ·have:=h.la.out ho fun b hb e=>(h.ys b hb).2.1 e;cases lv<;>exact this
def ErrE (z:Int):Ending:=.panicked [{v:=.iface 27 (.int .i64 z),recovered:=false}]
theorem aKm {w:World} {X Ya Yb V:Nat→Prop} {gs gd ga gb:Nat} {d:DK} {p:Nat} {La Lb:LK} {lv:Bool} {k:Kp} (z:Int) (h:SvM w X Ya Yb V gs gd ga gb d p La Lb lv k false):
  Calls Tryz.prog 123 #[.pointer (some ⟨gs,0,none⟩),.int .i64 z] w fun e w'=>(z=0∧aGn X Ya Yb V gs gd ga gb d p La Lb lv k false (.returned (.tuple #[])) w e w')∨(z≠0∧aGn X Ya Yb V gs gd ga gb d p La Lb lv k (z==9) (.panicked [{v:=.iface 27 (.int .i64 z),recovered:=false}]) w e w'):=by
 by_cases hz:z=0
 ·subst hz;exact (aEa h).mono fun e w' q=>.inl ⟨rfl,q⟩
 ·exact (aCu z hz h).mono fun e w' q=>.inr ⟨hz,q⟩
def aCf (X Ya Yb V:Nat→Prop) (gs gd ga gb:Nat) (d:DK) (p:Nat) (La Lb:LK) (lv:Bool) (k k2:Kp) (w:World) (e:Ending) (w':World):Prop:=
 ∃z1 d1 Lb1,ResK d (fOf (!lv) p) p Lb z1 d1 Lb1∧∃X' Yb',Out (fun b=>X b∨Yb b∨b=gs) w w'∧(∀b,X' b∨Yb' b→(X b∨Yb b)∨w.heap.size≤b)∧
  ((z1≠0∧e=ErrE z1∧SvM w' X' Ya Yb' V gs gd ga gb d1 p La Lb1 lv k (z1==9))∨
  (z1=0∧∃z2 d2 Lb2,ComK d1 (fOf (!lv) p) p Lb1 (wholeT k2) z2 d2 Lb2∧
   ((z2≠0∧e=ErrE z2∧SvM w' X' Ya Yb' V gs gd ga gb d2 p La Lb2 lv k (z2==9))∨(z2=0∧e=.returned (.tuple #[])∧SvM w' X' Yb' Ya V gs gd gb ga d2 p Lb2 La (!lv) k false))))
set_option maxRecDepth 100000 in
theorem aNq {w:World} {X Ya Yb V P:Nat→Prop} {gs gd ga gb:Nat} {d:DK} {p:Nat} {La Lb:LK} {lv:Bool} {k k2:Kp} {A2:Option Addr} {c2:Nat} (h:SvM w X Ya Yb V gs gd ga gb d p La Lb lv k false) (hK:KL d (fOf (!lv) p) p Lb) (hN:Lb.top+4<65536) (hl:LnS P w A2 k2.lines.length k2.lines) (hP:∀b,P b→¬X b∧¬Yb b∧b≠gs) (hf:Fine k2):
  Calls Tryz.prog 162 #[.pointer (some ⟨gs,0,none⟩),kpV k2 A2 c2] w (aCf X Ya Yb V gs gd ga gb d p La Lb lv k k2 w):=by
 have hb1:Below w.heap.size w (w.alloc (.cells #[.int .u64 (k2.promised:Int),.int .u64 (k2.current:Int),.slice A2 k2.lines.length c2] 69)):=(Below.refl _ _).alloc (Nat.le_refl _) _;obtain ⟨W,hW⟩:∃W,W=w.alloc (.cells #[.int .u64 (k2.promised:Int),.int .u64 (k2.current:Int),.slice A2 k2.lines.length c2] 69):=⟨_,rfl⟩;have hbk:Bk W w.heap.size 69 #[.int .u64 (k2.promised:Int),.int .u64 (k2.current:Int),.slice A2 k2.lines.length c2]:=by rw [hW];exact Bk.new w _ _
 rw [←hW] at hb1;have HWE:=Lib.hid hW;have HB1:=Lib.hid hb1;have HBK:=Lib.hid hbk;have HS:=Lib.hid (h.below hb1);have HL:=Lib.hid (hl.below hb1);have HLT:=Lib.hid h.lt;have HP:=Lib.hid hP;have HF:=Lib.hid hf;have CR:=Lib.hid ((h.below hb1).resetb hK (by omega));obtain ⟨A,c,hbg,-⟩:=(h.below hb1).bk;have k1:=hbg.cell 1;have k2':=hbg.cell 2;have k3:=hbg.cell 3;clear hbg h hl hb1 hbk hW;unfold kpV;cases lv with
 |false=>
  simp only [svC,cond_false] at k1 k2' k3;have q1:=k1;have q2:=k2';have q3:=k3;simp at q1 q2 q3;rw [HWE.out] at q1 q2 q3;clear k1 k2' k3;go_enter Tryz.func162,Tryz.ntmps162
  go_wp2_with fail;rw [←HWE.out];refine CR.out.mono ?_;rintro e w1 ⟨z1,d1,Lb1,hr1,rfl,X1,Yb1,hs1,ho1,hz1⟩;have HR1:=Lib.hid hr1;have HS1:=Lib.hid hs1;have HO1:=Lib.hid ho1;have HZ1:=Lib.hid hz1;have hlw:∀b,(X b∨Yb b)→b<w.heap.size:=fun b hb=>HLT.out b (by rcases hb with q|q<;>simp [q])
  have HLW:=Lib.hid hlw;have HBK1:Hid (Bk w1 w.heap.size 69 #[.int .u64 (k2.promised:Int),.int .u64 (k2.current:Int),.slice A2 k2.lines.length c2]):=aAd HBK.out ho1 (fun q=>by have:=hlw _ q;omega);have HL1:=Lib.hid (HL.out.out ho1 fun b hb q=>q.elim (HP.out b hb).1 (HP.out b hb).2.1);clear hr1 hs1 ho1 hz1 hlw q1 q2 q3 CR;by_cases h1:z1=0
  ·subst h1;have CD:=Lib.hid (aEa HS1.out);go_wp2_with fail;refine CD.out.mono ?_;rintro e w2 ⟨rfl,hs2,ho2⟩;have HS2:=Lib.hid hs2;have HO2:=Lib.hid ho2;have hgb:w.heap.size≠gs:=fun e=>by have:=HLT.out gs (by simp);omega
   have HBK2:=Lib.hid (aAd HBK1.out ho2 hgb);have HL2:=Lib.hid (HL1.out.out ho2 fun b hb q=>(HP.out b hb).2.2 q);have HOW:Hid (Out (fun b=>X b∨Yb b∨b=gs) w w2):=((Out.of_below HB1.out).trans (HO1.out.mono (Y:=fun b=>X b∨Yb b∨b=gs) fun b hb=>.inl (hb.elim .inl fun q=>.inr (.inl q))) fun _ h=>.inl h).trans ho2 fun b hb=>.inl (.inr (.inr hb));obtain ⟨hK1,-,-,ht1,-⟩:=HR1.out.good rfl;have HK1:=Lib.hid hK1;have HT1:Hid (Lb1.top+3<65536):=by show _<_;omega
   obtain ⟨A3,c3,hbg3,-⟩:=hs2.bk;have k1:=hbg3.cell 1;have k2':=hbg3.cell 2;simp only [svC,cond_false] at k1 k2';have q1:=k1;have q2:=k2';simp at q1 q2;have x0:w2.cell? ⟨w.heap.size,0,none⟩=some (.int .u64 (k2.promised:Int)):=HBK2.out.cell 0;have x1:w2.cell? ⟨w.heap.size,1,none⟩=some (.int .u64 (k2.current:Int)):=HBK2.out.cell 1;have x2:w2.cell? ⟨w.heap.size,2,none⟩=some (.slice A2 k2.lines.length c2):=HBK2.out.cell 2;have HDR:Hid (Below w2.heap.size w2 w2.drew):=(Below.refl _ _).drew;have CL:=Lib.hid (aH1 P k2 A2 c2 w2.drew (HL2.out.below HDR.out) HF.out);unfold kpV at CL;have HWL:Hid ((wholeT k2).length≤2000000):=by
    have h1:=aEh k2;have h2:=HF.out.sum;unfold need at h1;show _≤_;omega
   clear hs2 ho2 k1 k2' hK1 ht1 CD;go_wp2_with fail;have CCC:Hid (∀w3 A4 n4 c4,Below w2.heap.size w2 w3→n4=(wholeT k2).length→n4≤c4→w3.ownsRow w2.drew.heap.size 5 1 (.slice A4 n4 c4) n4 ((wholeT k2).map U)→Calls Tryz.prog 161 #[.pointer (some ⟨gb,0,none⟩),.slice A4 n4 c4] w3 fun e w'=>∃z d' Lb',ComK d1 (fOf (!false) p) p Lb1 (wholeT k2) z d' Lb'∧e=.returned (.int .i64 z)∧∃X' Yb',SvM w' X' Ya Yb' V gs gd ga gb d' p La Lb' false k false∧Out (fun b=>X1 b∨Yb1 b) w3 w'∧∀b,X' b∨Yb' b→(X1 b∨Yb1 b)∨w3.heap.size≤b):=fun w3 A4 n4 c4 hb y1 y2 y3=>(HS2.out.below hb).commitb HK1.out (by have:=HT1.out;omega) A4 n4 c4 _ (Rd.of_put y3) (fun a ha q=>by
    subst ha;have h1:=(y3.lt a.block rfl).1;have h2:w2.drew.heap.size=w2.heap.size:=rfl;have:=HS2.out.lt a.block (by rcases q with q|q<;>simp [q])
    omega) y2 (by have:=HWL.out;omega)
   have HOW4:Hid (∀w3 w4,Below w2.heap.size w2 w3→Out (fun b=>X1 b∨Yb1 b) w3 w4→Out (fun b=>X b∨Yb b∨b=gs) w w4):=fun w3 w4 hb ho4=>(HOW.out.trans (Out.of_below (X:=fun _=>False) hb) fun _ q=>q.elim).trans ho4 fun b hb=>by
    rcases HZ1.out b hb with q|q
    ·exact .inl (q.elim .inl fun r=>.inr (.inl r))
    ·exact .inr (Nat.le_trans HB1.out.size q)
   have HZ4:Hid (∀(w3:World) (X2 Yb2:Nat→Prop),Below w2.heap.size w2 w3→(∀b,X2 b∨Yb2 b→(X1 b∨Yb1 b)∨w3.heap.size≤b)→∀b,X2 b∨Yb2 b→(X b∨Yb b)∨w.heap.size≤b):=fun w3 X2 Yb2 hb3 hz4 b hb=>by
    rcases hz4 b hb with q|q
    ·exact (HZ1.out b q).imp id fun r=>Nat.le_trans HB1.out.size r
    ·exact .inr (Nat.le_trans (Nat.le_trans HOW.out.size hb3.size) q)
   have d0:w2.drew.cell? ⟨w.heap.size,0,none⟩=some (.int .u64 (k2.promised:Int)):=x0;have d1':w2.drew.cell? ⟨w.heap.size,1,none⟩=some (.int .u64 (k2.current:Int)):=x1;have d2':w2.drew.cell? ⟨w.heap.size,2,none⟩=some (.slice A2 k2.lines.length c2):=x2;have HBG:=Lib.hid hbg3;clear hbg3;have d3:w2.drew.cell? ⟨gs,2,none⟩=some (.pointer (some ⟨gb,0,none⟩)):=HBG.out.cell 2
   go_region_with (first
    |(go_at_call 189;(with_reducible refine CL.out.mono ?_);rintro e w3 ⟨A4,n4,c4,rfl,y1,y2,y3,y4⟩;have HB3:=Lib.hid (HDR.out.trans y4);have CC:=Lib.hid (CCC.out w3 A4 n4 c4 HB3.out y1 y2 y3);have p1:w3.cell? ⟨gs,2,none⟩=some (.pointer (some ⟨gb,0,none⟩)):=(HBG.out.below HB3.out).cell 2;clear y1 y2 y3 y4)
    |(go_at_call 161;(with_reducible refine CC.out.mono ?_);rintro e w4 ⟨z2,d2,Lb2,hc2,rfl,X2,Yb2,hs4,ho4,hz4⟩;have HC2:=Lib.hid hc2;have CD2:=Lib.hid (aKm z2 hs4);have HOX:=Lib.hid (HOW4.out _ _ HB3.out ho4);have HZX:=Lib.hid (HZ4.out _ _ _ HB3.out hz4);clear hc2 hs4 ho4 hz4)
    |(go_at_call 123;(with_reducible refine CD2.out.mono ?_);rintro e w5 (⟨h2,rfl,hs5,ho5⟩|⟨h2,rfl,hs5,ho5⟩);rotate_left;(have HFIN:Hid (aCf X Ya Yb V gs gd ga gb d p La Lb false k k2 w (ErrE z2) w5):=⟨0,d1,Lb1,HR1.out,X2,Yb2,HOX.out.trans ho5 (fun b hb=>.inl (.inr (.inr hb))),HZX.out,.inr ⟨rfl,z2,d2,Lb2,HC2.out,.inl ⟨h2,rfl,hs5⟩⟩⟩;clear hs5 ho5 h2;go_wp2_with fail;exact ⟨rfl,HFIN.out⟩);subst h2;have HS5:=Lib.hid hs5;have HO5:=Lib.hid ho5;clear hs5 ho5))
   all_goals
    obtain ⟨A5,c5,hbg5,-⟩:=HS5.out.bk;have g3:=hbg5.cell 3;simp only [svC,cond_false] at g3;have gg:=g3;simp at gg;have gf:w5.frozen? ⟨gs,3,none⟩=false:=hbg5.frozen 3;obtain ⟨W6,hW6⟩:∃W6,W6=w5.setCell ⟨gs,3,none⟩ (.int .i64 1):=⟨_,rfl⟩;obtain ⟨hs6,ho6⟩:=HS5.out.flip (w':=W6) hW6;have HFIN:Hid (aCf X Ya Yb V gs gd ga gb d p La Lb false k k2 w (.returned (.tuple #[])) W6):=⟨0,d1,Lb1,HR1.out,X2,Yb2,(HOX.out.trans HO5.out fun b hb=>.inl (.inr (.inr hb))).trans ho6 fun b hb=>.inl (.inr (.inr hb)),HZX.out,.inr ⟨rfl,0,d2,Lb2,HC2.out,.inr ⟨rfl,rfl,hs6⟩⟩⟩;have HW6:=Lib.hid hW6;clear hbg5 g3 hW6 hs6 ho6;go_wp2_with fail;rw [←HW6.out]
    go_end0
    exact HFIN.out
  ·have HZZ:Hid (z1≠0):=h1;have CD:=Lib.hid (aCu z1 h1 HS1.out);clear h1;go_wp2_with fail;refine CD.out.mono ?_;rintro e w2 ⟨rfl,hs2,ho2⟩;have HFIN:Hid (aCf X Ya Yb V gs gd ga gb d p La Lb false k k2 w (ErrE z1) w2):=⟨z1,d1,Lb1,HR1.out,X1,Yb1,((Out.of_below HB1.out).trans (HO1.out.mono (Y:=fun b=>X b∨Yb b∨b=gs) fun b hb=>.inl (hb.elim .inl fun q=>.inr (.inl q))) fun _ h=>.inl h).trans ho2 fun b hb=>.inl (.inr (.inr hb)),fun b hb=>(HZ1.out b hb).imp id fun q=>Nat.le_trans HB1.out.size q,.inl ⟨HZZ.out,rfl,hs2⟩⟩;clear hs2 ho2;go_wp2_with fail;exact ⟨rfl,HFIN.out⟩
 |true=>
  simp only [svC,cond_true] at k1 k2' k3;have q1:=k1;have q2:=k2';have q3:=k3;simp at q1 q2 q3;rw [HWE.out] at q1 q2 q3;clear k1 k2' k3;go_enter Tryz.func162,Tryz.ntmps162
  go_wp2_with fail;rw [←HWE.out];refine CR.out.mono ?_;rintro e w1 ⟨z1,d1,Lb1,hr1,rfl,X1,Yb1,hs1,ho1,hz1⟩;have HR1:=Lib.hid hr1;have HS1:=Lib.hid hs1;have HO1:=Lib.hid ho1;have HZ1:=Lib.hid hz1;have hlw:∀b,(X b∨Yb b)→b<w.heap.size:=fun b hb=>HLT.out b (by rcases hb with q|q<;>simp [q])
  have HLW:=Lib.hid hlw;have HBK1:Hid (Bk w1 w.heap.size 69 #[.int .u64 (k2.promised:Int),.int .u64 (k2.current:Int),.slice A2 k2.lines.length c2]):=aAd HBK.out ho1 (fun q=>by have:=hlw _ q;omega);have HL1:=Lib.hid (HL.out.out ho1 fun b hb q=>q.elim (HP.out b hb).1 (HP.out b hb).2.1);clear hr1 hs1 ho1 hz1 hlw q1 q2 q3 CR;by_cases h1:z1=0
  ·subst h1;have CD:=Lib.hid (aEa HS1.out);go_wp2_with fail;refine CD.out.mono ?_;rintro e w2 ⟨rfl,hs2,ho2⟩;have HS2:=Lib.hid hs2;have HO2:=Lib.hid ho2;have hgb:w.heap.size≠gs:=fun e=>by have:=HLT.out gs (by simp);omega
   have HBK2:=Lib.hid (aAd HBK1.out ho2 hgb);have HL2:=Lib.hid (HL1.out.out ho2 fun b hb q=>(HP.out b hb).2.2 q);have HOW:Hid (Out (fun b=>X b∨Yb b∨b=gs) w w2):=((Out.of_below HB1.out).trans (HO1.out.mono (Y:=fun b=>X b∨Yb b∨b=gs) fun b hb=>.inl (hb.elim .inl fun q=>.inr (.inl q))) fun _ h=>.inl h).trans ho2 fun b hb=>.inl (.inr (.inr hb));obtain ⟨hK1,-,-,ht1,-⟩:=HR1.out.good rfl;have HK1:=Lib.hid hK1;have HT1:Hid (Lb1.top+3<65536):=by show _<_;omega
   obtain ⟨A3,c3,hbg3,-⟩:=hs2.bk;have k1:=hbg3.cell 1;have k2':=hbg3.cell 2;simp only [svC,cond_true] at k1 k2';have q1:=k1;have q2:=k2';simp at q1 q2;have x0:w2.cell? ⟨w.heap.size,0,none⟩=some (.int .u64 (k2.promised:Int)):=HBK2.out.cell 0;have x1:w2.cell? ⟨w.heap.size,1,none⟩=some (.int .u64 (k2.current:Int)):=HBK2.out.cell 1;have x2:w2.cell? ⟨w.heap.size,2,none⟩=some (.slice A2 k2.lines.length c2):=HBK2.out.cell 2;have HDR:Hid (Below w2.heap.size w2 w2.drew):=(Below.refl _ _).drew;have CL:=Lib.hid (aH1 P k2 A2 c2 w2.drew (HL2.out.below HDR.out) HF.out);unfold kpV at CL;have HWL:Hid ((wholeT k2).length≤2000000):=by
    have h1:=aEh k2;have h2:=HF.out.sum;unfold need at h1;show _≤_;omega
   clear hs2 ho2 k1 k2' hK1 ht1 CD;go_wp2_with fail;have CCC:Hid (∀w3 A4 n4 c4,Below w2.heap.size w2 w3→n4=(wholeT k2).length→n4≤c4→w3.ownsRow w2.drew.heap.size 5 1 (.slice A4 n4 c4) n4 ((wholeT k2).map U)→Calls Tryz.prog 161 #[.pointer (some ⟨gb,0,none⟩),.slice A4 n4 c4] w3 fun e w'=>∃z d' Lb',ComK d1 (fOf (!true) p) p Lb1 (wholeT k2) z d' Lb'∧e=.returned (.int .i64 z)∧∃X' Yb',SvM w' X' Ya Yb' V gs gd ga gb d' p La Lb' true k false∧Out (fun b=>X1 b∨Yb1 b) w3 w'∧∀b,X' b∨Yb' b→(X1 b∨Yb1 b)∨w3.heap.size≤b):=fun w3 A4 n4 c4 hb y1 y2 y3=>(HS2.out.below hb).commitb HK1.out (by have:=HT1.out;omega) A4 n4 c4 _ (Rd.of_put y3) (fun a ha q=>by
    subst ha;have h1:=(y3.lt a.block rfl).1;have h2:w2.drew.heap.size=w2.heap.size:=rfl;have:=HS2.out.lt a.block (by rcases q with q|q<;>simp [q])
    omega) y2 (by have:=HWL.out;omega)
   have HOW4:Hid (∀w3 w4,Below w2.heap.size w2 w3→Out (fun b=>X1 b∨Yb1 b) w3 w4→Out (fun b=>X b∨Yb b∨b=gs) w w4):=fun w3 w4 hb ho4=>(HOW.out.trans (Out.of_below (X:=fun _=>False) hb) fun _ q=>q.elim).trans ho4 fun b hb=>by
    rcases HZ1.out b hb with q|q
    ·exact .inl (q.elim .inl fun r=>.inr (.inl r))
    ·exact .inr (Nat.le_trans HB1.out.size q)
   have HZ4:Hid (∀(w3:World) (X2 Yb2:Nat→Prop),Below w2.heap.size w2 w3→(∀b,X2 b∨Yb2 b→(X1 b∨Yb1 b)∨w3.heap.size≤b)→∀b,X2 b∨Yb2 b→(X b∨Yb b)∨w.heap.size≤b):=fun w3 X2 Yb2 hb3 hz4 b hb=>by
    rcases hz4 b hb with q|q
    ·exact (HZ1.out b q).imp id fun r=>Nat.le_trans HB1.out.size r
    ·exact .inr (Nat.le_trans (Nat.le_trans HOW.out.size hb3.size) q)
   have d0:w2.drew.cell? ⟨w.heap.size,0,none⟩=some (.int .u64 (k2.promised:Int)):=x0;have d1':w2.drew.cell? ⟨w.heap.size,1,none⟩=some (.int .u64 (k2.current:Int)):=x1;have d2':w2.drew.cell? ⟨w.heap.size,2,none⟩=some (.slice A2 k2.lines.length c2):=x2;have HBG:=Lib.hid hbg3;clear hbg3;have d3:w2.drew.cell? ⟨gs,1,none⟩=some (.pointer (some ⟨gb,0,none⟩)):=HBG.out.cell 1
   go_region_with (first
    |(go_at_call 189;(with_reducible refine CL.out.mono ?_);rintro e w3 ⟨A4,n4,c4,rfl,y1,y2,y3,y4⟩;have HB3:=Lib.hid (HDR.out.trans y4);have CC:=Lib.hid (CCC.out w3 A4 n4 c4 HB3.out y1 y2 y3);have p1:w3.cell? ⟨gs,1,none⟩=some (.pointer (some ⟨gb,0,none⟩)):=(HBG.out.below HB3.out).cell 1;clear y1 y2 y3 y4)
    |(go_at_call 161;(with_reducible refine CC.out.mono ?_);rintro e w4 ⟨z2,d2,Lb2,hc2,rfl,X2,Yb2,hs4,ho4,hz4⟩;have HC2:=Lib.hid hc2;have CD2:=Lib.hid (aKm z2 hs4);have HOX:=Lib.hid (HOW4.out _ _ HB3.out ho4);have HZX:=Lib.hid (HZ4.out _ _ _ HB3.out hz4);clear hc2 hs4 ho4 hz4)
    |(go_at_call 123;(with_reducible refine CD2.out.mono ?_);rintro e w5 (⟨h2,rfl,hs5,ho5⟩|⟨h2,rfl,hs5,ho5⟩);rotate_left;(have HFIN:Hid (aCf X Ya Yb V gs gd ga gb d p La Lb true k k2 w (ErrE z2) w5):=⟨0,d1,Lb1,HR1.out,X2,Yb2,HOX.out.trans ho5 (fun b hb=>.inl (.inr (.inr hb))),HZX.out,.inr ⟨rfl,z2,d2,Lb2,HC2.out,.inl ⟨h2,rfl,hs5⟩⟩⟩;clear hs5 ho5 h2;go_wp2_with fail;exact ⟨rfl,HFIN.out⟩);subst h2;have HS5:=Lib.hid hs5;have HO5:=Lib.hid ho5;clear hs5 ho5))
   all_goals
    obtain ⟨A5,c5,hbg5,-⟩:=HS5.out.bk;have g3:=hbg5.cell 3;simp only [svC,cond_true] at g3;have gg:=g3;simp at gg;have gf:w5.frozen? ⟨gs,3,none⟩=false:=hbg5.frozen 3;obtain ⟨W6,hW6⟩:∃W6,W6=w5.setCell ⟨gs,3,none⟩ (.int .i64 0):=⟨_,rfl⟩;obtain ⟨hs6,ho6⟩:=HS5.out.flip (w':=W6) hW6;have HFIN:Hid (aCf X Ya Yb V gs gd ga gb d p La Lb true k k2 w (.returned (.tuple #[])) W6):=⟨0,d1,Lb1,HR1.out,X2,Yb2,(HOX.out.trans HO5.out fun b hb=>.inl (.inr (.inr hb))).trans ho6 fun b hb=>.inl (.inr (.inr hb)),HZX.out,.inr ⟨rfl,0,d2,Lb2,HC2.out,.inr ⟨rfl,rfl,hs6⟩⟩⟩;have HW6:=Lib.hid hW6;clear hbg5 g3 hW6 hs6 ho6;go_wp2_with fail;rw [←HW6.out]
    go_end0
    exact HFIN.out
  ·have HZZ:Hid (z1≠0):=h1;have CD:=Lib.hid (aCu z1 h1 HS1.out);clear h1;go_wp2_with fail;refine CD.out.mono ?_;rintro e w2 ⟨rfl,hs2,ho2⟩;have HFIN:Hid (aCf X Ya Yb V gs gd ga gb d p La Lb true k k2 w (ErrE z1) w2):=⟨z1,d1,Lb1,HR1.out,X1,Yb1,((Out.of_below HB1.out).trans (HO1.out.mono (Y:=fun b=>X b∨Yb b∨b=gs) fun b hb=>.inl (hb.elim .inl fun q=>.inr (.inl q))) fun _ h=>.inl h).trans ho2 fun b hb=>.inl (.inr (.inr hb)),fun b hb=>(HZ1.out b hb).imp id fun q=>Nat.le_trans HB1.out.size q,.inl ⟨HZZ.out,rfl,hs2⟩⟩;clear hs2 ho2;go_wp2_with fail;exact ⟨rfl,HFIN.out⟩
end Go.Proofs.YtgjmbbkcgillcaaGreat.Sto
namespace Go.Proofs.YtgjmbbkcgillcaaGreat.Sto
open Go.RowKit Disk Log
def aBt (X Ya Yb V:Nat→Prop) (gs gd ga gb:Nat) (d:DK) (p:Nat) (La Lb:LK) (lv:Bool) (k k2:Kp) (t:List UInt8) (w:World) (e:Ending) (w':World):Prop:=
 ∃z d' La',ComK d (fOf lv p) p La t z d' La'∧∃X' Ya' w1,SvM w1 X' Ya' Yb V gs gd ga gb d' p La' Lb lv k (z != 4&&z==9)∧Out (fun b=>X b∨Ya b∨b=gs) w w1∧(∀b,X' b∨Ya' b→(X b∨Ya b)∨w.heap.size≤b)∧
  ((z=0∧e=.returned (.tuple #[])∧w'=w1)∨(z≠0∧z≠4∧e=ErrE z∧w'=w1)∨(z=4∧aCf X' Ya' Yb V gs gd ga gb d p La Lb lv k k2 w1 e w'))
set_option maxRecDepth 100000 in
theorem aS7 {w:World} {X Ya Yb V P:Nat→Prop} {gs gd ga gb:Nat} {d:DK} {p:Nat} {La Lb:LK} {lv:Bool} {k k2:Kp} {A2:Option Addr} {c2:Nat} (h:SvM w X Ya Yb V gs gd ga gb d p La Lb lv k false) (hK:KL d (fOf lv p) p La) (hKb:KL d (fOf (!lv) p) p Lb) (hN:La.top+2<65536) (hNb:Lb.top+4<65536) (A:Option Addr) (m c:Nat) (t:List UInt8) (hr:Rd w A m t) (hA:∀a,A=some a→¬(X a.block∨Ya a.block)) (hmc:m≤c) (hm:m≤3000000) (hl:LnS P w A2 k2.lines.length k2.lines) (hP:∀b,P b→¬X b∧¬Ya b∧¬Yb b∧b≠gs∧b<w.heap.size) (hf:Fine k2):
  Calls Tryz.prog 125 #[.pointer (some ⟨gs,0,none⟩),.slice A m c,kpV k2 A2 c2] w (aBt X Ya Yb V gs gd ga gb d p La Lb lv k k2 t w):=by
 have hb1:Below w.heap.size w (w.alloc (.cells #[.int .u64 (k2.promised:Int),.int .u64 (k2.current:Int),.slice A2 k2.lines.length c2] 69)):=(Below.refl _ _).alloc (Nat.le_refl _) _;obtain ⟨W,hW⟩:∃W,W=w.alloc (.cells #[.int .u64 (k2.promised:Int),.int .u64 (k2.current:Int),.slice A2 k2.lines.length c2] 69):=⟨_,rfl⟩;have hbk:Bk W w.heap.size 69 #[.int .u64 (k2.promised:Int),.int .u64 (k2.current:Int),.slice A2 k2.lines.length c2]:=by rw [hW];exact Bk.new w _ _
 rw [←hW] at hb1;have hdr:Below W.heap.size W W.drew:=(Below.refl _ _).drew;have hs:=(h.below hb1).below hdr;have HWE:=Lib.hid hW;have HB1:=Lib.hid (hb1.trans (hdr.mono hb1.size));have HBK:=Lib.hid (hbk.below hdr);have HL:=Lib.hid ((hl.below hb1).below hdr);have HLT:=Lib.hid h.lt;have HP:=Lib.hid hP;have HF:=Lib.hid hf;have HK:=Lib.hid hK;have HKB:=Lib.hid hKb;have HNB:Hid (Lb.top+4<65536):=hNb;have CC:=Lib.hid (hs.commit hK hN A m c t ((hr.below hb1).below hdr) hA hmc hm);obtain ⟨A3,c3,hbg,-⟩:=(h.below hb1).bk;have k1:=hbg.cell 1;have k2':=hbg.cell 2;have k3:=hbg.cell 3;clear hbg h hl hb1 hbk hW hs hdr hr hA hKb;cases lv with
 |false=>
  simp only [svC,cond_false] at k1 k2' k3;have q1:=k1;have q2:=k2';have q3:=k3;simp at q1 q2 q3;clear k1 k2' k3;have HBG:Hid (∀{W1:World} {X1 Ya1:Nat→Prop},SvM W1 X1 Ya1 Yb V gs gd ga gb d p La Lb false k false→LnS P W1 A2 k2.lines.length k2.lines→(∀b,P b→¬X1 b)→Calls Tryz.prog 162 #[.pointer (some ⟨gs,0,none⟩),kpV k2 A2 c2] W1 (aCf X1 Ya1 Yb V gs gd ga gb d p La Lb false k k2 W1)):=fun hs1 hl1 hx1=>aNq hs1 HKB.out HNB.out hl1 (fun b hb=>⟨hx1 b hb,(HP.out b hb).2.2.1,(HP.out b hb).2.2.2.1⟩) HF.out;unfold kpV at*;go_enter Tryz.func125,Tryz.ntmps125
  go_wp2_with fail;rw [←HWE.out];refine aAk 10 (by kernel_rfl) (by kernel_rfl) ?_;simp only [List.take_succ_cons,List.take_zero,List.drop_succ_cons,List.drop_zero]
  iterate 10
   refine aA6 (by kernel_rfl) ?_;apply Exists.intro
   refine And.intro ?_ ?_
   ·unfold aA5;first
     |(go_simp;done)
     |(go_simp;exact rfl)
   try simp only [Act.put,List.setIfInBounds_toArray,List.set_cons_zero,List.set_cons_succ]
  refine aAv ?_;change wpList _ _ _ _ _ W.drew;clear q1 q2 q3;go_wp2_with (go_at_call 161;(with_reducible refine CC.out.mono ?_))
  rintro e w1 ⟨z,d',La',hc1,rfl,X1,Ya1,hs1,ho1,hz1⟩;have HC1:=Lib.hid hc1;have HS1:=Lib.hid hs1;have HO1:=Lib.hid ho1;have hgx:∀b,(X b∨Ya b)→b<w.heap.size:=fun b hb=>HLT.out b (by rcases hb with q|q<;>simp [q])
  have HGX:=Lib.hid hgx;have HBK1:Hid (Bk w1 w.heap.size 69 #[.int .u64 (k2.promised:Int),.int .u64 (k2.current:Int),.slice A2 k2.lines.length c2]):=aAd HBK.out ho1 (fun q=>by have:=hgx _ q;omega);have HL1:=Lib.hid (HL.out.out ho1 fun b hb q=>q.elim (HP.out b hb).1 (HP.out b hb).2.1);have HOW:Hid (Out (fun b=>X b∨Ya b∨b=gs) w w1):=(Out.of_below HB1.out).trans (HO1.out.mono (Y:=fun b=>X b∨Ya b∨b=gs) fun b hb=>.inl (hb.elim .inl fun q=>.inr (.inl q))) fun _ h=>.inl h;have HZW:Hid (∀b,X1 b∨Ya1 b→(X b∨Ya b)∨w.heap.size≤b):=fun b hb=>(hz1 b hb).imp id fun q=>Nat.le_trans HB1.out.size q;clear hc1 hs1 ho1 hz1 hgx CC;by_cases h4:z=4
  ·subst h4;obtain ⟨hd,hL⟩:=HC1.out.full rfl;subst hd hL;have x0:w1.cell? ⟨w.heap.size,0,none⟩=some (.int .u64 (k2.promised:Int)):=HBK1.out.cell 0;have x1:w1.cell? ⟨w.heap.size,1,none⟩=some (.int .u64 (k2.current:Int)):=HBK1.out.cell 1;have x2:w1.cell? ⟨w.heap.size,2,none⟩=some (.slice A2 k2.lines.length c2):=HBK1.out.cell 2;have CB:=Lib.hid (HBG.out HS1.out HL1.out fun b hb q=>by
    rcases HZW.out b (.inl q) with r|r
    ·exact r.elim (HP.out b hb).1 (HP.out b hb).2.1
    ·have:=(HP.out b hb).2.2.2.2;omega)
   have HFI:Hid (∀e w',aCf X1 Ya1 Yb V gs gd ga gb d' p La' Lb false k k2 w1 e w'→aBt X Ya Yb V gs gd ga gb d' p La' Lb false k k2 t w e w'):=fun e w' hb=>⟨4,d',La',HC1.out,X1,Ya1,w1,HS1.out,HOW.out,HZW.out,.inr (.inr ⟨rfl,hb⟩)⟩;go_wp2_with fail;refine CB.out.mono ?_;intro e w2 hb2;have HE2:=Lib.hid (HFI.out _ _ hb2);obtain hre|⟨z1,hre⟩:e=.returned (.tuple #[])∨∃z1:Int,e=.panicked [{v:=.iface 27 (.int .i64 z1),recovered:=false}]:=by
    obtain ⟨_,_,_,_,_,_,_,_,(⟨_,q,_⟩|⟨_,_,_,_,_,(⟨_,q,_⟩|⟨_,q,_⟩)⟩)⟩:=hb2
    ·exact .inr ⟨_,q⟩
    ·exact .inr ⟨_,q⟩
    ·exact .inl q
   ·subst hre;clear hb2;go_wp2_with fail
    go_end0
    exact HE2.out
   ·subst hre;clear hb2;go_wp2_with fail;exact ⟨rfl,HE2.out⟩
  ·by_cases h0:z=0
   ·subst h0;have CD:=Lib.hid (aEa HS1.out);clear h4;go_wp2_with fail;refine CD.out.mono ?_;rintro e w2 ⟨rfl,hs2,ho2⟩;have HFIN:Hid (aBt X Ya Yb V gs gd ga gb d p La Lb false k k2 t w (.returned (.tuple #[])) w2):=⟨0,d',La',HC1.out,X1,Ya1,w2,hs2,HOW.out.trans ho2 (fun b hb=>.inl (.inr (.inr hb))),HZW.out,.inl ⟨rfl,rfl,rfl⟩⟩;clear hs2 ho2;go_wp2_with fail
    go_end0
    exact HFIN.out
   ·have CD:=Lib.hid (aCu z h0 HS1.out);have HZ:Hid (z≠0∧z≠4):=⟨h0,h4⟩;clear h0;go_wp2_with fail;refine CD.out.mono ?_;rintro e w2 ⟨rfl,hs2,ho2⟩;have hzz:(z != 4&&z==9)=(z==9):=by simp [HZ.out.2]
    have HFIN:Hid (aBt X Ya Yb V gs gd ga gb d p La Lb false k k2 t w (ErrE z) w2):=⟨z,d',La',HC1.out,X1,Ya1,w2,by rw [hzz];exact hs2,HOW.out.trans ho2 (fun b hb=>.inl (.inr (.inr hb))),HZW.out,.inr (.inl ⟨HZ.out.1,HZ.out.2,rfl,rfl⟩)⟩;clear hs2 ho2 hzz;go_wp2_with fail;exact ⟨rfl,HFIN.out⟩
 |true=>
  simp only [svC,cond_true] at k1 k2' k3;have q1:=k1;have q2:=k2';have q3:=k3;simp at q1 q2 q3;clear k1 k2' k3;have HBG:Hid (∀{W1:World} {X1 Ya1:Nat→Prop},SvM W1 X1 Ya1 Yb V gs gd ga gb d p La Lb true k false→LnS P W1 A2 k2.lines.length k2.lines→(∀b,P b→¬X1 b)→Calls Tryz.prog 162 #[.pointer (some ⟨gs,0,none⟩),kpV k2 A2 c2] W1 (aCf X1 Ya1 Yb V gs gd ga gb d p La Lb true k k2 W1)):=fun hs1 hl1 hx1=>aNq hs1 HKB.out HNB.out hl1 (fun b hb=>⟨hx1 b hb,(HP.out b hb).2.2.1,(HP.out b hb).2.2.2.1⟩) HF.out;unfold kpV at*;go_enter Tryz.func125,Tryz.ntmps125
  go_wp2_with fail;rw [←HWE.out];refine aAk 10 (by kernel_rfl) (by kernel_rfl) ?_;simp only [List.take_succ_cons,List.take_zero,List.drop_succ_cons,List.drop_zero]
  iterate 10
   refine aA6 (by kernel_rfl) ?_;apply Exists.intro
   refine And.intro ?_ ?_
   ·unfold aA5;first
     |(go_simp;done)
     |(go_simp;exact rfl)
   try simp only [Act.put,List.setIfInBounds_toArray,List.set_cons_zero,List.set_cons_succ]
  refine aAv ?_;change wpList _ _ _ _ _ W.drew;clear q1 q2 q3;go_wp2_with (go_at_call 161;(with_reducible refine CC.out.mono ?_))
  rintro e w1 ⟨z,d',La',hc1,rfl,X1,Ya1,hs1,ho1,hz1⟩;have HC1:=Lib.hid hc1;have HS1:=Lib.hid hs1;have HO1:=Lib.hid ho1;have hgx:∀b,(X b∨Ya b)→b<w.heap.size:=fun b hb=>HLT.out b (by rcases hb with q|q<;>simp [q])
  have HGX:=Lib.hid hgx;have HBK1:Hid (Bk w1 w.heap.size 69 #[.int .u64 (k2.promised:Int),.int .u64 (k2.current:Int),.slice A2 k2.lines.length c2]):=aAd HBK.out ho1 (fun q=>by have:=hgx _ q;omega);have HL1:=Lib.hid (HL.out.out ho1 fun b hb q=>q.elim (HP.out b hb).1 (HP.out b hb).2.1);have HOW:Hid (Out (fun b=>X b∨Ya b∨b=gs) w w1):=(Out.of_below HB1.out).trans (HO1.out.mono (Y:=fun b=>X b∨Ya b∨b=gs) fun b hb=>.inl (hb.elim .inl fun q=>.inr (.inl q))) fun _ h=>.inl h;have HZW:Hid (∀b,X1 b∨Ya1 b→(X b∨Ya b)∨w.heap.size≤b):=fun b hb=>(hz1 b hb).imp id fun q=>Nat.le_trans HB1.out.size q;clear hc1 hs1 ho1 hz1 hgx CC;by_cases h4:z=4
  ·subst h4;obtain ⟨hd,hL⟩:=HC1.out.full rfl;subst hd hL;have x0:w1.cell? ⟨w.heap.size,0,none⟩=some (.int .u64 (k2.promised:Int)):=HBK1.out.cell 0;have x1:w1.cell? ⟨w.heap.size,1,none⟩=some (.int .u64 (k2.current:Int)):=HBK1.out.cell 1;have x2:w1.cell? ⟨w.heap.size,2,none⟩=some (.slice A2 k2.lines.length c2):=HBK1.out.cell 2;have CB:=Lib.hid (HBG.out HS1.out HL1.out fun b hb q=>by
    rcases HZW.out b (.inl q) with r|r
    ·exact r.elim (HP.out b hb).1 (HP.out b hb).2.1
    ·have:=(HP.out b hb).2.2.2.2;omega)
   have HFI:Hid (∀e w',aCf X1 Ya1 Yb V gs gd ga gb d' p La' Lb true k k2 w1 e w'→aBt X Ya Yb V gs gd ga gb d' p La' Lb true k k2 t w e w'):=fun e w' hb=>⟨4,d',La',HC1.out,X1,Ya1,w1,HS1.out,HOW.out,HZW.out,.inr (.inr ⟨rfl,hb⟩)⟩;go_wp2_with fail;refine CB.out.mono ?_;intro e w2 hb2;have HE2:=Lib.hid (HFI.out _ _ hb2);obtain hre|⟨z1,hre⟩:e=.returned (.tuple #[])∨∃z1:Int,e=.panicked [{v:=.iface 27 (.int .i64 z1),recovered:=false}]:=by
    obtain ⟨_,_,_,_,_,_,_,_,(⟨_,q,_⟩|⟨_,_,_,_,_,(⟨_,q,_⟩|⟨_,q,_⟩)⟩)⟩:=hb2
    ·exact .inr ⟨_,q⟩
    ·exact .inr ⟨_,q⟩
    ·exact .inl q
   ·subst hre;clear hb2;go_wp2_with fail
    go_end0
    exact HE2.out
   ·subst hre;clear hb2;go_wp2_with fail;exact ⟨rfl,HE2.out⟩
  ·by_cases h0:z=0
   ·subst h0;have CD:=Lib.hid (aEa HS1.out);clear h4;go_wp2_with fail;refine CD.out.mono ?_;rintro e w2 ⟨rfl,hs2,ho2⟩;have HFIN:Hid (aBt X Ya Yb V gs gd ga gb d p La Lb true k k2 t w (.returned (.tuple #[])) w2):=⟨0,d',La',HC1.out,X1,Ya1,w2,hs2,HOW.out.trans ho2 (fun b hb=>.inl (.inr (.inr hb))),HZW.out,.inl ⟨rfl,rfl,rfl⟩⟩;clear hs2 ho2;go_wp2_with fail
    go_end0
    exact HFIN.out
   ·have CD:=Lib.hid (aCu z h0 HS1.out);have HZ:Hid (z≠0∧z≠4):=⟨h0,h4⟩;clear h0;go_wp2_with fail;refine CD.out.mono ?_;rintro e w2 ⟨rfl,hs2,ho2⟩;have hzz:(z != 4&&z==9)=(z==9):=by simp [HZ.out.2]
    have HFIN:Hid (aBt X Ya Yb V gs gd ga gb d p La Lb true k k2 t w (ErrE z) w2):=⟨z,d',La',HC1.out,X1,Ya1,w2,by rw [hzz];exact hs2,HOW.out.trans ho2 (fun b hb=>.inl (.inr (.inr hb))),HZW.out,.inr (.inl ⟨HZ.out.1,HZ.out.2,rfl,rfl⟩)⟩;clear hs2 ho2 hzz;go_wp2_with fail;exact ⟨rfl,HFIN.out⟩
end Go.Proofs.YtgjmbbkcgillcaaGreat.Sto
namespace Go.Proofs.YtgjmbbkcgillcaaGreat.Sto
open Go.RowKit Disk Log
def WrR (d:DK) (p:Nat) (La Lb:LK) (lv:Bool) (t t2:List UInt8) (x:Int) (d':DK) (La' Lb':LK) (lv':Bool):Prop:=
 (ComK d (fOf lv p) p La t x d' La'∧x≠4∧Lb'=Lb∧lv'=lv)∨
 (ComK d (fOf lv p) p La t 4 d La∧∃z1 d1 Lb1,ResK d (fOf (!lv) p) p Lb z1 d1 Lb1∧
  ((z1≠0∧x=z1∧d'=d1∧La'=La∧Lb'=Lb1∧lv'=lv)∨
  (z1=0∧∃z2 d2 Lb2,ComK d1 (fOf (!lv) p) p Lb1 t2 z2 d2 Lb2∧
   ((z2≠0∧x=z2∧d'=d2∧La'=La∧Lb'=Lb2∧lv'=lv)∨(z2=0∧x=0∧d'=d2∧La'=Lb2∧Lb'=La∧lv'= !lv)))))
def aJg (X Ya Yb V:Nat→Prop) (gs gd:Nat) (d:DK) (p:Nat) (La Lb:LK) (lv:Bool) (k k2:Kp) (t:List UInt8) (w:World) (e:Ending) (w':World):Prop:=
 ∃x d' La' Lb' lv' ga' gb' X' Ya' Yb',WrR d p La Lb lv t (wholeT k2) x d' La' Lb' lv'∧SvM w' X' Ya' Yb' V gs gd ga' gb' d' p La' Lb' lv' k (x==9)∧Out (fun b=>X b∨Ya b∨Yb b∨b=gs) w w'∧(∀b,X' b∨Ya' b∨Yb' b→(X b∨Ya b∨Yb b)∨w.heap.size≤b)∧((x=0∧e=.returned (.tuple #[]))∨(x≠0∧e=ErrE x))
theorem aBt.wrote {X Ya Yb V:Nat→Prop} {gs gd ga gb:Nat} {d:DK} {p:Nat} {La Lb:LK} {lv:Bool} {k k2:Kp} {t:List UInt8} {w:World} {e:Ending} {w':World} (h:aBt X Ya Yb V gs gd ga gb d p La Lb lv k k2 t w e w'):aJg X Ya Yb V gs gd d p La Lb lv k k2 t w e w':=by
 obtain ⟨z,d',La',hc,X',Ya',w1,hs,ho,hz,h⟩:=h;have ho':Out (fun b=>X b∨Ya b∨Yb b∨b=gs) w w1:=ho.mono fun b hb=>by
  rcases hb with q|q|q
  ·exact .inl (.inl q)
  ·exact .inl (.inr (.inl q))
  ·exact .inl (.inr (.inr (.inr q)))
 have hz':∀b,X' b∨Ya' b→(X b∨Ya b∨Yb b)∨w.heap.size≤b:=fun b hb=>(hz b hb).imp (fun q=>q.elim .inl fun r=>.inr (.inl r)) id;rcases h with ⟨rfl,he,rfl⟩|⟨h0,h4,he,rfl⟩|⟨rfl,hb⟩
 ·exact ⟨0,d',La',Lb,lv,ga,gb,X',Ya',Yb,.inl ⟨hc,by omega,rfl,rfl⟩,hs,ho',fun b hb=>by
   rcases hb with q|q|q
   ·exact hz' b (.inl q)
   ·exact hz' b (.inr q)
   ·exact .inl (.inr (.inr q)),.inl ⟨rfl,he⟩⟩
 ·have hzz:(z != 4&&z==9)=(z==9):=by simp [h4]
  rw [hzz] at hs;exact ⟨z,d',La',Lb,lv,ga,gb,X',Ya',Yb,.inl ⟨hc,h4,rfl,rfl⟩,hs,ho',fun b hb=>by
   rcases hb with q|q|q
   ·exact hz' b (.inl q)
   ·exact hz' b (.inr q)
   ·exact .inl (.inr (.inr q)),.inr ⟨h0,he⟩⟩
 ·obtain ⟨rfl,rfl⟩:=hc.full rfl;obtain ⟨z1,d1,Lb1,hr,X2,Yb2,ho2,hz2,h⟩:=hb;have ho3:Out (fun b=>X b∨Ya b∨Yb b∨b=gs) w w':=ho'.trans ho2 fun b hb=>by
   rcases hb with q|q|q
   ·rcases hz' b (.inl q) with (r|r|r)|r
    ·exact .inl (.inl r)
    ·exact .inl (.inr (.inl r))
    ·exact .inl (.inr (.inr (.inl r)))
    ·exact .inr r
   ·exact .inl (.inr (.inr (.inl q)))
   ·exact .inl (.inr (.inr (.inr q)))
  have hz3:∀b,X2 b∨Ya' b∨Yb2 b→(X b∨Ya b∨Yb b)∨w.heap.size≤b:=fun b hb=>by
   have h2:X2 b∨Yb2 b→(X b∨Ya b∨Yb b)∨w.heap.size≤b:=fun hb=>by
    rcases hz2 b hb with (q|q)|q
    ·exact hz' b (.inl q)
    ·exact .inl (.inr (.inr q))
    ·exact .inr (Nat.le_trans ho.size q)
   rcases hb with q|q|q
   ·exact h2 (.inl q)
   ·exact hz' b (.inr q)
   ·exact h2 (.inr q)
  rcases h with ⟨h1,he,hs2⟩|⟨rfl,z2,d2,Lb2,hc2,h⟩
  ·exact ⟨z1,d1,_,Lb1,lv,ga,gb,X2,Ya',Yb2,.inr ⟨hc,z1,d1,Lb1,hr,.inl ⟨h1,rfl,rfl,rfl,rfl,rfl⟩⟩,hs2,ho3,hz3,.inr ⟨h1,he⟩⟩
  ·rcases h with ⟨h2,he,hs2⟩|⟨rfl,he,hs2⟩
   ·exact ⟨z2,d2,_,Lb2,lv,ga,gb,X2,Ya',Yb2,.inr ⟨hc,0,d1,Lb1,hr,.inr ⟨rfl,z2,d2,Lb2,hc2,.inl ⟨h2,rfl,rfl,rfl,rfl,rfl⟩⟩⟩,hs2,ho3,hz3,.inr ⟨h2,he⟩⟩
   ·exact ⟨0,d2,Lb2,_,!lv,gb,ga,X2,Yb2,Ya',.inr ⟨hc,0,d1,Lb1,hr,.inr ⟨rfl,0,d2,Lb2,hc2,.inr ⟨rfl,rfl,rfl,rfl,rfl,rfl⟩⟩⟩,hs2,ho3,fun b hb=>hz3 b (by
     rcases hb with q|q|q
     ·exact .inl q
     ·exact .inr (.inr q)
     ·exact .inr (.inl q)),.inl ⟨rfl,he⟩⟩
theorem KpAt.cut {P:Nat→Prop} {w:World} {g:Nat} {k:Kp} (h:KpAt P w g k) (hk:Fine k):KpAt (fun b=>P b∧b<w.heap.size) w g k:=by
 obtain ⟨A,c,h1,h2,h3⟩:=h.at_;exact ⟨A,c,h1,h2.lt fun x hx=>(aAi.1 (hk.each x hx).1).2.2.1,h3⟩
end Go.Proofs.YtgjmbbkcgillcaaGreat.Sto
namespace Go.Proofs.YtgjmbbkcgillcaaGreat.PhaseG
open Phase (aAu StepsL reachB Closed aA4)
open Go.RowKit
def StepZ (P:Program) (Q:Exit→Act→World→Prop) (l:List Oper) (a0:Act) (w:World) (R:Nat→Value→World→Prop) (E:Value→World→Prop) (o:Oper):Prop:=
 ∀(a:Act) (v:Nat→Value) (W:World),DepF l v a0 R o a W→Below w.heap.size w W→∀K:Act→World→Prop,(∀x W',E x W'→K (a.put o.dst x) W')→o.wp P a W K Q
def StepT (P:Program) (Q:Exit→Act→World→Prop) (l:List Oper) (z:Nat) (E:Value→World→Prop) (T:Nat→Value→Value→Prop) (i:Nat) (o:Oper):Prop:=
 ∀(a:Act) (vz:Value) (W:World),(∀p d,l[z]? =some p→p.dst=some d→a.tmps.getD d undef=vz)→E vz W→∀K:Act→World→Prop,(∀x,T i vz x→K (a.put o.dst x) W)→o.wp P a W K Q
section
variable {P:Program} {Q:Exit→Act→World→Prop}
theorem aB9 {l:List Oper} {a0:Act} {id:Nat} {w:World} (z f:Nat) (R:Nat→Value→World→Prop) (E:Value→World→Prop) (T:Nat→Value→Value→Prop) (hm:P.follows .mixedOrders=true) (hok:okB l.toArray a0.tmps.size=true) (hng:(l.all fun o=>o.guard.isNone)=true)
  (hr:((List.range z).all fun k=>reachB l f z k)=true) (hra:((List.range l.length).all fun k=>!decide (z<k)||reachB l f k z)=true) (hzl:z<l.length)
  (hR:∀k x W W',R k x W→Below w.heap.size w W→Below W.heap.size W W'→R k x W') (hs1:StepsL (StepF P Q l a0 w R) 0 (l.take z)) (hs2:∀o,l[z]? =some o→StepZ P Q l a0 w R E o) (hs3:StepsL (StepT P Q l z E T) (z+1) (l.drop (z+1))) (F:(Nat→Value)→Act) (hF:∀v,final l.toArray v l.length a0=F v)
  (hend:∀v W,E (v z) W→(∀k,z<k→k<l.length→T k (v z) (v k))→Q .normal (F v) W):
  (Code.region id l.toArray true).wp P Q a0 w:=by
 have hr':∀k,k<z→reachB l f z k=true:=fun k hk=>List.all_eq_true.1 hr k (List.mem_range.2 hk);have hra':∀k,z<k→k<l.length→reachB l f k z=true:=fun k hk hl=>by
  have:=List.all_eq_true.1 hra k (List.mem_range.2 hl);simpa [hk] using this
 refine aA8 (v0:=fun _=>undef) (C:=fun v listed W=>listed.size=l.length∧Closed l listed∧(listed.getD z false=false→Below w.heap.size w W∧∀k,k<z→listed.getD k false=true→R k (v k) W)∧(listed.getD z false=true→E (v z) W∧∀k,z<k→k<l.length→listed.getD k false=true→T k (v z) (v k))) hm hok (fun v _ _ _=>aB4 (by simpa using hng) v) ⟨by simp,fun x o _ h=>(by rw [aAf] at h;cases h),fun _=>⟨(Below.refl _ _).drew,fun k _ h=>(by rw [aAf] at h;cases h)⟩,fun h=>(by rw [aAf] at h;cases h)⟩ ?_ ?_
 ·intro i o hi v listed a W hun hdeps hf hC K hK;obtain ⟨hsz,hcl,hc1,hc2⟩:=hC;have hil:l[i]? =some o:=by simpa using hi
  have hlt:i<l.length:=(List.getElem?_eq_some_iff.1 hil).1;have hltl:i<listed.size:=by omega
  have hunf:listed.getD i false=false:=by
   have:listed[i]=false:=by simpa [hltl] using hun
   simp [hltl,this]
  have hg:∀k,(listed.setIfInBounds i true).getD k false=if k=i then true else listed.getD k false:=fun k=>aAn _ _ _ hltl
  have hdo:∀o',l[i]? =some o'→∀e∈o'.after,Region.binds .any e=true→listed.getD e.on false=true:=fun o' ho'=>by
   rw [hil] at ho';injection ho' with ho';subst ho';exact hdeps
  have hcl':Closed l (listed.setIfInBounds i true):=fun x o' ho' hx e he hb=>by
   rw [hg] at hx ⊢;by_cases hxi:x=i
   ·subst hxi;have:=hdo o' ho' e he hb;split
    ·rfl
    ·exact this
   ·rw [if_neg hxi] at hx;have:=hcl x o' ho' hx e he hb;split
    ·rfl
    ·exact this
  have hvk:∀(x:Value) (k:Nat),listed.getD k false=true→(fun k=>if k=i then x else v k) k=v k:=fun x k hk=>by
   by_cases e:k=i
   ·rw [e,hunf] at hk;cases hk
   ·exact if_neg e
  cases hzl':listed.getD z false with
  |false=>
   obtain ⟨hb,hRk⟩:=hc1 hzl';have hle:i≤z:=Nat.le_of_not_lt fun h=>by
    have:=aA4 hcl f i z (hra' i h hlt) hdo;rw [hzl'] at this;cases this
   have hkz:∀k p,l[k]? =some p→listed.getD k false=true→k<z:=fun k p hk hl=>by
    rcases Nat.lt_trichotomy k z with h|h|h
    ·exact h
    ·rw [h,hzl'] at hl;cases hl
    ·have:=aA4 hcl f k z (hra' k h (List.getElem?_eq_some_iff.1 hk).1) (fun o' ho' e he hb'=>hcl k o' ho' hl e he hb');rw [hzl'] at this;cases this
   have hD:DepF l v a0 R o a W:=⟨fun k p d hk hp hd=>by
     obtain ⟨e,he,hek⟩:=aAu hk;simp only [Bool.and_eq_true,beq_iff_eq] at hek;have:=hdeps e he hek.2;rw [hek.1] at this;exact ⟨hf.yes k p d (by simpa using hp) hd this,hRk k (hkz k p hp this) this⟩,
    fun d hd=>hf.no d fun k p hk hp=>by
     have hk':l[k]? =some p:=by simpa using hk
     have:=List.all_eq_true.1 hd p (List.mem_of_getElem? hk');rw [hp] at this;simp at this⟩
   rcases Nat.lt_or_eq_of_le hle with hi2|rfl
   ·have hS:=StepsL.get hs1 (show (l.take z)[i]? =some o by rw [List.getElem?_take_of_lt hi2];exact hil);rw [Nat.zero_add] at hS;refine hS a v W hD hb K fun x W' hb' hx=>?_;have hzi:(listed.setIfInBounds i true).getD z false=false:=by rw [hg,if_neg (by omega)];exact hzl'
    have:=hK (fun k=>if k=i then x else v k) W' (fun k hk=>hvk x k hk) ⟨by simpa using hsz,hcl',fun _=>⟨hb.trans (hb'.mono hb.size),fun k hk hl=>by
     rw [hg] at hl;by_cases e:k=i
     ·rw [if_pos e,e];exact hx
     ·rw [if_neg e] at hl ⊢;exact hR k _ W W' (hRk k hk hl) hb hb'⟩,fun h=>(by rw [hzi] at h;cases h)⟩
    rwa [if_pos rfl] at this
   ·refine hs2 o hil a v W hD hb K fun x W' hx=>?_;have hzi:(listed.setIfInBounds i true).getD i false=true:=by rw [hg,if_pos rfl]
    have:=hK (fun k=>if k=i then x else v k) W' (fun k hk=>hvk x k hk) ⟨by simpa using hsz,hcl',fun h=>(by rw [hzi] at h;cases h),fun _=>⟨by rw [if_pos rfl];exact hx,fun k hk hkl hl=>by
     rw [hg,if_neg (by omega)] at hl;have hp:=List.getElem?_eq_getElem hkl;have:=hkz k _ hp hl;omega⟩⟩
    rwa [if_pos rfl] at this
  |true=>
   obtain ⟨hE,hTk⟩:=hc2 hzl';have hgt:z<i:=by
    rcases Nat.lt_trichotomy i z with h|h|h
    ·have:=aA4 hcl f z i (hr' i h) (fun o' ho' e he hb'=>hcl z o' ho' hzl' e he hb');rw [hunf] at this;cases this
    ·rw [h,hzl'] at hunf;cases hunf
    ·exact h
   have hS:=StepsL.get hs3 (show (l.drop (z+1))[i - (z+1)]? =some o by rw [List.getElem?_drop,show z+1+(i - (z+1))=i by omega];exact hil);rw [show z+1+(i - (z+1))=i by omega] at hS;refine hS a (v z) W (fun p d hp hd=>hf.yes z p d (by simpa using hp) hd hzl') hE K fun x hx=>?_;have hzi:(listed.setIfInBounds i true).getD z false=true:=by rw [hg,if_neg (by omega)];exact hzl'
   have:=hK (fun k=>if k=i then x else v k) W (fun k hk=>hvk x k hk) ⟨by simpa using hsz,hcl',fun h=>(by rw [hzi] at h;cases h),fun _=>⟨by rw [if_neg (by omega)];exact hE,fun k hk hkl hl=>by
    rw [hg] at hl;rw [if_neg (show ¬z=i by omega)];by_cases e:k=i
    ·rw [if_pos e,e];exact hx
    ·rw [if_neg e] at hl ⊢;exact hTk k hk hkl hl⟩⟩
   rwa [if_pos rfl] at this
 ·intro v listed W hall hC;obtain ⟨hsz,hcl,hc1,hc2⟩:=hC;obtain ⟨hE,hT⟩:=hc2 (hall z (by simpa using hzl));have:=hend v W hE fun k hk hkl=>hT k hk hkl (hall k (by simpa using hkl));rw [←hF v] at this;simpa using this
end
end Go.Proofs.YtgjmbbkcgillcaaGreat.PhaseG
namespace Go.Proofs.YtgjmbbkcgillcaaGreat.PhaseG
open Phase (aAu StepsL reachB Closed aA4)
open Go.RowKit
def StepP (P:Program) (Q:Exit→Act→World→Prop) (l:List Oper) (a0:Act) (w:World) (R:Nat→Value→World→Prop) (E:Value→World→Prop) (o:Oper):Prop:=
 ∀(a:Act) (v:Nat→Value) (W:World),DepF l v a0 R o a W→a.defers=a0.defers→Below w.heap.size w W→∀K:Act→World→Prop,(∀x W',E x W'→K (a.put o.dst x) W')→o.wp P a W K Q
section
variable {P:Program} {Q:Exit→Act→World→Prop}
theorem aCj {l:List Oper} {a0:Act} {id:Nat} {w:World} (z f:Nat) (R:Nat→Value→World→Prop) (E:Value→World→Prop) (T:Nat→Value→Value→Prop) (hm:P.follows .mixedOrders=true) (hok:okB l.toArray a0.tmps.size=true) (hng:(l.all fun o=>o.guard.isNone)=true)
  (hr:((List.range z).all fun k=>reachB l f z k)=true) (hra:((List.range l.length).all fun k=>!decide (z<k)||reachB l f k z)=true) (hzl:z<l.length)
  (hR:∀k x W W',R k x W→Below w.heap.size w W→Below W.heap.size W W'→R k x W') (hs1:StepsL (StepF P Q l a0 w R) 0 (l.take z)) (hs2:∀o,l[z]? =some o→StepP P Q l a0 w R E o) (hs3:StepsL (StepT P Q l z E T) (z+1) (l.drop (z+1))) (F:(Nat→Value)→Act) (hF:∀v,final l.toArray v l.length a0=F v)
  (hend:∀v W,E (v z) W→(∀k,z<k→k<l.length→T k (v z) (v k))→Q .normal (F v) W):
  (Code.region id l.toArray true).wp P Q a0 w:=by
 have hr':∀k,k<z→reachB l f z k=true:=fun k hk=>List.all_eq_true.1 hr k (List.mem_range.2 hk);have hra':∀k,z<k→k<l.length→reachB l f k z=true:=fun k hk hl=>by
  have:=List.all_eq_true.1 hra k (List.mem_range.2 hl);simpa [hk] using this
 refine aA8 (v0:=fun _=>undef) (C:=fun v listed W=>listed.size=l.length∧Closed l listed∧(listed.getD z false=false→Below w.heap.size w W∧∀k,k<z→listed.getD k false=true→R k (v k) W)∧(listed.getD z false=true→E (v z) W∧∀k,z<k→k<l.length→listed.getD k false=true→T k (v z) (v k))) hm hok (fun v _ _ _=>aB4 (by simpa using hng) v) ⟨by simp,fun x o _ h=>(by rw [aAf] at h;cases h),fun _=>⟨(Below.refl _ _).drew,fun k _ h=>(by rw [aAf] at h;cases h)⟩,fun h=>(by rw [aAf] at h;cases h)⟩ ?_ ?_
 ·intro i o hi v listed a W hun hdeps hf hC K hK;obtain ⟨hsz,hcl,hc1,hc2⟩:=hC;have hil:l[i]? =some o:=by simpa using hi
  have hlt:i<l.length:=(List.getElem?_eq_some_iff.1 hil).1;have hltl:i<listed.size:=by omega
  have hunf:listed.getD i false=false:=by
   have:listed[i]=false:=by simpa [hltl] using hun
   simp [hltl,this]
  have hg:∀k,(listed.setIfInBounds i true).getD k false=if k=i then true else listed.getD k false:=fun k=>aAn _ _ _ hltl
  have hdo:∀o',l[i]? =some o'→∀e∈o'.after,Region.binds .any e=true→listed.getD e.on false=true:=fun o' ho'=>by
   rw [hil] at ho';injection ho' with ho';subst ho';exact hdeps
  have hcl':Closed l (listed.setIfInBounds i true):=fun x o' ho' hx e he hb=>by
   rw [hg] at hx ⊢;by_cases hxi:x=i
   ·subst hxi;have:=hdo o' ho' e he hb;split
    ·rfl
    ·exact this
   ·rw [if_neg hxi] at hx;have:=hcl x o' ho' hx e he hb;split
    ·rfl
    ·exact this
  have hvk:∀(x:Value) (k:Nat),listed.getD k false=true→(fun k=>if k=i then x else v k) k=v k:=fun x k hk=>by
   by_cases e:k=i
   ·rw [e,hunf] at hk;cases hk
   ·exact if_neg e
  cases hzl':listed.getD z false with
  |false=>
   obtain ⟨hb,hRk⟩:=hc1 hzl';have hle:i≤z:=Nat.le_of_not_lt fun h=>by
    have:=aA4 hcl f i z (hra' i h hlt) hdo;rw [hzl'] at this;cases this
   have hkz:∀k p,l[k]? =some p→listed.getD k false=true→k<z:=fun k p hk hl=>by
    rcases Nat.lt_trichotomy k z with h|h|h
    ·exact h
    ·rw [h,hzl'] at hl;cases hl
    ·have:=aA4 hcl f k z (hra' k h (List.getElem?_eq_some_iff.1 hk).1) (fun o' ho' e he hb'=>hcl k o' ho' hl e he hb');rw [hzl'] at this;cases this
   have hD:DepF l v a0 R o a W:=⟨fun k p d hk hp hd=>by
     obtain ⟨e,he,hek⟩:=aAu hk;simp only [Bool.and_eq_true,beq_iff_eq] at hek;have:=hdeps e he hek.2;rw [hek.1] at this;exact ⟨hf.yes k p d (by simpa using hp) hd this,hRk k (hkz k p hp this) this⟩,
    fun d hd=>hf.no d fun k p hk hp=>by
     have hk':l[k]? =some p:=by simpa using hk
     have:=List.all_eq_true.1 hd p (List.mem_of_getElem? hk');rw [hp] at this;simp at this⟩
   rcases Nat.lt_or_eq_of_le hle with hi2|rfl
   ·have hS:=StepsL.get hs1 (show (l.take z)[i]? =some o by rw [List.getElem?_take_of_lt hi2];exact hil);rw [Nat.zero_add] at hS;refine hS a v W hD hb K fun x W' hb' hx=>?_;have hzi:(listed.setIfInBounds i true).getD z false=false:=by rw [hg,if_neg (by omega)];exact hzl'
    have:=hK (fun k=>if k=i then x else v k) W' (fun k hk=>hvk x k hk) ⟨by simpa using hsz,hcl',fun _=>⟨hb.trans (hb'.mono hb.size),fun k hk hl=>by
     rw [hg] at hl;by_cases e:k=i
     ·rw [if_pos e,e];exact hx
     ·rw [if_neg e] at hl ⊢;exact hR k _ W W' (hRk k hk hl) hb hb'⟩,fun h=>(by rw [hzi] at h;cases h)⟩
    rwa [if_pos rfl] at this
   ·refine hs2 o hil a v W hD hf.defers hb K fun x W' hx=>?_;have hzi:(listed.setIfInBounds i true).getD i false=true:=by rw [hg,if_pos rfl]
    have:=hK (fun k=>if k=i then x else v k) W' (fun k hk=>hvk x k hk) ⟨by simpa using hsz,hcl',fun h=>(by rw [hzi] at h;cases h),fun _=>⟨by rw [if_pos rfl];exact hx,fun k hk hkl hl=>by
     rw [hg,if_neg (by omega)] at hl;have hp:=List.getElem?_eq_getElem hkl;have:=hkz k _ hp hl;omega⟩⟩
    rwa [if_pos rfl] at this
  |true=>
   obtain ⟨hE,hTk⟩:=hc2 hzl';have hgt:z<i:=by
    rcases Nat.lt_trichotomy i z with h|h|h
    ·have:=aA4 hcl f z i (hr' i h) (fun o' ho' e he hb'=>hcl z o' ho' hzl' e he hb');rw [hunf] at this;cases this
    ·rw [h,hzl'] at hunf;cases hunf
    ·exact h
   have hS:=StepsL.get hs3 (show (l.drop (z+1))[i - (z+1)]? =some o by rw [List.getElem?_drop,show z+1+(i - (z+1))=i by omega];exact hil);rw [show z+1+(i - (z+1))=i by omega] at hS;refine hS a (v z) W (fun p d hp hd=>hf.yes z p d (by simpa using hp) hd hzl') hE K fun x hx=>?_;have hzi:(listed.setIfInBounds i true).getD z false=true:=by rw [hg,if_neg (by omega)];exact hzl'
   have:=hK (fun k=>if k=i then x else v k) W (fun k hk=>hvk x k hk) ⟨by simpa using hsz,hcl',fun h=>(by rw [hzi] at h;cases h),fun _=>⟨by rw [if_neg (by omega)];exact hE,fun k hk hkl hl=>by
    rw [hg] at hl;rw [if_neg (show ¬z=i by omega)];by_cases e:k=i
    ·rw [if_pos e,e];exact hx
    ·rw [if_neg e] at hl ⊢;exact hTk k hk hkl hl⟩⟩
   rwa [if_pos rfl] at this
 ·intro v listed W hall hC;obtain ⟨hsz,hcl,hc1,hc2⟩:=hC;obtain ⟨hE,hT⟩:=hc2 (hall z (by simpa using hzl));have:=hend v W hE fun k hk hkl=>hT k hk hkl (hall k (by simpa using hkl));rw [←hF v] at this;simpa using this
end
end Go.Proofs.YtgjmbbkcgillcaaGreat.PhaseG
