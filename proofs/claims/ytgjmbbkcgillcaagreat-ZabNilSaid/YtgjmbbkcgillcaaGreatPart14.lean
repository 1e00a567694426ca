/- Lemmas, part 14: LogLeafOf, LogEnds, LogLeaves, LogFirst, LogText -/
import Derived.Test.YtgjmbbkcgillcaaGreatPart13
import Derived.Test.YtgjmbbkcgillcaaGreatPart2
import Derived.Below
set_option maxHeartbeats 16000000
namespace Go.Proofs.YtgjmbbkcgillcaaGreat.Log
open Go.RowKit Disk
def leafF (p:List UInt8):Nat×Nat×Nat×List UInt8:=(says p).getD (0,0,0,[])
def textP (p:List UInt8):List UInt8:=if num ((p.drop 12).take 4)≤496 then (p.drop 16).take (num ((p.drop 12).take 4)) else []
theorem aRu {p:List UInt8} (hp:p.length=512):(textS (p.drop 12,false)).1=textP p:=by
 unfold textS;rw [aBk (by rw [List.length_drop];omega),aGt];dsimp only
 rw [List.drop_drop];unfold textP;split
 ·next h=>rw [aBk (by rw [List.length_drop];omega)]
 ·next h=>
  unfold takeS;rw [if_pos (by right;rw [List.length_drop];omega)]
theorem aRw {p:List UInt8} (hp:p.length=512):leafF p=if first8 p=0 then (0,0,0,[]) else if 480<(textP p).length then (0,0,0,[]) else if p=leafP (first8 p) (num ((p.drop 8).take 2)) (num ((p.drop 10).take 2)) (textP p) then (first8 p,num ((p.drop 8).take 2),num ((p.drop 10).take 2),textP p) else (0,0,0,[]):=by
 unfold leafF says;by_cases h0:first8 p=0
 ·rw [if_pos (Or.inl h0),if_pos h0];rfl
 ·rw [if_neg h0];by_cases hL:num ((p.drop 12).take 4)≤496
  ·have ht:textP p=(p.drop 16).take (num ((p.drop 12).take 4)):=if_pos hL;have hl:(textP p).length=num ((p.drop 12).take 4):=by rw [ht,List.length_take,List.length_drop];omega
   by_cases h4:480<num ((p.drop 12).take 4)
   ·rw [if_pos (Or.inr h4),if_pos (by omega)];rfl
   ·rw [if_neg (show ¬(first8 p=0∨480<num ((p.drop 12).take 4)) by omega),if_neg (show ¬480<(textP p).length by omega),←ht];by_cases he:leafP (first8 p) (num ((p.drop 8).take 2)) (num ((p.drop 10).take 2)) (textP p)=p
    ·rw [if_pos he,if_pos he.symm];rfl
    ·rw [if_neg he,if_neg (fun h=>he h.symm)];rfl
  ·have ht:textP p=[]:=if_neg hL;rw [if_pos (Or.inr (by omega)),ht,if_neg (by simp)];rw [if_neg]
   ·rfl
   ·intro he;have:=(aJx (first8 p) (num ((p.drop 8).take 2)) (num ((p.drop 10).take 2)) []).2.2.1;rw [←he] at this;rw [this,aE0] at hL;simp at hL
theorem aMr (bs:List UInt8):num (bs.take 2)<65536:=by
 have h:=aFe (bs.take 2);have:(bs.take 2).length≤2:=by rw [List.length_take];omega
 exact Nat.lt_of_lt_of_le h (Nat.le_trans (Nat.pow_le_pow_right (by decide) this) (by decide))
theorem aJu (p:List UInt8):first8 p<18446744073709551616:=by
 have h:=aFe (p.take 8);have:(p.take 8).length≤8:=by rw [List.length_take];omega
 exact Nat.lt_of_lt_of_le h (Nat.le_trans (Nat.pow_le_pow_right (by decide) this) (by decide))
theorem aX8 {p:List UInt8}:(textP p).length≤496:=by
 unfold textP;split
 ·rw [List.length_take];omega
 ·simp
def LeafV (B:Nat) (f:Nat×Nat×Nat×List UInt8) (x:Value) (W:World):Prop:=
 ∃A n c,x=.agg #[.int .u64 (f.1:Int),.int .u16 (f.2.1:Int),.int .u16 (f.2.2.1:Int),.slice A n c]∧W.ownsRow B 5 1 (.slice A n c) n (f.2.2.2.map U)
theorem _root_.Go.Proofs.YtgjmbbkcgillcaaGreat.Red.grow {w0 w:World} {r:Nat} {v:Value} {s:List UInt8×Bool} {e:Ending} {w':World} {B:Nat} (h:Red w r v s e w') (hb:Below B w0 w) (hr:B≤r) (hB:B≤w.heap.size):Below B w0 w':=
 hb.grown h.2.2 hB fun k hk=>by injection hk with hk;omega
theorem aFz:(Tryz.prog.info? 248).map (·.size)=some 4:=by kernel_rfl
def aYt (f:Nat×Nat×Nat×List UInt8) (w:World) (e:Ending) (w':World):Prop:=∃x,e=.returned x∧LeafV w.heap.size f x w'∧Below w.heap.size w w'
set_option maxRecDepth 100000 in
theorem aSa (A:Option Addr) (c:Nat) (p:List UInt8) (w:World) (h:Rd w A 512 p):Calls Tryz.prog 179 #[.slice A 512 c] w (aYt (leafF p) w):=by
 have hp:p.length=512:=h.len;have hcode:=aRw hp;have htext:=aRu hp;have hb0:Below w.heap.size w (w.alloc (.cells #[.int .u64 0,.int .u16 0,.int .u16 0,.slice none 0 0] 248)):=(Below.refl _ _).alloc (Nat.le_refl _) _;have hk0:Bk (w.alloc (.cells #[.int .u64 0,.int .u16 0,.int .u16 0,.slice none 0 0] 248)) w.heap.size 248 #[.int .u64 0,.int .u16 0,.int .u16 0,.slice none 0 0]:=Bk.new _ _ _;obtain ⟨w0,hw0⟩:∃w0,w0=w.alloc (.cells #[.int .u64 0,.int .u16 0,.int .u16 0,.slice none 0 0] 248):=⟨_,rfl⟩;rw [←hw0] at hb0 hk0;have HW:=Lib.hid hw0;have HB0:=Lib.hid hb0;have HK0:=Lib.hid hk0;have HR0:=Lib.hid (h.below hb0);have HP:=Lib.hid hp;have HC:=Lib.hid hcode;have HT:=Lib.hid htext;clear hw0 hb0 hk0 h hp hcode htext;go_enter Tryz.func179,Tryz.ntmps179
 go_wp2_with fail;rw [←HW.out];refine (aLt A 512 c p w0 HR0.out (by omega)).mono ?_;rintro e w1 ⟨r,rfl,hr,hrd,hb1⟩;have HRr:Hid (w.heap.size≤r):=Nat.le_trans HB0.out.size hr;have HB1:=Lib.hid (HB0.out.trans (hb1.mono HB0.out.size));have HI1:Hid (w0.heap.size≤r):=hr;have HBB1:=Lib.hid hb1;have HRD:=Lib.hid hrd;clear hr hrd hb1;go_wp2_with fail;have cu:=aDi r (p,false) w1 HRD.out;rw [aBk (by have:=HP.out;omega),aGt] at cu;refine cu.mono ?_;clear cu;intro e w2 hred;have HB2:=Lib.hid (hred.grow HBB1.out HI1.out HBB1.out.size);obtain ⟨rfl,hrd,-⟩:=hred;have HRD2:=Lib.hid hrd;clear hrd HRD;dsimp only
 go_wp2_with fail;refine (aHv r (p.drop 8) w2 HRD2.out (by rw [List.length_drop];have:=HP.out;omega)).mono ?_;intro e w3 hred;have HB3:=Lib.hid (hred.grow HB2.out HI1.out HB2.out.size);obtain ⟨rfl,hrd,-⟩:=hred;rw [List.drop_drop] at hrd;have HRD3:=Lib.hid hrd;clear hrd HRD2;go_wp2_with fail;refine (aHv r (p.drop 10) w3 HRD3.out (by rw [List.length_drop];have:=HP.out;omega)).mono ?_;intro e w4 hred;have HB4:=Lib.hid (hred.grow HB3.out HI1.out HB3.out.size);obtain ⟨rfl,hrd,-⟩:=hred;rw [List.drop_drop] at hrd;have HRD4:=Lib.hid hrd;clear hrd HRD3;go_wp2_with fail;refine (aUj r (p.drop 12,false) w4 HRD4.out).mono ?_;rintro e w5 ⟨A5,n5,c5,rfl,hown,-,hg5⟩;rw [HT.out] at hown;have HB5:Hid (Below w0.heap.size w0 w5):=HB4.out.grown hg5 HB4.out.size fun k hk=>by injection hk with hk;have:=HI1.out;omega
 have HR5:=Lib.hid (Rd.of_own hown).1;have HOWN:=Lib.hid hown;have HL5:Hid ((textP p).length=n5):=(Rd.of_own hown).1.len;have HL6:Hid (n5≤496):=by have:=aX8 (p:=p);have:=HL5.out;show _≤_;omega
 clear hown hg5 HRD4 HT;have HS1:=Lib.hid (aJu p);have HS2:=Lib.hid (aMr (p.drop 8));have HS3:=Lib.hid (aMr (p.drop 10));have HRp:=Lib.hid (HR0.out.below HB5.out);have e1:num (p.take 8)=first8 p:=rfl;rw [e1];clear e1;have HC2:=HC.out;generalize first8 p=s at*;generalize num ((p.drop 8).take 2)=a at*;generalize num ((p.drop 10).take 2)=o at*;generalize textP p=t at*;have HCC:=Lib.hid HC2;clear HC2 HC;have FACTS:Hid (∀z:Int,Below w0.heap.size w0 (w5.alloc (.cells #[.int .u64 z,.int .u16 (a:Int),.int .u16 (o:Int),.slice A5 n5 c5] 248))):=fun z=>HB5.out.alloc HB5.out.size _;have zero:∀W,Below w0.heap.size w0 W→(W.cell? ⟨w.heap.size,0,none⟩=some (.int .u64 0)∧W.cell? ⟨w.heap.size,1,none⟩=some (.int .u16 0)∧W.cell? ⟨w.heap.size,2,none⟩=some (.int .u16 0)∧W.cell? ⟨w.heap.size,3,none⟩=some (.slice none 0 0))∧(W.frozen? ⟨w.heap.size,0,none⟩=false∧W.frozen? ⟨w.heap.size,1,none⟩=false∧W.frozen? ⟨w.heap.size,2,none⟩=false∧W.frozen? ⟨w.heap.size,3,none⟩=false):=fun W hW=>
  have h:=HK0.out.below hW
  ⟨⟨h.cell 0,h.cell 1,h.cell 2,h.cell 3⟩,h.frozen 0,h.frozen 1,h.frozen 2,h.frozen 3⟩
 have HZERO:=Lib.hid zero;clear zero;have fin0:∀W,Below w0.heap.size w0 W→∀z0 z1 z2 z3:Value,Below w.heap.size w ((((W.setCell ⟨w.heap.size,0,none⟩ z0).setCell ⟨w.heap.size,1,none⟩ z1).setCell ⟨w.heap.size,2,none⟩ z2).setCell ⟨w.heap.size,3,none⟩ z3)∧Bk ((((W.setCell ⟨w.heap.size,0,none⟩ z0).setCell ⟨w.heap.size,1,none⟩ z1).setCell ⟨w.heap.size,2,none⟩ z2).setCell ⟨w.heap.size,3,none⟩ z3) w.heap.size 248 #[z0,z1,z2,z3]:=fun W hW z0 z1 z2 z3=>by
  refine ⟨?_,by simpa using ((((HK0.out.below hW).set 0 z0).set 1 z1).set 2 z2).set 3 z3⟩;have o4:=(((Out.setCell (X:=(·=w.heap.size)) W (p:=⟨w.heap.size,0,none⟩) rfl z0).trans (Out.setCell (X:=(·=w.heap.size)) _ (p:=⟨w.heap.size,1,none⟩) rfl z1) (fun k hk=>.inl hk)).trans (Out.setCell (X:=(·=w.heap.size)) _ (p:=⟨w.heap.size,2,none⟩) rfl z2) (fun k hk=>.inl hk)).trans (Out.setCell (X:=(·=w.heap.size)) _ (p:=⟨w.heap.size,3,none⟩) rfl z3) (fun k hk=>.inl hk);exact o4.below (HB0.out.trans (hW.mono HB0.out.size)) (fun k hk=>by rw [hk];exact Nat.le_refl _) (Nat.le_trans HB0.out.size hW.size)
 have HFIN:=Lib.hid fin0;clear fin0;by_cases h0:s=0
 ·have HRES:Hid (leafF p=(0,0,0,[])):=by show _=_;rw [HCC.out,if_pos h0]
  clear HCC;subst h0;have hb:=FACTS.out 0;have hz:=HZERO.out _ hb;obtain ⟨⟨k0,k1,k2,k3⟩,f0,f1,f2,f3⟩:=hz;have HB:=Lib.hid hb;clear hb;go_wp2_with fail;obtain ⟨hf1,hf2⟩:=HFIN.out _ HB.out (.int .u64 0) (.int .u16 0) (.int .u16 0) (.slice none 0 0);refine bodyPost_ret (results_cell_row rfl _ _ w.heap.size 248 _ (0,0) _ rfl hf2 Tryz.underlying248 rfl aFz) rfl ?_;refine ⟨_,rfl,?_,hf1⟩;rw [HRES.out];exact ⟨none,0,0,rfl,aD0 _ _ _⟩
 ·have hb:=FACTS.out (s:Int);have hz:=HZERO.out _ hb;obtain ⟨⟨k0,k1,k2,k3⟩,f0,f1,f2,f3⟩:=hz;have HB:=Lib.hid hb;have hs0:¬((s:Int)=0):=by omega
  by_cases h4:480<n5
  ·have HRES:Hid (leafF p=(0,0,0,[])):=by show _=_;rw [HCC.out,if_neg h0,if_pos (by rw [HL5.out];exact h4)]
   clear hb HCC;have h4':(480:Int)<(n5:Int):=by omega
   have h4'':decide ((480:Int)<(n5:Int))=true:=decide_eq_true h4';go_wp2_with fail;obtain ⟨hf1,hf2⟩:=HFIN.out _ HB.out (.int .u64 0) (.int .u16 0) (.int .u16 0) (.slice none 0 0);refine bodyPost_ret (results_cell_row rfl _ _ w.heap.size 248 _ (0,0) _ rfl hf2 Tryz.underlying248 rfl aFz) rfl ?_;refine ⟨_,rfl,?_,hf1⟩;rw [HRES.out];exact ⟨none,0,0,rfl,aD0 _ _ _⟩
  ·have h4':¬(480:Int)<(n5:Int):=by omega
   have h4'':decide ((480:Int)<(n5:Int))=false:=decide_eq_false h4';have hb5:Below w5.heap.size w5 (w5.alloc (.cells #[.int .u64 (s:Int),.int .u16 (a:Int),.int .u16 (o:Int),.slice A5 n5 c5] 248)):=(Below.refl _ _).alloc (Nat.le_refl _) _;have HCL:=Lib.hid (aQj s a o n5 c5 A5 t _ HS1.out HS2.out HS3.out (HR5.out.below hb5) (by omega));have HRV:=Lib.hid (HRp.out.below hb5);have HLF:=Lib.hid (LfAt.new w5 248 s a o A5 n5 c5);have H4:=Lib.hid h4;have HSN:=Lib.hid h0;have HCE:Hid (leafF p=if p=leafP s a o t then (s,a,o,t) else (0,0,0,[])):=by show _=_;rw [HCC.out,if_neg h0,if_neg (by rw [HL5.out];exact h4)]
   have HLL:Hid ((leafP s a o t).length=512):=aCc (by rw [HL5.out];omega);clear hb h4 h0 hb5 k0 k1 k2 k3 f0 f1 f2 f3 HCC;generalize leafP s a o t=q at*;go_wp2_with fail;refine HCL.out.mono ?_;intro e w6 hput;obtain ⟨x,rfl,hput⟩:=hput.val;obtain ⟨hsl,hb6⟩:=hput.sl;obtain ⟨A6,n6,c6,rfl,-,-,hr6⟩:=hsl;have HR6:=Lib.hid hr6;have HB6:=Lib.hid (HB.out.trans (hb6.mono HB.out.size));have HRV6:=Lib.hid (HRV.out.below hb6);have HOW6:=Lib.hid ((HOWN.out.alloc (.cells #[.int .u64 (s:Int),.int .u16 (a:Int),.int .u16 (o:Int),.slice A5 n5 c5] 248)).kept (aA7 hb6 none) (Classical.em _));have hlf:=HLF.out.keep (hb6.block _ (by rw [aBd];omega));have hz:=HZERO.out _ HB6.out;clear hput hb6 hr6 HCL;go_wp2_with fail;refine (aK5 A A6 512 n6 c c6 p q w6 HRV6.out HR6.out).mono ?_;rintro e _ ⟨rfl,rfl⟩;obtain ⟨⟨k0,k1,k2,k3⟩,f0,f1,f2,f3⟩:=hz;by_cases hpq:p=q
   ·have HRES:Hid (leafF p=(s,a,o,t)):=by show _=_;rw [HCE.out,if_pos hpq]
    rw [decide_eq_true hpq];obtain ⟨c0,c1,c2,c3⟩:=hlf;clear hpq HCE;go_wp2_with fail;obtain ⟨hf1,hf2⟩:=HFIN.out _ HB6.out (.int .u64 (s:Int)) (.int .u16 (a:Int)) (.int .u16 (o:Int)) (.slice A5 n5 c5);refine bodyPost_ret (results_cell_row rfl _ _ w.heap.size 248 _ (0,0) _ rfl hf2 Tryz.underlying248 rfl aFz) rfl ?_;refine ⟨_,rfl,?_,hf1⟩;rw [HRES.out];have hbk0:w.heap.size<w0.heap.size:=HK0.out.lt;have hlt:w.heap.size<w4.heap.size:=Nat.lt_of_lt_of_le hbk0 HB4.out.size;exact ⟨A5,n5,c5,rfl,aAh (ownsRow_setCell_below (ownsRow_setCell_below (ownsRow_setCell_below (ownsRow_setCell_below HOW6.out (a:=⟨w.heap.size,0,none⟩) hlt _) (a:=⟨w.heap.size,1,none⟩) hlt _) (a:=⟨w.heap.size,2,none⟩) hlt _) (a:=⟨w.heap.size,3,none⟩) hlt _) (Nat.le_of_lt hlt)⟩
   ·have HRES:Hid (leafF p=(0,0,0,[])):=by show _=_;rw [HCE.out,if_neg hpq]
    rw [decide_eq_false hpq];clear hpq HCE hlf;go_wp2_with fail;obtain ⟨hf1,hf2⟩:=HFIN.out _ HB6.out (.int .u64 0) (.int .u16 0) (.int .u16 0) (.slice none 0 0);refine bodyPost_ret (results_cell_row rfl _ _ w.heap.size 248 _ (0,0) _ rfl hf2 Tryz.underlying248 rfl aFz) rfl ?_;refine ⟨_,rfl,?_,hf1⟩;rw [HRES.out];exact ⟨none,0,0,rfl,aD0 _ _ _⟩
end Go.Proofs.YtgjmbbkcgillcaaGreat.Log
namespace Go.Proofs.YtgjmbbkcgillcaaGreat.Log
open Go.RowKit Disk
open PhaseG (aDq Took)
open Phase (aA0 aA2)
theorem aUx {W W':World} {A:Option Addr} {n:Nat} {bs:List UInt8} {Z:Nat→Prop} (h:Rd W A n bs) (ho:Out Z W W') (hz:∀b,Z b→∃t cs,Bk W b t cs∧∀(i:Nat) (y:UInt8),cs[i]?≠some (U y)):Rd W' A n bs:=
 ⟨h.len,fun h0=>by
  obtain ⟨ad,e,hc⟩:=h.cells h0;refine ⟨ad,e,fun j b hb=>?_⟩;have h1:=hc j b hb;refine (ho.cell (World.block_lt_of_cell? W _ h1) fun hZ=>?_).trans h1;obtain ⟨t,cs,hk,hn⟩:=hz _ hZ;exact aG2 hk hn h1 rfl⟩
theorem aW7 {W W':World} {r:Nat} {s:List UInt8×Bool} {Z:Nat→Prop} (h:Rdr W r s) (ho:Out Z W W') (hr:¬Z r) (hz:∀b,Z b→∃s',Rdr W b s'):Rdr W' r s:=by
 obtain ⟨A,n,c,hk,h1,h2,h3⟩:=h;refine ⟨A,n,c,hk.kept (ho.block r hk.lt hr),h1,h2,aUx h3 ho fun b hb=>?_⟩;obtain ⟨s',A',n',c',hk',_⟩:=hz b hb;exact ⟨_,_,hk',aDh _ _ _ _⟩
theorem aZk {W:World} {r:Nat} {s:List UInt8×Bool} (h:Rdr W r s):r<W.heap.size:=by
 obtain ⟨A,n,c,hk,_⟩:=h;exact hk.lt
theorem aH5 {W W':World} {r:Nat} {Z:Nat→Prop} (h:W.grownBy W' (some r)) (hz:Z r):Out Z W W':=
 ⟨h.os,h.tape,h.output,h.size,fun k hk hZ=>h.block k hk (fun e=>by injection e with e;exact hZ (e ▸ hz))⟩
def conE:Nat→Option Nat
 |2=>some 1
 |6=>some 5
 |_=>none
def RE (_w:World) (ad:Addr) (c:Nat) (p:List UInt8):Nat→Value→World→Prop
 |0,x,_=>x=.slice (some ad) 512 c
 |1,x,W=>∃r,x=.pointer (some ⟨r,0,none⟩)∧Rdr W r (p,false)
 |2,x,_=>x=.int .u64 (first8 p:Int)
 |3,x,_=>x=.slice (some ad) 512 c
 |4,x,_=>x=.slice (some (ad.add 504)) 8 (c - 504)
 |5,x,W=>∃r,x=.pointer (some ⟨r,0,none⟩)∧Rdr W r (p.drop 504,false)
 |6,x,_=>x=.int .u64 (last8 p:Int)
 |7,x,_=>x=.int .u64 ((max (first8 p) (last8 p):Nat):Int)
 |8,x,_=>x=.int .u64 ((max (first8 p) (last8 p):Nat):Int)
 |_,_,_=>True
def OE:Nat→Value→Nat→Prop
 |1,x,b=>x=.pointer (some ⟨b,0,none⟩)
 |5,x,b=>x=.pointer (some ⟨b,0,none⟩)
 |_,_,_=>False
theorem OE.rdr {w:World} {ad:Addr} {c:Nat} {p:List UInt8} {W:World} {k b:Nat} {x:Value} (h:RE w ad c p k x W) (ho:OE k x b):∃s,Rdr W b s:=by
 match k,h,ho with
 |1,⟨r,e,h⟩,ho=>
  have ho:x=.pointer (some ⟨b,0,none⟩):=ho;rw [e] at ho;injection ho with ho;injection ho with ho;injection ho with ho;exact ⟨_,ho ▸ h⟩
 |5,⟨r,e,h⟩,ho=>
  have ho:x=.pointer (some ⟨b,0,none⟩):=ho;rw [e] at ho;injection ho with ho;injection ho with ho;injection ho with ho;exact ⟨_,ho ▸ h⟩
theorem RE.out {w:World} {ad:Addr} {c:Nat} {p:List UInt8} (k:Nat) (x:Value) (Z:Nat→Prop) (W W':World) (h:RE w ad c p k x W) (ho:Out Z W W') (hz:∀b,Z b→∃k' x',RE w ad c p k' x' W∧OE k' x' b) (hn:∀b,OE k x b→¬Z b):RE w ad c p k x W':=by
 have hz':∀b,Z b→∃s,Rdr W b s:=fun b hb=>by
  obtain ⟨k',x',h1,h2⟩:=hz b hb;exact OE.rdr h1 h2
 match k,h with
 |0,h=>exact h
 |1,⟨r,e,h⟩=>exact ⟨r,e,aW7 h ho (hn r e) hz'⟩
 |2,h=>exact h
 |3,h=>exact h
 |4,h=>exact h
 |5,⟨r,e,h⟩=>exact ⟨r,e,aW7 h ho (hn r e) hz'⟩
 |6,h=>exact h
 |7,h=>exact h
 |8,h=>exact h
 |_+9,_=>trivial
theorem aQz (p:List UInt8) (hp:p.length=512):last8 p<18446744073709551616:=by
 have h:=aFe (p.drop 504);rw [List.length_drop,hp] at h;exact h
set_option maxRecDepth 100000 in
theorem aTs (A:Option Addr) (c:Nat) (p:List UInt8) (w:World) (h:Rd w A 512 p) (hc:512≤c):Calls Tryz.prog 178 #[.slice A 512 c] w fun e w'=>e=.returned (.int .u64 ((max (first8 p) (last8 p):Nat):Int))∧Below w.heap.size w w':=by
 obtain ⟨ad,rfl,-⟩:=h.cells (by omega);have HR:Hid (∀W,Below w.heap.size w W→Rd W (some ad) 512 p):=fun W hW=>h.below hW;have HD:Hid (∀W,Below w.heap.size w W→Rd W (some (ad.add 504)) 8 (p.drop 504)):=fun W hW=>by
  have:=(h.below hW).drop (k:=504) (c:=c) (by omega) hc;rw [if_neg (by omega)] at this;exact this
 have HP:Hid (p.length=512):=h.len;have HC:=Lib.hid hc;clear h hc;go_enter Tryz.func178,Tryz.ntmps178
 go_wp2_with fail;refine aDq conE (RE w ad c p) OE (by kernel_rfl) (by kernel_rfl) (by kernel_rfl) (by kernel_rfl) ?_ ?_ (fun v=>{tmps:=#[.slice (some ad) 512 c,undef,v 8,v 0,v 1,v 2,v 3,v 4,v 5,v 6,v 7],defers:=[]}) (fun v=>by kernel_rfl) ?_
 ·intro k x Z W W' hx hb ho hzw hz hn;exact RE.out _ _ _ _ _ hx ho hz hn
 ·refine aA0 ?_ (aA0 ?_ (aA0 ?_ (aA0 ?_ (aA0 ?_ (aA0 ?_ (aA0 ?_ (aA0 ?_ (aA0 ?_ (aA2)))))))))
  ·intro a v W hd hb K hK;have k0:a.tmps.getD 0 undef=.slice (some ad) 512 c:=hd.kept 0 (by kernel_rfl);have hk:=hK (.slice (some ad) 512 c) W (Out.refl _ _) rfl (fun b hob=>False.elim hob);clear hK;unfold Oper.wp;go_simp;exact hk
  ·intro a v W hd hb K hK;obtain ⟨h3,r3⟩:=hd.done_ 0 _ 3 (by kernel_rfl) rfl rfl (by kernel_rfl);have r3:v 0=.slice (some ad) 512 c:=r3;rw [r3] at h3;have cw:=aLt _ 512 c (p) W (HR.out W hb) (by omega);have hk:=hK;clear hK;unfold Oper.wp;go_simp;refine cw.mono ?_;rintro e W' ⟨r,rfl,hr,hrd,hbw⟩;refine hk _ W' (Out.of_below hbw) ⟨r,rfl,hrd⟩ fun b hob=>?_;have hob:Value.pointer (some ⟨r,0,none⟩)=.pointer (some ⟨b,0,none⟩):=hob;injection hob with hob;injection hob with hob;injection hob with hob;rw [←hob];exact ⟨aZk hrd,Or.inl hr⟩
  ·intro a v W hd hb K hK;obtain ⟨h4,r4⟩:=hd.done_ 1 _ 4 (by kernel_rfl) rfl rfl (by kernel_rfl);obtain ⟨q1,e1,d1⟩:=r4;rw [e1] at h4;have cw:=aDi q1 (p,false) W d1;rw [aBk (by have:=HP.out;omega),aGt] at cw;have hk:=hK;clear hK;unfold Oper.wp;go_simp;refine cw.mono ?_;rintro e W' ⟨rfl,hrd,hgr⟩;refine hk _ W' (aH5 hgr ⟨1,rfl,e1⟩) ?_ fun b hob=>False.elim hob;exact rfl
  ·intro a v W hd hb K hK;have k0:a.tmps.getD 0 undef=.slice (some ad) 512 c:=hd.kept 0 (by kernel_rfl);have hk:=hK (.slice (some ad) 512 c) W (Out.refl _ _) rfl (fun b hob=>False.elim hob);clear hK;unfold Oper.wp;go_simp;exact hk
  ·intro a v W hd hb K hK;obtain ⟨h6,r6⟩:=hd.done_ 3 _ 6 (by kernel_rfl) rfl rfl (by kernel_rfl);have r6:v 3=.slice (some ad) 512 c:=r6;rw [r6] at h6;have hk:=hK (.slice (some (ad.add 504)) 8 (c - 504)) W (Out.refl _ _) rfl (fun b hob=>False.elim hob);clear hK;have g1:(504:Int)≤512:=by omega
   have g2:((c - 504:Nat):Int)=(c:Int) - 504:=by have:=HC.out;omega
   have g3:¬(c=504):=by have:=HC.out;omega
   have g4:(512:Int)≤(c:Int):=by have:=HC.out;omega
   have g5:(c - 504=0)=False:=by have:=HC.out;exact eq_false (by omega)
   have g6:¬(c≤504):=by have:=HC.out;omega
   have g7:512≤c:=HC.out;unfold Oper.wp;go_simp;exact hk
  ·intro a v W hd hb K hK;obtain ⟨h7,r7⟩:=hd.done_ 4 _ 7 (by kernel_rfl) rfl rfl (by kernel_rfl);have r7:v 4=.slice (some (ad.add 504)) 8 (c - 504):=r7;rw [r7] at h7;have cw:=aLt _ 8 (c - 504) (p.drop 504) W (HD.out W hb) (by omega);have hk:=hK;clear hK;unfold Oper.wp;go_simp;refine cw.mono ?_;rintro e W' ⟨r,rfl,hr,hrd,hbw⟩;refine hk _ W' (Out.of_below hbw) ⟨r,rfl,hrd⟩ fun b hob=>?_;have hob:Value.pointer (some ⟨r,0,none⟩)=.pointer (some ⟨b,0,none⟩):=hob;injection hob with hob;injection hob with hob;injection hob with hob;rw [←hob];exact ⟨aZk hrd,Or.inl hr⟩
  ·intro a v W hd hb K hK;obtain ⟨h8,r8⟩:=hd.done_ 5 _ 8 (by kernel_rfl) rfl rfl (by kernel_rfl);obtain ⟨q5,e5,d5⟩:=r8;rw [e5] at h8;have cw:=aDi q5 (p.drop 504,false) W d5;rw [aBk (by rw [List.length_drop];have:=HP.out;omega),aGt] at cw;have hk:=hK;clear hK;unfold Oper.wp;go_simp;refine cw.mono ?_;rintro e W' ⟨rfl,hrd,hgr⟩;refine hk _ W' (aH5 hgr ⟨5,rfl,e5⟩) ?_ fun b hob=>False.elim hob;show Value.int .u64 _=_;rw [List.take_of_length_le (by rw [List.length_drop];have:=HP.out;omega)];rfl
  ·intro a v W hd hb K hK;obtain ⟨h5,r5⟩:=hd.done_ 2 _ 5 (by kernel_rfl) rfl rfl (by kernel_rfl);have r5:v 2=.int .u64 (first8 p:Int):=r5;rw [r5] at h5;obtain ⟨h9,r9⟩:=hd.done_ 6 _ 9 (by kernel_rfl) rfl rfl (by kernel_rfl);have r9:v 6=.int .u64 (last8 p:Int):=r9;rw [r9] at h9;have hk:=hK (.int .u64 ((max (first8 p) (last8 p):Nat):Int)) W (Out.refl _ _) rfl (fun b hob=>False.elim hob);clear hK;have g1:((max (first8 p) (last8 p):Nat):Int)=max (first8 p:Int) (last8 p:Int):=by omega
   rw [g1] at hk;clear g1;generalize (first8 p:Int)=x1 at*;generalize (last8 p:Int)=x2 at*;unfold Oper.wp;go_simp;exact hk
  ·intro a v W hd hb K hK;obtain ⟨h10,r10⟩:=hd.done_ 7 _ 10 (by kernel_rfl) rfl rfl (by kernel_rfl);have r10:v 7=.int .u64 ((max (first8 p) (last8 p):Nat):Int):=r10;rw [r10] at h10;have hk:=hK (.int .u64 ((max (first8 p) (last8 p):Nat):Int)) W (Out.refl _ _) rfl (fun b hob=>False.elim hob);clear hK;unfold Oper.wp;go_simp;exact hk
 ·intro v w1 hb1 hv;have v8:v 8=.int .u64 ((max (first8 p) (last8 p):Nat):Int):=hv 8 (by decide) (fun j _ hc=>by
   match j,hc with
   |2,hc=>cases hc
   |6,hc=>cases hc)
  rw [v8];clear hv v8;go_wp2_with fail;go_ret;exact ⟨rfl,hb1⟩
end Go.Proofs.YtgjmbbkcgillcaaGreat.Log
namespace Go.Proofs.YtgjmbbkcgillcaaGreat.Log
open Go.RowKit Disk
abbrev Lf:=Nat×Nat×Nat×List UInt8
theorem aJz {p:List UInt8} {s a o:Nat} {b:List UInt8} (h:says p=some (s,a,o,b)):s<18446744073709551616∧a<65536∧o<65536∧b.length≤480∧0<s:=by
 have h1:=aEc h;have h2:=aGj h;unfold says at h;split at h
 ·cases h
 ·split at h
  ·injection h with h;injection h with e1 h;injection h with e2 h;injection h with e3 e4;have t1:=aMr (p.drop 8);have t2:=aMr (p.drop 10);exact ⟨h2.2,by omega,by omega,h2.1,h1.2.2⟩
  ·cases h
theorem aCx {p:List UInt8} {s a o:Nat} {b:List UInt8} (h:says p=some (s,a,o,b)):leafF p=(s,a,o,b):=by unfold leafF;rw [h];rfl
theorem aGg {p:List UInt8} (h:says p=none):leafF p=(0,0,0,[]):=by unfold leafF;rw [h];rfl
theorem aC8 (p:List UInt8):(leafF p).1<18446744073709551616∧(leafF p).2.1<65536∧(leafF p).2.2.1<65536∧(leafF p).2.2.2.length≤480:=by
 cases h:says p with
 |none=>rw [aGg h];decide
 |some x=>
  obtain ⟨s,a,o,b⟩:=x;rw [aCx h];have:=aJz h;exact ⟨this.1,this.2.1,this.2.2.1,this.2.2.2.1⟩
theorem aNx {p:List UInt8} (h:0<(leafF p).1):says p=some (leafF p):=by
 cases hs:says p with
 |none=>rw [aGg hs] at h;exact absurd h (by decide)
 |some x=>obtain ⟨s,a,o,b⟩:=x;rw [aCx hs]
structure LvS (W:World) (B o n:Nat) (fs:List Lf):Prop where
 len:fs.length=n
 at_:∀(j:Nat) (f:Lf),fs[j]? =some f→∃A m c,m≤c∧Rd W A m f.2.2.2∧W.cell? ⟨B,o+j*4,none⟩=some (.int .u64 (f.1:Int))∧W.cell? ⟨B,o+j*4+1,none⟩=some (.int .u16 (f.2.1:Int))∧W.cell? ⟨B,o+j*4+2,none⟩=some (.int .u16 (f.2.2.1:Int))∧W.cell? ⟨B,o+j*4+3,none⟩=some (.slice A m c)
theorem LvS.below {W W':World} {B o n:Nat} {fs:List Lf} (h:LvS W B o n fs) (hb:Below W.heap.size W W'):LvS W' B o n fs:=
 ⟨h.len,fun j f hj=>by
  obtain ⟨A,m,c,h0,h1,c0,c1,c2,c3⟩:=h.at_ j f hj;have k:=fun (i:Nat) (v:Value) (hc:W.cell? ⟨B,i,none⟩=some v)=>(hb.cell (World.block_lt_of_cell? W _ hc)).trans hc;exact ⟨A,m,c,h0,h1.below hb,k _ _ c0,k _ _ c1,k _ _ c2,k _ _ c3⟩⟩
theorem LvS.drop {W:World} {B o n:Nat} {fs:List Lf} (h:LvS W B o n fs) (k:Nat) (_hk:k≤n):LvS W B (o+k*4) (n - k) (fs.drop k):=
 ⟨by rw [List.length_drop,h.len],fun j f hj=>by
  rw [List.getElem?_drop] at hj;obtain ⟨A,m,c,h0,h1,c0,c1,c2,c3⟩:=h.at_ (k+j) f hj;have e:o+(k+j)*4=o+k*4+j*4:=by omega
  rw [e] at c0 c1 c2 c3;exact ⟨A,m,c,h0,h1,c0,c1,c2,c3⟩⟩
theorem LvS.take {W:World} {B o n:Nat} {fs:List Lf} (h:LvS W B o n fs) (k:Nat) (hk:k≤n):LvS W B o k (fs.take k):=
 ⟨by rw [List.length_take,h.len];omega,fun j f hj=>by
  rw [List.getElem?_take] at hj;split at hj
  ·exact h.at_ j f hj
  ·cases hj⟩
def headS (f:Lf):Nat:=if f.2.1=0∧f.2.2.1=0∧f.2.2.2=[] then f.1 else 0
set_option maxRecDepth 100000 in
theorem aLy (s a o n c:Nat) (A:Option Addr) (b:List UInt8) (w:World) (hb:b.length=n) (_hs:s<18446744073709551616) (ha:a<65536) (ho:o<65536) (hn:n≤480):
  Calls Tryz.prog 208 #[.agg #[.int .u64 (s:Int),.int .u16 (a:Int),.int .u16 (o:Int),.slice A n c]] w fun e w'=>e=.returned (.int .u64 (headS (s,a,o,b):Int))∧Below w.heap.size w w':=by
 have HB:Hid (Below w.heap.size w (w.alloc (.cells #[.int .u64 (s:Int),.int .u16 (a:Int),.int .u16 (o:Int),.slice A n c] 248))):=(Below.refl _ _).alloc (Nat.le_refl _) _;have HL:Hid (b.length=n):=hb;unfold headS;dsimp only
 by_cases h1:a=0
 ·subst h1;by_cases h2:o=0
  ·subst h2;by_cases h3:n=0
   ·have:b=[]:=List.eq_nil_of_length_eq_zero (by rw [HL.out];exact h3);rw [if_pos ⟨rfl,rfl,this⟩];subst h3;clear this hb HL;go_enter Tryz.func208,Tryz.ntmps208
    go_wp2_with fail;go_ret;exact ⟨rfl,HB.out⟩
   ·have hne:¬(b=[]):=fun h=>h3 (by rw [←HL.out,h];rfl);rw [if_neg (fun h=>hne h.2.2)];have g1:decide ((0:Int)<(n:Int))=true:=decide_eq_true (by omega);clear hb HL hne;go_enter Tryz.func208,Tryz.ntmps208
    go_wp2_with fail;go_ret;exact ⟨rfl,HB.out⟩
  ·rw [if_neg (fun h=>h2 h.2.1)];have g1:¬((o:Int)=0):=by omega
   clear hb HL;go_enter Tryz.func208,Tryz.ntmps208
   go_wp2_with fail;go_ret;exact ⟨rfl,HB.out⟩
 ·rw [if_neg (fun h=>h1 h.1)];have g1:¬((a:Int)=0):=by omega
  clear hb HL;go_enter Tryz.func208,Tryz.ntmps208
  go_wp2_with fail;go_ret;exact ⟨rfl,HB.out⟩
end Go.Proofs.YtgjmbbkcgillcaaGreat.Log
namespace Go.Proofs.YtgjmbbkcgillcaaGreat.Log
open Go.RowKit Disk
def Going (ps:Pages) (last e k:Nat):Prop:=∀j,j<k→last<(leafF (pg ps e)).1∧(leafF (pg ps (e+j))).1=(leafF (pg ps e)).1∧(leafF (pg ps (e+j))).2.1=j∧(leafF (pg ps (e+j))).2.2.1=(leafF (pg ps e)).2.2.1∧j+1≠(leafF (pg ps e)).2.2.1
theorem aJb {ps:Pages} {s m:Nat} (hs:0<s):∀(k e i:Nat),(∀j,j<k→(leafF (pg ps (e+j))).1=s∧(leafF (pg ps (e+j))).2.1=i+j∧(leafF (pg ps (e+j))).2.2.1=m)→leaves ps s m e i k=some ((List.range k).map fun j=>(leafF (pg ps (e+j))).2.2.2).flatten
 |0,_,_,_=>rfl
 |k+1,e,i,h=>by
  have h0:=h 0 (by omega);have hp:=aNx (p:=pg ps e) (by have:=h0.1;rw [Nat.add_zero] at this;omega);rw [Nat.add_zero] at h0;rw [leaves,hp];rcases hx:leafF (pg ps e) with ⟨s',i',m',b'⟩;rw [hx] at h0;dsimp only at h0 ⊢
  rw [if_pos ⟨h0.1,by omega,h0.2.2⟩,aJb hs k (e+1) (i+1) fun j hj=>by
   have:=h (j+1) (by omega);rw [show e+1+j=e+(j+1) from by omega];exact ⟨this.1,by omega,this.2.2⟩]
  rw [Option.map_some,List.range_succ_eq_map,List.map_cons,List.flatten_cons,show leafF (pg ps (e+0))=(s',i',m',b') from hx,List.map_map]
  congr 4
  funext j
  show _=(leafF (pg ps (e+(j+1)))).2.2.2;rw [show e+1+j=e+(j+1) from by omega]
theorem aK0 {ps:Pages} {last e s m:Nat} {b:List UInt8} (h:rec1 ps last e=some (s,m,b)):last<s∧1≤m∧e+m≤ps.length∧(leafF (pg ps e)).1=s∧(leafF (pg ps e)).2.2.1=m∧∀j,j<m→(leafF (pg ps (e+j))).1=s∧(leafF (pg ps (e+j))).2.1=j∧(leafF (pg ps (e+j))).2.2.1=m:=by
 obtain ⟨h1,h2,h3,h4,c,h5⟩:=aAz h;refine ⟨h1,h2,h3,by rw [aCx h5],by rw [aCx h5],fun j hj=>?_⟩;obtain ⟨c',h6⟩:=aFi h4 j hj;rw [aCx h6];exact ⟨rfl,by dsimp only;omega,rfl⟩
theorem aVg {ps:Pages} {last e k:Nat} (hg:Going ps last e k) (hbad:(leafF (pg ps (e+k))).1≤last∨(leafF (pg ps (e+k))).1≠(leafF (pg ps e)).1∨(leafF (pg ps (e+k))).2.2.1≠(leafF (pg ps e)).2.2.1∨(leafF (pg ps (e+k))).2.1≠k):rec1 ps last e=none:=by
 cases h:rec1 ps last e with
 |none=>rfl
 |some x=>
  obtain ⟨s,m,b⟩:=x;obtain ⟨h1,h2,h3,h4,h5,h6⟩:=aK0 h;have hk:k<m:=by
   refine Nat.lt_of_not_le fun hle=>?_;have:=(hg (m - 1) (by omega)).2.2.2.2;rw [h5] at this;omega
  have:=h6 k hk;rw [h4,h5] at hbad;omega
theorem aQn {ps:Pages} {last e k:Nat} (hg:Going ps last e k) (hk:ps.length≤e+k):rec1 ps last e=none:=by
 cases h:rec1 ps last e with
 |none=>rfl
 |some x=>
  obtain ⟨s,m,b⟩:=x;obtain ⟨h1,h2,h3,h4,h5,h6⟩:=aK0 h;have:=(hg (m - 1) (by omega)).2.2.2.2;rw [h5] at this;omega
theorem aTx {ps:Pages} {last e k:Nat} (hg:Going ps last e k) (hl:e+k<ps.length) (h1:last<(leafF (pg ps (e+k))).1) (h2:(leafF (pg ps (e+k))).1=(leafF (pg ps e)).1) (h3:(leafF (pg ps (e+k))).2.2.1=(leafF (pg ps e)).2.2.1) (h4:(leafF (pg ps (e+k))).2.1=k) (h5:k+1=(leafF (pg ps e)).2.2.1):
  rec1 ps last e=some ((leafF (pg ps e)).1,k+1,((List.range (k+1)).map fun j=>(leafF (pg ps (e+j))).2.2.2).flatten):=by
 have hp:says (pg ps e)=some (leafF (pg ps e)):=aNx (by omega);unfold rec1;rw [hp];have hl':=aJb (ps:=ps) (s:=(leafF (pg ps e)).1) (m:=(leafF (pg ps e)).2.2.1) (by omega) (k+1) e 0 fun j hj=>by
  by_cases hjk:j=k
  ·rw [hjk];exact ⟨h2,by omega,h3⟩
  ·have:=hg j (by omega);exact ⟨this.2.1,by omega,this.2.2.2.1⟩
 rcases hx:leafF (pg ps e) with ⟨s',i',m',b'⟩;rw [hx] at hl' h2 h3 h5;dsimp only at hl' h2 h3 h5 ⊢
 rw [if_pos ⟨by omega,by omega,by omega⟩,←h5];rw [←h5] at hl';rw [hl'];rfl
def aUv (ps:Pages) (last e B o c:Nat) (w:World) (x:Ending) (w':World):Prop:=
 Below w.heap.size w w'∧match rec1 ps last e with
 |none=>x=.returned (.slice none 0 0)
 |some (_,m,_)=>x=.returned (.slice (some ⟨B,o,none⟩) m c)
theorem aSs (A:Option Addr) (c last:Nat) (w:World):Calls Tryz.prog 209 #[.slice A 0 c,.int .u64 (last:Int)] w (Ans (.slice none 0 0) w):=by
 go_enter Tryz.func209,Tryz.ntmps209
 go_wp2_with fail;go_loopw [10] (fun i wr=>i=.int .i64 0∧wr=w) (fun _ _=>1)
 case atStart=>exact ⟨rfl,rfl⟩
 case round=>
  obtain ⟨rfl,rfl⟩:=hrel;go_wp2_with fail;go_ret;exact ⟨rfl,rfl⟩
def aZb (ps:Pages) (last e n:Nat) (w:World) (i:Value) (wr:World):Prop:=∃k:Nat,k≤n∧i=.int .i64 (k:Int)∧Below w.heap.size w wr∧Going ps last e k
theorem aKt (ps:Pages) (last e:Nat):Going ps last e 0:=fun j hj=>absurd hj (by omega)
set_option maxRecDepth 100000 in
theorem aX0 (B o n c last e:Nat) (ps:Pages) (w:World) (h:LvS w B o n ((ps.drop e).map leafF)) (h0:0<n) (hn:n≤100000) (hnc:n≤c) (hne:e+n=ps.length):
  Calls Tryz.prog 209 #[.slice (some ⟨B,o,none⟩) n c,.int .u64 (last:Int)] w (aUv ps last e B o c w):=by
 have hget:∀j,j<n→((ps.drop e).map leafF)[j]? =some (leafF (pg ps (e+j))):=fun j hj=>by
  unfold pg;rw [List.getElem?_map,List.getElem?_drop,List.getD_eq_getElem?_getD,List.getElem?_eq_getElem (by omega)];rfl
 have HG:=Lib.hid hget;have H:=Lib.hid h;have HNE:=Lib.hid hne;have HNC:=Lib.hid hnc;clear h hget hne;go_enter Tryz.func209,Tryz.ntmps209
 go_wp2_with fail;go_loopw [10] (fun i wr=>aZb ps last e n w i wr) (fun i _=>n - (intOf i).toNat)
 case atStart=>exact ⟨0,by omega,rfl,Below.refl _ _,aKt _ _ _⟩
 case round=>
  obtain ⟨k,hk,rfl,hb,hg⟩:=hrel;have HB:=Lib.hid hb;have HGO:=Lib.hid hg;clear hb hg;by_cases hlt:k<n
  ·obtain ⟨A1,m1,c1,_,_,x0,x1,x2,x3⟩:=(H.out.below HB.out).at_ k _ (HG.out k hlt);have hg0:=HG.out 0 h0;rw [Nat.add_zero] at hg0;obtain ⟨A2,m2,c2,_,_,y0,y1,y2,y3⟩:=(H.out.below HB.out).at_ 0 _ hg0;rw [Nat.zero_mul,Nat.add_zero] at y0 y1 y2 y3;have HSTOP:=Lib.hid (fun hbad=>aVg (ps:=ps) (last:=last) (e:=e) (k:=k) HGO.out hbad);have HWHOLE:=Lib.hid (aTx (ps:=ps) (last:=last) (e:=e) (k:=k) HGO.out (by have:=HNE.out;omega));have hbd1:=aC8 (pg ps (e+k));have hbd2:=aC8 (pg ps e);have HNEXT:Hid (last<(leafF (pg ps e)).1→(leafF (pg ps (e+k))).1=(leafF (pg ps e)).1→(leafF (pg ps (e+k))).2.1=k→(leafF (pg ps (e+k))).2.2.1=(leafF (pg ps e)).2.2.1→k+1≠(leafF (pg ps e)).2.2.1→Going ps last e (k+1)):=fun a1 a2 a3 a4 a5 j hj=>by
    by_cases hjk:j=k
    ·rw [hjk];exact ⟨a1,a2,a3,a4,a5⟩
    ·exact HGO.out j (by omega)
   clear hg0;obtain ⟨FL,hFL⟩:∃FL,FL=((List.range (k+1)).map fun j=>(leafF (pg ps (e+j))).2.2.2).flatten:=⟨_,rfl⟩;rw [←hFL] at HWHOLE;clear hFL;generalize (leafF (pg ps (e+k))).1=s1 at*;generalize (leafF (pg ps (e+k))).2.1=a1 at*;generalize (leafF (pg ps (e+k))).2.2.1=o1 at*;generalize (leafF (pg ps e)).1=s0 at*;generalize (leafF (pg ps e)).2.1=a0 at*;generalize (leafF (pg ps e)).2.2.1=o0 at*;have hb1:Below wr.heap.size wr (wr.alloc (.cells #[.int .u64 (s1:Int),.int .u16 (a1:Int),.int .u16 (o1:Int),.slice A1 m1 c1] 248)):=(Below.refl _ _).alloc (Nat.le_refl _) _;have z0:=(hb1.cell (World.block_lt_of_cell? wr _ y0)).trans y0;have z1:=(hb1.cell (World.block_lt_of_cell? wr _ y1)).trans y1;have z2:=(hb1.cell (World.block_lt_of_cell? wr _ y2)).trans y2;have z3:=(hb1.cell (World.block_lt_of_cell? wr _ y3)).trans y3;have HB2:Hid (Below w.heap.size w ((wr.alloc (.cells #[.int .u64 (s1:Int),.int .u16 (a1:Int),.int .u16 (o1:Int),.slice A1 m1 c1] 248)).alloc (.cells #[.int .u64 (s0:Int),.int .u16 (a0:Int),.int .u16 (o0:Int),.slice A2 m2 c2] 248))):=
    (HB.out.alloc HB.out.size _).alloc (Nat.le_trans HB.out.size hb1.size) _
   have HBD:Hid (s1<18446744073709551616∧a1<65536∧o1<65536∧o0<65536):=⟨hbd1.1,hbd1.2.1,hbd1.2.2.1,hbd2.2.2.1⟩;have w1:IntKind.i64.wrap (a1:Int)=(a1:Int):=by rw [IntKind.wrap_i64];have:=HBD.out.2.1;omega
   have w2:IntKind.i64.wrap (o0:Int)=(o0:Int):=by rw [IntKind.wrap_i64];have:=HBD.out.2.2.2;omega
   clear y0 y1 y2 y3 hb1 hbd1 hbd2;by_cases q1:s1≤last
   ·have HRES:=Lib.hid (HSTOP.out (Or.inl q1));have g1:decide ((s1:Int)≤(last:Int))=true:=decide_eq_true (by omega);go_wp2_with fail;go_ret;refine ⟨HB2.out,?_⟩;rw [HRES.out];exact rfl
   ·have g1:decide ((s1:Int)≤(last:Int))=false:=decide_eq_false (by omega);by_cases q2:s1=s0
    ·subst q2;by_cases q3:o1=o0
     ·subst q3;by_cases q4:a1=k
      ·subst q4;by_cases q5:a1+1=o1
       ·have HRES:=Lib.hid (HWHOLE.out (by omega) rfl rfl rfl q5);rw [q5] at HRES;have g5:(a1:Int)+1=(o1:Int):=by omega
        have g7:(o1:Int)≤(c:Int):=by omega
        have g8:o1≤c:=by omega
        have g9:¬(c<o1):=by omega
        clear q5 w1;go_wp2_with fail;go_ret;refine ⟨HB2.out,?_⟩;rw [HRES.out];exact rfl
       ·have HNX:=Lib.hid (HNEXT.out (by omega) rfl rfl rfl q5);have g5:¬((a1:Int)+1=(o1:Int)):=by omega
        go_wp2_with fail;exact ⟨⟨a1+1,by omega,rfl,HB2.out,HNX.out⟩,by simp [intOf];omega⟩
      ·have HRES:=Lib.hid (HSTOP.out (Or.inr (Or.inr (Or.inr q4))));have g2:¬((a1:Int)=(k:Int)):=by omega
       go_wp2_with fail;go_ret;refine ⟨HB2.out,?_⟩;rw [HRES.out];exact rfl
     ·have HRES:=Lib.hid (HSTOP.out (Or.inr (Or.inr (Or.inl q3))));have g2:¬((o1:Int)=(o0:Int)):=by omega
      go_wp2_with fail;go_ret;refine ⟨HB2.out,?_⟩;rw [HRES.out];exact rfl
    ·have HRES:=Lib.hid (HSTOP.out (Or.inr (Or.inl q2)));have g2:¬((s1:Int)=(s0:Int)):=by omega
     go_wp2_with fail;go_ret;refine ⟨HB2.out,?_⟩;rw [HRES.out];exact rfl
  ·obtain rfl:k=n:=by omega
   have HRES:=Lib.hid (aQn HGO.out (by have:=HNE.out;omega));go_wp2_with fail;go_ret;refine ⟨HB.out,?_⟩;rw [HRES.out];exact rfl
end Go.Proofs.YtgjmbbkcgillcaaGreat.Log
namespace Go.Proofs.YtgjmbbkcgillcaaGreat.Log
open Go.RowKit Disk
theorem aKk:∀(l:List (List UInt8)) (m:Nat),(∀x∈l,x.length≤m)→l.flatten.length≤l.length*m
 |[],_,_=>by simp
 |x::l,m,h=>by
  have h1:=aKk l m fun y hy=>h y (List.mem_cons_of_mem _ hy);have h2:=h x List.mem_cons_self;rw [List.flatten_cons,List.length_append,List.length_cons,Nat.succ_mul];omega
def aZz (w:World) (m:Nat) (fs:List Lf) (v i:Value) (wr:World):Prop:=
 ∃(k:Nat) (vs:List Value),k≤m∧i=.int .i64 (k:Int)∧wr.ownsRow w.heap.size 37 1 v k vs∧Many w vs ((fs.take k).map (·.2.2.2))∧Below w.heap.size w wr
set_option maxRecDepth 100000 in
theorem aRz (B o m c:Nat) (fs:List Lf) (w:World) (h:LvS w B o m fs) (hs:∀f∈fs,f.2.2.2.length≤480) (hm:m≤100000):
  Calls Tryz.prog 211 #[.slice (some ⟨B,o,none⟩) m c] w (Put w ((fs.map (·.2.2.2)).flatten)):=by
 obtain ⟨i0,hi,hz0,hz1,hz2⟩:=infos aM6;have HI:=Lib.hid hi;have HZ0:=Lib.hid hz0;have HZ1:=Lib.hid hz1;have HZ2:=Lib.hid hz2;clear hi hz0 hz1 hz2;have H:=Lib.hid h;have HFL:Hid ((fs.map (·.2.2.2)).flatten.length≤100000000):=by
  have h1:=aKk (fs.map (·.2.2.2)) 480 (fun x hx=>by
   obtain ⟨f,hf,rfl⟩:=List.mem_map.1 hx;exact hs f hf)
  rw [List.length_map,h.len] at h1;show _≤_;omega
 have HLEN:Hid (fs.length=m):=h.len;clear h hs;go_enter Tryz.func211,Tryz.ntmps211
 go_wp2_with fail;go_loopw [3,8] (fun v i wr=>aZz w m fs v i wr) (fun _ i _=>m - (intOf i).toNat)
 case atStart=>exact ⟨0,[],by omega,rfl,aD0 _ _ _,by simpa using Many.nil_ w,Below.refl _ _⟩
 case round=>
  obtain ⟨k,vs,hk,rfl,hown,hmany,hb⟩:=hrel;have HO:=Lib.hid hown;have HM:=Lib.hid hmany;have HB:=Lib.hid hb;clear hown hmany hb;by_cases hlt:k<m
  ·have hkl:k<fs.length:=by have:=HLEN.out;omega
   obtain ⟨A1,m1,c1,hle,hr,x0,x1,x2,x3⟩:=H.out.at_ k _ (List.getElem?_eq_getElem hkl);have kc:=fun (i:Nat) (v:Value) (hc:w.cell? ⟨B,i,none⟩=some v)=>(HB.out.cell (World.block_lt_of_cell? w _ hc)).trans hc;have y0:=kc _ _ x0;have y1:=kc _ _ x1;have y2:=kc _ _ x2;have y3:=kc _ _ x3;have HM2:Hid (Many w (vs++[.slice A1 m1 c1]) ((fs.take (k+1)).map (·.2.2.2))):=by
    rw [←List.take_append_getElem hkl,List.map_append];exact HM.out.snoc hr hle
   clear x0 x1 x2 x3 kc hr hle;generalize fs[k]=f at*;have hbw:Below wr.heap.size wr ((wr.alloc (.cells #[.int .u64 (f.1:Int),.int .u16 (f.2.1:Int),.int .u16 (f.2.2.1:Int),.slice A1 m1 c1] 248)).alloc (.cells #[.slice A1 m1 c1] 37)):=((Below.refl _ _).alloc (Nat.le_refl _) _).alloc (by rw [aBd];omega) _;have HBW:=Lib.hid (HB.out.trans (hbw.mono HB.out.size));have HOW:Hid (((wr.alloc (.cells #[.int .u64 (f.1:Int),.int .u16 (f.2.1:Int),.int .u16 (f.2.2.1:Int),.slice A1 m1 c1] 248)).alloc (.cells #[.slice A1 m1 c1] 37)).ownsRow w.heap.size 37 1 u3 k vs):=(HO.out.alloc _).alloc _;have HR1:Hid (RdV ((wr.alloc (.cells #[.int .u64 (f.1:Int),.int .u16 (f.2.1:Int),.int .u16 (f.2.2.1:Int),.slice A1 m1 c1] 248)).alloc (.cells #[.slice A1 m1 c1] 37)) (some ⟨wr.heap.size+1,0,none⟩) 1 [.slice A1 m1 c1]):=by
    have:=aD8 (wr.alloc (.cells #[.int .u64 (f.1:Int),.int .u16 (f.2.1:Int),.int .u16 (f.2.2.1:Int),.slice A1 m1 c1] 248)) 37 [.slice A1 m1 c1];rw [aBd] at this;exact this
   clear hbw;go_wp2_with (at_builtin;refine aBg rfl (.tmp 12) (.tmp 15) _ rfl aOz HI.out HZ0.out HZ1.out HZ2.out (by have:=HZ0.out;rfl) rfl HOW.out rfl HR1.out (by simp [Value.oneCell']) (by unfold maxLen;omega) (by omega) HBW.out.size ?_)
   intro v' w3 hown3 hgr3;have HO3:=Lib.hid hown3;have HB3:=Lib.hid (HBW.out.grown hgr3 HBW.out.size (fun g hg=>(HOW.out.lt g hg).1));clear hown3 hgr3;go_wp2_with fail;exact ⟨⟨k+1,vs++[.slice A1 m1 c1],by omega,rfl,HO3.out,HM2.out,HB3.out⟩,by simp [intOf];omega⟩
  ·obtain rfl:k=m:=by omega
   have hm':=HM.out;rw [List.take_of_length_le (by have:=HLEN.out;omega)] at hm';obtain ⟨A3,c3,hv3⟩:=aAq HO.out;have HOS:=HO.out;rw [hv3] at HOS;have hrd:=(RdV.of_own HOS).1;have HC:=Lib.hid (aE7 A3 k c3 vs _ wr hrd (hm'.below HB.out) HFL.out (by omega));clear hm' hrd HOS;subst hv3;go_wp2_with fail;refine HC.out.mono ?_;intro e w5 hp;obtain ⟨x,rfl,hf⟩:=(hp.from HB.out).val;have HF:=Lib.hid hf;obtain ⟨A5,n5,c5,e5,-⟩:=hf;injection e5 with e5;subst e5;clear hp;go_wp2_with fail;go_ret;exact HF.out
end Go.Proofs.YtgjmbbkcgillcaaGreat.Log
