/- Lemmas, part 22: StoDeeds, StoLay2, StoReaders, StoRdr, StoRead, StoStill, StoAdopt -/
import Derived.Test.YtgjmbbkcgillcaaGreatPart21
import Derived.StillTailTactics
import Derived.Maps.Own
import Derived.Maps.Keyed
import Derived.Test.YtgjmbbkcgillcaaGreatPart5
import Derived.KernelRfl
set_option maxHeartbeats 16000000
namespace Go.Proofs.YtgjmbbkcgillcaaGreat.Sto
open Go.RowKit Disk Log
structure KpAt (Q:Nat→Prop) (w:World) (g:Nat) (k:Kp):Prop where
 at_:∃A c,Bk w g 69 #[.int .u64 (k.promised:Int),.int .u64 (k.current:Int),.slice A k.lines.length c]∧LnS Q w A k.lines.length k.lines∧k.lines.length≤c∧(A=none→c=0)
def Small (ls:List Ln):Prop:=ls.length≤300000∧∀x∈ls,x.bytes.length≤100000000
def aGv (Q:Nat→Prop) (g:Nat) (k:Kp) (D:Deed) (w:World) (e:Ending) (w':World):Prop:=
 (D.may k=true∧e=.returned (.tuple #[])∧KpAt (fun b=>Q b∨w.heap.size≤b) w' g (D.run k)∧Out (·=g) w w')∨(D.may k=false∧e=thrown 1∧Below w.heap.size w w')
set_option maxRecDepth 8000 in
theorem aLz (Q:Nat→Prop) (g b:Nat) (e:Nat) (k:Kp) (w:World) (hk:KpAt Q w g k) (hb:Bk w b 33 #[.int .u64 (e:Int)]) (hgq:¬Q g):
  Calls Tryz.prog 126 #[.pointer (some ⟨g,0,none⟩),.pointer (some ⟨b,0,none⟩)] w (aGv Q g k (.prom e) w):=by
 obtain ⟨A,c,hg,hl,hlc,hnil⟩:=hk.at_;have HG:=Lib.hid hg;have HB:=Lib.hid hb;have HL:=Lib.hid hl;have HLC:=Lib.hid hlc;have HNIL:=Lib.hid hnil;have kb:w.cell? ⟨b,0,none⟩=some (.int .u64 (e:Int)):=hb.cell 0;have k0:w.cell? ⟨g,0,none⟩=some (.int .u64 (k.promised:Int)):=hg.cell 0;have f0:w.frozen? ⟨g,0,none⟩=false:=hg.frozen 0;have HM:Hid ((Deed.prom e).may k=true↔k.promised<e∧e≤281474976710656):=aD4;have HBD:Hid (Below w.heap.size w w.drew):=(Below.refl _ w).drew;clear hk hg hb hl hlc hnil;go_enter Tryz.func126,Tryz.ntmps126
 go_wp2_with fail;by_cases h1:e≤k.promised
 ·have h1d:decide ((e:Int)≤(k.promised:Int))=true:=decide_eq_true (by omega);have HF:Hid ((Deed.prom e).may k=false):=by
   show _=_;rw [Bool.eq_false_iff];intro h;have:=(HM.out.1 h).1;omega
  go_still_tail 10,(by kernel_rfl)
  change wpList _ _ _ _ _ w.drew;go_wp2_with (go_at_call 117;(with_reducible refine (aAr _ _).mono ?_);rintro e _ ⟨rfl,rfl⟩)
  exact ⟨rfl,.inr ⟨HF.out,rfl,HBD.out⟩⟩
 ·have h1d:decide ((e:Int)≤(k.promised:Int))=false:=decide_eq_false (by omega);by_cases h2:(281474976710656:Int)<(e:Int)
  ·have h2d:decide ((281474976710656:Int)<(e:Int))=true:=decide_eq_true h2;have HF:Hid ((Deed.prom e).may k=false):=by
    show _=_;rw [Bool.eq_false_iff];intro h;have:=(HM.out.1 h).2;omega
   clear h2
   go_still_tail 10,(by kernel_rfl)
   change wpList _ _ _ _ _ w.drew;go_wp2_with (go_at_call 117;(with_reducible refine (aAr _ _).mono ?_);rintro e _ ⟨rfl,rfl⟩)
   exact ⟨rfl,.inr ⟨HF.out,rfl,HBD.out⟩⟩
  ·have h2d:decide ((281474976710656:Int)<(e:Int))=false:=decide_eq_false h2;have HT:Hid ((Deed.prom e).may k=true):=HM.out.2 ⟨by omega,by omega⟩;clear h2
   go_still_tail 10,(by kernel_rfl)
   change wpList _ _ _ _ _ w.drew;have kb2:w.drew.cell? ⟨b,0,none⟩=some (.int .u64 (e:Int)):=kb;have f2:w.drew.frozen? ⟨g,0,none⟩=false:=f0;have kg2:w.drew.cell? ⟨g,0,none⟩=some (.int .u64 (k.promised:Int)):=k0;go_wp2_with (go_at_call 117;(with_reducible refine (aAo _ _).mono ?_);rintro e _ ⟨rfl,rfl⟩)
   go_end0
   have h3:Bk (w.setCell ⟨g,0,none⟩ (.int .u64 (e:Int))) g 69 #[.int .u64 (e:Int),.int .u64 (k.current:Int),.slice A k.lines.length c]:=by simpa using HG.out.set 0 (.int .u64 (e:Int))
   have ho:Out (·=g) w (w.setCell ⟨g,0,none⟩ (.int .u64 (e:Int))).drew:=(Out.setCell (X:=(·=g)) w (p:=⟨g,0,none⟩) rfl _).drew;have hl:=HL.out.out ho (fun b hb e=>hgq (e ▸ hb));exact Or.inl ⟨HT.out,rfl,⟨A,c,h3,hl.mono fun b hb=>Or.inl hb,HLC.out,HNIL.out⟩,ho⟩
theorem aQ2:∀args w,(callFunc 194 args).run Tryz.prog w=.ok (.enter 194 args) w:=by intro args w;kernel_rfl
set_option maxRecDepth 8000 in
theorem aPq (x e b:Nat) (w:World) (hb:Bk w b 33 #[.int .u64 (e:Int)]):
  Calls Tryz.prog 194 #[.int .u64 (x:Int),.pointer (some ⟨b,0,none⟩)] w fun r w'=>r=.returned (.bool (decide (x≤e)))∧Below w.heap.size w w':=by
 have kb:w.cell? ⟨b,0,none⟩=some (.int .u64 (e:Int)):=hb.cell 0;have hd:decide ((x:Int)≤(e:Int))=decide (x≤e):=by simp only [Int.ofNat_le]
 have HD:=Lib.hid hd;clear hb hd;go_enter Tryz.func194,Tryz.ntmps194
 go_wp2_with fail;go_ret;refine ⟨?_,Below.refl _ _⟩;rw [←HD.out];rfl
end Go.Proofs.YtgjmbbkcgillcaaGreat.Sto
namespace Go.Proofs.YtgjmbbkcgillcaaGreat.Sto
open Go.RowKit Disk Log
theorem aPz (kd:Nat) (xs:List Nat) (hk:kd<256) (hlt:∀x∈xs,x<18446744073709551616) (hn:xs.length≤1000) (V:World):
  Calls Tryz.prog 76 #[.int .u8 (kd:Int),.slice (some ⟨V.heap.size,0,none⟩) xs.length xs.length] (V.alloc (.cells (xs.map fun (x:Nat)=>numV (x:Int)).toArray 33)) (Put (V.alloc (.cells (xs.map fun (x:Nat)=>numV (x:Int)).toArray 33)) (be 1 kd++numsT xs)):=
 aJd kd _ _ _ xs _ hk ⟨by simp,fun _=>⟨_,rfl,fun j v hv=>by
  rw [aBj,(Bk.new V _ _).cell];simpa using hv⟩⟩ hlt hn
theorem aWp (e:Nat):be 1 2++numsT [e]=(Deed.prom e).text:=by
 simp [numsT,Deed.text];rfl
theorem aRv (e:Nat) (l:List Ln):(be 1 3++numsT [e])++linesT l=(Deed.adopt e l).text:=by
 simp [numsT,Deed.text];rfl
theorem aZ3 (l:List Ln):(be 1 4++numsT [])++linesT l=(Deed.add l).text:=by
 simp [numsT,Deed.text];rfl
theorem aTr (k:Kp):(be 1 1++numsT [k.promised,k.current])++linesT k.lines=wholeT k:=by
 simp [numsT,wholeT];rfl
theorem Rd.of_put {w w':World} {bs:List UInt8} {A:Option Addr} {n c:Nat} (h:w'.ownsRow w.heap.size 5 1 (.slice A n c) n (bs.map U)):Rd w' A n bs:=(Rd.of_own h).1
def Laid (ls:List Ln):Prop:=ls.length≤300000∧∀x∈ls,x.bytes.length≤100000000∧x.epoch<18446744073709551616
set_option maxRecDepth 8000 in
theorem aY0 (e b:Nat) (w:World) (hb:Bk w b 33 #[.int .u64 (e:Int)]) (he:e<18446744073709551616):
  Calls Tryz.prog 75 #[.pointer (some ⟨b,0,none⟩)] w (Put w (Deed.prom e).text):=by
 have kb:w.cell? ⟨b,0,none⟩=some (.int .u64 (e:Int)):=hb.cell 0;have CL:Calls Tryz.prog 76 #[.int .u8 2,.slice (some ⟨w.heap.size,0,none⟩) 1 1] (w.alloc (.cells #[.int .u64 (e:Int)] 33)) (Put (w.alloc (.cells #[.int .u64 (e:Int)] 33)) (be 1 2++numsT [e])):=aPz 2 [e] (by omega) (fun x hx=>by rw [List.mem_singleton.1 hx];exact he) (by simp) w;rw [aWp] at CL;have HBA:Hid (Below w.heap.size w (w.alloc (.cells #[.int .u64 (e:Int)] 33))):=(Below.refl _ _).alloc (Nat.le_refl _) _;clear hb;go_enter Tryz.func75,Tryz.ntmps75
 go_wp2_with fail;refine CL.mono ?_;rintro r w1 ⟨A1,n1,c1,rfl,q1,q2,q3,q4⟩;have HF:Hid (Put w (Deed.prom e).text (.returned (.slice A1 n1 c1)) w1):=⟨A1,n1,c1,rfl,q1,q2,aAh q3 HBA.out.size,HBA.out.trans (q4.mono HBA.out.size)⟩;clear q1 q2 q3 q4 CL kb;go_wp2_with fail;go_ret;exact HF.out
set_option maxRecDepth 8000 in
theorem aU5 (P:Nat→Prop) (e b b2:Nat) (l:List Ln) (A2:Option Addr) (c2:Nat) (w:World) (hb:Bk w b 33 #[.int .u64 (e:Int)]) (hb2:Bk w b2 34 #[.slice A2 l.length c2]) (hl:LnS P w A2 l.length l) (he:e<18446744073709551616) (hs:Laid l):
  Calls Tryz.prog 168 #[.pointer (some ⟨b,0,none⟩),.pointer (some ⟨b2,0,none⟩)] w (Put w (Deed.adopt e l).text):=by
 have CL:Hid (∀V:World,Calls Tryz.prog 76 #[.int .u8 3,.slice (some ⟨V.heap.size,0,none⟩) 1 1] (V.alloc (.cells #[.int .u64 (e:Int)] 33)) (Put (V.alloc (.cells #[.int .u64 (e:Int)] 33)) (be 1 3++numsT [e]))):=fun V=>aPz 3 [e] (by omega) (fun x hx=>by rw [List.mem_singleton.1 hx];exact he) (by simp) V;have HLEN:Hid ((be 1 3++numsT [e]).length=9):=by show _=_;rw [List.length_append,aFw,aA1];rfl
 have HTX:=Lib.hid (aRv e l);have HC:Hid (∀V,Below w.heap.size w V→V.cell? ⟨b,0,none⟩=some (.int .u64 (e:Int))∧V.cell? ⟨b2,0,none⟩=some (.slice A2 l.length c2)):=fun V hV=>⟨(hb.below hV).cell 0,(hb2.below hV).cell 0⟩;have CLL:Hid (∀V A n c,Below w.heap.size w V→Rd V A n (be 1 3++numsT [e])→Calls Tryz.prog 108 #[.slice A n c,.slice A2 l.length c2] V (Put V ((be 1 3++numsT [e])++linesT l))):=fun V A n c hV hr=>aEf P A A2 n c l.length c2 _ l V hr (hl.below hV) (by have:=hr.len;have:=HLEN.out;omega) hs.1 hs.2;have BD:Hid (Below w.heap.size w w.drew):=(Below.refl _ w).drew;obtain ⟨k0,k1⟩:=HC.out w (Below.refl _ _);have HSD:=Lib.hid (HC.out _ BD.out);have CL2:Hid (Calls Tryz.prog 76 #[.int .u8 3,.slice (some ⟨w.heap.size,0,none⟩) 1 1] (w.alloc (.cells #[.int .u64 (e:Int)] 33)).drew (Put (w.alloc (.cells #[.int .u64 (e:Int)] 33)).drew (be 1 3++numsT [e]))):=CL.out w.drew;have HAL:Hid (∀ob:Obj,(w.alloc ob).drew.cell? ⟨b,0,none⟩=some (.int .u64 (e:Int))∧(w.alloc ob).drew.cell? ⟨b2,0,none⟩=some (.slice A2 l.length c2)):=fun ob=>HC.out _ (BD.out.alloc BD.out.size ob);have HBA:Hid (∀ob:Obj,Below w.heap.size w (w.alloc ob).drew):=fun ob=>BD.out.alloc BD.out.size ob;generalize l.length=n2 at*;clear hb hb2 hl hs;go_enter Tryz.func168,Tryz.ntmps168
 go_wp2_with fail
 go_region_held3 (fun V=>V.cell? ⟨b,0,none⟩=some (.int .u64 (e:Int))∧V.cell? ⟨b2,0,none⟩=some (.slice A2 n2 c2))
  (first|(with_reducible assumption)|(with_reducible exact HSD.out)|(with_reducible exact HAL.out _)|(with_reducible exact HS1.out)|(with_reducible exact HS2.out))
  (first
   |(go_at_call 76;(with_reducible refine CL2.out.mono ?_);rintro r w5 ⟨A6,n6,c6,rfl,q1,q2,q3,q4⟩;have HR6:=Lib.hid (Rd.of_put q3);have HB6:=Lib.hid ((HBA.out _).trans (q4.mono (HBA.out _).size));have HS1:=Lib.hid (HC.out _ HB6.out);clear q1 q2 q3 q4)
   |(go_at_call 108;(with_reducible refine (CLL.out _ _ _ _ HB6.out HR6.out).mono ?_);rintro r w7 ⟨A7,n7,c7,rfl,q1,q2,q3,q4⟩;have HF:Hid (Put w (Deed.adopt e l).text (.returned (.slice A7 n7 c7)) w7):=(by rw [←HTX.out];exact ⟨A7,n7,c7,rfl,q1,q2,aAh q3 HB6.out.size,HB6.out.trans (q4.mono HB6.out.size)⟩);have HS2:=Lib.hid (HC.out _ (HB6.out.trans (q4.mono HB6.out.size)));clear q1 q2 q3 q4))
 go_wp2_with fail;go_ret;exact HF.out
set_option maxRecDepth 8000 in
theorem bBe (P:Nat→Prop) (b2:Nat) (l:List Ln) (A2:Option Addr) (c2:Nat) (w:World) (hb2:Bk w b2 34 #[.slice A2 l.length c2]) (hl:LnS P w A2 l.length l) (hs:Laid l):
  Calls Tryz.prog 107 #[.pointer (some ⟨b2,0,none⟩)] w (Put w (Deed.add l).text):=by
 have BD:Hid (Below w.heap.size w w.drew):=(Below.refl _ w).drew;have CL:Hid (∀V,Calls Tryz.prog 76 #[.int .u8 4,.slice none 0 0] V (Put V (be 1 4++numsT []))):=fun V=>aJd 4 none 0 0 [] V (by omega) (RdV.nil_ _ _) (fun x hx=>by cases hx) (by omega);have HLEN:Hid ((be 1 4++numsT []).length=1):=by show _=_;rw [List.length_append,aFw,aA1];rfl
 have HTX:=Lib.hid (aZ3 l);have HC:Hid (∀V,Below w.heap.size w V→V.cell? ⟨b2,0,none⟩=some (.slice A2 l.length c2)):=fun V hV=>(hb2.below hV).cell 0;have CLL:Hid (∀V A n c,Below w.heap.size w V→Rd V A n (be 1 4++numsT [])→Calls Tryz.prog 108 #[.slice A n c,.slice A2 l.length c2] V (Put V ((be 1 4++numsT [])++linesT l))):=fun V A n c hV hr=>aEf P A A2 n c l.length c2 _ l V hr (hl.below hV) (by have:=hr.len;have:=HLEN.out;omega) hs.1 hs.2;have k1:=HC.out w (Below.refl _ _);have HSD:=Lib.hid (HC.out _ BD.out);generalize l.length=n2 at*;clear hb2 hl hs;go_enter Tryz.func107,Tryz.ntmps107
 go_wp2_with fail
 go_region_held3 (fun V=>V.cell? ⟨b2,0,none⟩=some (.slice A2 n2 c2))
  (first|(with_reducible assumption)|(with_reducible exact HSD.out)|(with_reducible exact HS1.out)|(with_reducible exact HS2.out))
  (first
   |(go_at_call 76;(with_reducible refine (CL.out _).mono ?_);rintro r w5 ⟨A6,n6,c6,rfl,q1,q2,q3,q4⟩;have HR6:=Lib.hid (Rd.of_put q3);have HB6:=Lib.hid (BD.out.trans q4);have HS1:=Lib.hid (HC.out _ HB6.out);clear q1 q2 q3 q4)
   |(go_at_call 108;(with_reducible refine (CLL.out _ _ _ _ HB6.out HR6.out).mono ?_);rintro r w7 ⟨A7,n7,c7,rfl,q1,q2,q3,q4⟩;have HF:Hid (Put w (Deed.add l).text (.returned (.slice A7 n7 c7)) w7):=(by rw [←HTX.out];exact ⟨A7,n7,c7,rfl,q1,q2,aAh q3 HB6.out.size,HB6.out.trans (q4.mono HB6.out.size)⟩);have HS2:=Lib.hid (HC.out _ (HB6.out.trans (q4.mono HB6.out.size)));clear q1 q2 q3 q4))
 go_wp2_with fail;go_ret;exact HF.out
set_option maxRecDepth 8000 in
theorem aH1 (P:Nat→Prop) (k:Kp) (A2:Option Addr) (c2:Nat) (w:World) (hl:LnS P w A2 k.lines.length k.lines) (hf:Fine k):
  Calls Tryz.prog 189 #[kpV k A2 c2] w (Put w (wholeT k)):=by
 have hs:Laid k.lines:=⟨by have:=hf.many;omega,fun x hx=>by
  have:=aAi.1 (hf.each x hx).1;unfold top at this;omega⟩
 have hp:=hf.prom;have hc:=hf.cur;unfold top at hp;have hwb:Below w.heap.size w (w.alloc (.cells #[.int .u64 (k.promised:Int),.int .u64 (k.current:Int),.slice A2 k.lines.length c2] 69)):=(Below.refl _ _).alloc (Nat.le_refl _) _;have hbk:Bk (w.alloc (.cells #[.int .u64 (k.promised:Int),.int .u64 (k.current:Int),.slice A2 k.lines.length c2] 69)) w.heap.size 69 #[.int .u64 (k.promised:Int),.int .u64 (k.current:Int),.slice A2 k.lines.length c2]:=Bk.new w _ _;obtain ⟨W,hW⟩:∃W,W=w.alloc (.cells #[.int .u64 (k.promised:Int),.int .u64 (k.current:Int),.slice A2 k.lines.length c2] 69):=⟨_,rfl⟩;have HWE:=Lib.hid hW;rw [←hW] at hwb hbk;have HW:=Lib.hid hwb;have CL:Hid (∀V:World,Calls Tryz.prog 76 #[.int .u8 1,.slice (some ⟨V.heap.size,0,none⟩) 2 2] (V.alloc (.cells #[.int .u64 (k.promised:Int),.int .u64 (k.current:Int)] 33)) (Put (V.alloc (.cells #[.int .u64 (k.promised:Int),.int .u64 (k.current:Int)] 33)) (be 1 1++numsT [k.promised,k.current]))):=fun V=>aPz 1 [k.promised,k.current] (by omega) (fun x hx=>by
  rcases List.mem_cons.1 hx with rfl|hx
  ·omega
  ·rw [List.mem_singleton.1 hx];omega) (by simp) V
 have HLEN:Hid ((be 1 1++numsT [k.promised,k.current]).length=17):=by show _=_;rw [List.length_append,aFw,aA1];rfl
 have HTX:=Lib.hid (aTr k);have HC:Hid (∀V,Below W.heap.size W V→V.cell? ⟨w.heap.size,0,none⟩=some (.int .u64 (k.promised:Int))∧V.cell? ⟨w.heap.size,1,none⟩=some (.int .u64 (k.current:Int))∧V.cell? ⟨w.heap.size,2,none⟩=some (.slice A2 k.lines.length c2)):=fun V hV=>⟨(hbk.below hV).cell 0,(hbk.below hV).cell 1,(hbk.below hV).cell 2⟩;have CLL:Hid (∀V A n c,Below W.heap.size W V→Rd V A n (be 1 1++numsT [k.promised,k.current])→Calls Tryz.prog 108 #[.slice A n c,.slice A2 k.lines.length c2] V (Put V ((be 1 1++numsT [k.promised,k.current])++linesT k.lines))):=fun V A n c hV hr=>aEf P A A2 n c k.lines.length c2 _ k.lines V hr ((hl.below HW.out).below hV) (by have:=hr.len;have:=HLEN.out;omega) hs.1 hs.2;have BD:Hid (Below W.heap.size W W.drew):=(Below.refl _ W).drew;obtain ⟨k0,k1,k2⟩:=HC.out W (Below.refl _ _);have HSD:=Lib.hid (HC.out _ BD.out);have CL2:Hid (Calls Tryz.prog 76 #[.int .u8 1,.slice (some ⟨W.heap.size,0,none⟩) 2 2] (W.alloc (.cells #[.int .u64 (k.promised:Int),.int .u64 (k.current:Int)] 33)).drew (Put (W.alloc (.cells #[.int .u64 (k.promised:Int),.int .u64 (k.current:Int)] 33)).drew (be 1 1++numsT [k.promised,k.current]))):=CL.out W.drew;have HAL:Hid (∀ob:Obj,(W.alloc ob).drew.cell? ⟨w.heap.size,0,none⟩=some (.int .u64 (k.promised:Int))∧(W.alloc ob).drew.cell? ⟨w.heap.size,1,none⟩=some (.int .u64 (k.current:Int))∧(W.alloc ob).drew.cell? ⟨w.heap.size,2,none⟩=some (.slice A2 k.lines.length c2)):=fun ob=>HC.out _ (BD.out.alloc BD.out.size ob);have HBA:Hid (∀ob:Obj,Below W.heap.size W (W.alloc ob).drew):=fun ob=>BD.out.alloc BD.out.size ob;unfold kpV;generalize k.lines.length=n2 at*;clear hbk hl hs hf hp hc hwb hW;go_enter Tryz.func189,Tryz.ntmps189
 go_wp2_with fail;rw [←HWE.out]
 go_region_held3 (fun V=>V.cell? ⟨w.heap.size,0,none⟩=some (.int .u64 (k.promised:Int))∧V.cell? ⟨w.heap.size,1,none⟩=some (.int .u64 (k.current:Int))∧V.cell? ⟨w.heap.size,2,none⟩=some (.slice A2 n2 c2))
  (first|(with_reducible assumption)|(with_reducible exact HSD.out)|(with_reducible exact HAL.out _)|(with_reducible exact HS1.out)|(with_reducible exact HS2.out))
  (first
   |(go_at_call 76;(with_reducible refine CL2.out.mono ?_);rintro r w5 ⟨A6,n6,c6,rfl,q1,q2,q3,q4⟩;have HR6:=Lib.hid (Rd.of_put q3);have HB6:=Lib.hid ((HBA.out _).trans (q4.mono (HBA.out _).size));have HS1:=Lib.hid (HC.out _ HB6.out);clear q1 q2 q3 q4)
   |(go_at_call 108;(with_reducible refine (CLL.out _ _ _ _ HB6.out HR6.out).mono ?_);rintro r w7 ⟨A7,n7,c7,rfl,q1,q2,q3,q4⟩;have HF:Hid (Put w (wholeT k) (.returned (.slice A7 n7 c7)) w7):=(by rw [←HTX.out];exact ⟨A7,n7,c7,rfl,q1,q2,aAh q3 (Nat.le_trans HW.out.size HB6.out.size),HW.out.trans ((HB6.out.trans (q4.mono HB6.out.size)).mono HW.out.size)⟩);have HS2:=Lib.hid (HC.out _ (HB6.out.trans (q4.mono HB6.out.size)));clear q1 q2 q3 q4))
 go_wp2_with fail;go_ret;exact HF.out
end Go.Proofs.YtgjmbbkcgillcaaGreat.Sto
namespace Go.Proofs.YtgjmbbkcgillcaaGreat.Sto
open Go.RowKit Disk Log
theorem aAy:Tryz.prog.underlying 5=some (.int .u8):=by kernel_rfl
theorem aDf:Tryz.prog.underlying 255=some (.map 5 253):=by kernel_rfl
theorem aPt (w:World):(zeroValue 253).run Tryz.prog w=.ok .nilFunc w:=by kernel_rfl
def fR (v:Value):Option (DataW Nat×List MemPlace):=match v with
 |.func (.func i) a b=>if a=#[]∧b=#[] then some (.held i,[]) else none
 |.nilFunc=>some (.held 0,[])
 |_=>none
theorem aYk (i:Nat):fR (.func (.func i) #[] #[])=some (.held i,[]):=by simp [fR]
theorem bCt {v:Value} {i:Nat} {ps:List MemPlace} (h:fR v=some (.held i,ps)) (h0:i≠0):v=.func (.func i) #[] #[]:=by
 unfold fR at h;split at h
 ·next j a b=>
  split at h
  ·next hab=>
   obtain ⟨rfl,rfl⟩:=hab;injection h with h;injection h with h1 h2;injection h1 with h1;rw [h1]
  ·cases h
 ·injection h with h;injection h with h1 h2;injection h1 with h1;exact absurd h1.symm h0
 ·cases h
theorem aAs (k:Int) (hw:(Lit.int .u8 k).wf=true):keyOf Tryz.prog 5 (.int .u8 k)=some (.int .u8 k):=Go.Maps.keyOf_int_mk aAy hw
def aD5:DataW Nat:=(((((DataW.map []:DataW Nat)).put (.int .u8 1) (.held 212)).put (.int .u8 2) (.held 213)).put (.int .u8 3) (.held 214)).put (.int .u8 4) (.held 215)
theorem aMo:aD5.atKey (.int .u8 1) (.held 0)=.held 212:=by kernel_rfl
theorem aHu:aD5.atKey (.int .u8 2) (.held 0)=.held 213:=by kernel_rfl
theorem aLq:aD5.atKey (.int .u8 3) (.held 0)=.held 214:=by kernel_rfl
theorem aLh:aD5.atKey (.int .u8 4) (.held 0)=.held 215:=by kernel_rfl
set_option maxRecDepth 100000 in
theorem aOq (w:World):Calls Tryz.prog 181 #[] w fun e w'=>∃b,e=.returned (.map (some b))∧Below w.heap.size w w'∧w'.ownsMap Tryz.prog 5 fR b 4 aD5:=by
 have hmm:=@run_makeMap Tryz.prog;obtain ⟨w1,hr1,ho1,hg1⟩:=(World.ownsMap_made w Tryz.prog 5 fR).update (Go.Maps.int_keyed aAy) aDf (by unfold maxLen;omega) (aAs 1 (by decide)) (aYk 212);obtain ⟨w2,hr2,ho2,hg2⟩:=ho1.update (Go.Maps.int_keyed aAy) aDf (by unfold maxLen;omega) (aAs 2 (by decide)) (aYk 213);obtain ⟨w3,hr3,ho3,hg3⟩:=ho2.update (Go.Maps.int_keyed aAy) aDf (by unfold maxLen;omega) (aAs 3 (by decide)) (aYk 214);obtain ⟨w4,hr4,ho4,hg4⟩:=ho3.update (Go.Maps.int_keyed aAy) aDf (by unfold maxLen;omega) (aAs 4 (by decide)) (aYk 215);have HO:=Lib.hid ho4;have hB:Below w.heap.size w (w.alloc (.map #[] 0)):=(Below.refl _ _).alloc (Nat.le_refl _) _;have hb1:=hB.grown hg1 hB.size (fun k e=>by cases e;exact Nat.le_refl _);have hb2:=hb1.grown hg2 hb1.size (fun k e=>by cases e;exact Nat.le_refl _);have hb3:=hb2.grown hg3 hb2.size (fun k e=>by cases e;exact Nat.le_refl _);have hb4:=hb3.grown hg4 hb3.size (fun k e=>by cases e;exact Nat.le_refl _);have HB:=Lib.hid hb4;clear ho1 hg1 hb1 ho2 hg2 hb2 ho3 hg3 hb3 ho4 hg4 hb4 hB;go_enter Tryz.func181,Tryz.ntmps181
 go_wp2_with fail;go_ret;exact ⟨_,rfl,HB.out,HO.out⟩
def Reads1 (b:Nat) (w:World):Prop:=w.ownsMap Tryz.prog 5 fR b 4 aD5
theorem aPo {b:Nat} {w:World} (h:Reads1 b w) (k F:Nat) (hk:k<256) (hF:F≠0) (hd:aD5.atKey (.int .u8 (k:Int)) (.held 0)=.held F):
  (Instr.lookup 255 (.map (some b)) (.int .u8 (k:Int)) true).run Tryz.prog w=.ok (.tuple #[.func (.func F) #[] #[],.bool true]) w:=by
 have hkey:=aAs (k:Int) (by simp [Lit.wf,IntKind.min,IntKind.max,IntKind.signed,IntKind.bits];omega);obtain ⟨es,clock,hb,Fi,_,hD⟩:=h;rcases Maps.fit_look true (Go.Maps.int_keyed aAy) aDf (aPt w) hb Fi hkey with ⟨_,_,hat⟩|⟨e0,y,_,_,hrun,hRv,hat,_⟩
 ·have:=hat (.held 0);rw [←hD,hd] at this;exact absurd (DataW.held.inj this) hF
 ·have h2:=hat (.held 0);rw [←hD,hd] at h2;obtain ⟨y1,y2⟩:=y;have h3:DataW.held F=y1:=h2;rw [←h3] at hRv;have hv:=bCt hRv hF;rw [hv] at hrun;exact hrun
end Go.Proofs.YtgjmbbkcgillcaaGreat.Sto
namespace Go.Proofs.YtgjmbbkcgillcaaGreat.Sto
end Go.Proofs.YtgjmbbkcgillcaaGreat.Sto
namespace Go.Proofs.YtgjmbbkcgillcaaGreat.Sto
open Go.RowKit Disk Log
theorem aAw {w w':World} {r:Nat} (h:w.grownBy w' (some r)):Out (·=r) w w':=⟨h.os,h.tape,h.output,h.size,fun k hk hx=>h.block k hk (fun e=>by injection e with e;exact hx e)⟩
theorem aJm {Q:Nat→Prop} (rd x:Nat) (rest:List UInt8) (V:World) (h:RdrQ Q V rd (be 8 x++rest,false)) (hx:x<18446744073709551616):
  Calls Tryz.prog 85 #[.pointer (some ⟨rd,0,none⟩)] V fun e w'=>e=.returned (.int .u64 (x:Int))∧RdrQ Q w' rd (rest,false)∧V.grownBy w' (some rd):=by
 obtain ⟨h1,h2⟩:=aRd hx rest;exact (aF0 rd _ V h).mono fun e w' ⟨q1,q2,q3⟩=>⟨by rw [q1,h1,h2],by rw [h1] at q2;exact q2,q3⟩
theorem bAp {Q:Nat→Prop} (rd:Nat) (b rest:List UInt8) (V:World) (h:RdrQ Q V rd (be 4 b.length++(b++rest),false)) (hb:b.length≤4096):
  Calls Tryz.prog 87 #[.pointer (some ⟨rd,0,none⟩)] V fun e w'=>∃A n c,e=.returned (.slice A n c)∧w'.ownsRow V.heap.size 5 1 (.slice A n c) n (b.map U)∧RdrQ Q w' rd (rest,false)∧V.grownBy w' (some rd):=by
 have h1:=aWn hb rest;exact (aL4 rd _ V h).mono fun e w' ⟨A,n,c,q1,q2,q3,q4⟩=>⟨A,n,c,q1,by rw [h1] at q2;exact q2,by rw [h1] at q3;exact q3,q4⟩
theorem aY7 {Q:Nat→Prop} (rd n:Nat) (rest:List UInt8) (V:World) (h:RdrQ Q V rd (be 8 n++rest,false)) (hn:n≤256):
  Calls Tryz.prog 86 #[.pointer (some ⟨rd,0,none⟩),.int .i64 256] V fun e w'=>e=.returned (.int .i64 (n:Int))∧RdrQ Q w' rd (rest,false)∧V.grownBy w' (some rd):=by
 have h1:=aVb hn rest;exact (aDv rd 256 _ V h (by omega) (by omega)).mono fun e w' ⟨q1,q2,q3⟩=>⟨by rw [q1,h1],by rw [h1] at q2;exact q2,q3⟩
def Told (ls:List Ln):Prop:=ls.length≤256∧∀x∈ls,x.bytes.length≤4096∧x.epoch<18446744073709551616
theorem aWq (ls:List Ln) (j:Nat) (h:j<ls.length) (rest:List UInt8):(ls.drop j).flatMap lineT++rest=be 8 ls[j].epoch++(be 4 ls[j].bytes.length++(ls[j].bytes++((ls.drop (j+1)).flatMap lineT++rest))):=by
 rw [List.drop_eq_getElem_cons h,List.flatMap_cons];simp only [lineT,List.append_assoc]
def RelRl (Q:Nat→Prop) (w:World) (rd:Nat) (ls:List Ln) (rest:List UInt8) (v i:Value) (wr:World):Prop:=
 ∃(j:Nat) (xs:List Value),j≤ls.length∧i=.int .i64 (j:Int)∧wr.ownsRow w.heap.size 65 2 v j (lnsC (ls.take j) xs)∧Fresh w.heap.size wr xs ((ls.take j).map (·.bytes))∧RdrQ Q wr rd ((ls.drop j).flatMap lineT++rest,false)∧Out (·=rd) w wr∧Bk wr w.heap.size 252 #[.pointer (some ⟨rd,0,none⟩)]
def aJo (Q:Nat→Prop) (w:World) (rd:Nat) (ls:List Ln) (rest:List UInt8) (e:Ending) (w':World):Prop:=
 ∃A c,e=.returned (.slice A ls.length c)∧OwnL w.heap.size w' (.slice A ls.length c) ls∧RdrQ Q w' rd (rest,false)∧Out (·=rd) w w'
set_option maxRecDepth 8000 in
theorem aC9 (Q:Nat→Prop) (rd:Nat) (ls:List Ln) (rest:List UInt8) (w:World) (h:RdrQ Q w rd (linesT ls++rest,false)) (ht:Told ls) (hQ:∀b,Q b→b<w.heap.size∧b≠rd):
  Calls Tryz.prog 240 #[.agg #[.pointer (some ⟨rd,0,none⟩)]] w (aJo Q w rd ls rest):=by
 obtain ⟨i0,hi,hz0,hz1,hz2⟩:=info_parts aEb;have HI:=Lib.hid hi;have HZ0:=Lib.hid hz0;have HZ1:=Lib.hid hz1;have HZ2:=Lib.hid hz2;have hrl:=h.lt;have HQ:=Lib.hid hQ;have HT:=Lib.hid ht;have hwb:Below w.heap.size w (w.alloc (.cells #[.pointer (some ⟨rd,0,none⟩)] 252)):=(Below.refl _ _).alloc (Nat.le_refl _) _;have HBX:Hid (Bk (w.alloc (.cells #[.pointer (some ⟨rd,0,none⟩)] 252)) w.heap.size 252 #[.pointer (some ⟨rd,0,none⟩)]):=Bk.new w _ _;have HRL:Hid (rd<w.heap.size):=hrl;have hr2:RdrQ Q (w.alloc (.cells #[.pointer (some ⟨rd,0,none⟩)] 252)) rd (be 8 ls.length++(ls.flatMap lineT++rest),false):=by
  have h2:=h.below hwb;unfold linesT at h2;rw [List.append_assoc] at h2;exact h2
 have CC:=Lib.hid (aY7 rd ls.length _ _ hr2 ht.1);have HWB:=Lib.hid hwb;have HN:Hid (ls.length≤256):=ht.1;clear hi hz0 hz1 hz2 h ht hr2 hwb hrl hQ;obtain ⟨n,hn⟩:∃n,n=ls.length:=⟨_,rfl⟩;have HNE:=Lib.hid hn;rw [←hn] at CC HN;clear hn;go_enter Tryz.func240,Tryz.ntmps240
 go_wp2_with fail;refine CC.out.mono ?_;rintro e w1 ⟨rfl,hr1,hg1⟩;have HO1:Hid (Out (·=rd) w w1):=(Out.of_below HWB.out).trans (aAw hg1) fun _ h=>.inl h;have HB1:Hid (Bk w1 w.heap.size 252 #[.pointer (some ⟨rd,0,none⟩)]):=HBX.out.kept (hg1.block _ HBX.out.lt (fun e=>by injection e with e;have:=HRL.out;omega));have HR1:=Lib.hid hr1;clear hr1 hg1;go_wp2_with fail;go_loopw [3,7] (fun v i wr=>RelRl Q w rd ls rest v i wr) (fun _ i _=>n - (intOf i).toNat)
 case atStart=>exact ⟨0,[],Nat.zero_le _,rfl,⟨rfl,.inl ⟨rfl,rfl⟩⟩,⟨rfl,fun j b hj=>by simp at hj⟩,HR1.out,HO1.out,HB1.out⟩
 case round=>
  obtain ⟨j,xs,hj,rfl,hown,hfr,hrr,hout,hbx⟩:=hrel;rw [←HNE.out] at hj;have HO:=Lib.hid hown;have HF:=Lib.hid hfr;have HRR:=Lib.hid hrr;have HOU:=Lib.hid hout;have HBX2:=Lib.hid hbx;clear hown hfr hrr hout hbx;by_cases hlt:j<n
  ·have hjl:j<ls.length:=by have:=HNE.out;omega
   have hxb:=HT.out.2 _ (List.getElem_mem hjl);have hs:=aWq ls j hjl rest;have HTK:=Lib.hid (List.take_append_getElem hjl).symm;have HRR2:=HRR.out;rw [hs] at HRR2;have HR:=Lib.hid HRR2;obtain ⟨x,hx⟩:∃x,x=ls[j]:=⟨_,rfl⟩;rw [←hx] at HR hxb HTK;have HXB:=Lib.hid hxb;have HW:Hid (wrap64 ((j:Int)+1)=((j+1:Nat):Int)):=by
    have:=HN.out;show _=_;rw [IntWalk.wrap64_in _ (by omega)];omega
   have hnr:¬w.heap.size=rd:=by have:=HRL.out;omega
   have k0:wr.cell? ⟨w.heap.size,0,none⟩=some (.pointer (some ⟨rd,0,none⟩)):=HBX2.out.cell 0;have HSD:Hid (wr.drew.cell? ⟨w.heap.size,0,none⟩=some (.pointer (some ⟨rd,0,none⟩))):=k0;have HRD:Hid (RdrQ Q wr.drew rd (be 8 x.epoch++(be 4 x.bytes.length++(x.bytes++((ls.drop (j+1)).flatMap lineT++rest))),false)):=HR.out.below (Below.refl _ wr).drew;have CU:=Lib.hid (aJm rd x.epoch _ wr.drew HRD.out HXB.out.2);have HBS:Hid (w.heap.size<wr.heap.size):=HBX2.out.lt;have HLX:Hid ((ls.take j).length=xs.length):=by
    have:=HF.out.len;rw [List.length_map] at this;exact this.symm
   have HNO:Hid (u3.ownBlock≠some rd):=fun e=>by
    have:=(HO.out.lt _ e).1;have:=HRL.out;omega
   have HNO2:Hid (u3.ownBlock≠some w.heap.size):=fun e=>by
    obtain ⟨c,fz,hh⟩:=Lib.ownsRow_kind HO.out _ e;rw [HBX2.out] at hh;injection hh with hh;injection hh with _ hh;exact absurd hh (by decide)
   clear hs HRR2 hxb hx;go_wp2_with fail
   go_region_held3 (fun V=>V.cell? ⟨w.heap.size,0,none⟩=some (.pointer (some ⟨rd,0,none⟩)))
    (first|(with_reducible assumption)|(with_reducible exact HSD.out)|(with_reducible exact HS1.out)|(with_reducible exact HS2.out)|(with_reducible exact HAL.out _)|(with_reducible exact HS5.out))
    (first
     |(go_at_call 85;(with_reducible refine CU.out.mono ?_);rintro e w5 ⟨rfl,hr5,hg5⟩;have HR5:=Lib.hid hr5;have HG5:=Lib.hid hg5;have HS1:Hid (w5.cell? ⟨w.heap.size,0,none⟩=some (.pointer (some ⟨rd,0,none⟩))):=((aAw hg5).cell (p:=⟨w.heap.size,0,none⟩) HBS.out hnr).trans HSD.out;have CT:=Lib.hid (bAp rd x.bytes _ w5 HR5.out HXB.out.1);clear hr5 hg5)
     |(go_at_call 87;(with_reducible refine CT.out.mono ?_);rintro e w7 ⟨A2,n2,c3,rfl,hown2,hr7,hg7⟩;have HO2:=Lib.hid hown2;have HR7:=Lib.hid hr7;have HG7:=Lib.hid hg7;have HSZ:Hid (wr.heap.size≤w7.heap.size):=Nat.le_trans HG5.out.size hg7.size;have HS2:Hid (w7.cell? ⟨w.heap.size,0,none⟩=some (.pointer (some ⟨rd,0,none⟩))):=((aAw hg7).cell (p:=⟨w.heap.size,0,none⟩) (Nat.lt_of_lt_of_le HBS.out HG5.out.size) hnr).trans HS1.out;have HAL:Hid (∀ob:Obj,(w7.alloc ob).cell? ⟨w.heap.size,0,none⟩=some (.pointer (some ⟨rd,0,none⟩))):=(fun ob=>((Out.alloc (X:=fun _=>False) w7 ob).cell (p:=⟨w.heap.size,0,none⟩) (Nat.lt_of_lt_of_le HBS.out HSZ.out) (fun h=>h)).trans HS2.out);have HOW:=Lib.hid ((World.ownsRow.kept (w':=w5) (row:=some rd) HO.out.drew HG5.out (.inr HNO.out)).kept HG7.out (.inr HNO.out));clear hown2 hr7 hg7)
     |((refine step_append_lies _ (by rfl) _ _ _ (by rfl) w.heap.size 65 i0 _ 2 32 aEj HI.out HZ0.out HZ1.out HZ2.out rfl (by omega) u3 j _ (by rfl) (HOW.out.alloc _) ⟨w7.heap.size,0,none⟩ 1 1 (lnC x (.slice A2 n2 c3)) (by rfl) (by rfl) (World.news_of_block (cs:=(lnC x (.slice A2 n2 c3)).toArray) (t:=65) (fr:=(0,0)) (heap_alloc_new w7 _)) (by simp [lnC,Value.oneCell']) (by omega) (by unfold maxLen;have:=HN.out;omega) (by have:=HN.out;omega) (by have:=HSZ.out;have:=HBS.out;simp;omega) (w7.heap.size+1) (by simp) ?_);intro gg cap w8 hown8 hgr8 hat8 hlt8;have HO8:=Lib.hid hown8;have HG8:=Lib.hid hgr8;have HS5:Hid (w8.cell? ⟨w.heap.size,0,none⟩=some (.pointer (some ⟨rd,0,none⟩))):=(HG8.out.cell_far _ (by have:=HSZ.out;have:=HBS.out;simp;omega) (Ne.symm HNO2.out)).trans (HAL.out _);clear hown8 hgr8 hat8 hlt8))
   have hba:Below w7.heap.size w7 (w7.alloc (.cells #[.int .u64 (x.epoch:Int),.slice A2 n2 c3] 65)):=(Below.refl _ _).alloc (Nat.le_refl _) _;have HBA:=Lib.hid hba;have HDR:Hid (Below wr.heap.size wr wr.drew):=(Below.refl _ wr).drew;have HOA:=Lib.hid (HOW.out.alloc (.cells #[.int .u64 (x.epoch:Int),.slice A2 n2 c3] 65));have HX8:Hid (Out (fun b=>u3.ownBlock=some b) (w7.alloc (.cells #[.int .u64 (x.epoch:Int),.slice A2 n2 c3] 65)) w8):=⟨HG8.out.os,HG8.out.tape,HG8.out.output,HG8.out.size,fun b hb hx=>HG8.out.block b hb fun e=>hx e.symm⟩;have HRD8:Hid (RdrQ Q w8 rd ((ls.drop (j+1)).flatMap lineT++rest,false)):=(HR7.out.below HBA.out).out HX8.out HNO.out fun b hb e=>by
    have:=(HO.out.lt _ e).1;have:=(HQ.out b hb).1;omega
   have HO7:Hid (Out (·=rd) w w7):=(HOU.out.trans ((Out.of_below (X:=(·=rd)) HDR.out).trans (aAw HG5.out) fun _ h=>.inl h) fun _ h=>.inl h).trans (aAw HG7.out) fun _ h=>.inl h;have HO8':Hid (Out (·=rd) w w8):=(HO7.out.trans (Out.of_below (X:=(·=rd)) HBA.out) fun _ h=>.inl h).trans HX8.out fun b hb=>.inr (HO.out.lt b hb).1;have HBX8:Hid (Bk w8 w.heap.size 252 #[.pointer (some ⟨rd,0,none⟩)]):=by
    have h7:Bk w7 w.heap.size 252 #[.pointer (some ⟨rd,0,none⟩)]:=(HBX2.out.kept ((aAw HG5.out).block _ HBS.out hnr)).kept ((aAw HG7.out).block _ (Nat.lt_of_lt_of_le HBS.out HG5.out.size) hnr);exact (h7.below HBA.out).kept (HX8.out.block _ (by rw [World.size_alloc];have:=HSZ.out;have:=HBS.out;omega) HNO2.out)
   have HF2:Hid (Fresh w.heap.size w7 xs ((ls.take j).map (·.bytes))):=(HF.out.below HDR.out).grown HG5.out (T:=196) (by decide) (fun r hr=>by injection hr with hr;subst hr;obtain ⟨_,_,_,hb,_⟩:=HRD.out;exact ⟨_,_,hb⟩)|>.grown HG7.out (T:=196) (by decide) (fun r hr=>by injection hr with hr;subst hr;obtain ⟨_,_,_,hb,_⟩:=HR5.out;exact ⟨_,_,hb⟩);have HF3:=Lib.hid ((HF2.out.snoc (aAh HO2.out (Nat.le_trans (Nat.le_of_lt HBS.out) HG5.out.size))).below HBA.out);have HF4:=Lib.hid (HF3.out.grown HG8.out (by decide) (fun r hr=>Lib.ownsRow_kind HOA.out r hr));clear hba;go_wp2_with fail;rw [HW.out];refine ⟨⟨j+1,xs++[.slice A2 n2 c3],by have:=HNE.out;omega,rfl,?_,?_,HRD8.out,HO8'.out,HBX8.out⟩,by simp [intOf];omega⟩
   ·rw [HTK.out,aJ1 _ _ _ _ HLX.out];exact HO8.out
   ·rw [HTK.out,List.map_append];exact HF4.out
  ·obtain rfl:j=n:=by omega
   have htk:ls.take j=ls:=List.take_of_length_le (by have:=HNE.out;omega);have hdr:ls.drop j=[]:=List.drop_eq_nil_of_le (by have:=HNE.out;omega);rw [htk] at HO HF;rw [hdr] at HRR;have HOL:Hid (OwnL w.heap.size wr u3 ls):=⟨xs,by rw [←HNE.out];exact HO.out,HF.out⟩;clear htk hdr HO;obtain ⟨A2,c2,rfl,-,-⟩:=HOL.out.form;go_wp2_with fail;go_ret;exact ⟨A2,c2,rfl,HOL.out,HRR.out,HOU.out⟩
end Go.Proofs.YtgjmbbkcgillcaaGreat.Sto
namespace Go.Proofs.YtgjmbbkcgillcaaGreat.Sto
def aA5 (P:Program) (o:Oper) (a:Act) (w:World) (v:Value):Prop:=(execOp a.eval o).run P w=.ok (.value v) w
structure WS (P:Program) (ops:Array Oper) (w:World) (Q:Act→Prop) (l:List Oper) (a:Act):Prop where
 out:wpStill P ops w Q l a
section
variable {P:Program} {ops:Array Oper} {w:World} {Q:Act→Prop} {a:Act} {o:Oper} {rest:List Oper}
theorem aAv (h:Q a):WS P ops w Q [] a:=⟨wpStill_nil h⟩
theorem aCd (h:Region.wanted o (yielded ops a.tmps)=false) (hb:WS P ops w Q rest (a.put o.dst undef)):WS P ops w Q (o::rest) a:=
 ⟨wpStill_step fun _ hK=>by rw [if_neg (by rw [h];exact Bool.false_ne_true)];exact hK _ hb.out⟩
theorem aA6 (h:Region.wanted o (yielded ops a.tmps)=true) (hx:∃v,aA5 P o a w v∧WS P ops w Q rest (a.put o.dst v)):WS P ops w Q (o::rest) a:=
 ⟨wpStill_step fun _ hK=>by
  obtain ⟨v,h1,h2⟩:=hx;rw [if_pos h];unfold Oper.still;rw [h1];exact ⟨rfl,hK _ h2.out⟩⟩
end
theorem aAk {P:Program} {id:Nat} {Q:Exit→Act→World→Prop} {a:Act} {w:World} {l:List Oper} (n:Nat) (hm:P.follows .mixedOrders=true) (hB:Region.lexTailB .any l.toArray n=true)
  (h:WS P l.toArray {w with drawn:=w.drawn+1} (fun a'=>wpList P l.toArray Q (l.drop n) a' {w with drawn:=w.drawn+1}) (l.take n) a):(Code.region id l.toArray true).wp P Q a w:=wp_region_still_tail n hm hB h.out
end Go.Proofs.YtgjmbbkcgillcaaGreat.Sto
namespace Go.Proofs.YtgjmbbkcgillcaaGreat.Sto
open Go.RowKit Disk Log
theorem OwnL.caps {base:Nat} {w:World} {A:Option Addr} {n c:Nat} {ls:List Ln} (h:OwnL base w (.slice A n c) ls):ls.length≤c∧(A=none→c=0):=by
 obtain ⟨xs,hown,_⟩:=h;rcases hown.2 with ⟨e,h0⟩|⟨g,cap,cur,e,hg,hh,hnc,_⟩
 ·injection e with e1 e2 e3;exact ⟨by omega,fun _=>e3⟩
 ·injection e with e1 e2 e3;exact ⟨by omega,fun q=>by rw [q] at e1;cases e1⟩
theorem out3 (g:Nat) (w:World) (x y z:Value):Out (·=g) w (((w.setCell ⟨g,0,none⟩ x).setCell ⟨g,1,none⟩ y).setCell ⟨g,2,none⟩ z):=
 ((Out.setCell (X:=(·=g)) w (p:=⟨g,0,none⟩) rfl x).trans (Out.setCell (X:=(·=g)) _ (p:=⟨g,1,none⟩) rfl y) fun _ h=>.inl h).trans (Out.setCell (X:=(·=g)) _ (p:=⟨g,2,none⟩) rfl z) fun _ h=>.inl h
set_option maxRecDepth 8000 in
theorem aO0 (P Q:Nat→Prop) (g b b2:Nat) (e:Nat) (l:List Ln) (A2:Option Addr) (c2:Nat) (k:Kp) (w:World) (hk:KpAt Q w g k) (hb:Bk w b 33 #[.int .u64 (e:Int)]) (hb2:Bk w b2 34 #[.slice A2 l.length c2]) (hl2:LnS P w A2 l.length l) (hs:Small l) (hgb:b≠g) (hgb2:b2≠g):
  Calls Tryz.prog 193 #[.pointer (some ⟨g,0,none⟩),.pointer (some ⟨b,0,none⟩),.pointer (some ⟨b2,0,none⟩)] w (aGv Q g k (.adopt e l) w):=by
 obtain ⟨A,c,hg,-,-,-⟩:=hk.at_;have HG:=Lib.hid hg;have HB:=Lib.hid hb;have HB2:=Lib.hid hb2;have HL2:=Lib.hid hl2;have HS:=Lib.hid hs;have kb:w.cell? ⟨b,0,none⟩=some (.int .u64 (e:Int)):=hb.cell 0;have kb2:w.cell? ⟨b2,0,none⟩=some (.slice A2 l.length c2):=hb2.cell 0;have k0:w.cell? ⟨g,0,none⟩=some (.int .u64 (k.promised:Int)):=hg.cell 0;have k1:w.cell? ⟨g,1,none⟩=some (.int .u64 (k.current:Int)):=hg.cell 1;have HM:Hid ((Deed.adopt e l).may k=true↔k.promised≤e∧k.current<e∧e≤281474976710656∧l.length≤256∧∀x∈l,lineB x=true∧x.epoch≤e):=aCb;have HNO:Hid (∀(_:¬(k.promised≤e∧k.current<e∧e≤281474976710656∧l.length≤256∧∀x∈l,lineB x=true∧x.epoch≤e)),(Deed.adopt e l).may k=false):=fun h=>by
  rw [Bool.eq_false_iff];exact fun h2=>h (HM.out.1 h2)
 have HBD:Hid (Below w.heap.size w w.drew):=(Below.refl _ w).drew;have HLN:Hid (l.length≤300000):=hs.1;have hns:¬b=g:=hgb;obtain ⟨n2,hn2⟩:∃n2,n2=l.length:=⟨_,rfl⟩;have HN2:=Lib.hid hn2;rw [←hn2] at kb2 HLN HNO HM HB2 HL2;clear hk hg hb hb2 hl2 hs hn2;go_enter Tryz.func193,Tryz.ntmps193
 go_wp2_with fail;by_cases h1:e<k.promised
 ·have h1d:decide ((e:Int)<(k.promised:Int))=true:=decide_eq_true (by omega);have HF:=Lib.hid (HNO.out fun h=>by omega);refine aAk 18 (by kernel_rfl) (by kernel_rfl) ?_;simp only [List.take_succ_cons,List.take_zero,List.drop_succ_cons,List.drop_zero]
  iterate 7
   refine aA6 (by kernel_rfl) ?_;apply Exists.intro
   refine And.intro ?_ ?_
   ·unfold aA5;first
     |(go_simp;done)
     |(go_simp;exact rfl)
   try simp only [Act.put,List.setIfInBounds_toArray,List.set_cons_zero,List.set_cons_succ]
  iterate 6
   refine aCd (by kernel_rfl) ?_
   try simp only [Act.put,List.setIfInBounds_toArray,List.set_cons_zero,List.set_cons_succ]
  iterate 2
   refine aA6 (by kernel_rfl) ?_;apply Exists.intro
   refine And.intro ?_ ?_
   ·unfold aA5;first
     |(go_simp;done)
     |(go_simp;exact rfl)
   try simp only [Act.put,List.setIfInBounds_toArray,List.set_cons_zero,List.set_cons_succ]
  iterate 2
   refine aCd (by kernel_rfl) ?_
   try simp only [Act.put,List.setIfInBounds_toArray,List.set_cons_zero,List.set_cons_succ]
  refine aA6 (by kernel_rfl) ?_;apply Exists.intro
  refine And.intro ?_ ?_
  ·unfold aA5;first
    |(go_simp;done)
    |(go_simp;exact rfl)
  try simp only [Act.put,List.setIfInBounds_toArray,List.set_cons_zero,List.set_cons_succ]
  refine aAv ?_;change wpList _ _ _ _ _ w.drew;go_wp2_with (go_at_call 117;(with_reducible refine (aAr _ _).mono ?_);rintro e _ ⟨rfl,rfl⟩)
  exact ⟨rfl,.inr ⟨HF.out,rfl,HBD.out⟩⟩
 ·have h1d:decide ((e:Int)<(k.promised:Int))=false:=decide_eq_false (by omega);by_cases h2:e≤k.current
  ·have h2d:decide ((e:Int)≤(k.current:Int))=true:=decide_eq_true (by omega);have HF:=Lib.hid (HNO.out fun h=>by omega);refine aAk 18 (by kernel_rfl) (by kernel_rfl) ?_;simp only [List.take_succ_cons,List.take_zero,List.drop_succ_cons,List.drop_zero]
   iterate 15
    refine aA6 (by kernel_rfl) ?_;apply Exists.intro
    refine And.intro ?_ ?_
    ·unfold aA5;first
      |(go_simp;done)
      |(go_simp;exact rfl)
    try simp only [Act.put,List.setIfInBounds_toArray,List.set_cons_zero,List.set_cons_succ]
   iterate 2
    refine aCd (by kernel_rfl) ?_
    try simp only [Act.put,List.setIfInBounds_toArray,List.set_cons_zero,List.set_cons_succ]
   refine aA6 (by kernel_rfl) ?_;apply Exists.intro
   refine And.intro ?_ ?_
   ·unfold aA5;first
     |(go_simp;done)
     |(go_simp;exact rfl)
   try simp only [Act.put,List.setIfInBounds_toArray,List.set_cons_zero,List.set_cons_succ]
   refine aAv ?_;change wpList _ _ _ _ _ w.drew;go_wp2_with (go_at_call 117;(with_reducible refine (aAr _ _).mono ?_);rintro e _ ⟨rfl,rfl⟩)
   exact ⟨rfl,.inr ⟨HF.out,rfl,HBD.out⟩⟩
  ·have h2d:decide ((e:Int)≤(k.current:Int))=false:=decide_eq_false (by omega);by_cases h3:(281474976710656:Int)<(e:Int)
   ·have h3d:decide ((281474976710656:Int)<(e:Int))=true:=decide_eq_true h3;have HF:=Lib.hid (HNO.out fun h=>by omega);clear h3;refine aAk 18 (by kernel_rfl) (by kernel_rfl) ?_;simp only [List.take_succ_cons,List.take_zero,List.drop_succ_cons,List.drop_zero]
    iterate 18
     refine aA6 (by kernel_rfl) ?_;apply Exists.intro
     refine And.intro ?_ ?_
     ·unfold aA5;first
       |(go_simp;done)
       |(go_simp;exact rfl)
     try simp only [Act.put,List.setIfInBounds_toArray,List.set_cons_zero,List.set_cons_succ]
    refine aAv ?_;change wpList _ _ _ _ _ w.drew;go_wp2_with (go_at_call 117;(with_reducible refine (aAr _ _).mono ?_);rintro e _ ⟨rfl,rfl⟩)
    exact ⟨rfl,.inr ⟨HF.out,rfl,HBD.out⟩⟩
   ·have h3d:decide ((281474976710656:Int)<(e:Int))=false:=decide_eq_false h3;have h3':(e:Int)≤281474976710656:=by omega
    clear h3;refine aAk 18 (by kernel_rfl) (by kernel_rfl) ?_;simp only [List.take_succ_cons,List.take_zero,List.drop_succ_cons,List.drop_zero]
    iterate 18
     refine aA6 (by kernel_rfl) ?_;apply Exists.intro
     refine And.intro ?_ ?_
     ·unfold aA5;first
       |(go_simp;done)
       |(go_simp;exact rfl)
     try simp only [Act.put,List.setIfInBounds_toArray,List.set_cons_zero,List.set_cons_succ]
    refine aAv ?_;change wpList _ _ _ _ _ w.drew;have kb3:w.drew.cell? ⟨b,0,none⟩=some (.int .u64 (e:Int)):=kb;have kb4:w.drew.cell? ⟨b2,0,none⟩=some (.slice A2 n2 c2):=kb2;by_cases h4:(256:Int)<(n2:Int)
    ·have HF:=Lib.hid (HNO.out fun h=>by omega);go_wp2_with (first|(go_at_call 117;(with_reducible refine (aAo _ _).mono ?_);rintro e _ ⟨rfl,rfl⟩)|(go_at_call 117;(with_reducible refine (aAr _ _).mono ?_);rintro e _ ⟨rfl,rfl⟩))
     exact ⟨rfl,.inr ⟨HF.out,rfl,HBD.out⟩⟩
    ·have h4b:((256:Int)<(n2:Int))=False:=eq_false h4;have h4':(n2:Int)≤256:=by omega
     clear h4;have HDM:Hid (Calls Tryz.prog 144 #[.slice A2 n2 c2,.func (.func 194) #[] #[.pointer (some ⟨b,0,none⟩)]] w.drew (aPg l (fun x=>decide (x.epoch≤e)) w.drew)):=
      aKg P A2 n2 c2 _ _ l _ w.drew (HL2.out.below HBD.out) (by omega) (HS.out.2) aQ2 (fun V x _ hV=>aPq x.epoch e b V ((HB.out.below HBD.out).below hV))
     go_wp2_with (first|(go_at_call 117;(with_reducible refine (aAo _ _).mono ?_);rintro e _ ⟨rfl,rfl⟩))
     refine HDM.out.mono ?_;rintro r w1 ⟨hbel,hr⟩;have HB1:=Lib.hid (HBD.out.trans hbel);clear hbel;rcases hr with ⟨rfl,hall⟩|⟨rfl,x,hx,hbad⟩
     ·have HT:Hid ((Deed.adopt e l).may k=true):=HM.out.2 ⟨by omega,by omega,by omega,by omega,fun x hx=>⟨(hall x hx).1,of_decide_eq_true (hall x hx).2⟩⟩;clear hall;have HC:Hid (∀V,Below w.heap.size w V→V.cell? ⟨b,0,none⟩=some (.int .u64 (e:Int))∧V.cell? ⟨b2,0,none⟩=some (.slice A2 n2 c2)):=fun V hV=>⟨(HB.out.below hV).cell 0,(HB2.out.below hV).cell 0⟩;obtain ⟨q0,q1⟩:=HC.out w1 HB1.out;have HB1D:Hid (Below w.heap.size w w1.drew):=HB1.out.drew;have HSD:=Lib.hid (HC.out _ HB1D.out);have HCP:=Lib.hid (aMp P A2 n2 c2 l w1.drew (HL2.out.below HB1D.out) (by omega) HS.out.2);clear kb kb2 kb3 kb4 k0 k1;go_wp2_with fail
      go_region_held3 (fun V=>V.cell? ⟨b,0,none⟩=some (.int .u64 (e:Int))∧V.cell? ⟨b2,0,none⟩=some (.slice A2 n2 c2))
       (first|(with_reducible assumption)|(with_reducible exact HSD.out)|(with_reducible exact HS2.out)|(with_reducible exact HST.out _ _ _))
       (first
        |(go_at_call 71;(with_reducible refine HCP.out.mono ?_);rintro e w2 ⟨A3,c3,rfl,hown,hb3⟩;have HO:=Lib.hid hown;have HB3:=Lib.hid (HB1D.out.trans (hb3.mono HB1D.out.size));have HS2:=Lib.hid (HC.out _ HB3.out);have HG2:=Lib.hid (HG.out.below HB3.out);have HST:Hid (∀x y z,(((w2.setCell ⟨g,0,none⟩ x).setCell ⟨g,1,none⟩ y).setCell ⟨g,2,none⟩ z).cell? ⟨b,0,none⟩=some (.int .u64 (e:Int))∧(((w2.setCell ⟨g,0,none⟩ x).setCell ⟨g,1,none⟩ y).setCell ⟨g,2,none⟩ z).cell? ⟨b2,0,none⟩=some (.slice A2 n2 c2)):=(fun x y z=>⟨((out3 g w2 x y z).cell (p:=⟨b,0,none⟩) (HB.out.below HB3.out).lt hgb).trans HS2.out.1,((out3 g w2 x y z).cell (p:=⟨b2,0,none⟩) (HB2.out.below HB3.out).lt hgb2).trans HS2.out.2⟩);have hg0:w2.cell? ⟨g,0,none⟩=some (.int .u64 (k.promised:Int)):=HG2.out.cell 0;have hg1:w2.cell? ⟨g,1,none⟩=some (.int .u64 (k.current:Int)):=HG2.out.cell 1;have hg2:w2.cell? ⟨g,2,none⟩=some (.slice A k.lines.length c):=HG2.out.cell 2;have hf0:w2.frozen? ⟨g,0,none⟩=false:=HG2.out.frozen 0;have hf1:w2.frozen? ⟨g,1,none⟩=false:=HG2.out.frozen 1;have hf2:w2.frozen? ⟨g,2,none⟩=false:=HG2.out.frozen 2;clear hown hb3))
      go_end0
      have h3:Bk (((w2.setCell ⟨g,0,none⟩ (.int .u64 (e:Int))).setCell ⟨g,1,none⟩ (.int .u64 (e:Int))).setCell ⟨g,2,none⟩ (.slice A3 l.length c3)) g 69 #[.int .u64 (e:Int),.int .u64 (e:Int),.slice A3 l.length c3]:=by simpa using ((HG2.out.set 0 (.int .u64 (e:Int))).set 1 (.int .u64 (e:Int))).set 2 (.slice A3 l.length c3)
      have ho:=out3 g w2 (.int .u64 (e:Int)) (.int .u64 (e:Int)) (.slice A3 l.length c3);have hgl:=HG.out.lt;have hw1:w.heap.size≤w1.heap.size:=HB1.out.size;have hl:=HO.out.lns.out ho (fun j hj e=>by
       have:w1.heap.size≤j:=hj.1;omega)
      exact Or.inl ⟨HT.out,rfl,⟨A3,c3,h3,hl.mono (fun j hj=>Or.inr (by have:w1.heap.size≤j:=hj.1;omega)),HO.out.caps.1,HO.out.caps.2⟩,(Out.of_below (X:=(·=g)) HB3.out).trans ho fun _ h=>.inl h⟩
     ·have HF:=Lib.hid (HNO.out fun h=>hbad ⟨(h.2.2.2.2 x hx).1,decide_eq_true (h.2.2.2.2 x hx).2⟩);clear hbad hx;unfold thrown;go_wp2_with fail;exact ⟨rfl,.inr ⟨HF.out,rfl,HB1.out⟩⟩
end Go.Proofs.YtgjmbbkcgillcaaGreat.Sto
