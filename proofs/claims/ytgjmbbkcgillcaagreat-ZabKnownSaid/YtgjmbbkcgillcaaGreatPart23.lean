/- Lemmas, part 23: StoAppend, StoMake, StoBecome, StoRecs, StoDeedOf -/
import Derived.Test.YtgjmbbkcgillcaaGreatPart22
import Derived.Deep.RegionLaw
set_option maxHeartbeats 16000000
namespace Go.Proofs.YtgjmbbkcgillcaaGreat.Sto
open Go.RowKit Disk Log
theorem aNu:∀args w,(callFunc 145 args).run Tryz.prog w=.ok (.enter 145 args) w:=by intro args w;kernel_rfl
set_option maxRecDepth 8000 in
theorem aOa (x cur b g:Nat) (w:World) (hb:Bk w b 184 #[.pointer (some ⟨g,0,none⟩)]) (hg:w.cell? ⟨g,1,none⟩=some (.int .u64 (cur:Int))):
  Calls Tryz.prog 145 #[.int .u64 (x:Int),.pointer (some ⟨b,0,none⟩)] w fun r w'=>r=.returned (.bool (decide (x=cur)))∧Below w.heap.size w w':=by
 have kb:w.cell? ⟨b,0,none⟩=some (.pointer (some ⟨g,0,none⟩)):=hb.cell 0;have hd:((x:Int)==(cur:Int))=decide (x=cur):=by
  rw [Bool.eq_iff_iff];simp only [beq_iff_eq,decide_eq_true_eq];omega
 have HD:=Lib.hid hd;clear hb hd;go_enter Tryz.func145,Tryz.ntmps145
 go_wp2_with fail;go_ret;refine ⟨?_,Below.refl _ _⟩;rw [←HD.out];rfl
set_option maxRecDepth 8000 in
theorem aT7 (P Q:Nat→Prop) (g b2:Nat) (l:List Ln) (A2:Option Addr) (c2:Nat) (k:Kp) (w:World) (hk:KpAt Q w g k) (hkm:k.lines.length≤256) (hb2:Bk w b2 34 #[.slice A2 l.length c2]) (hl2:LnS P w A2 l.length l) (hs:Small l) (hgq:¬Q g):
  Calls Tryz.prog 143 #[.pointer (some ⟨g,0,none⟩),.pointer (some ⟨b2,0,none⟩)] w (aGv Q g k (.add l) w):=by
 obtain ⟨A,c,hg,hlk,hlc,hnil⟩:=hk.at_;have HGl:Hid (g<w.heap.size):=hg.lt;have hbw:Below w.heap.size w (w.alloc (.cells #[.pointer (some ⟨g,0,none⟩)] 184)):=(Below.refl _ _).alloc (Nat.le_refl _) _;have hbk:Bk (w.alloc (.cells #[.pointer (some ⟨g,0,none⟩)] 184)) w.heap.size 184 #[.pointer (some ⟨g,0,none⟩)]:=Bk.new w _ _;obtain ⟨W,hW⟩:∃W,W=w.alloc (.cells #[.pointer (some ⟨g,0,none⟩)] 184):=⟨_,rfl⟩;have HWE:=Lib.hid hW;rw [←hW] at hbw hbk;have HW:=Lib.hid hbw;have HBX:=Lib.hid hbk;have HG:=Lib.hid (hg.below hbw);have HB2:=Lib.hid (hb2.below hbw);have HL2:=Lib.hid (hl2.below hbw);have HLK:=Lib.hid (hlk.below hbw);have HNIL:=Lib.hid hnil;have HS:=Lib.hid hs;have HM:Hid ((Deed.add l).may k=true↔0<l.length∧l.length+k.lines.length≤256∧∀x∈l,lineB x=true∧x.epoch=k.current):=aGc;have HNO:Hid (∀(_:¬(0<l.length∧l.length+k.lines.length≤256∧∀x∈l,lineB x=true∧x.epoch=k.current)),(Deed.add l).may k=false):=fun h=>by
  rw [Bool.eq_false_iff];exact fun h2=>h (HM.out.1 h2)
 have HLN:Hid (l.length≤300000):=hs.1;have HKM:Hid (k.lines.length≤256):=hkm;obtain ⟨n2,hn2⟩:∃n2,n2=l.length:=⟨_,rfl⟩;obtain ⟨n1,hn1⟩:∃n1,n1=k.lines.length:=⟨_,rfl⟩;have HN2:=Lib.hid hn2;have HN1:=Lib.hid hn1;rw [←hn2] at HLN HNO HM HB2 HL2;rw [←hn1] at HNO HM HG HLK HKM;have HBD:Hid (Below w.heap.size w W.drew):=HW.out.drew;have HC:Hid (∀V,Below W.heap.size W V→V.cell? ⟨w.heap.size,0,none⟩=some (.pointer (some ⟨g,0,none⟩))∧V.cell? ⟨b2,0,none⟩=some (.slice A2 n2 c2)∧V.cell? ⟨g,1,none⟩=some (.int .u64 (k.current:Int))∧V.cell? ⟨g,2,none⟩=some (.slice A n1 c)):=fun V hV=>⟨(HBX.out.below hV).cell 0,(HB2.out.below hV).cell 0,(HG.out.below hV).cell 1,(HG.out.below hV).cell 2⟩;have HWD:Hid (Below W.heap.size W W.drew):=(Below.refl _ W).drew;obtain ⟨k0,k1,k2,k3⟩:=HC.out W (Below.refl _ _);clear hk hg hb2 hl2 hs hn2 hn1 hbw hbk hlk hlc hnil hkm hW;go_enter Tryz.func143,Tryz.ntmps143
 go_wp2_with fail;rw [←HWE.out];by_cases h1:n2=0
 ·have h1d:((n2:Int)==0)=true:=by simpa using (by omega:(n2:Int)=0)
  have HF:=Lib.hid (HNO.out fun h=>by omega);clear h1;refine aAk 14 (by kernel_rfl) (by kernel_rfl) ?_;simp only [List.take_succ_cons,List.take_zero,List.drop_succ_cons,List.drop_zero]
  iterate 4
   refine aA6 (by kernel_rfl) ?_;apply Exists.intro
   refine And.intro ?_ ?_
   ·unfold aA5;first
     |(go_simp;done)
     |(go_simp;exact rfl)
   try simp only [Act.put,List.setIfInBounds_toArray,List.set_cons_zero,List.set_cons_succ]
  iterate 9
   refine aCd (by kernel_rfl) ?_
   try simp only [Act.put,List.setIfInBounds_toArray,List.set_cons_zero,List.set_cons_succ]
  refine aA6 (by kernel_rfl) ?_;apply Exists.intro
  refine And.intro ?_ ?_
  ·unfold aA5;first
    |(go_simp;done)
    |(go_simp;exact rfl)
  try simp only [Act.put,List.setIfInBounds_toArray,List.set_cons_zero,List.set_cons_succ]
  refine aAv ?_;change wpList _ _ _ _ _ W.drew;go_wp2_with (go_at_call 117;(with_reducible refine (aAr _ _).mono ?_);rintro e _ ⟨rfl,rfl⟩)
  exact ⟨rfl,.inr ⟨HF.out,rfl,HBD.out⟩⟩
 ·have h1d:((n2:Int)==0)=false:=by simpa using (by omega:¬(n2:Int)=0)
  have hsub:IntKind.i64.wrap (256 - (n1:Int))=256 - (n1:Int):=IntWalk.i64_in _ (by have:=HKM.out;omega);have hsub2:wrap64 (256 - (n1:Int))=256 - (n1:Int):=IntWalk.wrap64_in _ (by have:=HKM.out;omega);by_cases h2:256 - (n1:Int)<(n2:Int)
  ·have h2d:decide (256 - (n1:Int)<(n2:Int))=true:=decide_eq_true h2;have HF:=Lib.hid (HNO.out fun h=>by omega);clear h2;refine aAk 14 (by kernel_rfl) (by kernel_rfl) ?_;simp only [List.take_succ_cons,List.take_zero,List.drop_succ_cons,List.drop_zero]
   iterate 14
    refine aA6 (by kernel_rfl) ?_;apply Exists.intro
    refine And.intro ?_ ?_
    ·unfold aA5;first
      |(go_simp;done)
      |(go_simp;exact rfl)
    try simp only [Act.put,List.setIfInBounds_toArray,List.set_cons_zero,List.set_cons_succ]
   refine aAv ?_;change wpList _ _ _ _ _ W.drew;go_wp2_with (go_at_call 117;(with_reducible refine (aAr _ _).mono ?_);rintro e _ ⟨rfl,rfl⟩)
   exact ⟨rfl,.inr ⟨HF.out,rfl,HBD.out⟩⟩
  ·have h2d:decide (256 - (n1:Int)<(n2:Int))=false:=decide_eq_false h2;have h2':(n2:Int)≤256 - (n1:Int):=by omega
   clear h2;refine aAk 14 (by kernel_rfl) (by kernel_rfl) ?_;simp only [List.take_succ_cons,List.take_zero,List.drop_succ_cons,List.drop_zero]
   iterate 14
    refine aA6 (by kernel_rfl) ?_;apply Exists.intro
    refine And.intro ?_ ?_
    ·unfold aA5;first
      |(go_simp;done)
      |(go_simp;exact rfl)
    try simp only [Act.put,List.setIfInBounds_toArray,List.set_cons_zero,List.set_cons_succ]
   refine aAv ?_;change wpList _ _ _ _ _ W.drew;have HDM:Hid (Calls Tryz.prog 144 #[.slice A2 n2 c2,.func (.func 145) #[] #[.pointer (some ⟨w.heap.size,0,none⟩)]] W.drew (aPg l (fun x=>decide (x.epoch=k.current)) W.drew)):=
    aKg P A2 n2 c2 _ _ l _ W.drew (HL2.out.below HWD.out) (by have:=HLN.out;omega) (HS.out.2) aNu (fun V x _ hV=>aOa x.epoch k.current w.heap.size g V ((HBX.out.below HWD.out).below hV) ((HG.out.below HWD.out).below hV|>.cell 1))
   obtain ⟨q0,q1,q2,q3⟩:=HC.out _ HWD.out;clear hsub hsub2;go_wp2_with (first|(go_at_call 117;(with_reducible refine (aAo _ _).mono ?_);rintro e _ ⟨rfl,rfl⟩))
   refine HDM.out.mono ?_;rintro r w1 ⟨hbel,hr⟩;have HB1:=Lib.hid (HWD.out.trans hbel);clear hbel;rcases hr with ⟨rfl,hall⟩|⟨hr,x,hx,hbad⟩
   ·have HT:Hid ((Deed.add l).may k=true):=HM.out.2 ⟨by omega,by omega,fun x hx=>⟨(hall x hx).1,of_decide_eq_true (hall x hx).2⟩⟩;clear hall;obtain ⟨r0,r1,-,r3⟩:=HC.out w1 HB1.out;have HB1D:Hid (Below W.heap.size W w1.drew):=HB1.out.drew;obtain ⟨s0,s1,-,s3⟩:=HC.out _ HB1D.out;have HCP:=Lib.hid (aMp P A2 n2 c2 l w1.drew (HL2.out.below HB1D.out) (by have:=HLN.out;omega) HS.out.2);clear k0 k1 k2 k3 q0 q1 q2 q3;go_wp2_with fail;have HCC:Hid (∀(w2:World) (A3:Option Addr) (c3:Nat),Below W.heap.size W w2→OwnL w1.drew.heap.size w2 (.slice A3 l.length c3) l→Calls Tryz.prog 146 #[.slice (some ⟨w2.heap.size,0,none⟩) 2 2] (w2.alloc (.cells #[.slice A n1 c,.slice A3 l.length c3] 34)) (aKf Q (fun j=>w.heap.size≤j) k.lines l (w2.alloc (.cells #[.slice A n1 c,.slice A3 l.length c3] 34)))):=fun w2 A3 c3 hb ho=>by
     have hal:Below w2.heap.size w2 (w2.alloc (.cells #[.slice A n1 c,.slice A3 l.length c3] 34)):=(Below.refl _ _).alloc (Nat.le_refl _) _;have hbk:Bk (w2.alloc (.cells #[.slice A n1 c,.slice A3 l.length c3] 34)) w2.heap.size 34 #[.slice A n1 c,.slice A3 l.length c3]:=Bk.new w2 _ _;have h1:=((HLK.out.below hb).below hal);rw [HN1.out] at h1 hbk hal ⊢;have hww:w.heap.size≤w1.heap.size:=Nat.le_trans HW.out.size HB1.out.size;exact aRy Q (fun j=>w.heap.size≤j) A A3 c c3 w2.heap.size k.lines l _ hbk h1 ((ho.lns.mono fun j hj=>Nat.le_trans hww hj.1).below hal) HNIL.out ho.caps.2 (by have:=HKM.out;have:=HN1.out;omega) (by have:=HLN.out;have:=HN2.out;omega) (by have:=HN2.out;omega)
    go_region_law (first
     |(go_simp;go_at_call 71;(with_reducible refine HCP.out.mono ?_);rintro e w2 ⟨A3,c3,rfl,hown,hb3⟩;have HO:=Lib.hid hown;have HB3:=Lib.hid (HB1D.out.trans (hb3.mono HB1D.out.size));obtain ⟨t0,t1,-,t3⟩:=HC.out _ HB3.out;have ta:∀ob:Obj,(w2.alloc ob).cell? ⟨w.heap.size,0,none⟩=some (.pointer (some ⟨g,0,none⟩)):=(fun ob=>(HC.out _ (HB3.out.alloc HB3.out.size ob)).1);clear hown hb3)
     |(go_simp;go_at_call 146;(with_reducible refine (HCC.out _ _ _ HB3.out HO.out).mono ?_);rintro e w4 ⟨A4,c4,rfl,hlen,hne,hls,hb4⟩;have HLEN:=Lib.hid hlen;have HNE:=Lib.hid hne;have HLS:=Lib.hid hls;have HB4:=Lib.hid (HB3.out.trans (((Below.refl w2.heap.size w2).alloc (Nat.le_refl _) (.cells #[.slice A n1 c,.slice A3 l.length c3] 34)).trans (hb4.mono (by simp))|>.mono HB3.out.size));have HG4:=Lib.hid (HG.out.below HB4.out);obtain ⟨u0,-,-,-⟩:=HC.out _ HB4.out;have u3:w4.cell? ⟨g,2,none⟩=some (.slice A n1 c):=HG4.out.cell 2;have uf:w4.frozen? ⟨g,2,none⟩=false:=HG4.out.frozen 2;clear hlen hne hls hb4))
    all_goals
     have HWW:Hid (w.heap.size≤w2.heap.size):=Nat.le_trans HW.out.size HB3.out.size;have h3:Bk (w4.setCell ⟨g,2,none⟩ (.slice A4 (k.lines.length+l.length) c4)) g 69 #[.int .u64 (k.promised:Int),.int .u64 (k.current:Int),.slice A4 (k.lines++l).length c4]:=by
      rw [List.length_append];simpa using HG4.out.set 2 (.slice A4 (k.lines.length+l.length) c4)
     have ho:Out (·=g) w4 (w4.setCell ⟨g,2,none⟩ (.slice A4 (k.lines.length+l.length) c4)):=Out.setCell (X:=(·=g)) w4 (p:=⟨g,2,none⟩) rfl _;have hl:=HLS.out.out ho (fun j hj e=>by
      have hj:(Q j∨w.heap.size≤j)∨w2.heap.size+1≤j:=by simpa using hj
      have:=HGl.out;have:=HWW.out;rcases hj with (q|q)|q
      ·exact hgq (e ▸ q)
      ·omega
      ·omega)
     have hfin:aGv Q g k (.add l) w (.returned (.tuple #[])) (w4.setCell ⟨g,2,none⟩ (.slice A4 (k.lines.length+l.length) c4)):=
      Or.inl ⟨HT.out,rfl,⟨A4,c4,h3,hl.mono (fun j hj=>by
       have hj:(Q j∨w.heap.size≤j)∨w2.heap.size+1≤j:=by simpa using hj
       have:=HWW.out;rcases hj with (q|q)|q
       ·exact Or.inl q
       ·exact Or.inr q
       ·exact Or.inr (by omega)),HLEN.out,fun h=>absurd h HNE.out⟩,(Out.of_below (X:=(·=g)) (HW.out.trans (HB4.out.mono HW.out.size))).trans ho fun _ h=>.inl h⟩
     have HFIN:=Lib.hid hfin;clear hfin h3 ho hl
     go_end0
     exact HFIN.out
   ·have HF:=Lib.hid (HNO.out fun h=>hbad ⟨(h.2.2 x hx).1,decide_eq_true (h.2.2 x hx).2⟩);clear hbad hx;have hr':r=.panicked [{v:=.iface 27 (.int .i64 1),recovered:=false}]:=hr;subst hr';clear hr;go_wp2_with fail;exact ⟨rfl,.inr ⟨HF.out,rfl,HW.out.trans (HB1.out.mono HW.out.size)⟩⟩
end Go.Proofs.YtgjmbbkcgillcaaGreat.Sto
namespace Go.Proofs.YtgjmbbkcgillcaaGreat.Sto
open Go.RowKit Disk Log
def DeedV (P:Nat→Prop) (w:World) (v:Value):Rec→Prop
 |.deed (.prom e)=>∃b,v=.func (.func 126) #[] #[.pointer (some ⟨b,0,none⟩)]∧Bk w b 33 #[.int .u64 (e:Int)]∧P b
 |.deed (.adopt e l)=>∃b b2 A c,v=.func (.func 193) #[] #[.pointer (some ⟨b,0,none⟩),.pointer (some ⟨b2,0,none⟩)]∧Bk w b 33 #[.int .u64 (e:Int)]∧Bk w b2 34 #[.slice A l.length c]∧LnS P w A l.length l∧P b∧P b2
 |.deed (.add l)=>∃b2 A c,v=.func (.func 143) #[] #[.pointer (some ⟨b2,0,none⟩)]∧Bk w b2 34 #[.slice A l.length c]∧LnS P w A l.length l∧P b2
 |.whole a=>∃b A c,v=.func (.func 249) #[] #[.pointer (some ⟨b,0,none⟩)]∧Bk w b 69 #[.int .u64 (a.promised:Int),.int .u64 (a.current:Int),.slice A a.lines.length c]∧LnS P w A a.lines.length a.lines∧P b
theorem aAd {w w':World} {g:Nat} {t:TypeId} {cs:Array Value} {X:Nat→Prop} (h:Bk w g t cs) (ho:Out X w w') (hx:¬X g):Bk w' g t cs:=h.kept (ho.block g h.lt hx)
theorem DeedV.out {P X:Nat→Prop} {w w':World} {v:Value} {r:Rec} (h:DeedV P w v r) (ho:Out X w w') (hx:∀k,P k→¬X k):DeedV P w' v r:=by
 match r,h with
 |.deed (.prom e),⟨b,h1,h2,h3⟩=>exact ⟨b,h1,aAd h2 ho (hx _ h3),h3⟩
 |.deed (.adopt e l),⟨b,b2,A,c,h1,h2,h3,h4,h5,h6⟩=>exact ⟨b,b2,A,c,h1,aAd h2 ho (hx _ h5),aAd h3 ho (hx _ h6),h4.out ho hx,h5,h6⟩
 |.deed (.add l),⟨b2,A,c,h1,h3,h4,h6⟩=>exact ⟨b2,A,c,h1,aAd h3 ho (hx _ h6),h4.out ho hx,h6⟩
 |.whole a,⟨b,A,c,h1,h3,h4,h6⟩=>exact ⟨b,A,c,h1,aAd h3 ho (hx _ h6),h4.out ho hx,h6⟩
theorem DeedV.below {P:Nat→Prop} {w w':World} {v:Value} {r:Rec} (h:DeedV P w v r) (hb:Below w.heap.size w w'):DeedV P w' v r:=
 h.out (X:=fun _=>False) (Out.of_below hb) fun _ _ q=>q
theorem DeedV.mono {P Q:Nat→Prop} {w:World} {v:Value} {r:Rec} (h:DeedV P w v r) (hq:∀k,P k→Q k):DeedV Q w v r:=by
 match r,h with
 |.deed (.prom e),⟨b,h1,h2,h3⟩=>exact ⟨b,h1,h2,hq _ h3⟩
 |.deed (.adopt e l),⟨b,b2,A,c,h1,h2,h3,h4,h5,h6⟩=>exact ⟨b,b2,A,c,h1,h2,h3,h4.mono hq,hq _ h5,hq _ h6⟩
 |.deed (.add l),⟨b2,A,c,h1,h3,h4,h6⟩=>exact ⟨b2,A,c,h1,h3,h4.mono hq,hq _ h6⟩
 |.whole a,⟨b,A,c,h1,h3,h4,h6⟩=>exact ⟨b,A,c,h1,h3,h4.mono hq,hq _ h6⟩
def aCn (P:Nat→Prop) (r:Rec) (w:World) (e:Ending) (w':World):Prop:=
 ∃v,e=.returned v∧DeedV (fun b=>P b∨w.heap.size≤b) w' v r∧Below w.heap.size w w'
set_option maxRecDepth 8000 in
theorem aFy (P:Nat→Prop) (e:Nat) (w:World):Calls Tryz.prog 74 #[.int .u64 (e:Int)] w (aCn P (.deed (.prom e)) w):=by
 have HF:Hid (aCn P (.deed (.prom e)) w (.returned (.func (.func 126) #[] #[.pointer (some ⟨w.heap.size,0,none⟩)])) (w.alloc (.cells #[.int .u64 (e:Int)] 33))):=
  ⟨_,rfl,⟨w.heap.size,rfl,Bk.new w _ _,.inr (Nat.le_refl _)⟩,(Below.refl _ _).alloc (Nat.le_refl _) _⟩
 have hmf:∀(fn:Fn) (first cap:Array Value) (w:World),(Instr.makeFunc fn first cap).run Tryz.prog w=.ok (.func fn first cap) w:=fun _ _ _ _=>rfl;go_enter Tryz.func74,Tryz.ntmps74
 go_wp2_with fail;go_ret;exact HF.out
set_option maxRecDepth 8000 in
theorem aL8 (P:Nat→Prop) (e:Nat) (l:List Ln) (A:Option Addr) (c:Nat) (w:World) (h:LnS P w A l.length l):Calls Tryz.prog 167 #[.int .u64 (e:Int),.slice A l.length c] w (aCn P (.deed (.adopt e l)) w):=by
 have hb:Below w.heap.size w ((w.alloc (.cells #[.int .u64 (e:Int)] 33)).alloc (.cells #[.slice A l.length c] 34)):=((Below.refl _ _).alloc (Nat.le_refl _) _).alloc (by simp) _;have h2:Bk ((w.alloc (.cells #[.int .u64 (e:Int)] 33)).alloc (.cells #[.slice A l.length c] 34)) (w.heap.size+1) 34 #[.slice A l.length c]:=by
  have:=Bk.new (w.alloc (.cells #[.int .u64 (e:Int)] 33)) 34 #[.slice A l.length c];rwa [World.size_alloc] at this
 have HF:Hid (aCn P (.deed (.adopt e l)) w (.returned (.func (.func 193) #[] #[.pointer (some ⟨w.heap.size,0,none⟩),.pointer (some ⟨w.heap.size+1,0,none⟩)])) ((w.alloc (.cells #[.int .u64 (e:Int)] 33)).alloc (.cells #[.slice A l.length c] 34))):=
  ⟨_,rfl,⟨w.heap.size,w.heap.size+1,A,c,rfl,(Bk.new w _ _).alloc _,h2,(h.below hb).mono fun _ q=>.inl q,.inr (Nat.le_refl _),.inr (Nat.le_succ _)⟩,hb⟩
 have hmf:∀(fn:Fn) (first cap:Array Value) (w:World),(Instr.makeFunc fn first cap).run Tryz.prog w=.ok (.func fn first cap) w:=fun _ _ _ _=>rfl;clear hb h2;go_enter Tryz.func167,Tryz.ntmps167
 go_wp2_with fail;go_ret;exact HF.out
set_option maxRecDepth 8000 in
theorem aXs (P:Nat→Prop) (l:List Ln) (A:Option Addr) (c:Nat) (w:World) (h:LnS P w A l.length l):Calls Tryz.prog 106 #[.slice A l.length c] w (aCn P (.deed (.add l)) w):=by
 have hb:Below w.heap.size w (w.alloc (.cells #[.slice A l.length c] 34)):=(Below.refl _ _).alloc (Nat.le_refl _) _;have HF:Hid (aCn P (.deed (.add l)) w (.returned (.func (.func 143) #[] #[.pointer (some ⟨w.heap.size,0,none⟩)])) (w.alloc (.cells #[.slice A l.length c] 34))):=
  ⟨_,rfl,⟨w.heap.size,A,c,rfl,Bk.new w _ _,(h.below hb).mono fun _ q=>.inl q,.inr (Nat.le_refl _)⟩,hb⟩
 have hmf:∀(fn:Fn) (first cap:Array Value) (w:World),(Instr.makeFunc fn first cap).run Tryz.prog w=.ok (.func fn first cap) w:=fun _ _ _ _=>rfl;clear hb;go_enter Tryz.func106,Tryz.ntmps106
 go_wp2_with fail;go_ret;exact HF.out
set_option maxRecDepth 8000 in
theorem aOs (P:Nat→Prop) (a:Kp) (A:Option Addr) (c:Nat) (w:World) (h:LnS P w A a.lines.length a.lines):Calls Tryz.prog 239 #[kpV a A c] w (aCn P (.whole a) w):=by
 have hb:Below w.heap.size w (w.alloc (.cells #[.int .u64 (a.promised:Int),.int .u64 (a.current:Int),.slice A a.lines.length c] 69)):=(Below.refl _ _).alloc (Nat.le_refl _) _;have HF:Hid (aCn P (.whole a) w (.returned (.func (.func 249) #[] #[.pointer (some ⟨w.heap.size,0,none⟩)])) (w.alloc (.cells #[.int .u64 (a.promised:Int),.int .u64 (a.current:Int),.slice A a.lines.length c] 69))):=
  ⟨_,rfl,⟨w.heap.size,A,c,rfl,Bk.new w _ _,(h.below hb).mono fun _ q=>.inl q,.inr (Nat.le_refl _)⟩,hb⟩
 have hmf:∀(fn:Fn) (first cap:Array Value) (w:World),(Instr.makeFunc fn first cap).run Tryz.prog w=.ok (.func fn first cap) w:=fun _ _ _ _=>rfl;clear hb;unfold kpV;go_enter Tryz.func239,Tryz.ntmps239
 go_wp2_with fail;go_ret;exact HF.out
end Go.Proofs.YtgjmbbkcgillcaaGreat.Sto
namespace Go.Proofs.YtgjmbbkcgillcaaGreat.Sto
open Go.RowKit Disk Log
theorem aTv {k:Kp} (h:Fine k):Small k.lines:=⟨by have:=h.many;omega,fun x hx=>by have:=(aAi.1 (h.each x hx).1).2.2.2;omega⟩
theorem KpAt.mono {P Q:Nat→Prop} {w:World} {g:Nat} {k:Kp} (h:KpAt P w g k) (hq:∀b,P b→Q b):KpAt Q w g k:=by
 obtain ⟨A,c,h1,h2,h3⟩:=h.at_;exact ⟨A,c,h1,h2.mono hq,h3⟩
theorem KpAt.lt {P:Nat→Prop} {w:World} {g:Nat} {k:Kp} (h:KpAt P w g k):g<w.heap.size:=by
 obtain ⟨A,c,h1,_⟩:=h.at_;exact h1.lt
theorem KpAt.out {P X:Nat→Prop} {w w':World} {g:Nat} {k:Kp} (h:KpAt P w g k) (ho:Out X w w') (hg:¬X g) (hx:∀b,P b→¬X b):KpAt P w' g k:=by
 obtain ⟨A,c,h1,h2,h3⟩:=h.at_;exact ⟨A,c,aAd h1 ho hg,h2.out ho hx,h3⟩
theorem KpAt.below {P:Nat→Prop} {w w':World} {g:Nat} {k:Kp} (h:KpAt P w g k) (hb:Below w.heap.size w w'):KpAt P w' g k:=
 h.out (X:=fun _=>False) (Out.of_below hb) (fun q=>q) fun _ _ q=>q
def aKp (Q:Nat→Prop) (g:Nat) (a:Kp) (w:World) (e:Ending) (w':World):Prop:=
 e=.returned (.tuple #[])∧KpAt (fun b=>Q b∨w.heap.size≤b) w' g a∧Out (·=g) w w'
set_option maxRecDepth 8000 in
theorem aSm (P Q:Nat→Prop) (g b:Nat) (a:Kp) (A:Option Addr) (c:Nat) (w:World) (hk:KpAt Q w g Kp.zero) (hb:Bk w b 69 #[.int .u64 (a.promised:Int),.int .u64 (a.current:Int),.slice A a.lines.length c]) (hl:LnS P w A a.lines.length a.lines) (ha:Fine a) (hp:0<a.promised) (hgb:b≠g) (hgp:¬P g) (hgq:¬Q g):
  Calls Tryz.prog 249 #[.pointer (some ⟨g,0,none⟩),.pointer (some ⟨b,0,none⟩)] w (aKp Q g a w):=by
 have HK:=Lib.hid hk;have HB:=Lib.hid hb;have HL:=Lib.hid hl;have HFA:=Lib.hid ha;have HP:Hid (0<a.promised):=hp;have HC:Hid (∀V,Below w.heap.size w V→V.cell? ⟨b,0,none⟩=some (.int .u64 (a.promised:Int))∧V.cell? ⟨b,1,none⟩=some (.int .u64 (a.current:Int))∧V.cell? ⟨b,2,none⟩=some (.slice A a.lines.length c)):=fun V hV=>⟨(hb.below hV).cell 0,(hb.below hV).cell 1,(hb.below hV).cell 2⟩;have HCO:Hid (∀V,Out (·=g) w V→V.cell? ⟨b,0,none⟩=some (.int .u64 (a.promised:Int))∧V.cell? ⟨b,1,none⟩=some (.int .u64 (a.current:Int))∧V.cell? ⟨b,2,none⟩=some (.slice A a.lines.length c)):=fun V hV=>⟨(aAd hb hV hgb).cell 0,(aAd hb hV hgb).cell 1,(aAd hb hV hgb).cell 2⟩;obtain ⟨k0,k1,k2⟩:=HC.out w (Below.refl _ _);have kg:w.cell? ⟨g,0,none⟩=some (.int .u64 0):=by
  obtain ⟨A0,c0,hg,_⟩:=hk.at_;exact hg.cell 0
 have HGL:Hid (g<w.heap.size):=hk.lt;have CM:=Lib.hid (aL8 P a.current a.lines A c w hl);have CR:Hid (∀W v,Below w.heap.size w W→DeedV (fun b=>P b∨w.heap.size≤b) W v (.deed (.adopt a.current a.lines))→∃b1 b2,v=.func (.func 193) #[] #[.pointer (some ⟨b1,0,none⟩),.pointer (some ⟨b2,0,none⟩)]∧Calls Tryz.prog 193 #[.pointer (some ⟨g,0,none⟩),.pointer (some ⟨b1,0,none⟩),.pointer (some ⟨b2,0,none⟩)] W (aGv Q g Kp.zero (.adopt a.current a.lines) W)):=fun W v hW hv=>by
  obtain ⟨b1,b2,A1,c1,rfl,q2,q3,q4,q5,q6⟩:=hv;have hne:∀j,(P j∨w.heap.size≤j)→j≠g:=fun j hj e=>by
   rcases hj with hj|hj
   ·exact hgp (e ▸ hj)
   ·have:=HGL.out;omega
  exact ⟨b1,b2,rfl,aO0 _ Q g b1 b2 a.current a.lines A1 c1 Kp.zero W (HK.out.below hW) q2 q3 q4 (aTv HFA.out) (hne _ q5) (hne _ q6)⟩
 have HMA:Hid (0<a.current∨0<a.lines.length→(Deed.adopt a.current a.lines).may Kp.zero=true):=fun h=>by
  have h1:=ha.cur;have h2:=ha.prom;have h3:=ha.many;refine aCb.2 ⟨Nat.zero_le _,?_,Nat.le_trans h1 h2,h3,ha.each⟩;show 0<a.current;rcases h with h|h
  ·exact h
  ·have:=ha.each _ (List.getElem_mem h);have:=(aAi.1 this.1).1;omega
 have HEND:Hid (∀k:Kp,k.current=a.current→k.lines=a.lines→k.promised=a.promised→k=a):=fun k h1 h2 h3=>by
  cases k;cases a;simp_all
 obtain ⟨n,hn⟩:∃n,n=a.lines.length:=⟨_,rfl⟩;have HN:=Lib.hid hn;rw [←hn] at k2 CM HMA HCO;have hpb:((a.promised:Int)==0)=false:=beq_eq_false_iff_ne.2 (by omega);clear hk hb hl ha hp hn;go_enter Tryz.func249,Tryz.ntmps249
 by_cases hc:0<a.current∨0<n
 ·have HT:=Lib.hid (HMA.out hc);have hcc:(0:Int)<(a.current:Int):=by
   have:=(aCb.1 (HMA.out hc)).2.1;have:0<a.current:=this;omega
  clear hc;go_wp2_with (go_at_call 117;(with_reducible refine (aAo _ _).mono ?_);rintro e _ ⟨rfl,rfl⟩)
  refine CM.out.mono ?_;rintro e w1 ⟨v,rfl,hv,hb1⟩;obtain ⟨b1,b2,rfl,cr⟩:=CR.out w1 v hb1 hv;have HB1:=Lib.hid hb1;have CRR:=Lib.hid cr;clear cr hv hb1 k0 k1 k2 kg;go_wp2_with fail;refine CRR.out.mono ?_;rintro e w2 (⟨-,rfl,hk2,ho2⟩|⟨hf,-,-⟩)
  ·have HK2:Hid (KpAt (fun j=>Q j∨w.heap.size≤j) w2 g ⟨a.current,a.current,a.lines⟩):=hk2.mono fun j hj=>hj.imp id fun q=>Nat.le_trans HB1.out.size q;have HO2:Hid (Out (·=g) w w2):=(Out.of_below HB1.out).trans ho2 fun _ h=>.inl h;clear hk2 ho2 CRR;obtain ⟨k0,k1,k2⟩:=HCO.out _ HO2.out;by_cases heq:a.promised=a.current
   ·have e1:((a.promised:Int) != (a.current:Int))=false:=by rw [heq];simp
    have e2:((a.promised:Int)==(a.current:Int))=true:=by rw [heq];simp
    have e3:(a.promised != a.current)=false:=by rw [heq];simp
    have HFIN:Hid (KpAt (fun j=>Q j∨w.heap.size≤j) w2 g a):=by
     have:=HEND.out ⟨a.current,a.current,a.lines⟩ rfl rfl heq.symm;rw [←this];exact HK2.out
    clear heq;go_wp2_with (go_at_call 117;(with_reducible refine (aAo _ _).mono ?_);rintro e _ ⟨rfl,rfl⟩)
    go_end0
    exact ⟨rfl,HFIN.out,HO2.out⟩
   ·have e1:((a.promised:Int) != (a.current:Int))=true:=by simpa using (by omega:¬(a.promised:Int)=(a.current:Int))
    have e2:((a.promised:Int)==(a.current:Int))=false:=beq_eq_false_iff_ne.2 (by omega);have e3:(a.promised != a.current)=true:=by simpa using heq
    have HMP:Hid ((Deed.prom a.promised).may ⟨a.current,a.current,a.lines⟩=true):=aD4.2 ⟨by have:=HFA.out.cur;show a.current<a.promised;omega,HFA.out.prom⟩;have HEN:Hid ((Deed.prom a.promised).run ⟨a.current,a.current,a.lines⟩=a):=HEND.out _ rfl rfl rfl;clear heq;go_wp2_with (first
     |(go_at_call 117;(with_reducible refine (aAo _ _).mono ?_);rintro e _ ⟨rfl,rfl⟩)
     |(go_at_call 74;(with_reducible refine (aFy (fun _=>False) _ _).mono ?_);rintro e w3 ⟨v3,rfl,⟨b3,rfl,q2,q3⟩,hb3⟩;have HB3:=Lib.hid hb3;have CP:=Lib.hid (aLz _ g b3 a.promised ⟨a.current,a.current,a.lines⟩ w3 (HK2.out.below hb3) q2 (fun h=>h.elim hgq (fun q=>by have:=HGL.out;omega)));clear q2 q3 hb3))
    refine CP.out.mono ?_;rintro e w4 (⟨-,rfl,hk4,ho4⟩|⟨hf,-,-⟩)
    ·have HFIN:Hid (KpAt (fun j=>Q j∨w.heap.size≤j) w4 g a):=by
      have h5:KpAt _ w4 g ((Deed.prom a.promised).run ⟨a.current,a.current,a.lines⟩):=hk4;rw [HEN.out] at h5;exact h5.mono fun j hj=>hj.elim id fun q=>.inr (Nat.le_trans HO2.out.size (Nat.le_trans HB3.out.size q))
     have HO4:Hid (Out (·=g) w w4):=(HO2.out.trans (Out.of_below (X:=(·=g)) HB3.out) fun _ h=>.inl h).trans ho4 fun _ h=>.inl h;clear hk4 ho4;go_wp2_with fail
     go_end0
     exact ⟨rfl,HFIN.out,HO4.out⟩
    ·have hf:(Deed.prom a.promised).may ⟨a.current,a.current,a.lines⟩=false:=hf;rw [HMP.out] at hf;cases hf
  ·have hf:(Deed.adopt a.current a.lines).may Kp.zero=false:=hf;rw [HT.out] at hf;cases hf
 ·have hc1:a.current=0:=by omega
  have hc2:n=0:=by omega
  have HK2:Hid (KpAt (fun j=>Q j∨w.heap.size≤j) w g ⟨a.current,a.current,a.lines⟩):=by
   have hz:a.lines=[]:=List.eq_nil_of_length_eq_zero (by rw [←HN.out];exact hc2);rw [hc1,hz];exact HK.out.mono fun j hj=>.inl hj
  have HO2:Hid (Out (·=g) w w):=Out.refl _ w;have hcd:((0:Int)<(a.current:Int))=False:=eq_false (by omega);have hnd:((0:Int)<(n:Int))=False:=eq_false (by omega);have hcd2:(0<a.current)=False:=eq_false (by omega);have hnd2:(0<n)=False:=eq_false (by omega);clear hc hc1 hc2;have HXX:True:=trivial;by_cases heq:a.promised=a.current
  ·have e1:((a.promised:Int) != (a.current:Int))=false:=by rw [heq];simp
   have e2:((a.promised:Int)==(a.current:Int))=true:=by rw [heq];simp
   have e3:(a.promised != a.current)=false:=by rw [heq];simp
   have HFIN:Hid (KpAt (fun j=>Q j∨w.heap.size≤j) w g a):=by
    have:=HEND.out ⟨a.current,a.current,a.lines⟩ rfl rfl heq.symm;rw [←this];exact HK2.out
   clear heq;go_wp2_with (go_at_call 117;(with_reducible refine (aAo _ _).mono ?_);rintro e _ ⟨rfl,rfl⟩)
   go_end0
   exact ⟨rfl,HFIN.out,HO2.out⟩
  ·have e1:((a.promised:Int) != (a.current:Int))=true:=by simpa using (by omega:¬(a.promised:Int)=(a.current:Int))
   have e2:((a.promised:Int)==(a.current:Int))=false:=beq_eq_false_iff_ne.2 (by omega);have e3:(a.promised != a.current)=true:=by simpa using heq
   have HMP:Hid ((Deed.prom a.promised).may ⟨a.current,a.current,a.lines⟩=true):=aD4.2 ⟨by have:=HFA.out.cur;show a.current<a.promised;omega,HFA.out.prom⟩;have HEN:Hid ((Deed.prom a.promised).run ⟨a.current,a.current,a.lines⟩=a):=HEND.out _ rfl rfl rfl;clear heq;go_wp2_with (first
    |(go_at_call 117;(with_reducible refine (aAo _ _).mono ?_);rintro e _ ⟨rfl,rfl⟩)
    |(go_at_call 74;(with_reducible refine (aFy (fun _=>False) _ _).mono ?_);rintro e w3 ⟨v3,rfl,⟨b3,rfl,q2,q3⟩,hb3⟩;have HB3:=Lib.hid hb3;have CP:=Lib.hid (aLz _ g b3 a.promised ⟨a.current,a.current,a.lines⟩ w3 (HK2.out.below hb3) q2 (fun h=>h.elim hgq (fun q=>by have:=HGL.out;omega)));clear q2 q3 hb3))
   refine CP.out.mono ?_;rintro e w4 (⟨-,rfl,hk4,ho4⟩|⟨hf,-,-⟩)
   ·have HFIN:Hid (KpAt (fun j=>Q j∨w.heap.size≤j) w4 g a):=by
     have h5:KpAt _ w4 g ((Deed.prom a.promised).run ⟨a.current,a.current,a.lines⟩):=hk4;rw [HEN.out] at h5;exact h5.mono fun j hj=>hj.elim id fun q=>.inr (Nat.le_trans HO2.out.size (Nat.le_trans HB3.out.size q))
    have HO4:Hid (Out (·=g) w w4):=(HO2.out.trans (Out.of_below (X:=(·=g)) HB3.out) fun _ h=>.inl h).trans ho4 fun _ h=>.inl h;clear hk4 ho4;go_wp2_with fail
    go_end0
    exact ⟨rfl,HFIN.out,HO4.out⟩
   ·have hf:(Deed.prom a.promised).may ⟨a.current,a.current,a.lines⟩=false:=hf;rw [HMP.out] at hf;cases hf
def aQw (Q:Nat→Prop) (g:Nat) (k:Kp):Rec→World→Ending→World→Prop
 |.deed D,V=>aGv Q g k D V
 |.whole a,V=>aKp Q g a V
def SmallR:Rec→Prop
 |.deed (.prom _)=>True
 |.deed (.adopt _ l)=>Small l
 |.deed (.add l)=>Small l
 |.whole _=>True
theorem aOt (r:Rec) (P:Nat→Prop) (w:World) (v:Value) (h:DeedV P w v r):∃F caps,v=.func (.func F) #[] caps∧(∀args w,(callFunc F args).run Tryz.prog w=.ok (.enter F args) w)∧
  ∀(P2 Q:Nat→Prop) (V:World) (g:Nat) (k:Kp),DeedV P2 V v r→KpAt Q V g k→¬P2 g→¬Q g→k.lines.length≤256→SmallR r→(∀a,r=.whole a→k=Kp.zero∧Fine a∧0<a.promised)→
   Calls Tryz.prog F (#[.pointer (some ⟨g,0,none⟩)]++caps) V (aQw Q g k r V):=by
 cases r with
 |deed D=>
  cases D with
  |prom e=>
   obtain ⟨b,h1,h2,h3⟩:=h;refine ⟨_,_,h1,by intro args w;kernel_rfl,fun P2 Q V g k hv hk hp hq hl hs ha=>?_⟩;obtain ⟨b',e1,q2,q3⟩:=hv;rw [h1] at e1;injection e1 with _ _ e1;rw [e1];exact aLz Q g b' e k V hk q2 hq
  |adopt e l=>
   obtain ⟨b,b2,A,c,h1,h2,h3,h4,h5,h6⟩:=h;refine ⟨_,_,h1,by intro args w;kernel_rfl,fun P2 Q V g k hv hk hp hq hl hs ha=>?_⟩;obtain ⟨b',b2',A',c',e1,q2,q3,q4,q5,q6⟩:=hv;rw [h1] at e1;injection e1 with _ _ e1;rw [e1];exact aO0 P2 Q g b' b2' e l A' c' k V hk q2 q3 q4 hs (fun e=>hp (e ▸ q5)) (fun e=>hp (e ▸ q6))
  |add l=>
   obtain ⟨b2,A,c,h1,h3,h4,h6⟩:=h;refine ⟨_,_,h1,by intro args w;kernel_rfl,fun P2 Q V g k hv hk hp hq hl hs ha=>?_⟩;obtain ⟨b2',A',c',e1,q3,q4,q6⟩:=hv;rw [h1] at e1;injection e1 with _ _ e1;rw [e1];exact aT7 P2 Q g b2' l A' c' k V hk hl q3 q4 hs hq
 |whole a=>
  obtain ⟨b,A,c,h1,h3,h4,h6⟩:=h;refine ⟨_,_,h1,by intro args w;kernel_rfl,fun P2 Q V g k hv hk hp hq hl hs ha=>?_⟩;obtain ⟨b',A',c',e1,q3,q4,q6⟩:=hv;rw [h1] at e1;injection e1 with _ _ e1;rw [e1];obtain ⟨rfl,a2,a3⟩:=ha a rfl;exact aSm P2 Q g b' a A' c' V hk q3 q4 a2 a3 (fun e=>hp (e ▸ q6)) hp hq
end Go.Proofs.YtgjmbbkcgillcaaGreat.Sto
namespace Go.Proofs.YtgjmbbkcgillcaaGreat.Sto
open Go.RowKit Disk Log
def RdPost (Q:Nat→Prop) (r:Rec) (rd:Nat) (rest:List UInt8) (w:World) (e:Ending) (w':World):Prop:=
 ∃v,e=.returned v∧DeedV (fun b=>w.heap.size≤b) w' v r∧RdrQ Q w' rd (rest,false)∧Out (·=rd) w w'
theorem RdPost.of {Q P:Nat→Prop} {r:Rec} {rd:Nat} {rest:List UInt8} {w w1 w2:World} {e:Ending} (hm:aCn P r w1 e w2) (hP:∀b,P b→w.heap.size≤b) (ho:Out (·=rd) w w1) (hr:RdrQ Q w1 rd (rest,false)):RdPost Q r rd rest w e w2:=by
 obtain ⟨v,h1,h2,h3⟩:=hm;exact ⟨v,h1,h2.mono fun b hb=>hb.elim (hP b) fun q=>Nat.le_trans ho.size q,hr.below h3,ho.trans (Out.of_below (X:=(·=rd)) h3) fun _ h=>.inl h⟩
set_option maxRecDepth 8000 in
theorem aMx (Q:Nat→Prop) (rd e:Nat) (rest:List UInt8) (w:World) (h:RdrQ Q w rd (be 8 e++rest,false)) (he:e<18446744073709551616):
  Calls Tryz.prog 213 #[.agg #[.pointer (some ⟨rd,0,none⟩)]] w (RdPost Q (.deed (.prom e)) rd rest w):=by
 have hwb:Below w.heap.size w (w.alloc (.cells #[.pointer (some ⟨rd,0,none⟩)] 252)):=(Below.refl _ _).alloc (Nat.le_refl _) _;have CU:=Lib.hid (aJm rd e rest _ (h.below hwb) he);have HWB:=Lib.hid hwb;clear hwb h;go_enter Tryz.func213,Tryz.ntmps213
 go_wp2_with fail;refine CU.out.mono ?_;rintro r w1 ⟨rfl,hr1,hg1⟩;have HR1:=Lib.hid hr1;have HO1:Hid (Out (·=rd) w w1):=(Out.of_below HWB.out).trans (aAw hg1) fun _ h=>.inl h;clear hr1 hg1 CU;go_wp2_with fail;refine (aFy (fun _=>False) e w1).mono ?_;intro r w2 hm;have HF:=Lib.hid (RdPost.of hm (fun _ q=>q.elim) HO1.out HR1.out);obtain ⟨v,rfl,-⟩:=hm;go_wp2_with fail;go_ret;exact HF.out
set_option maxRecDepth 8000 in
theorem aTb (Q:Nat→Prop) (rd:Nat) (l:List Ln) (rest:List UInt8) (w:World) (h:RdrQ Q w rd (linesT l++rest,false)) (ht:Told l) (hQ:∀b,Q b→b<w.heap.size∧b≠rd):
  Calls Tryz.prog 215 #[.agg #[.pointer (some ⟨rd,0,none⟩)]] w (RdPost Q (.deed (.add l)) rd rest w):=by
 have hwb:Below w.heap.size w (w.alloc (.cells #[.pointer (some ⟨rd,0,none⟩)] 252)):=(Below.refl _ _).alloc (Nat.le_refl _) _;have CL:=Lib.hid (aC9 Q rd l rest _ (h.below hwb) ht (fun b hb=>⟨Nat.lt_of_lt_of_le (hQ b hb).1 hwb.size,(hQ b hb).2⟩));have HWB:=Lib.hid hwb;clear hwb h hQ;go_enter Tryz.func215,Tryz.ntmps215
 go_wp2_with fail;refine CL.out.mono ?_;rintro r w1 ⟨A,c,rfl,hl1,hr1,ho1⟩;have HR1:=Lib.hid hr1;have HO1:Hid (Out (·=rd) w w1):=(Out.of_below HWB.out).trans ho1 fun _ h=>.inl h;have CM:=Lib.hid (aXs (fun b=>w.heap.size≤b) l A c w1 (hl1.lns.mono fun b hb=>Nat.le_trans HWB.out.size hb.1));clear hr1 ho1 hl1 CL;go_wp2_with fail;refine CM.out.mono ?_;intro r w2 hm;have HF:=Lib.hid (RdPost.of hm (fun _ q=>q) HO1.out HR1.out);obtain ⟨v,rfl,-⟩:=hm;go_wp2_with fail;go_ret;exact HF.out
set_option maxRecDepth 8000 in
theorem aSb (Q:Nat→Prop) (rd e:Nat) (l:List Ln) (rest:List UInt8) (w:World) (h:RdrQ Q w rd (be 8 e++(linesT l++rest),false)) (he:e<18446744073709551616) (ht:Told l) (hQ:∀b,Q b→b<w.heap.size∧b≠rd):
  Calls Tryz.prog 214 #[.agg #[.pointer (some ⟨rd,0,none⟩)]] w (RdPost Q (.deed (.adopt e l)) rd rest w):=by
 obtain ⟨W,hW⟩:∃W,W=w.alloc (.cells #[.pointer (some ⟨rd,0,none⟩)] 252):=⟨_,rfl⟩;have hwb:Below w.heap.size w W:=by rw [hW];exact (Below.refl _ _).alloc (Nat.le_refl _) _
 have hbk:Bk W w.heap.size 252 #[.pointer (some ⟨rd,0,none⟩)]:=by rw [hW];exact Bk.new w _ _
 have HRL:Hid (rd<w.heap.size):=h.lt;have HWE:=Lib.hid hW;have HWB:=Lib.hid hwb;have HBK:=Lib.hid hbk;have BD:Hid (Below W.heap.size W W.drew):=(Below.refl _ W).drew;have CU:=Lib.hid (aJm rd e _ W.drew ((h.below hwb).below BD.out) he);have CL:Hid (∀V,W.heap.size≤V.heap.size→RdrQ Q V rd (linesT l++rest,false)→Calls Tryz.prog 240 #[.agg #[.pointer (some ⟨rd,0,none⟩)]] V (aJo Q V rd l rest)):=fun V hV hr=>aC9 Q rd l rest V hr ht (fun b hb=>⟨Nat.lt_of_lt_of_le (hQ b hb).1 (Nat.le_trans hwb.size hV),(hQ b hb).2⟩);have HC:Hid (∀V,Out (·=rd) W V→V.cell? ⟨w.heap.size,0,none⟩=some (.pointer (some ⟨rd,0,none⟩))):=fun V hV=>(aAd HBK.out hV (by have:=HRL.out;omega)).cell 0;have k0:=HC.out W (Out.refl _ _);have HSD:=Lib.hid (HC.out _ (Out.of_below BD.out));clear hW hwb hbk h hQ;go_enter Tryz.func214,Tryz.ntmps214
 go_wp2_with fail;rw [←HWE.out]
 go_region_held3 (fun V=>V.cell? ⟨w.heap.size,0,none⟩=some (.pointer (some ⟨rd,0,none⟩)))
  (first|(with_reducible assumption)|(with_reducible exact HSD.out)|(with_reducible exact HS1.out)|(with_reducible exact HS2.out)|(with_reducible exact HS3.out))
  (first
   |(go_at_call 85;(with_reducible refine CU.out.mono ?_);rintro r w1 ⟨rfl,hr1,hg1⟩;have HO1:Hid (Out (·=rd) W w1):=(Out.of_below BD.out).trans (aAw hg1) (fun _ h=>.inl h);have HS1:=Lib.hid (HC.out _ HO1.out);have CL2:=Lib.hid (CL.out w1 HO1.out.size hr1);clear hr1 hg1)
   |(go_at_call 240;(with_reducible refine CL2.out.mono ?_);rintro r w2 ⟨A,c,rfl,hl2,hr2,ho2⟩;have HR2:=Lib.hid hr2;have HO2:Hid (Out (·=rd) W w2):=HO1.out.trans ho2 (fun _ h=>.inl h);have HS2:=Lib.hid (HC.out _ HO2.out);have CM:=Lib.hid (aL8 (fun b=>w.heap.size≤b) e l A c w2 (hl2.lns.mono (fun b hb=>Nat.le_trans HWB.out.size (Nat.le_trans HO1.out.size hb.1))));clear hr2 ho2 hl2)
   |(go_at_call 167;(with_reducible refine CM.out.mono ?_);intro r w3 hm;have HF:=Lib.hid (RdPost.of (w:=w) hm (fun _ q=>q) ((Out.of_below HWB.out).trans HO2.out (fun _ h=>.inl h)) HR2.out);have HS3:Hid (w3.cell? ⟨w.heap.size,0,none⟩=some (.pointer (some ⟨rd,0,none⟩))):=HC.out w3 (HO2.out.trans (Out.of_below (X:=(·=rd)) (by obtain ⟨_,_,_,q⟩:=hm;exact q)) (fun _ h=>.inl h));obtain ⟨v,rfl,-⟩:=hm))
 go_wp2_with fail;go_ret;exact HF.out
set_option maxRecDepth 8000 in
theorem aTj (Q:Nat→Prop) (rd:Nat) (a:Kp) (rest:List UInt8) (w:World) (h:RdrQ Q w rd (be 8 a.promised++(be 8 a.current++(linesT a.lines++rest)),false)) (hp:a.promised<18446744073709551616) (hc:a.current<18446744073709551616) (ht:Told a.lines) (hQ:∀b,Q b→b<w.heap.size∧b≠rd):
  Calls Tryz.prog 212 #[.agg #[.pointer (some ⟨rd,0,none⟩)]] w (RdPost Q (.whole a) rd rest w):=by
 obtain ⟨W,hW⟩:∃W,W=w.alloc (.cells #[.pointer (some ⟨rd,0,none⟩)] 252):=⟨_,rfl⟩;have hwb:Below w.heap.size w W:=by rw [hW];exact (Below.refl _ _).alloc (Nat.le_refl _) _
 have hbk:Bk W w.heap.size 252 #[.pointer (some ⟨rd,0,none⟩)]:=by rw [hW];exact Bk.new w _ _
 have HRL:Hid (rd<w.heap.size):=h.lt;have HWE:=Lib.hid hW;have HWB:=Lib.hid hwb;have HBK:=Lib.hid hbk;have BD:Hid (Below W.heap.size W W.drew):=(Below.refl _ W).drew;have CU:=Lib.hid (aJm rd a.promised _ W.drew ((h.below hwb).below BD.out) hp);have CU2:Hid (∀V,RdrQ Q V rd (be 8 a.current++(linesT a.lines++rest),false)→Calls Tryz.prog 85 #[.pointer (some ⟨rd,0,none⟩)] V fun e w'=>e=.returned (.int .u64 (a.current:Int))∧RdrQ Q w' rd (linesT a.lines++rest,false)∧V.grownBy w' (some rd)):=fun V hr=>aJm rd a.current _ V hr hc;have CL:Hid (∀V,W.heap.size≤V.heap.size→RdrQ Q V rd (linesT a.lines++rest,false)→Calls Tryz.prog 240 #[.agg #[.pointer (some ⟨rd,0,none⟩)]] V (aJo Q V rd a.lines rest)):=fun V hV hr=>aC9 Q rd a.lines rest V hr ht (fun b hb=>⟨Nat.lt_of_lt_of_le (hQ b hb).1 (Nat.le_trans hwb.size hV),(hQ b hb).2⟩);have HC:Hid (∀V,Out (·=rd) W V→V.cell? ⟨w.heap.size,0,none⟩=some (.pointer (some ⟨rd,0,none⟩))):=fun V hV=>(aAd HBK.out hV (by have:=HRL.out;omega)).cell 0;have k0:=HC.out W (Out.refl _ _);have HSD:=Lib.hid (HC.out _ (Out.of_below BD.out));clear hW hwb hbk h hQ;go_enter Tryz.func212,Tryz.ntmps212
 go_wp2_with fail;rw [←HWE.out]
 go_region_held3 (fun V=>V.cell? ⟨w.heap.size,0,none⟩=some (.pointer (some ⟨rd,0,none⟩)))
  (first|(with_reducible assumption)|(with_reducible exact HSD.out)|(with_reducible exact HS0.out)|(with_reducible exact HS1.out)|(with_reducible exact HS2.out)|(with_reducible exact HS3.out))
  (first
   |(go_at_call 85;(with_reducible refine CU.out.mono ?_);rintro r w0 ⟨rfl,hr0,hg0⟩;have HO0:Hid (Out (·=rd) W w0):=(Out.of_below BD.out).trans (aAw hg0) (fun _ h=>.inl h);have HS0:=Lib.hid (HC.out _ HO0.out);have CU3:=Lib.hid (CU2.out w0 hr0);clear hr0 hg0 CU)
   |(go_at_call 85;(with_reducible refine CU3.out.mono ?_);rintro r w1 ⟨rfl,hr1,hg1⟩;have HO1:Hid (Out (·=rd) W w1):=HO0.out.trans (aAw hg1) (fun _ h=>.inl h);have HS1:=Lib.hid (HC.out _ HO1.out);have CL2:=Lib.hid (CL.out w1 HO1.out.size hr1);clear hr1 hg1)
   |(go_at_call 240;(with_reducible refine CL2.out.mono ?_);rintro r w2 ⟨A,c,rfl,hl2,hr2,ho2⟩;have HR2:=Lib.hid hr2;have HO2:Hid (Out (·=rd) W w2):=HO1.out.trans ho2 (fun _ h=>.inl h);have HS2:=Lib.hid (HC.out _ HO2.out);have CM:=Lib.hid (aOs (fun b=>w.heap.size≤b) a A c w2 (hl2.lns.mono (fun b hb=>Nat.le_trans HWB.out.size (Nat.le_trans HO1.out.size hb.1))));unfold kpV at CM;clear hr2 ho2 hl2)
   |(go_at_call 239;(with_reducible refine CM.out.mono ?_);intro r w3 hm;have HF:=Lib.hid (RdPost.of (w:=w) hm (fun _ q=>q) ((Out.of_below HWB.out).trans HO2.out (fun _ h=>.inl h)) HR2.out);have HS3:Hid (w3.cell? ⟨w.heap.size,0,none⟩=some (.pointer (some ⟨rd,0,none⟩))):=HC.out w3 (HO2.out.trans (Out.of_below (X:=(·=rd)) (by obtain ⟨_,_,_,q⟩:=hm;exact q)) (fun _ h=>.inl h));obtain ⟨v,rfl,-⟩:=hm))
 go_wp2_with fail;go_ret;exact HF.out
end Go.Proofs.YtgjmbbkcgillcaaGreat.Sto
namespace Go.Proofs.YtgjmbbkcgillcaaGreat.Sto
open Go.RowKit Disk Log
theorem aZx (A:Option Addr) (n c:Nat) (bs:List UInt8) (w:World) (h:Rd w A n bs) (hn:n≤1000000000000):
  Calls Tryz.prog 83 #[.slice A n c] w (fun e w'=>∃r,e=.returned (.pointer (some ⟨r,0,none⟩))∧w.heap.size<r∧RdrQ (·=w.heap.size) w' r (bs,false)∧Below w.heap.size w w'):=by
 have H:=Lib.hid h;clear h;go_enter Tryz.func83,Tryz.ntmps83
 go_wp2_with fail;refine (aBc A n c 0 bs w H.out (by omega) (by omega)).mono ?_;rintro e w1 ⟨rfl,hown1,hb1⟩;have HO1:=Lib.hid hown1;have HB1:=Lib.hid hb1;have HLT:Hid (w.heap.size<w1.heap.size):=(hown1.lt w.heap.size rfl).2;clear hown1 hb1;go_wp2_with fail;go_ret;have hr1:=Rd.of_own HO1.out;exact ⟨w1.heap.size,rfl,HLT.out,⟨_,n,n,Bk.new w1 _ _,Nat.le_refl _,hn,hr1.1.below ((Below.refl _ _).alloc (Nat.le_refl _) _),fun a ha=>by injection ha with ha;subst ha;rfl⟩,HB1.out.alloc HB1.out.size _⟩
def OfPost (r:Rec) (w:World) (e:Ending) (w':World):Prop:=
 ∃v,e=.returned v∧DeedV (fun b=>w.heap.size≤b) w' v r∧Below w.heap.size w w'
theorem bB2 {Q:Nat→Prop} (rd kd:Nat) (rest:List UInt8) (V:World) (h:RdrQ Q V rd (be 1 kd++rest,false)) (hk:kd<256):
  Calls Tryz.prog 84 #[.pointer (some ⟨rd,0,none⟩)] V fun e w'=>e=.returned (.int .u8 (kd:Int))∧RdrQ Q w' rd (rest,false)∧V.grownBy w' (some rd):=by
 have h1:takeS 1 (be 1 kd++rest,false)=(be 1 kd,(rest,false)):=aEn _ _ (aA1 1 kd);have h2:val (be 1 kd)=kd:=by rw [aPp,Nat.mod_eq_of_lt (by omega)]
 exact (aKr rd _ V h).mono fun e w' ⟨q1,q2,q3⟩=>⟨by rw [q1,h1,h2],by rw [h1] at q2;exact q2,q3⟩
theorem aNy {b rd:Nat} {w w':World} {Q:Nat→Prop} {s:List UInt8×Bool} (h:Reads1 b w) (hr:RdrQ Q w rd s) (hg:w.grownBy w' (some rd)):Reads1 b w':=by
 refine World.ownsMap.kept h hg fun e=>?_;injection e with e;subst e;obtain ⟨es,clock,hb,_⟩:=h;obtain ⟨_,_,_,hk,_⟩:=hr;unfold Bk at hk;rw [hb] at hk;injection hk with hk;cases hk
set_option maxRecDepth 8000 in
theorem aF4 (r:Rec) (kd F:Nat) (body:List UInt8) (A:Option Addr) (n c:Nat) (w:World) (ht:r.text=be 1 kd++body) (hk:kd<256) (hF:F≠0) (hd:aD5.atKey (.int .u8 (kd:Int)) (.held 0)=.held F) (hE:∀args w,(callFunc F args).run Tryz.prog w=.ok (.enter F args) w)
  (hrd:∀V rd Q,RdrQ Q V rd (body,false)→(∀b,Q b→b<V.heap.size∧b≠rd)→Calls Tryz.prog F #[.agg #[.pointer (some ⟨rd,0,none⟩)]] V (RdPost Q r rd [] V)) (h:Rd w A n r.text) (hn:n≤1000000000):
  Calls Tryz.prog 157 #[.slice A n c] w (OfPost r w):=by
 rw [ht] at h;have CN:=Lib.hid (aZx A n c _ w h (by omega));have HD:=Lib.hid hd;have HRD:=Lib.hid hrd;clear h hd hrd ht;go_enter Tryz.func157,Tryz.ntmps157
 go_wp2_with fail;refine CN.out.mono ?_;rintro e w1 ⟨rd,rfl,hlt,hr,hb⟩;have HLT:=Lib.hid hlt;have HR:=Lib.hid hr;have HB:=Lib.hid hb;clear hlt hr hb CN;go_wp2_with fail;obtain ⟨W,hW⟩:∃W,W=w1.alloc (.cells #[.pointer (some ⟨rd,0,none⟩)] 252):=⟨_,rfl⟩;have hwb:Below w1.heap.size w1 W:=by rw [hW];exact (Below.refl _ _).alloc (Nat.le_refl _) _
 have hbk:Bk W w1.heap.size 252 #[.pointer (some ⟨rd,0,none⟩)]:=by rw [hW];exact Bk.new w1 _ _
 rw [←hW];have HRL:Hid (rd<w1.heap.size):=HR.out.lt;have HWB:=Lib.hid hwb;have HBK:=Lib.hid hbk;have BD:Hid (Below W.heap.size W W.drew):=(Below.refl _ W).drew;have HRW:=Lib.hid (HR.out.below hwb);have CR:=Lib.hid (aOq W.drew);have HC:Hid (∀V,Out (·=rd) W V→V.cell? ⟨w1.heap.size,0,none⟩=some (.pointer (some ⟨rd,0,none⟩))):=fun V hV=>(aAd HBK.out hV (by have:=HRL.out;omega)).cell 0;have k0:=HC.out W (Out.refl _ _);have HSD:=Lib.hid (HC.out _ (Out.of_below BD.out));clear hW hwb hbk
 go_region_held3 (fun V=>V.cell? ⟨w1.heap.size,0,none⟩=some (.pointer (some ⟨rd,0,none⟩)))
  (first|(with_reducible assumption)|(with_reducible exact HSD.out)|(with_reducible exact HS1.out)|(with_reducible exact HS2.out))
  (first
   |(go_at_call 181;(with_reducible refine CR.out.mono ?_);rintro e w2 ⟨mb,rfl,hb2,hm2⟩;have HB2:=Lib.hid (BD.out.trans hb2);have HS1:=Lib.hid (HC.out _ (Out.of_below HB2.out));have HR2:=Lib.hid (HRW.out.below HB2.out);have HM2:Hid (Reads1 mb w2):=hm2;have CB:=Lib.hid (bB2 rd kd body w2 HR2.out hk);clear hb2 hm2)
   |(go_at_call 84;(with_reducible refine CB.out.mono ?_);rintro e w3 ⟨rfl,hr3,hg3⟩;have HR3:=Lib.hid hr3;have HO3:Hid (Out (·=rd) W w3):=(Out.of_below HB2.out).trans (aAw hg3) (fun _ h=>.inl h);have HS2:=Lib.hid (HC.out _ HO3.out);have hlk:=aPo (aNy HM2.out HR2.out hg3) kd F hk hF HD.out;clear hr3 hg3))
 clear hlk;have k3:w3.cell? ⟨w1.heap.size,0,none⟩=some (.pointer (some ⟨rd,0,none⟩)):=HS2.out;have CF:=Lib.hid (HRD.out w3 rd _ HR3.out (fun b hb=>by
  have hb:b=w.heap.size:=hb;have:=HLT.out;have h1:=HRL.out;have h2:=HWB.out.size;have h3:=HO3.out.size;exact ⟨by omega,by omega⟩))
 go_wp2_with (first
  |(go_at_call 117;(with_reducible refine (aAo _ _).mono ?_);rintro e _ ⟨rfl,rfl⟩)
  |(go_at_fn F;(with_reducible refine CF.out.mono ?_)))
 rintro e w4 ⟨v,rfl,hv4,hr4,ho4⟩;have HV4:=Lib.hid hv4;have HO4:Hid (Out (·=rd) W w4):=HO3.out.trans ho4 fun _ h=>.inl h;have k4:w4.cell? ⟨w1.heap.size,0,none⟩=some (.pointer (some ⟨rd,0,none⟩)):=HC.out _ HO4.out;have CDN:=Lib.hid (aNr rd _ w4 hr4.rdr);clear hv4 hr4 ho4 k3 k0;go_wp2_with (first
  |(go_at_call 88;(with_reducible refine CDN.out.mono ?_);rintro e _ ⟨rfl,rfl⟩)
  |(go_at_call 117;(with_reducible refine (aAo _ _).mono ?_);rintro e _ ⟨rfl,rfl⟩))
 go_ret;have hsz:w.heap.size≤w3.heap.size:=Nat.le_trans HB.out.size (Nat.le_trans HWB.out.size HO3.out.size);have hbl:Below w.heap.size w W:=HB.out.trans (HWB.out.mono HB.out.size);exact ⟨v,rfl,HV4.out.mono fun b hb=>Nat.le_trans hsz hb,HO4.out.below hbl (fun k hk=>by rw [hk];exact Nat.le_of_lt HLT.out) hbl.size⟩
def RecOk:Rec→Prop
 |.deed (.prom e)=>e<18446744073709551616
 |.deed (.adopt e l)=>e<18446744073709551616∧Told l
 |.deed (.add l)=>Told l
 |.whole a=>a.promised<18446744073709551616∧a.current<18446744073709551616∧Told a.lines
theorem aPi {ls:List Ln} (h1:ls.length≤256) (h2:∀x∈ls,lineB x=true):Told ls:=⟨h1,fun x hx=>by
 have:=aAi.1 (h2 x hx);unfold top at this;omega⟩
theorem RecOk.of {r:Rec} {k:Kp} (h:r.may k):RecOk r:=by
 cases r with
 |deed D=>
  cases D with
  |prom e=>
   have:=(aD4.1 h).2;unfold top at this;show e<_;omega
  |adopt e l=>
   obtain ⟨_,_,h3,h4,h5⟩:=aCb.1 h;unfold top at h3;exact ⟨by omega,aPi h4 fun x hx=>(h5 x hx).1⟩
  |add l=>
   obtain ⟨_,h4,h5⟩:=aGc.1 h;exact aPi (by omega) fun x hx=>(h5 x hx).1
 |whole a=>
  obtain ⟨_,h2,_⟩:=h;have h3:=h2.prom;have h4:=h2.cur;unfold top at h3;exact ⟨by omega,by omega,aPi h2.many fun x hx=>(h2.each x hx).1⟩
theorem aS1 (r:Rec) (A:Option Addr) (n c:Nat) (w:World) (hr:RecOk r) (h:Rd w A n r.text) (hn:n≤1000000000):
  Calls Tryz.prog 157 #[.slice A n c] w (OfPost r w):=by
 cases r with
 |deed D=>
  cases D with
  |prom e=>exact aF4 _ 2 _ (be 8 e++[]) A n c w (by rw [List.append_nil];rfl) (by omega) (by decide) aHu (by intro args w;kernel_rfl) (fun V rd Q hq hQ=>aMx Q rd e [] V hq hr) h hn
  |adopt e l=>exact aF4 _ 3 _ (be 8 e++(linesT l++[])) A n c w (by rw [List.append_nil];rfl) (by omega) (by decide) aLq (by intro args w;kernel_rfl) (fun V rd Q hq hQ=>aSb Q rd e l [] V hq hr.1 hr.2 hQ) h hn
  |add l=>exact aF4 _ 4 _ (linesT l++[]) A n c w (by rw [List.append_nil];rfl) (by omega) (by decide) aLh (by intro args w;kernel_rfl) (fun V rd Q hq hQ=>aTb Q rd l [] V hq hr hQ) h hn
 |whole a=>
  have ht:(Rec.whole a).text=be 1 1++(be 8 a.promised++(be 8 a.current++(linesT a.lines++[]))):=by
   rw [List.append_nil];show wholeT a=_;unfold wholeT;simp only [List.cons_append,List.append_assoc];rfl
  exact aF4 _ 1 _ _ A n c w ht (by omega) (by decide) aMo (by intro args w;kernel_rfl) (fun V rd Q hq hQ=>aTj Q rd a [] V hq hr.1 hr.2.1 hr.2.2 hQ) h hn
end Go.Proofs.YtgjmbbkcgillcaaGreat.Sto
