/- Lemmas, part 24: StoForeign, StoArea, StoCaught, StoSv -/
import Derived.Test.YtgjmbbkcgillcaaGreatPart23
import Derived.Defers
import Derived.Recover
import Derived.Laws.Pointers
set_option maxHeartbeats 16000000
namespace Go.Proofs.YtgjmbbkcgillcaaGreat.Sto
open Go.RowKit Disk Log
theorem aU0 {p:List UInt8} (hp:p.length=512):(p.drop 12).take 4=[p.getD 12 0,p.getD 13 0,p.getD 14 0,p.getD 15 0]:=by
 apply List.ext_getElem?
 intro i;have hg:∀j,j<4→((p.drop 12).take 4)[j]? =some (p.getD (12+j) 0):=fun j hj=>by
  rw [List.getElem?_take,if_pos hj,List.getElem?_drop,List.getD_eq_getElem?_getD,List.getElem?_eq_getElem (by omega)];rfl
 match i with
 |0=>exact hg 0 (by omega)
 |1=>exact hg 1 (by omega)
 |2=>exact hg 2 (by omega)
 |3=>exact hg 3 (by omega)
 |i+4=>
  rw [List.getElem?_eq_none (by rw [List.length_take];omega)];rfl
theorem aW3 {p:List UInt8} (hp:p.length=512) (h:Few p):num ((p.drop 8).take 8) % 4294967296<512:=by
 obtain ⟨h1,h2,h3⟩:=h;have hs:=aE6 ((p.drop 8).take 8) 4;have e:((p.drop 8).take 8).drop 4=(p.drop 12).take 4:=by
  rw [List.drop_take,List.drop_drop]
 have hl:((p.drop 12).take 4).length=4:=by rw [List.length_take,List.length_drop,hp];rfl
 rw [e,hl,aU0 hp,h1,h2] at hs;have h15:=(p.getD 15 0).toNat_lt;have hn:num [0,0,p.getD 14 0,p.getD 15 0]=(p.getD 14 0).toNat*256+(p.getD 15 0).toNat:=by
  simp [num]
 rw [hn] at hs;omega
set_option maxRecDepth 100000 in
theorem aT9 (h:Nat) (p:List UInt8) (w:World) (hr:Rd w (some ⟨h,0,none⟩) 512 p) (ht:Tame p) (h1:first8 p<72057594037927936) (h2:last8 p<72057594037927936):
  Calls Tryz.prog 154 #[.slice (some ⟨h,0,none⟩) 512 512] w fun e w'=>e=.returned (.bool false)∧Below w.heap.size w w':=by
 obtain ⟨i0,hi,hz0,hz1,hz2⟩:=info_parts aBh;have hp:=hr.len;have hfew:=aW3 hp ht.2;have hmk:(Instr.makeSlice 37 (.int .i64 512) (.int .i64 512)).run Tryz.prog w=.ok (.slice (some ⟨w.heap.size,0,none⟩) 512 512) (w.alloc (.cells ((List.replicate 512 (0:UInt8)).map U).toArray 5 (0,0))):=by
  rw [List.map_replicate];exact aC1 (P:=Tryz.prog) aAt hi hz0 hz1 hz2 .i64 .i64 512 512 (by decide) (by omega) w
 obtain ⟨W,hW⟩:∃W,W=w.alloc (.cells ((List.replicate 512 (0:UInt8)).map U).toArray 5 (0,0)):=⟨_,rfl⟩;have hwb:Below w.heap.size w W:=by rw [hW];exact (Below.refl _ _).alloc (Nat.le_refl _) _
 have hrz:Rd W (some ⟨w.heap.size,0,none⟩) 512 (List.replicate 512 0):=by
  have:=aH8 w 5 (0,0) (List.replicate 512 0);rw [List.length_replicate] at this;rw [hW];exact this
 rw [←hW] at hmk;have HMK:=Lib.hid hmk;have HWB:=Lib.hid hwb;have HR:=Lib.hid hr;have HP:Hid (p.length=512):=hp;have CE:=Lib.hid (aK5 (some ⟨h,0,none⟩) (some ⟨w.heap.size,0,none⟩) 512 512 512 512 p (List.replicate 512 0) W (hr.below hwb) hrz);have HT:=Lib.hid ht;clear hi hz0 hz1 hz2 hr hrz hwb hW hmk;go_enter Tryz.func154,Tryz.ntmps154
 have hmk:=HMK.out;by_cases hz:p=List.replicate 512 0
 ·rw [decide_eq_true hz] at CE;clear hz;go_wp2_with fail;refine CE.out.mono ?_;rintro e _ ⟨rfl,rfl⟩;clear hmk;go_wp2_with fail;go_ret;exact ⟨rfl,HWB.out⟩
 ·rw [decide_eq_false hz] at CE;have hf0:first8 p≠0:=fun h=>hz (HT.out.1 h);obtain ⟨s,hs⟩:∃s,s=first8 p:=⟨_,rfl⟩;obtain ⟨t,ht⟩:∃t,t=last8 p:=⟨_,rfl⟩;obtain ⟨z,hzz⟩:∃z,z=num ((p.drop 8).take 8):=⟨_,rfl⟩;have HSS:=Lib.hid hs;have HTT:=Lib.hid ht;have HZZ:=Lib.hid hzz;rw [←hs] at h1 hf0;rw [←ht] at h2;rw [←hzz] at hfew;have hcz:IntKind.u32.wrap (z:Int)=((z % 4294967296:Nat):Int):=by
   rw [IntKind.wrap_u32];omega
  generalize hy:z % 4294967296=y at*;have HY:=Lib.hid hy;clear hs ht hzz hz hp hy;have CN1:=Lib.hid (aZx (some ⟨h,0,none⟩) 512 512 p W (HR.out.below HWB.out) (by omega));go_wp2_with fail;refine CE.out.mono ?_;rintro e _ ⟨rfl,rfl⟩;clear hmk;go_wp2_with fail;refine CN1.out.mono ?_;rintro e w1 ⟨rd,rfl,hlt,hrr,hb⟩;have HB1:=Lib.hid hb;have CU1:Hid (Calls Tryz.prog 85 #[.pointer (some ⟨rd,0,none⟩)] w1 fun e w'=>e=.returned (.int .u64 (s:Int))∧Rdr w' rd (p.drop 8,false)∧w1.grownBy w' (some rd)):=
   (aDi rd _ w1 hrr.rdr).mono fun e w' ⟨q1,q2,q3⟩=>by
    rw [aBk (by rw [HP.out];omega)] at q1 q2;exact ⟨by rw [q1,HSS.out];rfl,q2,q3⟩
  have HLT:Hid (W.heap.size<rd):=hlt;clear hlt hrr hb CN1;go_wp2_with fail;refine CU1.out.mono ?_;rintro e w2 ⟨rfl,hr2,hg2⟩;have HO2:Hid (Out (·=rd) W w2):=(Out.of_below HB1.out).trans (aAw hg2) fun _ h=>.inl h;have CU2:Hid (Calls Tryz.prog 85 #[.pointer (some ⟨rd,0,none⟩)] w2 fun e w'=>e=.returned (.int .u64 (z:Int))∧w2.grownBy w' (some rd)):=
   (aDi rd _ w2 hr2).mono fun e w' ⟨q1,q2,q3⟩=>by
    rw [aBk (by rw [List.length_drop,HP.out];omega)] at q1;exact ⟨by rw [q1,HZZ.out];rfl,q3⟩
  clear hr2 hg2 CU1;go_wp2_with fail;refine CU2.out.mono ?_;rintro e w3 ⟨rfl,hg3⟩;have HO3:Hid (Out (·=rd) W w3):=HO2.out.trans (aAw hg3) fun _ h=>.inl h;have HB3:Hid (Below w.heap.size w w3):=HO3.out.below HWB.out (fun k hk=>by rw [hk];have:=HLT.out;have:=HWB.out.size;omega) HWB.out.size;have hd:Rd w3 (some ⟨h,504,none⟩) 8 (p.drop 504):=by
   have:=Rd.drop (HR.out.below HB3.out) (k:=504) (c:=512) (by omega) (by omega);rw [if_neg (by omega)] at this;exact this
  have CN3:=Lib.hid (aZx (some ⟨h,504,none⟩) 8 8 _ w3 hd (by omega));clear hg3 CU2 hd;go_wp2_with fail;refine CN3.out.mono ?_;rintro e w4 ⟨rd2,rfl,hlt4,hr4,hb4⟩;have CU4:Hid (Calls Tryz.prog 85 #[.pointer (some ⟨rd2,0,none⟩)] w4 fun e w'=>e=.returned (.int .u64 (t:Int))∧w4.grownBy w' (some rd2)):=
   (aDi rd2 _ w4 hr4.rdr).mono fun e w' ⟨q1,q2,q3⟩=>by
    have hl:(p.drop 504).length=8:=by rw [List.length_drop,HP.out]
    rw [aBk (by rw [hl];omega),List.take_of_length_le (by rw [hl];omega)] at q1;exact ⟨by rw [q1,HTT.out];rfl,q3⟩
  have HLT4:Hid (w3.heap.size<rd2):=hlt4;have HB4:=Lib.hid hb4;clear hlt4 hr4 hb4 CN3;go_wp2_with fail;refine CU4.out.mono ?_;rintro e w5 ⟨rfl,hg5⟩;have HO5:Hid (Out (·=rd2) w3 w5):=(Out.of_below HB4.out).trans (aAw hg5) fun _ h=>.inl h;have HB5:Hid (Below w.heap.size w w5):=HO5.out.below HB3.out (fun k hk=>by rw [hk];have:=HLT4.out;have:=HB3.out.size;omega) HB3.out.size;clear hg5 CU4;have e0:((s:Int)==0)=false:=beq_eq_false_iff_ne.2 (by omega);have H1:Hid (s<72057594037927936):=h1;have H2:Hid (t<72057594037927936):=h2;have hle:((72057594037927936:Int)≤max (s:Int) (t:Int))=False:=eq_false (by omega);have hy1:((512:Int)≤(y:Int))=False:=eq_false (by omega);clear h1 h2 hfew;go_wp2_with fail;go_ret;exact ⟨rfl,HB5.out⟩
end Go.Proofs.YtgjmbbkcgillcaaGreat.Sto
namespace Go.Proofs.YtgjmbbkcgillcaaGreat.Sto
open Go.RowKit Disk Log
theorem aNw {Q:Nat→Prop} {g:Nat} {k:Kp} {r:Rec} {V w':World} {e:Ending} (h:aQw Q g k r V e w') (hm:r.may k):e=.returned (.tuple #[])∧KpAt (fun b=>Q b∨V.heap.size≤b) w' g (r.run k)∧Out (·=g) V w':=by
 cases r with
 |deed D=>
  rcases h with ⟨_,h2,h3,h4⟩|⟨h1,_⟩
  ·exact ⟨h2,h3,h4⟩
  ·have hm:D.may k=true:=hm;rw [h1] at hm;cases hm
 |whole a=>exact h
theorem aKw {ls:List Ln} (h:Told ls):Small ls:=⟨by have:=h.1;omega,fun x hx=>by have:=(h.2 x hx).1;omega⟩
theorem aUk {r:Rec} (h:RecOk r):SmallR r:=by
 cases r with
 |deed D=>
  cases D with
  |prom e=>trivial
  |adopt e l=>exact aKw h.2
  |add l=>exact aKw h
 |whole a=>trivial
theorem bBs {r:Rec} {k:Kp} (h:r.may k):r.text.length≤2000000:=by
 cases r with
 |deed D=>
  have:=aMq (d:=D) (k:=k) h;show D.text.length≤_;omega
 |whole a=>
  have h1:=aEh a;have h2:=h.2.1.sum;show (wholeT a).length≤_;unfold need at h1;omega
theorem Reads.all {p:Nat} {k k':Kp} {rs:List Rec} (h:Reads p k rs k'):∀r∈rs,r.text.length≤2000000∧RecOk r:=by
 induction h with
 |nil=>intro r hr;cases hr
 |cons h1 _ _ ih=>
  intro r hr;rcases List.mem_cons.1 hr with rfl|hr
  ·exact ⟨bBs h1,RecOk.of h1⟩
  ·exact ih r hr
theorem aF8 {P:Program} {fn:Func} {u p:Tmp} {ty:TypeId} (h:fn.results=#[.tmp u,.cell p ty]) (tmps:Array Value) (w:World) (g:Nat) (t:TypeId) (cs:Array Value) (fr:Nat×Nat) (d:TypeDesc)
  (hp:tmps.getD p undef=.pointer (some ⟨g,0,none⟩)) (hg:w.heap[g]? =some (.cells cs t fr))
  (hu:P.underlying ty=some d) (hd:(match d with|.struct _|.array _ _=>true|_=>false)=true) (hi:(P.info? ty).map (·.size)=some cs.size):
  (results fn tmps).run P w=.ok (.tuple #[tmps.getD u undef,.agg cs]) w:=by
 have hp':tmps[p]?.getD undef=.pointer (some ⟨g,0,none⟩):=by simpa using hp
 simp [results,h,hp',asAddr,run_loadVar_row w g t ty cs fr d hg hu hd hi,Result.andThen]
theorem aNh:(Tryz.prog.info? 69).map (·.size)=some 3:=by kernel_rfl
def aEu (gd:Nat) (d:DK) (f p:Nat) (k:Kp) (w:World) (e:Ending) (w':World):Prop:=
 ∃g Y A c B,e=.returned (.tuple #[.pointer (some ⟨g,0,none⟩),kpV k A c])∧LgAt w' Y g gd (f:Int) p (newL d f p)∧(∀j,Y j→w.heap.size≤j∧j<B)∧LnS (fun b=>B≤b) w' A k.lines.length k.lines∧k.lines.length≤c∧(A=none→c=0)∧Below w.heap.size w w'
def RelAr (p:Nat) (rs:List Rec) (k:Kp) (gk:Nat) (w4:World) (i:Value) (wr:World):Prop:=
 ∃(j:Nat) (kj:Kp),j≤rs.length∧i=.int .i64 (j:Int)∧Reads p kj (rs.drop j) k∧Fine kj∧KpAt (fun b=>gk<b) wr gk kj∧Out (·=gk) w4 wr
set_option maxRecDepth 100000 in
theorem aH7 {w:World} {X:Nat→Prop} {gd:Nat} {d:DK} (hd:DkAt w X gd d) (f p N:Nat) (k:Kp) (ha:Area d f p N k) (hrow:d.row=[]) (hN:N<65536):
  Calls Tryz.prog 114 #[.pointer (some ⟨gd,0,none⟩),.int .i64 (f:Int),.int .i64 (p:Int)] w (aEu gd d f p k w):=by
 have hup:=ha.up;have hin:=hup.in_;have hmany:=hup.ok.many;have hp:=hup.two;obtain ⟨rs,hrs,hreads⟩:=ha.recs;have HRS:=Lib.hid hrs;have HREADS:=Lib.hid hreads;have HALL:=Lib.hid hreads.all;have HD:=Lib.hid hd;have HIN:Hid (f+p≤4096):=by show _≤_;omega
 have HRL:Hid (rs.length≤4096):=by
  have h1:=aLa (ps:=Log.part (now d) f p) (hd:=(Recs (Log.part (now d) f p)).1) (rs:=(Recs (Log.part (now d) f p)).2.1) (e:=(Recs (Log.part (now d) f p)).2.2) rfl (by rw [hup.len];omega);rw [hup.len,hrs,List.length_map] at h1;show _≤_;omega
 have HSEEN:Hid (∀j,j<p→Tame (d.seen (f+j))∧(d.seen (f+j)).length=512∧first8 (d.seen (f+j))<72057594037927936∧last8 (d.seen (f+j))<72057594037927936∧d.faultAt ((f+j:Nat):Int)=0):=fun j hj=>by
  have e1:=aZv hup.ok (f+j) (by omega);have e2:=aGh (ps:=now d) (f:=f) hj;rw [e1] at e2;have hl:=hup.len;have t1:=ha.tame j (by rw [hl];exact hj);have t2:=hup.low.first j (by rw [hl];exact hj);have t3:=hup.low.last j (by rw [hl];exact hj);have t4:=hup.low.ok.get (k:=j) (by rw [hl];exact hj);change (pg (Log.part (now d) f p) j).length=512 at t4;rw [e2] at t1 t2 t3 t4;refine ⟨t1,t4,by omega,by omega,?_⟩;unfold DK.faultAt;rw [if_neg (by rw [hup.on];decide),if_neg (by omega)]
 have CO:Hid (∀V,Below w.heap.size w V→Calls Tryz.prog 155 #[.pointer (some ⟨gd,0,none⟩),.int .i64 (f:Int),.int .i64 (p:Int)] V (aFp gd d f p V)):=fun V hV=>aXb (hd.below hV) hup.on f p hp (by omega) hin (by rw [hrow];exact Nat.zero_le _);have CRD:Hid (∀V j,Below w.heap.size w V→j<p→Calls Tryz.prog 153 #[.pointer (some ⟨gd,0,none⟩),.int .i64 ((f:Int)+(j:Int))] V (aQ5 (d.seen (f+j)) V)):=fun V j hV hj=>by
  have:=aQ8 (hd.below hV) (f+j) (HSEEN.out j hj).2.2.2.2 (by rw [hrow];exact Nat.zero_le _);rwa [Int.natCast_add] at this
 have HNW:Hid (newest (Log.part (now d) f p)≠18446744073709551615):=fun e=>by
  have:=aNk hup.low;omega
 have HP1:Hid (2≤p):=hp;have HP2:Hid (p≤4096):=by show _≤_;omega
 have hb0:Below w.heap.size w (w.alloc (.cells #[.int .u64 0,.int .u64 0,.slice none 0 0] 69)):=(Below.refl _ _).alloc (Nat.le_refl _) _;have HBX:Hid (Bk (w.alloc (.cells #[.int .u64 0,.int .u64 0,.slice none 0 0] 69)) w.heap.size 69 #[.int .u64 0,.int .u64 0,.slice none 0 0]):=Bk.new w _ _;have HB0:=Lib.hid hb0;clear hup hin hmany hp hrs hreads ha hd hrow hN hb0;go_enter Tryz.func114,Tryz.ntmps114
 go_wp2_with fail;go_loopw [8,9,10,17] (fun _ _ _ i wr=>∃j:Nat,j≤p∧i=.int .i64 (j:Int)∧Below (w.heap.size+1) (w.alloc (.cells #[.int .u64 0,.int .u64 0,.slice none 0 0] 69)) wr) (fun _ _ _ i _=>p - (intOf i).toNat)
 case atStart=>exact ⟨0,by omega,rfl,by have:=Below.refl (w.heap.size+1) (w.alloc (.cells #[.int .u64 0,.int .u64 0,.slice none 0 0] 69));exact this⟩
 case round=>
  obtain ⟨j,hj,rfl,hbel⟩:=hrel;have HB:Hid (Below w.heap.size w wr):=HB0.out.trans (hbel.mono (by omega));have HB1:=Lib.hid hbel;have HBX1:Hid (Bk wr w.heap.size 69 #[.int .u64 0,.int .u64 0,.slice none 0 0]):=HBX.out.kept (hbel.block _ (by omega));clear hbel;by_cases hlt:j<p
  ·have hin2:=HIN.out;have hw1:wrap64 ((f:Int)+(j:Int))=(f:Int)+(j:Int):=IntWalk.wrap64_in _ (by omega);have hw2:wrap64 ((j:Int)+1)=((j+1:Nat):Int):=by rw [IntWalk.wrap64_in _ (by omega)];omega
   have CR:=Lib.hid (CRD.out wr j HB.out hlt);go_wp2_with fail;refine CR.out.mono ?_;rintro e w2 ⟨h,rfl,hk2,hge2,hb2⟩;have hsn:=HSEEN.out j hlt;have CF:=Lib.hid (aT9 h (d.seen (f+j)) w2 (aUu hk2 hsn.2.1) hsn.1 hsn.2.2.1 hsn.2.2.2.1);have HB2:=Lib.hid hb2;have HZ:Hid (w.heap.size+1≤wr.heap.size):=HBX1.out.lt;clear hk2 hge2 hb2 hsn CR;go_wp2_with (first
    |(go_at_call 154;(with_reducible refine CF.out.mono ?_);rintro e w3 ⟨rfl,hb3⟩;have HB3:Hid (Below (w.heap.size+1) (w.alloc (.cells #[.int .u64 0,.int .u64 0,.slice none 0 0] 69)) w3):=HB1.out.trans ((HB2.out.trans (hb3.mono HB2.out.size)).mono HZ.out);clear hb3)
    |(go_at_call 117;(with_reducible refine (aAo _ _).mono ?_);rintro e _ ⟨rfl,rfl⟩))
   exact ⟨⟨j+1,by omega,rfl,HB3.out⟩,by simp [intOf];omega⟩
  ·obtain rfl:j=p:=by omega
   have COP:=Lib.hid (CO.out wr HB.out);go_wp2_with fail;refine COP.out.mono ?_;rintro e w2 ⟨hb2,hp2⟩;rw [if_neg HNW.out] at hp2;obtain ⟨g,Y,rfl,hlg,hY⟩:=hp2;have HLG:Hid (LgAt w2 Y g gd (f:Int) j (newL d f j)):=hlg;have HY:=Lib.hid hY;have HB2:=Lib.hid hb2;clear hlg hY hb2 COP;go_wp2_with (go_at_call 117;(with_reducible refine (aAo _ _).mono ?_);rintro e _ ⟨rfl,rfl⟩)
   have hw3:Below w2.heap.size w2 (w2.alloc (.cells #[.int .u64 0,.int .u64 0,.slice none 0 0] 69)):=(Below.refl _ _).alloc (Nat.le_refl _) _;have hbk:Bk (w2.alloc (.cells #[.int .u64 0,.int .u64 0,.slice none 0 0] 69)) w2.heap.size 69 #[.int .u64 0,.int .u64 0,.slice none 0 0]:=Bk.new w2 _ _;obtain ⟨w3,hw3e⟩:∃w3,w3=w2.alloc (.cells #[.int .u64 0,.int .u64 0,.slice none 0 0] 69):=⟨_,rfl⟩;rw [←hw3e] at hw3 hbk ⊢;obtain ⟨gk,hgk⟩:∃gk,gk=w2.heap.size:=⟨_,rfl⟩;have HGK:=Lib.hid hgk;rw [←hgk] at hbk hw3 ⊢;have HW3:=Lib.hid hw3;have HK3:Hid (KpAt (fun b=>gk<b) w3 gk Kp.zero):=⟨none,0,hbk,LnS.nil_ _ _ _,Nat.le_refl _,fun _=>rfl⟩;have HLG3:=Lib.hid (HLG.out.below (by rw [←hgk];exact hw3));have hrecs:(newL d f j).recs=rs.map Rec.text:=HRS.out;have hbt:Calls Tryz.prog 156 #[.pointer (some ⟨g,0,none⟩)] w3 (aWs (rs.map Rec.text) w3):=by
    have:=aOy HLG3.out (by rw [hrecs,List.length_map];have:=HRL.out;omega) (by
     intro b hb;rw [hrecs] at hb;obtain ⟨r,hr,rfl⟩:=List.mem_map.1 hb;have:=(HALL.out r hr).1;omega)
    rwa [hrecs] at this
   have HBT:=Lib.hid hbt;clear hw3 hbk hw3e hrecs hbt hgk;go_wp2_with fail;refine HBT.out.mono ?_;rintro e w4 ⟨A,c,vs,rfl,hown,hfr,hb4⟩;have HGL:Hid (gk<w3.heap.size):=HK3.out.lt;have HROW:Hid (∀i r,rs[i]? =some r→∃gA A2 n2 c2,A=some ⟨gA,0,none⟩∧w4.cell? ⟨gA,i,none⟩=some (.slice A2 n2 c2)∧Rd w4 A2 n2 r.text∧gA≠gk∧∀a,A2=some a→a.block≠gk):=fun i r hi=>by
    obtain ⟨A2,n2,c2,q1,q2⟩:=hfr.at_ i r.text (by rw [List.getElem?_map,hi];rfl);have hil:=(List.getElem?_eq_some_iff.1 hi).1;rcases hown.2 with ⟨_,q⟩|⟨gA,cap,cur,q3,q4,q5⟩
    ·rw [List.length_map] at q;omega
    ·injection q3 with q3;subst q3;refine ⟨gA,A2,n2,c2,rfl,by have:=hown.cells (g:=gA) rfl _ _ q1;rwa [aBj] at this,(Rd.of_own q2).1,by have:=HGL.out;omega,fun a ha=>?_⟩;subst ha;have:=(q2.lt a.block rfl).1;have:=HGL.out;omega
   have HK4:=Lib.hid (HK3.out.below hb4);have HB4:=Lib.hid hb4;have HNL:Hid ((rs.map Rec.text).length=rs.length):=List.length_map _;clear hown hfr hb4 HBT;rw [HNL.out];have HZ1:Hid (w.heap.size<wr.heap.size):=HBX1.out.lt;have HGW:Hid (wr.heap.size≤gk):=by rw [HGK.out];exact HB2.out.size
   have HBW4:Hid (Below w.heap.size w w4):=by
    have h3:=HW3.out;rw [HGK.out] at h3;exact HB.out.trans ((HB2.out.trans ((h3.trans (HB4.out.mono h3.size)).mono HB2.out.size)).mono HB.out.size)
   have HBX4:Hid (Bk w4 w.heap.size 69 #[.int .u64 0,.int .u64 0,.slice none 0 0]):=by
    have h3:=HW3.out;rw [HGK.out] at h3;exact ((HBX1.out.below HB2.out).below h3).below HB4.out
   have HLG4:=Lib.hid (HLG3.out.below HB4.out);have HYL:Hid (∀b,Y b→w.heap.size<b∧b<gk):=fun b hb=>⟨Nat.lt_of_lt_of_le HZ1.out (HY.out b hb),by rw [HGK.out];exact HLG.out.lt b hb⟩;have HGKW:Hid (w.heap.size<gk):=Nat.lt_of_lt_of_le HZ1.out HGW.out;obtain ⟨n,hn⟩:∃n,n=rs.length:=⟨_,rfl⟩;have HN2:=Lib.hid hn;rw [←hn];clear hn;go_wp2_with fail;go_loopw [15,50] (fun _ i wr=>RelAr j rs k gk w4 i wr) (fun _ i _=>n - (intOf i).toNat)
   case atStart=>exact ⟨0,Kp.zero,Nat.zero_le _,rfl,HREADS.out,Fine.zero,HK4.out,Out.refl _ _⟩
   case round=>
    obtain ⟨i,kj,hi,rfl,hrd,hfn,hkp,ho⟩:=hrel;rw [←HN2.out] at hi;have HRD:=Lib.hid hrd;have HFN:=Lib.hid hfn;have HKP:=Lib.hid hkp;have HO:=Lib.hid ho;clear hrd hfn hkp ho;by_cases hlt2:i<n
    ·have hil:i<rs.length:=by have:=HN2.out;omega
     obtain ⟨r,hr⟩:∃r,rs[i]? =some r:=⟨_,List.getElem?_eq_getElem hil⟩;obtain ⟨gA,A2,n2,c2,hA,hcell,hrdb,hne,hne2⟩:=HROW.out i r hr;subst hA;have hrd2:=HRD.out;rw [List.drop_eq_getElem_cons hil] at hrd2;rw [List.getElem?_eq_getElem hil] at hr;injection hr with hr;rw [hr] at hrd2;obtain ⟨hmay,hfit,hrest⟩:r.may kj∧fits (r.run kj) j=true∧Reads j (r.run kj) (rs.drop (i+1)) k:=by
      cases hrd2 with
      |cons q1 q2 q3=>exact ⟨q1,q2,q3⟩
     have hmem:r∈rs:=by rw [←hr];exact List.getElem_mem hil
     have hok:=HALL.out r hmem;have hcell2:=(HO.out.cell (World.block_lt_of_cell? w4 _ hcell) hne).trans hcell;have hrdr:=aGs hrdb HO.out hne2;have hn2:n2≤1000000000:=by have:=hrdr.len;have:=hok.1;omega
     have CDO:=Lib.hid (aS1 r A2 n2 c2 wr hok.2 hrdr hn2);have HM:Hid (r.may kj):=hmay;have HFT:=Lib.hid hfit;have HRE:=Lib.hid hrest;have HSM:=Lib.hid (aUk hok.2);have hk0:(0:Int)≤(i:Int):=Int.natCast_nonneg _;have hk1:(i:Int)<(n:Int):=by omega
     have hw2:wrap64 ((i:Int)+1)=((i+1:Nat):Int):=by have:=HRL.out;rw [IntWalk.wrap64_in _ (by omega)];omega
     have HW2:=Lib.hid hw2;clear hrd2 hmay hfit hrest hok hrdb hrdr hcell hw2;go_wp2_with fail;refine CDO.out.mono ?_;rintro e w5 ⟨v,rfl,hv5,hb5⟩;obtain ⟨F,caps,rfl,hE,hcall⟩:=aOt r _ _ _ hv5;have hgl:=HKP.out.lt;have CD2:=Lib.hid (hcall _ (fun b=>gk<b) w5 gk kj hv5 (HKP.out.below hb5) (fun h=>by omega) (Nat.lt_irrefl _) HFN.out.many HSM.out (fun a ha=>by subst ha;exact HM.out));have HB5:=Lib.hid hb5;clear hv5 hb5 hcall CDO;go_wp2_with (go_at_fn F;(with_reducible refine CD2.out.mono ?_))
     intro e w6 hp6;obtain ⟨rfl,hk6,ho6⟩:=aNw hp6 HM.out;have hgl5:gk<w5.heap.size:=Nat.lt_of_lt_of_le hgl HB5.out.size;have HK6:Hid (KpAt (fun b=>gk<b) w6 gk (r.run kj)):=hk6.mono fun b hb=>hb.elim id fun q=>by
      have q:w5.heap.size≤b:=q;show gk<b;omega
     have HO6:Hid (Out (·=gk) w4 w6):=(HO.out.trans (Out.of_below (X:=(·=gk)) HB5.out) fun _ h=>.inl h).trans ho6 fun _ h=>.inl h;have HF6:=Lib.hid (Rec.fine HFN.out HM.out);clear hp6 hk6 ho6 CD2 hgl hgl5;obtain ⟨A6,c6,hbk6,hl6,-,-⟩:=HK6.out.at_;have CH:=Lib.hid (aJh _ (r.run kj) A6 c6 j w6 hl6 (by have:=HF6.out.many;omega) (fun x hx=>by have:=(aAi.1 (HF6.out.each x hx).1).2.2.2;omega) (by have:=HP1.out;omega) HP2.out);rw [HFT.out] at CH;unfold kpV at CH;have q0:w6.cell? ⟨gk,0,none⟩=some (.int .u64 ((r.run kj).promised:Int)):=hbk6.cell 0;have q1:w6.cell? ⟨gk,1,none⟩=some (.int .u64 ((r.run kj).current:Int)):=hbk6.cell 1;have q2:w6.cell? ⟨gk,2,none⟩=some (.slice A6 (r.run kj).lines.length c6):=hbk6.cell 2;generalize r.run kj=k2 at*;clear hbk6 hl6;go_wp2_with (first
      |(go_at_call 124;(with_reducible refine CH.out.mono ?_);rintro e w7 ⟨rfl,hb7⟩;have HB7:=Lib.hid hb7;clear hb7)
      |(go_at_call 117;(with_reducible refine (aAo _ _).mono ?_);rintro e _ ⟨rfl,rfl⟩))
     rw [HW2.out];exact ⟨⟨i+1,k2,by have:=HN2.out;omega,rfl,HRE.out,HF6.out,HK6.out.below HB7.out,HO6.out.trans (Out.of_below (X:=(·=gk)) HB7.out) fun _ h=>.inl h⟩,by simp [intOf];omega⟩
    ·obtain rfl:i=n:=by omega
     have hrd2:=HRD.out;rw [List.drop_eq_nil_of_le (by have:=HN2.out;omega)] at hrd2;obtain rfl:kj=k:=by cases hrd2;rfl
     clear hrd2;obtain ⟨A6,c6,hbk6,hl6,hlc6,hnil6⟩:=HKP.out.at_;have q0:wr.cell? ⟨gk,0,none⟩=some (.int .u64 (kj.promised:Int)):=hbk6.cell 0;have q1:wr.cell? ⟨gk,1,none⟩=some (.int .u64 (kj.current:Int)):=hbk6.cell 1;have q2:wr.cell? ⟨gk,2,none⟩=some (.slice A6 kj.lines.length c6):=hbk6.cell 2;have HBXR:Hid (Bk wr w.heap.size 69 #[.int .u64 0,.int .u64 0,.slice none 0 0]):=aAd HBX4.out HO.out (by have:=HGKW.out;omega);have f0:=HBXR.out.cell 0;have f1:=HBXR.out.cell 1;have f2:=HBXR.out.cell 2;have ff:=HBXR.out.frozen;have g0:wr.drew.cell? ⟨gk,0,none⟩=some (.int .u64 (kj.promised:Int)):=q0;have g1:wr.drew.cell? ⟨gk,1,none⟩=some (.int .u64 (kj.current:Int)):=q1;have g2:wr.drew.cell? ⟨gk,2,none⟩=some (.slice A6 kj.lines.length c6):=q2;have HL6:=Lib.hid hl6;have hne:¬w.heap.size=gk:=by have:=HGKW.out;omega
     have hne2:¬gk=w.heap.size:=fun e=>hne e.symm;clear hl6 hbk6;go_wp2_with fail
     go_region
     obtain ⟨W9,hW9⟩:∃W9,W9=((wr.setCell ⟨w.heap.size,0,none⟩ (.int .u64 (kj.promised:Int))).setCell ⟨w.heap.size,1,none⟩ (.int .u64 (kj.current:Int))).setCell ⟨w.heap.size,2,none⟩ (.slice A6 kj.lines.length c6):=⟨_,rfl⟩;have ho9:Out (·=w.heap.size) wr W9:=by rw [hW9];exact out3 _ _ _ _ _
     have hb9:Bk W9 w.heap.size 69 #[.int .u64 (kj.promised:Int),.int .u64 (kj.current:Int),.slice A6 kj.lines.length c6]:=by
      rw [hW9];simpa using ((HBXR.out.set 0 (.int .u64 (kj.promised:Int))).set 1 (.int .u64 (kj.current:Int))).set 2 (.slice A6 kj.lines.length c6)
     rw [←hW9];have HO9:=Lib.hid ho9;have HB9:=Lib.hid hb9;clear hW9 ho9 hb9 f0 f1 f2 ff g0 g1 g2 q0 q1 q2;go_wp2_with fail;have hdr:Below W9.heap.size W9 W9.drew:=(Below.refl _ W9).drew;have h1:LgAt W9.drew Y g gd (f:Int) j (newL d f j):=((HLG4.out.out HO.out fun b hb e=>by have:=(HYL.out b hb).2;omega).out HO9.out fun b hb e=>by have:=(HYL.out b hb).1;omega).below hdr;have h2:LnS (fun b=>gk≤b) W9.drew A6 kj.lines.length kj.lines:=((HL6.out.out HO9.out fun b hb e=>by
      have hb:gk<b:=hb;have:=HGKW.out;omega).below hdr).mono fun b hb=>Nat.le_of_lt hb
     have h3:Below w.heap.size w W9.drew:=(HO9.out.below (HO.out.below HBW4.out (fun b hb=>by rw [hb];exact Nat.le_of_lt HGKW.out) HBW4.out.size) (fun b hb=>by rw [hb];exact Nat.le_refl _) (Nat.le_trans HBW4.out.size HO.out.size)).drew;have HFIN:Hid (aEu gd d f j kj w (.returned (.tuple #[.pointer (some ⟨g,0,none⟩),kpV kj A6 c6])) W9.drew):=
      ⟨g,Y,A6,c6,gk,rfl,h1,fun b hb=>⟨Nat.le_of_lt (HYL.out b hb).1,(HYL.out b hb).2⟩,h2,hlc6,hnil6,h3⟩
     clear h1 h2 h3 hdr;refine bodyPost_ret (aF8 rfl _ _ w.heap.size 69 _ (0,0) _ rfl (show W9.drew.heap[w.heap.size]? =_ from HB9.out) Tryz.underlying69 rfl aNh) rfl ?_;exact HFIN.out
end Go.Proofs.YtgjmbbkcgillcaaGreat.Sto
namespace Go.Proofs.YtgjmbbkcgillcaaGreat.Sto
open Go.RowKit Disk Log
theorem bCr (w:World):(Instr.typeAssert .nilIface 20 27 true).run Tryz.prog w=.ok (.tuple #[.int .i64 0,.bool false]) w:=by kernel_rfl
theorem bD0 (x:Int) (w:World):(Instr.typeAssert (.iface 27 (.int .i64 x)) 20 27 true).run Tryz.prog w=.ok (.tuple #[.int .i64 x,.bool true]) w:=by kernel_rfl
set_option maxRecDepth 100000 in
theorem aT4 (a:Addr) (w:World):
  CallsD Tryz.prog 113 #[.pointer (some a)] .returning w fun e u' w'=>e=.returned (.tuple #[])∧u'=.returning∧w'=w:=by
 refine callsD_of_wpS Tryz.func113 rfl fun c₀ cs hu=>?_;simp only [Tryz.ntmps113,List.size_toArray,List.length_cons,List.length_nil,Nat.reduceAdd,Nat.reduceSub,Array.replicate_succ,Array.replicate_zero,List.push_toArray,List.append_toArray,List.nil_append,List.cons_append];apply wpS_seq
 apply wpS_region
 simp [wpOpsS,go_sem,recoverD,hu,Exit.thenS,bCr];apply wpS_seq
 apply wpS_region
 simp [wpOpsS,go_sem,Exit.thenS];refine wpS_cond (t:=false) (by simp [Act.eval]) ?_;simp only [Bool.false_eq_true,if_false];refine wpS_of_wp (wp_skip ?_);cases c₀
 simp_all [bodyPostS,results,Tryz.results113]
set_option maxRecDepth 100000 in
theorem aK3 (x:Int) (eb:Nat) (v0:Value) (older:List PanicEntry) (w:World) (he:Bk w eb 27 #[v0]):
  CallsD Tryz.prog 113 #[.pointer (some ⟨eb,0,none⟩)] (.panicking ({v:=.iface 27 (.int .i64 x),recovered:=false}::older)) w fun e u' w'=>e=.returned (.tuple #[])∧u'=.panicking ({v:=.iface 27 (.int .i64 x),recovered:=true}::older)∧w'=w.setCell ⟨eb,0,none⟩ (.int .i64 x):=by
 have ec:w.cell? ⟨eb,0,none⟩=some v0:=he.cell 0;have ef:w.frozen? ⟨eb,0,none⟩=false:=he.frozen 0;clear he;refine callsD_of_wpS Tryz.func113 rfl fun c₀ cs hu=>?_;simp only [Tryz.ntmps113,List.size_toArray,List.length_cons,List.length_nil,Nat.reduceAdd,Nat.reduceSub,Array.replicate_succ,Array.replicate_zero,List.push_toArray,List.append_toArray,List.nil_append,List.cons_append];apply wpS_seq
 apply wpS_region
 simp [wpOpsS,go_sem,recoverD,hu,Exit.thenS,bD0];apply wpS_seq
 apply wpS_region
 simp [wpOpsS,go_sem,Exit.thenS];refine wpS_cond (t:=true) (by simp [Act.eval]) ?_;simp only [if_true];refine wpS_of_wp ?_;go_wp2_with fail;cases c₀
 simp_all [bodyPostS,results,Tryz.results113]
def aGr (R:Int→World→Prop) (w:World) (e:Ending) (w':World):Prop:=
 ∃x w1,e=.returned (.int .i64 x)∧R x w1∧Out (·=w.heap.size) w1 w'
def DoPost (R:Int→World→Prop) (w:World) (e:Ending) (w':World):Prop:=
 Bk w' w.heap.size 27 #[.int .i64 0]∧((e=.returned (.tuple #[])∧R 0 w')∨∃x:Int,e=.panicked [{v:=.iface 27 (.int .i64 x),recovered:=false}]∧R x w')
set_option maxRecDepth 100000 in
theorem aL1 (F:Nat) (first caps:Array Value) (R:Int→World→Prop) (w:World) (hE:∀args w,(callFunc F args).run Tryz.prog w=.ok (.enter F args) w)
  (hd:Calls Tryz.prog F (first++caps) (w.alloc (.cells #[.int .i64 0] 27)) (DoPost R w)):
  Calls Tryz.prog 67 #[.func (.func F) first caps] w (aGr R w):=by
 have HD:=Lib.hid hd;have hmf:∀(fn:Fn) (first cap:Array Value) (w:World),(Instr.makeFunc fn first cap).run Tryz.prog w=.ok (.func fn first cap) w:=fun _ _ _ _=>rfl;clear hd
 go_enter_defers Tryz.func67,Tryz.ntmps67
 go_wp2_with (go_at_fn F;(with_reducible refine HD.out.mono ?_))
 rintro e w1 ⟨hbk,hr⟩;have HBK:=Lib.hid hbk;rcases hr with ⟨rfl,hr⟩|⟨x,rfl,hr⟩
 ·have ec:w1.cell? ⟨w.heap.size,0,none⟩=some (.int .i64 0):=hbk.cell 0;have ef:w1.frozen? ⟨w.heap.size,0,none⟩=false:=hbk.frozen 0;have HR:=Lib.hid hr;clear hr hbk;go_wp2_with fail;obtain ⟨W,hW⟩:∃W,W=w1.setCell ⟨w.heap.size,0,none⟩ (.int .i64 0):=⟨_,rfl⟩;have hP:aGr R w (.returned (.int .i64 0)) W:=⟨0,w1,rfl,HR.out,by rw [hW];exact Out.setCell (X:=(·=w.heap.size)) w1 (p:=⟨w.heap.size,0,none⟩) rfl _⟩;have hec:W.cell? ⟨w.heap.size,0,none⟩=some (.int .i64 0):=by
   have:=(HBK.out.set 0 (.int .i64 0)).cell 0;rw [hW];simpa using this
  rw [←hW];have HP:=Lib.hid hP;clear hP hW ec ef;refine leaves_cons (f:=113) (args:=#[.pointer (some ⟨w.heap.size,0,none⟩)]) (by simp) (by simp [go_sem]) ?_;refine (aT4 ⟨w.heap.size,0,none⟩ W).mono ?_;rintro e u' w'' ⟨rfl,rfl,rfl⟩;simp [Leaves,settle,results,Tryz.results67,go_sem,hec];exact HP.out
 ·obtain ⟨W,hW⟩:∃W,W=w1.setCell ⟨w.heap.size,0,none⟩ (.int .i64 x):=⟨_,rfl⟩;have hP:aGr R w (.returned (.int .i64 x)) W:=⟨x,w1,rfl,hr,by rw [hW];exact Out.setCell (X:=(·=w.heap.size)) w1 (p:=⟨w.heap.size,0,none⟩) rfl _⟩;have hec:W.cell? ⟨w.heap.size,0,none⟩=some (.int .i64 x):=by
   have:=(HBK.out.set 0 (.int .i64 x)).cell 0;rw [hW];simpa using this
  have HP:=Lib.hid hP;have HWE:=Lib.hid hW;clear hP hW hr;refine leaves_cons (f:=113) (args:=#[.pointer (some ⟨w.heap.size,0,none⟩)]) (by simp) (by simp [go_sem]) ?_;refine (aK3 x w.heap.size _ [] w1 hbk).mono ?_;rintro e u' w'' ⟨rfl,rfl,rfl⟩;rw [←HWE.out];simp [Leaves,settle,results,Tryz.results67,go_sem,hec];exact HP.out
end Go.Proofs.YtgjmbbkcgillcaaGreat.Sto
namespace Go.Proofs.YtgjmbbkcgillcaaGreat.Sto
open Go.RowKit Disk Log
theorem LnS.lt {P:Nat→Prop} {w:World} {A:Option Addr} {n:Nat} {ls:List Ln} (h:LnS P w A n ls) (h1:∀x∈ls,1≤x.bytes.length):LnS (fun b=>P b∧b<w.heap.size) w A n ls:=
 ⟨h.len,fun j x hj=>by
  obtain ⟨b,o,B,m,c,q1,q2,q3,q4,q5,q6,q7⟩:=h.at_ j x hj;refine ⟨b,o,B,m,c,q1,⟨q2,World.block_lt_of_cell? w _ q3⟩,q3,q4,q5,q6,fun a ha h0=>⟨q7 a ha h0,?_⟩⟩;have hm:=q6.len;have hx:=h1 x (List.mem_of_getElem? hj);obtain ⟨ad,e,hc⟩:=q6.cells (by omega);rw [ha] at e;injection e with e;subst e;have:=World.block_lt_of_cell? w _ (hc 0 _ (List.getElem?_eq_getElem (by omega)));rwa [aAa] at this⟩
theorem aQb {w w':World} {base size:Nat} {e:TypeId} {v:Value} {n:Nat} {xs:List Value} {X:Nat→Prop} (h:w.ownsRow base e size v n xs) (ho:Out X w w') (hx:∀b,X b→b<base):w'.ownsRow base e size v n xs:=
 ⟨h.1,by
  rcases h.2 with h1|⟨g,cap,cur,e1,e2,hh,r⟩
  ·exact .inl h1
  ·exact .inr ⟨g,cap,cur,e1,e2,(ho.block g (Array.getElem?_eq_some_iff.1 hh).1 (fun hg=>by have:=hx g hg;omega)).trans hh,r⟩⟩
theorem OwnL.out {w w':World} {base:Nat} {v:Value} {ls:List Ln} {X:Nat→Prop} (h:OwnL base w v ls) (ho:Out X w w') (hx:∀b,X b→b<base):OwnL base w' v ls:=by
 obtain ⟨xs,h1,h2⟩:=h;exact ⟨xs,aQb h1 ho hx,⟨h2.len,fun j b hj=>by
  obtain ⟨A,n,c,q1,q2⟩:=h2.at_ j b hj;exact ⟨A,n,c,q1,aQb q2 ho hx⟩⟩⟩
theorem OwnL.mono {w:World} {base base':Nat} {v:Value} {ls:List Ln} (h:OwnL base w v ls) (hb:base'≤base):OwnL base' w v ls:=by
 obtain ⟨xs,h1,h2⟩:=h;exact ⟨xs,aAh h1 hb,⟨h2.len,fun j b hj=>by
  obtain ⟨A,n,c,q1,q2⟩:=h2.at_ j b hj;exact ⟨A,n,c,q1,aAh q2 hb⟩⟩⟩
def svC (gd ga gb:Nat) (lv:Bool) (k:Kp) (A:Option Addr) (c:Nat) (met:Bool):Array Value:=
 #[.pointer (some ⟨gd,0,none⟩),.pointer (some ⟨bif lv then gb else ga,0,none⟩),.pointer (some ⟨bif lv then ga else gb,0,none⟩),.int .i64 (bif lv then 1 else 0),.int .u64 (k.promised:Int),.int .u64 (k.current:Int),.slice A k.lines.length c,.bool met]
structure SvM (w:World) (X Ya Yb V:Nat→Prop) (gs gd ga gb:Nat) (d:DK) (p:Nat) (La Lb:LK) (lv:Bool) (k:Kp) (met:Bool):Prop where
 bk:∃A c,Bk w gs 126 (svC gd ga gb lv k A c met)∧LnS V w A k.lines.length k.lines∧k.lines.length≤c∧(A=none→c=0)
 disk:DkAt w X gd d
 la:LgAt w Ya ga gd ((bif lv then p else 0:Nat):Int) p La
 lb:LgAt w Yb gb gd ((bif lv then 0 else p:Nat):Int) p Lb
 half:d.pages.length / 2=p∧4≤p
 xs:∀b,X b→¬Ya b∧¬Yb b∧b≠gs∧¬V b
 ys:∀b,Ya b→¬Yb b∧b≠gs∧¬V b
 zs:∀b,Yb b→b≠gs∧¬V b
 vs:∀b,V b→b≠gs∧b<w.heap.size
theorem SvM.out {w w':World} {X Ya Yb V Z:Nat→Prop} {gs gd ga gb:Nat} {d:DK} {p:Nat} {La Lb:LK} {lv:Bool} {k:Kp} {met:Bool} (h:SvM w X Ya Yb V gs gd ga gb d p La Lb lv k met) (ho:Out Z w w') (hz:∀b,(X b∨Ya b∨Yb b∨V b∨b=gs)→¬Z b):SvM w' X Ya Yb V gs gd ga gb d p La Lb lv k met:=by
 obtain ⟨A,c,h1,h2,h3⟩:=h.bk;exact ⟨⟨A,c,aAd h1 ho (hz _ (.inr (.inr (.inr (.inr rfl))))),h2.out ho fun b hb=>hz _ (.inr (.inr (.inr (.inl hb)))),h3⟩,h.disk.out ho fun b hb=>hz _ (.inl hb),h.la.out ho fun b hb=>hz _ (.inr (.inl hb)),h.lb.out ho fun b hb=>hz _ (.inr (.inr (.inl hb))),h.half,h.xs,h.ys,h.zs,fun b hb=>⟨(h.vs b hb).1,Nat.lt_of_lt_of_le (h.vs b hb).2 ho.size⟩⟩
theorem SvM.below {w w':World} {X Ya Yb V:Nat→Prop} {gs gd ga gb:Nat} {d:DK} {p:Nat} {La Lb:LK} {lv:Bool} {k:Kp} {met:Bool} (h:SvM w X Ya Yb V gs gd ga gb d p La Lb lv k met) (hb:Below w.heap.size w w'):SvM w' X Ya Yb V gs gd ga gb d p La Lb lv k met:=
 h.out (Z:=fun _=>False) (Out.of_below hb) fun _ _ q=>q
theorem SvM.lt {w:World} {X Ya Yb V:Nat→Prop} {gs gd ga gb:Nat} {d:DK} {p:Nat} {La Lb:LK} {lv:Bool} {k:Kp} {met:Bool} (h:SvM w X Ya Yb V gs gd ga gb d p La Lb lv k met):∀b,(X b∨Ya b∨Yb b∨V b∨b=gs)→b<w.heap.size:=by
 obtain ⟨A,c,h1,_⟩:=h.bk;intro b hb;rcases hb with q|q|q|q|q
 ·exact h.disk.lt b q
 ·exact h.la.lt b q
 ·exact h.lb.lt b q
 ·exact (h.vs b q).2
 ·rw [q];exact h1.lt
theorem SvM.own {w w':World} {X Ya Yb V V':Nat→Prop} {gs gd ga gb:Nat} {d:DK} {p:Nat} {La Lb:LK} {lv:Bool} {k k':Kp} {met met':Bool} {A:Option Addr} {c:Nat} (h:SvM w X Ya Yb V gs gd ga gb d p La Lb lv k met) (ho:Out (·=gs) w w') (hb:Bk w' gs 126 (svC gd ga gb lv k' A c met')) (hl:LnS V' w' A k'.lines.length k'.lines) (hc:k'.lines.length≤c) (hn:A=none→c=0) (hv:∀b,V' b→b≠gs∧b<w'.heap.size∧¬X b∧¬Ya b∧¬Yb b):SvM w' X Ya Yb V' gs gd ga gb d p La Lb lv k' met':=
 ⟨⟨A,c,hb,hl,hc,hn⟩,h.disk.out ho fun b hb e=>(h.xs b hb).2.2.1 e,h.la.out ho fun b hb e=>(h.ys b hb).2.1 e,h.lb.out ho fun b hb e=>(h.zs b hb).1 e,h.half,fun b hb=>⟨(h.xs b hb).1,(h.xs b hb).2.1,(h.xs b hb).2.2.1,fun q=>(hv b q).2.2.1 hb⟩,fun b hb=>⟨(h.ys b hb).1,(h.ys b hb).2.1,fun q=>(hv b q).2.2.2.1 hb⟩,fun b hb=>⟨(h.zs b hb).1,fun q=>(hv b q).2.2.2.2 hb⟩,fun b hb=>⟨(hv b hb).1,(hv b hb).2.1⟩⟩
set_option maxRecDepth 8000 in
theorem aJw {w:World} {X Ya Yb V:Nat→Prop} {gs gd ga gb:Nat} {d:DK} {p:Nat} {La Lb:LK} {lv:Bool} {k:Kp} {met:Bool} (h:SvM w X Ya Yb V gs gd ga gb d p La Lb lv k met):
  Calls Tryz.prog 63 #[.pointer (some ⟨gs,0,none⟩)] w fun e w'=>e=.returned (.bool (met||d.dead))∧w=w':=by
 obtain ⟨A,c,hb,-⟩:=h.bk;have q0:w.cell? ⟨gs,0,none⟩=some (.pointer (some ⟨gd,0,none⟩)):=hb.cell 0;have q7:w.cell? ⟨gs,7,none⟩=some (.bool met):=hb.cell 7;have CD:=Lib.hid (aCo h.disk);obtain ⟨dd,hdd⟩:∃dd,dd=d.dead:=⟨_,rfl⟩;rw [←hdd] at CD ⊢;clear hb h hdd;cases met with
 |true=>
  go_enter Tryz.func63,Tryz.ntmps63
  go_wp2_with fail;go_ret;exact ⟨rfl,rfl⟩
 |false=>
  go_enter Tryz.func63,Tryz.ntmps63
  go_wp2_with fail;refine CD.out.mono ?_;rintro e _ ⟨rfl,rfl⟩;go_wp2_with fail;go_ret;exact ⟨rfl,rfl⟩
set_option maxRecDepth 8000 in
theorem aQo (gs gd p:Nat) (d:DK) (X:Nat→Prop) (w:World) (hd:DkAt w X gd d) (hb:w.cell? ⟨gs,0,none⟩=some (.pointer (some ⟨gd,0,none⟩))) (hp:d.pages.length / 2=p):
  Calls Tryz.prog 115 #[.pointer (some ⟨gs,0,none⟩)] w fun e w'=>e=.returned (.int .i64 (p:Int))∧w=w':=by
 have CS:=Lib.hid (aR6 hd);have HW:Hid (wrap64 ((d.pages.length:Int) / 2)=(p:Int)):=by
  have:=hd.ok.many;show _=_;rw [IntWalk.wrap64_in _ (by omega)];omega
 clear hd hp;go_enter Tryz.func115,Tryz.ntmps115
 go_wp2_with fail;refine CS.out.mono ?_;rintro e _ ⟨rfl,rfl⟩;go_wp2_with fail;go_ret;rw [←HW.out];exact ⟨rfl,rfl⟩
def aGn (X Ya Yb V:Nat→Prop) (gs gd ga gb:Nat) (d:DK) (p:Nat) (La Lb:LK) (lv:Bool) (k:Kp) (met:Bool) (r:Ending) (w:World) (e:Ending) (w':World):Prop:=
 e=r∧SvM w' X Ya Yb V gs gd ga gb d p La Lb lv k met∧Out (·=gs) w w'
theorem SvM.meet {w:World} {X Ya Yb V:Nat→Prop} {gs gd ga gb:Nat} {d:DK} {p:Nat} {La Lb:LK} {lv:Bool} {k:Kp} {met:Bool} (h:SvM w X Ya Yb V gs gd ga gb d p La Lb lv k met) (m:Bool) (r:Ending):aGn X Ya Yb V gs gd ga gb d p La Lb lv k m r w r (w.setCell ⟨gs,7,none⟩ (.bool m)):=by
 obtain ⟨A,c,hb,hl,hc,hn⟩:=h.bk;have ho:Out (·=gs) w (w.setCell ⟨gs,7,none⟩ (.bool m)):=Out.setCell (X:=(·=gs)) w (p:=⟨gs,7,none⟩) rfl _;have hb2:Bk (w.setCell ⟨gs,7,none⟩ (.bool m)) gs 126 (svC gd ga gb lv k A c m):=by
  have:=hb.set 7 (.bool m);simpa [svC] using this
 exact ⟨rfl,h.own ho hb2 (hl.out ho fun b hb e=>(h.vs b hb).1 e) hc hn fun b hb=>⟨(h.vs b hb).1,Nat.lt_of_lt_of_le (h.vs b hb).2 ho.size,fun q=>(h.xs b q).2.2.2 hb,fun q=>(h.ys b q).2.2 hb,fun q=>(h.zs b q).2 hb⟩,ho⟩
set_option maxRecDepth 8000 in
theorem aEa {w:World} {X Ya Yb V:Nat→Prop} {gs gd ga gb:Nat} {d:DK} {p:Nat} {La Lb:LK} {lv:Bool} {k:Kp} {met:Bool} (h:SvM w X Ya Yb V gs gd ga gb d p La Lb lv k met):
  Calls Tryz.prog 123 #[.pointer (some ⟨gs,0,none⟩),.int .i64 0] w (aGn X Ya Yb V gs gd ga gb d p La Lb lv k met (.returned (.tuple #[])) w):=by
 obtain ⟨A,c,hb,-⟩:=h.bk;have q7:w.cell? ⟨gs,7,none⟩=some (.bool met):=hb.cell 7;have f7:w.frozen? ⟨gs,7,none⟩=false:=hb.frozen 7;have HM:=Lib.hid (h.meet met (.returned (.tuple #[])));clear hb h;cases met with
 |true=>
  go_enter Tryz.func123,Tryz.ntmps123
  go_wp2_with (go_at_call 117;(with_reducible refine (aAo _ _).mono ?_);rintro e _ ⟨rfl,rfl⟩)
  go_end0
  exact HM.out
 |false=>
  go_enter Tryz.func123,Tryz.ntmps123
  go_wp2_with (go_at_call 117;(with_reducible refine (aAo _ _).mono ?_);rintro e _ ⟨rfl,rfl⟩)
  go_end0
  exact HM.out
set_option maxRecDepth 8000 in
theorem aCu {w:World} {X Ya Yb V:Nat→Prop} {gs gd ga gb:Nat} {d:DK} {p:Nat} {La Lb:LK} {lv:Bool} {k:Kp} (z:Int) (hz:z≠0) (h:SvM w X Ya Yb V gs gd ga gb d p La Lb lv k false):
  Calls Tryz.prog 123 #[.pointer (some ⟨gs,0,none⟩),.int .i64 z] w (aGn X Ya Yb V gs gd ga gb d p La Lb lv k (z==9) (.panicked [{v:=.iface 27 (.int .i64 z),recovered:=false}]) w):=by
 obtain ⟨A,c,hb,-⟩:=h.bk;have q7:w.cell? ⟨gs,7,none⟩=some (.bool false):=hb.cell 7;have f7:w.frozen? ⟨gs,7,none⟩=false:=hb.frozen 7;have HM:=Lib.hid (h.meet (z==9) (.panicked [{v:=.iface 27 (.int .i64 z),recovered:=false}]));obtain ⟨m,hm⟩:∃m,m=(z==9):=⟨_,rfl⟩;have hm2:(z==9)=m:=hm.symm;rw [hm2] at HM ⊢;have hzb:(z != 0)=true:=by simpa using hz
 clear hb h hz hm;go_enter Tryz.func123,Tryz.ntmps123
 go_wp2_with (go_at_call 117;(with_reducible refine (aAr _ _).mono ?_);rintro e _ ⟨rfl,rfl⟩)
 exact ⟨rfl,HM.out⟩
def aHb (k:Kp) (w:World) (e:Ending) (w':World):Prop:=
 ∃A c,e=.returned (kpV k A c)∧OwnL w.heap.size w' (.slice A k.lines.length c) k.lines∧Below w.heap.size w w'
set_option maxRecDepth 100000 in
theorem aYn {w:World} {X Ya Yb V:Nat→Prop} {gs gd ga gb:Nat} {d:DK} {p:Nat} {La Lb:LK} {lv:Bool} {k:Kp} {met:Bool} (h:SvM w X Ya Yb V gs gd ga gb d p La Lb lv k met) (hf:Fine k):
  Calls Tryz.prog 34 #[.pointer (some ⟨gs,0,none⟩)] w (aHb k w):=by
 obtain ⟨A,c,hb,hl,-⟩:=h.bk;have hgs:=hb.lt;have hb1:Below w.heap.size w (w.alloc (.cells #[.int .u64 0,.int .u64 0,.slice none 0 0] 69)):=(Below.refl _ _).alloc (Nat.le_refl _) _;have k4:=(hb.below hb1).cell 4;have k5:=(hb.below hb1).cell 5;have k6:=(hb.below hb1).cell 6;simp only [svC] at k4 k5 k6;obtain ⟨W,hW⟩:∃W,W=(w.alloc (.cells #[.int .u64 0,.int .u64 0,.slice none 0 0] 69)).alloc (.cells #[.int .u64 (k.promised:Int),.int .u64 (k.current:Int),.slice A k.lines.length c] 69):=⟨_,rfl⟩;have hwb:Below w.heap.size w W:=by rw [hW];exact hb1.alloc (by simp) _
 have hbr:Bk W w.heap.size 69 #[.int .u64 0,.int .u64 0,.slice none 0 0]:=by rw [hW];exact (Bk.new w _ _).alloc _
 have hbk:Bk W (w.heap.size+1) 69 #[.int .u64 (k.promised:Int),.int .u64 (k.current:Int),.slice A k.lines.length c]:=by
  rw [hW];have:=Bk.new (w.alloc (.cells #[.int .u64 0,.int .u64 0,.slice none 0 0] 69)) 69 #[.int .u64 (k.promised:Int),.int .u64 (k.current:Int),.slice A k.lines.length c];rwa [World.size_alloc] at this
 have HWE:=Lib.hid hW;have HWB:=Lib.hid hwb;have HBR:=Lib.hid hbr;have HBK:=Lib.hid hbk;have CC:=Lib.hid (aMp V A k.lines.length c k.lines W (hl.below hwb) (by have:=hf.many;omega) (fun x hx=>by have:=(aAi.1 (hf.each x hx).1).2.2.2;omega));have m2:W.cell? ⟨w.heap.size+1,2,none⟩=some (.slice A k.lines.length c):=hbk.cell 2;generalize hn:k.lines.length=n at*;have HN:=Lib.hid hn;clear hb hl hb1 h hf hW hwb hbr hbk hn;go_enter Tryz.func34,Tryz.ntmps34
 go_wp2_with fail;rw [←HWE.out];go_wp2_with fail;refine CC.out.mono ?_;rintro e w3 ⟨A3,c3,rfl,hown,hb3⟩;rw [HN.out] at hown ⊢;have HO3:=Lib.hid hown;have HB3:=Lib.hid hb3;obtain ⟨b,hbe⟩:∃b,b=w.heap.size:=⟨_,rfl⟩;have HBE:=Lib.hid hbe;rw [←hbe] at HBR HBK ⊢;have HK3:=Lib.hid (HBK.out.below hb3);have HR3:=Lib.hid (HBR.out.below hb3);have hk3:Bk (w3.setCell ⟨b+1,2,none⟩ (.slice A3 n c3)) (b+1) 69 #[.int .u64 (k.promised:Int),.int .u64 (k.current:Int),.slice A3 n c3]:=by simpa using HK3.out.set 2 (.slice A3 n c3)
 have ho3:Out (fun j=>j=b+1∨j=b) w3 (w3.setCell ⟨b+1,2,none⟩ (.slice A3 n c3)):=Out.setCell (X:=fun j=>j=b+1∨j=b) w3 (p:=⟨b+1,2,none⟩) (.inl rfl) _;have HR4:Hid (Bk (w3.setCell ⟨b+1,2,none⟩ (.slice A3 n c3)) b 69 #[.int .u64 0,.int .u64 0,.slice none 0 0]):=aAd HR3.out (Out.setCell (X:=(·=b+1)) w3 (p:=⟨b+1,2,none⟩) rfl _) (by omega);have k2:w3.cell? ⟨b+1,2,none⟩=some (.slice A n c):=HK3.out.cell 2;have f2:w3.frozen? ⟨b+1,2,none⟩=false:=HK3.out.frozen 2;have HK4:=Lib.hid hk3;have HO4:=Lib.hid ho3;have l0:(w3.setCell ⟨b+1,2,none⟩ (.slice A3 n c3)).cell? ⟨b+1,0,none⟩=some (.int .u64 (k.promised:Int)):=hk3.cell 0;have l1:(w3.setCell ⟨b+1,2,none⟩ (.slice A3 n c3)).cell? ⟨b+1,1,none⟩=some (.int .u64 (k.current:Int)):=hk3.cell 1;have l2:(w3.setCell ⟨b+1,2,none⟩ (.slice A3 n c3)).cell? ⟨b+1,2,none⟩=some (.slice A3 n c3):=hk3.cell 2;have r0:=HR4.out.cell 0;have r1:=HR4.out.cell 1;have r2:=HR4.out.cell 2;have rf:=HR4.out.frozen;have HFR:Hid (Bk ((((w3.setCell ⟨b+1,2,none⟩ (.slice A3 n c3)).setCell ⟨b,0,none⟩ (.int .u64 (k.promised:Int))).setCell ⟨b,1,none⟩ (.int .u64 (k.current:Int))).setCell ⟨b,2,none⟩ (.slice A3 n c3)) b 69 #[.int .u64 (k.promised:Int),.int .u64 (k.current:Int),.slice A3 n c3]):=by
  show Bk _ _ _ _;simpa using ((HR4.out.set 0 (.int .u64 (k.promised:Int))).set 1 (.int .u64 (k.current:Int))).set 2 (.slice A3 n c3)
 have HOF:=Lib.hid ((Out.of_below (X:=fun j=>j=b+1∨j=b) HB3.out).trans ((HO4.out).trans (out3 b (w3.setCell ⟨b+1,2,none⟩ (.slice A3 n c3)) (.int .u64 (k.promised:Int)) (.int .u64 (k.current:Int)) (.slice A3 n c3)) (fun j h=>.inl (.inr h))) (fun j h=>.inl h));clear hown hb3 hbe hk3 ho3 m2;go_wp2_with fail;have hW2:b+1<W.heap.size:=HBK.out.lt;have hbl:Below w.heap.size w ((((w3.setCell ⟨b+1,2,none⟩ (.slice A3 n c3)).setCell ⟨b,0,none⟩ (.int .u64 (k.promised:Int))).setCell ⟨b,1,none⟩ (.int .u64 (k.current:Int))).setCell ⟨b,2,none⟩ (.slice A3 n c3)):=
  HOF.out.below HWB.out (fun j hj=>by have:=HBE.out;rcases hj with hj|hj<;>omega) HWB.out.size
 have hol:OwnL w.heap.size ((((w3.setCell ⟨b+1,2,none⟩ (.slice A3 n c3)).setCell ⟨b,0,none⟩ (.int .u64 (k.promised:Int))).setCell ⟨b,1,none⟩ (.int .u64 (k.current:Int))).setCell ⟨b,2,none⟩ (.slice A3 n c3)) (.slice A3 n c3) k.lines:=
  (HO3.out.out (X:=fun j=>j=b+1∨j=b) ((HO4.out).trans (out3 b _ _ _ _) (fun j h=>.inl (.inr h))) (fun j hj=>by rcases hj with hj|hj<;>omega)).mono (by have:=HWB.out.size;omega)
 have HFIN:Hid (aHb k w (.returned (.agg #[.int .u64 (k.promised:Int),.int .u64 (k.current:Int),.slice A3 n c3])) ((((w3.setCell ⟨b+1,2,none⟩ (.slice A3 n c3)).setCell ⟨b,0,none⟩ (.int .u64 (k.promised:Int))).setCell ⟨b,1,none⟩ (.int .u64 (k.current:Int))).setCell ⟨b,2,none⟩ (.slice A3 n c3))):=
  ⟨A3,c3,by unfold kpV;rw [HN.out],by rw [HN.out];exact hol,hbl⟩
 refine bodyPost_ret (results_cell_row rfl _ _ b 69 _ (0,0) _ rfl HFR.out Tryz.underlying69 rfl aNh) rfl ?_;exact HFIN.out
end Go.Proofs.YtgjmbbkcgillcaaGreat.Sto
