/- Lemmas, part 16: LogOpen, LogDo, LogWrite -/
import Derived.Test.YtgjmbbkcgillcaaGreatPart15
set_option maxHeartbeats 16000000
namespace Go.Proofs.YtgjmbbkcgillcaaGreat.Log
open Go.RowKit Disk
open PhaseG (aAm)
open Phase (aA0 aA2 reachB)
def lvC (f:Lf) (x:Value):List Value:=[.int .u64 (f.1:Int),.int .u16 (f.2.1:Int),.int .u16 (f.2.2.1:Int),x]
def lvsC:List Lf→List Value→List Value
 |f::fs,x::xs=>lvC f x++lvsC fs xs
 |_,_=>[]
theorem aOm:∀(fs:List Lf) (xs:List Value) (f:Lf) (x:Value),fs.length=xs.length→lvsC (fs++[f]) (xs++[x])=lvsC fs xs++lvC f x
 |[],[],f,x,_=>by simp [lvsC]
 |g::fs,y::ys,f,x,h=>by
  rw [List.cons_append,List.cons_append,lvsC,aOm fs ys f x (by simpa using h),lvsC,List.append_assoc]
theorem aRg:∀(fs:List Lf) (xs:List Value) (j i:Nat) (f:Lf) (x:Value),fs[j]? =some f→xs[j]? =some x→i<4→(lvsC fs xs)[j*4+i]? =(lvC f x)[i]?
 |g::fs,y::ys,0,i,f,x,hf,hx,hi=>by
  simp at hf hx;subst hf hx;rw [lvsC,Nat.zero_mul,Nat.zero_add,List.getElem?_append_left (by exact hi)]
 |g::fs,y::ys,j+1,i,f,x,hf,hx,hi=>by
  rw [lvsC,List.getElem?_append_right (by show 4≤_;omega)];have:=aRg fs ys j i f x (by simpa using hf) (by simpa using hx) hi;rw [←this]
  congr 1
  show (j+1)*4+i - 4=_;omega
theorem aSk {W:World} {base B G n cap:Nat} {fs:List Lf} {xs:List Value} (h:W.ownsRow base 248 4 (.slice (some ⟨G,0,none⟩) n cap) n (lvsC fs xs)) (hf:Fresh B W xs (fs.map (·.2.2.2))) (hn:fs.length=n):LvS W G 0 n fs:=by
 refine ⟨hn,fun j f hj=>?_⟩;have hjn:=(List.getElem?_eq_some_iff.1 hj).1;obtain ⟨A,m,c,hx,how⟩:=hf.at_ j f.2.2.2 (by rw [List.getElem?_map,hj];rfl);have key:∀i,i<4→W.cell? ⟨G,0+j*4+i,none⟩=(lvC f (.slice A m c))[i]? :=fun i hi=>by
  rw [Nat.zero_add,h.cellAt (j*4+i) (by omega),aRg fs xs j i f _ hj hx hi]
 exact ⟨A,m,c,aRb how,(Rd.of_own how).1,key 0 (by decide),key 1 (by decide),key 2 (by decide),key 3 (by decide)⟩
theorem bCo {w:World} {X:Nat→Prop} {gd:Nat} {d:DK} (hd:DkAt w X gd d) (hn:d.dead=true) (f n:Int):Calls Tryz.prog 155 #[.pointer (some ⟨gd,0,none⟩),.int .i64 f,.int .i64 n] w (Ans (.tuple #[.pointer none,.int .i64 9]) w):=by
 have cd:=aCo hd;rw [hn] at cd;have CD:=Lib.hid cd;clear cd;go_enter Tryz.func155,Tryz.ntmps155
 go_wp2_with fail;refine CD.out.mono ?_;rintro e _ ⟨rfl,rfl⟩;go_wp2_with fail
 go_ret2
 exact ⟨rfl,rfl⟩
def vO (g h t e:Nat):Nat→Value
 |0=>.pointer (some ⟨g,0,none⟩)
 |1=>.pointer (some ⟨g,0,none⟩)
 |2=>.pointer (some ⟨g,0,none⟩)
 |3=>.pointer (some ⟨g,6,none⟩)
 |4=>.int .u64 (t:Int)
 |5=>.slice (some ⟨h,0,none⟩) 512 512
 |6=>.int .u64 (e:Int)
 |7=>.int .u64 ((max t e:Nat):Int)
 |8=>.pointer (some ⟨g,0,none⟩)
 |9=>.pointer (some ⟨g,6,none⟩)
 |10=>undef
 |_=>undef
def PhO (wr:World) (g h t e s:Nat) (v:Nat→Value) (W:World):Prop:=
 v=vO g h t e∧if s≤1 then Below wr.heap.size wr W else ∃W1,Below wr.heap.size wr W1∧W=W1.setCell ⟨g,6,none⟩ (.int .u64 ((max t e:Nat):Int))
theorem PhO.vals {wr:World} {g h t e s:Nat} {v:Nat→Value} {W:World} (hp:PhO wr g h t e s v W):v=vO g h t e:=hp.1
theorem PhO.below {wr:World} {g h t e s:Nat} {v:Nat→Value} {W:World} (hp:PhO wr g h t e s v W) (hs:s≤1):Below wr.heap.size wr W:=by
 have:=hp.2;rwa [if_pos hs] at this
theorem aXy (w:World) (base:Nat) (e:TypeId) (k:Nat):w.ownsRow base e k (.slice none 0 0) 0 []:=World.ownsRow_nil _ _ _ _
theorem aWc:(Tryz.prog.info? 248).map (fun i=>(i.zero,i.size,i.bytes))=some (some (.agg #[.int .u64 0,.int .u16 0,.int .u16 0,.slice none 0 0]),4,40):=by kernel_rfl
theorem aV9:Tryz.prog.underlying 245=some (.slice 248):=by kernel_rfl
def LK.zero (t:Nat):LK:=⟨false,[],0,t,false⟩
theorem LgAt.zero_new (w:World) (gd:Nat) (f n:Nat):LgAt (w.alloc (.cells #[.pointer (some ⟨gd,0,none⟩),.int .i64 (f:Int),.int .i64 (n:Int),.bool false,.slice none 0 0,.int .i64 0,.int .u64 0,.bool false] 244)) (·=w.heap.size) w.heap.size gd (f:Int) n (LK.zero 0):=
 ⟨none,0,[],⟨Bk.new _ _ _,aD0 _ _ _,(fun j b hj=>by simp [LK.zero] at hj),rfl,(fun a ha=>by cases ha),fun k hk=>by subst hk;rw [aBd];omega⟩⟩
def bAe (w1:World) (g gd:Nat) (d:DK) (f n m:Nat) (v i:Value) (wr:World):Prop:=
 ∃(k:Nat) (xs:List Value),k≤m∧i=.int .i64 (k:Int)∧wr.ownsRow w1.heap.size 248 4 v k (lvsC (((part (now d) f m).take k).map leafF) xs)∧Fresh w1.heap.size wr xs ((((part (now d) f m).take k).map leafF).map (·.2.2.2))∧LgAt wr (·=g) g gd (f:Int) n (LK.zero (newest ((part (now d) f m).take k)))∧Out (·=g) w1 wr
theorem aP8 (ps:Pages) (p:List UInt8):newest (ps++[p])=max (newest ps) (max (first8 p) (last8 p)):=by
 unfold newest;rw [List.foldl_append];rfl
theorem aN5 {ps:Pages} (h:OkP ps):newest ps<18446744073709551616:=by
 induction ps with
 |nil=>decide
 |cons p ps ih=>
  rw [aFj];have h1:=aJu p;have h2:=aQz p (h p List.mem_cons_self);have h3:=ih fun q hq=>h q (List.mem_cons_of_mem _ hq);omega
theorem aWv {d:DK} (hok:Ok d) {f n k:Nat} (hin:f+n≤d.pages.length) (hk:k<n):(part (now d) f n).take (k+1)=(part (now d) f n).take k++[d.seen (f+k)]:=by
 have hl:k<(part (now d) f n).length:=by rw [aB0 (by rw [aBu];exact hin)];exact hk
 rw [←List.take_append_getElem hl]
 congr 2
 have h1:=aGh (ps:=now d) (f:=f) (n:=n) (j:=k) hk;rw [aZv hok _ (by omega)] at h1;rw [←h1];unfold pg;rw [List.getD_eq_getElem?_getD,List.getElem?_eq_getElem hl];rfl
theorem bB3 {w:World} {base:Nat} {e:TypeId} {size:Nat} {A:Option Addr} {n c m:Nat} {xs:List Value} (h:w.ownsRow base e size (.slice A n c) m xs):n≤c:=by
 rcases h.2 with ⟨e1,rfl⟩|⟨g,cap,cur,e1,_,_,hnc,_⟩
 ·injection e1 with _ e2 e3;omega
 ·injection e1 with _ e2 e3;omega
def aFp (gd:Nat) (d:DK) (f n:Nat) (w:World) (e:Ending) (w':World):Prop:=
 Below w.heap.size w w'∧if newest (part (now d) f n)=18446744073709551615 then e=.returned (.tuple #[.pointer none,.int .i64 2]) else
  ∃g Y,e=.returned (.tuple #[.pointer (some ⟨g,0,none⟩),.int .i64 0])∧LgAt w' Y g gd (f:Int) n ⟨(Recs (part (now d) f n)).1,(Recs (part (now d) f n)).2.1,(Recs (part (now d) f n)).2.2,newest (part (now d) f n),false⟩∧∀k,Y k→w.heap.size≤k
set_option maxRecDepth 100000 in
theorem aX6 {w:World} {X:Nat→Prop} {gd:Nat} {d:DK} (hd:DkAt w X gd d) (hn:d.dead=false) (f n:Nat) (h2:2≤n) (h3:n≤5000) (m:Nat) (hmn:m≤n) (hin:f+m≤d.pages.length) (hbad:m<n→d.faultAt ((f+m:Nat):Int)=1) (hrow:d.row.length≤1000000):
  Calls Tryz.prog 155 #[.pointer (some ⟨gd,0,none⟩),.int .i64 (f:Int),.int .i64 (n:Int)] w fun e w'=>(m<n→e=.returned (.tuple #[.pointer none,.int .i64 1])∧Below w.heap.size w w')∧(m=n→aFp gd d f n w e w'):=by
 have cd:=aCo hd;rw [hn] at cd;have CD:=Lib.hid cd;have hok:=hd.ok;have HLEN:Hid ((part (now d) f m).length=m):=aB0 (by rw [aBu];exact hin);have HOKP:Hid (OkP (part (now d) f m)):=bBg (bCu hok) f m;have HTK:Hid (∀k,k<m→(part (now d) f m).take (k+1)=(part (now d) f m).take k++[d.seen (f+k)]):=fun k hk=>aWv hok hin hk;have hb1:Below w.heap.size w (w.alloc (.cells #[.pointer (some ⟨gd,0,none⟩),.int .i64 (f:Int),.int .i64 (n:Int),.bool false,.slice none 0 0,.int .i64 0,.int .u64 0,.bool false] 244)):=(Below.refl _ _).alloc (Nat.le_refl _) _;have hz:=LgAt.zero_new w gd f n;obtain ⟨w1,hw1⟩:∃w1,w1=w.alloc (.cells #[.pointer (some ⟨gd,0,none⟩),.int .i64 (f:Int),.int .i64 (n:Int),.bool false,.slice none 0 0,.int .i64 0,.int .u64 0,.bool false] 244):=⟨_,rfl⟩;rw [←hw1] at hb1 hz;have HW1:=Lib.hid hw1;have HB1:=Lib.hid hb1;have HZ:=Lib.hid hz;have HSZ:Hid (w1.heap.size=w.heap.size+1):=by rw [hw1];exact aBd _ _
 have HD1:Hid (∀W,Out (·=w.heap.size) w1 W→DkAt W X gd d):=fun W hW=>(hd.below HB1.out).out hW fun k hk e=>by
  have:k<w.heap.size:=by obtain ⟨_,_,_,h⟩:=hd;exact h.lt k hk
  omega
 have HF:Hid (∀k,k<m→d.faultAt ((f+k:Nat):Int)=0):=fun k hk=>by
  unfold DK.faultAt;rw [if_neg (by rw [hn];decide),if_neg (by omega)]
 have HSL:Hid (∀k,k<m→(d.seen (f+k)).length=512):=fun k hk=>hok.seen (by omega);have HROW:=Lib.hid hrow;have HIN:Hid (f+m≤1000000):=by have:=hok.many;show _≤_;omega
 have HBAD:=Lib.hid hbad;have HMN:Hid (m≤n):=hmn;obtain ⟨i0,hi,hz0,hz1,hz2⟩:=infos aWc;have HI:=Lib.hid hi;have HZ0:=Lib.hid hz0;have HZ1:=Lib.hid hz1;have HZ2:=Lib.hid hz2;clear hi hz0 hz1 hz2 cd hok hb1 hz hw1 hin hrow hd hbad;go_enter Tryz.func155,Tryz.ntmps155
 go_wp2_with fail;refine CD.out.mono ?_;rintro e _ ⟨rfl,rfl⟩;go_wp2_with fail;rw [←HW1.out];go_loopw [9,28] (fun v i wr=>bAe w1 w.heap.size gd d f n m v i wr) (fun _ i _=>n - (intOf i).toNat)
 case atStart=>exact ⟨0,[],by omega,rfl,aXy _ _ _ _,⟨rfl,fun j b hj=>by simp at hj⟩,HZ.out,Out.refl _ _⟩
 case round=>
  obtain ⟨k,xs,hk,rfl,hown,hfr,hlg,ho⟩:=hrel;have HO:=Lib.hid hown;have HFR:=Lib.hid hfr;have HLG:=Lib.hid hlg;have HOUT:=Lib.hid ho;clear hown hfr hlg ho;by_cases hlt:k<m
  ·have hkn:k<n:=by omega
   have hltn:(k:Int)<(n:Int):=by omega
   clear hltn;have HRD:=Lib.hid (aQ8 (HD1.out wr HOUT.out) (f+k) (HF.out k hlt) HROW.out);have e1:((f+k:Nat):Int)=(f:Int)+(k:Int):=by omega
   rw [e1] at HRD;have w0:wrap64 ((f:Int)+(k:Int))=(f:Int)+(k:Int):=IntWalk.wrap64_in _ (by have:=HIN.out;omega);clear e1;go_wp2_with fail;refine HRD.out.mono ?_;rintro e ww ⟨h,rfl,hbk,hh,hbw⟩;have hp:=HSL.out k hlt;have htk:=HTK.out k hlt;have HOKK:Hid (OkP ((part (now d) f m).take k)):=fun p hp=>HOKP.out p (List.mem_of_mem_take hp);have HTK1:=Lib.hid htk;have HP:=Lib.hid hp;generalize d.seen (f+k)=p at*;have HPG:=Lib.hid (aUu hbk hp);have HLW:=Lib.hid (HLG.out.below hbw);have HOW:=Lib.hid (HO.out.kept (aA7 hbw none) (Classical.em _));have HFW:=Lib.hid (HFR.out.below hbw);have HOUTW:Hid (Out (·=w.heap.size) w1 ww):=HOUT.out.trans (Out.of_below hbw) (fun k hk=>.inl hk);clear hbk hh hbw hp htk HRD HLG HO HFR w0;have HTOP:Hid (newest ((part (now d) f m).take k)<18446744073709551616):=aN5 HOKK.out;have HBD:Hid (first8 p<18446744073709551616∧last8 p<18446744073709551616):=⟨aJu p,aQz p HP.out⟩;have HNEW:Hid (newest ((part (now d) f m).take (k+1))=max (newest ((part (now d) f m).take k)) (max (first8 p) (last8 p))):=by rw [HTK1.out];exact aP8 _ _
   have HENDP:Hid (∀W,Below ww.heap.size ww W→Calls Tryz.prog 178 #[.slice (some ⟨h,0,none⟩) 512 512] W fun e w'=>e=.returned (.int .u64 ((max (first8 p) (last8 p):Nat):Int))∧Below W.heap.size W w'):=fun W hW=>aTs _ 512 p W (HPG.out.below hW) (Nat.le_refl _);obtain ⟨e,he⟩:∃e,e=max (first8 p) (last8 p):=⟨_,rfl⟩;obtain ⟨t,ht⟩:∃t,t=newest ((part (now d) f m).take k):=⟨_,rfl⟩;rw [←he] at HENDP HNEW;rw [←ht] at HNEW HTOP HLW;have HEND:Hid (∀W,Below ww.heap.size ww W→Calls Tryz.prog 178 #[.slice (some ⟨h,0,none⟩) 512 512] W fun x w'=>x=.returned (.int .u64 (e:Int))∧Below W.heap.size W w'):=HENDP.out;have HC6:Hid (∀W,Below ww.heap.size ww W→W.cell? ⟨w.heap.size,6,none⟩=some (.int .u64 (t:Int))∧W.frozen? ⟨w.heap.size,6,none⟩=false):=fun W hW=>by
    obtain ⟨-,-,-,-,-,c6,-,fr⟩:=(HLW.out.below hW).cell5;exact ⟨c6,fr 6⟩
   clear he ht HENDP;go_wp2_with fail;have HQ:Hid (∀W,Below ww.heap.size ww W→Out (·=w.heap.size) ww (W.setCell ⟨w.heap.size,6,none⟩ (.int .u64 ((max t e:Nat):Int)))):=fun W hW=>(Out.of_below hW).trans (aDa (Y:=(·=w.heap.size)) rfl) (fun k hk=>.inl hk);refine aAm (vO w.heap.size h t e) [6,10] (PhO ww w.heap.size h t e) 40 (by kernel_rfl) (by kernel_rfl) (fun s v W hp=>?_) ⟨rfl,by rw [if_pos (by decide)];exact (Below.refl _ _).drew⟩ (fun k y hk=>?_) (fun k y z' hy hz=>?_) ?_ (fun v=>{tmps:=#[Value.pointer (some ⟨gd,0,none⟩),Value.int IntKind.i64 ↑f,Value.int IntKind.i64 ↑n,undef,undef,undef,u6,u7,Value.pointer (some ⟨w.heap.size,0,none⟩),u9,Value.int IntKind.i64 ↑k,Value.slice (some ⟨h,0,none⟩) 512 512,Value.int IntKind.i64 0,Value.bool false,Value.pointer (some ⟨gd,0,none⟩),Value.bool false,Value.bool false,Value.pointer (some ⟨gd,0,none⟩),Value.bool false,Value.bool (decide ((n:Int)<2)),Value.int IntKind.i64 ↑n,Value.bool (decide ((n:Int)<2)),Value.pointer (some ⟨gd,0,none⟩),Value.int IntKind.i64 ↑f,Value.int IntKind.i64 ↑n,Value.agg #[Value.pointer (some ⟨gd,0,none⟩),Value.int IntKind.i64 ↑f,Value.int IntKind.i64 ↑n,Value.bool false,Value.slice none 0 0,Value.int IntKind.i64 0,Value.int IntKind.u64 0,Value.bool false],Value.pointer (some ⟨w.heap.size,0,none⟩),Value.int IntKind.i64 ↑n,Value.int IntKind.i64 ↑k,Value.bool true,Value.int IntKind.i64 ↑k,Value.tuple #[Value.slice (some ⟨h,0,none⟩) 512 512,Value.int IntKind.i64 0],Value.pointer (some ⟨gd,0,none⟩),Value.int IntKind.i64 ↑f,Value.int IntKind.i64 ↑k,Value.int IntKind.i64 (wrap64 ((f:Int)+(k:Int))),Value.tuple #[Value.slice (some ⟨h,0,none⟩) 512 512,Value.int IntKind.i64 0],Value.slice (some ⟨h,0,none⟩) 512 512,Value.int IntKind.i64 0,Value.int IntKind.i64 0,Value.bool false,u41,v 0,v 1,v 2,v 3,v 4,v 5,v 6,v 7,v 8,v 9,u52,u53,u54,u55,u56,u57,undef,undef,undef,undef,undef,undef,undef,undef,undef],defers:=[]}) (fun v=>by kernel_rfl) ?_
   ·obtain rfl:=hp.vals
    kernel_rfl
   ·match k,hk with
    |0,hk=>injection hk with hk;subst hk;decide
    |1,hk=>injection hk with hk;subst hk;decide
    |_+2,hk=>cases hk
   ·match k,hy,hz with
    |0,hy,hz=>injection hy with hy;injection hz with hz;subst hy hz;show reachB _ _ _ _=true;kernel_rfl
    |1,_,hz=>cases hz
    |_+2,hy,_=>cases hy
   ·refine aA0 ?_ (aA0 ?_ (aA0 ?_ (aA0 ?_ (aA0 ?_ (aA0 ?_ (aA0 ?_ (aA0 ?_ (aA0 ?_ (aA0 ?_ (aA0 ?_ (aA2)))))))))))
    ·intro a s v W hs hd hp h1 h2 h3 K hK;obtain rfl:=hp.vals;have k8:a.tmps.getD 8 undef=.pointer (some ⟨w.heap.size,0,none⟩):=hd.kept 8 (by kernel_rfl);have hno:∀k:Nat,([6,10]:List Nat)[k]?≠some 0:=fun k hk=>by
      match k,hk with
      |0,hk=>cases hk
      |1,hk=>cases hk
      |_+2,hk=>cases hk
     have hk:=hK s _ W (fun _=>rfl) (fun k hk=>absurd hk (hno k)) (fun k hk=>absurd rfl hk) hp;clear hK hp;unfold Oper.wp;go_simp;exact hk
    ·intro a s v W hs hd hp h1 h2 h3 K hK;obtain rfl:=hp.vals;have k8:a.tmps.getD 8 undef=.pointer (some ⟨w.heap.size,0,none⟩):=hd.kept 8 (by kernel_rfl);have hno:∀k:Nat,([6,10]:List Nat)[k]?≠some 1:=fun k hk=>by
      match k,hk with
      |0,hk=>cases hk
      |1,hk=>cases hk
      |_+2,hk=>cases hk
     have hk:=hK s _ W (fun _=>rfl) (fun k hk=>absurd hk (hno k)) (fun k hk=>absurd rfl hk) hp;clear hK hp;unfold Oper.wp;go_simp;exact hk
    ·intro a s v W hs hd hp h1 h2 h3 K hK;obtain rfl:=hp.vals;have h43:a.tmps.getD 43 undef=.pointer (some ⟨w.heap.size,0,none⟩):=hd.done_ 1 _ 43 (by kernel_rfl) rfl rfl;have hno:∀k:Nat,([6,10]:List Nat)[k]?≠some 2:=fun k hk=>by
      match k,hk with
      |0,hk=>cases hk
      |1,hk=>cases hk
      |_+2,hk=>cases hk
     have hk:=hK s _ W (fun _=>rfl) (fun k hk=>absurd hk (hno k)) (fun k hk=>absurd rfl hk) hp;clear hK hp;unfold Oper.wp;go_simp;exact hk
    ·intro a s v W hs hd hp h1 h2 h3 K hK;obtain rfl:=hp.vals;have h44:a.tmps.getD 44 undef=.pointer (some ⟨w.heap.size,0,none⟩):=hd.done_ 2 _ 44 (by kernel_rfl) rfl rfl;have hno:∀k:Nat,([6,10]:List Nat)[k]?≠some 3:=fun k hk=>by
      match k,hk with
      |0,hk=>cases hk
      |1,hk=>cases hk
      |_+2,hk=>cases hk
     have hk:=hK s _ W (fun _=>rfl) (fun k hk=>absurd hk (hno k)) (fun k hk=>absurd rfl hk) hp;clear hK hp;unfold Oper.wp;go_simp;exact hk
    ·intro a s v W hs hd hp h1 h2 h3 K hK;obtain rfl:=hp.vals;have h45:a.tmps.getD 45 undef=.pointer (some ⟨w.heap.size,6,none⟩):=hd.done_ 3 _ 45 (by kernel_rfl) rfl rfl;have hno:∀k:Nat,([6,10]:List Nat)[k]?≠some 4:=fun k hk=>by
      match k,hk with
      |0,hk=>cases hk
      |1,hk=>cases hk
      |_+2,hk=>cases hk
     have hk:=hK s _ W (fun _=>rfl) (fun k hk=>absurd hk (hno k)) (fun k hk=>absurd rfl hk) hp;have hs1:s≤1:=h2 1 10 rfl (by kernel_rfl);have c6:=(HC6.out W (hp.below hs1)).1;clear hK hp;unfold Oper.wp;go_simp;exact hk
    ·intro a s v W hs hd hp h1 h2 h3 K hK;obtain rfl:=hp.vals;have k11:a.tmps.getD 11 undef=.slice (some ⟨h,0,none⟩) 512 512:=hd.kept 11 (by kernel_rfl);have hno:∀k:Nat,([6,10]:List Nat)[k]?≠some 5:=fun k hk=>by
      match k,hk with
      |0,hk=>cases hk
      |1,hk=>cases hk
      |_+2,hk=>cases hk
     have hk:=hK s _ W (fun _=>rfl) (fun k hk=>absurd hk (hno k)) (fun k hk=>absurd rfl hk) hp;clear hK hp;unfold Oper.wp;go_simp;exact hk
    ·intro a s v W hs hd hp h1 h2 h3 K hK;obtain rfl:=hp.vals;have h47:a.tmps.getD 47 undef=.slice (some ⟨h,0,none⟩) 512 512:=hd.done_ 5 _ 47 (by kernel_rfl) rfl rfl;obtain rfl:=h1 0 rfl;have hb:=hp.below (by decide);have cw:=HEND.out W hb;unfold Oper.wp;go_simp;refine cw.mono ?_;rintro e' W' ⟨rfl,hb'⟩;exact hK 1 _ W' (fun h=>absurd rfl (h 0)) (fun k hk=>by have:=h1 k hk;omega) (fun k hk=>absurd rfl hk) ⟨rfl,by rw [if_pos (by decide)];exact hb.trans (hb'.mono hb.size)⟩
    ·intro a s v W hs hd hp h1 h2 h3 K hK;obtain rfl:=hp.vals;have h46:a.tmps.getD 46 undef=.int .u64 (t:Int):=hd.done_ 4 _ 46 (by kernel_rfl) rfl rfl;have h48:a.tmps.getD 48 undef=.int .u64 (e:Int):=hd.done_ 6 _ 48 (by kernel_rfl) rfl rfl;have hno:∀k:Nat,([6,10]:List Nat)[k]?≠some 7:=fun k hk=>by
      match k,hk with
      |0,hk=>cases hk
      |1,hk=>cases hk
      |_+2,hk=>cases hk
     have hk:=hK s _ W (fun _=>rfl) (fun k hk=>absurd hk (hno k)) (fun k hk=>absurd rfl hk) hp;have g1:((max t e:Nat):Int)=max (t:Int) (e:Int):=by omega
     have hk:K (a.put _ (.int .u64 ((max t e:Nat):Int))) W:=hk;rw [g1] at hk;clear g1;clear hK hp;unfold Oper.wp;go_simp;exact hk
    ·intro a s v W hs hd hp h1 h2 h3 K hK;obtain rfl:=hp.vals;have h42:a.tmps.getD 42 undef=.pointer (some ⟨w.heap.size,0,none⟩):=hd.done_ 0 _ 42 (by kernel_rfl) rfl rfl;have hno:∀k:Nat,([6,10]:List Nat)[k]?≠some 8:=fun k hk=>by
      match k,hk with
      |0,hk=>cases hk
      |1,hk=>cases hk
      |_+2,hk=>cases hk
     have hk:=hK s _ W (fun _=>rfl) (fun k hk=>absurd hk (hno k)) (fun k hk=>absurd rfl hk) hp;clear hK hp;unfold Oper.wp;go_simp;exact hk
    ·intro a s v W hs hd hp h1 h2 h3 K hK;obtain rfl:=hp.vals;have h50:a.tmps.getD 50 undef=.pointer (some ⟨w.heap.size,0,none⟩):=hd.done_ 8 _ 50 (by kernel_rfl) rfl rfl;have hno:∀k:Nat,([6,10]:List Nat)[k]?≠some 9:=fun k hk=>by
      match k,hk with
      |0,hk=>cases hk
      |1,hk=>cases hk
      |_+2,hk=>cases hk
     have hk:=hK s _ W (fun _=>rfl) (fun k hk=>absurd hk (hno k)) (fun k hk=>absurd rfl hk) hp;clear hK hp;unfold Oper.wp;go_simp;exact hk
    ·intro a s v W hs hd hp h1 h2 h3 K hK;obtain rfl:=hp.vals;have h51:a.tmps.getD 51 undef=.pointer (some ⟨w.heap.size,6,none⟩):=hd.done_ 9 _ 51 (by kernel_rfl) rfl rfl;have h49:a.tmps.getD 49 undef=.int .u64 ((max t e:Nat):Int):=hd.done_ 7 _ 49 (by kernel_rfl) rfl rfl;obtain rfl:=h1 1 rfl;have hb:=hp.below (by decide);obtain ⟨c6,f6⟩:=HC6.out W hb;have hk:=hK 2 _ _ (fun h=>absurd rfl (h 1)) (fun k hk=>by have:=h1 k hk;omega) (fun k hk=>absurd rfl hk) ⟨rfl,by rw [if_neg (by decide)];exact ⟨W,hb,rfl⟩⟩;clear hK hp;generalize ((max t e:Nat):Int)=z at*;unfold Oper.wp;go_simp;exact hk
   ·intro v w3 hp3;obtain rfl:=hp3.vals;have hq:=hp3.2;rw [if_neg (by decide)] at hq;obtain ⟨W1,hbW,rfl⟩:=hq;have HLG3:Hid (LgAt (W1.setCell ⟨w.heap.size,6,none⟩ (.int .u64 ((max t e:Nat):Int))) (·=w.heap.size) w.heap.size gd (f:Int) n (LK.zero (max t e))):=(HLW.out.below hbW).topTo (max t e);have hq3:=HQ.out W1 hbW;have HPG3:Hid (Rd (W1.setCell ⟨w.heap.size,6,none⟩ (.int .u64 ((max t e:Nat):Int))) (some ⟨h,0,none⟩) 512 p):=aUx HPG.out hq3 fun b hb=>by subst hb;exact HLW.out.nobyte
    have hlt3:w.heap.size<w1.heap.size:=by rw [HSZ.out];omega
    have HOW3:Hid ((W1.setCell ⟨w.heap.size,6,none⟩ (.int .u64 ((max t e:Nat):Int))).ownsRow w1.heap.size 248 4 u9 k (lvsC (((part (now d) f m).take k).map leafF) xs)):=ownsRow_setCell_below (HOW.out.kept (aA7 hbW none) (Classical.em _)) (a:=⟨w.heap.size,6,none⟩) hlt3 _;have HFR3:Hid (Fresh w1.heap.size (W1.setCell ⟨w.heap.size,6,none⟩ (.int .u64 ((max t e:Nat):Int))) xs ((((part (now d) f m).take k).map leafF).map (·.2.2.2))):=(HFW.out.below hbW).set hlt3;have HOUT3:Hid (Out (·=w.heap.size) w1 (W1.setCell ⟨w.heap.size,6,none⟩ (.int .u64 ((max t e:Nat):Int)))):=HOUTW.out.trans hq3 (fun k hk=>.inl hk);clear hp3 hbW hq3;generalize W1.setCell ⟨w.heap.size,6,none⟩ (.int .u64 ((max t e:Nat):Int))=w3 at*;unfold vO;dsimp only
    go_wp2_with fail;refine (aSa _ 512 p w3 HPG3.out).mono ?_;rintro e4 w4 ⟨x4,rfl,⟨A4,n4,c4,rfl,how4⟩,hb4⟩;have HLG4:=Lib.hid (HLG3.out.below hb4);have HOW4:=Lib.hid (HOW3.out.kept (aA7 hb4 none) (Classical.em _));have HFR4:=Lib.hid (HFR3.out.below hb4);have HOUT4:Hid (Out (·=w.heap.size) w1 w4):=HOUT3.out.trans (Out.of_below hb4) (fun k hk=>.inl hk);have HB43:Hid (w1.heap.size≤w3.heap.size):=HOUT3.out.size;have HT4:=Lib.hid (aAh how4 HB43.out);clear how4 hb4 HLG3 HOW3 HFR3;have HNX:Hid (((part (now d) f m).take (k+1)).map leafF=((part (now d) f m).take k).map leafF++[leafF p]):=by rw [HTK1.out,List.map_append];rfl
    have HLX:Hid ((((part (now d) f m).take k).map leafF).length=xs.length):=by have:=HFR4.out.len;rw [List.length_map] at this;exact this.symm
    generalize leafF p=lf at*;have hba:Below w4.heap.size w4 (w4.alloc (.cells #[.int .u64 (lf.1:Int),.int .u16 (lf.2.1:Int),.int .u16 (lf.2.2.1:Int),.slice A4 n4 c4] 248)):=(Below.refl _ _).alloc (Nat.le_refl _) _;have HBA:=Lib.hid hba;have HOWA:=Lib.hid (HOW4.out.alloc (.cells #[.int .u64 (lf.1:Int),.int .u16 (lf.2.1:Int),.int .u16 (lf.2.2.1:Int),.slice A4 n4 c4] 248));have HNW:Hid (∀(j:Nat) (u:Value),(lvC lf (.slice A4 n4 c4))[j]? =some u→(w4.alloc (.cells #[.int .u64 (lf.1:Int),.int .u16 (lf.2.1:Int),.int .u16 (lf.2.2.1:Int),.slice A4 n4 c4] 248)).cell? ((⟨w4.heap.size,0,none⟩:Addr).add j)=some u):=by
     obtain ⟨ad,e,hc⟩:=(aD8 w4 248 (lvC lf (.slice A4 n4 c4))).cells (Nat.zero_lt_succ 3);injection e with e;subst e;exact hc
    have HKI:=Lib.hid (fun r hr=>Lib.ownsRow_kind HOWA.out r hr);have HB4S:Hid (w1.heap.size≤(w4.alloc (.cells #[.int .u64 (lf.1:Int),.int .u16 (lf.2.1:Int),.int .u16 (lf.2.2.1:Int),.slice A4 n4 c4] 248)).heap.size):=Nat.le_trans HOUT4.out.size hba.size;clear hba;go_wp2_with (at_builtin;refine wpList_append_own _ rfl (.tmp 52) (.tmp 55) _ rfl w1.heap.size 248 i0 _ 4 40 aV9 HI.out HZ0.out HZ1.out HZ2.out rfl (by decide) _ k _ rfl HOWA.out ⟨w4.heap.size,0,none⟩ 1 1 (lvC lf (.slice A4 n4 c4)) rfl rfl HNW.out (by simp [lvC,Value.oneCell']) (by unfold maxLen;omega) (by omega) HB4S.out ?_)
    intro v' w5 hown5 hgr5 _;have HO5:Hid (w5.ownsRow w1.heap.size 248 4 v' (k+1) (lvsC (((part (now d) f m).take (k+1)).map leafF) (xs++[.slice A4 n4 c4]))):=by
     show World.ownsRow _ _ _ _ _ _ _;rw [HNX.out,aOm _ _ _ _ HLX.out,List.map_take];exact hown5
    have HF5:Hid (Fresh w1.heap.size w5 (xs++[.slice A4 n4 c4]) ((((part (now d) f m).take (k+1)).map leafF).map (·.2.2.2))):=by
     rw [HNX.out,List.map_append];exact ((HFR4.out.below HBA.out).snoc (HT4.out.alloc _)).grown hgr5 (by decide) HKI.out
    have hne5:some w.heap.size≠u9.ownBlock:=fun e5=>by
     have:=(HOWA.out.lt w.heap.size e5.symm).1;omega
    have HL5:Hid (LgAt w5 (·=w.heap.size) w.heap.size gd (f:Int) n (LK.zero (newest ((part (now d) f m).take (k+1))))):=by
     rw [HNEW.out];exact (HLG4.out.below HBA.out).kept (fun k hk=>by
      subst hk;exact hgr5.block _ (Nat.lt_of_lt_of_le hlt3 HB4S.out) hne5) hgr5.size
    have HX5:Hid (Out (·=w.heap.size) w1 w5):=(HOUT4.out.trans (Out.of_below HBA.out) (fun k hk=>.inl hk)).trans (X':=fun b=>u9.ownBlock=some b) ⟨hgr5.os,hgr5.tape,hgr5.output,hgr5.size,fun k hk hX=>hgr5.block k hk (fun e=>hX e.symm)⟩ (fun b hb=>.inr (HOWA.out.lt b hb).1);clear hown5 hgr5;go_wp2_with fail;exact ⟨⟨k+1,xs++[.slice A4 n4 c4],by omega,rfl,HO5.out,HF5.out,HL5.out,HX5.out⟩,by simp [intOf];omega⟩
  ·by_cases hkn:k<n
   ·obtain rfl:k=m:=by omega
    have HB5:=HBAD.out hkn;have HRN:=Lib.hid (bB1 (HD1.out wr HOUT.out) ((f+k:Nat):Int) (by rw [HB5];decide));rw [HB5] at HRN;have e1:((f+k:Nat):Int)=(f:Int)+(k:Int):=by omega
    rw [e1] at HRN;have w0:wrap64 ((f:Int)+(k:Int))=(f:Int)+(k:Int):=IntWalk.wrap64_in _ (by have:=HIN.out;omega);have HBW:Hid (Below w.heap.size w wr):=HOUT.out.below HB1.out (fun b hb=>by rw [hb];exact Nat.le_refl _) HB1.out.size;have hne:¬(k=n):=by omega
    clear HB5 e1;go_wp2_with fail;refine HRN.out.mono ?_;rintro e _ ⟨rfl,rfl⟩;go_wp2_with fail
    go_ret2
    exact ⟨fun _=>⟨rfl,HBW.out⟩,fun h=>absurd h hne⟩
   ·obtain rfl:m=n:=by omega
    have hnn:¬(m<m):=Nat.lt_irrefl m;obtain rfl:k=m:=by omega
    have htk:(part (now d) f k).take k=part (now d) f k:=List.take_of_length_le (by rw [HLEN.out];omega);rw [htk] at HO HFR HLG;have HBW:Hid (Below w.heap.size w wr):=HOUT.out.below HB1.out (fun b hb=>by rw [hb];exact Nat.le_refl _) HB1.out.size;obtain ⟨-,-,-,-,-,c6,-,-⟩:=HLG.out.cell5
    replace c6:wr.cell? ⟨w.heap.size,6,none⟩=some (.int .u64 (newest (part (now d) f k):Int)):=c6
    have hnl:=aN5 HOKP.out;have HNLT:=Lib.hid hnl;clear htk hnl;by_cases hq:newest (part (now d) f k)=18446744073709551615
    ·have HP:Hid (aFp gd d f k w (.returned (.tuple #[.pointer none,.int .i64 2])) wr):=⟨HBW.out,by rw [if_pos hq]⟩;rw [hq] at c6;go_wp2_with fail
     go_ret2
     exact HP.out
    ·obtain ⟨G,cap,hv,hG1,hG2⟩:=HO.out.form (by omega);have hown:=HO.out;rw [hv] at hown;have hcap:k≤cap:=bB3 hown;have HLV:=Lib.hid (aSk hown HFR.out (by rw [List.length_map];exact HLEN.out));have hGne:G≠w.heap.size:=by have:=HSZ.out;omega
     have HTA:=Lib.hid (aYu HLG.out HLV.out hGne h2 h3 hcap);have HNQ:Hid (¬newest (part (now d) f k)=18446744073709551615):=hq;have q1:¬((newest (part (now d) f k):Int)=18446744073709551615):=by omega
     have HFIN:Hid (∀w7 Y,LgAt w7 Y w.heap.size gd (f:Int) k ⟨(Recs (part (now d) f k)).1,(Recs (part (now d) f k)).2.1,(Recs (part (now d) f k)).2.2,newest (part (now d) f k),false⟩→Out (·=w.heap.size) wr w7→(∀j,Y j→j=w.heap.size∨wr.heap.size≤j)→aFp gd d f k w (.returned (.tuple #[.pointer (some ⟨w.heap.size,0,none⟩),.int .i64 0])) w7):=fun w7 Y h1 h2 h3=>
      ⟨h2.below HBW.out (fun b hb=>by rw [hb];exact Nat.le_refl _) HBW.out.size,by
       rw [if_neg hq];exact ⟨_,Y,rfl,h1,fun j hj=>(h3 j hj).elim (fun e=>by rw [e];exact Nat.le_refl _) (fun e=>Nat.le_trans HBW.out.size e)⟩⟩
     subst hv;clear hown hcap hG1 hG2 hGne hq;generalize newest (part (now d) f k)=t at*;go_wp2_with fail;refine HTA.out.mono ?_;rintro e w7 ⟨rfl,Y,hlg7,ho7,hY7⟩;have HP:=Lib.hid (HFIN.out w7 Y hlg7 ho7 hY7);clear hlg7 ho7 hY7;go_wp2_with fail
     go_ret2
     exact HP.out
theorem aXb {w:World} {X:Nat→Prop} {gd:Nat} {d:DK} (hd:DkAt w X gd d) (hn:d.dead=false) (f n:Nat) (h2:2≤n) (h3:n≤5000) (hin:f+n≤d.pages.length) (hrow:d.row.length≤1000000):
  Calls Tryz.prog 155 #[.pointer (some ⟨gd,0,none⟩),.int .i64 (f:Int),.int .i64 (n:Int)] w (aFp gd d f n w):=
 (aX6 hd hn f n h2 h3 n (Nat.le_refl _) hin (fun h=>absurd h (Nat.lt_irrefl _)) hrow).mono fun _ _ h=>h.2 rfl
end Go.Proofs.YtgjmbbkcgillcaaGreat.Log
namespace Go.Proofs.YtgjmbbkcgillcaaGreat.Log
open Go.RowKit Disk
structure Does (vs:List Value) (I:Nat→World→Prop) (Bad:Int→World→Prop):Prop where
 step:∀(j:Nat) (v:Value),vs[j]? =some v→∃F first caps,v=.func (.func F) first caps∧(∀W,(callFunc F (first++caps)).run Tryz.prog W=.ok (.enter F (first++caps)) W)∧
  ∀W,I j W→Calls Tryz.prog F (first++caps) W fun e w'=>∃z:Int,e=.returned (.int .i64 z)∧((z=0∧I (j+1) w')∨(z≠0∧Bad z w'))
def DoPost (n g:Nat) (I:Nat→World→Prop) (Bad:Int→World→Prop) (e:Ending) (w':World):Prop:=
 (e=.returned (.int .i64 0)∧I n w')∨∃z w1,z≠0∧e=.returned (.int .i64 z)∧Bad z w1∧w'=w1.setCell ⟨g,7,none⟩ (.bool true)
def RelDo (n:Nat) (I:Nat→World→Prop) (i:Value) (wr:World):Prop:=∃k:Nat,k≤n∧i=.int .i64 (k:Int)∧I k wr
set_option maxRecDepth 100000 in
theorem bCv (w:World) (g:Nat) (stamp t:Nat) (A:Option Addr) (n c:Nat) (vs:List Value) (I:Nat→World→Prop) (Bad:Int→World→Prop) (hd:Does vs I Bad) (hI:I 0 w) (hrow:∀j W,I j W→RdV W A n vs) (htop:w.cell? ⟨g,6,none⟩=some (.int .u64 (t:Int))) (hst:t<stamp) (hn:n≤100000)
  (hbad:∀z W,Bad z W→(∃b,W.cell? ⟨g,7,none⟩=some b)∧W.frozen? ⟨g,7,none⟩=false):
  Calls Tryz.prog 186 #[.pointer (some ⟨g,0,none⟩),.int .u64 (stamp:Int),.slice A n c] w (DoPost n g I Bad):=by
 have q1:(stamp≤t)=False:=eq_false (by omega);have HD:=Lib.hid hd;have HI:=Lib.hid hI;have HR:=Lib.hid hrow;have HB:=Lib.hid hbad;clear hd hI hrow hbad;go_enter Tryz.func186,Tryz.ntmps186
 go_wp2_with fail;go_loopw [18] (fun i wr=>RelDo n I i wr) (fun i _=>n - (intOf i).toNat)
 case atStart=>exact ⟨0,by omega,rfl,HI.out⟩
 case round=>
  obtain ⟨k,hk,rfl,hi⟩:=hrel;by_cases hlt:k<n
  ·have hr:=HR.out k wr hi;obtain ⟨ad,rfl,hc⟩:=hr.cells (by omega);have hkl:k<vs.length:=by rw [hr.len];exact hlt
   have hv:vs[k]? =some vs[k]:=List.getElem?_eq_getElem hkl;have hcell:=hc k _ hv;obtain ⟨F,first,caps,he,hcf,hstep⟩:=HD.out.step k _ hv;rw [he] at hcell;have HS:=Lib.hid (hstep wr hi);have hcf2:=hcf wr;clear hr hc hv he hstep hi hcf;go_wp2_with fail;refine HS.out.mono ?_;rintro e w2 ⟨z,rfl,hz⟩;clear hcf2 hcell HS;rcases hz with ⟨rfl,hi⟩|⟨hz,hbd⟩
   ·have HII:=Lib.hid hi;clear hi;go_wp2_with fail;exact ⟨⟨k+1,by omega,rfl,HII.out⟩,by simp [intOf];omega⟩
   ·obtain ⟨⟨b7,c7⟩,f7⟩:=HB.out z w2 hbd;have HBB:=Lib.hid hbd;have HZ:=Lib.hid hz;clear hbd;go_wp2_with fail;go_ret;exact Or.inr ⟨z,w2,HZ.out,rfl,HBB.out,rfl⟩
  ·obtain rfl:k=n:=by omega
   have HII:=Lib.hid hi;clear hi;go_wp2_with fail;go_ret;exact Or.inl ⟨rfl,HII.out⟩
end Go.Proofs.YtgjmbbkcgillcaaGreat.Log
namespace Go.Proofs.YtgjmbbkcgillcaaGreat.Log
open Go.RowKit Disk
open PhaseG (aAm)
open Phase (aA0 aA2 reachB)
theorem aLd (x:Int) (h1:0≤x) (h2:x≤1000000000):IntKind.i64.wrap x=x:=by
 rw [IntKind.wrap_i64];omega
theorem aYp (f k:Nat) (h:f+k≤1000000):wrap64 ((f:Int)+(k:Int))=(f:Int)+(k:Int)∧IntKind.i64.wrap ((f:Int)+(k:Int))=(f:Int)+(k:Int)∧((f+k:Nat):Int)=(f:Int)+(k:Int):=⟨IntWalk.wrap64_in _ (by omega),aLd _ (by omega) (by omega),by omega⟩
def vW (g gd f k:Nat) (lf:Value) (z:Int) (A':Option Addr) (c':Nat):Nat→Value
 |0=>.pointer (some ⟨g,0,none⟩)
 |1=>.pointer (some ⟨g,0,none⟩)
 |2=>.pointer (some ⟨g,0,none⟩)
 |3=>.pointer (some ⟨gd,0,none⟩)
 |4=>.pointer (some ⟨g,0,none⟩)
 |5=>.pointer (some ⟨g,0,none⟩)
 |6=>.pointer (some ⟨g,1,none⟩)
 |7=>.int .i64 (f:Int)
 |8=>.int .i64 (k:Int)
 |9=>.int .i64 ((f+k:Nat):Int)
 |10=>lf
 |11=>.slice A' 512 c'
 |12=>.int .i64 z
 |13=>.int .i64 z
 |_=>undef
def PhW (w0:World) (X:Nat→Prop) (d':DK) (page:List UInt8) (g gd f k:Nat) (lf:Value) (z:Int) (s:Nat) (v:Nat→Value) (W:World):Prop:=
 ∃A' c',v=vW g gd f k lf z A' c'∧match s with
 |0=>Below w0.heap.size w0 W
 |1=>Below w0.heap.size w0 W∧Rd W A' 512 page∧∀a,A'=some a→w0.heap.size≤a.block
 |_=>∃X',DkAt W X' gd d'∧Out X w0 W∧∀k,X' k→X k∨w0.heap.size≤k
theorem PhW.vals {w0:World} {X:Nat→Prop} {d':DK} {page:List UInt8} {g gd f k:Nat} {lf:Value} {z:Int} {s:Nat} {v:Nat→Value} {W:World} (h:PhW w0 X d' page g gd f k lf z s v W):∃A' c',v=vW g gd f k lf z A' c':=by
 obtain ⟨A',c',h,_⟩:=h;exact ⟨A',c',h⟩
theorem PhW.below {w0:World} {X:Nat→Prop} {d':DK} {page:List UInt8} {g gd f k:Nat} {lf:Value} {z:Int} {s:Nat} {v:Nat→Value} {W:World} (h:PhW w0 X d' page g gd f k lf z s v W) (hs:s≤1):Below w0.heap.size w0 W:=by
 obtain ⟨A',c',_,h⟩:=h
 match s,hs,h with
 |0,_,h=>exact h
 |1,_,h=>exact h.1
def WrPost (X Y:Nat→Prop) (g gd f n:Nat) (z:Int) (d':DK) (L':LK) (w:World) (e:Ending) (w':World):Prop:=
 e=.returned (.int .i64 z)∧∃X' Y',DkAt w' X' gd d'∧LgAt w' Y' g gd (f:Int) n L'∧Out (fun k=>X k∨Y k) w w'∧(∀k,X' k→X k∨w.heap.size≤k)∧(∀k,Y' k→Y k∨w.heap.size≤k)∧∀k,X' k→¬Y' k
set_option maxRecDepth 100000 in
theorem aKz {w:World} {X Y:Nat→Prop} {g gd f n:Nat} {L:LK} {d:DK} (h:LgAt w Y g gd (f:Int) n L) (hd:DkAt w X gd d) (hxy:∀k,X k→¬Y k) (k:Nat) (hk:f+k≤1000000) (hrow:d.row.length≤1000000) (st p o m c:Nat) (A:Option Addr) (b:List UInt8) (hr:Rd w A m b) (hs:st<18446744073709551616) (hp:p<65536) (ho:o<65536) (hm:m≤480):
  Calls Tryz.prog 218 #[.pointer (some ⟨g,0,none⟩),.int .i64 (k:Int),.agg #[.int .u64 (st:Int),.int .u16 (p:Int),.int .u16 (o:Int),.slice A m c]] w (WrPost X Y g gd f n (d.write ((f+k:Nat):Int) (leafP st p o b)).1 (d.write ((f+k:Nat):Int) (leafP st p o b)).2 (if (d.write ((f+k:Nat):Int) (leafP st p o b)).1=0 then {L with top:=st} else L) w):=by
 have hpl:(leafP st p o b).length=512:=aCc (by rw [hr.len];exact hm);have hb0:Below w.heap.size w (w.alloc (.cells #[.int .u64 (st:Int),.int .u16 (p:Int),.int .u16 (o:Int),.slice A m c] 248)):=(Below.refl _ _).alloc (Nat.le_refl _) _;obtain ⟨w0,hw0⟩:∃w0,w0=w.alloc (.cells #[.int .u64 (st:Int),.int .u16 (p:Int),.int .u16 (o:Int),.slice A m c] 248):=⟨_,rfl⟩;have hlf:=LfAt.new w 248 st p o A m c;rw [←hw0] at hb0 hlf;have hsz:w0.heap.size=w.heap.size+1:=by rw [hw0];exact aBd _ _
 have HW0:=Lib.hid hw0;have HB0:=Lib.hid hb0;have HLG:=Lib.hid (h.below hb0);have HDK:=Lib.hid (hd.below hb0);have HXY:=Lib.hid hxy;have HLAY:Hid (∀W,Below w0.heap.size w0 W→Calls Tryz.prog 207 #[.agg #[.int .u64 (st:Int),.int .u16 (p:Int),.int .u16 (o:Int),.slice A m c]] W (Put W (leafP st p o b))):=fun W hW=>aQj st p o m c A b W hs hp ho ((hr.below hb0).below hW) hm;have HPL:=Lib.hid hpl;have HXW:Hid (∀k,X k→k<w.heap.size):=by
  intro k hk;obtain ⟨_,_,_,h⟩:=hd;exact h.lt k hk
 have HXL:Hid (∀k,X k→k<w0.heap.size):=by
  intro k hk;have:k<w.heap.size:=by obtain ⟨_,_,_,h⟩:=hd;exact h.lt k hk
  omega
 have HCELL:Hid (∀W,Below w0.heap.size w0 W→W.cell? ⟨g,0,none⟩=some (.pointer (some ⟨gd,0,none⟩))∧W.cell? ⟨g,1,none⟩=some (.int .i64 (f:Int))):=fun W hW=>by
  obtain ⟨a0,a1,-⟩:=(HLG.out.below hW).cell5;exact ⟨a0,a1⟩
 have HLF:Hid (∀W,Below w0.heap.size w0 W→LfAt W w.heap.size st p o A m c):=fun W hW=>hlf.keep (hW.block _ (by rw [hsz];omega));have HWR:Hid (∀W A' c',Below w0.heap.size w0 W→Rd W A' 512 (leafP st p o b)→(∀a,A'=some a→w0.heap.size≤a.block)→Calls Tryz.prog 241 #[.pointer (some ⟨gd,0,none⟩),.int .i64 ((f+k:Nat):Int),.slice A' 512 c'] W (Turns (.int .i64 (d.write ((f+k:Nat):Int) (leafP st p o b)).1) X gd (d.write ((f+k:Nat):Int) (leafP st p o b)).2 W)):=fun W A' c' hW hR hA=>
  aV7 (HDK.out.below hW) _ A' 512 c' _ hR (fun a ha hX=>by have:=hA a ha;have:=HXL.out _ hX;omega) (by omega) hrow
 have HSZ:=Lib.hid hsz;obtain ⟨w1,w3,w2⟩:=aYp f k hk;generalize (d.write ((f+k:Nat):Int) (leafP st p o b)).1=z at*;generalize (d.write ((f+k:Nat):Int) (leafP st p o b)).2=d' at*;generalize leafP st p o b=page at*;obtain ⟨L',hL'⟩:∃L':LK,L'=if z=0 then {L with top:=st} else L:=⟨_,rfl⟩
 have HLP:=Lib.hid hL';rw [←hL'];clear h hd hr hs hp ho hm hxy hpl hw0 hb0 hlf hsz hrow hL';go_enter Tryz.func218,Tryz.ntmps218
 go_wp2_with fail;rw [←HW0.out];refine aAm (vW g gd f k (.agg #[.int .u64 (st:Int),.int .u16 (p:Int),.int .u16 (o:Int),.slice A m c]) z none 0) [11,12] (PhW w0 X d' page g gd f k (.agg #[.int .u64 (st:Int),.int .u16 (p:Int),.int .u16 (o:Int),.slice A m c]) z) 40 (by kernel_rfl) (by kernel_rfl) (fun s v W hp=>?_) ⟨none,0,rfl,(Below.refl _ _).drew⟩ (fun k y hk=>?_) (fun k y z' hy hz=>?_) ?_ (fun v=>{tmps:=#[.pointer (some ⟨g,0,none⟩),.int .i64 (k:Int),.agg #[.int .u64 (st:Int),.int .u16 (p:Int),.int .u16 (o:Int),.slice A m c],undef,undef,.pointer (some ⟨w.heap.size,0,none⟩),.int .i64 0,v 13,v 0,v 1,v 2,v 3,v 4,v 5,v 6,v 7,v 8,v 9,v 10,v 11,v 12,undef,undef,undef,undef,undef,undef,undef,undef],defers:=[]}) (fun v=>by kernel_rfl) ?_
 ·obtain ⟨A',c',rfl⟩:=hp.vals
  kernel_rfl
 ·match k,hk with
  |0,hk=>injection hk with hk;subst hk;decide
  |1,hk=>injection hk with hk;subst hk;decide
  |_+2,hk=>cases hk
 ·match k,hy,hz with
  |0,hy,hz=>injection hy with hy;injection hz with hz;subst hy hz;show reachB _ _ _ _=true;kernel_rfl
  |1,_,hz=>cases hz
  |_+2,hy,_=>cases hy
 ·refine aA0 ?_ (aA0 ?_ (aA0 ?_ (aA0 ?_ (aA0 ?_ (aA0 ?_ (aA0 ?_ (aA0 ?_ (aA0 ?_ (aA0 ?_ (aA0 ?_ (aA0 ?_ (aA0 ?_ (aA0 ?_ (aA2))))))))))))))
  ·intro a s v W hs hd hp h1 h2 h3 K hK;have hp0:=hp;obtain ⟨A',c',rfl⟩:=hp.vals;have k0:a.tmps.getD 0 undef=.pointer (some ⟨g,0,none⟩):=hd.kept 0 (by kernel_rfl);have hno:∀k:Nat,([11,12]:List Nat)[k]?≠some 0:=fun k hk=>by
    match k,hk with
    |0,hk=>cases hk
    |1,hk=>cases hk
    |_+2,hk=>cases hk
   have hk:=hK s _ W (fun _=>rfl) (fun k hk=>absurd hk (hno k)) (fun k hk=>absurd rfl hk) hp;clear hK hp hp0;unfold Oper.wp;go_simp;exact hk
  ·intro a s v W hs hd hp h1 h2 h3 K hK;have hp0:=hp;obtain ⟨A',c',rfl⟩:=hp.vals;have h8:a.tmps.getD 8 undef=.pointer (some ⟨g,0,none⟩):=hd.done_ 0 _ 8 (by kernel_rfl) rfl rfl;have hno:∀k:Nat,([11,12]:List Nat)[k]?≠some 1:=fun k hk=>by
    match k,hk with
    |0,hk=>cases hk
    |1,hk=>cases hk
    |_+2,hk=>cases hk
   have hk:=hK s _ W (fun _=>rfl) (fun k hk=>absurd hk (hno k)) (fun k hk=>absurd rfl hk) hp;clear hK hp hp0;unfold Oper.wp;go_simp;exact hk
  ·intro a s v W hs hd hp h1 h2 h3 K hK;have hp0:=hp;obtain ⟨A',c',rfl⟩:=hp.vals;have h9:a.tmps.getD 9 undef=.pointer (some ⟨g,0,none⟩):=hd.done_ 1 _ 9 (by kernel_rfl) rfl rfl;have hno:∀k:Nat,([11,12]:List Nat)[k]?≠some 2:=fun k hk=>by
    match k,hk with
    |0,hk=>cases hk
    |1,hk=>cases hk
    |_+2,hk=>cases hk
   have hk:=hK s _ W (fun _=>rfl) (fun k hk=>absurd hk (hno k)) (fun k hk=>absurd rfl hk) hp;clear hK hp hp0;unfold Oper.wp;go_simp;exact hk
  ·intro a s v W hs hd hp h1 h2 h3 K hK;have hp0:=hp;obtain ⟨A',c',rfl⟩:=hp.vals;have h10:a.tmps.getD 10 undef=.pointer (some ⟨g,0,none⟩):=hd.done_ 2 _ 10 (by kernel_rfl) rfl rfl;have hno:∀k:Nat,([11,12]:List Nat)[k]?≠some 3:=fun k hk=>by
    match k,hk with
    |0,hk=>cases hk
    |1,hk=>cases hk
    |_+2,hk=>cases hk
   have hk:=hK s _ W (fun _=>rfl) (fun k hk=>absurd hk (hno k)) (fun k hk=>absurd rfl hk) hp;have a0:=(HCELL.out W (hp0.below (h2 1 12 rfl (by kernel_rfl)))).1;clear hK hp hp0;unfold Oper.wp;go_simp;exact hk
  ·intro a s v W hs hd hp h1 h2 h3 K hK;have hp0:=hp;obtain ⟨A',c',rfl⟩:=hp.vals;have k0:a.tmps.getD 0 undef=.pointer (some ⟨g,0,none⟩):=hd.kept 0 (by kernel_rfl);have hno:∀k:Nat,([11,12]:List Nat)[k]?≠some 4:=fun k hk=>by
    match k,hk with
    |0,hk=>cases hk
    |1,hk=>cases hk
    |_+2,hk=>cases hk
   have hk:=hK s _ W (fun _=>rfl) (fun k hk=>absurd hk (hno k)) (fun k hk=>absurd rfl hk) hp;clear hK hp hp0;unfold Oper.wp;go_simp;exact hk
  ·intro a s v W hs hd hp h1 h2 h3 K hK;have hp0:=hp;obtain ⟨A',c',rfl⟩:=hp.vals;have h12:a.tmps.getD 12 undef=.pointer (some ⟨g,0,none⟩):=hd.done_ 4 _ 12 (by kernel_rfl) rfl rfl;have hno:∀k:Nat,([11,12]:List Nat)[k]?≠some 5:=fun k hk=>by
    match k,hk with
    |0,hk=>cases hk
    |1,hk=>cases hk
    |_+2,hk=>cases hk
   have hk:=hK s _ W (fun _=>rfl) (fun k hk=>absurd hk (hno k)) (fun k hk=>absurd rfl hk) hp;clear hK hp hp0;unfold Oper.wp;go_simp;exact hk
  ·intro a s v W hs hd hp h1 h2 h3 K hK;have hp0:=hp;obtain ⟨A',c',rfl⟩:=hp.vals;have h13:a.tmps.getD 13 undef=.pointer (some ⟨g,0,none⟩):=hd.done_ 5 _ 13 (by kernel_rfl) rfl rfl;have hno:∀k:Nat,([11,12]:List Nat)[k]?≠some 6:=fun k hk=>by
    match k,hk with
    |0,hk=>cases hk
    |1,hk=>cases hk
    |_+2,hk=>cases hk
   have hk:=hK s _ W (fun _=>rfl) (fun k hk=>absurd hk (hno k)) (fun k hk=>absurd rfl hk) hp;clear hK hp hp0;unfold Oper.wp;go_simp;exact hk
  ·intro a s v W hs hd hp h1 h2 h3 K hK;have hp0:=hp;obtain ⟨A',c',rfl⟩:=hp.vals;have h14:a.tmps.getD 14 undef=.pointer (some ⟨g,1,none⟩):=hd.done_ 6 _ 14 (by kernel_rfl) rfl rfl;have hno:∀k:Nat,([11,12]:List Nat)[k]?≠some 7:=fun k hk=>by
    match k,hk with
    |0,hk=>cases hk
    |1,hk=>cases hk
    |_+2,hk=>cases hk
   have hk:=hK s _ W (fun _=>rfl) (fun k hk=>absurd hk (hno k)) (fun k hk=>absurd rfl hk) hp;have a1:=(HCELL.out W (hp0.below (h2 1 12 rfl (by kernel_rfl)))).2;clear hK hp hp0;unfold Oper.wp;go_simp;exact hk
  ·intro a s v W hs hd hp h1 h2 h3 K hK;have hp0:=hp;obtain ⟨A',c',rfl⟩:=hp.vals;have k1:a.tmps.getD 1 undef=.int .i64 (k:Int):=hd.kept 1 (by kernel_rfl);have hno:∀k:Nat,([11,12]:List Nat)[k]?≠some 8:=fun k hk=>by
    match k,hk with
    |0,hk=>cases hk
    |1,hk=>cases hk
    |_+2,hk=>cases hk
   have hk:=hK s _ W (fun _=>rfl) (fun k hk=>absurd hk (hno k)) (fun k hk=>absurd rfl hk) hp;clear hK hp hp0;unfold Oper.wp;go_simp;exact hk
  ·intro a s v W hs hd hp h1 h2 h3 K hK;have hp0:=hp;obtain ⟨A',c',rfl⟩:=hp.vals;have h15:a.tmps.getD 15 undef=.int .i64 (f:Int):=hd.done_ 7 _ 15 (by kernel_rfl) rfl rfl;have h16:a.tmps.getD 16 undef=.int .i64 (k:Int):=hd.done_ 8 _ 16 (by kernel_rfl) rfl rfl;have hno:∀k:Nat,([11,12]:List Nat)[k]?≠some 9:=fun k hk=>by
    match k,hk with
    |0,hk=>cases hk
    |1,hk=>cases hk
    |_+2,hk=>cases hk
   have hk:=hK s _ W (fun _=>rfl) (fun k hk=>absurd hk (hno k)) (fun k hk=>absurd rfl hk) hp;have hk:K (a.put _ (.int .i64 ((f+k:Nat):Int))) W:=hk;rw [w2] at hk;clear hK hp hp0;unfold Oper.wp;go_simp;exact hk
  ·intro a s v W hs hd hp h1 h2 h3 K hK;have hp0:=hp;obtain ⟨A',c',rfl⟩:=hp.vals;have k5:a.tmps.getD 5 undef=.pointer (some ⟨w.heap.size,0,none⟩):=hd.kept 5 (by kernel_rfl);have hno:∀k:Nat,([11,12]:List Nat)[k]?≠some 10:=fun k hk=>by
    match k,hk with
    |0,hk=>cases hk
    |1,hk=>cases hk
    |_+2,hk=>cases hk
   have hk:=hK s _ W (fun _=>rfl) (fun k hk=>absurd hk (hno k)) (fun k hk=>absurd rfl hk) hp;obtain ⟨l0,l1,l2,l3⟩:=HLF.out W (hp0.below (h2 1 12 rfl (by kernel_rfl)));clear hK hp hp0;unfold Oper.wp;go_simp;exact hk
  ·intro a s v W hs hd hp h1 h2 h3 K hK;have hp0:=hp;obtain ⟨A',c',rfl⟩:=hp.vals;have h18:a.tmps.getD 18 undef=.agg #[.int .u64 (st:Int),.int .u16 (p:Int),.int .u16 (o:Int),.slice A m c]:=hd.done_ 10 _ 18 (by kernel_rfl) rfl rfl;obtain rfl:=h1 0 rfl;obtain ⟨A2,c2,hv,hb⟩:=hp;have cw:=HLAY.out W hb;unfold Oper.wp;go_simp;refine cw.mono ?_;rintro e W' ⟨A3,n3,c3,rfl,hn3,hc3,hown3,hb3⟩;have hn5:n3=512:=hn3.trans HPL.out;subst hn5;have hvv:∀k',vW g gd f k (.agg #[.int .u64 (st:Int),.int .u16 (p:Int),.int .u16 (o:Int),.slice A m c]) z A3 c3 k'≠vW g gd f k (.agg #[.int .u64 (st:Int),.int .u16 (p:Int),.int .u16 (o:Int),.slice A m c]) z A' c' k'→k'=11:=fun k' hk'=>by
    refine Classical.byContradiction fun hn=>hk' ?_;unfold vW;split<;>first|rfl|exact absurd rfl hn
   exact hK 1 _ W' (fun h=>absurd rfl (h 0)) (fun k hk=>by have:=h1 k hk;omega) (fun k' hk'=>.inl (hvv k' hk')) ⟨A3,c3,rfl,hb.trans (hb3.mono hb.size),(Rd.of_own hown3).1,fun a ha=>Nat.le_trans hb.size (hown3.lt a.block (by rw [ha];rfl)).1⟩
  ·intro a s v W hs hd hp h1 h2 h3 K hK;have hp0:=hp;obtain ⟨A',c',rfl⟩:=hp.vals;have h11:a.tmps.getD 11 undef=.pointer (some ⟨gd,0,none⟩):=hd.done_ 3 _ 11 (by kernel_rfl) rfl rfl;have h17:a.tmps.getD 17 undef=.int .i64 ((f+k:Nat):Int):=hd.done_ 9 _ 17 (by kernel_rfl) rfl rfl;have h19:a.tmps.getD 19 undef=.slice A' 512 c':=hd.done_ 11 _ 19 (by kernel_rfl) rfl rfl;obtain rfl:=h1 1 rfl;obtain ⟨A2,c2,hv,hb,hR,hA⟩:=hp;have hv11:=congrFun hv 11;injection hv11 with e1 _ e3;subst e1 e3;have cw:=HWR.out W A' c' hb hR hA;rw [w2] at cw h17;unfold Oper.wp;go_simp;refine cw.mono ?_;rintro e W' ⟨rfl,X',hd',ho',hx'⟩;exact hK 2 _ W' (fun h=>absurd rfl (h 1)) (fun k hk=>by have:=h1 k hk;omega) (fun k hk=>absurd rfl hk) ⟨A',c',rfl,X',hd',(Out.of_below hb).trans ho' (fun j hj=>.inl hj),fun j hj=>(hx' j hj).elim .inl (fun h=>.inr (Nat.le_trans hb.size h))⟩
  ·intro a s v W hs hd hp h1 h2 h3 K hK;have hp0:=hp;obtain ⟨A',c',rfl⟩:=hp.vals;have h20:a.tmps.getD 20 undef=.int .i64 z:=hd.done_ 12 _ 20 (by kernel_rfl) rfl rfl;have hno:∀k:Nat,([11,12]:List Nat)[k]?≠some 13:=fun k hk=>by
    match k,hk with
    |0,hk=>cases hk
    |1,hk=>cases hk
    |_+2,hk=>cases hk
   have hk:=hK s _ W (fun _=>rfl) (fun k hk=>absurd hk (hno k)) (fun k hk=>absurd rfl hk) hp;clear hK hp hp0;unfold Oper.wp;go_simp;exact hk
 ·intro v w3 hp3;obtain ⟨A',c',rfl,X',hd3,ho3,hx3⟩:=hp3;have HD3:=Lib.hid hd3;have hlt3:∀j,X' j→¬Y j:=fun j hj hy=>by
   rcases hx3 j hj with h|h
   ·exact HXY.out j h hy
   ·have:=HLG.out.lt j hy;omega
  have HDIS:=Lib.hid hlt3;have HL3:=Lib.hid (HLG.out.out ho3 fun j hy hx=>HXY.out j hx hy);have HLF3:Hid (LfAt w3 w.heap.size st p o A m c):=(HLF.out w0 (Below.refl _ _)).keep (ho3.block _ (by rw [HSZ.out];omega) fun hx=>by have:w.heap.size<w.heap.size:=HXW.out _ hx;omega);have HO3:Hid (Out (fun k=>X k∨Y k) w w3):=(Out.of_below HB0.out).trans ho3 (fun j hj=>.inl (.inl hj));have HX3:Hid (∀j,X' j→X j∨w.heap.size≤j):=fun j hj=>(hx3 j hj).elim .inl (fun h=>.inr (by rw [HSZ.out] at h;omega));clear hd3 ho3 hx3 hlt3;unfold vW;have hLP:=HLP.out;by_cases hz:z=0
  ·subst hz;rw [if_pos rfl] at hLP;subst hLP;obtain ⟨c0,-,-,-⟩:=HLF3.out;obtain ⟨-,-,-,-,-,c6,-,fr⟩:=HL3.out.cell5;have f6:=fr 6;clear fr;go_wp2_with fail;go_ret;have hol:Out (fun k=>X k∨Y k) w3 (w3.setCell ⟨g,6,none⟩ (.int .u64 (st:Int))):=(aDa (Y:=Y) HL3.out.yg).mono fun j hj=>.inl (.inr hj);exact ⟨rfl,X',Y,HD3.out.out (aDa (Y:=Y) HL3.out.yg) HDIS.out,HL3.out.topTo st,HO3.out.trans hol (fun j hj=>.inl hj),HX3.out,fun j hj=>.inl hj,HDIS.out⟩
  ·rw [if_neg hz] at hLP;subst hLP;go_wp2_with fail;go_ret;exact ⟨rfl,X',Y,HD3.out,HL3.out,HO3.out,HX3.out,fun j hj=>.inl hj,HDIS.out⟩
end Go.Proofs.YtgjmbbkcgillcaaGreat.Log
