/- Lemmas, part 11: DiskWrite, DiskSettle -/
import Derived.Test.YtgjmbbkcgillcaaGreatPart10
import Derived.Test.YtgjmbbkcgillcaaGreatPart3
import Derived.Great.BuildSlice
import Derived.Deep.AppendLies
set_option maxHeartbeats 16000000
namespace Go.Proofs.YtgjmbbkcgillcaaGreat.Disk
open Go.RowKit Phase Great
theorem aFd (w:World):(zeroValue 171).run Tryz.prog w=.ok (.agg (wrC (0,zeros)).toArray) w:=by
 have h:=aTt;cases hq:Tryz.prog.info? 171 with
 |none=>rw [hq] at h;cases h
 |some i=>
  have hzz:i.zero=some (.agg (wrC (0,zeros)).toArray):=by simpa [hq] using h
  simp [zeroValue,typeInfo,hq,hzz]
theorem aHt:¬(wrC (0,zeros)).toArray=#[]:=by simp [wrC]
theorem aK9 (k:Int):(wrC (0,zeros)).toArray.setIfInBounds 0 (.int .i64 k)=(.int .i64 k::zeros.map U).toArray:=by simp [wrC]
theorem aGz (w:World) (t:TypeId):∀(vs pre zs:List Value),zs.length=vs.length→(w.alloc (.cells (pre++zs).toArray t)).setCells w.heap.size pre.length vs=w.alloc (.cells (pre++vs).toArray t)
 |[],pre,zs,h=>by
  have:zs=[]:=List.eq_nil_of_length_eq_zero h;subst this;rfl
 |v::vs,pre,[],h=>by simp at h
 |v::vs,pre,z::zs,h=>by
  rw [World.setCells,World.setCell_alloc_at _ _ _ _ _ rfl];have e1:((pre++z::zs).toArray.setIfInBounds pre.length v)=((pre++[v])++zs).toArray:=by simp
  rw [e1];have h2:=aGz w t vs (pre++[v]) zs (by simpa using h);rw [List.length_append,List.length_cons,List.length_nil] at h2;rw [h2];simp
theorem aT6 {w:World} {A:Option Addr} {c:Nat} {b:List UInt8} (h:Rd w A 512 b) (k:Int) (ty:TypeId):
  (Builtin.copy_ #[37,37] ty #[.slice (some ⟨w.heap.size,1,none⟩) 512 512,.slice A 512 c]).run Tryz.prog (w.alloc (.cells (.int .i64 k::zeros.map U).toArray 171))=.ok (.int .i64 512) (w.alloc (.cells (.int .i64 k::b.map U).toArray 171)):=by
 obtain ⟨ad,rfl,hc⟩:=h.cells (by omega);have hl:=h.len;have hbk:=Bk.new w 171 (.int .i64 k::zeros.map U).toArray;have hz:=aB5;have:=run_copy_cells (P:=Tryz.prog) (w.alloc (.cells (.int .i64 k::zeros.map U).toArray 171)) 37 37 ty 5 w.heap.size 1 512 512 ad 512 c (b.map U) aAt (by kernel_rfl) (by rw [List.length_map,hl];rfl)
  (fun j v hj=>by
   rw [List.getElem?_map] at hj;cases hb:b[j]? with
   |none=>rw [hb] at hj;cases hj
   |some x=>
    rw [hb] at hj;injection hj with hj;subst hj;have hx:=hc j x hb;rw [World.cell?_alloc_lt _ _ _ (World.block_lt_of_cell? w _ hx)];exact hx)
  (fun j hj=>by
   rw [List.length_map,hl] at hj;rw [hbk.cell,List.getElem?_toArray,List.getElem?_eq_getElem (by rw [List.length_cons,List.length_map,hz];omega)];rfl)
  (fun j _=>hbk.frozen _) (aM9 b)
 rw [this,List.length_map,hl];have e:=aGz w 171 (b.map U) [.int .i64 k] (zeros.map U) (by rw [List.length_map,List.length_map,hl,hz]);rw [List.length_cons,List.length_nil] at e;have e2:[Value.int .i64 k]++zeros.map U=.int .i64 k::zeros.map U:=rfl;have e3:[Value.int .i64 k]++b.map U=.int .i64 k::b.map U:=rfl;rw [e2,e3] at e;rw [e];rfl
theorem Rd.out {X:Nat→Prop} {w w':World} {A:Option Addr} {n:Nat} {b:List UInt8} (h:Rd w A n b) (ho:Out X w w') (hx:∀a,A=some a→¬X a.block):Rd w' A n b:=
 ⟨h.len,fun hn=>by
  obtain ⟨ad,e,hc⟩:=h.cells hn;refine ⟨ad,e,fun j u hu=>?_⟩;have h1:=hc j u hu;rw [World.cell?_of_block (w:=w) (by exact ho.block _ (World.block_lt_of_cell? w _ h1) (by rw [aAa];exact hx ad e))];exact h1⟩
theorem aTg:(Tryz.prog.info? 171).map (fun i=>(i.zero,i.size,i.bytes))=some (some (.agg (wrC (0,zeros)).toArray),513,520):=by unfold wrC;dsimp only;rw [aM0];kernel_rfl
theorem aLg {P:Program} {t:TypeId} {z:Value} {a b:Nat} (h:(P.info? t).map (fun i=>(i.zero,i.size,i.bytes))=some (some z,a,b)):∃i,P.info? t=some i∧i.zero=some z∧i.size=a∧i.bytes=b:=by
 cases hi:P.info? t with
 |none=>rw [hi] at h;cases h
 |some i=>
  rw [hi] at h;simp at h;exact ⟨i,rfl,h⟩
theorem aOf:Tryz.prog.underlying 117=some (.slice 171):=by kernel_rfl
theorem aBd (w:World) (o:Obj):(w.alloc o).heap.size=w.heap.size+1:=by simp
open Phase in
theorem aAp {P:Program} {Q:Exit→Act→World→Prop} {l:List Oper} {v:Nat→Value} {a0:Act} {wr:List Nat} {Ws:Nat→World} {f i:Nat} {o:Oper} (hw:wr.contains i=false)
  (h:∀(a:Act) (s:Nat),s≤wr.length→DepL l v a0 o a→(∀k x:Nat,wr[k]? =some x→reachB l f x i=true→s≤k)→(∀k x:Nat,wr[k]? =some x→reachB l f i x=true→k<s)→∀K:Act→World→Prop,K (a.put o.dst (v i)) (Ws s)→o.wp P a (Ws s) K Q):StepAt P Q l v a0 wr Ws f i o:=by
 intro a s hs hd _ h2 h3 K hK;have hno:∀k:Nat,wr[k]?≠some i:=fun k hk=>by
  have:=List.mem_of_getElem? hk;rw [List.contains_iff_mem.2 this] at hw;cases hw
 exact h a s hs hd h2 h3 K (hK s (fun _=>rfl) (fun k hk=>absurd hk (hno k)))
theorem aJr {w w':World} {row:Option Nat} (h:w.grownBy w' row):Out (fun k=>row=some k) w w':=⟨h.os,h.tape,h.output,h.size,fun k hk hne=>h.block k hk (fun e=>hne e.symm)⟩
theorem At.append {w w' w4:World} {X:Nat→Prop} {g p:Nat} {A:Option Addr} {c:Nat} {d:DK} (h:At w X g p A c d) (hb:Below w.heap.size w w') (k:Nat) (b:List UInt8) (hk:k<d.pages.length) (hbl:b.length=512) {G cap n:Nat} (hn:n=d.row.length)
  (h4:w4.ownsRow 0 171 513 (.slice (some ⟨G,0,none⟩) (n+1) cap) (n+1) (rowV d.row++wrC (k,b))) (hg:w'.grownBy w4 (Value.slice A n c).ownBlock) (hl:(Value.slice A n c).ownBlock=some G∨G=w'.heap.size) (hlt:G<w4.heap.size):
  ∃X',At (w4.setCell ⟨g,1,none⟩ (.slice (some ⟨G,0,none⟩) (n+1) cap)) X' g p (some ⟨G,0,none⟩) cap {d with row:=d.row++[(k,b)]}∧Out X w (w4.setCell ⟨g,1,none⟩ (.slice (some ⟨G,0,none⟩) (n+1) cap))∧∀j,X' j→X j∨w.heap.size≤j:=by
 subst hn;have hob:∀j,(Value.slice A d.row.length c).ownBlock=some j→X j∧j≠g∧j≠p:=fun j hj=>by
  cases A with
  |none=>cases hj
  |some a=>
   have e:a.block=j:=by simpa [Value.ownBlock] using hj
   subst e;exact h.xr a rfl
 have hG:(X G∨w.heap.size≤G)∧G≠g∧G≠p:=by
  rcases hl with hl|hl
  ·exact ⟨.inl (hob G hl).1,(hob G hl).2⟩
  ·have:=hb.size;have h1:=h.lt g h.xg;have h2:=h.lt p h.xp;exact ⟨.inr (by omega),by omega,by omega⟩
 have o1:Out X w w':=Out.of_below hb;have o2:Out X w w4:=o1.trans (aJr hg) (fun j hj=>.inl (hob j hj).1);have o3:=Out.setCell (X:=(·=g)) w4 (p:=⟨g,1,none⟩) rfl (.slice (some ⟨G,0,none⟩) (d.row.length+1) cap);have hgw:=h.lt g h.xg;have hpw:=h.lt p h.xp;have hg4:w4.heap[g]? =w.heap[g]? :=((aJr hg).block g (Nat.lt_of_lt_of_le hgw hb.size) (fun e=>(hob g e).2.1 rfl)).trans (hb.block g hgw);have hp4:w4.heap[p]? =w.heap[p]? :=((aJr hg).block p (Nat.lt_of_lt_of_le hpw hb.size) (fun e=>(hob p e).2.2 rfl)).trans (hb.block p hpw);refine ⟨fun j=>(X j∨j=G)∧j<w4.heap.size,⟨?_,(h.pg.kept hp4).kept (o3.block p (Nat.lt_of_lt_of_le hpw o2.size) (fun e=>h.ne e.symm)),?_,⟨.inl h.xg,Nat.lt_of_lt_of_le hgw o2.size⟩,⟨.inl h.xp,Nat.lt_of_lt_of_le hpw o2.size⟩,?_,h.ne,?_,fun j hj=>Nat.lt_of_lt_of_le hj.2 o3.size⟩,o2.trans o3 (fun j hj=>.inl (hj ▸ h.xg)),?_⟩
 ·have:=(h.bk.kept hg4).set 1 (.slice (some ⟨G,0,none⟩) (d.row.length+1) cap);have e:(d.row++[(k,b)]).length=d.row.length+1:=by simp
  rw [e];exact this
 ·have e:(d.row++[(k,b)]).length=d.row.length+1:=by simp
  rw [e];dsimp only
  rw [aVv];refine ⟨h4.1,?_⟩;rcases h4.2 with ⟨h5,_⟩|⟨r,cp,cur,h5,h6,h7,h8⟩
  ·cases h5
  ·refine .inr ⟨r,cp,cur,h5,h6,?_,h8⟩;injection h5 with e1;injection e1 with e1;injection e1 with e1;subst e1;rw [o3.block G hlt hG.2.1];exact h7
 ·intro a ha;injection ha with ha;subst ha;exact ⟨⟨.inr rfl,hlt⟩,hG.2⟩
 ·refine h.ok.set rfl h.ok.pages ?_ h.ok.low h.ok.high;intro x hx;rcases List.mem_append.1 hx with hx|hx
  ·exact h.ok.row x hx
  ·obtain rfl:=List.mem_singleton.1 hx;exact ⟨hk,hbl⟩
 ·intro j hj;rcases hj.1 with hj|rfl
  ·exact .inl hj
  ·exact hG.1
set_option maxRecDepth 100000 in
theorem aV7 {w:World} {X:Nat→Prop} {g:Nat} {d:DK} (h:DkAt w X g d) (k:Int) (A:Option Addr) (n c:Nat) (b:List UInt8) (hr:Rd w A n b) (hx:∀a,A=some a→¬X a.block) (hnn:n≤1000000) (hn:d.row.length≤1000000):
  Calls Tryz.prog 241 #[.pointer (some ⟨g,0,none⟩),.int .i64 k,.slice A n c] w (Turns (.int .i64 (d.write k b).1) X g (d.write k b).2 w):=by
 have cf:=aFn h k;have hl:=hr.len;obtain ⟨RES,hres⟩:∃RES,RES=d.write k b:=⟨_,rfl⟩;rw [←hres];unfold DK.write at hres;by_cases h1:d.faultAt k≠0
 ·rw [if_pos h1] at hres;subst hres;generalize d.faultAt k=z at*;have H:=Lib.hid h;clear h hr;go_enter Tryz.func241,Tryz.ntmps241
  go_wp2_with fail;refine cf.mono ?_;rintro e w1 ⟨rfl,rfl⟩;go_wp2_with fail;go_ret;exact ⟨rfl,X,H.out,Out.refl X w,fun k hk=>.inl hk⟩
 ·rw [if_neg h1] at hres;have h1:d.faultAt k=0:=by simpa using h1
  rw [h1] at cf;by_cases h2:b.length≠512
  ·rw [if_pos h2] at hres;subst hres;have H:=Lib.hid h;have h2n:¬((n:Int)=512):=by omega
   clear h hr;go_enter Tryz.func241,Tryz.ntmps241
   go_wp2_with fail;refine cf.mono ?_;rintro e w1 ⟨rfl,rfl⟩;go_wp2_with fail;go_ret;exact ⟨rfl,X,H.out,Out.refl X w,fun k hk=>.inl hk⟩
  ·rw [if_neg h2] at hres;have h2:b.length=512:=by simpa using h2
   have hn2:n=512:=by omega
   subst hn2;have cb:=aR9 h;by_cases h3:d.burn.1≠0
   ·rw [if_pos h3] at hres;subst hres;generalize d.burn=z at*;obtain ⟨z1,z2⟩:=z;have h3:z1≠0:=h3;dsimp only at cb ⊢
    clear h hr;go_enter Tryz.func241,Tryz.ntmps241
    go_wp2_with fail;refine cf.mono ?_;rintro e w1 ⟨rfl,rfl⟩;go_wp2_with fail;refine cb.mono ?_;rintro e w1 ⟨rfl,X1,hd1,ho1,hx1⟩;have HD:=Lib.hid hd1;have HO:=Lib.hid ho1;have HX:=Lib.hid hx1;clear hd1 ho1 hx1 cb cf;go_wp2_with fail;go_ret;exact ⟨rfl,X1,HD.out,HO.out,HX.out⟩
   ·rw [if_neg h3] at hres;have h3:d.burn.1=0:=by simpa using h3
    rw [h3] at cb;have hrow:=aEt d;have hpgs:=aCv d;generalize d.burn.2=d2 at*;have HR:=Lib.hid hr;have HX0:=Lib.hid hx;have HPG:Hid (d2.pages.length=d.pages.length):=by show _=_;rw [hpgs]
    have HN:Hid (d2.row.length≤1000000):=by show _≤_;rw [hrow];exact hn
    have HRES:=Lib.hid hres;have HB:=Lib.hid h2;have hf:=aEi h1;have HK:Hid (0≤k∧k<d.pages.length):=hf.2;clear h hr hx hres hl hpgs hrow hn hf h1 h3 h2 hnn;go_enter Tryz.func241,Tryz.ntmps241
    go_wp2_with fail;refine cf.mono ?_;rintro e w1 ⟨rfl,rfl⟩;go_wp2_with fail;refine cb.mono ?_;rintro e w1 ⟨rfl,X1,⟨p,A1,c1,hd1⟩,ho1,hx1⟩;have HD:=Lib.hid hd1;have HO:=Lib.hid ho1;have HX:=Lib.hid hx1;have HR1:=Lib.hid (Rd.out HR.out HO.out HX0.out);clear hd1 ho1 hx1 cb cf;have hz0:=aFd;have hz1:=aHt;have hz2:=aK9 k;have HCP:=Lib.hid (aT6 (w:=w1) (c:=c) HR1.out k);have HZ0:Hid ((Tryz.prog.info? 171).map (·.size)=some (Value.int .i64 k::zeros.map U).toArray.size):=by show _=_;rw [aEk];simp [aB5]
    have HZ1:Hid ((wrC (0,zeros)).toArray.size=(Value.int .i64 k::zeros.map U).toArray.size):=by show _=_;simp [wrC]
    have HZ2:Hid ((Value.int .i64 k::zeros.map U).toArray.all (·.oneCell')=true):=all_oneCell_toArray fun v hv=>by
     rcases List.mem_cons.1 hv with rfl|hv
     ·rfl
     ·exact aM9 _ v hv
    have HNB:=Lib.hid (Bk.new w1 171 (Value.int .i64 k::b.map U).toArray);have HNBB:Hid (Below w1.heap.size w1 (w1.alloc (.cells (Value.int .i64 k::b.map U).toArray 171))):=(Below.refl _ _).alloc (Nat.le_refl _) _;generalize hZ:(wrC (0,zeros)).toArray=Z at*;generalize hZ2:(Value.int .i64 k::zeros.map U).toArray=Z2 at*;generalize hZ3:(Value.int .i64 k::b.map U).toArray=Z3 at*;have HE3:=Lib.hid hZ3;clear hZ hZ2 hZ3;go_wp2_with ((with_reducible refine aB8 ?_ 171 (.tmp 9) (.tmp 25) ?_ w1 Z Z2 171 ?_ ?_ ?_ HZ0.out HZ1.out HZ2.out ?_);(exact rfl);(exact rfl);(exact rfl);(exact rfl);(exact rfl))
    refine Lib.hid ?_;clear hz0 hz1 hz2;have hcp:=HCP.out;go_wp2_with fail;clear hcp HCP HZ0 HZ1 HZ2 HR1 HR;have HAR:=Lib.hid (HD.out.below HNBB.out);obtain ⟨kn,hkn⟩:∃kn:Nat,k=(kn:Int):=⟨k.toNat,by have:=HK.out.1;omega⟩;have hZ3:Z3=(wrC (kn,b)).toArray:=by rw [←HE3.out,hkn];rfl
    have HL3:Hid (Z3.size=513):=by show _=_;rw [hZ3];simp [wrC,HB.out]
    have hZl:Z3.toList=wrC (kn,b):=by rw [hZ3]
    have hoz:∀u∈Z3.toList,u.oneCell'=true:=by rw [hZl];exact aVj (kn,b)
    obtain ⟨i0,hi0,hi1,hi2,hi3⟩:=aLg aTg;have HWB:Hid (Below w1.heap.size w1 (w1.alloc (.cells Z3 171))):=HNBB.out;generalize hWr:w1.alloc (.cells Z3 171)=Wr at*;have hszr:Wr.heap.size=w1.heap.size+1:=by rw [←hWr];exact aBd _ _
    generalize hN:w1.heap.size=N at*;obtain ⟨V0,hV0⟩:∃V0:World,V0={Wr with drawn:=Wr.drawn+1}:=⟨_,rfl⟩;obtain ⟨V1,hV1⟩:∃V1:World,V1=V0.alloc (.cells Z3 171):=⟨_,rfl⟩;have hb0:Below w1.heap.size w1 V0:=by rw [hV0,hN];exact HWB.out.drew
    have hb1:Below w1.heap.size w1 V1:=by rw [hV1];exact hb0.alloc hb0.size _
    have hs0:V0.heap.size=N+1:=by rw [hV0];exact hszr
    have hs1:V1.heap.size=N+1+1:=by rw [hV1,aBd,hs0]
    have hnew:V1.heap[N+1]? =some (.cells Z3 171 (0,0)):=by rw [hV1,←hs0];exact heap_alloc_last _ _
    have hbN0:V0.heap[N]? =some (.cells Z3 171 (0,0)):=by rw [hV0];exact HNB.out
    have hA1:=HD.out.below hb1;obtain ⟨G,cap,V2,hrun,hown2,hgr2,hloc2,hlt2⟩:=run_append_lies (P:=Tryz.prog) V1 117 117 0 171 i0 (.agg (wrC (0,zeros)).toArray) 513 520 aOf hi0 hi1 hi2 hi3 (by simp [Value.cells,wrC,aB5]) (by decide)
     (.slice A1 d2.row.length c1) d2.row.length (rowV d2.row) hA1.own ⟨N+1,0,none⟩ 1 1 Z3.toList (by rw [Array.length_toList,HL3.out]) (World.news_of_block hnew) hoz (by decide) (by have:=HN.out;unfold maxLen;omega) (by have:=HN.out;omega) (Nat.zero_le _) (N+1+1) hs1
    have hpk:kn<d2.pages.length:=by
     have h1:=HK.out.2;have h2:=HPG.out;rw [h2];omega
    obtain ⟨X4,hA4,hO4,hX4⟩:=HD.out.append hb1 kn b hpk HB.out rfl (by rw [hZl] at hown2;exact hown2) hgr2 (by rw [hs1];exact hloc2) hlt2;have hg1:V2.heap[g]? =w1.heap[g]? :=by
     have hgn:(Value.slice A1 d2.row.length c1).ownBlock≠some g:=fun e=>by
      cases A1 with
      |none=>cases e
      |some a=>
       have e:a.block=g:=by simpa [Value.ownBlock] using e
       exact (HD.out.xr a rfl).2.1 e
     rw [hgr2.block g (Nat.lt_of_lt_of_le HD.out.bk.lt hb1.size) (fun e=>hgn e.symm)];exact hb1.block g HD.out.bk.lt
    have hN2:V2.heap[N]? =V1.heap[N]? :=by
     refine hgr2.block N (by omega) fun e=>?_;cases A1 with
     |none=>cases e
     |some a=>
      have e:a.block=N:=by simpa [Value.ownBlock] using e.symm
      have:=HD.out.lt _ (HD.out.xr a rfl).1;omega
    have hN1:V1.heap[N]? =V0.heap[N]? :=by rw [hV1];exact Below.heap_alloc _ _ _ (by omega)
    obtain ⟨V3,hV3⟩:∃V3:World,V3=V2.setCell ⟨g,1,none⟩ (.slice (some ⟨G,0,none⟩) (d2.row.length+1) cap):=⟨_,rfl⟩;rw [←hV3] at hA4 hO4;have hbk2:=HD.out.bk.kept hg1;have HFZ:Hid (V2.frozen? ⟨g,1,none⟩=false):=hbk2.frozen 1;obtain ⟨Ws,hWs⟩:∃Ws:Nat→World,Ws=fun s=>match s with|0=>V0|1=>V1|2=>V2|_=>V3:=⟨_,rfl⟩
    have E0:Hid (Ws 0=V0):=congrFun hWs 0;have E1:Hid (Ws 1=V0.alloc (.cells Z3 171)):=(congrFun hWs 1).trans hV1;have E2:Hid (Ws 2=V2):=congrFun hWs 2;have E11:Ws 1=V1:=congrFun hWs 1;have E3:Hid (Ws 3=V2.setCell ⟨g,1,none⟩ (.slice (some ⟨G,0,none⟩) (d2.row.length+1) cap)):=(congrFun hWs 3).trans hV3;have HV0:=Lib.hid hV0;have HV3:=Lib.hid hV3;have HRUN:Hid ((Builtin.append_ #[117,117] 117 #[.slice A1 d2.row.length c1,.slice (some ⟨N+1,0,none⟩) 1 1]).run Tryz.prog (Ws 1)=.ok (.slice (some ⟨G,0,none⟩) (d2.row.length+1) cap) (Ws 2)):=by show _=_;rw [E11,E2.out];exact hrun
    have HC1:Hid (∀s,s≤2→(Ws s).cell? ⟨g,1,none⟩=some (.slice A1 d2.row.length c1)):=by
     intro s hs
     match s,hs with
     |0,_=>rw [E0.out];exact (HD.out.bk.below hb0).cell 1
     |1,_=>rw [E11];exact (HD.out.bk.below hb1).cell 1
     |2,_=>rw [E2.out];exact hbk2.cell 1
    have HC2:Hid (∀s,s≤2→(Ws s).rangeAt N 0 Z3.toList):=by
     have hh:∀W:World,W.heap[N]? =some (.cells Z3 171 (0,0))→W.rangeAt N 0 Z3.toList:=fun W hW j v hv=>by
      rw [cell_of_row W N _ _ _ _ hW,Nat.zero_add];simpa using hv
     intro s hs
     match s,hs with
     |0,_=>rw [E0.out];exact hh V0 hbN0
     |1,_=>rw [E11];exact hh V1 (hN1.trans hbN0)
     |2,_=>rw [E2.out];exact hh V2 (hN2.trans (hN1.trans hbN0))
    have HS0:=Lib.hid hs0;have HI0:=Lib.hid hi0;have HI1:=Lib.hid hi1;have HI2:=Lib.hid hi2;have HFZ2:Hid ((Ws 2).frozen? ⟨g,1,none⟩=false):=by show _=_;rw [E2.out];exact HFZ.out
    have H4:=Lib.hid hA4;have H5:=Lib.hid hO4;have H6:=Lib.hid hX4;clear hA4 hO4 hX4 hgr2 hown2 hloc2 hlt2 hA1 hg1 hN2 hN1 hbk2 hnew hbN0 hWr hszr hb0 hb1 hs1 hoz hWs hV0 hV1 hV3 hrun E11 hi0 hi1 hi2 hi3 hs0 hZ3 hZl HFZ;refine aF9 (fun k=>([.pointer (some ⟨g,0,none⟩),.pointer (some ⟨g,0,none⟩),.pointer (some ⟨g,0,none⟩),.pointer (some ⟨g,1,none⟩),.slice A1 d2.row.length c1,.agg Z3,.slice (some ⟨N+1,0,none⟩) 1 1,.slice (some ⟨G,0,none⟩) (d2.row.length+1) cap,.pointer (some ⟨g,0,none⟩),.pointer (some ⟨g,1,none⟩),undef]:List Value).getD k undef) [6,7,10] Ws 12 (by kernel_rfl) (by kernel_rfl) (E0.out.trans HV0.out) (fun k x hk=>?_) (fun k x y hx hy=>?_) ?_ {tmps:=#[.pointer (some ⟨g,0,none⟩),.int .i64 k,.slice A 512 c,undef,undef,undef,.int .i64 0,.int .i64 0,.int .i64 0,.pointer (some ⟨N,0,none⟩),.pointer (some ⟨g,0,none⟩),.int .i64 k,.int .i64 0,.int .i64 0,.bool false,undef,.slice A 512 c,.int .i64 512,.bool false,.pointer (some ⟨g,0,none⟩),.int .i64 0,.int .i64 0,.bool false,undef,.int .i64 k,.agg Z2,.pointer (some ⟨N,1,none⟩),.slice (some ⟨N,1,none⟩) 512 512,.slice A 512 c,.int .i64 512,.pointer (some ⟨g,0,none⟩),.pointer (some ⟨g,0,none⟩),.pointer (some ⟨g,0,none⟩),.pointer (some ⟨g,1,none⟩),.slice A1 d2.row.length c1,.agg Z3,.slice (some ⟨N+1,0,none⟩) 1 1,.slice (some ⟨G,0,none⟩) (d2.row.length+1) cap,.pointer (some ⟨g,0,none⟩),.pointer (some ⟨g,1,none⟩)],defers:=[]} (by kernel_rfl) ?_
    ·match k,hk with
     |0,hk=>injection hk with hk;subst hk;decide
     |1,hk=>injection hk with hk;subst hk;decide
     |2,hk=>injection hk with hk;subst hk;decide
     |_+3,hk=>cases hk
    ·match k,hx,hy with
     |0,hx,hy=>injection hx with hx;injection hy with hy;subst hx hy;show reachB _ _ _ _=true;kernel_rfl
     |1,hx,hy=>injection hx with hx;injection hy with hy;subst hx hy;show reachB _ _ _ _=true;kernel_rfl
     |2,_,hy=>cases hy
     |_+3,hx,_=>cases hx
    ·refine aA0 ?_ (aA0 ?_ (aA0 ?_ (aA0 ?_ (aA0 ?_ (aA0 ?_ (aA0 ?_ (aA0 ?_ (aA0 ?_ (aA0 ?_ (aA0 ?_ (aA2)))))))))))
     ·refine aAp (by decide) fun a s hs hd h2 h3 K hK=>?_;have h0:a.tmps.getD 0 undef=.pointer (some ⟨g,0,none⟩):=hd.kept 0 (by kernel_rfl);unfold Oper.wp;go_simp;exact hK
     ·refine aAp (by decide) fun a s hs hd h2 h3 K hK=>?_;have h0:a.tmps.getD 0 undef=.pointer (some ⟨g,0,none⟩):=hd.kept 0 (by kernel_rfl);unfold Oper.wp;go_simp;exact hK
     ·refine aAp (by decide) fun a s hs hd h2 h3 K hK=>?_;have h31:a.tmps.getD 31 undef=.pointer (some ⟨g,0,none⟩):=hd.done_ 1 _ 31 (by kernel_rfl) rfl rfl;unfold Oper.wp;go_simp;exact hK
     ·refine aAp (by decide) fun a s hs hd h2 h3 K hK=>?_;have h32:a.tmps.getD 32 undef=.pointer (some ⟨g,0,none⟩):=hd.done_ 2 _ 32 (by kernel_rfl) rfl rfl;unfold Oper.wp;go_simp;exact hK
     ·refine aAp (by decide) fun a s hs hd h2 h3 K hK=>?_;have h33:a.tmps.getD 33 undef=.pointer (some ⟨g,1,none⟩):=hd.done_ 3 _ 33 (by kernel_rfl) rfl rfl;have hc:=HC1.out s (h2 2 10 rfl (by kernel_rfl));unfold Oper.wp;go_simp;exact hK
     ·refine aAp (by decide) fun a s hs hd h2 h3 K hK=>?_;have h9:a.tmps.getD 9 undef=.pointer (some ⟨N,0,none⟩):=hd.kept 9 (by kernel_rfl);exact wp_load_mid 171 (.tmp 9) rfl N 0 h9 Z3.toList _ (HC2.out s (h2 2 10 rfl (by kernel_rfl))) Tryz.underlying171 rfl (by rw [aEk,Array.length_toList,HL3.out]) (by rw [Array.toArray_toList];exact hK)
     ·intro a s hs hd h1 h2 h3 K hK;obtain rfl:=h1 0 rfl;have h35:a.tmps.getD 35 undef=.agg Z3:=hd.done_ 5 _ 35 (by kernel_rfl) rfl rfl;refine wp_buildSlice 117 171 1 #[(0,.tmp 35)] rfl Z3 i0 (.agg (wrC (0,zeros)).toArray) aOf HI0.out HI1.out (by rw [HI2.out];decide) (by rw [HI2.out];decide) ?_ ?_
      ·have:=fill_whole (s:=513) (by decide) [.agg Z3] ((Array.range 513).map ((Value.agg (wrC (0,zeros)).toArray).cells[· % (Value.agg (wrC (0,zeros)).toArray).cells.size]!)) (fun v hv=>by obtain rfl:=List.mem_singleton.1 hv;exact HL3.out) (by simp);rw [HI2.out];have e:Act.eval a (.tmp 35)=.agg Z3:=h35;simp only [List.map_toArray,List.map_cons,List.map_nil,e];rw [show 1*513=513 from rfl];refine this.trans ?_;simp [Value.cells]
      ·have hk:=hK 1 (fun h=>absurd rfl (h 0)) (fun k hk=>by rfl);rw [E1.out] at hk;rw [E0.out,HS0.out];exact hk
     ·intro a s hs hd h1 h2 h3 K hK;obtain rfl:=h1 1 rfl;have h34:a.tmps.getD 34 undef=.slice A1 d2.row.length c1:=hd.done_ 4 _ 34 (by kernel_rfl) rfl rfl;have h36:a.tmps.getD 36 undef=.slice (some ⟨N+1,0,none⟩) 1 1:=hd.done_ 6 _ 36 (by kernel_rfl) rfl rfl;have hk:=hK 2 (fun h=>absurd rfl (h 1)) (fun k hk=>by have:=h1 k hk;omega);have e1:Act.eval a (.tmp 34)=.slice A1 d2.row.length c1:=h34;have e2:Act.eval a (.tmp 36)=.slice (some ⟨N+1,0,none⟩) 1 1:=h36;unfold Oper.wp execOp;simp only [resolve,invoke,builtin,Sem.run_bind,Sem.run_pure,Result.andThen_ok,List.map_toArray,List.map_cons,List.map_nil,e1,e2];have hru:=HRUN.out;rw [hru];exact hk
     ·refine aAp (by decide) fun a s hs hd h2 h3 K hK=>?_;have h30:a.tmps.getD 30 undef=.pointer (some ⟨g,0,none⟩):=hd.done_ 0 _ 30 (by kernel_rfl) rfl rfl;unfold Oper.wp;go_simp;exact hK
     ·refine aAp (by decide) fun a s hs hd h2 h3 K hK=>?_;have h38:a.tmps.getD 38 undef=.pointer (some ⟨g,0,none⟩):=hd.done_ 8 _ 38 (by kernel_rfl) rfl rfl;unfold Oper.wp;go_simp;exact hK
     ·intro a s hs hd h1 h2 h3 K hK;obtain rfl:=h1 2 rfl;have h37:a.tmps.getD 37 undef=.slice (some ⟨G,0,none⟩) (d2.row.length+1) cap:=hd.done_ 7 _ 37 (by kernel_rfl) rfl rfl;have h39:a.tmps.getD 39 undef=.pointer (some ⟨g,1,none⟩):=hd.done_ 9 _ 39 (by kernel_rfl) rfl rfl;have hk:=hK 3 (fun h=>absurd rfl (h 2)) (fun k hk=>by have:=h1 k hk;omega);have hc:=HC1.out 2 (Nat.le_refl _);have hfz:=HFZ2.out;rw [E3.out] at hk;rw [E2.out] at hc hfz ⊢;unfold Oper.wp;go_simp;exact hk
    ·have hkt:k.toNat=kn:=by omega
     have hend:Ws [6,7,10].length=V3:=E3.out.trans HV3.out.symm;rw [hend];dsimp only
     go_wp2_with fail;go_ret;exact ⟨by rw [HRES.out];rfl,X4,⟨p,_,_,by rw [HRES.out,hkt];exact H4.out⟩,HO.out.trans H5.out HX.out,fun j hj=>(H6.out j hj).elim (fun h=>HX.out j h) (fun h=>.inr (Nat.le_trans HO.out.size (by omega)))⟩
end Go.Proofs.YtgjmbbkcgillcaaGreat.Disk
namespace Go.Proofs.YtgjmbbkcgillcaaGreat.Disk
open Go.RowKit Phase
theorem aVx {g:Nat} {t:TypeId}:∀(vs:List Value) (o:Nat) {w:World} {C:Array Value},Bk w g t C→∃C',Bk (w.setCells g o vs) g t C'∧C'.size=C.size
 |[],_,_,C,h=>⟨C,h,rfl⟩
 |v::r,o,w,C,h=>by
  obtain ⟨C',h1,h2⟩:=aVx r (o+1) (h.set o v);exact ⟨C',h1,by rw [h2];simp⟩
theorem Pg.splice {w:World} {p:Nat} {ps:List (List UInt8)} (h:Pg w p ps) (hok:OkP ps) {x:Nat×List UInt8} (hx:x.1<ps.length) (hb:x.2.length=512) {n:Nat} (hn:n≤512):
  Pg (w.setCells p (x.1*512) ((x.2.take n).map U)) p (lay1 ps x n):=by
 obtain ⟨C,hC,hs⟩:=h.block;obtain ⟨C',hC',hs'⟩:=aVx ((x.2.take n).map U) (x.1*512) hC;have hlen:((x.2.take n).map U).length=n:=by rw [List.length_map,List.length_take];omega
 refine ⟨⟨C',hC',by rw [hs',hs,aB7]⟩,fun k b hk j v hv=>?_⟩;have hkl:k<ps.length:=by
  have:=(List.getElem?_eq_some_iff.1 hk).1;rwa [aB7] at this
 unfold lay1 at hk;by_cases hkx:x.1=k
 ·subst hkx;rw [List.getElem?_set_self hkl] at hk;injection hk with hk;subst hk;rw [List.map_append] at hv;by_cases hj:j<n
  ·rw [List.getElem?_append_left (by omega)] at hv;have hj2:j<((x.2.take n).map U).length:=by omega
   rw [World.cell?_setCells_in p _ (x.1*512) w (fun i hi=>((h.there (o:=x.1*512) (n:=512) (by omega)) i (by omega)).1) j hj2];rw [List.getElem?_eq_getElem hj2] at hv;exact hv
  ·rw [List.getElem?_append_right (by omega),hlen,List.map_drop,List.getElem?_drop] at hv;rw [World.cell?_setCells_out p _ (x.1*512) w _ (fun _ _=>.inr (by show x.1*512+_≤x.1*512+j;omega))];have e:n+(j - n)=j:=by omega
   rw [e] at hv;exact h.cells x.1 _ (by rw [List.getD_eq_getElem?_getD,List.getElem?_eq_getElem hkl];rfl) j v hv
 ·rw [List.getElem?_set_ne hkx] at hk;have hbl:b.length=512:=hok b (List.mem_of_getElem? hk);have hj:j<512:=by
   have:=(List.getElem?_eq_some_iff.1 hv).1;rw [List.length_map] at this;omega
  rw [World.cell?_setCells_out p _ (x.1*512) w _ (fun _ _=>by
   show k*512+j<x.1*512∨x.1*512+_≤k*512+j;rw [hlen];rcases Nat.lt_or_gt_of_ne hkx with h1|h1
   ·right;omega
   ·left;omega)]
  exact h.cells k b hk j v hv
theorem At.splice {w:World} {X:Nat→Prop} {g p:Nat} {A:Option Addr} {c:Nat} {d:DK} (h:At w X g p A c d) {x:Nat×List UInt8} (hx:x.1<d.pages.length) (hb:x.2.length=512) {n:Nat} (hn:n≤512):
  At (w.setCells p (x.1*512) ((x.2.take n).map U)) X g p A c {d with pages:=lay1 d.pages x n}∧Out (·=p) w (w.setCells p (x.1*512) ((x.2.take n).map U)):=by
 have ho:Out (·=p) w (w.setCells p (x.1*512) ((x.2.take n).map U)):=Out.setCells (X:=(·=p)) rfl _ _ _;refine ⟨⟨?_,h.pg.splice h.ok.pages hx hb hn,?_,h.xg,h.xp,h.xr,h.ne,?_,fun k hk=>Nat.lt_of_lt_of_le (h.lt k hk) ho.size⟩,ho⟩
 ·show Bk _ g _ #[.slice (some ⟨p,0,none⟩) (lay1 d.pages x n).length (lay1 d.pages x n).length,_,_,_];rw [aB7];exact h.bk.kept (ho.block g h.bk.lt h.ne)
 ·refine ⟨h.own.1,?_⟩;rcases h.own.2 with h1|⟨r,cap,cur,h1,h2,h3,h4⟩
  ·exact .inl h1
  ·refine .inr ⟨r,cap,cur,h1,h2,?_,h4⟩;injection h1 with e1;rw [ho.block r (Array.getElem?_eq_some_iff.1 h3).1 (h.xr ⟨r,0,none⟩ e1).2.2];exact h3
 ·refine h.ok.set (aB7 _ _ _) (h.ok.pages.lay1 hx hb n hn) ?_ h.ok.low h.ok.high;exact h.ok.row
theorem aY3 (k:Nat→Nat) (r:List (Nat×List UInt8)) (x:Nat×List UInt8) (ps:List (List UInt8)):lay k 0 ps (r++[x])=lay1 (lay k 0 ps r) x (k r.length):=by
 rw [aGd];simp [lay]
theorem At.rowNone {w:World} {X:Nat→Prop} {g p:Nat} {A:Option Addr} {c:Nat} {d:DK} (h:At w X g p A c d):At (w.setCell ⟨g,1,none⟩ (.slice none 0 0)) X g p none 0 {d with row:=[]}:=by
 have ho:=Out.setCell (X:=(·=g)) w (p:=⟨g,1,none⟩) rfl (.slice none 0 0);refine ⟨h.bk.set 1 _,h.pg.kept (ho.block p h.pg.lt (fun e=>h.ne e.symm)),World.ownsRow_nil _ _ _ _,h.xg,h.xp,fun a ha=>(nomatch ha),h.ne,h.ok.set rfl h.ok.pages (fun x hx=>(nomatch hx)) h.ok.low h.ok.high,fun k hk=>Nat.lt_of_lt_of_le (h.lt k hk) ho.size⟩
def RelSet (X:Nat→Prop) (g p:Nat) (A:Option Addr) (c:Nat) (d:DK) (kf:Nat→Nat) (I:Nat→World→Prop) (Z:Nat→Prop) (w:World) (i:Value) (wr:World):Prop:=
 ∃m:Nat,m≤d.row.length∧i=.int .i64 (m:Int)∧At wr X g p A c {d with pages:=lay kf 0 d.pages (d.row.take m)}∧I m wr∧Out Z w wr
set_option maxRecDepth 100000 in
theorem aSx (F:FuncId) (caps:Array Value) (kf:Nat→Nat) (I:Nat→World→Prop) (Y:Nat→Prop) {w:World} {X:Nat→Prop} {g:Nat} {d:DK} (h:DkAt w X g d) (hn:d.row.length≤1000000)
  (hcf:∀W,(callFunc F caps).run Tryz.prog W=.ok (.enter F caps) W) (hkf:∀m,kf m≤512) (hXY:∀k,X k→¬Y k) (hY:∀k,Y k→k<w.heap.size) (hI:∀m W W',I m W→Out X W W'→I m W') (h0:I 0 w)
  (hcall:∀m W,I m W→∃W',I (m+1) W'∧Out Y W W'∧Calls Tryz.prog F caps W (fun e w'=>e=.returned (.int .i64 (kf m:Int))∧w'=W')):
  Calls Tryz.prog 64 #[.pointer (some ⟨g,0,none⟩),.func (.func F) #[] caps] w (fun e w'=>e=.returned (.tuple #[])∧DkAt w' X g {d with pages:=lay kf 0 d.pages d.row,row:=[]}∧Out (fun k=>X k∨Y k) w w'∧I d.row.length w'):=by
 obtain ⟨p,A,c,h⟩:=h;have H:=Lib.hid h;have HN:=Lib.hid hn;have HKF:=Lib.hid hkf;have HCF:=Lib.hid hcf;have HXY:=Lib.hid hXY;have HY:=Lib.hid hY;have HI:=Lib.hid hI;have HCALL:=Lib.hid hcall;have H0:=Lib.hid h0;obtain ⟨-,h1,-,-,-⟩:=h.cells;clear h hcf hkf hXY hY hI hcall h0;generalize hL:d.row.length=L at*;go_enter Tryz.func64,Tryz.ntmps64
 go_wp2_with fail;go_loopw [11] (fun i wr=>RelSet X g p A c d kf I (fun k=>X k∨Y k) w i wr) (fun i _=>L - (intOf i).toNat)
 case atStart=>exact ⟨0,Nat.zero_le _,rfl,by simpa [lay] using H.out,H0.out,Out.refl _ _⟩
 case round=>
  obtain ⟨m,hm,rfl,hat,hi,ho⟩:=hrel;rw [hL] at hm;by_cases hlt:m<L
  ·obtain ⟨x,hx⟩:∃x,d.row[m]? =some x:=⟨_,List.getElem?_eq_getElem (by omega)⟩;obtain ⟨r,rfl,hxr,hrg,hrp,hrange,hLc⟩:=hat.row_at hx;have hxr2:=hat.ok.row x (List.mem_of_getElem? hx);have HX1:=Lib.hid hxr2.1;have HX2:=Lib.hid hxr2.2;have HRA:=Lib.hid hrange;rw [hL] at hLc;have HAT:=Lib.hid hat;have HIM:=Lib.hid hi;have HOO:=Lib.hid ho;have HXM:=Lib.hid hx;have hz0:=aFd;have HZ0:Hid ((Tryz.prog.info? 171).map (·.size)=some (wrC x).toArray.size):=by show _=_;rw [aEk];simp [wrC,HX2.out]
   have HZ1:Hid ((wrC (0,zeros)).toArray.size=(wrC x).toArray.size):=by show _=_;simp [wrC,HX2.out,aB5]
   have HZ2:Hid ((wrC x).toArray.all (·.oneCell')=true):=all_oneCell_toArray (aVj x);have HNB:=Lib.hid (Bk.new wr 171 (wrC x).toArray);have HNBB:Hid (Below wr.heap.size wr (wr.alloc (.cells (wrC x).toArray 171))):=(Below.refl _ _).alloc (Nat.le_refl _) _;have HLEN:Hid ((Tryz.prog.info? 171).map (·.size)=some (wrC x).length):=by show _=_;rw [aEk,aT0 HX2.out]
   clear hrange hat hi ho hx hxr2;generalize hZ:(wrC (0,zeros)).toArray=Z at*;generalize hC:wrC x=C at*;have HCE:=Lib.hid hC;clear hZ hC;go_wp2_with (first
    |((with_reducible refine aC0 ?_ 171 (.tmp 13) ?_ r (m*513) ?_ C _ ?_ Tryz.underlying171 rfl HLEN.out ?_);(exact rfl);(exact rfl);(exact rfl);(exact HRA.out))
    |((with_reducible refine aB8 ?_ 171 (.tmp 5) (.tmp 14) ?_ wr Z C.toArray 171 ?_ ?_ ?_ HZ0.out HZ1.out HZ2.out ?_);(exact rfl);(exact rfl);(exact rfl);(exact rfl);(exact rfl)))
   refine Lib.hid ?_;clear hz0;go_wp2_with fail;have HRN:Hid ((wr.alloc (.cells C.toArray 171)).rangeAt wr.heap.size 0 C):=fun j v hv=>by
    rw [HNB.out.cell,Nat.zero_add];simpa using hv
   generalize hWr:wr.alloc (.cells C.toArray 171)=Wr at*;have HPL:Hid ((lay kf 0 d.pages (d.row.take m)).length=d.pages.length):=aA9 _ _ _ _;obtain ⟨PL,hPL⟩:∃PL,PL=d.pages.length:=⟨_,rfl⟩;have HX1:Hid (x.1<PL):=by show _<_;rw [hPL,←HPL.out];exact HX1.out
   have HPM:Hid (PL≤4096):=by show _≤_;rw [hPL];exact H.out.ok.many
   obtain ⟨W0,hW0⟩:∃W0:World,W0={Wr with drawn:=Wr.drawn+1}:=⟨_,rfl⟩;have hb0:Below wr.heap.size wr W0:=by rw [hW0];exact HNBB.out.drew
   have hI0:I m W0:=HI.out m wr W0 HIM.out (Out.of_below hb0);obtain ⟨W1,hI1,hO1,hcl⟩:=HCALL.out m W0 hI0;have HN5:Hid (kf m≤512):=HKF.out m;generalize hn5:kf m=n at*;have hA0:=HAT.out.below hb0;have hA1:=hA0.out hO1 HXY.out;have hsp:=hA1.splice (x:=x) (by show _<(lay kf 0 d.pages (d.row.take m)).length;rw [HPL.out,←hPL];exact HX1.out) HX2.out HN5.out;obtain ⟨W2,hW2⟩:∃W2,W2=W1.setCells p (x.1*512) ((x.2.take n).map U):=⟨_,rfl⟩;rw [←hW2] at hsp;have hwN:w.heap.size≤wr.heap.size:=HOO.out.size;have hN0:W0.heap.size=wr.heap.size+1:=by rw [hW0,←hWr];exact aBd _ _
   have hr0:W0.rangeAt wr.heap.size 0 C:=by rw [hW0];exact HRN.out
   have hr1:W1.rangeAt wr.heap.size 0 C:=fun j v hv=>by
    rw [hO1.cell (by show wr.heap.size<_;omega) (fun hy=>by have:=HY.out _ hy;have:wr.heap.size<w.heap.size:=this;omega)];exact hr0 j v hv
   have hfz:W1.there p (x.1*512) n:=hA1.pg.there (by show _≤(lay kf 0 d.pages (d.row.take m)).length*512;rw [HPL.out,←hPL];have:=HX1.out;have:=HN5.out;omega);have hl2:((x.2.take n).map U).length=n:=by rw [List.length_map,List.length_take,HX2.out];have:=HN5.out;omega
   have hrun:=run_copy_cells (P:=Tryz.prog) W1 37 37 3 5 p (x.1*512) n 512 ⟨wr.heap.size,1,none⟩ 512 512 ((x.2.take n).map U) aAt (by kernel_rfl) (by rw [hl2];have:=HN5.out;exact (Nat.min_eq_right this).symm)
    (fun j v hj=>by
     have hadd:(⟨wr.heap.size,1,none⟩:Addr).add j=⟨wr.heap.size,0+(j+1),none⟩:=by
      unfold Addr.add;split
      ·next h=>subst h;rfl
      ·simp [Nat.add_comm]
     rw [hadd];refine hr1 (j+1) v ?_;rw [←HCE.out];unfold wrC;rw [List.getElem?_cons_succ];rw [List.map_take,List.getElem?_take] at hj;split at hj
     ·exact hj
     ·cases hj)
    (fun j hj=>(hfz j (by omega)).1) (fun j hj=>(hfz j (by omega)).2) (aM9 _)
   rw [hl2,←hW2] at hrun;obtain ⟨Ws,hWs⟩:∃Ws:Nat→World,Ws=fun s=>match s with|0=>W0|1=>W1|_=>W2:=⟨_,rfl⟩
   have E0:Hid (Ws 0=W0):=congrFun hWs 0;have E1:Hid (Ws 1=W1):=congrFun hWs 1;have E2:Hid (Ws 2=W2):=congrFun hWs 2;have HW0:=Lib.hid hW0;have HCG:Hid (∀s,s≤1→(Ws s).cell? ⟨g,0,none⟩=some (.slice (some ⟨p,0,none⟩) PL PL)):=by
    intro s hs
    match s,hs with
    |0,_=>rw [E0.out,hPL,←HPL.out];exact hA0.bk.cell 0
    |1,_=>rw [E1.out,hPL,←HPL.out];exact hA1.bk.cell 0
   have HCN:Hid (∀s,s≤1→(Ws s).cell? ⟨wr.heap.size,0,none⟩=some (.int .i64 (x.1:Int))):=by
    intro s hs
    match s,hs with
    |0,_=>rw [E0.out];exact hr0 0 _ (by rw [←HCE.out];rfl)
    |1,_=>rw [E1.out];exact hr1 0 _ (by rw [←HCE.out];rfl)
   have HCL:Hid (Calls Tryz.prog F caps (Ws 0) (fun e w'=>e=.returned (.int .i64 (n:Int))∧w'=W1)):=by show Calls _ _ _ _ _;rw [E0.out];exact hcl
   have HRUN:Hid ((Builtin.copy_ #[37,37] 3 #[.slice (some ⟨p,x.1*512,none⟩) n 512,.slice (some ⟨wr.heap.size,1,none⟩) 512 512]).run Tryz.prog (Ws 1)=.ok (.int .i64 (n:Int)) (Ws 2)):=by show _=_;rw [E1.out,E2.out];exact hrun
   have S1:=Lib.hid hsp.1;have S2:Hid (Out (fun k=>X k∨Y k) w W2):=((HOO.out.trans (Out.of_below (X:=X) hb0) (fun k hk=>.inl (.inl hk))).trans hO1 (fun k hk=>.inl (.inr hk))).trans hsp.2 (fun k hk=>.inl (.inl (hk ▸ HAT.out.xp)));have S3:Hid (I (m+1) W2):=HI.out _ W1 W2 hI1 (hsp.2.mono fun k hk=>.inl (hk ▸ HAT.out.xp));have S4:Hid (lay kf 0 d.pages (d.row.take (m+1))=lay1 (lay kf 0 d.pages (d.row.take m)) x n):=by
    show _=_;have e:d.row.take (m+1)=d.row.take m++[x]:=by
     obtain ⟨hlt',hx'⟩:=List.getElem?_eq_some_iff.1 HXM.out;rw [←List.take_append_getElem hlt',hx']
    rw [e,aY3,List.length_take,Nat.min_eq_left (by omega),hn5]
   generalize hNN:wr.heap.size=N at*;clear hPL hWr hb0 hI0 hI1 hO1 hcl hA0 hA1 hsp hwN hN0 hr0 hr1 hfz hl2 hrun hWs hW0 hW2;refine aF9 (fun k=>([.pointer (some ⟨g,0,none⟩),.pointer (some ⟨g,0,none⟩),.pointer (some ⟨g,0,none⟩),.slice (some ⟨p,0,none⟩) PL PL,.pointer (some ⟨N,0,none⟩),.int .i64 (x.1:Int),.pointer (some ⟨p,x.1*512,none⟩),.func (.func F) #[] caps,.int .i64 (n:Int),.slice (some ⟨p,x.1*512,none⟩) n 512,.pointer (some ⟨N,1,none⟩),.slice (some ⟨N,1,none⟩) 512 512,.int .i64 (n:Int)]:List Value).getD k undef) [8,12] Ws 14 (by kernel_rfl) (by kernel_rfl) (E0.out.trans HW0.out) (fun k y hk=>?_) (fun k y z hy hz=>?_) ?_ {tmps:=#[.pointer (some ⟨g,0,none⟩),.func (.func F) #[] caps,undef,undef,undef,.pointer (some ⟨N,0,none⟩),.pointer (some ⟨g,0,none⟩),.pointer (some ⟨g,0,none⟩),.pointer (some ⟨g,1,none⟩),.slice (some ⟨r,0,none⟩) L c,.int .i64 (L:Int),.int .i64 (m:Int),.bool true,.pointer (some ⟨r,m*513,none⟩),.agg C.toArray,.pointer (some ⟨g,0,none⟩),.pointer (some ⟨g,0,none⟩),.pointer (some ⟨g,0,none⟩),.slice (some ⟨p,0,none⟩) PL PL,.pointer (some ⟨N,0,none⟩),.int .i64 (x.1:Int),.pointer (some ⟨p,x.1*512,none⟩),.func (.func F) #[] caps,.int .i64 (n:Int),.slice (some ⟨p,x.1*512,none⟩) n 512,.pointer (some ⟨N,1,none⟩),.slice (some ⟨N,1,none⟩) 512 512,.int .i64 (n:Int),u28,undef,undef,undef],defers:=[]} (by kernel_rfl) ?_
   ·match k,hk with
    |0,hk=>injection hk with hk;subst hk;decide
    |1,hk=>injection hk with hk;subst hk;decide
    |_+2,hk=>cases hk
   ·match k,hy,hz with
    |0,hy,hz=>injection hy with hy;injection hz with hz;subst hy hz;show reachB _ _ _ _=true;kernel_rfl
    |1,_,hz=>cases hz
    |_+2,hy,_=>cases hy
   ·refine aA0 ?_ (aA0 ?_ (aA0 ?_ (aA0 ?_ (aA0 ?_ (aA0 ?_ (aA0 ?_ (aA0 ?_ (aA0 ?_ (aA0 ?_ (aA0 ?_ (aA0 ?_ (aA0 ?_ (aA2)))))))))))))
    ·refine aAp (by decide) fun a s hs hd h2 h3 K hK=>?_;have h0:a.tmps.getD 0 undef=.pointer (some ⟨g,0,none⟩):=hd.kept 0 (by kernel_rfl);unfold Oper.wp;go_simp;exact hK
    ·refine aAp (by decide) fun a s hs hd h2 h3 K hK=>?_;have h15:a.tmps.getD 15 undef=.pointer (some ⟨g,0,none⟩):=hd.done_ 0 _ 15 (by kernel_rfl) rfl rfl;unfold Oper.wp;go_simp;exact hK
    ·refine aAp (by decide) fun a s hs hd h2 h3 K hK=>?_;have h16:a.tmps.getD 16 undef=.pointer (some ⟨g,0,none⟩):=hd.done_ 1 _ 16 (by kernel_rfl) rfl rfl;unfold Oper.wp;go_simp;exact hK
    ·refine aAp (by decide) fun a s hs hd h2 h3 K hK=>?_;have h17:a.tmps.getD 17 undef=.pointer (some ⟨g,0,none⟩):=hd.done_ 2 _ 17 (by kernel_rfl) rfl rfl;have hc:=HCG.out s (h2 1 12 rfl (by kernel_rfl));unfold Oper.wp;go_simp;exact hK
    ·refine aAp (by decide) fun a s hs hd h2 h3 K hK=>?_;have h5:a.tmps.getD 5 undef=.pointer (some ⟨N,0,none⟩):=hd.kept 5 (by kernel_rfl);unfold Oper.wp;go_simp;exact hK
    ·refine aAp (by decide) fun a s hs hd h2 h3 K hK=>?_;have h19:a.tmps.getD 19 undef=.pointer (some ⟨N,0,none⟩):=hd.done_ 4 _ 19 (by kernel_rfl) rfl rfl;have hc:=HCN.out s (h2 1 12 rfl (by kernel_rfl));unfold Oper.wp;go_simp;exact hK
    ·refine aAp (by decide) fun a s hs hd h2 h3 K hK=>?_;have h18:a.tmps.getD 18 undef=.slice (some ⟨p,0,none⟩) PL PL:=hd.done_ 3 _ 18 (by kernel_rfl) rfl rfl;have h20:a.tmps.getD 20 undef=.int .i64 (x.1:Int):=hd.done_ 5 _ 20 (by kernel_rfl) rfl rfl;have hx1:=HX1.out;have hpm:=HPM.out;unfold Oper.wp;go_simp;exact hK
    ·refine aAp (by decide) fun a s hs hd h2 h3 K hK=>?_;have h1:a.tmps.getD 1 undef=.func (.func F) #[] caps:=hd.kept 1 (by kernel_rfl);unfold Oper.wp;go_simp;exact hK
    ·intro a s hs hd h1 h2 h3 K hK;obtain rfl:=h1 0 rfl;have h22:a.tmps.getD 22 undef=.func (.func F) #[] caps:=hd.done_ 7 _ 22 (by kernel_rfl) rfl rfl;have hk:=hK 1 (fun h=>absurd rfl (h 0)) (fun k hk=>by have:=h1 k hk;omega);have hcf:=HCF.out;unfold Oper.wp;go_simp;refine HCL.out.mono ?_;rintro e w' ⟨rfl,rfl⟩;rw [E1.out] at hk;exact hk
    ·refine aAp (by decide) fun a s hs hd h2 h3 K hK=>?_;have h21:a.tmps.getD 21 undef=.pointer (some ⟨p,x.1*512,none⟩):=hd.done_ 6 _ 21 (by kernel_rfl) rfl rfl;have h23:a.tmps.getD 23 undef=.int .i64 (n:Int):=hd.done_ 8 _ 23 (by kernel_rfl) rfl rfl;have hn5:=HN5.out;have hn6:(n:Int)≤512:=by omega
     unfold Oper.wp;go_simp;exact hK
    ·refine aAp (by decide) fun a s hs hd h2 h3 K hK=>?_;have h5:a.tmps.getD 5 undef=.pointer (some ⟨N,0,none⟩):=hd.kept 5 (by kernel_rfl);unfold Oper.wp;go_simp;exact hK
    ·refine aAp (by decide) fun a s hs hd h2 h3 K hK=>?_;have h25:a.tmps.getD 25 undef=.pointer (some ⟨N,1,none⟩):=hd.done_ 10 _ 25 (by kernel_rfl) rfl rfl;unfold Oper.wp;go_simp;exact hK
    ·intro a s hs hd h1 h2 h3 K hK;obtain rfl:=h1 1 rfl;have h24:a.tmps.getD 24 undef=.slice (some ⟨p,x.1*512,none⟩) n 512:=hd.done_ 9 _ 24 (by kernel_rfl) rfl rfl;have h26:a.tmps.getD 26 undef=.slice (some ⟨N,1,none⟩) 512 512:=hd.done_ 11 _ 26 (by kernel_rfl) rfl rfl;have hk:=hK 2 (fun h=>absurd rfl (h 1)) (fun k hk=>by have:=h1 k hk;omega);have e1:Act.eval a (.tmp 24)=.slice (some ⟨p,x.1*512,none⟩) n 512:=h24;have e2:Act.eval a (.tmp 26)=.slice (some ⟨N,1,none⟩) 512 512:=h26;unfold Oper.wp execOp;simp only [resolve,invoke,builtin,Sem.run_bind,Sem.run_pure,Result.andThen_ok,List.map_toArray,List.map_cons,List.map_nil,e1,e2];have hru:=HRUN.out;rw [hru];exact hk
   ·have hend:Ws [8,12].length=W2:=E2.out;rw [hend];have w1:wrap64 ((m:Int)+1)=(m:Int)+1:=IntWalk.wrap64_in _ (by omega);go_wp2_with fail;exact ⟨⟨m+1,by omega,rfl,by rw [S4.out];exact S1.out,S3.out,S2.out⟩,by simp [intOf];omega⟩
  ·obtain rfl:m=L:=by omega
   obtain ⟨-,-,-,-,hfz⟩:=hat.cells;have h1':=hat.bk.cell 1;have HAT:=Lib.hid hat.rowNone;have HOO:=Lib.hid (ho.trans (Out.setCell (X:=fun k=>X k∨Y k) wr (p:=⟨g,1,none⟩) (.inl hat.xg) (.slice none 0 0)) (fun k hk=>.inl hk));have HII:=Lib.hid (HI.out m wr _ hi (Out.setCell (X:=X) wr (p:=⟨g,1,none⟩) hat.xg (.slice none 0 0)));have hlay:lay kf 0 d.pages (d.row.take m)=lay kf 0 d.pages d.row:=by rw [List.take_of_length_le (by omega)]
   clear hat;rw [hlay] at HAT;dsimp only at h1'
   go_wp2_with fail
   go_end0
   exact ⟨rfl,⟨p,_,_,HAT.out⟩,HOO.out,HII.out⟩
end Go.Proofs.YtgjmbbkcgillcaaGreat.Disk
