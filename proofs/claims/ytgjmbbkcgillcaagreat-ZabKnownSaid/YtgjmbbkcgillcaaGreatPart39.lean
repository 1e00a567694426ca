/- Lemmas, part 39: ZabKnown0, ZabKnown1, PhaseFreeG -/
import Derived.Test.YtgjmbbkcgillcaaGreatPart37
import Derived.Test.YtgjmbbkcgillcaaGreatPart3
import Derived.Test.YtgjmbbkcgillcaaGreatPart32
set_option maxHeartbeats 16000000
namespace Go.Proofs.YtgjmbbkcgillcaaGreat.zabKnown
open Go.RowKit Disk Log Sto Zm Bal Zab
theorem aRa (x:Int):best [x]=x:=by simp [best]
def ka0:Zn:=newN 0 1 400 Kp.zero
def ka1:Zn:=ka0.tick.1
def ka2:Zn:=ka1.tick.1
def ka3:Zn:=ka2.tick.1
def kl (l:List Ln):Zn:=⟨0,1,200,⟨1,1,l⟩,.lead 1 0 none_ true,0,0,l.length⟩
def lk (i:Nat):List Ln:=(List.range i).map fun j=>⟨1,[UInt8.ofNat j]⟩
theorem aE9 (i:Nat):(lk i).length=i:=by simp [lk]
theorem aPk (i:Nat):lk (i+1)=lk i++[⟨1,[UInt8.ofNat i]⟩]:=by simp [lk,List.range_succ]
theorem aZg:∀i,aAj (lk i)=i*17
 |0=>rfl
 |i+1=>by
  rw [aPk,aDd,aZg i,aE4];show i*17+(16+1+0)=_;omega
theorem known1:ka0.leads=false∧ka0.propose [97]=(ka0,64)∧ka0.tick.2=[]∧ka1.tick.2=[]∧ka2.tick.2=[]:=⟨rfl,rfl,by kernel_rfl,by kernel_rfl,by kernel_rfl⟩
theorem aLm:ka0.waited=0∧ka1.waited=1∧ka2.waited=2∧ka3.waited=3:=⟨by kernel_rfl,by kernel_rfl,by kernel_rfl,by kernel_rfl⟩
def kaS:Zn:=⟨0,1,200,⟨1,1,[]⟩,.stand 1,0,0,0⟩
theorem known2:ka3.tick=(kl [],[]):=by
 have h1:ka3.tick=(let z1:=kaS.count 1 0 none_ false;(z1,Zab.remind z1 1 none_)):=by kernel_rfl
 have h2:kaS.count 1 0 none_ false=kl []:=by
  have:aDb kaS.id kaS.n kaS.k.lines.length none_=0:=aRa 0;unfold Zn.count;rw [this,if_pos (by decide)];rfl
 rw [h1,h2];rfl
theorem aX9 (l:List Ln):(kl l).leads=true:=rfl
theorem bC2 (l:List Ln):(kl l).propose []=(kl l,1):=rfl
theorem bA1 (l:List Ln):(kl l).propose (List.replicate 4097 0)=(kl l,1):=by
 unfold Zn.propose;rw [if_pos (Or.inr (by rw [List.length_replicate];omega))]
theorem bA0 {i:Nat} (hi:i<256):(kl (lk i)).propose [UInt8.ofNat i]=(kl (lk (i+1)),0):=by
 have hm:(Deed.add [⟨1,[UInt8.ofNat i]⟩]).may ⟨1,1,lk i⟩=true:=aGc.2 ⟨Nat.zero_lt_one,by show 1+(lk i).length≤256;rw [aE9];omega,fun x hx=>by
  obtain rfl:=List.mem_singleton.1 hx;exact ⟨aAi.2 ⟨Nat.le_refl _,by show 1≤281474976710656;omega,Nat.le_refl _,by show 1≤4096;omega⟩,rfl⟩⟩
 have hf:fits ((Deed.add [⟨1,[UInt8.ofNat i]⟩]).run ⟨1,1,lk i⟩) 200=true:=by
  show decide (64+aAj (lk i++[⟨1,[UInt8.ofNat i]⟩])≤480*(200 - 1))=true;rw [←aPk,aZg];simp;omega
 have ha:ans (.add [⟨1,[UInt8.ofNat i]⟩]) ⟨1,1,lk i⟩ 200=0:=by unfold ans;rw [if_pos hm,if_pos hf]
 have ht:thn (.add [⟨1,[UInt8.ofNat i]⟩]) ⟨1,1,lk i⟩ 200=⟨1,1,lk (i+1)⟩:=by unfold thn;rw [if_pos ⟨hm,hf⟩,aPk];rfl
 have hr:aDb 0 1 (lk (i+1)).length none_=((i+1:Nat):Int):=by rw [aE9];exact aRa _
 unfold Zn.propose kl;rw [if_neg (by simp)];simp only [aE9];rw [if_neg (by omega),if_pos ha,ht];unfold Zn.count;simp only;rw [hr,if_pos (by omega)];simp only [Int.toNat_natCast];rw [Nat.max_eq_right (by omega)]
theorem bBx:(kl (lk 256)).propose [98]=(kl (lk 256),4):=by
 unfold Zn.propose kl;rw [if_neg (by simp)];simp only [aE9];rw [if_pos (by omega)]
def kaN:Nat→Zn
 |0=>ka0
 |1=>ka1
 |2=>ka2
 |3=>ka3
 |_=>kl []
theorem aXz {k:Nat} (h:k<4):(kaN k).tick=(kaN (k+1),[]):=by
 obtain ⟨-,-,h0,h1,h2⟩:=known1
 match k,h with
 |0,_=>exact Prod.ext rfl h0
 |1,_=>exact Prod.ext rfl h1
 |2,_=>exact Prod.ext rfl h2
 |3,_=>exact known2
theorem aXc:∀k,(kaN k).waited<1000000
 |0=>by show ka0.waited<_;rw [aLm.1];omega
 |1=>by show ka1.waited<_;rw [aLm.2.1];omega
 |2=>by show ka2.waited<_;rw [aLm.2.2.1];omega
 |3=>by show ka3.waited<_;rw [aLm.2.2.2];omega
 |_+4=>Nat.zero_lt_succ _
def xl:Ln:=⟨1,[120]⟩
def yl:Ln:=⟨3,[121]⟩
def kb0:Zn:=newN 1 3 400 Kp.zero
def kb1:Zn:=⟨1,3,200,⟨3,0,[]⟩,.follow,3,0,0⟩
def kb2:Zn:=⟨1,3,200,⟨3,3,[xl]⟩,.follow,3,0,0⟩
def kb3:Zn:=⟨1,3,200,⟨3,3,[xl,yl]⟩,.follow,3,0,2⟩
def mS:Mg:=stM 3
def mE:Mg:=⟨5,3,0,0,0,[]⟩
def mD:Mg:=adM 3 [xl]
def mY:Mg:=⟨5,3,0,1,9,[yl]⟩
theorem aTw:mS.may:=by decide
theorem bC7:mE.may:=by decide
theorem bC8:mD.may:=by decide
theorem bD9:mY.may:=by decide
theorem kb_b:kb0.heard 0 mS=(kb1,[⟨0,prM 3 0 []⟩]):=by kernel_rfl
theorem kb_c:kb1.heard 0 mS=(kb1,[⟨0,reM 3⟩]):=by kernel_rfl
theorem kb_g:kb1.heard 2 mS=(kb1,[]):=by kernel_rfl
theorem kb_h:kb1.heard 0 mE=(kb1,[]):=by kernel_rfl
theorem kb_i:kb1.heard 0 mD=(kb2,[⟨0,akM 3 1⟩]):=by kernel_rfl
theorem kb_j:kb2.heard 0 mY=(kb3,[⟨0,akM 3 2⟩]):=by kernel_rfl
end Go.Proofs.YtgjmbbkcgillcaaGreat.zabKnown
namespace Go.Proofs.YtgjmbbkcgillcaaGreat.zabKnown
open Go.RowKit Disk Log Sto Zm Bal Zab
def ObK (Y Z:Nat→Prop) (gz:Nat) (w:World) (A:Option Addr) (o:Ob):Prop:=∃P,ObS P w A 1 [o]∧∀k,P k→¬Nx Y Z gz k∧k<w.heap.size
section
variable {w w':World} {Y Z Y' Z':Nat→Prop} {gz:Nat} {A:Option Addr} {o:Ob}
theorem ObK.next (h:ObK Y Z gz w A o) (hg:Gz Y Z Y' Z' gz w w'):ObK Y' Z' gz w' A o:=by
 obtain ⟨P,h1,h2⟩:=h;exact ⟨P,h1.out hg.1 fun k hk=>(h2 k hk).1,fun k hk=>⟨fun q=>(hg.2 k q).elim (h2 k hk).1 fun q=>by have:=(h2 k hk).2;omega,Nat.lt_of_lt_of_le (h2 k hk).2 hg.1.size⟩⟩
theorem ObK.later (h:ObK Y Z gz w A o) (hb:Below w.heap.size w w'):ObK Y Z gz w' A o:=h.next (Gz.of_below hb)
theorem ObK.of {B:Nat} {v:Value} (h:OwnO B w v [o]) (hb:∀b,Nx Y Z gz b→b<B):∃A c,v=.slice A 1 c∧ObK Y Z gz w A o:=by
 obtain ⟨A,c,rfl,_,_⟩:=h.form;exact ⟨A,c,rfl,_,h.lns,fun k hk=>⟨fun q=>by have:=hb k q;omega,hk.2⟩⟩
theorem ObK.get (h:ObK Y Z gz w A o):∃b f B m c,A=some ⟨b,f,none⟩∧w.cell? ⟨b,f+1,none⟩=some (.slice B m c)∧Rd w B m o.bytes:=by
 obtain ⟨P,h1,_⟩:=h;obtain ⟨b,f,B,m,c,e,_,_,h2,_,h3,_⟩:=h1.at_ 0 o rfl;exact ⟨b,f,B,m,c,e,by simpa using h2,h3⟩
end
theorem aQh {W:World} {g:Nat} {B:Option Addr} {n c:Nat} {x:Ln} (hb:Bk W g 65 #[.int .u64 (x.epoch:Int),.slice B n c]) (hn:n≤c) (hr:Rd W B n x.bytes):LnS (fun _=>True) W (some ⟨g,0,none⟩) 1 [x]:=by
 refine ⟨rfl,fun j y hj=>?_⟩;have hj0:j=0:=by
  have:=(List.getElem?_eq_some_iff.1 hj).1;simp at this;exact this
 subst hj0;simp at hj;subst hj;exact ⟨g,0,B,n,c,rfl,trivial,hb.cell 0,hb.cell 1,hn,hr,fun _ _ _=>trivial⟩
theorem bAc (w:World) {k:Nat} (hk:k<256):Rd (w.alloc (.cells #[.int .u8 (k:Int)] 5)) (some ⟨w.heap.size,0,none⟩) 1 [UInt8.ofNat k]:=by
 have:=aH8 w 5 (0,0) [UInt8.ofNat k];have e:([UInt8.ofNat k].map U).toArray=#[Value.int .u8 (k:Int)]:=by
  have:(UInt8.ofNat k).toNat=k:=by rw [UInt8.toNat_ofNat'];omega
  simp [U,this]
 rwa [e] at this
def zeros:List UInt8:=List.replicate 4097 0
theorem aWa:zeros.length=4097:=List.length_replicate
theorem aT8 (w:World):(Instr.makeSlice 37 (.int .i64 4097) (.int .i64 4097)).run Tryz.prog w=.ok (.slice (some ⟨w.heap.size,0,none⟩) 4097 4097) (w.alloc (.cells (zeros.map U).toArray 5)):=by
 obtain ⟨i0,hi0,hi1,hi2,hi3⟩:=info_parts aBh;have hmk:=aC1 (P:=Tryz.prog) aAt hi0 hi1 hi2 hi3 .i64 .i64 4097 4097 (Int.le_refl _) (by omega) w;have e:Int.toNat 4097=4097:=rfl;rw [e,←List.map_replicate] at hmk;exact hmk
theorem aXq (w:World):Rd (w.alloc (.cells (zeros.map U).toArray 5)) (some ⟨w.heap.size,0,none⟩) 4097 zeros:=by
 have:=aH8 w 5 (0,0) zeros;rwa [aWa] at this
theorem aXt (l:List Ln):(kl l).propose zeros=(kl l,1):=bA1 l
set_option maxRecDepth 100000 in
theorem aUh {P:Nat→Prop} (m:Mg) (hok:m.Ok) (hm:m.may) (A:Option Addr) (c:Nat) (w:World) (hls:LnS P w A m.lines.length m.lines):Calls Tryz.prog 37 #[.agg (mgC m A m.lines.length c)] w (MsgP m.enc w):=by
 obtain ⟨W,hW⟩:∃W,W=w.alloc (.cells (mgC m A m.lines.length c) 36):=⟨_,rfl⟩;have hb0:Below w.heap.size w W:=by rw [hW];exact (Below.refl _ _).alloc (Nat.le_refl _) _
 have hbm:Bk W w.heap.size 36 (mgC m A m.lines.length c):=by rw [hW];exact Bk.new _ _ _
 have CP:=Lib.hid (aPe A m.lines.length c m W hok (hls.below hb0) hm);have m0:W.cell? ⟨w.heap.size,0,none⟩=some (.int .u8 (m.kind:Int)):=hbm.cell 0;have m1:W.cell? ⟨w.heap.size,1,none⟩=some (.int .u64 (m.epoch:Int)):=hbm.cell 1;have m2:W.cell? ⟨w.heap.size,2,none⟩=some (.int .u64 (m.current:Int)):=hbm.cell 2;have m3:W.cell? ⟨w.heap.size,3,none⟩=some (.int .i64 m.at_):=hbm.cell 3;have m4:W.cell? ⟨w.heap.size,4,none⟩=some (.int .i64 m.commit):=hbm.cell 4;have m5:W.cell? ⟨w.heap.size,5,none⟩=some (.slice A m.lines.length c):=hbm.cell 5;have hw:w.alloc (.cells #[.int .u8 (m.kind:Int),.int .u64 (m.epoch:Int),.int .u64 (m.current:Int),.int .i64 m.at_,.int .i64 m.commit,.slice A m.lines.length c] 36)=W:=hW.symm;have HB0:=Lib.hid hb0;unfold mgC at CP ⊢;clear hW hbm hb0 hok hls;go_enter Tryz.func37,Tryz.ntmps37
 go_wp2_with fail;refine CP.out.mono ?_;rintro r1 w1 ⟨B,n,k,rfl,hn,-,ho,hb1⟩;subst hn;have hrd:=(Rd.of_own ho).1;have HF:Hid (MsgP m.enc w (.returned (.slice B m.enc.length k)) w1):=⟨B,_,k,rfl,rfl,hrd,HB0.out.trans (hb1.mono HB0.out.size)⟩;clear ho hb1 hrd CP m0 m1 m2 m3 m4 m5;go_wp2_with fail;go_ret;exact HF.out
end Go.Proofs.YtgjmbbkcgillcaaGreat.zabKnown
namespace Go.Proofs.YtgjmbbkcgillcaaGreat.PhaseG
open Phase (aAu StepsL)
open Go.RowKit
def aWm (l:List Oper) (kn:List (Option Value)):Bool:=l.all fun o=>match o.guard with
 |none=>true
 |some (j,b)=>match kn[j]? with
  |some (some (.bool c))=>c==b
  |_=>false
theorem aNe {l:List Oper} {kn:List (Option Value)} (h:aWm l kn=true) {v:Nat→Value} (hv:∀k c,kn[k]? =some (some c)→v k=c):aDe l.toArray v=true:=by
 unfold aDe;refine List.all_eq_true.2 fun i hi=>?_;have hlt:i<l.length:=by simpa using hi
 have ho:l.toArray[i]? =some l[i]:=by simp [hlt]
 have hg:=List.all_eq_true.1 h l[i] (List.getElem_mem hlt);cases hq:l[i].guard with
 |none=>simp [ho,hq]
 |some jb=>
  obtain ⟨j,b⟩:=jb;rw [hq] at hg;dsimp only at hg
  cases hk:kn[j]? with
  |none=>rw [hk] at hg;cases hg
  |some oc=>
   cases oc with
   |none=>rw [hk] at hg;cases hg
   |some c=>
    rw [hk] at hg;cases c with
    |bool c=>simpa [ho,hq,hv j _ hk] using hg
    |_=>cases hg
section
variable {P:Program} {Q:Exit→Act→World→Prop}
theorem aE2 {l:List Oper} {a0:Act} {id:Nat} {w:World} (kn:List (Option Value)) (R:Nat→Value→World→Prop) (hm:P.follows .mixedOrders=true) (hok:okB l.toArray a0.tmps.size=true) (hgk:aWm l kn=true)
  (hRk:∀k x W c,R k x W→kn[k]? =some (some c)→x=c)
  (hR:∀k x W W',R k x W→Below w.heap.size w W→Below W.heap.size W W'→R k x W') (hsteps:StepsL (StepF P Q l a0 w R) 0 l) (F:(Nat→Value)→Act) (hF:∀v,final l.toArray v l.length a0=F v)
  (hend:∀v W,Below w.heap.size w W→(∀k,k<l.length→R k (v k) W)→Q .normal (F v) W):
  (Code.region id l.toArray true).wp P Q a0 w:=by
 refine aA8 (v0:=fun k=>match kn[k]? with|some (some c)=>c|_=>undef) (C:=fun v listed W=>Below w.heap.size w W∧listed.size=l.length∧(∀k,k<l.length→listed.getD k false=true→R k (v k) W)∧∀k c,kn[k]? =some (some c)→v k=c) hm hok (fun v _ _ hC=>aNe hgk hC.2.2.2) ⟨(Below.refl _ _).drew,by simp,(fun k _ h=>by rw [aAf] at h;cases h),fun k c hk=>by simp only [hk]⟩ ?_ ?_
 ·intro i o hi v listed a W hun hdeps hf hC K hK;obtain ⟨hb,hsz,hr,hkn⟩:=hC;have hil:l[i]? =some o:=by simpa using hi
  have hlt:i<l.length:=(List.getElem?_eq_some_iff.1 hil).1;have hltl:i<listed.size:=by omega
  have hD:DepF l v a0 R o a W:=⟨fun k p d hk hp hd=>by
    obtain ⟨e,he,hek⟩:=aAu hk;simp only [Bool.and_eq_true,beq_iff_eq] at hek;have:=hdeps e he hek.2;rw [hek.1] at this;exact ⟨hf.yes k p d (by simpa using hp) hd this,hr k (List.getElem?_eq_some_iff.1 hp).1 this⟩,
   fun d hd=>hf.no d fun k p hk hp=>by
    have hk':l[k]? =some p:=by simpa using hk
    have:=List.all_eq_true.1 hd p (List.mem_of_getElem? hk');rw [hp] at this;simp at this⟩
  have hS:=StepsL.get hsteps hil;rw [Nat.zero_add] at hS;refine hS a v W hD hb K fun x W' hb' hx=>?_;have hg:∀k,(listed.setIfInBounds i true).getD k false=if k=i then true else listed.getD k false:=fun k=>aAn _ _ _ hltl
  have hunf:listed.getD i false=false:=by
   have:listed[i]=false:=by simpa [hltl] using hun
   simp [hltl,this]
  have:=hK (fun k=>if k=i then x else v k) W' (fun k hk=>by
   by_cases e:k=i
   ·rw [e,hunf] at hk;cases hk
   ·rw [if_neg e]) ⟨hb.trans (hb'.mono hb.size),by simpa using hsz,(fun k hk hl=>by
    rw [hg] at hl;by_cases e:k=i
    ·rw [if_pos e,e];exact hx
    ·rw [if_neg e] at hl ⊢;exact hR k _ W W' (hr k hk hl) hb hb'),fun k c hk=>by
    by_cases e:k=i
    ·rw [if_pos e];rw [e] at hk;exact hRk i x W' c hx hk
    ·rw [if_neg e];exact hkn k c hk⟩
  rwa [if_pos rfl] at this
 ·intro v listed W hall hC;obtain ⟨hb,_,hr,_⟩:=hC;have:=hend v W hb fun k hk=>hr k hk (hall k (by simpa using hk));rw [←hF v] at this;simpa using this
theorem aRn {vals:List (Option Value)} {A:Nat→Value→World→Prop} (k:Nat) (x:Value) (W:World) (c:Value) (h:RT vals A k x W) (hk:vals[k]? =some (some c)):x=c:=by
 unfold RT at h;rw [hk] at h;exact h
end
end Go.Proofs.YtgjmbbkcgillcaaGreat.PhaseG
