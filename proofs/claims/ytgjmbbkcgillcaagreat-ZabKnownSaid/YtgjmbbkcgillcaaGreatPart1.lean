/- Lemmas, part 1: Words, CrcBase, DiskPure, DiskBase, Put -/
import Derived.WalkKit
import Derived.Lib.Hide
import Derived.Laws.CopyOwn
import Derived.Test.YtgjmbbkcgillcaaGreatRows
import Derived.Lib.SlBytesConst
import Derived.ProofKit
import Derived.OpenShut
import Derived.KernelRfl
import Derived.Deep.MidRow
import Derived.Laws.OwnMore
import Derived.Test.YtgjmbbkcgillcaaGreatChecked
set_option maxHeartbeats 16000000
namespace Go.Proofs.YtgjmbbkcgillcaaGreat
open Go.RowKit
def U (b:UInt8):Value:=.int .u8 (b.toNat:Int)
theorem aM9 (bs:List UInt8):∀v∈bs.map U,v.oneCell'=true:=by
 intro v hv;obtain ⟨b,_,rfl⟩:=List.mem_map.1 hv;rfl
theorem aAa (a:Addr) (k:Nat):(a.add k).block=a.block:=by
 unfold Addr.add;split<;>rfl
theorem aNd (a:Addr) (i j:Nat):(a.add i).add j=a.add (i+j):=by
 unfold Addr.add;by_cases h1:i=0
 ·simp [h1]
 ·by_cases h2:j=0
  ·simp [h2]
  ·simp [h1,h2,Nat.add_assoc]
structure Rd (w:World) (A:Option Addr) (n:Nat) (bs:List UInt8):Prop where
 len:bs.length=n
 cells:0<n→∃ad,A=some ad∧∀j b,bs[j]? =some b→w.cell? (ad.add j)=some (U b)
theorem Rd.nil_ (w:World) (A:Option Addr):Rd w A 0 []:=⟨rfl,fun h=>absurd h (by omega)⟩
theorem Rd.keep {w w':World} {A:Option Addr} {n:Nat} {bs:List UInt8} (h:Rd w A n bs)
  (hk:∀(p:Addr) (b:UInt8),w.cell? p=some (U b)→w'.cell? p=some (U b)):Rd w' A n bs:=
 ⟨h.len,fun hn=>by
  obtain ⟨ad,e,hc⟩:=h.cells hn;exact ⟨ad,e,fun j b hb=>hk _ _ (hc j b hb)⟩⟩
theorem Rd.below {w w':World} {A:Option Addr} {n:Nat} {bs:List UInt8} (h:Rd w A n bs) (hb:Below w.heap.size w w'):Rd w' A n bs:=
 h.keep fun p _ hp=>(hb.cell (World.block_lt_of_cell? w p hp)).trans hp
def Bk (w:World) (g:Nat) (t:TypeId) (cs:Array Value):Prop:=w.heap[g]? =some (.cells cs t (0,0))
theorem Bk.lt {w:World} {g:Nat} {t:TypeId} {cs:Array Value} (h:Bk w g t cs):g<w.heap.size:=(Array.getElem?_eq_some_iff.1 h).1
theorem Bk.cell {w:World} {g:Nat} {t:TypeId} {cs:Array Value} (h:Bk w g t cs) (i:Nat):w.cell? ⟨g,i,none⟩=cs[i]? :=by
 unfold Bk at h;simp [World.cell?,h]
theorem Bk.frozen {w:World} {g:Nat} {t:TypeId} {cs:Array Value} (h:Bk w g t cs) (i:Nat):w.frozen? ⟨g,i,none⟩=false:=by
 unfold Bk at h;simp [World.frozen?,h]
theorem Bk.kept {w w':World} {g:Nat} {t:TypeId} {cs:Array Value} (h:Bk w g t cs) (hb:w'.heap[g]? =w.heap[g]?):Bk w' g t cs:=hb.trans h
theorem Bk.below {w w':World} {g:Nat} {t:TypeId} {cs:Array Value} (h:Bk w g t cs) (hb:Below w.heap.size w w'):Bk w' g t cs:=h.kept (hb.block g h.lt)
theorem Bk.alloc {w:World} {g:Nat} {t:TypeId} {cs:Array Value} (h:Bk w g t cs) (o:Obj):Bk (w.alloc o) g t cs:=h.kept (Below.heap_alloc w o g h.lt)
theorem Bk.new (w:World) (t:TypeId) (cs:Array Value):Bk (w.alloc (.cells cs t)) w.heap.size t cs:=heap_alloc_new w _
theorem Bk.set {w:World} {g:Nat} {t:TypeId} {cs:Array Value} (h:Bk w g t cs) (i:Nat) (u:Value):Bk (w.setCell ⟨g,i,none⟩ u) g t (cs.setIfInBounds i u):=by
 unfold Bk at h ⊢;simp [World.setCell,Array.getElem?_modify,h]
theorem aG2 {w:World} {g:Nat} {t:TypeId} {cs:Array Value} (h:Bk w g t cs) (hn:∀(i:Nat) (b:UInt8),cs[i]?≠some (U b))
  {p:Addr} {b:UInt8} (hp:w.cell? p=some (U b)):p.block≠g:=by
 rintro rfl;unfold Bk at h;simp only [World.cell?,h] at hp;split at hp
 ·cases hp
 ·exact hn _ _ hp
theorem Rd.setCell {w:World} {g:Nat} {t:TypeId} {cs:Array Value} (h:Bk w g t cs) (hn:∀(i:Nat) (b:UInt8),cs[i]?≠some (U b))
  {A:Option Addr} {n:Nat} {bs:List UInt8} (hr:Rd w A n bs) (i:Nat) (u:Value):Rd (w.setCell ⟨g,i,none⟩ u) A n bs:=
 hr.keep fun p _ hp=>(World.cell?_of_block (Below.heap_setCell w _ u p.block (aG2 h hn hp))).trans hp
theorem Rd.take {w:World} {A:Option Addr} {n:Nat} {bs:List UInt8} (h:Rd w A n bs) {k:Nat} (hk:k≤n):Rd w A k (bs.take k):=
 ⟨by rw [List.length_take,h.len];omega,fun h0=>by
  obtain ⟨ad,e,hc⟩:=h.cells (by omega);refine ⟨ad,e,fun j b hb=>hc j b ?_⟩;rw [List.getElem?_take] at hb;split at hb
  ·exact hb
  ·cases hb⟩
theorem Rd.drop {w:World} {A:Option Addr} {n:Nat} {bs:List UInt8} (h:Rd w A n bs) {k c:Nat} (hk:k≤n) (hc:n≤c):
  Rd w (if c=k then A else A.map (·.add k)) (n - k) (bs.drop k):=
 ⟨by rw [List.length_drop,h.len],fun h0=>by
  obtain ⟨ad,rfl,hcell⟩:=h.cells (by omega);rw [if_neg (by omega)];refine ⟨ad.add k,rfl,fun j b hb=>?_⟩;rw [aNd];rw [List.getElem?_drop] at hb;exact hcell _ b hb⟩
theorem Rd.of_own {w:World} {base:Nat} {e:TypeId} {A:Option Addr} {n m c:Nat} {bs:List UInt8} (h:w.ownsRow base e 1 (.slice A n c) m (bs.map U)):Rd w A n bs∧n=m:=by
 have hl:=h.1;simp at hl;rcases h.2 with ⟨e1,rfl⟩|⟨g,cap,cur,e1,_,hh,hnc,_,hs,ht⟩
 ·injection e1 with e1 e2 e3;subst e2;exact ⟨⟨hl,fun h0=>absurd h0 (by omega)⟩,rfl⟩
 ·injection e1 with e1 e2 e3;subst e1 e2 e3;refine ⟨⟨hl,fun _=>⟨_,rfl,fun j b hb=>?_⟩⟩,rfl⟩;have hj:j<n:=by
   have:=(List.getElem?_eq_some_iff.1 hb).1;omega
  have:w.cell? ⟨g,0+j,none⟩=some (U b):=by
   simp only [World.cell?,hh];rw [Nat.mul_one] at ht;have h2:(cur.toList.take n)[j]? =some (U b):=by rw [ht,List.getElem?_map,hb];rfl
   rw [List.getElem?_take,if_pos hj] at h2;simpa using h2
  unfold Addr.add;by_cases hj0:j=0
  ·subst hj0;simpa using this
  ·simpa [hj0] using this
theorem bAx {P:Program} {e:TypeId} {i:TypeInfo} (h1:P.info? e=some i) (h2:i.size=1):(P.info? e).map (·.size)=some 1:=by simp [h1,h2]
def S (bs:List UInt8):ByteArray:=⟨bs.toArray⟩
theorem aKa (b:UInt8):UInt8.ofNat ((b.toNat:Int)).toNat=b:=by simp
theorem bBy (bs:List UInt8):(bs.map fun b=>(b.toNat:Int)).foldl (fun r n=>r.push (UInt8.ofNat n.toNat)) ByteArray.empty=S bs:=by
 rw [foldl_push_bytes];have:(List.map (fun n:Int=>UInt8.ofNat n.toNat) (bs.map fun b:UInt8=>(b.toNat:Int)))=bs:=by
  rw [List.map_map];refine (List.map_congr_left (g:=id) (fun b _=>?_)).trans (List.map_id bs);exact aKa b
 rw [this];simp [ByteArray.empty,ByteArray.emptyWithCapacity,S];rfl
theorem aDo {P:Program} {w:World} {A:Option Addr} {n:Nat} {bs:List UInt8} (src dst e:TypeId) (hs:P.underlying src=some (.slice e)) (he:P.underlying e=some (.int .u8)) (hd:P.underlying dst=some .string)
  (h:Rd w A n bs) (c:Nat):(convert src dst (.slice A n c)).run P w=.ok (.string (S bs)) w:=by
 have hl:=h.len;by_cases h0:0<n
 ·obtain ⟨ad,rfl,hc⟩:=h.cells h0;have h1:(loadCells ad n).run P w=.ok ((bs.map fun b:UInt8=>(b.toNat:Int)).map (Value.int .u8)).toArray w:=by
   have:=run_loadCells_list (P:=P) w ad (bs.map U) (fun j v hj=>by
    rw [List.getElem?_map] at hj;cases hb:bs[j]? with
    |none=>rw [hb] at hj;cases hj
    |some b=>
     rw [hb] at hj;injection hj with hj;subst hj;exact hc j b hb)
   rw [List.length_map,hl] at this;rw [this,List.map_map];rfl
  rw [run_convert_bytes_string w src dst e _ n c hs he hd,run_bytesToString w _ n c _ h1,bBy]
 ·have hn:n=0:=by omega
  subst hn;have hb:bs=[]:=List.eq_nil_of_length_eq_zero hl;subst hb;rw [run_convert_bytes_string w src dst e _ 0 c hs he hd];cases A with
  |none=>
   simp [Conv.bytesToString,S,ByteArray.empty,ByteArray.emptyWithCapacity];rfl
  |some ad=>
   have h1:(loadCells ad 0).run P w=.ok (([]:List Int).map (Value.int .u8)).toArray w:=by simp [loadCells,loadCellsFrom]
   rw [run_bytesToString w _ 0 c _ h1];rfl
theorem aC1 {P:Program} {t e:TypeId} {i:TypeInfo} (ht:P.underlying t=some (.slice e)) (hi:P.info? e=some i) (hz:i.zero=some (.int .u8 0)) (hs:i.size=1) (hb:i.bytes=1)
  (kl kc:IntKind) (n:Nat) (C:Int) (hn:n≤C) (hC:C≤281474976710656) (w:World):
  (Instr.makeSlice t (.int kl (n:Int)) (.int kc C)).run P w=.ok (.slice (some ⟨w.heap.size,0,none⟩) n C.toNat) (w.alloc (.cells (List.replicate C.toNat (U 0)).toArray e)):=by
 have hr:=run_make (P:=P) w t e i _ ht hi hz kl kc n C (by omega) hn (by rw [hb];omega) (by omega);rw [hr,hs,Nat.mul_one];have h1:madeCells (Value.int .u8 0).cells C.toNat=(List.replicate C.toNat (U 0)).toArray:=by
  have:=toList_madeCells_one (Value.int .u8 0) C.toNat;rw [←Array.toList_inj];exact this
 rw [h1];simp
theorem aN4 (w:World) (cur cs:Array Value) (e:TypeId):(w.alloc (.cells cur e)).setRow w.heap.size cs=w.alloc (.cells cs e):=by
 unfold World.setRow World.alloc;simp only [World.mk.injEq,and_true];apply Array.ext_getElem?
 intro k;rw [Array.getElem?_modify,Array.getElem?_push,Array.getElem?_push];by_cases hk:k=w.heap.size
 ·subst hk;simp
 ·have:w.heap.size≠k:=fun h=>hk h.symm;simp [this,hk]
theorem aPu {P:Program} {w:World} {dT sT ty e:TypeId} {A:Option Addr} {n:Nat} {bs:List UInt8} (hu:P.underlying dT=some (.slice e)) (hs:(P.info? e).map (·.size)=some 1)
  (h:Rd w A n bs) (cur:List Value) (hcur:n≤cur.length) (C c:Nat):
  (Builtin.copy_ #[dT,sT] ty #[.slice (some ⟨w.heap.size,0,none⟩) n C,.slice A n c]).run P (w.alloc (.cells cur.toArray e))=.ok (.int .i64 (n:Int)) (w.alloc (.cells (bs.map U++cur.drop n).toArray e)):=by
 have hl:=h.len;by_cases h0:0<n
 ·obtain ⟨ad,rfl,hc⟩:=h.cells h0;have:=run_copy_row P (w.alloc (.cells cur.toArray e)) dT sT ty e w.heap.size 0 n C ad n c cur.toArray e (bs.map U) hu hs (heap_alloc_new w _) (by simp [hl])
   (fun j v hj=>by
    rw [List.getElem?_map] at hj;cases hb:bs[j]? with
    |none=>rw [hb] at hj;cases hj
    |some b=>
     rw [hb] at hj;injection hj with hj;subst hj;have hx:=hc j b hb;rw [World.cell?_alloc_lt _ _ _ (World.block_lt_of_cell? w _ hx)];exact hx)
   (by simp [hl];exact hcur) (aM9 bs)
  rw [this,aN4];simp [hl,goInt]
 ·have hn:n=0:=by omega
  subst hn;have hb:bs=[]:=List.eq_nil_of_length_eq_zero hl;subst hb;have:=run_copy_none (P:=P) (w.alloc (.cells cur.toArray e)) dT sT ty e (some ⟨w.heap.size,0,none⟩) A 0 C 0 c hu hs (by simp);rw [this];simp [goInt]
def be:Nat→Nat→List UInt8
 |0,_=>[]
 |k+1,x=>UInt8.ofNat (x / 256^k)::be k x
theorem aA1 (k x:Nat):(be k x).length=k:=by
 induction k with
 |zero=>rfl
 |succ k ih=>simp [be,ih]
theorem bAj (w:World) (z:Value) (e:TypeId):∀j u,[z][j]? =some u→(w.alloc (.cells #[z] e)).cell? ((⟨w.heap.size,0,none⟩:Addr).add j)=some u:=by
 intro j u hu;have hj:j=0:=by
  have:=(List.getElem?_eq_some_iff.1 hu).1;simp at this;omega
 subst hj;simp [Addr.add] at hu ⊢;exact hu
theorem aS0 (x r:Nat):Value.int .u8 ((x:Int) / 2^(8*r) % 256)=U (UInt8.ofNat (x / 256^r)):=by
 unfold U
 congr 1
 have h:(2:Nat)^(8*r)=256^r:=by rw [Nat.pow_mul]
 have h2:((x:Int) / 2^(8*r) % 256)=((x / 2^(8*r) % 256:Nat):Int):=by simp
 rw [h2,h];simp
theorem bA2 (k x r:Nat) (hr:r<k):(be k x).take (k - r)=(be k x).take (k - (r+1))++[UInt8.ofNat (x / 256^r)]:=by
 induction k with
 |zero=>omega
 |succ k ih=>
  by_cases h:r=k
  ·subst h;simp [be,show r+1 - r=1 from by omega]
  ·have e1:k+1 - r=(k - r)+1:=by omega
   have e2:k+1 - (r+1)=(k - (r+1))+1:=by omega
   rw [e1,e2];simp only [be,List.take_succ_cons,List.cons_append];rw [ih (by omega)]
theorem aG3 {P:Program} {w:World} {t ty e:TypeId} {i:TypeInfo} {z:Value} (ht:P.underlying t=some (.slice e)) (hi:P.info? e=some i) (hz:i.zero=some z) (hs:i.size=1) (hb:i.bytes=1) (hzs:z.cells.size=1)
  {base:Nat} {v:Value} {n:Nat} {xs:List Value} (hown:w.ownsRow base e 1 v n xs) {A:Option Addr} {m:Nat} {bs:List UInt8} (h:Rd w A m bs) (c:Nat) (hm:n+m≤140737488355328) (hbase:base≤w.heap.size):
  ∃v' w',(Builtin.append_ #[t,t] ty #[v,.slice A m c]).run P w=.ok v' w'∧w'.ownsRow base e 1 v' (n+m) (xs++bs.map U)∧w.grownBy w' v.ownBlock:=by
 have hl:=h.len;have hcells:∀ad,A=some ad→∀j u,(bs.map U)[j]? =some u→w.cell? (ad.add j)=some u:=by
  intro ad had j u hu;rw [List.getElem?_map] at hu;cases hb:bs[j]? with
  |none=>rw [hb] at hu;cases hu
  |some b=>
   rw [hb] at hu;injection hu with hu;subst hu;have h0:0<m:=by
    have:=(List.getElem?_eq_some_iff.1 hb).1;omega
   obtain ⟨ad',e',hc⟩:=h.cells h0;rw [had] at e';injection e' with e';subst e';exact hc j b hb
 cases A with
 |some ad=>
  obtain ⟨v',w',h1,h2,h3,_⟩:=run_append_own (P:=P) w base t ty e i z 1 1 ht hi hz hs hb hzs (by decide) v n xs hown ad m c (bs.map U) (by simp [hl]) (hcells ad rfl) (aM9 bs) (by unfold maxLen;omega) (by omega) hbase;exact ⟨v',w',h1,h2,h3⟩
 |none=>
  have hm0:m=0:=by
   rcases Nat.eq_zero_or_pos m with h0|h0
   ·exact h0
   ·obtain ⟨_,e',_⟩:=h.cells h0;cases e'
  subst hm0;have hb0:bs=[]:=List.eq_nil_of_length_eq_zero hl;subst hb0;refine ⟨v,w,?_,by simpa using hown,⟨rfl,rfl,rfl,Nat.le_refl _,fun _ _ _=>rfl⟩⟩;rcases hown.2 with ⟨rfl,rfl⟩|⟨g,cap,cur,rfl,_,_,hnc,_⟩
  ·simp [Builtin.append_,run_underlying ht,sizeOf,typeInfo,hi,Builtin.lenOf,Builtin.firstCells]
  ·simp [Builtin.append_,run_underlying ht,sizeOf,typeInfo,hi,Builtin.lenOf,Builtin.firstCells,hnc,storeCells]
theorem aCg {P:Program} {w:World} {ops:Array Oper} {rest:List Oper} {o:Oper} {a:Act} {Q:Exit→Act→World→Prop} (hgd:o.guard=none) (s x:Operand) (t:TypeId)
  (ho:o.op=.call {callee:=.builtin .append,args:=#[s,x],argTypes:=#[t,t]}) {e:TypeId} {i:TypeInfo} {z:Value} (ht:P.underlying t=some (.slice e)) (hi:P.info? e=some i) (hz:i.zero=some z) (hsz:i.size=1) (hb:i.bytes=1) (hzs:z.cells.size=1)
  {base:Nat} {v:Value} {n:Nat} {xs:List Value} (hs:a.eval s=v) (hown:w.ownsRow base e 1 v n xs) {A:Option Addr} {m c:Nat} {bs:List UInt8} (hx:a.eval x=.slice A m c) (h:Rd w A m bs) (hm:n+m≤140737488355328) (hbase:base≤w.heap.size)
  (hK:∀v' w',w'.ownsRow base e 1 v' (n+m) (xs++bs.map U)→w.grownBy w' v.ownBlock→wpList P ops Q rest (a.put o.dst v') w'):wpList P ops Q (o::rest) a w:=by
 obtain ⟨v',w',h1,h2,h3⟩:=aG3 (ty:=o.type) ht hi hz hsz hb hzs hown h c hm hbase;refine wpList_plain hgd fun K hK'=>?_;unfold Oper.wp execOp;simp only [ho,resolve,invoke,builtin,Sem.run_bind,Sem.run_pure,Result.andThen_ok,List.map_toArray,List.map_cons,List.map_nil,hs,hx,h1];exact hK' _ _ (hK v' w' h2 h3)
theorem aTq (w:World) (e:TypeId) (bs:List UInt8) (n m:Nat) (hl:bs.length=n) (hm:n+m≤maxLen):
  (w.alloc (.cells (bs.map U++List.replicate m (U 0)).toArray e)).ownsRow w.heap.size e 1 (.slice (some ⟨w.heap.size,0,none⟩) n (n+m)) n (bs.map U):=
 ⟨by simp [hl],.inr ⟨w.heap.size,n+m,_,rfl,Nat.le_refl _,heap_alloc_new w _,by omega,hm,by simp [hl],by simp [←hl]⟩⟩
end Go.Proofs.YtgjmbbkcgillcaaGreat
namespace Go.Proofs.YtgjmbbkcgillcaaGreat
open Go.ChangeShapes Go.WideShapes Go.ChangeAt Go.RowKit
theorem aBh:(Tryz.prog.info? 5).map (fun i=>(i.zero,i.size,i.bytes))=some (some (.int .u8 0),1,1):=by kernel_rfl
theorem aAt:Tryz.prog.underlying 37=some (.slice 5):=by kernel_rfl
theorem aJ7:Tryz.prog.underlying 5=some (.int .u8):=by kernel_rfl
theorem aJa:Tryz.prog.underlying 9=some .string:=by kernel_rfl
theorem aH8 (w:World) (e:TypeId) (fr:Nat×Nat) (bs:List UInt8):Rd (w.alloc (.cells (bs.map U).toArray e fr)) (some ⟨w.heap.size,0,none⟩) bs.length bs:=
 ⟨rfl,fun _=>⟨_,rfl,fun j b hb=>by
  have hh:(w.alloc (.cells (bs.map U).toArray e fr)).heap[w.heap.size]? =some (.cells (bs.map U).toArray e fr):=heap_alloc_new w _;have:((⟨w.heap.size,0,none⟩:Addr).add j)=⟨w.heap.size,j,none⟩:=by
   unfold Addr.add;split
   ·next h=>rw [h]
   ·simp
  rw [this];unfold World.cell?;rw [hh];simp [hb]⟩⟩
theorem aDg (w:World) (C:Array Value) (n c:Nat):(convert 37 37 (.slice (some ⟨w.heap.size,0,none⟩) n c)).run Tryz.prog (w.alloc (.cells C 5))=.ok (.slice (some ⟨w.heap.size,0,none⟩) n c) (w.alloc (.cells C 5 (C.size,C.size+1))):=Lib.run_convert_bytes_const (P:=Tryz.prog) w 37 5 C n c aAt aJ7
theorem aB1 {w:World} {A:Option Addr} {n:Nat} {bs:List UInt8} (h:Rd w A n bs) (c:Nat):(convert 37 9 (.slice A n c)).run Tryz.prog w=.ok (.string (S bs)) w:=aDo (P:=Tryz.prog) 37 9 5 aAt aJ7 aJa h c
theorem own:ownKnob Tryz.prog.godebug=none:=by kernel_rfl
theorem aU9:laidOutB Tryz.prog=true:=by kernel_rfl
theorem aU7:Tryz.prog.underlying 4=some .bool:=by kernel_rfl
theorem bCf:Tryz.prog.underlying 33=some (.int .u64):=by kernel_rfl
theorem aS2:Tryz.prog.cellsOf 5=1:=by kernel_rfl
section
variable {H:Type} {enc:TypeId×Value→H} {P:Program}
theorem aM3 (hl:laidOutB P=true) {W W':World} (hb:Below W.heap.size W W'):∀(ts:List TypeId) (vs:List Value) (ds:List (DataW H)) (ps:List MemPlace),
  ts.all (fun t=>P.readableRec t&&decide (t<P.types.size))=true→(∀x∈ps,x.block<W.heap.size)→DataW.TrodAll enc P W 0 (fun _=>true) true ts vs ds ps→DataW.TrodAll enc P W' 0 (fun b=>decide (b<W.heap.size)) true ts vs ds ps:=by
 intro ts
 induction ts with
 |nil=>
  intro vs ds ps _ _ h;obtain ⟨rfl,rfl,rfl⟩:=trodAll_nil h;exact trodAll_mk0
 |cons t ts ih=>
  intro vs ds ps hr hlt h;obtain ⟨v,vs',d,ds',p,q,rfl,rfl,rfl,h1,h2⟩:=trodAll_cons h;rw [List.all_cons,Bool.and_eq_true,Bool.and_eq_true,decide_eq_true_iff] at hr;exact trodAll_cons_mk (Below.trod hl hr.1.1 hr.1.2 h1 hb (fun x hx=>hlt x (List.mem_append_left _ hx))) (ih _ _ _ hr.2 (fun x hx=>hlt x (List.mem_append_right _ hx)) h2)
theorem aOd {f:Func} {s:ChangeSpec} {tb:TypeId} {W W':World} {args:Array Value} {ds gs:List (DataW H)} {before:List MemPlace} (hl:laidOutB P=true)
  (hr:f.params.toList.all (fun t=>P.readableRec t&&decide (t<P.types.size))=true) (hbool:P.underlying tb=some .bool) (hres:f.resultTypes=#[tb]) (hv:s.vars=[])
  (hW:DataW.Whole enc P f.params.toList s.vars false W args.toList ds gs before) (hb:Below W.heap.size W W') (hfn:s.fn H (ds++gs)={results:=[.lit (.bool true)],args:=ds}):
  s.post enc P f false true false false W args (.bool true) W':=by
 have hW0:=hW;obtain ⟨p,q,hA,hV,rfl,_,_⟩:=hW;rw [hv] at hV;obtain ⟨rfl,rfl⟩:=trodVars_none hV;rw [List.append_nil] at hW0;refine ⟨ds,[],p,[],p,[],hW0,?_,?_,?_,hb.frame _,fun h=>by cases h⟩
 ·rw [hfn,hres];exact trodAll_cons_mk (shut_bool hbool true) trodAll_mk0
 ·rw [hfn];exact aM3 hl hb _ _ _ _ hr (fun x hx=>hW0.lt x hx) hA
 ·rw [hfn,hv];rfl
theorem aT3 {t e:TypeId} (ht:P.underlying t=some (.slice e)) (he:P.underlying e=some (.int .u8)) (hc:P.cellsOf e=1) {w:World} {base b0:Nat} {r:Reach} {spare:Nat→Bool} {held:Bool} {v:Value} {d:DataW H} {ps:List MemPlace}
  (hv:Value.okWide P w r b0 t v) (h:DataW.Trod enc P w base spare held t v d ps):∃A n c bs,v=.slice A n c∧n≤c∧c≤maxLen∧Rd w A n bs:=by
 obtain ⟨A,n,c,rfl⟩:=okWide_slice ht hv;obtain ⟨fuel,h⟩:=h;rcases open_ints ht he hc h with ⟨hcs,_⟩|⟨a,len,cap,zs,hcs,_,hl,hm,hz,_,hcell,hwf⟩
 ·simp [Value.cells] at hcs;obtain ⟨rfl,rfl,rfl⟩:=hcs;exact ⟨none,0,0,[],rfl,Nat.le_refl _,Nat.zero_le _,Rd.nil_ _ _⟩
 ·simp [Value.cells] at hcs;obtain ⟨rfl,rfl,rfl⟩:=hcs;have hzl:n≤zs.length:=by rw [hz];split<;>omega
  refine ⟨some a,n,c,(zs.take n).map (fun z=>UInt8.ofNat z.toNat),rfl,hl,hm,⟨by simp;omega,fun _=>⟨a,rfl,fun j b hb=>?_⟩⟩⟩;rw [List.getElem?_map,List.getElem?_take] at hb;split at hb
  ·next hj=>
   have hjl:j<zs.length:=by omega
   rw [List.getElem?_eq_getElem hjl] at hb;injection hb with hb;rw [hcell j hjl,←hb];have hw:=hwf zs[j] (List.getElem_mem hjl);simp [Lit.wf,IntKind.min,IntKind.max,IntKind.signed,IntKind.bits] at hw;unfold U
   congr 2
   rw [List.getD_eq_getElem?_getD,List.getElem?_eq_getElem hjl];simp;omega
  ·cases hb
end
end Go.Proofs.YtgjmbbkcgillcaaGreat
namespace Go.Proofs.YtgjmbbkcgillcaaGreat.Disk
open Go.RowKit
structure DK where
 pages:List (List UInt8)
 row:List (Nat×List UInt8)
 dead:Bool
 left:Int
def seenL (row:List (Nat×List UInt8)) (k:Nat) (p:List UInt8):List UInt8:=row.foldl (fun s x=>if x.1=k then x.2 else s) p
def DK.seen (d:DK) (k:Nat):List UInt8:=seenL d.row k (d.pages.getD k [])
def lay1 (ps:List (List UInt8)) (x:Nat×List UInt8) (n:Nat):List (List UInt8):=ps.set x.1 (x.2.take n++(ps.getD x.1 []).drop n)
def lay (k:Nat→Nat):Nat→List (List UInt8)→List (Nat×List UInt8)→List (List UInt8)
 |_,ps,[]=>ps
 |i,ps,x::r=>lay k (i+1) (lay1 ps x (k i)) r
def takes (fates:List Int) (i:Nat):Nat:=match fates[i]? with
 |some z=>(z % 513).toNat
 |none=>0
def DK.fault (d:DK):Int:=if d.dead=true then 9 else 0
def DK.faultAt (d:DK) (k:Int):Int:=if d.dead=true then 9 else if k<0∨(d.pages.length:Int)≤k then 1 else 0
def DK.burn (d:DK):Int×DK:=if d.left=0 then (9,{d with dead:=true}) else if 0<d.left then (0,{d with left:=d.left - 1}) else (0,d)
def DK.write (d:DK) (k:Int) (b:List UInt8):Int×DK:=
 if d.faultAt k≠0 then (d.faultAt k,d) else if b.length≠512 then (1,d) else if d.burn.1≠0 then d.burn else (0,{d.burn.2 with row:=d.burn.2.row++[(k.toNat,b)]})
def DK.sync (d:DK):Int×DK:=
 if d.dead=true then (9,d) else if d.burn.1≠0 then d.burn else (0,{d.burn.2 with pages:=lay (fun _=>512) 0 d.pages d.row,row:=[]})
def DK.kill (d:DK):DK:={d with dead:=true}
def DK.restart (d:DK) (fates:List Int):DK:=⟨lay (takes fates) 0 d.pages d.row,[],false,-1⟩
def DK.new (n:Nat):DK:=⟨List.replicate n (List.replicate 512 0),[],false,-1⟩
def OkP (ps:List (List UInt8)):Prop:=∀b∈ps,b.length=512
def OkR (n:Nat) (r:List (Nat×List UInt8)):Prop:=∀x∈r,x.1<n∧x.2.length=512
structure Ok (d:DK):Prop where
 pages:OkP d.pages
 row:OkR d.pages.length d.row
 many:d.pages.length≤4096
 some_:1≤d.pages.length
 low:-9223372036854775808≤d.left
 high:d.left≤9223372036854775807
theorem OkP.get {ps:List (List UInt8)} (h:OkP ps) {k:Nat} (hk:k<ps.length):(ps.getD k []).length=512:=by
 rw [List.getD_eq_getElem?_getD,List.getElem?_eq_getElem hk];exact h _ (List.getElem_mem hk)
theorem aB7 (ps:List (List UInt8)) (x:Nat×List UInt8) (n:Nat):(lay1 ps x n).length=ps.length:=by simp [lay1]
theorem OkP.lay1 {ps:List (List UInt8)} (h:OkP ps) {x:Nat×List UInt8} (hk:x.1<ps.length) (hb:x.2.length=512) (n:Nat) (hn:n≤512):OkP (lay1 ps x n):=by
 intro b hm;unfold Disk.lay1 at hm;rcases List.mem_or_eq_of_mem_set hm with hm|hm
 ·exact h b hm
 ·have:=h.get hk;rw [hm,List.length_append,List.length_take,List.length_drop];omega
theorem aA9 (k:Nat→Nat):∀(r:List (Nat×List UInt8)) (i:Nat) (ps:List (List UInt8)),(lay k i ps r).length=ps.length
 |[],_,_=>rfl
 |x::r,i,ps=>by rw [lay,aA9 k r,aB7]
theorem OkP.lay {k:Nat→Nat} (hk:∀i,k i≤512):∀{r:List (Nat×List UInt8)} {i:Nat} {ps:List (List UInt8)},OkP ps→OkR ps.length r→OkP (lay k i ps r)
 |[],_,_,h,_=>h
 |x::r,i,ps,h,hr=>by
  rw [Disk.lay];exact OkP.lay hk (h.lay1 (hr x List.mem_cons_self).1 (hr x List.mem_cons_self).2 _ (hk i)) (by rw [aB7];exact fun y hy=>hr y (List.mem_cons_of_mem _ hy))
theorem aGd (k:Nat→Nat):∀(r s:List (Nat×List UInt8)) (i:Nat) (ps:List (List UInt8)),lay k i ps (r++s)=lay k (i+r.length) (lay k i ps r) s
 |[],_,_,_=>rfl
 |x::r,s,i,ps=>by
  rw [List.cons_append,lay,lay,aGd k r s,List.length_cons]
  congr 1
  omega
theorem aFq (f:List Int) (i:Nat):takes f i≤512:=by
 unfold takes;split
 ·next z _=>
  have h1:=Int.emod_nonneg z (b:=513) (by decide);have h2:=Int.emod_lt_of_pos z (b:=513) (by decide);omega
 ·omega
theorem Ok.new {n:Nat} (h1:1≤n) (h2:n≤4096):Ok (DK.new n):=
 ⟨fun b hb=>(by have:=(List.mem_replicate.1 hb).2;rw [this,List.length_replicate]),fun x hx=>(nomatch hx),(by show (List.replicate n _).length≤4096;rw [List.length_replicate];exact h2),(by show 1≤(List.replicate n _).length;rw [List.length_replicate];exact h1),
  (by show -9223372036854775808≤(-1:Int);omega),(by show (-1:Int)≤9223372036854775807;omega)⟩
theorem Ok.burn {d:DK} (h:Ok d):Ok d.burn.2:=by
 have h1:=h.low;have h2:=h.high;unfold DK.burn;split
 ·exact ⟨h.pages,h.row,h.many,h.some_,h1,h2⟩
 ·split
  ·exact ⟨h.pages,h.row,h.many,h.some_,by show _≤d.left - 1;omega,by show d.left - 1≤_;omega⟩
  ·exact h
theorem aCv (d:DK):d.burn.2.pages=d.pages:=by unfold DK.burn;split<;>(try split)<;>rfl
theorem aEt (d:DK):d.burn.2.row=d.row:=by unfold DK.burn;split<;>(try split)<;>rfl
theorem Ok.set {d d':DK} (h:Ok d) (hp:d'.pages.length=d.pages.length) (h1:OkP d'.pages) (h2:OkR d.pages.length d'.row) (h3:-9223372036854775808≤d'.left) (h4:d'.left≤9223372036854775807):Ok d':=
 ⟨h1,hp ▸ h2,hp ▸ h.many,hp ▸ h.some_,h3,h4⟩
theorem aEi {d:DK} {k:Int} (h:d.faultAt k=0):d.dead=false∧0≤k∧k<d.pages.length:=by
 unfold DK.faultAt at h;split at h
 ·omega
 ·next hd=>
  split at h
  ·omega
  ·exact ⟨by simpa using hd,by omega,by omega⟩
theorem Ok.write {d:DK} (h:Ok d) (k:Int) (b:List UInt8):Ok (d.write k b).2:=by
 unfold DK.write;split
 ·exact h
 ·next hf=>
  split
  ·exact h
  ·next hb=>
   split
   ·exact h.burn
   ·have h0:=aEi (by simpa using hf);refine h.burn.set rfl h.burn.pages ?_ h.burn.low h.burn.high;rw [aCv];intro x hx;rcases List.mem_append.1 hx with hx|hx
    ·exact h.row x (aEt d ▸ hx)
    ·obtain rfl:=List.mem_singleton.1 hx;exact ⟨by have:=h0.2;show k.toNat<_;omega,by simpa using hb⟩
theorem Ok.sync {d:DK} (h:Ok d):Ok d.sync.2:=by
 unfold DK.sync;split
 ·exact h
 ·split
  ·exact h.burn
  ·exact h.set (aA9 _ _ _ _) (h.pages.lay (fun _=>Nat.le_refl _) h.row) (fun x hx=>by cases hx) h.burn.low h.burn.high
theorem Ok.restart {d:DK} (h:Ok d) (f:List Int):Ok (d.restart f):=
 h.set (aA9 _ _ _ _) (h.pages.lay (aFq f) h.row) (fun x hx=>by cases hx) (by show -9223372036854775808≤(-1:Int);omega) (by show (-1:Int)≤9223372036854775807;omega)
theorem aMv (r s:List (Nat×List UInt8)) (k:Nat) (p:List UInt8):seenL (r++s) k p=seenL s k (seenL r k p):=by unfold seenL;rw [List.foldl_append]
theorem aL6 {r:List (Nat×List UInt8)} {k:Nat} (h:∀x∈r,x.1≠k) (p:List UInt8):seenL r k p=p:=by
 induction r with
 |nil=>rfl
 |cons x r ih=>
  show seenL r k (if x.1=k then x.2 else p)=p;rw [if_neg (h x List.mem_cons_self)];exact ih fun y hy=>h y (List.mem_cons_of_mem _ hy)
theorem aNo {r:List (Nat×List UInt8)} {n k:Nat} (hr:OkR n r):∀{p:List UInt8},p.length=512→(seenL r k p).length=512:=by
 induction r with
 |nil=>exact fun h=>h
 |cons x r ih=>
  intro p hp;show (seenL r k (if x.1=k then x.2 else p)).length=512;refine ih (fun y hy=>hr y (List.mem_cons_of_mem _ hy)) ?_;split
  ·exact (hr x List.mem_cons_self).2
  ·exact hp
theorem Ok.seen {d:DK} (h:Ok d) {k:Nat} (hk:k<d.pages.length):(d.seen k).length=512:=aNo h.row (h.pages.get hk)
end Go.Proofs.YtgjmbbkcgillcaaGreat.Disk
namespace Go.Proofs.YtgjmbbkcgillcaaGreat.Disk
open Go.RowKit
structure Out (X:Nat→Prop) (w w':World):Prop where
 os:w'.os=w.os
 tape:w'.tape=w.tape
 output:w'.output=w.output
 size:w.heap.size≤w'.heap.size
 block:∀k,k<w.heap.size→¬X k→w'.heap[k]? =w.heap[k]?
theorem Out.of_below {X:Nat→Prop} {w w':World} (h:Below w.heap.size w w'):Out X w w':=⟨h.os,h.tape,h.output,h.size,fun k hk _=>h.block k hk⟩
theorem Out.refl (X:Nat→Prop) (w:World):Out X w w:=⟨rfl,rfl,rfl,Nat.le_refl _,fun _ _ _=>rfl⟩
theorem Out.trans {X X':Nat→Prop} {w w1 w2:World} (h1:Out X w w1) (h2:Out X' w1 w2) (hx:∀k,X' k→X k∨w.heap.size≤k):Out X w w2:=
 ⟨h2.os.trans h1.os,h2.tape.trans h1.tape,h2.output.trans h1.output,Nat.le_trans h1.size h2.size,fun k hk hX=>(h2.block k (Nat.lt_of_lt_of_le hk h1.size) (fun h=>(hx k h).elim hX (by omega))).trans (h1.block k hk hX)⟩
theorem Out.below {X:Nat→Prop} {B:Nat} {w0 w w':World} (h:Out X w w') (hb:Below B w0 w) (hX:∀k,X k→B≤k) (hB:B≤w.heap.size):Below B w0 w':=
 ⟨h.os.trans hb.os,h.tape.trans hb.tape,h.output.trans hb.output,Nat.le_trans hb.size h.size,fun k hk=>(h.block k (by omega) (fun hx=>by have:=hX k hx;omega)).trans (hb.block k hk)⟩
theorem Out.mono {X Y:Nat→Prop} {w w':World} (h:Out X w w') (hx:∀k,X k→Y k∨w.heap.size≤k):Out Y w w':=
 ⟨h.os,h.tape,h.output,h.size,fun k hk hY=>h.block k hk (fun hX=>(hx k hX).elim hY (by omega))⟩
theorem Out.setCell {X:Nat→Prop} (w:World) {p:Addr} (hp:X p.block) (u:Value):Out X w (w.setCell p u):=
 ⟨rfl,rfl,rfl,by simp [World.setCell],fun k _ hX=>Below.heap_setCell w p u k (fun e=>hX (e ▸ hp))⟩
theorem Out.setCells {X:Nat→Prop} {b:Nat} (hb:X b):∀(vs:List Value) (o:Nat) (w:World),Out X w (w.setCells b o vs)
 |[],_,w=>Out.refl X w
 |v::r,o,w=>by
  have h1:=Out.setCell w (p:=⟨b,o,none⟩) hb v;exact h1.trans (Out.setCells hb r (o+1) _) (fun k hk=>.inl hk)
theorem Out.alloc {X:Nat→Prop} (w:World) (o:Obj):Out X w (w.alloc o):=Out.of_below ((Below.refl w.heap.size w).alloc (Nat.le_refl _) o)
theorem Out.drew {X:Nat→Prop} {w w':World} (h:Out X w w'):Out X w w'.drew:=⟨h.os,h.tape,h.output,h.size,h.block⟩
theorem Out.cell {X:Nat→Prop} {w w':World} (h:Out X w w') {p:Addr} (hp:p.block<w.heap.size) (hX:¬X p.block):w'.cell? p=w.cell? p:=World.cell?_of_block (w:=w) (h.block p.block hp hX)
def rowV (r:List (Nat×List UInt8)):List Value:=r.flatMap fun x=>.int .i64 (x.1:Int)::x.2.map U
theorem aPd {n:Nat} {r:List (Nat×List UInt8)} (h:OkR n r):(rowV r).length=r.length*513:=by
 induction r with
 |nil=>rfl
 |cons x r ih=>
  have h1:=(h x List.mem_cons_self).2;have h2:=ih fun y hy=>h y (List.mem_cons_of_mem _ hy);unfold rowV at h2 ⊢;rw [List.flatMap_cons,List.length_append,h2,List.length_cons,List.length_map,h1,List.length_cons];omega
theorem aVv (r:List (Nat×List UInt8)) (x:Nat×List UInt8):rowV (r++[x])=rowV r++.int .i64 (x.1:Int)::x.2.map U:=by
 unfold rowV;rw [List.flatMap_append];simp
theorem bAr {n:Nat} {r:List (Nat×List UInt8)} (h:OkR n r):∀{i:Nat} {x:Nat×List UInt8},r[i]? =some x→∀j v,(.int .i64 (x.1:Int)::x.2.map U)[j]? =some v→(rowV r)[i*513+j]? =some v:=by
 induction r with
 |nil=>intro i x hx;simp at hx
 |cons y r ih=>
  have hy:=(h y List.mem_cons_self).2;have hr:OkR n r:=fun z hz=>h z (List.mem_cons_of_mem _ hz);have hl:(Value.int .i64 (y.1:Int)::y.2.map U).length=513:=by simp [hy]
  intro i x hx j v hv;have hrow:rowV (y::r)=(.int .i64 (y.1:Int)::y.2.map U)++rowV r:=by unfold rowV;rw [List.flatMap_cons]
  cases i with
  |zero=>
   simp only [List.getElem?_cons_zero,Option.some.injEq] at hx;subst hx;have hj:j<(Value.int .i64 (y.1:Int)::y.2.map U).length:=(List.getElem?_eq_some_iff.1 hv).1;rw [hrow,Nat.zero_mul,Nat.zero_add,List.getElem?_append_left hj];exact hv
  |succ i=>
   simp only [List.getElem?_cons_succ] at hx;have:=ih hr hx j v hv;have e1:(i+1)*513+j=i*513+j+513:=by omega
   rw [hrow,List.getElem?_append_right (by omega),hl,e1,Nat.add_sub_cancel];exact this
structure Pg (w:World) (p:Nat) (ps:List (List UInt8)):Prop where
 block:∃C,Bk w p 169 C∧C.size=ps.length*512
 cells:∀k b,ps[k]? =some b→w.rangeAt p (k*512) (b.map U)
theorem Pg.lt {w:World} {p:Nat} {ps:List (List UInt8)} (h:Pg w p ps):p<w.heap.size:=by
 obtain ⟨C,hC,_⟩:=h.block;exact hC.lt
theorem Pg.kept {w w':World} {p:Nat} {ps:List (List UInt8)} (h:Pg w p ps) (hb:w'.heap[p]? =w.heap[p]?):Pg w' p ps:=by
 obtain ⟨C,hC,hs⟩:=h.block;refine ⟨⟨C,hC.kept hb,hs⟩,fun k b hk j v hv=>?_⟩;rw [World.cell?_of_block (w:=w) (by exact hb)];exact h.cells k b hk j v hv
theorem Pg.there {w:World} {p:Nat} {ps:List (List UInt8)} (h:Pg w p ps) {o n:Nat} (hn:o+n≤ps.length*512):w.there p o n:=by
 obtain ⟨C,hC,hs⟩:=h.block;intro j hj;refine ⟨?_,hC.frozen _⟩;rw [hC.cell,Array.getElem?_eq_getElem (by omega)];rfl
structure At (w:World) (X:Nat→Prop) (g p:Nat) (A:Option Addr) (c:Nat) (d:DK):Prop where
 bk:Bk w g 119 #[.slice (some ⟨p,0,none⟩) d.pages.length d.pages.length,.slice A d.row.length c,.bool d.dead,.int .i64 d.left]
 pg:Pg w p d.pages
 own:w.ownsRow 0 171 513 (.slice A d.row.length c) d.row.length (rowV d.row)
 xg:X g
 xp:X p
 xr:∀a,A=some a→X a.block∧a.block≠g∧a.block≠p
 ne:g≠p
 ok:Ok d
 lt:∀k,X k→k<w.heap.size
def DkAt (w:World) (X:Nat→Prop) (g:Nat) (d:DK):Prop:=∃p A c,At w X g p A c d
theorem At.kept {w w':World} {X:Nat→Prop} {g p:Nat} {A:Option Addr} {c:Nat} {d:DK} (h:At w X g p A c d) (hb:∀k,X k→w'.heap[k]? =w.heap[k]?) (hs:w.heap.size≤w'.heap.size):At w' X g p A c d:=by
 refine ⟨h.bk.kept (hb g h.xg),h.pg.kept (hb p h.xp),⟨h.own.1,?_⟩,h.xg,h.xp,h.xr,h.ne,h.ok,fun k hk=>Nat.lt_of_lt_of_le (h.lt k hk) hs⟩;rcases h.own.2 with h1|⟨r,cap,cur,h1,h2,h3,h4⟩
 ·exact .inl h1
 ·refine .inr ⟨r,cap,cur,h1,h2,?_,h4⟩;injection h1 with e1;rw [hb r (by have:=(h.xr ⟨r,0,none⟩ e1).1;exact this)];exact h3
theorem At.out {w w':World} {X Y:Nat→Prop} {g p:Nat} {A:Option Addr} {c:Nat} {d:DK} (h:At w X g p A c d) (ho:Out Y w w') (hy:∀k,X k→¬Y k):At w' X g p A c d:=
 h.kept (fun k hk=>ho.block k (h.lt k hk) (hy k hk)) ho.size
theorem At.below {w w':World} {X:Nat→Prop} {g p:Nat} {A:Option Addr} {c:Nat} {d:DK} (h:At w X g p A c d) (hb:Below w.heap.size w w'):At w' X g p A c d:=
 h.kept (fun k hk=>hb.block k (h.lt k hk)) hb.size
theorem DkAt.out {w w':World} {X Y:Nat→Prop} {g:Nat} {d:DK} (h:DkAt w X g d) (ho:Out Y w w') (hy:∀k,X k→¬Y k):DkAt w' X g d:=by
 obtain ⟨p,A,c,h⟩:=h;exact ⟨p,A,c,h.out ho hy⟩
theorem DkAt.below {w w':World} {X:Nat→Prop} {g:Nat} {d:DK} (h:DkAt w X g d) (hb:Below w.heap.size w w'):DkAt w' X g d:=by
 obtain ⟨p,A,c,h⟩:=h;exact ⟨p,A,c,h.below hb⟩
theorem DkAt.ok {w:World} {X:Nat→Prop} {g:Nat} {d:DK} (h:DkAt w X g d):Ok d:=by
 obtain ⟨_,_,_,h⟩:=h;exact h.ok
theorem At.cells {w:World} {X:Nat→Prop} {g p:Nat} {A:Option Addr} {c:Nat} {d:DK} (h:At w X g p A c d):
  w.cell? ⟨g,0,none⟩=some (.slice (some ⟨p,0,none⟩) d.pages.length d.pages.length)∧w.cell? ⟨g,1,none⟩=some (.slice A d.row.length c)∧w.cell? ⟨g,2,none⟩=some (.bool d.dead)∧w.cell? ⟨g,3,none⟩=some (.int .i64 d.left)∧(∀i,w.frozen? ⟨g,i,none⟩=false):=
 ⟨h.bk.cell 0,h.bk.cell 1,h.bk.cell 2,h.bk.cell 3,h.bk.frozen⟩
end Go.Proofs.YtgjmbbkcgillcaaGreat.Disk
namespace Go.Proofs.YtgjmbbkcgillcaaGreat
open Go.RowKit
set_option maxRecDepth 100000 in
theorem aO8 (A:Option Addr) (n c:Nat) (m:Int) (bs:List UInt8) (w:World) (h:Rd w A n bs) (hm:0≤m) (hb:n+m≤1000000000000):
  Calls Tryz.prog 131 #[.slice A n c,.int .i64 m] w fun e w'=>
   e=.returned (.slice (some ⟨w.heap.size,0,none⟩) n (n+m.toNat))∧w'=w.alloc (.cells (bs.map U++List.replicate m.toNat (U 0)).toArray 5):=by
 obtain ⟨i0,hi,hz0,hz1,hz2⟩:=info_parts aBh;have hmk:=fun W=>aC1 (P:=Tryz.prog) aAt hi hz0 hz1 hz2 .i64 .i64 n (n+m) (by omega) (by omega) W;have hcp:=aPu (P:=Tryz.prog) (dT:=37) (sT:=37) (ty:=3) aAt (bAx hi hz1) h (List.replicate ((n:Int)+m).toNat (U 0)) (by simp;omega) ((n:Int)+m).toNat c;have hd:(List.replicate ((n:Int)+m).toNat (U 0)).drop n=List.replicate m.toNat (U 0):=by
  rw [List.drop_replicate];congr 1;omega
 rw [hd] at hcp;clear hi hz0 hz1 hz2 h hd;have hN:((n:Int)+m).toNat=n+m.toNat:=by omega
 rw [hN] at hmk hcp;generalize List.replicate (n+m.toNat) (U 0)=Z at hmk hcp;generalize List.map U bs++List.replicate m.toNat (U 0)=Y at hcp ⊢;clear hN;go_enter Tryz.func131,Tryz.ntmps131
 go_wp2_with fail;go_ret;exact ⟨rfl,rfl⟩
theorem aDx (base:Nat) (v:Value) (n k x:Nat) (xx kk:Int) (xs:List UInt8) (w:World) (hown:w.ownsRow base 5 1 v n (xs.map U)) (hxx:xx=x) (_hx:x<18446744073709551616) (hkk:kk=k) (hk:k≤8) (hn:n≤1000000000000) (hbase:base≤w.heap.size):
  Calls Tryz.prog 160 #[v,.int .u64 xx,.int .i64 kk] w fun e w'=>
   ∃v',e=.returned v'∧w'.ownsRow base 5 1 v' (n+k) ((xs++be k x).map U)∧Below base w w':=by
 subst hxx hkk;obtain ⟨i0,hi,hz0,hz1,hz2⟩:=info_parts aBh;have HI:=Lib.hid hi;have HZ0:=Lib.hid hz0;have HZ1:=Lib.hid hz1;have HZ2:=Lib.hid hz2;clear hi hz0 hz1 hz2;have HO:=Lib.hid hown;clear hown;go_enter Tryz.func160,Tryz.ntmps160
 go_wp2_with fail;go_loopw [0,7] (fun b l wr=>∃(r:Nat) (vv:Value),r≤k∧b=vv∧l=.int .i64 ((r:Int) - 1)∧wr.ownsRow base 5 1 vv (n+(k - r)) ((xs++(be k x).take (k - r)).map U)∧Below base w wr) (fun _ l _=>(intOf l+1).toNat)
 case atStart=>exact ⟨k,v,Nat.le_refl _,rfl,rfl,by simpa using HO.out,Below.refl _ _⟩
 case round=>
  obtain ⟨r,vv,hr,rfl,rfl,hown,hbel⟩:=hrel;have HO:=Lib.hid hown;clear hown;by_cases h0:0<r
  ·obtain ⟨r,rfl⟩:∃r',r=r'+1:=⟨r - 1,by omega⟩;go_wp2_with (at_builtin;refine wpList_append_own _ rfl (.tmp 14) (.tmp 20) _ rfl base 5 i0 _ 1 1 aAt HI.out HZ0.out HZ1.out HZ2.out rfl (by decide) _ (n+(k - (r+1))) _ rfl (HO.out.alloc _) ⟨wr.heap.size,0,none⟩ 1 1 _ rfl rfl (bAj _ _ _) (by simp [Value.oneCell']) (by unfold maxLen;omega) (by omega) (by simp;have:=hbel.size;omega) ?_)
   intro v' w1 hown1 hgr1 _;have hown2:w1.ownsRow base 5 1 v' (n+(k - r)) ((xs++(be k x).take (k - r)).map U):=by
    rw [bA2 k x r (by omega),show n+(k - r)=n+(k - (r+1))+1 from by omega,←List.append_assoc,List.map_append,List.map_cons,List.map_nil,←aS0];simpa using hown1
   have hb2:Below base w w1:=(hbel.alloc (by have:=hbel.size;omega) _).grown hgr1 (by simp;have:=hbel.size;omega) (fun g hg=>(HO.out.lt g hg).1);have HO1:=Lib.hid hown2;have HB:=Lib.hid hb2;clear hown1 hgr1 hown2 hb2;go_wp2_with fail;exact ⟨⟨r,v',by omega,rfl,rfl,HO1.out,HB.out⟩,by simp [intOf]⟩
  ·obtain rfl:r=0:=by omega
   go_wp2_with fail;go_ret;refine ⟨_,rfl,?_,hbel⟩;have:=HO.out;rwa [Nat.sub_zero,List.take_of_length_le (by rw [aA1];omega)] at this
def Put (w:World) (bs:List UInt8) (e:Ending) (w':World):Prop:=
 ∃A n c,e=.returned (.slice A n c)∧n=bs.length∧n≤c∧w'.ownsRow w.heap.size 5 1 (.slice A n c) n (bs.map U)∧Below w.heap.size w w'
theorem Put.of {w w':World} {bs:List UInt8} {v:Value} (h:w'.ownsRow w.heap.size 5 1 v bs.length (bs.map U)) (hb:Below w.heap.size w w'):Put w bs (.returned v) w':=by
 have h0:=h;rcases h.2 with ⟨rfl,hn⟩|⟨g,cap,cur,rfl,_,_,hnc,_⟩
 ·exact ⟨none,0,0,rfl,hn.symm,Nat.le_refl _,hn ▸ h0,hb⟩
 ·exact ⟨_,_,_,rfl,rfl,hnc,h0,hb⟩
theorem aBc (A:Option Addr) (n c:Nat) (m:Int) (bs:List UInt8) (w:World) (h:Rd w A n bs) (hm:0≤m) (hb:n+m≤1000000000000):
  Calls Tryz.prog 131 #[.slice A n c,.int .i64 m] w fun e w'=>
   e=.returned (.slice (some ⟨w.heap.size,0,none⟩) n (n+m.toNat))∧w'.ownsRow w.heap.size 5 1 (.slice (some ⟨w.heap.size,0,none⟩) n (n+m.toNat)) n (bs.map U)∧Below w.heap.size w w':=
 (aO8 A n c m bs w h hm hb).mono fun e w' ⟨he,hw⟩=>by
  subst hw;exact ⟨he,aTq w 5 bs n m.toNat h.len (by unfold maxLen;omega),(Below.refl _ _).alloc (Nat.le_refl _) _⟩
theorem aDy (A:Option Addr) (n c x:Nat) (xx:Int) (bs:List UInt8) (w:World) (h:Rd w A n bs) (hxx:xx=x) (hx:x<18446744073709551616) (hn:n≤500000000000):
  Calls Tryz.prog 120 #[.slice A n c,.int .u64 xx] w (Put w (bs++be 8 x)):=by
 have H:=Lib.hid h;have HX:=Lib.hid hx;have HE:=Lib.hid hxx;clear h hx hxx;go_enter Tryz.func120,Tryz.ntmps120
 go_wp2_with fail;refine (aBc A n c 8 bs w H.out (by omega) (by omega)).mono ?_;rintro e w1 ⟨rfl,hown1,hb1⟩;have HO1:=Lib.hid hown1;have HB1:=Lib.hid hb1;clear hown1 hb1;go_wp2_with fail;refine (aDx w.heap.size _ n 8 x xx 8 bs w1 HO1.out HE.out HX.out rfl (by omega) (by omega) HB1.out.size).mono ?_;rintro e w2 ⟨v,rfl,hown2,hb2⟩;have HO2:=Lib.hid hown2;have HB2:=Lib.hid hb2;clear hown2 hb2;go_wp2_with fail;go_ret;exact Put.of (by rw [List.length_append,H.out.len,aA1];exact HO2.out) (HB1.out.trans HB2.out)
theorem aRp (A:Option Addr) (n c x:Nat) (xx:Int) (bs:List UInt8) (w:World) (h:Rd w A n bs) (hxx:xx=x) (hx:x<256) (hn:n≤500000000000):
  Calls Tryz.prog 119 #[.slice A n c,.int .u8 xx] w (Put w (bs++be 1 x)):=by
 have H:=Lib.hid h;have HE:=Lib.hid hxx;have hx0:0≤xx:=by omega
 have hx1:xx<256:=by omega
 clear h hxx;go_enter Tryz.func119,Tryz.ntmps119
 go_wp2_with fail;refine (aBc A n c 1 bs w H.out (by omega) (by omega)).mono ?_;rintro e w1 ⟨rfl,hown1,hb1⟩;have HO1:=Lib.hid hown1;have HB1:=Lib.hid hb1;clear hown1 hb1;go_wp2_with fail;refine (aDx w.heap.size _ n 1 x xx 1 bs w1 HO1.out HE.out (by omega) rfl (by omega) (by omega) HB1.out.size).mono ?_;rintro e w2 ⟨v,rfl,hown2,hb2⟩;have HO2:=Lib.hid hown2;have HB2:=Lib.hid hb2;clear hown2 hb2;go_wp2_with fail;go_ret;exact Put.of (by rw [List.length_append,H.out.len,aA1];exact HO2.out) (HB1.out.trans HB2.out)
theorem aLo (A A2:Option Addr) (n c n2 c2:Nat) (bs ss:List UInt8) (w:World) (h:Rd w A n bs) (h2:Rd w A2 n2 ss) (hn:n≤100000000000) (hn2:n2≤100000000000):
  Calls Tryz.prog 121 #[.slice A n c,.slice A2 n2 c2] w (Put w (bs++(be 4 n2++ss))):=by
 obtain ⟨i0,hi,hz0,hz1,hz2⟩:=info_parts aBh;have HI:=Lib.hid hi;have HZ0:=Lib.hid hz0;have HZ1:=Lib.hid hz1;have HZ2:=Lib.hid hz2;clear hi hz0 hz1 hz2;have H:=Lib.hid h;have H2:=Lib.hid h2;clear h h2;go_enter Tryz.func121,Tryz.ntmps121
 go_wp2_with fail;refine (aBc A n c _ bs w H.out (by omega) (by omega)).mono ?_;rintro e w1 ⟨rfl,hown1,hb1⟩;have HO1:=Lib.hid hown1;have HB1:=Lib.hid hb1;clear hown1 hb1;go_wp2_with fail;refine (aDx w.heap.size _ n 4 n2 _ 4 bs w1 HO1.out rfl (by omega) rfl (by omega) (by omega) HB1.out.size).mono ?_;rintro e w2 ⟨v,rfl,hown2,hb2⟩;have HO2:=Lib.hid hown2;have HB2:=Lib.hid (HB1.out.trans hb2);clear hown2 hb2;go_wp2_with (at_builtin;refine aCg rfl (.tmp 16) (.tmp 17) _ rfl aAt HI.out HZ0.out HZ1.out HZ2.out rfl rfl HO2.out rfl (H2.out.below HB2.out) (by omega) HB2.out.size ?_)
 intro v' w3 hown3 hgr3;have HO3:=Lib.hid hown3;have HB3:=Lib.hid (HB2.out.grown hgr3 HB2.out.size (fun g hg=>(HO2.out.lt g hg).1));clear hown3 hgr3;go_wp2_with fail;go_ret;refine Put.of ?_ HB3.out;have h3:=HO3.out;have e1:(bs++(be 4 n2++ss)).length=n+4+n2:=by simp [H.out.len,H2.out.len,aA1];omega
 rw [e1];simpa using h3
end Go.Proofs.YtgjmbbkcgillcaaGreat
