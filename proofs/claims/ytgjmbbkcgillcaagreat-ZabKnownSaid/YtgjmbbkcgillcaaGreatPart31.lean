/- Lemmas, part 31: Shelf, Shelf3, BalCommit, ZabRepeat, ZabCount, Shelf4, ZabKeys -/
import Derived.Shelf.Small.Bits
import Derived.Shelf.Strconv.Itoa0
import Derived.Shelf.Bits.Mul64
import Derived.Ground.Names2Prog
import Derived.Shelf.Slices.Clone
import Derived.Shelf.Slices.SearchI
import Derived.Ground.SlgnProg
import Derived.Shelf.SlicesE.Clone
import Derived.Ground.SlgcProg
import Derived.Shelf.SlicesG.Cmp
import Derived.Ground.SlsfProg
import Derived.Shelf.SlSortCmp.Insertion
import Derived.Shelf.SlSortCmp.SiftDown1
import Derived.Shelf.SlSortCmp.HeapSort1
import Derived.Shelf.SlSortCmp.Insertion1
import Derived.Shelf.SlSortCmp.Median1
import Derived.Shelf.SlSortCmp.Pivot1
import Derived.Shelf.SlSortCmp.ReverseRange1
import Derived.Shelf.SlSortCmp.PartialInsertion1
import Derived.Shelf.SlSortCmp.PartitionEqual1
import Derived.Shelf.SlSortCmp.Partition1
import Derived.Test.YtgjmbbkcgillcaaGreatProg
import Derived.Shelf.SlSortCmp.NoneTotal
import Derived.Test.YtgjmbbkcgillcaaGreatPart30
import Derived.Test.YtgjmbbkcgillcaaGreatPart13
import Derived.Sort.OwnSortedInts
import Derived.Test.YtgjmbbkcgillcaaGreatPart29
import Derived.Laws.CopyOwn
import Derived.Laws.MakeOwn
import Derived.Maps.RangeWalk
import Derived.Deep.RegionHeld3
import Derived.Shelf.SlIterI.Nil
import Derived.Shelf.SortM.Plain
import Derived.Shelf.SortM.SortNone
import Derived.Lib.SlKeysI
import Derived.Test.YtgjmbbkcgillcaaGreatPart5
set_option maxHeartbeats 16000000
namespace Go.Proofs
open Go.Shelf
def Tryz.lays212_ren:Go.Shelf.Ren:=⟨fun|212=>147|263=>170|264=>171|n=>n,fun|46=>178|51=>233|146=>234|53=>33|148=>236|n=>n,fun|n=>n⟩
theorem Tryz.lays212:Go.Proofs.Lays.n212 Tryz.prog Tryz.lays212_ren:={
 mixed:=by kernel_rfl
 f212:=Tryz.func147.trans (congrArg some (by kernel_rfl))
 f263:=Tryz.func170.trans (congrArg some (by kernel_rfl))
 f264:=Tryz.func171.trans (congrArg some (by kernel_rfl))
 t46:=Tryz.underlying178
 a46:=Tryz.isAgg178
 z46:=Tryz.sizeOf178
 v46:=Tryz.zeroValue178
 t51:=Tryz.underlying233
 a51:=Tryz.isAgg233
 z51:=Tryz.sizeOf233
 v51:=Tryz.zeroValue233
 t53:=Tryz.underlying33
 a53:=Tryz.isAgg33
 z53:=Tryz.sizeOf33
 v53:=Tryz.zeroValue33
 t146:=Tryz.underlying234
 a146:=Tryz.isAgg234
 z146:=Tryz.sizeOf234
 v146:=Tryz.zeroValue234
 t148:=Tryz.underlying236
 a148:=Tryz.isAgg236
 z148:=Tryz.sizeOf236
 v148:=Tryz.zeroValue236}
open Go.RowKit Go.Lib in
theorem Tryz.bits_Mul (x y:Nat) (hx:x<18446744073709551616) (hy:y<18446744073709551616) (w:World):
  Calls Tryz.prog 147 #[.int .u64 x,.int .u64 y] w fun e w'=>e=.returned (.tuple #[.int .u64 ((x*y / 18446744073709551616:Nat):Int),.int .u64 ((x*y % 18446744073709551616:Nat):Int)])∧w'=w:=Any.bits_Mul Tryz.lays212 x y hx hy w
def Tryz.laysNm215_ren:Go.Shelf.Ren:=⟨fun|15=>148|n=>n,fun|22=>84|3=>3|4=>4|n=>n,fun|n=>n⟩
theorem Tryz.laysNm215:Go.Proofs.Lays2.n15 Tryz.prog Tryz.laysNm215_ren:={
 mixed:=by kernel_rfl
 f15:=Tryz.func148.trans (congrArg some (by kernel_rfl))
 t3:=Tryz.underlying3
 a3:=Tryz.isAgg3
 z3:=Tryz.sizeOf3
 v3:=Tryz.zeroValue3
 t4:=Tryz.underlying4
 a4:=Tryz.isAgg4
 z4:=Tryz.sizeOf4
 v4:=Tryz.zeroValue4
 t22:=Tryz.underlying84
 a22:=Tryz.isAgg84
 z22:=Tryz.sizeOf84
 v22:=Tryz.zeroValue84
 i3:=by kernel_rfl}
open Go.RowKit Go.Lib in
theorem Tryz.slices_Clone_int (b off n c:Nat) (zs:List Int) (w:World) (hz:n≤zs.length) (hbig:n*8≤140737488355328) (hc:∀j,j<zs.length→w.cell? ⟨b,off+j,none⟩=some (.int .i64 (zs.getD j 0))):
  Calls Tryz.prog 148 #[.slice (some ⟨b,off,none⟩) n c] w fun e w'=>∃v',e=.returned v'∧w'.ownsRow w.heap.size 3 1 v' n ((zs.take n).map (Value.int .i64))∧v'≠.slice none 0 0∧Below w.heap.size w w':=Any.slices_Clone_int Tryz.laysNm215 b off n c zs w hz hbig hc
end Go.Proofs
namespace Go.Proofs
open Go.Shelf
def Tryz.sortF_ren:Go.Shelf.Ren:=⟨fun|6=>149|15=>173|14=>172|28=>203|29=>204|20=>195|21=>196|22=>197|23=>198|24=>199|25=>200|26=>201|27=>202|46=>230|47=>231|48=>232|49=>233|50=>234|57=>247|n=>n,fun|22=>84|24=>3|25=>216|3=>3|39=>178|0=>0|53=>233|55=>33|4=>4|46=>270|45=>269|50=>143|5=>5|9=>9|66=>291|70=>294|76=>302|77=>303|n=>n,fun|n=>n⟩
theorem Tryz.sortF:Go.Proofs.SlLaysF.n6 Tryz.prog Tryz.sortF_ren:={
 mixed:=by kernel_rfl
 f6:=⟨Tryz.f149.name,by decide,Tryz.func149.trans (congrArg some (by kernel_rfl))⟩
 f14:=⟨Tryz.f172.name,by decide,Tryz.func172.trans (congrArg some (by kernel_rfl))⟩
 f15:=Tryz.func173.trans (congrArg some (by kernel_rfl))
 f20:=⟨Tryz.f195.name,by decide,Tryz.func195.trans (congrArg some (by kernel_rfl))⟩
 f21:=⟨Tryz.f196.name,by decide,Tryz.func196.trans (congrArg some (by kernel_rfl))⟩
 f22:=⟨Tryz.f197.name,by decide,Tryz.func197.trans (congrArg some (by kernel_rfl))⟩
 f23:=⟨Tryz.f198.name,by decide,Tryz.func198.trans (congrArg some (by kernel_rfl))⟩
 f24:=⟨Tryz.f199.name,by decide,Tryz.func199.trans (congrArg some (by kernel_rfl))⟩
 f25:=⟨Tryz.f200.name,by decide,Tryz.func200.trans (congrArg some (by kernel_rfl))⟩
 f26:=⟨Tryz.f201.name,by decide,Tryz.func201.trans (congrArg some (by kernel_rfl))⟩
 f27:=⟨Tryz.f202.name,by decide,Tryz.func202.trans (congrArg some (by kernel_rfl))⟩
 f28:=Tryz.func203.trans (congrArg some (by kernel_rfl))
 f29:=Tryz.func204.trans (congrArg some (by kernel_rfl))
 f46:=⟨Tryz.f230.name,by decide,Tryz.func230.trans (congrArg some (by kernel_rfl))⟩
 f47:=Tryz.func231.trans (congrArg some (by kernel_rfl))
 f48:=Tryz.func232.trans (congrArg some (by kernel_rfl))
 f49:=⟨Tryz.f233.name,by decide,Tryz.func233.trans (congrArg some (by kernel_rfl))⟩
 f50:=⟨Tryz.f234.name,by decide,Tryz.func234.trans (congrArg some (by kernel_rfl))⟩
 f57:=⟨Tryz.f247.name,by decide,Tryz.func247.trans (congrArg some (by kernel_rfl))⟩
 t0:=Tryz.underlying0
 a0:=Tryz.isAgg0
 z0:=Tryz.sizeOf0
 v0:=Tryz.zeroValue0
 t3:=Tryz.underlying3
 a3:=Tryz.isAgg3
 z3:=Tryz.sizeOf3
 v3:=Tryz.zeroValue3
 t4:=Tryz.underlying4
 a4:=Tryz.isAgg4
 z4:=Tryz.sizeOf4
 v4:=Tryz.zeroValue4
 t5:=Tryz.underlying5
 a5:=Tryz.isAgg5
 z5:=Tryz.sizeOf5
 v5:=Tryz.zeroValue5
 t9:=Tryz.underlying9
 a9:=Tryz.isAgg9
 z9:=Tryz.sizeOf9
 v9:=Tryz.zeroValue9
 t22:=Tryz.underlying84
 a22:=Tryz.isAgg84
 z22:=Tryz.sizeOf84
 v22:=Tryz.zeroValue84
 a24:=Tryz.isAgg3
 z24:=Tryz.sizeOf3
 t25:=Tryz.underlying216
 a25:=Tryz.isAgg216
 z25:=Tryz.sizeOf216
 v25:=Tryz.zeroValue216
 t39:=Tryz.underlying178
 a39:=Tryz.isAgg178
 z39:=Tryz.sizeOf178
 v39:=Tryz.zeroValue178
 t45:=Tryz.underlying269
 a45:=Tryz.isAgg269
 z45:=Tryz.sizeOf269
 v45:=Tryz.zeroValue269
 t46:=Tryz.underlying270
 a46:=Tryz.isAgg270
 z46:=Tryz.sizeOf270
 v46:=Tryz.zeroValue270
 t50:=Tryz.underlying143
 a50:=Tryz.isAgg143
 z50:=Tryz.sizeOf143
 v50:=Tryz.zeroValue143
 t53:=Tryz.underlying233
 a53:=Tryz.isAgg233
 z53:=Tryz.sizeOf233
 v53:=Tryz.zeroValue233
 t55:=Tryz.underlying33
 a55:=Tryz.isAgg33
 z55:=Tryz.sizeOf33
 v55:=Tryz.zeroValue33
 t66:=Tryz.underlying291
 a66:=Tryz.isAgg291
 z66:=Tryz.sizeOf291
 v66:=Tryz.zeroValue291
 t70:=Tryz.underlying294
 a70:=Tryz.isAgg294
 z70:=Tryz.sizeOf294
 v70:=Tryz.zeroValue294
 t76:=Tryz.underlying302
 a76:=Tryz.isAgg302
 z76:=Tryz.sizeOf302
 v76:=Tryz.zeroValue302
 t77:=Tryz.underlying303
 a77:=Tryz.isAgg303
 z77:=Tryz.sizeOf303
 v77:=Tryz.zeroValue303}
def Tryz.cmpF_ren:Go.Shelf.Ren:=⟨fun|5=>151|7=>174|n=>n,fun|22=>3|3=>3|4=>4|n=>n,fun|n=>n⟩
theorem Tryz.cmpF:Go.Proofs.SlLaysC2.n5 Tryz.prog Tryz.cmpF_ren:={
 mixed:=by kernel_rfl
 f5:=⟨Tryz.f151.name,by decide,Tryz.func151.trans (congrArg some (by kernel_rfl))⟩
 f7:=⟨Tryz.f174.name,by decide,Tryz.func174.trans (congrArg some (by kernel_rfl))⟩
 t3:=Tryz.underlying3
 a3:=Tryz.isAgg3
 z3:=Tryz.sizeOf3
 v3:=Tryz.zeroValue3
 t4:=Tryz.underlying4
 a4:=Tryz.isAgg4
 z4:=Tryz.sizeOf4
 v4:=Tryz.zeroValue4
 t22:=Tryz.underlying3
 a22:=Tryz.isAgg3
 z22:=Tryz.sizeOf3
 v22:=Tryz.zeroValue3}
end Go.Proofs
namespace Go.Proofs.YtgjmbbkcgillcaaGreat.Bal
open Go.RowKit Go.Shelf Go.Lib Go.Sort
def vi (zs:List Int):List Value:=zs.map (Value.int .i64)
theorem aBi (zs:List Int):(vi zs).length=zs.length:=List.length_map ..
theorem bD7 (zs:List Int):∀v∈vi zs,v.oneCell'=true:=by
 intro v hv;obtain ⟨z,_,rfl⟩:=List.mem_map.1 hv;rfl
theorem aVi:Tryz.prog.underlying 84=some (.slice 3):=by kernel_rfl
def cfD (x y:Int):Int:=Lib.compareInt y x
theorem ltD (x y:Int):ltOf cfD x y=decide (y<x):=by
 unfold ltOf cfD Lib.compareInt;by_cases h1:y<x
 ·simp [h1]
 ·by_cases h2:x<y<;>simp [h1,h2]
theorem swoD:SWO (ltOf cfD) where
 irrefl x:=by rw [ltD];simp
 trans x y z h1 h2:=by rw [ltD] at*;simp at*;omega
 ntrans x y z h1 h2:=by rw [ltD] at*;simp at*;omega
theorem totD (x y:Int) (h1:ltOf cfD x y=false) (h2:ltOf cfD y x=false):x=y:=by rw [ltD] at*;simp at*;omega
theorem geD:(fun x y:Int=>!ltOf cfD y x)=fun x y=>decide (y≤x):=by
 funext x y
 rw [ltD];by_cases h:y≤x
 ·have h':¬x<y:=by omega
  simp [h,h']
 ·have h':x<y:=by omega
  simp [h,h']
theorem aPx (x y:Int) (W:World):Calls Tryz.prog 150 #[.int .i64 x,.int .i64 y] W fun e w'=>e=.returned (.int .i64 (cfD x y))∧∃q,w'=W.drewN q:=by
 have hcon:=AnyG.cmp_Compare_int Tryz.cmpF y x W;change Calls Tryz.prog 151 _ _ _ at hcon;unfold cfD;generalize Lib.compareInt y x=r at hcon ⊢;go_enter Tryz.func150,Tryz.ntmps150
 go_wp2_with (go_at_call 151;refine hcon.mono ?_;rintro e w' ⟨rfl,rfl⟩)
 go_ret;exact ⟨rfl,0,rfl⟩
theorem aV4 (blk off size:Nat) (w:World):CmpReads Tryz.prog 150 #[] (Value.int .i64) cfD blk off size w:=fun _ _ _ _ x y=>aPx x y _
theorem aYb {base n c:Nat} {A:Option Addr} {zs:List Int} {w:World} (h:w.ownsRow base 3 1 (.slice A n c) n (vi zs)) (h0:0<n) (hn:n<4611686018427387904):
  Calls Tryz.prog 149 #[.slice A n c,.func (.func 150) #[] #[]] w fun e w'=>
   e=.returned (.tuple #[])∧w'.ownsRow base 3 1 (.slice A n c) n (vi (zs.mergeSort fun x y=>decide (y≤x)))∧Below base w w':=by
 have hl:zs.length=n:=by have:=h.1;rw [aBi] at this;omega
 rcases h.2 with ⟨e1,e2⟩|⟨g,cap,cur,e1,hg,hh,hnc,hcm,hs,ht⟩
 ·injection e1 with _ e1;omega
 ·injection e1 with e1 e2 e3;subst e1 e3;have eg:∀args w,(callFunc 150 args).run Tryz.prog w=.ok (.enter 150 args) w:=enters_of Tryz.func150 (by kernel_rfl) rfl;have hH:=holds_of_blockI (ss:=zs) hh (by rw [hl,Nat.mul_one] at*;exact ht);have hsz:zs.toArray.size=n:=by simpa using hl
  have hS:=Any.slices_SortFunc_total Tryz.sortF (Value.int .i64) (fun _=>rfl) cfD swoD 150 #[] g 0 c zs.toArray w eg (aV4 g 0 zs.toArray.size w).lays hH (Array.getElem?_eq_some_iff.1 hh).1 (by rw [hsz];exact hn) totD;rw [geD,hsz] at hS;change Calls Tryz.prog 149 _ _ _ at hS;refine hS.mono fun e w' ⟨he,q,os,hw⟩=>⟨he,?_,?_⟩
  ·rw [hw];have:=ownsRow_sortedI (n:=q) (os:=os) (ss:=zs) (ts:=zs.mergeSort fun x y=>decide (y≤x)) (List.length_mergeSort _) hg hh (by rw [hl];exact hnc) hcm hs;rw [hl] at this;exact this
  ·rw [hw];exact (Below.refl base w).grown (row:=some g) (grownBy_sortedI _) (Nat.le_trans hg (Nat.le_of_lt (Array.getElem?_eq_some_iff.1 hh).1)) (fun k hk=>by injection hk with hk;omega)
theorem aTd (A:Option Addr) (c:Nat) (w:World):Calls Tryz.prog 110 #[.slice A 0 c] w fun e w'=>e=.returned (.int .i64 0)∧w=w':=by
 go_enter Tryz.func110,Tryz.ntmps110
 go_wp2_with fail;go_ret;exact ⟨rfl,rfl⟩
theorem aEg {A:Option Addr} {n c:Nat} {zs:List Int} {w:World} (h:RdV w A n (vi zs)) (h0:0<n) (hn:n≤1000000):
  Calls Tryz.prog 148 #[.slice A n c] w fun e w'=>∃B d,e=.returned (.slice B n d)∧w'.ownsRow w.heap.size 3 1 (.slice B n d) n (vi zs)∧Below w.heap.size w w':=by
 have hl:zs.length=n:=by rw [←h.len,aBi]
 obtain ⟨ad,rfl,hc⟩:=h.cells h0;have h1:=hc 0 (.int .i64 zs[0]) (by simp [vi]);have hp:ad=⟨ad.block,ad.off,none⟩:=by
  obtain ⟨b,o,s⟩:=ad;cases s with
  |none=>rfl
  |some x=>
   simp [Addr.add,World.cell?] at h1;split at h1<;>simp at h1
 generalize ad.block=b at hp;generalize ad.off=o at hp;subst hp;have:=Tryz.slices_Clone_int b o n c zs w (by omega) (by omega) (fun j hj=>by
  have:=hc j (.int .i64 zs[j]) (by simp [vi]);have e:(⟨b,o,none⟩:Addr).add j=⟨b,o+j,none⟩:=by unfold Addr.add;split<;>simp_all
  rw [e] at this;rw [this,List.getD_eq_getElem?_getD,List.getElem?_eq_getElem hj];rfl)
 refine this.mono fun e w' ⟨v',he,hown,_,hb⟩=>?_;obtain ⟨B,d,rfl⟩:=aAq hown;rw [List.take_of_length_le (by omega)] at hown;exact ⟨B,d,he,hown,hb⟩
theorem aSu {A:Option Addr} {n c:Nat} {zs:List Int} {w:World} (h:RdV w A n (vi zs)) (hn:n≤1000000):
  Calls Tryz.prog 110 #[.slice A n c] w fun e w'=>e=.returned (.int .i64 (best zs))∧Below w.heap.size w w':=by
 have hl:zs.length=n:=by rw [←h.len,aBi]
 rcases Nat.eq_zero_or_pos n with rfl|h0
 ·obtain rfl:zs=[]:=List.eq_nil_of_length_eq_zero hl;rw [aXo];exact (aTd A c w).mono fun _ _ ⟨he,hw⟩=>⟨he,hw ▸ Below.refl _ _⟩
 ·have CC:=Lib.hid (aEg (c:=c) h h0 hn);have HB:Hid ((zs.mergeSort fun x y=>decide (y≤x))[n / 2]? =some (best zs)):=by
   show _=_;rw [←hl];exact aVw (by intro e;rw [e] at hl;simp at hl;omega)
  have CQ:=Lib.hid (aEs n · h0 (by omega));have hq:((quorum n:Nat):Int) - 1=((n / 2:Nat):Int):=by unfold quorum;omega
  have hqb:quorum n≤n∧0<quorum n:=by unfold quorum;omega
  have hn2:n / 2<n:=by omega
  generalize best zs=r at*;generalize quorum n=qn at*;generalize n / 2=m at*;have hne:((n:Int)==0)=false:=by simp;omega
  clear h hl;go_enter Tryz.func110,Tryz.ntmps110
  go_wp2_with fail;refine CC.out.mono ?_;rintro e w1 ⟨B,d,rfl,hown,hb⟩;have CS:=Lib.hid (aYb hown h0 (by omega));have HB1:=Lib.hid hb;clear hown hb CC;go_wp2_with fail;refine CS.out.mono ?_;rintro e w2 ⟨rfl,hown,hb⟩;have HB2:=Lib.hid hb;have HR:=Lib.hid (RdV.of_own hown).1;clear hown hb CS;go_wp2_with fail;refine (CQ.out w2).mono ?_;rintro e _ ⟨rfl,rfl⟩;obtain ⟨ad,rfl,hc⟩:=HR.out.cells h0;have hcell:=hc m (.int .i64 r) (by simp only [vi,List.getElem?_map,HB.out,Option.map_some]);clear hc;go_wp2_with fail;go_ret;exact ⟨rfl,HB1.out.trans HB2.out⟩
end Go.Proofs.YtgjmbbkcgillcaaGreat.Bal
namespace Go.Proofs.YtgjmbbkcgillcaaGreat.Zab
open Go.RowKit Disk Bal
theorem mul_one (n:Nat) (hn:n<1000000) (w:World):Calls Tryz.prog 147 #[.int .u64 1,.int .u64 (n:Int)] w fun e w'=>e=.returned (.tuple #[.int .u64 0,.int .u64 (n:Int)])∧w'=w:=by
 have h:=Tryz.bits_Mul 1 n (by omega) (by omega) w;rw [Nat.one_mul,show n / 18446744073709551616=0 from by omega,show n % 18446744073709551616=n from by omega] at h;exact h
def filled (z:Int) (n d:Nat):List Int:=List.replicate d z++List.replicate (n - d) 0
theorem aP9 (z:Int) {n d:Nat} (_h1:1≤d) (h:d≤n):splice (vi (filled z n d)) d (vi (List.replicate (min d (n - d)) z))=vi (filled z n (d+min d (n - d))):=by
 unfold splice filled vi;rw [List.map_append,List.map_append,List.map_replicate,List.map_replicate,List.map_replicate,List.map_replicate,List.map_replicate];generalize hm:min d (n - d)=m;have hmn:m≤n - d:=by omega
 generalize Value.int IntKind.i64 z=x;generalize Value.int IntKind.i64 0=y;rw [List.take_append_of_le_length (by simp),List.take_of_length_le (by simp),List.length_replicate,List.drop_append,List.length_replicate,List.drop_eq_nil_of_le (by simp),List.nil_append,List.drop_replicate,show d+m - d=m from by omega,←List.append_assoc,List.replicate_append_replicate,show n - d - m=n - (d+m) from by omega]
theorem aXr:(Tryz.prog.info? 3).map (·.size)=some 1:=by kernel_rfl
theorem aR5 {W w0:World} {g:Nat} {t:TypeId} {cur:List Value} {B:Nat} (hg:Bk W g t cur.toArray) (o dLen dCap:Nat) (a:Addr) (sLen sCap:Nat) (cs:List Value) (hn:cs.length=Nat.min sLen dLen) (hsrc:∀j v,cs[j]? =some v→W.cell? (a.add j)=some v) (hfit:o+cs.length≤cur.length) (h1:∀v∈cs,v.oneCell'=true) (hb:Below B w0 W) (hBg:B≤g):
  ∃W',(Builtin.copy_ #[84,84] 3 #[.slice (some ⟨g,o,none⟩) dLen dCap,.slice (some a) sLen sCap]).run Tryz.prog W=.ok (goInt cs.length) W'∧Bk W' g t (splice cur o cs).toArray∧Below B w0 W':=by
 have hrun:=run_copy_row (P:=Tryz.prog) W 84 84 3 3 g o dLen dCap a sLen sCap cur.toArray t cs aVi aXr hg hn hsrc (by simpa using hfit) h1;exact ⟨_,hrun,show _=_ by simpa [splice] using setRow_heap W g _ _ t _ hg,below_setRow hb hBg _⟩
theorem aUq (n:Nat):madeCells (Value.int .i64 0).cells (n*1)=(vi (List.replicate n 0)).toArray:=by
 rw [Nat.mul_one];unfold madeCells vi;rw [List.map_replicate];apply Array.ext
 ·simp
 ·intro i h1 h2;simp [Value.cells,Nat.mod_one]
theorem aY8:(Tryz.prog.info? 3).map (fun i=>(i.zero,i.size,i.bytes))=some (some (.int .i64 0),1,8):=by kernel_rfl
def RelR (w:World) (z:Int) (g n:Nat) (v:Value) (wr:World):Prop:=∃d:Nat,1≤d∧d≤n∧v=.int .i64 (d:Int)∧Bk wr g 3 (vi (filled z n d)).toArray∧Below w.heap.size w wr
set_option maxRecDepth 100000 in
theorem aSh (z:Int) (b n:Nat) (w:World) (hb:Bk w b 3 #[.int .i64 z]) (h1:1≤n) (hn:n≤1000):
  Calls Tryz.prog 109 #[.slice (some ⟨b,0,none⟩) 1 1,.int .i64 (n:Int)] w fun e w'=>∃g,e=.returned (.slice (some ⟨g,0,none⟩) n n)∧w.heap.size≤g∧Bk w' g 3 (vi (List.replicate n z)).toArray∧Below w.heap.size w w':=by
 have CM:=Lib.hid (mul_one n (by omega) w);have HBK:=Lib.hid hb;have u1:IntKind.u64.wrap (1:Int)=1:=by decide
 have u2:IntKind.u64.wrap (n:Int)=(n:Int):=by
  simp [IntKind.wrap,IntKind.signed,IntKind.bits];omega
 have u3:IntKind.i64.wrap (n:Int)=(n:Int):=IntWalk.i64_in _ (by omega);obtain ⟨i0,hi,hz0,hz1,hz2⟩:=info_parts aY8;obtain ⟨W,hW⟩:∃W,W=w.alloc (.cells (vi (List.replicate n 0)).toArray 3):=⟨_,rfl⟩;have hmk:(Instr.makeSlice 84 (.int .i64 (n:Int)) (.int .i64 (n:Int))).run Tryz.prog w=.ok (.slice (some ⟨w.heap.size,0,none⟩) n n) W:=by
  have:=run_make (P:=Tryz.prog) w 84 3 i0 _ aVi hi hz0 .i64 .i64 (n:Int) (n:Int) (by omega) (by omega) (by rw [hz2];omega) (by omega);rw [hz1,Int.toNat_natCast,aUq] at this;rw [this,hW]
 have hbw:Below w.heap.size w W:=by rw [hW];exact (Below.refl _ _).alloc (Nat.le_refl _) _
 have hg0:Bk W w.heap.size 3 (vi (List.replicate n 0)).toArray:=by rw [hW];exact Bk.new _ _ _
 have hb2:=hb.below hbw;have HBW:=Lib.hid hbw;have HG0:=Lib.hid hg0;have HB2:=Lib.hid hb2;have HSB:=Lib.hid hb.lt;clear hb hW hbw hg0 hb2 HBK hi hz0 hz1 hz2;go_enter Tryz.func109,Tryz.ntmps109
 go_wp2_with fail;refine CM.out.mono ?_;rintro e w1 ⟨rfl,rfl⟩;obtain ⟨W2,hrun0,hg2,hb2⟩:=aR5 HG0.out 0 n n ⟨b,0,none⟩ 1 1 [.int .i64 z] (Nat.min_eq_left h1).symm (fun j v hj=>by
  have:j=0:=by have:=(List.getElem?_eq_some_iff.1 hj).1;simp at this;exact this
  subst this;injection hj with hj;subst hj;exact HB2.out.cell 0) (by simp [vi];omega) (fun v hv=>by rw [List.mem_singleton.1 hv];rfl) (B:=w1.heap.size) HBW.out (Nat.le_refl _)
 have hf0:splice (vi (List.replicate n 0)) 0 [.int .i64 z]=vi (filled z n 1):=by
  unfold splice filled vi;simp [List.drop_replicate]
 rw [hf0] at hg2;have H0:Hid (RelR w1 z w1.heap.size n (.int .i64 ((1:Nat):Int)) W2):=⟨1,Nat.le_refl _,h1,rfl,hg2,hb2⟩;have hrun:(Builtin.copy_ #[84,84] 3 #[.slice (some ⟨w1.heap.size,0,none⟩) n n,.slice (some ⟨b,0,none⟩) 1 1]).run Tryz.prog W=.ok (.int .i64 1) W2:=hrun0;clear hrun0 hf0 hg2 hb2 HG0 HB2 HBW;go_wp2_with fail;go_loopw [8] (fun v wr=>RelR w1 z w1.heap.size n v wr) (fun v _=>n - (intOf v).toNat)
 case atStart=>exact H0.out
 case round=>
  clear H0 hrun;obtain ⟨d,hd1,hdn,rfl,hbk,hbl⟩:=hrel;have HBK:=Lib.hid hbk;have HBL:=Lib.hid hbl;clear hbk hbl;by_cases hlt:d<n
  ·have hmin:(List.replicate (min d (n - d)) (Value.int .i64 z)).length=Nat.min d (n - d):=by simp
   obtain ⟨W3,hrun0,hg2,hb2⟩:=aR5 (W:=wr.drew) HBK.out d (n - d) (n - d) ⟨w1.heap.size,0,none⟩ d n (vi (List.replicate (min d (n - d)) z)) (by rw [aBi];simp) (fun j v hj=>by
    have hjl:=(List.getElem?_eq_some_iff.1 hj).1;rw [aBi,List.length_replicate] at hjl;have hjd:j<d:=Nat.lt_of_lt_of_le hjl (Nat.min_le_left _ _);have hv:v=.int .i64 z:=by
     unfold vi at hj;rw [List.map_replicate,List.getElem?_replicate,if_pos hjl] at hj;exact (Option.some.inj hj).symm
    rw [hv,show (⟨w1.heap.size,0,none⟩:Addr).add j=⟨w1.heap.size,j,none⟩ from by unfold Addr.add;split<;>simp_all]
    have:=(show Bk wr.drew w1.heap.size 3 _ from HBK.out).cell j;rw [this];unfold filled vi;rw [List.getElem?_toArray,List.map_append,List.getElem?_append_left (by simpa using hjd),List.map_replicate,List.getElem?_replicate,if_pos hjd]) (by rw [aBi,aBi,List.length_replicate];unfold filled;simp;omega) (bD7 _) (B:=w1.heap.size) HBL.out.drew (Nat.le_refl _)
   rw [aP9 z hd1 hdn] at hg2;have hrun:(Builtin.copy_ #[84,84] 3 #[.slice (some ⟨w1.heap.size,d,none⟩) (n - d) (n - d),.slice (some ⟨w1.heap.size,0,none⟩) d n]).run Tryz.prog wr.drew=.ok (.int .i64 ((min d (n - d):Nat):Int)) W3:=by
    rw [hrun0,aBi,List.length_replicate];rfl
   have HF:Hid (RelR w1 z w1.heap.size n (.int .i64 ((d+min d (n - d):Nat):Int)) W3):=⟨_,by omega,by omega,rfl,hg2,hb2⟩;clear hrun0 hg2 hb2 HBK HBL hmin;generalize hm:min d (n - d)=m at*;have hm2:1≤m∧d+m≤n:=by omega
   have hne:¬n=d:=by omega
   clear hm;go_wp2_with fail;have hw:wrap64 ((d:Int)+(m:Int))=((d+m:Nat):Int):=by rw [IntWalk.wrap64_in _ (by omega)];omega
   go_region
   all_goals
    go_wp2_with fail;exact ⟨HF.out,by simp [intOf];omega⟩
  ·have hdn2:d=n:=by omega
   subst hdn2;have hf:filled z d d=List.replicate d z:=by unfold filled;simp
   rw [hf] at HBK;go_wp2_with fail;go_ret;exact ⟨_,rfl,Nat.le_refl _,HBK.out,HBL.out⟩
end Go.Proofs.YtgjmbbkcgillcaaGreat.Zab
namespace Go.Proofs.YtgjmbbkcgillcaaGreat.Zab
open Go.RowKit Disk Log Sto Zm Bal
def mtch (n:Nat) (acked:Nat→Option Nat) (left:Lit→Bool):List Int:=(List.range n).map fun i=>match acked i with|some a=>if left (.int .i64 (i:Int)) then -1 else (a:Int)|none=> -1
theorem aJ3 (n:Nat) (acked:Nat→Option Nat) (left:Lit→Bool):(mtch n acked left).length=n:=by simp [mtch]
theorem aSn {n:Nat} {acked:Nat→Option Nat} {left:Lit→Bool} (h:∀i:Nat,left (.int .i64 (i:Int))=(acked i).isSome):mtch n acked left=List.replicate n (-1):=by
 unfold mtch;apply List.ext_getElem
 ·simp
 ·intro i h1 h2;simp only [List.getElem_map,List.getElem_range,List.getElem_replicate,h];cases acked i<;>rfl
theorem aY4 {n:Nat} {acked:Nat→Option Nat} {left:Lit→Bool} {i a:Nat} (ha:acked i=some a):(mtch n acked left).set i (a:Int)=mtch n acked (fun z=>left z&&!z.sameKey (.int .i64 (i:Int))):=by
 unfold mtch;apply List.ext_getElem
 ·simp
 ·intro j h1 h2;rw [List.getElem_set];simp only [List.getElem_map,List.getElem_range];by_cases hj:i=j
  ·subst hj;rw [if_pos rfl,ha];have:(Lit.int .i64 (i:Int)).sameKey (.int .i64 (i:Int))=true:=WideAt.sameKey_self (by simp [WideAt.IsKeyLit]);simp [this]
  ·rw [if_neg hj];have hne:(Lit.int .i64 (j:Int)).sameKey (.int .i64 (i:Int))=false:=by
    cases hs:(Lit.int .i64 (j:Int)).sameKey (.int .i64 (i:Int)) with
    |false=>rfl
    |true=>
     have:=WideAt.sameKey_eq hs;injection this with _ e;omega
   simp [hne]
theorem aXp {n:Nat} {acked:Nat→Option Nat} {left:Lit→Bool} {id len:Nat} (h:∀kl,left kl=false):(mtch n acked left).set id (len:Int)=matchL id n len acked:=by
 unfold mtch matchL;apply List.ext_getElem
 ·simp
 ·intro j h1 h2;rw [List.getElem_set];simp only [List.getElem_map,List.getElem_range,h];by_cases hj:id=j
  ·subst hj;simp
  ·rw [if_neg hj,if_neg (fun e=>hj e.symm)];cases acked j<;>simp
theorem aG8 (id n len:Nat) (acked:Nat→Option Nat):(matchL id n len acked).length=n:=by simp [matchL]
theorem bBm {id n len:Nat} {acked:Nat→Option Nat} (hid:id<n) (h:∀i a,acked i=some a→a≤len):best (matchL id n len acked)≤(len:Int):=by
 have hm:=(aYe (l:=matchL id n len acked) (fun e=>by have:=aG8 id n len acked;rw [e] at this;simp at this;omega)).mem;obtain ⟨i,_,hi⟩:=List.mem_map.1 hm;rw [←hi];split
 ·omega
 ·cases ha:acked i with
  |none=>show (-1:Int)≤_;omega
  |some a=>have:=h i a ha;show ((a:Nat):Int)≤_;omega
theorem bCq {w:World} {g:Nat} {t:TypeId} {vs:List Value} (h:Bk w g t vs.toArray):RdV w (some ⟨g,0,none⟩) vs.length vs:=
 ⟨rfl,fun _=>⟨_,rfl,fun j v hj=>by
  rw [show (⟨g,0,none⟩:Addr).add j=⟨g,j,none⟩ from by unfold Addr.add;split<;>simp_all,h.cell j]
  simpa using hj⟩⟩
theorem aG4 (w:World) (g i:Nat) (u:Value):w.grownBy (w.setCell ⟨g,i,none⟩ u) (some g):=by
 have h:=Out.setCell (X:=fun b=>b=g) w (p:=⟨g,i,none⟩) rfl u;exact ⟨h.os,h.tape,h.output,h.size,fun k hk hne=>h.block k hk fun e=>hne (by rw [e])⟩
def RelC (w3:World) (n g gm r cnt0:Nat) (acked:Nat→Option Nat) (D:DataW Value) (wr:World):Prop:=∃left cnt,wr.ranges Tryz.prog 3 fV gm r cnt0 D left cnt∧(∀kl,left kl=true→Maps.has D kl=true)∧Bk wr g 3 (vi (mtch n acked left)).toArray∧Out (fun b=>b=g∨b=r) w3 wr
def CountP (w0:World) (Y Z:Nat→Prop) (gz gs gd pg gl:Nat) (z:Zn) (N:Nat) (w:World) (e:Ending) (w':World):Prop:=DidP w0 Y Z gz gs gd pg (.tuple #[]) z N w e w'∧w'.cell? ⟨gz,3,none⟩=some (.iface 89 (.pointer (some ⟨gl,0,none⟩)))
section
variable {w0 w w':World} {Y Z:Nat→Prop} {gz gs gd pg:Nat} {z:Zn} {N:Nat}
set_option maxRecDepth 100000 in
theorem aJ5 {e base:Nat} {acked:Nat→Option Nat} {ready:Bool} {gl gm:Nat} {D:DataW Value} (h:Nd w0 w Y Z gz gs gd pg z N) (hr:z.role=.lead e base acked ready) (hbk:Bk w gz 94 (ndC z.id z.n gs (.iface 89 (.pointer (some ⟨gl,0,none⟩))) z.seen z.waited z.com)) (hYl:Y gl) (hYm:Y gm) (hl:Bk w gl 112 #[.int .u64 (e:Int),.int .i64 (base:Int),.map (some gm),.bool ready]) (hm:IMap w gm (ackV acked) (cntA z.n acked) D):
  Calls Tryz.prog 60 #[.pointer (some ⟨gz,0,none⟩),.pointer (some ⟨gl,0,none⟩)] w (CountP w0 Y Z gz gs gd pg gl (z.count e base acked ready) N w):=by
 have hok:=h.ok;have hn1:=hok.n1;have hn3:=hok.n3;have hid:=hok.id;obtain ⟨W,hW⟩:∃W,W=w.alloc (.cells #[.int .i64 (-1)] 3):=⟨_,rfl⟩;have hbw:Below w.heap.size w W:=by rw [hW];exact (Below.refl _ _).alloc (Nat.le_refl _) _
 have hmin:Bk W w.heap.size 3 #[.int .i64 (-1)]:=by rw [hW];exact Bk.new _ _ _
 have CR:=Lib.hid (aSh (-1) w.heap.size z.n W hmin hn1 (by omega));have q1:W.cell? ⟨gz,1,none⟩=some (.int .i64 (z.n:Int)):=(hbk.below hbw).cell 1;have HND:=Lib.hid h;have HBK:=Lib.hid hbk;have HL:=Lib.hid hl;have HM:=Lib.hid hm;have HR:=Lib.hid hr;have HYL:=Lib.hid hYl;have HYM:=Lib.hid hYm;have HBW:=Lib.hid hbw;rw [hW] at q1;have HW:=Lib.hid hW;clear h hbk hl hm hr hYl hYm hbw hmin hW hok;go_enter Tryz.func60,Tryz.ntmps60
 go_wp2_with fail;rw [←HW.out];refine CR.out.mono ?_;rintro r0 w3 ⟨g,rfl,hg,hgb,hb3⟩;have hb03:Below w.heap.size w w3:=HBW.out.trans (hb3.mono HBW.out.size);have q2:w3.cell? ⟨gl,2,none⟩=some (.map (some gm)):=(HL.out.below hb03).cell 2;have HM3:=Lib.hid (HM.out.below hb03);have HGB:=Lib.hid hgb;have HB3:=Lib.hid hb03;have HG:Hid (w.heap.size≤g):=Nat.le_trans HBW.out.size hg;clear hg hgb hb3 hb03 q1 CR HW HBW;go_wp2_with (at_range;refine wpList_range_own _ rfl (.tmp 17) 110 rfl 3 3 aD2 aK7 fV gm _ D rfl HM3.out.own ?_;intro w4 hrg4 hg4 hs4)
 go_frame
 have h0:Hid (RelC w3 z.n g gm w3.heap.size (cntA z.n acked) acked D w4):=by
  refine ⟨_,_,hrg4,fun _ h=>h,?_,(PhaseG.aAc hg4).mono fun k hk=>absurd hk (by simp)⟩;rw [aSn fun i=>by rw [HM3.out.has i];unfold ackV;cases acked i<;>rfl]
  exact HGB.out.kept (hg4.block g HGB.out.lt (by simp))
 have HGL:Hid (g<w3.heap.size):=HGB.out.lt;clear hrg4 hg4 hs4 q2 HGB;go_loopw [19] (fun _ wr=>RelC w3 z.n g gm w3.heap.size (cntA z.n acked) acked D wr) (fun _ wr=>wr.rangeLeft gm w3.heap.size)
 case atStart=>exact h0.out
 case round=>
  clear h0;obtain ⟨left,cnt,hrg,hsub,hgk,hox⟩:=hrel;have HRG:=Lib.hid hrg;have HSUB:=Lib.hid hsub;have HGK:=Lib.hid hgk;have HOX:=Lib.hid hox;clear hrg hsub hgk hox;go_wp2_with (at_next;refine wpList_next_ranges _ rfl (.tmp 18) rfl 3 aD2 fV (Value.int .i64) (fun v:Value=>v) (fun key kl hk=>by obtain ⟨x,rfl,_⟩:=Maps.keyOf_int_inv aRh hk;exact ⟨x,rfl⟩) (fun v y _=>⟨v,rfl⟩) gm w3.heap.size (cntA z.n acked) D left cnt rfl HRG.out ?_ ?_)
  ·intro hc0 hl0;have hw3r:Out (fun b=>b=g∨b=w3.heap.size) w wr:=(Out.of_below HB3.out).trans HOX.out fun k hk=>by
    have:=HG.out;have:=HB3.out.size;rcases hk with hk|hk<;>omega
   have hnd:=HND.out.out hw3r fun b hb=>by
    have h2:=HND.out.below.size;have h3:=HG.out;have h4:=HB3.out.size;refine ⟨fun hx=>?_,?_⟩
    ·have h5:=(HND.out.nx b hx).2;rcases hb with hb|hb<;>omega
    ·rcases hb with hb|hb<;>omega
   have hwb:∀b,b<w.heap.size→¬(b=g∨b=w3.heap.size):=fun b hb hk=>by
    have:=HG.out;have:=HB3.out.size;rcases hk with hk|hk<;>omega
   have hbk2:=HBK.out.out hw3r (hwb _ HBK.out.lt);have hl2:=HL.out.out hw3r (hwb _ HL.out.lt);have hm2:=HM.out.out hw3r (hwb _ HM.out.lt);have CLN:Hid (∀V,Below wr.heap.size wr V→Calls Tryz.prog 57 #[.pointer (some ⟨gz,0,none⟩)] V fun e w'=>∃A c,e=.returned (.slice A z.k.lines.length c)∧OwnL V.heap.size w' (.slice A z.k.lines.length c) z.k.lines∧Below V.heap.size V w'):=fun V hV=>aC9 (hnd.below_ hV);have HCE:Hid (∀V,Below wr.heap.size wr V→V.cell? ⟨gz,0,none⟩=some (.int .i64 (z.id:Int))∧V.cell? ⟨g,z.id,none⟩=some (.int .i64 (mtch z.n acked left)[z.id]!)∧V.frozen? ⟨g,z.id,none⟩=false):=fun V hV=>by
    have hgk:=HGK.out.below hV;refine ⟨(hbk2.below hV).cell 0,?_,hgk.frozen _⟩;rw [hgk.cell];have hlm:=aJ3 z.n acked left;rw [List.getElem?_toArray];unfold vi;rw [List.getElem?_map,List.getElem?_eq_getElem (by omega),getElem!_pos (mtch z.n acked left) z.id (by omega)];rfl
   have HND2:=Lib.hid hnd;have HBK2:=Lib.hid hbk2;have HL2:=Lib.hid hl2;have HM2:=Lib.hid hm2;have HW3R:=Lib.hid hw3r;have HL0:=Lib.hid hl0;have B1:=Lib.hid (Below.refl wr.heap.size wr).drew;have hid0:(0:Int)≤(z.id:Int):=Int.natCast_nonneg _;have hid1:(z.id:Int)<(z.n:Int):=by omega
   clear hw3r hnd hwb hbk2 hl2 hm2 hl0 hc0 HRG HSUB;go_wp2_with fail;have HCK:Hid (∀V u,Below wr.heap.size wr V→(V.setCell ⟨g,z.id,none⟩ u).cell? ⟨gz,0,none⟩=some (.int .i64 (z.id:Int))):=fun V u hV=>by
    have hne:g≠gz:=by have:=HBK.out.lt;have:=HG.out;omega
    have:=(Out.setCell (X:=fun b=>b=g) V (p:=⟨g,z.id,none⟩) rfl u).cell (p:=⟨gz,0,none⟩) (Nat.lt_of_lt_of_le HBK2.out.lt hV.size) (fun e=>hne e.symm);exact this.trans (HCE.out V hV).1
   go_region_held3 (fun w'=>w'.cell? ⟨gz,0,none⟩=some (.int .i64 (z.id:Int)))
    (first|exact (HCE.out _ B1.out).1|exact (HCE.out _ HE2.out).1|exact HCK.out _ _ HE2.out)
    (first
     |(go_at_call 57;refine (CLN.out _ B1.out).mono ?_;rintro r1 we ⟨A1,c1,rfl,ho1,hb⟩;have HE2:=Lib.hid (B1.out.trans (hb.mono B1.out.size));have g0:=(HCE.out _ HE2.out).2.1;have g1:=(HCE.out _ HE2.out).2.2;clear hb ho1))
   clear g0 g1;obtain ⟨w6,hw6⟩:∃w6,w6=we.setCell ⟨g,z.id,none⟩ (.int .i64 (z.k.lines.length:Int)):=⟨_,rfl⟩;rw [←hw6];have ho6:Out (fun b=>b=g∨b=w3.heap.size) w w6:=by
    refine (HW3R.out.trans (Out.of_below HE2.out) fun k hk=>.inl hk).trans (X':=fun b=>b=g) ?_ fun k hk=>.inl (.inl hk);rw [hw6];exact Out.setCell (X:=fun b=>b=g) we (p:=⟨g,z.id,none⟩) rfl _
   have hgk6:Bk w6 g 3 (vi (matchL z.id z.n z.k.lines.length acked)).toArray:=by
    have h1:=(HGK.out.below HE2.out).set z.id (.int .i64 (z.k.lines.length:Int));rw [←hw6,List.setIfInBounds_toArray] at h1;rw [←aXp HL0.out];unfold vi at h1 ⊢;rw [List.map_set];exact h1
   have hwb:∀b,b<w.heap.size→¬(b=g∨b=w3.heap.size):=fun b hb hk=>by
    have:=HG.out;have:=HB3.out.size;rcases hk with hk|hk<;>omega
   have hnd:=HND.out.out ho6 fun b hb=>by
    have h2:=HND.out.below.size;have h3:=HG.out;have h4:=HB3.out.size;refine ⟨fun hx=>?_,?_⟩
    ·have h5:=(HND.out.nx b hx).2;rcases hb with hb|hb<;>omega
    ·rcases hb with hb|hb<;>omega
   have CC:=Lib.hid (aSu (A:=some ⟨g,0,none⟩) (n:=z.n) (c:=z.n) (zs:=matchL z.id z.n z.k.lines.length acked) (w:=w6) (by
    have:=bCq hgk6;rwa [aBi,aG8] at this) (by omega))
   have HND6:=Lib.hid hnd;have HBK6:=Lib.hid (HBK.out.out ho6 (hwb _ HBK.out.lt));have HL6:=Lib.hid (HL.out.out ho6 (hwb _ HL.out.lt));have HM6:=Lib.hid (HM.out.out ho6 (hwb _ HM.out.lt));have HO6:=Lib.hid ho6;clear ho6 hgk6 hwb hnd hw6 HE2 HCE HCK CLN HND2 HBK2 HL2 HM2 HW3R HGK HOX HL0;go_wp2_with fail;refine CC.out.mono ?_;rintro r2 w7 ⟨rfl,hb7⟩;have hb67:=HO6.out.trans (Out.of_below hb7 (X:=fun b=>b=g∨b=w3.heap.size)) fun k hk=>.inl hk;have hnd7:=HND6.out.below_ hb7;have hbk7:=HBK6.out.below hb7;have hl7:=HL6.out.below hb7;have hm7:=HM6.out.below hb7;have q1:w7.cell? ⟨gl,1,none⟩=some (.int .i64 (base:Int)):=hl7.cell 1;have q3:w7.cell? ⟨gl,3,none⟩=some (.bool ready):=hl7.cell 3;have f3:=hl7.frozen 3;have q6:w7.cell? ⟨gz,6,none⟩=some (.int .i64 (z.com:Int)):=hbk7.cell 6;have f6:=hbk7.frozen 6;have hout7:Out (Nx Y Z gz) w w7:=hb67.mono fun k hk=>by
    have:=HG.out;have:=HB3.out.size;exact .inr (by rcases hk with hk|hk<;>omega)
   obtain ⟨R,hR⟩:∃R,R=best (matchL z.id z.n z.k.lines.length acked):=⟨_,rfl⟩;have hRle:R≤(z.k.lines.length:Int):=by
    rw [hR];exact bBm hid (fun i a ha=>by
     have hro:=HND.out.ok.role;rw [HR.out] at hro;exact (hro.2.2.2.2 i a ha).2.2)
   rw [←hR];have hRR:aDb z.id z.n z.k.lines.length acked=R:=by unfold aDb;rw [hR]
   by_cases hge:(base:Int)≤R
   ·obtain ⟨rn,hrn⟩:∃rn:Nat,R=(rn:Int):=⟨R.toNat,by omega⟩;have hz:z.count e base acked ready={z with role:=.lead e base acked true,com:=max z.com rn}:=by
     unfold Zn.count;rw [hRR,if_pos hge,hrn,Int.toNat_natCast]
    have hrl:rn≤z.k.lines.length:=by omega
    have hmax:max (z.com:Int) (rn:Int)=((max z.com rn:Nat):Int):=by omega
    have HF:Hid (∀V,V=(w7.setCell ⟨gl,3,none⟩ (.bool true)).setCell ⟨gz,6,none⟩ (.int .i64 ((max z.com rn:Nat):Int))→CountP w0 Y Z gz gs gd pg gl (z.count e base acked ready) N w (.returned (.tuple #[])) V):=fun V hV=>by
     have hne:gl≠gz:=fun e=>HND.out.gzn.2 (e ▸ HYL.out);have o1:=Out.setCell (X:=fun b=>b=gl) w7 (p:=⟨gl,3,none⟩) rfl (.bool true);have o2:=Out.setCell (X:=fun b=>b=gz) (w7.setCell ⟨gl,3,none⟩ (.bool true)) (p:=⟨gz,6,none⟩) rfl (.int .i64 ((max z.com rn:Nat):Int));rw [←hV] at o2;have b1:Bk V gl 112 #[.int .u64 (e:Int),.int .i64 (base:Int),.map (some gm),.bool true]:=((hl7.set 3 (.bool true)).out o2 hne);have b2:Bk V gz 94 (ndC z.id z.n gs (.iface 89 (.pointer (some ⟨gl,0,none⟩))) z.seen z.waited (max z.com rn)):=by
      rw [hV];exact (hbk7.out o1 fun e=>hne e.symm).set 6 _
     have o12:Out (Nx Y Z gz) w7 V:=(o1.mono fun k hk=>.inl (.inr (.inl (by rw [hk];exact HYL.out)))).trans (X':=Nx Y Z gz) (o2.mono fun k hk=>.inl (.inl hk)) fun k hk=>.inl hk;have o3:=hout7.trans o12 fun k hk=>.inl hk;have hz2:∀b,Nx Y Z gz b→Nx Y Z gz b∨w.heap.size≤b:=fun b hb=>.inl hb;rw [hz];refine ⟨⟨Y,Z,rfl,⟨?_,⟨_,b2,gl,gm,D,rfl,HYL.out,HYM.out,b1,?_⟩,?_,HND.out.pp,HND.out.low,HND.out.gzn,fun b hb=>⟨(HND.out.yz b hb).1,(HND.out.yz b hb).2.1,Nat.lt_of_lt_of_le (HND.out.yz b hb).2.2 o3.size⟩⟩,o3,hz2⟩,b2.cell 3⟩
     ·refine (hnd7.ss.out o1 fun b hb=>?_).out o2 fun b hb=>?_
      ·rw [hb];exact ⟨(HND.out.yz gl HYL.out).2.1,(HND.out.yz gl HYL.out).1⟩
      ·rw [hb];exact ⟨HND.out.gzn.1,HND.out.low⟩
     ·refine (hm7.out o1 fun e=>?_).out o2 fun e=>HND.out.gzn.2 (e ▸ HYM.out);obtain ⟨es,clock,h1,_⟩:=hm7.own;rw [e,show w7.heap[gl]? =_ from hl7] at h1;cases h1
     ·have hok:=HND.out.ok;have hro:=hok.role;rw [HR.out] at hro;exact ⟨hok.n1,hok.n3,hok.id,hok.fine,hok.seen,by have:=hok.com;show max z.com rn≤z.k.lines.length;omega,hro⟩
    subst hrn;have hgeb:decide ((base:Int)≤(rn:Int))=true:=decide_eq_true hge;clear hz hR hRR hRle hb7 hb67 hnd7 hbk7 hl7 hm7 hout7 CC HND6 HBK6 HL6 HM6 HO6 HND HBK HL HM HR;go_wp2_with fail
    go_end0
    exact HF.out _ rfl
   ·have hz:z.count e base acked ready=z:=by
     unfold Zn.count;rw [hRR,if_neg hge,←HR.out]
    have HF:Hid (CountP w0 Y Z gz gs gd pg gl (z.count e base acked ready) N w (.returned (.tuple #[])) w7):=by
     rw [hz];exact ⟨⟨Y,Z,rfl,hnd7,hout7,fun b hb=>.inl hb⟩,hbk7.cell 3⟩
    clear hz hR hRR hRle hb7 hb67 hnd7 hbk7 hl7 hm7 hout7 CC HND6 HBK6 HL6 HM6 HO6 HND HBK HL HM HR;go_wp2_with fail
    go_end0
    exact HF.out
  ·intro x c kl d ps w' cnt' hkey hleft hc hat hrg' hlt hgr hsz hen;obtain ⟨i,rfl⟩:=HM3.out.keys kl (HSUB.out kl hleft);obtain ⟨x',ex,ex2,-⟩:=Maps.keyOf_int_inv aRh hkey;injection ex2 with _ ex2;subst ex2;injection ex with _ ex;subst ex;obtain ⟨a,ha⟩:∃a,acked i=some a:=by
    have h1:=HSUB.out _ hleft;rw [HM3.out.has i] at h1;unfold ackV at h1;cases hq:acked i with
    |none=>rw [hq] at h1;cases h1
    |some a=>exact ⟨a,rfl⟩
   have hca:c=.int .i64 (a:Int):=by
    have h1:=HM3.out.at_ i;rw [hat] at h1;have hv:ackV acked i=some (.int .i64 (a:Int)):=by unfold ackV;rw [ha];rfl
    rw [hv] at h1;have h2:d=.held c:=by injection hc with hc;injection hc with hc _;exact hc.symm
    rw [h2] at h1;exact aHn h1
   subst hca;have hin:i<z.n:=by
    have hro:=HND.out.ok.role;rw [HR.out] at hro;exact (hro.2.2.2.2 i a ha).1
   have hne:g≠w3.heap.size:=by have:=HGL.out;omega
   have hgm:g≠gm:=by have:=HM.out.lt;have:=HG.out;omega
   have hgk':Bk w' g 3 (vi (mtch z.n acked left)).toArray:=HGK.out.kept (hgr.block g HGK.out.lt (by simp;exact hne));have hcell:w'.cell? ⟨g,i,none⟩=some (.int .i64 (mtch z.n acked left)[i]!):=by
    have hlm:=aJ3 z.n acked left;rw [hgk'.cell,List.getElem?_toArray];unfold vi;rw [List.getElem?_map,List.getElem?_eq_getElem (by omega),getElem!_pos (mtch z.n acked left) i (by omega)];rfl
   have hfr:=hgk'.frozen i;have hlo:(0:Int)≤(i:Int):=Int.natCast_nonneg _;have hhi:(i:Int)<(z.n:Int):=by omega
   have HF:Hid (RelC w3 z.n g gm w3.heap.size (cntA z.n acked) acked D (w'.setCell ⟨g,i,none⟩ (.int .i64 (a:Int)))):=by
    refine ⟨_,cnt',hrg'.kept (aG4 w' g i _) (by simp;exact fun e=>hgm e.symm) (by simp;exact fun e=>hne e.symm),fun kl hk=>HSUB.out kl (by simp at hk;exact hk.1),?_,?_⟩
    ·have h1:=hgk'.set i (.int .i64 (a:Int));rw [List.setIfInBounds_toArray] at h1;rw [←aY4 ha];unfold vi at h1 ⊢;rw [List.map_set];exact h1
    ·refine (HOX.out.trans (PhaseG.aAc hgr) fun k hk=>?_).trans (X':=fun b=>b=g∨b=w3.heap.size) ((Out.setCell (X:=fun b=>b=g) w' (p:=⟨g,i,none⟩) rfl _).mono fun k hk=>.inl (.inl hk)) fun k hk=>.inl hk;injection hk with hk;exact .inl (.inr hk.symm)
   have hms:(w'.setCell ⟨g,i,none⟩ (.int .i64 (a:Int))).rangeLeft gm w3.heap.size<wr.rangeLeft gm w3.heap.size:=by
    obtain ⟨left2,cnt2,h1,_⟩:=HF.out;have h2:=hrg'.kept (aG4 w' g i (.int .i64 (a:Int))) (by simp;exact fun e=>hgm e.symm) (by simp;exact fun e=>hne e.symm);rw [h2.left_eq,HRG.out.left_eq];exact hlt
   have HMS:=Lib.hid hms;clear hms hrg' hgr hsz hgk' hat hc hkey hleft HRG HSUB HGK HOX hlt;go_wp2_with fail;exact ⟨HF.out,HMS.out⟩
end
end Go.Proofs.YtgjmbbkcgillcaaGreat.Zab
namespace Go.Proofs
open Go.Shelf
def Tryz.keysA_ren:Go.Shelf.Ren:=⟨fun|7=>191|10=>227|n=>n,fun|23=>190|26=>3|3=>189|28=>265|0=>0|27=>264|33=>160|4=>4|n=>n,fun|n=>n⟩
theorem Tryz.keysA:Go.Proofs.SlLaysZI.n7 Tryz.prog Tryz.keysA_ren:={
 mixed:=by kernel_rfl
 f7:=⟨Tryz.f191.name,by decide,Tryz.func191.trans (congrArg some (by kernel_rfl))⟩
 f10:=⟨Tryz.f227.name,by decide,Tryz.func227.trans (congrArg some (by kernel_rfl))⟩
 t0:=Tryz.underlying0
 a0:=Tryz.isAgg0
 z0:=Tryz.sizeOf0
 v0:=Tryz.zeroValue0
 t4:=Tryz.underlying4
 a4:=Tryz.isAgg4
 z4:=Tryz.sizeOf4
 v4:=Tryz.zeroValue4
 t23:=Tryz.underlying190
 a23:=Tryz.isAgg190
 z23:=Tryz.sizeOf190
 v23:=Tryz.zeroValue190
 t26:=Tryz.underlying3
 a26:=Tryz.isAgg3
 z26:=Tryz.sizeOf3
 v26:=Tryz.zeroValue3
 t27:=Tryz.underlying264
 a27:=Tryz.isAgg264
 z27:=Tryz.sizeOf264
 v27:=Tryz.zeroValue264
 t28:=Tryz.underlying265
 a28:=Tryz.isAgg265
 z28:=Tryz.sizeOf265
 v28:=Tryz.zeroValue265
 t33:=Tryz.underlying160
 a33:=Tryz.isAgg160
 z33:=Tryz.sizeOf160
 v33:=Tryz.zeroValue160}
def Tryz.sortedA_ren:Go.Shelf.Ren:=⟨fun|6=>190|8=>225|9=>226|11=>245|13=>173|12=>246|23=>203|24=>204|14=>250|15=>251|16=>252|17=>253|18=>254|19=>255|20=>256|21=>257|22=>258|25=>259|26=>231|27=>232|28=>260|29=>261|30=>174|31=>262|n=>n,fun|26=>3|28=>265|24=>84|0=>0|3=>3|37=>178|48=>233|50=>33|4=>4|40=>270|39=>269|45=>143|5=>5|9=>9|51=>291|55=>294|57=>302|58=>303|33=>160|n=>n,fun|n=>n⟩
theorem Tryz.sortedA:Go.Proofs.SlLaysZI.n6 Tryz.prog Tryz.sortedA_ren:={
 mixed:=by kernel_rfl
 f6:=⟨Tryz.f190.name,by decide,Tryz.func190.trans (congrArg some (by kernel_rfl))⟩
 f8:=⟨Tryz.f225.name,by decide,Tryz.func225.trans (congrArg some (by kernel_rfl))⟩
 f11:=⟨Tryz.f245.name,by decide,Tryz.func245.trans (congrArg some (by kernel_rfl))⟩
 t0:=Tryz.underlying0
 a0:=Tryz.isAgg0
 z0:=Tryz.sizeOf0
 v0:=Tryz.zeroValue0
 t24:=Tryz.underlying84
 a24:=Tryz.isAgg84
 z24:=Tryz.sizeOf84
 v24:=Tryz.zeroValue84
 t26:=Tryz.underlying3
 a26:=Tryz.isAgg3
 z26:=Tryz.sizeOf3
 v26:=Tryz.zeroValue3
 t28:=Tryz.underlying265
 a28:=Tryz.isAgg265
 z28:=Tryz.sizeOf265
 v28:=Tryz.zeroValue265
 i26:=by kernel_rfl}
def Tryz.sortA_ren:Go.Shelf.Ren:=⟨fun|5=>226|8=>173|7=>246|19=>203|20=>204|10=>250|11=>251|12=>252|13=>253|14=>254|15=>255|16=>256|17=>257|18=>258|30=>259|31=>231|32=>232|33=>260|34=>261|35=>174|40=>262|n=>n,fun|23=>84|25=>3|3=>3|32=>178|22=>84|0=>0|44=>233|46=>33|4=>4|36=>270|35=>269|41=>143|5=>5|9=>9|53=>291|57=>294|63=>302|64=>303|n=>n,fun|n=>n⟩
theorem Tryz.sortA:Go.Proofs.SlLaysM.n5 Tryz.prog Tryz.sortA_ren:={
 mixed:=by kernel_rfl
 f5:=⟨Tryz.f226.name,by decide,Tryz.func226.trans (congrArg some (by kernel_rfl))⟩
 f7:=⟨Tryz.f246.name,by decide,Tryz.func246.trans (congrArg some (by kernel_rfl))⟩
 f8:=Tryz.func173.trans (congrArg some (by kernel_rfl))
 f10:=⟨Tryz.f250.name,by decide,Tryz.func250.trans (congrArg some (by kernel_rfl))⟩
 f11:=⟨Tryz.f251.name,by decide,Tryz.func251.trans (congrArg some (by kernel_rfl))⟩
 f12:=⟨Tryz.f252.name,by decide,Tryz.func252.trans (congrArg some (by kernel_rfl))⟩
 f13:=⟨Tryz.f253.name,by decide,Tryz.func253.trans (congrArg some (by kernel_rfl))⟩
 f14:=⟨Tryz.f254.name,by decide,Tryz.func254.trans (congrArg some (by kernel_rfl))⟩
 f15:=⟨Tryz.f255.name,by decide,Tryz.func255.trans (congrArg some (by kernel_rfl))⟩
 f16:=⟨Tryz.f256.name,by decide,Tryz.func256.trans (congrArg some (by kernel_rfl))⟩
 f17:=⟨Tryz.f257.name,by decide,Tryz.func257.trans (congrArg some (by kernel_rfl))⟩
 f18:=⟨Tryz.f258.name,by decide,Tryz.func258.trans (congrArg some (by kernel_rfl))⟩
 f19:=Tryz.func203.trans (congrArg some (by kernel_rfl))
 f20:=Tryz.func204.trans (congrArg some (by kernel_rfl))
 f30:=⟨Tryz.f259.name,by decide,Tryz.func259.trans (congrArg some (by kernel_rfl))⟩
 f31:=Tryz.func231.trans (congrArg some (by kernel_rfl))
 f32:=Tryz.func232.trans (congrArg some (by kernel_rfl))
 f33:=⟨Tryz.f260.name,by decide,Tryz.func260.trans (congrArg some (by kernel_rfl))⟩
 f34:=⟨Tryz.f261.name,by decide,Tryz.func261.trans (congrArg some (by kernel_rfl))⟩
 f35:=⟨Tryz.f174.name,by decide,Tryz.func174.trans (congrArg some (by kernel_rfl))⟩
 f40:=⟨Tryz.f262.name,by decide,Tryz.func262.trans (congrArg some (by kernel_rfl))⟩
 t0:=Tryz.underlying0
 a0:=Tryz.isAgg0
 z0:=Tryz.sizeOf0
 v0:=Tryz.zeroValue0
 t3:=Tryz.underlying3
 a3:=Tryz.isAgg3
 z3:=Tryz.sizeOf3
 v3:=Tryz.zeroValue3
 t4:=Tryz.underlying4
 a4:=Tryz.isAgg4
 z4:=Tryz.sizeOf4
 v4:=Tryz.zeroValue4
 t5:=Tryz.underlying5
 a5:=Tryz.isAgg5
 z5:=Tryz.sizeOf5
 v5:=Tryz.zeroValue5
 t9:=Tryz.underlying9
 a9:=Tryz.isAgg9
 z9:=Tryz.sizeOf9
 v9:=Tryz.zeroValue9
 t22:=Tryz.underlying84
 a22:=Tryz.isAgg84
 z22:=Tryz.sizeOf84
 v22:=Tryz.zeroValue84
 t23:=Tryz.underlying84
 a23:=Tryz.isAgg84
 z23:=Tryz.sizeOf84
 v23:=Tryz.zeroValue84
 t25:=Tryz.underlying3
 a25:=Tryz.isAgg3
 z25:=Tryz.sizeOf3
 v25:=Tryz.zeroValue3
 t32:=Tryz.underlying178
 a32:=Tryz.isAgg178
 z32:=Tryz.sizeOf178
 v32:=Tryz.zeroValue178
 t35:=Tryz.underlying269
 a35:=Tryz.isAgg269
 z35:=Tryz.sizeOf269
 v35:=Tryz.zeroValue269
 t36:=Tryz.underlying270
 a36:=Tryz.isAgg270
 z36:=Tryz.sizeOf270
 v36:=Tryz.zeroValue270
 t41:=Tryz.underlying143
 a41:=Tryz.isAgg143
 z41:=Tryz.sizeOf143
 v41:=Tryz.zeroValue143
 t44:=Tryz.underlying233
 a44:=Tryz.isAgg233
 z44:=Tryz.sizeOf233
 v44:=Tryz.zeroValue233
 t46:=Tryz.underlying33
 a46:=Tryz.isAgg33
 z46:=Tryz.sizeOf33
 v46:=Tryz.zeroValue33
 t53:=Tryz.underlying291
 a53:=Tryz.isAgg291
 z53:=Tryz.sizeOf291
 v53:=Tryz.zeroValue291
 t57:=Tryz.underlying294
 a57:=Tryz.isAgg294
 z57:=Tryz.sizeOf294
 v57:=Tryz.zeroValue294
 t63:=Tryz.underlying302
 a63:=Tryz.isAgg302
 z63:=Tryz.sizeOf302
 v63:=Tryz.zeroValue302
 t64:=Tryz.underlying303
 a64:=Tryz.isAgg303
 z64:=Tryz.sizeOf303
 v64:=Tryz.zeroValue303}
end Go.Proofs
namespace Go.Proofs.YtgjmbbkcgillcaaGreat.Zab
open Go.RowKit Go.Maps Go.Sort Go.Shelf Disk Bal
theorem sortsA (m:Nat):AnyZI.SortsIn Tryz.prog Tryz.sortedA_ren Fence.wide m:=
 ⟨fun blk off cap ss W hH hblk hsz=>callsIn_wide.2 (AnyM.slices_Sort_int Tryz.sortA blk off cap ss W hH hblk hsz),
 fun p cap W=>callsIn_wide.2 (AnyM.slices_Sort_int_none Tryz.sortA p cap W)⟩
theorem aX7 (gm:Nat) (w:World):Calls Tryz.prog 191 #[.map (some gm)] w fun e w'=>e=.returned (.func (.func 227) #[] #[.pointer (some ⟨w.heap.size,0,none⟩)])∧w'=w.alloc (.cells #[.map (some gm)] 190):=
 (callsIn_wide (n:=6)).1 (AnyZI.keys_in Tryz.keysA Fence.wide 6 trivial rfl (some gm) w)
theorem bBq {w:World} {gm:Nat} {f:Nat→Option Value} {c:Nat} {D:DataW Value} (h:IMap w gm f c D) (L:List Nat) (hnd:L.Nodup) (hm:∀i,i∈L↔(f i).isSome=true):(L.map fun i:Nat=>(i:Int)).Perm (intKeys D):=by
 obtain ⟨es,rfl,hp⟩:=h.tidy;refine perm_intKeys hp (fun p hpm=>?_) ?_ fun x=>?_
 ·obtain ⟨i,hi⟩:=h.keys p.1 (by
   rw [Go.Maps.has_eq,List.any_eq_true];refine ⟨p,hpm,?_⟩;obtain ⟨es',e1,e2,e3⟩:=h.own.entries aD2;injection e1 with e1;subst e1;exact WideAt.sameKey_self (e3 p hpm))
  exact ⟨_,hi⟩
 ·refine List.pairwise_map.2 (hnd.imp fun {a b} hne e=>hne ?_);have e:(a:Int)=(b:Int):=e;omega
 ·constructor
  ·intro hx;obtain ⟨i,hi,rfl⟩:=List.mem_map.1 hx;rw [h.has i];exact (hm i).1 hi
  ·intro hx;obtain ⟨i,hi⟩:=h.keys _ hx;injection hi with _ hi;rw [hi,h.has i] at hx;rw [hi];exact List.mem_map.2 ⟨i,(hm i).2 hx,rfl⟩
set_option maxRecDepth 8000 in
theorem aSz {w:World} {gm:Nat} {f:Nat→Option Value} {c:Nat} {D:DataW Value} (h:IMap w gm f c D) (hc:c≤1000) (L:List Nat) (hs:L.Pairwise (·<·)) (hm:∀i,i∈L↔(f i).isSome=true):
  Calls Tryz.prog 190 #[.func (.func 227) #[] #[.pointer (some ⟨w.heap.size,0,none⟩)]] (w.alloc (.cells #[.map (some gm)] 190)) fun e w'=>∃A cp,e=.returned (.slice A L.length cp)∧w'.ownsRow (w.heap.size+1) 3 1 (.slice A L.length cp) L.length (vi (L.map fun i:Nat=>(i:Int)))∧Below (w.heap.size+1) (w.alloc (.cells #[.map (some gm)] 190)) w':=by
 have hbl:=h.lt;have hseq:SeqGives Fence.wide 3 Tryz.prog 227 #[.pointer (some ⟨w.heap.size,0,none⟩)] encZ (fun ss=>ss.Perm (intKeys D)) (Maps.size D) (w.alloc (.cells #[.map (some gm)] 190)):=
  AnyZI.keys_gives (ρ:=Tryz.keysA_ren) {Tryz.keysA with} Fence.wide _ trivial rfl (by omega) w.heap.size gm c D _ (by simp) (by simp) (h.own.alloc _)
 have cS:=AnyZI.sorted_in Tryz.sortedA Fence.wide 6 trivial trivial trivial trivial rfl (by omega) (sortsA _) (enters_of Tryz.func226 (by kernel_rfl) rfl) 227 #[.pointer (some ⟨w.heap.size,0,none⟩)] trivial (enters_of Tryz.func227 (by kernel_rfl) rfl) _ _ (by rw [h.size];unfold maxLen;omega) (by rw [h.size];omega) _ hseq;refine ((callsIn_wide (n:=6)).1 cS).mono ?_;rintro e w' ⟨v,ss,rfl,hS,hrow,-,hb⟩;have hL:(ss.mergeSort fun x y=>decide (x≤y))=L.map fun i:Nat=>(i:Int):=by
  have tr:∀a b c:Int,leI a b=true→leI b c=true→leI a c=true:=fun a b c h1 h2=>by simp only [leI,decide_eq_true_eq] at*;exact Int.le_trans h1 h2
  have to:∀a b:Int,(leI a b||leI b a)=true:=fun a b=>by simp only [leI,Bool.or_eq_true,decide_eq_true_eq];exact Int.le_total a b
  refine List.Perm.eq_of_pairwise (le:=fun a b=>leI a b=true) (fun a b _ _ h1 h2=>?_) (List.pairwise_mergeSort tr to ss) ?_ (((List.mergeSort_perm ss leI).trans hS).trans (bBq h L (hs.imp fun h=>Nat.ne_of_lt h) hm).symm)
  ·simp only [leI,decide_eq_true_eq] at h1 h2;exact Int.le_antisymm h1 h2
  ·refine List.pairwise_map.2 (hs.imp fun {a b} hlt=>?_);simp only [leI,decide_eq_true_eq];omega
 have hlen:ss.length=L.length:=by
  have:=congrArg List.length hL;rwa [List.length_mergeSort,List.length_map] at this
 rw [hL,hlen] at hrow;obtain ⟨A,cp,rfl,-⟩:=PhaseG.aAq hrow;rw [World.size_alloc] at hrow hb;exact ⟨A,cp,rfl,hrow,hb⟩
end Go.Proofs.YtgjmbbkcgillcaaGreat.Zab
