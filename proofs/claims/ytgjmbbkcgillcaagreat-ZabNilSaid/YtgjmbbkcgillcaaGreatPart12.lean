/- Lemmas, part 12: DiskMore, DiskSt, CrcRef, CrcSum, PathPure, PathBase -/
import Derived.Test.YtgjmbbkcgillcaaGreatPart11
import Derived.Laws.MakeOwn
import Derived.Test.YtgjmbbkcgillcaaGreatChecked
import Derived.Test.YtgjmbbkcgillcaaGreatPart1
import Derived.Test.YtgjmbbkcgillcaaGreatPart8
import Derived.KernelRfl
import Derived.Laws.Tables
import Derived.Laws.CopyOwn
import Derived.RegionTactic
import GoSem.Core.Utf8
import Derived.Lib.Strings
import Derived.BigQuiet
set_option maxHeartbeats 16000000
namespace Go.Proofs.YtgjmbbkcgillcaaGreat.Disk
open Go.RowKit
theorem bBh (w:World):Calls Tryz.prog 243 #[] w fun e w'=>e=.returned (.int .i64 512)∧w'=w:=by
 go_enter Tryz.func243,Tryz.ntmps243
 go_wp2_with fail;go_ret;exact ⟨rfl,rfl⟩
theorem aWg (caps:Array Value) (W:World):(callFunc 243 caps).run Tryz.prog W=.ok (.enter 243 caps) W:=by kernel_rfl
theorem aYf {w:World} {X:Nat→Prop} {g:Nat} {d:DK} (h:DkAt w X g d) (hn:d.row.length≤1000000):Calls Tryz.prog 219 #[.pointer (some ⟨g,0,none⟩)] w (Turns (.int .i64 d.sync.1) X g d.sync.2 w):=by
 have cf:=aJi h;obtain ⟨RES,hres⟩:∃RES,RES=d.sync:=⟨_,rfl⟩;rw [←hres];unfold DK.sync at hres;unfold DK.fault at cf;by_cases h1:d.dead=true
 ·rw [if_pos h1] at hres cf;subst hres;have H:=Lib.hid h;clear h h1;go_enter Tryz.func219,Tryz.ntmps219
  go_wp2_with fail;refine cf.mono ?_;rintro e w1 ⟨rfl,rfl⟩;go_wp2_with fail;go_ret;exact ⟨rfl,X,H.out,Out.refl X w,fun k hk=>.inl hk⟩
 ·rw [if_neg h1] at hres cf;have cb:=aR9 h;by_cases h3:d.burn.1≠0
  ·rw [if_pos h3] at hres;subst hres;generalize d.burn=z at*;obtain ⟨z1,z2⟩:=z;have h3:z1≠0:=h3;dsimp only at cb ⊢
   clear h h1;go_enter Tryz.func219,Tryz.ntmps219
   go_wp2_with fail;refine cf.mono ?_;rintro e w1 ⟨rfl,rfl⟩;go_wp2_with fail;refine cb.mono ?_;rintro e w1 ⟨rfl,X1,hd1,ho1,hx1⟩;have HD:=Lib.hid hd1;have HO:=Lib.hid ho1;have HX:=Lib.hid hx1;clear hd1 ho1 hx1 cb cf;go_wp2_with fail;go_ret;exact ⟨rfl,X1,HD.out,HO.out,HX.out⟩
  ·rw [if_neg h3] at hres;have h3:d.burn.1=0:=by simpa using h3
   rw [h3] at cb;have HRES:=Lib.hid hres;have HR:=Lib.hid (aEt d);have HP:=Lib.hid (aCv d);generalize d.burn.2=d2 at*;have HN:Hid (d2.row.length≤1000000):=by show _≤_;rw [HR.out];exact hn
   clear h h1 h3 hn hres;go_enter Tryz.func219,Tryz.ntmps219
   go_wp2_with fail;refine cf.mono ?_;rintro e w1 ⟨rfl,rfl⟩;go_wp2_with fail;refine cb.mono ?_;rintro e w1 ⟨rfl,X1,hd1,ho1,hx1⟩;have HO:=Lib.hid ho1;have HX:=Lib.hid hx1;have cs:=aSx 243 #[] (fun _=>512) (fun _ _=>True) (fun _=>False) hd1 HN.out (aWg #[]) (fun _=>Nat.le_refl _) (fun _ _ h=>h) (fun _ h=>h.elim) (fun _ _ _ _ _=>trivial) trivial (fun m W _=>⟨W,trivial,Out.refl _ _,bBh W⟩);clear hd1 ho1 hx1 cb cf;go_wp2_with fail;refine cs.mono ?_;rintro e w2 ⟨rfl,hd2,ho2,-⟩;have HD2:=Lib.hid hd2;have HO2:=Lib.hid ho2;clear hd2 ho2 cs;go_wp2_with fail;go_ret;exact ⟨by rw [HRES.out];rfl,X1,by rw [HRES.out,←HP.out,←HR.out];exact HD2.out,HO.out.trans HO2.out (fun k hk=>hk.elim (HX.out k) False.elim),HX.out⟩
set_option maxRecDepth 100000 in
theorem aY6:Tryz.prog.underlying 116=some (.slice 169):=by kernel_rfl
set_option maxRecDepth 100000 in
theorem aV1:(Tryz.prog.info? 169).map (fun i=>(i.zero,i.size,i.bytes))=some (some (.agg (zeros.map U).toArray),512,512):=by rw [aM0];kernel_rfl
def aVo (n:Nat) (w:World) (e:Ending) (w':World):Prop:=
 ∃g X,e=.returned (.tuple #[.pointer (some ⟨g,0,none⟩),.int .i64 0])∧DkAt w' X g (DK.new n)∧(∀k,X k→w.heap.size≤k)∧Below w.heap.size w w'
set_option maxRecDepth 100000 in
theorem aYh (A:Array Value) (i:Nat) (v:Value) (h:A[i]? =some v):A[i]! =v:=by
 rw [getElem!_def,h]
set_option maxRecDepth 100000 in
theorem aY5 (n j:Nat) (hj:j<n*512):(madeCells (zeros.map U).toArray (n*512))[j]? =some (U 0):=by
 have e:(zeros.map U)=List.replicate 512 (U 0):=by unfold zeros;rw [List.map_replicate]
 have hs:(zeros.map U).toArray.size=512:=by simp [aB5]
 generalize zeros.map U=Zs at*;have h2:Zs.toArray[j % Zs.toArray.size]? =some (U 0):=by
  rw [List.getElem?_toArray,hs,e,List.getElem?_replicate,if_pos (Nat.mod_lt _ (by decide))]
 unfold madeCells;rw [Array.getElem?_map,Array.getElem?_range,if_pos hj,Option.map_some,aYh _ _ _ h2]
set_option maxRecDepth 100000 in
theorem Pg.new {w:World} {p n:Nat} (h:Bk w p 169 (madeCells (zeros.map U).toArray (n*512))):Pg w p (DK.new n).pages:=by
 have hl:(DK.new n).pages.length=n:=List.length_replicate;refine ⟨⟨_,h,by rw [size_madeCells,hl]⟩,fun k b hk j v hv=>?_⟩;have hkn:k<n:=by have:=(List.getElem?_eq_some_iff.1 hk).1;rwa [hl] at this
 have hb:b=List.replicate 512 0:=(List.mem_replicate.1 (List.mem_of_getElem? hk)).2;subst hb;rw [List.map_replicate] at hv;have hj:j<512:=by have:=(List.getElem?_eq_some_iff.1 hv).1;rwa [List.length_replicate] at this
 rw [List.getElem?_replicate,if_pos hj] at hv;injection hv with hv;subst hv;rw [h.cell,aY5 n (k*512+j) (by omega)]
set_option maxRecDepth 100000 in
theorem aOx (n:Nat) (w:World) (h1:1≤n) (h2:n≤4096):Calls Tryz.prog 40 #[.int .i64 (n:Int)] w (aVo n w):=by
 obtain ⟨i0,hi0,hi1,hi2,hi3⟩:=aLg aV1;have hmk:=run_make (P:=Tryz.prog) w 116 169 i0 _ aY6 hi0 hi1 .i64 .i64 n n (by omega) (Int.le_refl _) (by rw [hi3];omega) (by omega);rw [Int.toNat_natCast,hi2] at hmk;have hvc:(Value.agg (zeros.map U).toArray).cells=(zeros.map U).toArray:=rfl;rw [hvc] at hmk;have hs:(w.alloc (.cells (madeCells (zeros.map U).toArray (n*512)) 169)).heap.size=w.heap.size+1:=aBd _ _;have hb:Below w.heap.size w ((w.alloc (.cells (madeCells (zeros.map U).toArray (n*512)) 169)).alloc (.cells #[.slice (some ⟨w.heap.size,0,none⟩) n n,.slice none 0 0,.bool false,.int .i64 (-1)] 119)):=((Below.refl _ _).alloc (Nat.le_refl _) _).alloc (by rw [hs];omega) _;have k1:=(Bk.new w 169 (madeCells (zeros.map U).toArray (n*512))).alloc (.cells #[.slice (some ⟨w.heap.size,0,none⟩) n n,.slice none 0 0,.bool false,.int .i64 (-1)] 119);have k2:=Bk.new (w.alloc (.cells (madeCells (zeros.map U).toArray (n*512)) 169)) 119 #[.slice (some ⟨w.heap.size,0,none⟩) n n,.slice none 0 0,.bool false,.int .i64 (-1)];rw [hs] at k2;have hl:(DK.new n).pages.length=n:=List.length_replicate;have HP:Hid (aVo n w (.returned (.tuple #[.pointer (some ⟨w.heap.size+1,0,none⟩),.int .i64 0])) ((w.alloc (.cells (madeCells (zeros.map U).toArray (n*512)) 169)).alloc (.cells #[.slice (some ⟨w.heap.size,0,none⟩) n n,.slice none 0 0,.bool false,.int .i64 (-1)] 119))):=
  ⟨w.heap.size+1,fun k=>k=w.heap.size∨k=w.heap.size+1,rfl,⟨w.heap.size,none,0,⟨by rw [hl];exact k2,Pg.new k1,World.ownsRow_nil _ _ _ _,.inr rfl,.inl rfl,fun a ha=>(nomatch ha),by omega,Ok.new h1 h2,fun k hk=>by have:=k2.lt;omega⟩⟩,fun k hk=>by omega,hb⟩
 clear hs hb k1 k2 hl hi0 hi1 hi2 hi3 hvc;generalize madeCells (zeros.map U).toArray (n*512)=M at*;go_enter Tryz.func40,Tryz.ntmps40
 go_wp2_with fail
 go_ret2
 exact HP.out
end Go.Proofs.YtgjmbbkcgillcaaGreat.Disk
namespace Go.Proofs.YtgjmbbkcgillcaaGreat.Disk
open Go.RowKit
structure St (w0 w:World) (X:Nat→Prop) (g:Nat) (d:DK):Prop where
 at_:DkAt w X g d
 below:Below w0.heap.size w0 w
 own:∀k,X k→w0.heap.size≤k
theorem DkAt.lt {w:World} {X:Nat→Prop} {g:Nat} {d:DK} (h:DkAt w X g d):∀k,X k→k<w.heap.size:=by
 obtain ⟨_,_,_,h⟩:=h;exact h.lt
def NewSt (n:Nat) (w0 w:World) (e:Ending) (w':World):Prop:=
 ∃g X,e=.returned (.tuple #[.pointer (some ⟨g,0,none⟩),.int .i64 0])∧St w0 w' X g (DK.new n)∧(∀k,X k→w.heap.size≤k)∧Below w.heap.size w w'
theorem bCn (n:Nat) (w0 w:World) (h1:1≤n) (h2:n≤4096) (hb:Below w0.heap.size w0 w):Calls Tryz.prog 40 #[.int .i64 (n:Int)] w (NewSt n w0 w):=
 (aOx n w h1 h2).mono fun _ _ ⟨g,X,e,h3,h4,h5⟩=>⟨g,X,e,⟨h3,hb.trans (h5.mono hb.size),fun k hk=>Nat.le_trans hb.size (h4 k hk)⟩,h4,h5⟩
theorem aUw {w:World} {h:Nat} {b:List UInt8} {t:TypeId} (hk:Bk w h t (b.map U).toArray) {i:Nat} {x:UInt8} (hx:b[i]? =some x):w.cell? ⟨h,i,none⟩=some (U x):=by
 rw [hk.cell];simp [hx]
theorem aUu {w:World} {h:Nat} {b:List UInt8} {t:TypeId} (hk:Bk w h t (b.map U).toArray) {n:Nat} (hn:b.length=n):Rd w (some ⟨h,0,none⟩) n b:=
 ⟨hn,fun _=>⟨_,rfl,fun j x hx=>by
  have hadd:((⟨h,0,none⟩:Addr).add j)=⟨h,j,none⟩:=by unfold Addr.add;split<;>simp_all
  rw [hadd];exact aUw hk hx⟩⟩
end Go.Proofs.YtgjmbbkcgillcaaGreat.Disk
namespace Go.Proofs.YtgjmbbkcgillcaaGreat.Crc
open Go.RowKit
theorem aZ2 (s:Nat) (bs:List UInt8) (b:UInt8):run s (bs++[b])=byteS (run s bs) b.toNat:=by simp [run]
theorem aT5 (k s:Nat):steps (k+1) s=step (steps k s):=by rw [aN6 k 1 s];rfl
end Go.Proofs.YtgjmbbkcgillcaaGreat.Crc
namespace Go.Proofs.YtgjmbbkcgillcaaGreat.Crc
open Go.RowKit
theorem aYy (s:Nat) (h1:s % 2=1) (hs:s<2^64):bits .xor .u64 ((s:Int) / 2) 14514072000185962306=(step s:Int):=by
 have h:=u64_xor_nat (s / 2) poly (by omega) (by decide);have e1:((s / 2:Nat):Int)=(s:Int) / 2:=by omega
 have e2:((poly:Nat):Int)=14514072000185962306:=rfl;rw [e1,e2] at h;rw [h];unfold step;rw [if_pos h1]
theorem bBb (s:Nat) (h1:¬s % 2=1):(s:Int) / 2=(step s:Int):=by
 unfold step;rw [if_neg h1];omega
theorem bC0 (s:Nat) (hs:s<2^64):bits .and .u64 (s:Int) 1=((s % 2:Nat):Int):=by
 have h:=u64_and_nat s 1 (by omega) (by omega);have e:((1:Nat):Int)=1:=rfl;rw [e] at h;rw [h,Nat.and_one_is_mod]
theorem bBi (s:Nat) (hs:s<2^64):bits .xor .u64 IntKind.u64.max (s:Int)=((s^^^ones:Nat):Int):=by
 have h:=u64_xor_nat ones s (by decide) (by omega);have e:((ones:Nat):Int)=IntKind.u64.max:=by decide
 rw [e] at h;rw [h,Nat.xor_comm]
theorem aTh (x:Nat) (w:World) (HX:Hid (x<2^64)):
  Calls Tryz.prog 248 #[.int .u64 (x:Int)] w fun e w'=>e=.returned (.int .u64 (steps 8 x:Int))∧w=w':=by
 go_enter Tryz.func248,Tryz.ntmps248
 go_wp2_with fail
 go_loop [0,3,4] (fun v _ i=>∃m:Nat,m≤8∧i=.int .i64 (m:Int)∧v=.int .u64 (steps m x:Int)) (fun _ _ i=>8 - (intOf i).toNat)
 case atStart=>exact ⟨0,by omega,rfl,rfl⟩
 case round=>
  obtain ⟨m,hm,rfl,rfl⟩:=hrel;have HT:=Lib.hid (aRj m _ HX.out);have HSn:=Lib.hid (aT5 m x);have HLast:Hid (m=8→steps m x=steps 8 x):=by rintro rfl;rfl
  generalize steps m x=y at*;by_cases hlt3:m<8
  ·have hl:=bC0 y HT.out;by_cases hod:y % 2=1
   ·rw [hod] at hl;have hst:=aYy y hod HT.out;clear hod;go_wp2_with fail;exact ⟨⟨m+1,by omega,rfl,by rw [HSn.out]⟩,by simp [intOf];omega⟩
   ·have hz:y % 2=0:=by omega
    rw [hz] at hl;have HST:=Lib.hid (bBb y hod);clear hod hz;go_wp2_with fail;exact ⟨⟨m+1,by omega,rfl,by rw [HSn.out,←HST.out]⟩,by simp [intOf];omega⟩
  ·obtain rfl:m=8:=by omega
   go_wp2_with fail;go_ret;exact ⟨congrArg (fun z:Nat=>Ending.returned (.int .u64 (z:Int))) (HLast.out trivial),rfl⟩
theorem aX5 (A:Option Addr) (n c:Nat) (bs:List UInt8) (w:World) (h:Rd w A n bs) (hn:n≤1000000):
  Calls Tryz.prog 238 #[.slice A n c] w fun e w'=>e=.returned (.int .u64 (sum bs:Int))∧w=w':=by
 have H:=Lib.hid h;clear h;go_enter Tryz.func238,Tryz.ntmps238
 go_wp2_with fail
 go_loop [3,5,8] (fun v _ i=>∃k:Nat,k≤n∧i=.int .i64 (k:Int)∧v=.int .u64 (run ones (bs.take k):Int)) (fun _ _ i=>n - (intOf i).toNat)
 case atStart=>exact ⟨0,by omega,rfl,rfl⟩
 case round=>
  obtain ⟨k,hk,rfl,rfl⟩:=hrel;by_cases hlt:k<n
  ·obtain ⟨ad0,rfl,hc⟩:=H.out.cells (by omega);have hkl:k<bs.length:=by rw [H.out.len];exact hlt
   have hcell:=hc k _ (List.getElem?_eq_getElem hkl);unfold U at hcell;clear hc;have hbv:=(bs[k]).toNat_lt;have HN:Hid (run ones (bs.take (k+1))=steps 8 ((run ones (bs.take k))^^^(bs[k]).toNat)):=by
    show _=_;rw [←List.take_append_getElem hkl,aZ2];rfl
   have HS:Hid (run ones (bs.take k)<2^64):=aL9 _ _ aHx;generalize run ones (bs.take k)=s at*;generalize (bs[k])=bb at*;have HX:Hid (s^^^bb.toNat<2^64):=Nat.xor_lt_two_pow HS.out (Nat.lt_of_lt_of_le hbv (by decide));have hxx:bits .xor .u64 (s:Int) (bb.toNat:Int)=((s^^^bb.toNat:Nat):Int):=u64_xor_nat s bb.toNat HS.out (Nat.lt_of_lt_of_le hbv (by decide));go_wp2_with fail;refine (aTh _ _ HX).mono ?_;rintro _ _ ⟨rfl,rfl⟩;go_wp2_with fail;exact ⟨⟨k+1,by omega,rfl,by rw [HN.out]⟩,by simp [intOf];omega⟩
  ·obtain rfl:k=n:=by omega
   have HL:Hid (bs.take k=bs):=List.take_of_length_le (by rw [H.out.len];omega);have HS:Hid (run ones bs<2^64):=aL9 _ _ aHx;rw [HL.out];go_wp2_with fail;go_ret;exact ⟨congrArg (fun z=>Ending.returned (.int .u64 z)) (bBi _ HS.out),rfl⟩
theorem aZy (A:Option Addr) (n c:Nat) (bs:List UInt8) (w:World) (h:Rd w A n bs) (hn:n≤1000000):
  Calls Tryz.prog 238 #[.slice A n c] w fun e w'=>e=.returned (.int .u64 (sum bs:Int))∧Below w.heap.size w w':=
 (aX5 A n c bs w h hn).mono fun _ _ ⟨he,hw⟩=>⟨he,hw ▸ Below.refl _ _⟩
end Go.Proofs.YtgjmbbkcgillcaaGreat.Crc
namespace Go.Proofs.YtgjmbbkcgillcaaGreat.Path
/-! ### The rune at the head of a list -/
/-! ### Names -/
/-! ### Paths -/
end Go.Proofs.YtgjmbbkcgillcaaGreat.Path
namespace Go.Proofs.YtgjmbbkcgillcaaGreat.Path
open Go.RowKit
end Go.Proofs.YtgjmbbkcgillcaaGreat.Path
