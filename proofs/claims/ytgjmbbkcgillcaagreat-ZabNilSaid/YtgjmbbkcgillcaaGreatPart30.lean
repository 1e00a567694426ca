/- Lemmas, part 30: BalCode, BalNums, ZabCode1, ZabCode2, ZabOthers, StillCall, ZabRemind -/
import Derived.Test.YtgjmbbkcgillcaaGreatPart1
import Derived.Laws.StructEq
import Derived.Deep.QuietTactic
import Derived.BigQuiet
import Derived.Test.YtgjmbbkcgillcaaGreatPart29
import Derived.Test.YtgjmbbkcgillcaaGreatPart7
import Derived.Test.YtgjmbbkcgillcaaGreatPart22
set_option maxHeartbeats 16000000
namespace Go.Proofs.YtgjmbbkcgillcaaGreat.Bal
open Go.RowKit
theorem below_drewN (b:Nat) (w:World) (n:Nat):Below b w (w.drewN n):=⟨rfl,rfl,rfl,Nat.le_refl _,fun _ _=>rfl⟩
theorem bCy {k:IntKind} {a b:Int} (h:a=b):Ending.returned (.int k a)=.returned (.int k b):=by rw [h]
theorem bDb (a:Nat) (i n:Int) (w:World) (h:i<0∨n≤i∨281474976710656<a):
  Calls Tryz.prog 128 #[.int .u64 (a:Int),.int .i64 i,.int .i64 n] w fun e w'=>e=.returned (.int .u64 0)∧w=w':=by
 by_cases h1:i<0
 ·clear h;go_enter Tryz.func128,Tryz.ntmps128
  go_wp2_with fail;go_ret;exact ⟨rfl,rfl⟩
 ·by_cases h2:n≤i
  ·clear h;go_enter Tryz.func128,Tryz.ntmps128
   go_wp2_with fail;go_ret;exact ⟨rfl,rfl⟩
  ·have h3:(281474976710656:Int)<(a:Int):=by omega
   clear h;go_enter Tryz.func128,Tryz.ntmps128
   go_wp2_with fail;go_ret;exact ⟨rfl,rfl⟩
theorem aZf (a i n:Nat) (w:World) (hi:i<n) (hn:n<9223372036854775808) (ha:a≤281474976710656):
  Calls Tryz.prog 128 #[.int .u64 (a:Int),.int .i64 (i:Int),.int .i64 (n:Int)] w fun e w'=>e=.returned (.int .u64 (next a i n:Int))∧w=w':=by
 have hv:=aY2 (a:=a) hi;have hr1:=Nat.mod_lt a (show 0<n by omega);have hr2:=Nat.mod_le a n;have he:(a:Int) % (n:Int)=((a % n:Nat):Int):=(Int.natCast_emod a n).symm;generalize a % n=r at*;by_cases hc:i≤r
 ·rw [if_pos hc] at hv;have HV:=Lib.hid hv;clear hv;go_enter Tryz.func128,Tryz.ntmps128
  go_wp2_with fail;go_ret;exact ⟨bCy (a:=(a:Int) - r+i+n) (by rw [HV.out];omega),rfl⟩
 ·rw [if_neg hc] at hv;have HV:=Lib.hid hv;clear hv;go_enter Tryz.func128,Tryz.ntmps128
  go_wp2_with fail;go_ret;exact ⟨bCy (a:=(a:Int) - r+i) (by rw [HV.out];omega),rfl⟩
theorem aVu (e n:Nat) (w:World) (h:0<n) (hn:n<9223372036854775808):
  Calls Tryz.prog 166 #[.int .u64 (e:Int),.int .i64 (n:Int)] w fun r w'=>r=.returned (.int .i64 ((e % n:Nat):Int))∧w=w':=by
 have hr1:=Nat.mod_lt e h;have he:(e:Int) % (n:Int)=((e % n:Nat):Int):=(Int.natCast_emod e n).symm;generalize e % n=r at*;go_enter Tryz.func166,Tryz.ntmps166
 go_wp2_with fail;go_ret;exact ⟨rfl,rfl⟩
theorem aEs (n:Nat) (w:World) (h:0<n) (hn:n<9223372036854775808):
  Calls Tryz.prog 152 #[.int .i64 (n:Int)] w fun r w'=>r=.returned (.int .i64 (quorum n:Int))∧w=w':=by
 have hq:((quorum n:Nat):Int)=(n:Int) / 2+1:=by unfold quorum;omega
 have HQ:=Lib.hid hq;clear hq;go_enter Tryz.func152,Tryz.ntmps152
 go_wp2_with fail;go_ret;exact ⟨by rw [HQ.out];rfl,rfl⟩
theorem bA5:Tryz.prog.underlying 290=some (.array 2 33):=by kernel_rfl
theorem aWh (w:World):(Go.sizeOf 33).run Tryz.prog w=.ok 1 w:=by kernel_rfl
theorem bDa (a b:Value) (w:World):(part 33 #[a,b] 0).run Tryz.prog w=.ok a w:=by kernel_rfl
theorem bCh (a b:Value) (w:World):(part 33 #[a,b] 1).run Tryz.prog w=.ok b w:=by kernel_rfl
theorem aYc (c d l m:Int) (w:World):(Op.equalIn 10000 290 (.agg #[.int .u64 c,.int .u64 l]) (.agg #[.int .u64 d,.int .u64 m])).run Tryz.prog w=.ok (c==d&&l==m) w:=by
 show (Op.equalIn (9998+1+1) _ _ _).run _ _=_;rw [Op.equalIn];simp only [Sem.run_bind,run_underlying bA5,Result.andThen_ok,aWh];have hr:List.range' 0 2=[0,1]:=rfl;have he:=fun (x y:Int)=>run_equalIn_int (P:=Tryz.prog) w 9998 33 .u64 .u64 x y bCf;simp [hr,bDa,bCh,he];by_cases h1:c=d<;>by_cases h2:l=m<;>simp [h1,h2]
theorem aV5 (b:Nat) (h:b<2^63):b^^^2^63=2^63+b:=by
 apply Nat.eq_of_testBit_eq
 intro j;rw [Nat.testBit_xor,Nat.testBit_two_pow];rcases Nat.lt_trichotomy j 63 with h1|h1|h1
 ·rw [Nat.testBit_two_pow_add_gt h1];have:¬63=j:=by omega
  simp [this]
 ·subst h1;rw [Nat.testBit_two_pow_add_eq];simp
 ·have h2:(2:Nat)^64≤2^j:=Nat.pow_le_pow_right (by decide) h1;rw [Nat.testBit_lt_two_pow (x:=b) (by omega),Nat.testBit_lt_two_pow (x:=2^63+b) (by omega)];have:¬63=j:=by omega
  simp [this]
theorem aVm (l:Int) (h1:-9223372036854775808≤l) (h2:l<9223372036854775808):bits .xor .u64 (IntKind.u64.wrap l) 9223372036854775808=l+9223372036854775808:=by
 by_cases h:0≤l
 ·have e:IntKind.u64.wrap l=((l.toNat:Nat):Int):=by
   simp [IntKind.wrap,IntKind.bits,IntKind.signed];omega
  have:=u64_xor_nat l.toNat (2^63) (by omega) (by decide);rw [aV5 _ (by omega)] at this;rw [e];have e2:(((2^63:Nat)):Int)=9223372036854775808:=by decide
  rw [e2] at this;rw [this];omega
 ·have e:IntKind.u64.wrap l=(((l+18446744073709551616).toNat:Nat):Int):=by
   simp [IntKind.wrap,IntKind.bits,IntKind.signed];omega
  have:=u64_xor_nat (l+18446744073709551616).toNat (2^63) (by omega) (by decide);have e3:(l+18446744073709551616).toNat=(l+9223372036854775808).toNat^^^2^63:=by rw [aV5 _ (by omega)];omega
  rw [e3,Nat.xor_assoc,Nat.xor_self,Nat.xor_zero,←e3] at this;rw [e];have e2:(((2^63:Nat)):Int)=9223372036854775808:=by decide
  rw [e2] at this;rw [this];omega
def btr (c l d m:Int):Bool:=decide (d<c)||(decide (c=d)&&decide (m<l))
theorem aQf (l:Int) (w:World) (h1:-9223372036854775808≤l) (h2:l<9223372036854775808):
  Calls Tryz.prog 229 #[.int .i64 l] w fun r w'=>r=.returned (.int .u64 (l+9223372036854775808))∧w=w':=by
 have hb:=aVm l h1 h2;go_enter Tryz.func229,Tryz.ntmps229
 go_wp2_with fail;go_ret;exact ⟨rfl,rfl⟩
def RelAt (c d:Int) (W:World) (v:Value) (wr:World):Prop:=∃k:Nat,k≤1∧v=.int .i64 (k:Int)∧(k=1→c=d)∧Below W.heap.size W wr
theorem aWw (c l d m:Int) (w:World):
  Calls Tryz.prog 228 #[.agg #[.int .u64 c,.int .u64 l],.agg #[.int .u64 d,.int .u64 m]] w fun r w'=>r=.returned (.bool (btr c l d m))∧Below w.heap.size w w':=by
 have hq:=aYc c d l m;obtain ⟨W,hW⟩:∃W,W=(w.alloc (.cells #[.int .u64 c,.int .u64 l] 290)).alloc (.cells #[.int .u64 d,.int .u64 m] 290):=⟨_,rfl⟩;have HB:Hid (Below w.heap.size w W):=by show Below _ _ _;rw [hW];exact ((Below.refl _ _).alloc (Nat.le_refl _) _).alloc (by simp) _
 have HA:Hid (Bk W w.heap.size 290 #[.int .u64 c,.int .u64 l]):=by show Bk _ _ _ _;rw [hW];exact (Bk.new w _ _).alloc _
 have HD:Hid (Bk W (w.heap.size+1) 290 #[.int .u64 d,.int .u64 m]):=by
  show Bk _ _ _ _;rw [hW];have:=Bk.new (w.alloc (.cells #[.int .u64 c,.int .u64 l] 290)) 290 #[.int .u64 d,.int .u64 m];rwa [World.size_alloc] at this
 have HW:=Lib.hid hW;clear hW;by_cases h1:c=d
 ·subst h1;by_cases h2:l=m
  ·subst h2;have hr:btr c l c l=false:=by simp [btr]
   rw [hr];have e1:(c==c&&l==l)=true:=by simp
   rw [e1] at hq;clear hr e1;go_enter Tryz.func228,Tryz.ntmps228
   go_wp2_with fail;rw [←HW.out];go_ret;exact ⟨rfl,HB.out⟩
  ·have hr:btr c l c m=decide (m<l):=by simp [btr]
   rw [hr];have e1:(c==c&&l==m)=false:=by simp [h2]
   rw [e1] at hq;have hlm:(l==m)=false:=by simp [h2]
   clear hr e1 h2;go_enter Tryz.func228,Tryz.ntmps228
   go_wp2_with fail;rw [←HW.out];go_loopw [5] (fun v wr=>RelAt c c W v wr) (fun v _=>1 - (intOf v).toNat)
   case atStart=>exact ⟨0,by omega,rfl,fun _=>rfl,Below.refl _ _⟩
   case round=>
    obtain ⟨k,hk,rfl,-,hb⟩:=hrel;have HBR:=Lib.hid hb;have a0:wr.cell? ⟨w.heap.size,0,none⟩=some (.int .u64 c):=(HA.out.below hb).cell 0;have a1:wr.cell? ⟨w.heap.size,1,none⟩=some (.int .u64 l):=(HA.out.below hb).cell 1;have b0:wr.cell? ⟨w.heap.size+1,0,none⟩=some (.int .u64 c):=(HD.out.below hb).cell 0;have b1:wr.cell? ⟨w.heap.size+1,1,none⟩=some (.int .u64 m):=(HD.out.below hb).cell 1;clear hb;rcases (show k=0∨k=1 by omega) with rfl|rfl
    ·go_wp2_with fail
     go_quiet (fail)
     go_wp2_with fail;exact ⟨⟨1,Nat.le_refl _,rfl,fun _=>rfl,HBR.out.trans (below_drewN _ _ nq)⟩,by simp [intOf]⟩
    ·go_wp2_with fail
     go_quiet (fail)
     go_wp2_with fail;have a1:(wr.drewN nq).cell? ⟨w.heap.size,1,none⟩=some (.int .u64 l):=by rw [World.cell?_drewN];exact a1
     have b1:(wr.drewN nq).cell? ⟨w.heap.size+1,1,none⟩=some (.int .u64 m):=by rw [World.cell?_drewN];exact b1
     have HB2:Hid (Below w.heap.size w (wr.drewN nq)):=HB.out.trans ((HBR.out.trans (below_drewN _ _ nq)).mono HB.out.size);generalize wr.drewN nq=wq at*
     go_quiet (fail)
     go_wp2_with fail;go_ret;exact ⟨rfl,HB2.out.trans (below_drewN _ _ _)⟩
 ·have hr:btr c l d m=decide (d<c):=by simp [btr,h1]
  rw [hr];have e1:(c==d&&l==m)=false:=by simp [h1]
  rw [e1] at hq;have hcd:(c==d)=false:=by simp [h1]
  clear hr e1 h1;go_enter Tryz.func228,Tryz.ntmps228
  go_wp2_with fail;rw [←HW.out];go_loopw [5] (fun v wr=>RelAt c d W v wr) (fun v _=>1 - (intOf v).toNat)
  case atStart=>exact ⟨0,by omega,rfl,(fun h=>absurd h (by decide)),Below.refl _ _⟩
  case round=>
   obtain ⟨k,hk,rfl,hkc,hb⟩:=hrel;have HBR:=Lib.hid hb;have a0:wr.cell? ⟨w.heap.size,0,none⟩=some (.int .u64 c):=(HA.out.below hb).cell 0;have b0:wr.cell? ⟨w.heap.size+1,0,none⟩=some (.int .u64 d):=(HD.out.below hb).cell 0;clear hb;rcases (show k=0∨k=1 by omega) with rfl|rfl
   ·clear hkc;go_wp2_with fail
    go_quiet (fail)
    go_wp2_with fail;have a0:(wr.drewN nq).cell? ⟨w.heap.size,0,none⟩=some (.int .u64 c):=by rw [World.cell?_drewN];exact a0
    have b0:(wr.drewN nq).cell? ⟨w.heap.size+1,0,none⟩=some (.int .u64 d):=by rw [World.cell?_drewN];exact b0
    have HB2:Hid (Below w.heap.size w (wr.drewN nq)):=HB.out.trans ((HBR.out.trans (below_drewN _ _ nq)).mono HB.out.size);generalize wr.drewN nq=wq at*
    go_quiet (fail)
    go_wp2_with fail;go_ret;exact ⟨rfl,HB2.out.trans (below_drewN _ _ _)⟩
   ·have:=hkc rfl;simp [this] at hcd
theorem aSg (c l d m:Int) (w:World) (h1:-9223372036854775808≤l∧l<9223372036854775808) (h2:-9223372036854775808≤m∧m<9223372036854775808):
  Calls Tryz.prog 192 #[.int .u64 c,.int .i64 l,.int .u64 d,.int .i64 m] w fun r w'=>r=.returned (.bool (btr c l d m))∧Below w.heap.size w w':=by
 have C1:=Lib.hid (aQf l w h1.1 h1.2);have C2:=Lib.hid (aQf m w h2.1 h2.2);have C3:=aWw c (l+9223372036854775808) d (m+9223372036854775808) w;have hr:btr c (l+9223372036854775808) d (m+9223372036854775808)=btr c l d m:=by
  unfold btr;by_cases h:m<l
  ·simp [h]
  ·have:¬m+9223372036854775808<l+9223372036854775808:=by omega
   simp [h,this]
 rw [hr] at C3;have C3:=Lib.hid C3;clear hr;generalize btr c l d m=b at*;go_enter Tryz.func192,Tryz.ntmps192
 go_wp2_with fail;refine C1.out.mono ?_;rintro _ _ ⟨rfl,rfl⟩;go_wp2_with fail;refine C2.out.mono ?_;rintro _ _ ⟨rfl,rfl⟩;go_wp2_with fail;refine C3.out.mono ?_;rintro _ w' ⟨rfl,hb⟩;have HB:=Lib.hid hb;clear hb;go_wp2_with fail;go_ret;exact ⟨rfl,HB.out⟩
end Go.Proofs.YtgjmbbkcgillcaaGreat.Bal
namespace Go.Proofs.YtgjmbbkcgillcaaGreat.Bal
open Go.RowKit
end Go.Proofs.YtgjmbbkcgillcaaGreat.Bal
namespace Go.Proofs.YtgjmbbkcgillcaaGreat.Zab
open Go.RowKit Disk Log Sto Zm Bal
theorem aGw (a b c:Value) (w:World):(Instr.field 69 (.agg #[a,b,c]) 0).run Tryz.prog w=.ok a w∧(Instr.field 69 (.agg #[a,b,c]) 1).run Tryz.prog w=.ok b w∧(Instr.field 69 (.agg #[a,b,c]) 2).run Tryz.prog w=.ok c w:=⟨by kernel_rfl,by kernel_rfl,by kernel_rfl⟩
section
variable {w0 w w':World} {Y Z:Nat→Prop} {gz gs gd pg:Nat} {z:Zn} {N:Nat}
set_option maxRecDepth 8000 in
theorem aC9 (h:Nd w0 w Y Z gz gs gd pg z N):Calls Tryz.prog 57 #[.pointer (some ⟨gz,0,none⟩)] w fun e w'=>∃A c,e=.returned (.slice A z.k.lines.length c)∧OwnL w.heap.size w' (.slice A z.k.lines.length c) z.k.lines∧Below w.heap.size w w':=by
 obtain ⟨rv,hb,_⟩:=h.bk;have q2:=hb.cell 2;simp only [ndC] at q2;have CK:=Lib.hid h.ss.kept;have hF:Hid (∀A c V,OwnL w.heap.size V (.slice A z.k.lines.length c) z.k.lines→Below w.heap.size w V→∃A c',(.returned (.slice A z.k.lines.length c):Ending)=.returned (.slice A z.k.lines.length c')∧OwnL w.heap.size V (.slice A z.k.lines.length c') z.k.lines∧Below w.heap.size w V):=fun A c V h1 h2=>⟨A,c,rfl,h1,h2⟩;clear h hb;go_enter Tryz.func57,Tryz.ntmps57
 go_wp2_with fail;refine CK.out.mono ?_;rintro e w1 ⟨A,c,rfl,ho,hb1⟩;have HO:=Lib.hid ho;have HB:=Lib.hid hb1;have hf:=(aGw (.int .u64 (z.k.promised:Int)) (.int .u64 (z.k.current:Int)) (.slice A z.k.lines.length c) w1).2.2;clear ho hb1 CK;unfold kpV;go_wp2_with fail;go_ret;exact ⟨A,c,rfl,HO.out,HB.out⟩
set_option maxRecDepth 8000 in
theorem aCo (h:Nd w0 w Y Z gz gs gd pg z N):Calls Tryz.prog 23 #[.pointer (some ⟨gz,0,none⟩)] w fun e w'=>e=.returned (.bool false)∧w=w':=by
 obtain ⟨rv,hb,_⟩:=h.bk;have q2:=hb.cell 2;simp only [ndC] at q2;have CK:=Lib.hid h.ss.dead;clear h hb;go_enter Tryz.func23,Tryz.ntmps23
 go_wp2_with fail;refine CK.out.mono ?_;rintro e w1 ⟨rfl,rfl⟩;go_wp2_with fail;go_ret;exact ⟨rfl,rfl⟩
set_option maxRecDepth 8000 in
theorem aO1 (h:Nd w0 w Y Z gz gs gd pg z N):Calls Tryz.prog 33 #[.pointer (some ⟨gz,0,none⟩)] w fun e w'=>e=.returned (.int .u64 (z.k.promised:Int))∧Below w.heap.size w w':=by
 obtain ⟨rv,hb,_⟩:=h.bk;have q2:=hb.cell 2;simp only [ndC] at q2;have CK:=Lib.hid h.ss.kept;clear h hb;go_enter Tryz.func33,Tryz.ntmps33
 go_wp2_with fail;refine CK.out.mono ?_;rintro e w1 ⟨A,c,rfl,ho,hb1⟩;have HB:=Lib.hid hb1;have hf:=(aGw (.int .u64 (z.k.promised:Int)) (.int .u64 (z.k.current:Int)) (.slice A z.k.lines.length c) w1).1;clear ho hb1 CK;unfold kpV;go_wp2_with fail;go_ret;exact ⟨rfl,HB.out⟩
theorem aD1 (g:Nat) (w:World):(Instr.typeAssert (.iface 89 (.pointer (some ⟨g,0,none⟩))) 92 89 true).run Tryz.prog w=.ok (.tuple #[.pointer (some ⟨g,0,none⟩),.bool true]) w:=by kernel_rfl
theorem aBq (g:Nat) (w:World):(Instr.typeAssert (.iface 187 (.pointer (some ⟨g,0,none⟩))) 92 89 true).run Tryz.prog w=.ok (.tuple #[.pointer none,.bool false]) w:=by kernel_rfl
theorem aBr (w:World):(Instr.typeAssert (.iface 129 (.agg #[])) 92 89 true).run Tryz.prog w=.ok (.tuple #[.pointer none,.bool false]) w:=by kernel_rfl
theorem aH4 (g:Nat) (w:World):(Instr.typeAssert (.iface 187 (.pointer (some ⟨g,0,none⟩))) 92 187 true).run Tryz.prog w=.ok (.tuple #[.pointer (some ⟨g,0,none⟩),.bool true]) w:=by kernel_rfl
theorem aFa (g:Nat) (w:World):(Instr.typeAssert (.iface 89 (.pointer (some ⟨g,0,none⟩))) 92 187 true).run Tryz.prog w=.ok (.tuple #[.pointer none,.bool false]) w:=by kernel_rfl
theorem aFb (w:World):(Instr.typeAssert (.iface 129 (.agg #[])) 92 187 true).run Tryz.prog w=.ok (.tuple #[.pointer none,.bool false]) w:=by kernel_rfl
set_option maxRecDepth 8000 in
theorem aK4 (h:Nd w0 w Y Z gz gs gd pg z N):Calls Tryz.prog 36 #[.pointer (some ⟨gz,0,none⟩)] w fun e w'=>e=.returned (.bool z.leads)∧w=w':=by
 obtain ⟨rv,hb,hr⟩:=h.bk;have q3:=hb.cell 3;simp only [ndC] at q3;unfold Zn.leads;clear h hb;cases hrole:z.role with
 |follow=>
  rw [hrole] at hr;subst hr;have ha:=aBr w;clear hrole;go_enter Tryz.func36,Tryz.ntmps36
  go_wp2_with fail;go_ret;exact ⟨rfl,rfl⟩
 |stand e=>
  rw [hrole] at hr;obtain ⟨gp,gm,A,c,D,rfl,-⟩:=hr;have ha:=aBq gp w;clear hrole;go_enter Tryz.func36,Tryz.ntmps36
  go_wp2_with fail;go_ret;exact ⟨rfl,rfl⟩
 |lead e base acked ready=>
  rw [hrole] at hr;obtain ⟨gl,gm,D,rfl,_,_,hl,_⟩:=hr;have ha:=aD1 gl w;have r3:w.cell? ⟨gl,3,none⟩=some (.bool ready):=hl.cell 3;clear hrole hl;go_enter Tryz.func36,Tryz.ntmps36
  go_wp2_with fail;go_ret;exact ⟨rfl,rfl⟩
set_option maxRecDepth 8000 in
theorem aB3 (e:Int) (w:World):Calls Tryz.prog 59 #[.int .u64 e] w fun r w'=>r=.returned (.int .u64 e)∧w=w':=by
 go_enter Tryz.func59,Tryz.ntmps59
 go_wp2_with fail;go_ret;exact ⟨rfl,rfl⟩
def aWi (gz id n gs seen com:Nat) (w:World) (e:Ending) (w':World):Prop:=e=.returned (.tuple #[])∧Bk w' gz 94 (ndC id n gs (.iface 129 (.agg #[])) seen 0 com)∧Out (fun b=>b=gz) w w'
set_option maxRecDepth 8000 in
theorem aCa {id n gs:Nat} {rv:Value} {seen waited com:Nat} (hb:Bk w gz 94 (ndC id n gs rv seen waited com)):
  Calls Tryz.prog 140 #[.pointer (some ⟨gz,0,none⟩)] w (aWi gz id n gs seen com w):=by
 have q3:w.cell? ⟨gz,3,none⟩=some rv:=hb.cell 3;have q5:w.cell? ⟨gz,5,none⟩=some (.int .i64 (waited:Int)):=hb.cell 5;have f3:=hb.frozen 3;have f5:=hb.frozen 5;have HF:Hid (∀V,V=(w.setCell ⟨gz,3,none⟩ (.iface 129 (.agg #[]))).setCell ⟨gz,5,none⟩ (.int .i64 0)→aWi gz id n gs seen com w (.returned (.tuple #[])) V):=fun V hV=>by
  rw [hV];refine ⟨rfl,?_,?_⟩
  ·have h1:=(hb.set 3 (.iface 129 (.agg #[]))).set 5 (.int .i64 0);simpa [ndC] using h1
  ·exact (Out.setCell (X:=fun b=>b=gz) w (p:=⟨gz,3,none⟩) rfl _).trans (Out.setCell (X:=fun b=>b=gz) _ (p:=⟨gz,5,none⟩) rfl _) fun k hk=>.inl hk
 clear hb;go_enter Tryz.func140,Tryz.ntmps140
 go_wp2_with fail
 go_end0
 exact HF.out _ rfl
theorem Zn.Ok.follow {z:Zn} (h:z.Ok):z.follow.Ok:=⟨h.n1,h.n3,h.id,h.fine,h.seen,h.com,trivial⟩
theorem aL3 (h:Nd w0 w Y Z gz gs gd pg z N):Calls Tryz.prog 140 #[.pointer (some ⟨gz,0,none⟩)] w (DidP w0 Y Z gz gs gd pg (.tuple #[]) z.follow N w):=by
 obtain ⟨rv,hb,_⟩:=h.bk;refine (aCa hb).mono fun e w' ⟨he,h1,h2⟩=>⟨Y,Z,he,⟨h.ss.out h2 fun b hb=>?_,⟨_,h1,rfl⟩,h.ok.follow,h.pp,h.low,h.gzn,fun b hy=>⟨(h.yz b hy).1,(h.yz b hy).2.1,Nat.lt_of_lt_of_le (h.yz b hy).2.2 h2.size⟩⟩,⟨h2.mono fun k hk=>.inl (.inl hk),fun b hb=>.inl hb⟩⟩;rw [hb];exact ⟨h.gzn.1,h.low⟩
set_option maxRecDepth 8000 in
theorem aMi (h:Nd w0 w Y Z gz gs gd pg z N) (i:Int) (e:Nat):Calls Tryz.prog 138 #[.pointer (some ⟨gz,0,none⟩),.int .i64 i,.int .u64 (e:Int)] w fun r w'=>r=.returned (.bool (((e % z.n:Nat):Int)==i))∧w=w':=by
 obtain ⟨rv,hb,_⟩:=h.bk;have q1:=hb.cell 1;simp only [ndC] at q1;have CK:=Lib.hid (aVu e z.n w h.ok.n1 (by have:=h.ok.n3;omega));clear h hb;go_enter Tryz.func138,Tryz.ntmps138
 go_wp2_with fail;refine CK.out.mono ?_;rintro r w1 ⟨rfl,rfl⟩;go_wp2_with fail;go_ret;exact ⟨rfl,rfl⟩
def TellP (to:Nat) (m:Mg) (w:World) (e:Ending) (w':World):Prop:=∃v,e=.returned v∧OwnO w.heap.size w' v [⟨to,putB m⟩]∧Below w.heap.size w w'
theorem aCq:(Tryz.prog.info? 36).map (·.size)=some 6:=by kernel_rfl
set_option maxRecDepth 100000 in
theorem aEr {P:Nat→Prop} (v0:Value) (to:Nat) (m:Mg) (A:Option Addr) (c:Nat) (w:World) (hok:m.Ok) (h:LnS P w A m.lines.length m.lines):
  Calls Tryz.prog 127 #[v0,.int .i64 (to:Int),.agg (mgC m A m.lines.length c)] w (TellP to m w):=by
 have hb0:Below w.heap.size w (w.alloc (.cells (mgC m A m.lines.length c) 36)):=(Below.refl _ _).alloc (Nat.le_refl _) _;obtain ⟨W,hW⟩:∃W,W=w.alloc (.cells (mgC m A m.lines.length c) 36):=⟨_,rfl⟩;have hm:Bk W w.heap.size 36 (mgC m A m.lines.length c):=by rw [hW];exact Bk.new _ _ _
 rw [←hW] at hb0;have CP:=Lib.hid (bAb A m.lines.length c m W hok (h.below hb0));have HB:=Lib.hid hb0;have HW:=Lib.hid hW;have m0:W.cell? ⟨w.heap.size,0,none⟩=some (.int .u8 (m.kind:Int)):=hm.cell 0;have m1:W.cell? ⟨w.heap.size,1,none⟩=some (.int .u64 (m.epoch:Int)):=hm.cell 1;have m2:W.cell? ⟨w.heap.size,2,none⟩=some (.int .u64 (m.current:Int)):=hm.cell 2;have m3:W.cell? ⟨w.heap.size,3,none⟩=some (.int .i64 m.at_):=hm.cell 3;have m4:W.cell? ⟨w.heap.size,4,none⟩=some (.int .i64 m.commit):=hm.cell 4;have m5:W.cell? ⟨w.heap.size,5,none⟩=some (.slice A m.lines.length c):=hm.cell 5;clear hm hb0 hok h;unfold mgC at hW CP ⊢;rw [hW] at m0 m1 m2 m3 m4 m5 CP;clear hW;go_enter Tryz.func127,Tryz.ntmps127
 go_wp2_with fail;refine CP.out.mono ?_;rintro e w1 ⟨B,n,d,rfl,hn,hd,hown,hb1⟩;have hb2:Below w.heap.size w w1:=HB.out.trans (by
  have h3:Below W.heap.size W w1:=by rw [HW.out];exact hb1
  exact h3.mono HB.out.size)
 have HF:Hid (TellP to m w (.returned (.slice (some ⟨w1.heap.size,0,none⟩) 1 1)) (w1.alloc (.cells #[.int .i64 (to:Int),.slice B n d] 76))):=
  ⟨_,rfl,OwnO.one (o:=⟨to,putB m⟩) hb2.size (Bk.new _ _ _) (aJf (hown.kept (aA7 ((Below.refl _ _).alloc (Nat.le_refl _) _) none) (Classical.em _)) (by rw [World.size_alloc];omega)),hb2.alloc hb2.size _⟩
 clear hn hd hown hb1 hb2 CP m0 m1 m2 m3 m4 m5 HB HW;go_wp2_with fail;go_ret;exact HF.out
end
end Go.Proofs.YtgjmbbkcgillcaaGreat.Zab
namespace Go.Proofs.YtgjmbbkcgillcaaGreat.Zab
open Go.RowKit Disk Log Sto Zm Bal
theorem aTn {k e c:Nat} {a d:Int} {l:List Ln} (hk:k<256) (he:e<18446744073709551616) (hc:c<18446744073709551616) (ha:0≤a∧a≤1000000) (hd:0≤d∧d≤1000000) (hl:l.length≤256) (hx:∀x∈l,lineB x=true):(⟨k,e,c,a,d,l⟩:Mg).Ok:=
 ⟨hk,he,hc,by show _≤a;omega,by show a≤_;omega,by show _≤d;omega,by show d≤_;omega,by show l.length≤_;omega,fun x h=>by
  obtain ⟨_,h2,_,h4⟩:=aAi.1 (hx x h);unfold top at h2;omega⟩
theorem bCx {e:Nat} (h:e<18446744073709551616):(stM e).Ok:=aTn (by decide) h (by decide) (by decide) (by decide) (by decide) (fun x hx=>by cases hx)
theorem bCi {e:Nat} (h:e<18446744073709551616):(reM e).Ok:=aTn (by decide) h (by decide) (by decide) (by decide) (by decide) (fun x hx=>by cases hx)
theorem bD5 {e a:Nat} (h:e<18446744073709551616) (ha:a≤1000000):(akM e a).Ok:=aTn (by decide) h (by decide) (by omega) (by decide) (by decide) (fun x hx=>by cases hx)
theorem bCs {e c:Nat} {l:List Ln} (h:e<18446744073709551616) (hc:c<18446744073709551616) (hl:l.length≤256) (hx:∀x∈l,lineB x=true):(prM e c l).Ok:=aTn (by decide) h hc (by decide) (by decide) hl hx
theorem bCk {e:Nat} {l:List Ln} (h:e<18446744073709551616) (hl:l.length≤256) (hx:∀x∈l,lineB x=true):(adM e l).Ok:=aTn (by decide) h (by decide) (by decide) (by decide) hl hx
theorem bD3 {e a d:Nat} {l:List Ln} (h:e<18446744073709551616) (ha:a≤1000000) (hd:d≤1000000) (hl:l.length≤256) (hx:∀x∈l,lineB x=true):(apM e a d l).Ok:=aTn (by decide) h (by decide) (by omega) (by omega) hl hx
section
variable {w0 w w':World} {Y Z:Nat→Prop} {gz gs gd pg:Nat} {z:Zn} {N:Nat}
set_option maxRecDepth 8000 in
theorem aGe (v0:Value) (to e:Nat) (w:World) (he:e<18446744073709551616):Calls Tryz.prog 139 #[v0,.int .i64 (to:Int),.int .u64 (e:Int)] w (TellP to (reM e) w):=by
 have CT:=Lib.hid (aEr (P:=fun _=>True) v0 to (reM e) none 0 w (bCi he) (LnS.nil_ _ _ _));unfold mgC reM at CT;have HF:Hid (∀r V,TellP to (reM e) w r V→TellP to (reM e) w r V):=fun _ _ h=>h;go_enter Tryz.func139,Tryz.ntmps139
 go_wp2_with fail;refine CT.out.mono ?_;rintro r w1 ⟨v,rfl,ho,hb⟩;have HO:=Lib.hid ho;have HB:=Lib.hid hb;clear ho hb CT;go_wp2_with fail;go_ret;exact ⟨v,rfl,HO.out,HB.out⟩
set_option maxRecDepth 8000 in
theorem aJc (v0:Value) (to e a:Nat) (w:World) (he:e<18446744073709551616) (ha:a≤1000000):Calls Tryz.prog 142 #[v0,.int .i64 (to:Int),.int .u64 (e:Int),.int .i64 (a:Int)] w (TellP to (akM e a) w):=by
 have CT:=Lib.hid (aEr (P:=fun _=>True) v0 to (akM e a) none 0 w (bD5 he ha) (LnS.nil_ _ _ _));unfold mgC akM at CT;go_enter Tryz.func142,Tryz.ntmps142
 go_wp2_with fail;refine CT.out.mono ?_;rintro r w1 ⟨v,rfl,ho,hb⟩;have HO:=Lib.hid ho;have HB:=Lib.hid hb;clear ho hb CT;go_wp2_with fail;go_ret;exact ⟨v,rfl,HO.out,HB.out⟩
theorem aYv {P:Nat→Prop} {w:World} {A:Option Addr} {n:Nat} {ls:List Ln} (h:LnS P w A n ls) {m:Nat} (hm:m≤n):LnS P w A m (ls.take m):=
 ⟨by rw [List.length_take,h.len];omega,fun j x hj=>h.at_ j x (by
  rw [List.getElem?_take] at hj;split at hj
  ·exact hj
  ·cases hj)⟩
set_option maxRecDepth 8000 in
theorem aCm (h:Nd w0 w Y Z gz gs gd pg z N):Calls Tryz.prog 32 #[.pointer (some ⟨gz,0,none⟩)] w fun e w'=>∃A c,e=.returned (.slice A z.com c)∧LnS (fun b=>w.heap.size≤b∧b<w'.heap.size) w' A z.com (z.k.lines.take z.com)∧Below w.heap.size w w':=by
 have CL:=Lib.hid (aC9 h);have hcom:=h.ok.com;have hmany:=h.ok.fine.many;obtain ⟨rv,hb,_⟩:=h.bk;have HBK:=Lib.hid hb;have hmin:min (z.com:Int) (z.k.lines.length:Int)=(z.com:Int):=by omega
 clear h hb;go_enter Tryz.func32,Tryz.ntmps32
 go_wp2_with fail;refine CL.out.mono ?_;rintro e w1 ⟨A,c,rfl,ho,hb1⟩;have q6:w1.cell? ⟨gz,6,none⟩=some (.int .i64 (z.com:Int)):=(HBK.out.below hb1).cell 6;obtain ⟨A1,c1,e1,hlc,hbl⟩:=ho.form;injection e1 with e1 e2 e3;subst e1 e3;have hcl:z.com≤c:=by omega
 have HL:=Lib.hid (aYv ho.lns hcom);have HB:=Lib.hid hb1;clear ho hb1 CL HBK hbl e2;go_wp2_with fail;go_ret;exact ⟨A,c,rfl,HL.out,HB.out⟩
end
end Go.Proofs.YtgjmbbkcgillcaaGreat.Zab
namespace Go.Proofs.YtgjmbbkcgillcaaGreat.Zab
open Go.RowKit Disk Log Sto Zm Bal
theorem aDz (id i:Nat) (f:Nat→Mg):others id (i+1) f=others id i f++(if i=id then [] else [⟨i,f i⟩]):=by
 unfold others oth;rw [List.range_succ,List.filter_append,List.map_append]
 congr 1
 by_cases h:i=id
 ·rw [if_pos h];simp [h]
 ·rw [if_neg h];simp [h]
theorem aG0 (id n:Nat) (f:Nat→Mg):(others id n f).length≤n:=by
 unfold others oth;rw [List.length_map];have:=List.length_filter_le (fun i=>decide (i≠id)) (List.range n);rwa [List.length_range] at this
def AllP (id n:Nat) (f:Nat→Mg) (w:World) (e:Ending) (w':World):Prop:=∃v,e=.returned v∧OwnO w.heap.size w' v (obs (others id n f))∧(others id n f=[]→v=.slice none 0 0)∧Below w.heap.size w w'
def RelT (w:World) (id n:Nat) (f:Nat→Mg) (v i:Value) (wr:World):Prop:=∃k:Nat,k≤n∧i=.int .i64 (k:Int)∧OwnO w.heap.size wr v (obs (others id k f))∧(others id k f=[]→v=.slice none 0 0)∧Below w.heap.size w wr
def SayP (w:World) (id n:Nat) (F:FuncId) (caps:Array Value) (f:Nat→Mg):Prop:=
 (∀(a:Value) W,(callFunc F (#[a]++caps)).run Tryz.prog W=.ok (.enter F (#[a]++caps)) W)∧∀(i:Nat) W,i<n→i≠id→Below w.heap.size w W→(f i).Ok∧Calls Tryz.prog F (#[.int .i64 (i:Int)]++caps) W (fun e w'=>∃A c,e=.returned (.agg (mgC (f i) A (f i).lines.length c))∧LnS (fun _=>True) w' A (f i).lines.length (f i).lines∧Below W.heap.size W w')
set_option maxRecDepth 100000 in
theorem aFc {w:World} {gz id n gs:Nat} {rv:Value} {seen waited com:Nat} (hb:Bk w gz 94 (ndC id n gs rv seen waited com)) (hn:n≤1000) (F:FuncId) (caps:Array Value) (f:Nat→Mg) (hs:SayP w id n F caps f):
  Calls Tryz.prog 77 #[.pointer (some ⟨gz,0,none⟩),.func (.func F) #[] caps] w (AllP id n f w):=by
 have HCF:=Lib.hid hs.1;have HCA:=Lib.hid hs.2;have HBK:=Lib.hid hb;have q1:w.cell? ⟨gz,1,none⟩=some (.int .i64 (n:Int)):=hb.cell 1;have h0:Hid (RelT w id n f (.slice none 0 0) (.int .i64 ((0:Nat):Int)) w):=⟨0,Nat.zero_le _,rfl,OwnO.nil_ _ _,fun _=>rfl,Below.refl _ _⟩;clear hs hb;go_enter Tryz.func77,Tryz.ntmps77
 go_wp2_with fail;go_loopw [5,11] (fun v i wr=>RelT w id n f v i wr) (fun _ i _=>n - (intOf i).toNat)
 case atStart=>exact h0.out
 case round=>
  clear h0 q1;obtain ⟨k,hk,rfl,ho,hnil,hbl⟩:=hrel;have HO:=Lib.hid ho;have HNIL:=Lib.hid hnil;have HBL:=Lib.hid hbl;have q0:wr.cell? ⟨gz,0,none⟩=some (.int .i64 (id:Int)):=(HBK.out.below hbl).cell 0;clear ho hnil hbl;by_cases hlt:k<n
  ·by_cases hid:k=id
   ·have HF:Hid (RelT w id n f u5 (.int .i64 ((k+1:Nat):Int)) wr):=⟨k+1,by omega,rfl,by rw [aDz,if_pos hid,List.append_nil];exact HO.out,by rw [aDz,if_pos hid,List.append_nil];exact HNIL.out,HBL.out⟩;subst hid;clear HO HBL HCA HCF;go_wp2_with fail;exact ⟨HF.out,by simp [intOf];omega⟩
   ·obtain ⟨hok,hc⟩:=HCA.out k wr hlt hid HBL.out;have HOK:=Lib.hid hok;have HC:=Lib.hid hc;have hne:((k:Int)==(id:Int))=false:=by rw [beq_eq_false_iff_ne];omega
    have hne2:¬(k:Int)=(id:Int):=by omega
    have hcf:=HCF.out (.int .i64 (k:Int));clear hok hc;go_wp2_with fail;refine HC.out.mono ?_;rintro e w1 ⟨A,c,rfl,hl,hb1⟩;have CT:=Lib.hid (aEr (.pointer (some ⟨gz,0,none⟩)) k (f k) A c w1 HOK.out hl);have HB1:=Lib.hid hb1;clear hl hb1 HC hcf;generalize hm:mgC (f k) A (f k).lines.length c=mv at*;clear hm;go_wp2_with fail;refine CT.out.mono ?_;rintro e w2 ⟨v2,rfl,ho2,hb2⟩;have HB2:Hid (Below w.heap.size w w2):=(HBL.out.trans (HB1.out.mono HBL.out.size)).trans (hb2.mono (Nat.le_trans HBL.out.size HB1.out.size));have ho3:OwnO w.heap.size w2 u5 (obs (others id k f)):=(HO.out.below HB1.out).below hb2;have hl2:=aG0 id k f;obtain ⟨v3,w3,hrun,ho4,hg⟩:=aQc ho3 (ho2.base (Nat.le_trans HBL.out.size HB1.out.size)) (by rw [aEv];simp;omega) HB2.out.size;have HF:Hid (RelT w id n f v3 (.int .i64 ((k+1:Nat):Int)) w3):=by
     refine ⟨k+1,by omega,rfl,?_,fun e=>?_,?_⟩
     ·rw [aDz,if_neg hid,aS8];exact ho4
     ·rw [aDz,if_neg hid] at e;simp at e
     ·obtain ⟨xs,hx,_⟩:=ho3;exact HB2.out.grown hg HB2.out.size fun r hr=>(aBx hx r hr).1
    clear ho2 hb2 ho3 hl2 ho4 hg CT HO HBL HB1 HB2 HCA HCF HOK;go_wp2_with (at_builtin;refine aCe rfl (.tmp 20) (.tmp 26) 41 rfl rfl rfl hrun ?_)
    exact ⟨HF.out,by simp [intOf];omega⟩
  ·have hkn:k=n:=by omega
   have HF:Hid (AllP id n f w (.returned u5) wr):=by subst hkn;exact ⟨u5,rfl,HO.out,HNIL.out,HBL.out⟩
   clear HO HBL HCA HCF hkn;go_wp2_with fail;go_ret;exact HF.out
end Go.Proofs.YtgjmbbkcgillcaaGreat.Zab
namespace Go.Proofs.YtgjmbbkcgillcaaGreat.Sto
theorem aBn {P:Program} {ops:Array Oper} {w:World} {Q:Act→Prop} {a:Act} {o:Oper} {rest:List Oper} (h:Region.wanted o (yielded ops a.tmps)=true) (hx:∃v f args,(execOp a.eval o).run P w=.ok (.enter f args) w∧Calls P f args w (fun e w''=>e=.returned v∧w''=w)∧WS P ops w Q rest (a.put o.dst v)):WS P ops w Q (o::rest) a:=
 ⟨wpStill_step fun _ hK=>by
  obtain ⟨v,f,args,h1,h2,h3⟩:=hx;rw [if_pos h];unfold Oper.still;rw [h1];exact ⟨rfl,v,h2,hK _ h3.out⟩⟩
end Go.Proofs.YtgjmbbkcgillcaaGreat.Sto
namespace Go.Proofs.YtgjmbbkcgillcaaGreat.Zab
open Go.RowKit Disk Log Sto Zm Bal
theorem aK7:Tryz.prog.underlying 110=some (.map 3 3):=by kernel_rfl
theorem aLk (w:World):(zeroValue 3).run Tryz.prog w=.ok (.int .i64 0) w:=by kernel_rfl
structure RemAt (w:World) (bl bb bz gl gz id n gs e base gm:Nat) (rv:Value) (seen waited com:Nat) (ready:Bool) (acked:Nat→Option Nat) (D:DataW Value) (A:Option Addr) (c:Nat) (ls:List Ln):Prop where
 l:Bk w bl 89 #[.pointer (some ⟨gl,0,none⟩)]
 b:Bk w bb 34 #[.slice A ls.length c]
 z:Bk w bz 26 #[.pointer (some ⟨gz,0,none⟩)]
 ld:Bk w gl 112 #[.int .u64 (e:Int),.int .i64 (base:Int),.map (some gm),.bool ready]
 nd:Bk w gz 94 (ndC id n gs rv seen waited com)
 mp:IMap w gm (ackV acked) (cntA n acked) D
 ln:LnS (fun _=>True) w A ls.length ls
 lc:ls.length≤c
theorem RemAt.below {w w':World} {bl bb bz gl gz id n gs e base gm:Nat} {rv:Value} {seen waited com:Nat} {ready:Bool} {acked:Nat→Option Nat} {D:DataW Value} {A:Option Addr} {c:Nat} {ls:List Ln} (h:RemAt w bl bb bz gl gz id n gs e base gm rv seen waited com ready acked D A c ls) (hb:Below w.heap.size w w'):RemAt w' bl bb bz gl gz id n gs e base gm rv seen waited com ready acked D A c ls:=
 ⟨h.l.below hb,h.b.below hb,h.z.below hb,h.ld.below hb,h.nd.below hb,h.mp.below hb,h.ln.below hb,h.lc⟩
def remF (e com:Nat) (acked:Nat→Option Nat) (ls:List Ln) (i:Nat):Mg:=match acked i with|none=>adM e ls|some a=>apM e a com (ls.drop a)
theorem aQm {P:Nat→Prop} {w:World} {A:Option Addr} {n:Nat} {ls:List Ln} (h:LnS P w A n ls) (m:Nat):LnS P w (A.map fun a=>a.add (m*2)) (n - m) (ls.drop m):=
 ⟨by rw [List.length_drop,h.len],fun j x hj=>by
  rw [List.getElem?_drop] at hj;obtain ⟨b,o,B,q,c,h1,h2,h3,h4,h5⟩:=h.at_ (m+j) x hj;refine ⟨b,o+m*2,B,q,c,?_,h2,?_,?_,h5⟩
  ·rw [h1];show some _=some _
   congr 1
   unfold Addr.add;split<;>simp_all
  ·rw [show o+m*2+j*2=o+(m+j)*2 from by omega];exact h3
  ·rw [show o+m*2+j*2+1=o+(m+j)*2+1 from by omega];exact h4⟩
theorem aQ7:(Tryz.prog.info? 36).map (·.zero)=some (some (.agg #[.int .u8 0,.int .u64 0,.int .u64 0,.int .i64 0,.int .i64 0,.slice none 0 0])):=by kernel_rfl
def SaidP (m:Mg) (w:World) (e:Ending) (w':World):Prop:=∃A c,e=.returned (.agg (mgC m A m.lines.length c))∧LnS (fun _=>True) w' A m.lines.length m.lines∧Below w.heap.size w w'
set_option maxRecDepth 100000 in
theorem aNi {w:World} {bl bb bz gl gz id n gs e base gm:Nat} {rv:Value} {seen waited com:Nat} {ready:Bool} {acked:Nat→Option Nat} {D:DataW Value} {A:Option Addr} {c:Nat} {ls:List Ln} (h:RemAt w bl bb bz gl gz id n gs e base gm rv seen waited com ready acked D A c ls) (i:Nat) (hi:i<1000) (ha:acked i=none):
  Calls Tryz.prog 78 #[.int .i64 (i:Int),.pointer (some ⟨bl,0,none⟩),.pointer (some ⟨bb,0,none⟩),.pointer (some ⟨bz,0,none⟩)] w (SaidP (adM e ls) w):=by
 have H:=Lib.hid h;have HV:=Lib.hid ha;clear h ha;obtain ⟨W,hW⟩:∃W,W=w.alloc (.cells #[.int .u8 0,.int .u64 0,.int .u64 0,.int .i64 0,.int .i64 0,.slice none 0 0] 36):=⟨_,rfl⟩;go_enter Tryz.func78,Tryz.ntmps78
 go_wp2_with ((with_reducible refine aBb ?_ 36 ?_ _ aQ7 ?_);(exact rfl);(exact rfl))
 refine Lib.hid ?_;rw [←hW];have hbw:Below w.heap.size w W:=by rw [hW];exact (Below.refl _ _).alloc (Nat.le_refl _) _
 have hres:Bk W w.heap.size 36 #[.int .u8 0,.int .u64 0,.int .u64 0,.int .i64 0,.int .i64 0,.slice none 0 0]:=by rw [hW];exact Bk.new _ _ _
 have h0:=H.out.below hbw;have q1:W.cell? ⟨bl,0,none⟩=some (.pointer (some ⟨gl,0,none⟩)):=h0.l.cell 0;have q2:W.cell? ⟨bb,0,none⟩=some (.slice A ls.length c):=h0.b.cell 0;have q4:W.cell? ⟨gl,0,none⟩=some (.int .u64 (e:Int)):=h0.ld.cell 0;have q5:W.cell? ⟨gl,2,none⟩=some (.map (some gm)):=h0.ld.cell 2;have hk:=(h0.mp.look aK7 (aLk W) i (by omega)).2;have hv:ackV acked i=none:=by unfold ackV;rw [HV.out];rfl
 rw [hv] at hk;have HLN:=Lib.hid ((aO9 H.out.ln).below hbw);have HBW:=Lib.hid hbw;have HRES:=Lib.hid hres;clear hW h0 hv hbw hres H HV;go_wp2_with fail;refine aAk 7 (by kernel_rfl) (by kernel_rfl) ?_;simp only [List.take_succ_cons,List.take_zero,List.drop_succ_cons,List.drop_zero]
 iterate 4
  refine aA6 (by kernel_rfl) ?_;apply Exists.intro
  refine And.intro ?_ ?_
  ·unfold aA5;first
    |(go_simp;done)
    |(go_simp;exact rfl)
  try simp only [Act.put,List.setIfInBounds_toArray,List.set_cons_zero,List.set_cons_succ]
 refine aBn (by kernel_rfl) ?_;apply Exists.intro
 apply Exists.intro
 apply Exists.intro
 refine And.intro ?_ (And.intro ?_ ?_)
 ·first
   |(go_simp;exact ⟨rfl,rfl⟩)
   |(go_simp;exact rfl)
   |(go_simp;done)
 ·exact (aB3 (e:Int) _).mono (fun _ _ h=>⟨h.1,h.2.symm⟩)
 try simp only [Act.put,List.setIfInBounds_toArray,List.set_cons_zero,List.set_cons_succ]
 iterate 2
  refine aA6 (by kernel_rfl) ?_;apply Exists.intro
  refine And.intro ?_ ?_
  ·unfold aA5;first
    |(go_simp;done)
    |(go_simp;exact rfl)
  try simp only [Act.put,List.setIfInBounds_toArray,List.set_cons_zero,List.set_cons_succ]
 refine aAv ?_;change wpList _ _ _ _ _ W.drew;refine aBo (w:=W.drew) rfl 36 (.tmp 5) (.tmp 25) rfl w.heap.size 36 _ (mgC (adM e ls) A ls.length c) rfl rfl HRES.out aCq rfl (by simp [mgC,Value.oneCell']) ?_;refine Lib.hid ?_;intro V hV1 hV2;have hbv:Below w.heap.size w V:=hV2.below HBW.out.drew (fun k hk=>by omega) HBW.out.size;go_wp2_with fail;refine bodyPost_ret (results_cell_row rfl _ _ w.heap.size 36 _ (0,0) _ rfl hV1 Tryz.underlying36 rfl aCq) rfl ?_;have hl':LnS (fun k=>k<w.heap.size) V A ls.length ls:=HLN.out.out (X:=fun k=>k=w.heap.size) ⟨hV2.os,hV2.tape,hV2.output,hV2.size,hV2.block⟩ fun b h1 h2=>by omega
 exact ⟨A,c,rfl,hl'.mono fun _ _=>trivial,hbv⟩
set_option maxRecDepth 100000 in
theorem aOj {w:World} {bl bb bz gl gz id n gs e base gm:Nat} {rv:Value} {seen waited com:Nat} {ready:Bool} {acked:Nat→Option Nat} {D:DataW Value} {A:Option Addr} {c:Nat} {ls:List Ln} (h:RemAt w bl bb bz gl gz id n gs e base gm rv seen waited com ready acked D A c ls) (i:Nat) (hi:i<1000) (a:Nat) (ha:acked i=some a) (hal:a≤ls.length) (_hl:ls.length≤1000000):
  Calls Tryz.prog 78 #[.int .i64 (i:Int),.pointer (some ⟨bl,0,none⟩),.pointer (some ⟨bb,0,none⟩),.pointer (some ⟨bz,0,none⟩)] w (SaidP (apM e a com (ls.drop a)) w):=by
 have H:=Lib.hid h;have HV:=Lib.hid ha;clear h ha;obtain ⟨W,hW⟩:∃W,W=w.alloc (.cells #[.int .u8 0,.int .u64 0,.int .u64 0,.int .i64 0,.int .i64 0,.slice none 0 0] 36):=⟨_,rfl⟩;go_enter Tryz.func78,Tryz.ntmps78
 go_wp2_with ((with_reducible refine aBb ?_ 36 ?_ _ aQ7 ?_);(exact rfl);(exact rfl))
 refine Lib.hid ?_;rw [←hW];have hbw:Below w.heap.size w W:=by rw [hW];exact (Below.refl _ _).alloc (Nat.le_refl _) _
 have hres:Bk W w.heap.size 36 #[.int .u8 0,.int .u64 0,.int .u64 0,.int .i64 0,.int .i64 0,.slice none 0 0]:=by rw [hW];exact Bk.new _ _ _
 have h0:=H.out.below hbw;have q1:W.cell? ⟨bl,0,none⟩=some (.pointer (some ⟨gl,0,none⟩)):=h0.l.cell 0;have q2:W.cell? ⟨bb,0,none⟩=some (.slice A ls.length c):=h0.b.cell 0;have q3:W.cell? ⟨bz,0,none⟩=some (.pointer (some ⟨gz,0,none⟩)):=h0.z.cell 0;have q4:W.cell? ⟨gl,0,none⟩=some (.int .u64 (e:Int)):=h0.ld.cell 0;have q5:W.cell? ⟨gl,2,none⟩=some (.map (some gm)):=h0.ld.cell 2;have q6:W.cell? ⟨gz,6,none⟩=some (.int .i64 (com:Int)):=h0.nd.cell 6;have hk:=(h0.mp.look aK7 (aLk W) i (by omega)).2;have hv:ackV acked i=some (.int .i64 (a:Int)):=by unfold ackV;rw [HV.out];rfl
 rw [hv] at hk;have HLN:=Lib.hid ((aO9 H.out.ln).below hbw);have HBW:=Lib.hid hbw;have HRES:=Lib.hid hres;have hc:=h0.lc;clear hW h0 hv hbw hres H HV;obtain ⟨L,hL⟩:∃L,L=ls.length:=⟨_,rfl⟩;rw [←hL] at q2 hal _hl hc;have HLL:=Lib.hid hL;have hmin:min (a:Int) (L:Int)=(a:Int):=by omega
 have HM:Hid (L - a=(ls.drop a).length):=by show _=_;rw [List.length_drop,←HLL.out]
 clear hL;go_wp2_with fail;refine aAk 17 (by kernel_rfl) (by kernel_rfl) ?_;simp only [List.take_succ_cons,List.take_zero,List.drop_succ_cons,List.drop_zero]
 iterate 4
  refine aA6 (by kernel_rfl) ?_;apply Exists.intro
  refine And.intro ?_ ?_
  ·unfold aA5;first
    |(go_simp;done)
    |(go_simp;exact rfl)
  try simp only [Act.put,List.setIfInBounds_toArray,List.set_cons_zero,List.set_cons_succ]
 refine aBn (by kernel_rfl) ?_;apply Exists.intro
 apply Exists.intro
 apply Exists.intro
 refine And.intro ?_ (And.intro ?_ ?_)
 ·first
   |(go_simp;exact ⟨rfl,rfl⟩)
   |(go_simp;exact rfl)
   |(go_simp;done)
 ·exact (aB3 (e:Int) _).mono (fun _ _ h=>⟨h.1,h.2.symm⟩)
 try simp only [Act.put,List.setIfInBounds_toArray,List.set_cons_zero,List.set_cons_succ]
 iterate 12
  refine aA6 (by kernel_rfl) ?_;apply Exists.intro
  refine And.intro ?_ ?_
  ·unfold aA5;first
    |(go_simp;done)
    |(go_simp;exact rfl)
  try simp only [Act.put,List.setIfInBounds_toArray,List.set_cons_zero,List.set_cons_succ]
 refine aAv ?_;change wpList _ _ _ _ _ W.drew;obtain ⟨A',hA'⟩:∃A',A'=(if c=a then A else Option.map (fun x=>x.add (a*2)) A):=⟨_,rfl⟩;rw [←hA'];have hcells:mgC (apM e a com (ls.drop a)) A' (ls.drop a).length (c - a)=#[.int .u8 5,.int .u64 (e:Int),.int .u64 0,.int .i64 (a:Int),.int .i64 (com:Int),.slice A' (L - a) (c - a)]:=by rw [HM.out];rfl
 refine aBo (w:=W.drew) rfl 36 (.tmp 5) (.tmp 42) rfl w.heap.size 36 _ #[.int .u8 5,.int .u64 (e:Int),.int .u64 0,.int .i64 (a:Int),.int .i64 (com:Int),.slice A' (L - a) (c - a)] rfl rfl HRES.out aCq rfl (by simp [Value.oneCell']) ?_;refine Lib.hid ?_;intro V hV1 hV2;have hbv:Below w.heap.size w V:=hV2.below HBW.out.drew (fun k hk=>by omega) HBW.out.size;have hl':LnS (fun k=>k<w.heap.size) V A ls.length ls:=HLN.out.out (X:=fun k=>k=w.heap.size) ⟨hV2.os,hV2.tape,hV2.output,hV2.size,hV2.block⟩ fun b h1 h2=>by omega
 have hl2:LnS (fun _=>True) V A' (ls.drop a).length (ls.drop a):=by
  rw [hA'];by_cases hca:c=a
  ·have e0:ls.drop a=[]:=List.drop_eq_nil_of_le (by have:=HLL.out;omega);rw [e0];exact LnS.nil_ _ _ _
  ·rw [if_neg hca];have:=(aQm hl' a).mono (Q:=fun _=>True) fun _ _=>trivial;rwa [List.length_drop]
 have HL2:=Lib.hid hl2;have HBV:=Lib.hid hbv;have HV1:=Lib.hid hV1;have HCE:=Lib.hid hcells;clear hl' hl2 hbv hV1 hV2 hcells hA' hk;go_wp2_with fail;refine bodyPost_ret (results_cell_row rfl _ _ w.heap.size 36 _ (0,0) _ rfl HV1.out Tryz.underlying36 rfl aCq) rfl ?_;rw [←HCE.out];exact ⟨A',c - a,rfl,HL2.out,HBV.out⟩
def RemP (id n e com:Nat) (acked:Nat→Option Nat) (ls:List Ln) (w:World) (r:Ending) (w':World):Prop:=∃v,r=.returned v∧OwnO w.heap.size w' v (obs (others id n (remF e com acked ls)))∧(others id n (remF e com acked ls)=[]→v=.slice none 0 0)∧Below w.heap.size w w'
set_option maxRecDepth 100000 in
theorem aKs {w0 w:World} {Y Z:Nat→Prop} {gz gs gd pg:Nat} {z:Zn} {N:Nat} {e base:Nat} {acked:Nat→Option Nat} {ready:Bool} {gl gm:Nat} {D:DataW Value} (h:Nd w0 w Y Z gz gs gd pg z N) (hr:z.role=.lead e base acked ready) (hl:Bk w gl 112 #[.int .u64 (e:Int),.int .i64 (base:Int),.map (some gm),.bool ready]) (hm:IMap w gm (ackV acked) (cntA z.n acked) D):
  Calls Tryz.prog 41 #[.pointer (some ⟨gz,0,none⟩),.pointer (some ⟨gl,0,none⟩)] w (RemP z.id z.n e z.com acked z.k.lines w):=by
 obtain ⟨W1,hW1⟩:∃W1,W1=w.alloc (.cells #[.pointer (some ⟨gz,0,none⟩)] 26):=⟨_,rfl⟩;obtain ⟨W2,hW2⟩:∃W2,W2=W1.alloc (.cells #[.pointer (some ⟨gl,0,none⟩)] 89):=⟨_,rfl⟩;have s1:W1.heap.size=w.heap.size+1:=by rw [hW1,World.size_alloc]
 have hb1:Below w.heap.size w W1:=by rw [hW1];exact (Below.refl _ _).alloc (Nat.le_refl _) _
 have hb2:Below w.heap.size w W2:=by rw [hW2];exact hb1.alloc (by omega) _
 have hz1:Bk W2 w.heap.size 26 #[.pointer (some ⟨gz,0,none⟩)]:=by rw [hW2,hW1];exact (Bk.new _ _ _).alloc _
 have hz2:Bk W2 (w.heap.size+1) 89 #[.pointer (some ⟨gl,0,none⟩)]:=by rw [hW2,←s1];exact Bk.new _ _ _
 have s2:W2.heap.size=w.heap.size+1+1:=by rw [hW2,World.size_alloc,s1]
 have CL:=Lib.hid (aC9 (h.below_ hb2));have HND:=Lib.hid (h.below_ hb2);have HL:=Lib.hid (hl.below hb2);have HM:=Lib.hid (hm.below hb2);have HZ1:=Lib.hid hz1;have HZ2:=Lib.hid hz2;have HB2:=Lib.hid hb2;have HR:=Lib.hid hr;have HS2:=Lib.hid s2;have q2:W2.cell? ⟨w.heap.size,0,none⟩=some (.pointer (some ⟨gz,0,none⟩)):=hz1.cell 0;have HW2:Hid (W2=(w.alloc (.cells #[.pointer (some ⟨gz,0,none⟩)] 26)).alloc (.cells #[.pointer (some ⟨gl,0,none⟩)] 89)):=by show _=_;rw [hW2,hW1]
 clear h hl hm hz1 hz2 hb1 hb2 hr hW1 hW2 s1 s2;go_enter Tryz.func41,Tryz.ntmps41
 go_wp2_with fail;rw [←HW2.out];go_wp2_with fail;refine CL.out.mono ?_;rintro r w3 ⟨A,c,rfl,ho,hb3⟩;obtain ⟨W4,hW4⟩:∃W4,W4=w3.alloc (.cells #[.slice A z.k.lines.length c] 34):=⟨_,rfl⟩;have hb4:Below W2.heap.size W2 W4:=by rw [hW4];exact hb3.alloc hb3.size _
 have hbk:Bk W4 w3.heap.size 34 #[.slice A z.k.lines.length c]:=by rw [hW4];exact Bk.new _ _ _
 obtain ⟨A1,c1,e1,hlc,-⟩:=ho.form;injection e1 with e1 e2 e3;subst e1 e3;have hln:LnS (fun _=>True) W4 A z.k.lines.length z.k.lines:=(ho.lns.below (by rw [hW4];exact (Below.refl _ _).alloc (Nat.le_refl _) _)).mono fun _ _=>trivial;have hnd:=HND.out.below_ hb4;obtain ⟨rv,hnb,hnr⟩:=hnd.bk;have hrem:RemAt W4 (w.heap.size+1) w3.heap.size w.heap.size gl gz z.id z.n gs e base gm rv z.seen z.waited z.com ready acked D A c z.k.lines:=⟨HZ2.out.below hb4,hbk,HZ1.out.below hb4,HL.out.below hb4,hnb,HM.out.below hb4,hln,hlc⟩;have hok:=HND.out.ok;have hrole:=hok.role;rw [HR.out] at hrole;have he1:e<18446744073709551616:=by have:=hok.fine.prom;have:=hrole.1;unfold top at*;omega
 have hx1:∀x∈z.k.lines,lineB x=true:=fun x hx=>(hok.fine.each x hx).1;have hn3:=hok.n3;have hmany:=hok.fine.many;have hcom:=hok.com;have CT:=Lib.hid (aFc hnb (by omega) 78 #[.pointer (some ⟨w.heap.size+1,0,none⟩),.pointer (some ⟨w3.heap.size,0,none⟩),.pointer (some ⟨w.heap.size,0,none⟩)] (remF e z.com acked z.k.lines) ⟨fun a W=>by kernel_rfl,fun i W hi hid hbi=>by
  have hri:=hrem.below hbi;cases ha:acked i with
  |none=>
   have ef:remF e z.com acked z.k.lines i=adM e z.k.lines:=by unfold remF;rw [ha]
   rw [ef];exact ⟨bCk he1 hmany hx1,aNi hri i (by omega) ha⟩
  |some a=>
   have ef:remF e z.com acked z.k.lines i=apM e a z.com (z.k.lines.drop a):=by unfold remF;rw [ha]
   have hal:=(hrole.2.2.2.2 i a ha).2.2;rw [ef];exact ⟨bD3 he1 (by omega) (by omega) (by rw [List.length_drop];omega) fun x hx=>hx1 x (List.mem_of_mem_drop hx),aOj hri i (by omega) a ha hal (by omega)⟩⟩)
 have HB4:=Lib.hid (HB2.out.trans (hb4.mono HB2.out.size));have q2:W4.cell? ⟨w.heap.size,0,none⟩=some (.pointer (some ⟨gz,0,none⟩)):=(HZ1.out.below hb4).cell 0;have HW4:=Lib.hid hW4;rw [hW4] at q2;clear ho hb3 hb4 hbk e2 hlc hln hnd hnb hnr hrem hok hrole he1 hx1 hn3 hmany hcom hW4 CL HND HL HM HZ1 HZ2 HB2 HR HS2 HW2;go_wp2_with fail;rw [←HW4.out];refine CT.out.mono ?_;rintro r w5 ⟨v,rfl,ho,hnil,hb⟩;have HNIL:=Lib.hid hnil;have HO:=Lib.hid (ho.base HB4.out.size);have HB5:=Lib.hid (HB4.out.trans (hb.mono HB4.out.size));clear ho hnil hb CT;go_wp2_with fail;go_ret;exact ⟨v,rfl,HO.out,HNIL.out,HB5.out⟩
end Go.Proofs.YtgjmbbkcgillcaaGreat.Zab
