/- Lemmas, part 2: Read, Read2, Lines, Read3, ReadPure, ZmPure -/
import Derived.Test.YtgjmbbkcgillcaaGreatPart1
import Derived.Lib.OwnKind
set_option maxHeartbeats 16000000
namespace Go.Proofs.YtgjmbbkcgillcaaGreat
open Go.RowKit
def val (bs:List UInt8):Nat:=bs.foldl (fun v b=>v*256+b.toNat) 0
theorem aR2 (bs:List UInt8) (b:UInt8):val (bs++[b])=val bs*256+b.toNat:=by simp [val]
theorem aK6 (bs:List UInt8):val bs<256^bs.length:=by
 suffices h:∀r:List UInt8,val r.reverse<256^r.length by
  have:=h bs.reverse;simpa using this
 intro r
 induction r with
 |nil=>simp [val]
 |cons b r ih=>
  rw [List.reverse_cons,aR2,List.length_cons,Nat.pow_succ];have:=b.toNat_lt;omega
theorem bC1 (v b:Nat) (hv:v*256<18446744073709551616) (hb:b<256):bits .or .u64 (IntKind.u64.wrap ((v:Int)*256)) (b:Int)=((v*256+b:Nat):Int):=by
 have h1:IntKind.u64.wrap ((v:Int)*256)=((v*256:Nat):Int):=by rw [IntKind.wrap_u64];omega
 rw [h1,u64_or_nat _ _ hv (by omega)];have:=Nat.two_pow_add_eq_or_of_lt (i:=8) (show b<2^8 from hb) v;rw [Nat.mul_comm v 256];exact congrArg _ this.symm
theorem aXh {k:Nat} (h:k≤7):256^k≤72057594037927936:=Nat.le_trans (Nat.pow_le_pow_right (by omega) h) (by decide)
theorem bBt (bs:List UInt8) (h:bs.length≤8):val bs<18446744073709551616:=Nat.lt_of_lt_of_le (aK6 bs) (Nat.le_trans (Nat.pow_le_pow_right (by omega) h) (by decide))
theorem bBn (A:Option Addr) (n c:Nat) (bs:List UInt8) (w:World) (h:Rd w A n bs) (hn:n≤8):
  Calls Tryz.prog 165 #[.slice A n c] w fun e w'=>e=.returned (.int .u64 (val bs:Int))∧w=w':=by
 have H:=Lib.hid h;clear h;go_enter Tryz.func165,Tryz.ntmps165
 go_wp2_with fail
 go_loop [3,5,8] (fun v _ i=>∃k:Nat,k≤n∧i=.int .i64 (k:Int)∧v=.int .u64 (val (bs.take k):Int)) (fun _ _ i=>n - (intOf i).toNat)
 case atStart=>exact ⟨0,by omega,rfl,rfl⟩
 case round=>
  obtain ⟨k,hk,rfl,rfl⟩:=hrel;by_cases hlt:k<n
  ·obtain ⟨ad,rfl,hc⟩:=H.out.cells (by omega);have hkl:k<bs.length:=by rw [H.out.len];exact hlt
   have hcell:=hc k _ (List.getElem?_eq_getElem hkl);clear hc;have HV:Hid (bits .or .u64 (IntKind.u64.wrap ((val (bs.take k):Int)*256)) ((bs[k]).toNat:Int)=(val (bs.take (k+1)):Int)):=by
    have hp:=aXh (show k≤7 by omega);have hv:=aK6 (bs.take k);have hbv:=(bs[k]).toNat_lt;rw [List.length_take,Nat.min_eq_left (by omega)] at hv;have:=bC1 (val (bs.take k)) (bs[k]).toNat (by omega) (by omega);rw [←List.take_append_getElem hkl,aR2];exact this
   unfold U at hcell;have hbv:=(bs[k]).toNat_lt;go_wp2_with fail;exact ⟨⟨k+1,by omega,rfl,congrArg (Value.int .u64) HV.out⟩,by simp [intOf];omega⟩
  ·obtain rfl:k=n:=by omega
   have HL:Hid (bs.take k=bs):=List.take_of_length_le (by rw [H.out.len];omega);go_wp2_with fail;go_ret;rw [HL.out];exact ⟨rfl,rfl⟩
def takeS (k:Nat) (s:List UInt8×Bool):List UInt8×(List UInt8×Bool):=
 if s.2=true∨s.1.length<k then ([],(s.1,true)) else (s.1.take k,(s.1.drop k,false))
def Rdr (w:World) (r:Nat) (s:List UInt8×Bool):Prop:=
 ∃A n c,Bk w r 196 #[.slice A n c,.bool s.2]∧n≤c∧c≤1000000000000∧Rd w A n s.1
theorem aDh (A:Option Addr) (n c:Nat) (b:Bool):∀(i:Nat) (x:UInt8),(#[Value.slice A n c,Value.bool b]:Array Value)[i]?≠some (U x):=by
 intro i x h
 match i with
 |0=>simp [U] at h
 |1=>simp [U] at h
 |i+2=>simp at h
theorem aQk (r:Nat) (A:Option Addr) (n c k:Nat) (kk:Int) (bs:List UInt8) (w:World) (hb:Bk w r 196 #[.slice A n c,.bool false]) (hnc:n≤c) (hc:c≤1000000000000) (h:Rd w A n bs) (hkk:kk=k) (hk:k≤n) (hk8:k≤8):
  Calls Tryz.prog 164 #[.pointer (some ⟨r,0,none⟩),.int .u64 kk,.func (.func 165) #[] #[]] w fun e w'=>e=.returned (.int .u64 (val (bs.take k):Int))∧w'=w.setCell ⟨r,0,none⟩ (.slice (if c=k then A else A.map (·.add k)) (n - k) (c - k)):=by
 subst hkk;have H:=Lib.hid h;have HB:=Lib.hid hb;have c0:=hb.cell 0;have c1:=hb.cell 1;have f0:=hb.frozen 0;clear h hb;simp at c0 c1;go_enter Tryz.func164,Tryz.ntmps164
 go_wp2_with fail;refine (bBn A k c (bs.take k) w (H.out.take hk) hk8).mono ?_;rintro e w' ⟨rfl,rfl⟩;go_wp2_with fail
 all_goals
  go_ret;exact ⟨rfl,rfl⟩
theorem aNc (r:Nat) (A:Option Addr) (n c:Nat) (kk:Int) (f:Value) (w:World) (hb:Bk w r 196 #[.slice A n c,.bool true]):
  Calls Tryz.prog 164 #[.pointer (some ⟨r,0,none⟩),.int .u64 kk,f] w fun e w'=>e=.returned (.int .u64 0)∧w=w':=by
 have c1:=hb.cell 1;clear hb;simp at c1;go_enter Tryz.func164,Tryz.ntmps164
 go_wp2_with fail;go_ret;exact ⟨rfl,rfl⟩
theorem aJp (r:Nat) (A:Option Addr) (n c k:Nat) (kk:Int) (f:Value) (w:World) (hb:Bk w r 196 #[.slice A n c,.bool false]) (hnc:n≤1000000000000) (hkk:kk=k) (hk:n<k):
  Calls Tryz.prog 164 #[.pointer (some ⟨r,0,none⟩),.int .u64 kk,f] w fun e w'=>e=.returned (.int .u64 0)∧w'=w.setCell ⟨r,1,none⟩ (.bool true):=by
 subst hkk;have c0:=hb.cell 0;have c1:=hb.cell 1;have f0:=hb.frozen 1;clear hb;simp at c0 c1;go_enter Tryz.func164,Tryz.ntmps164
 go_wp2_with fail;go_ret;exact ⟨rfl,rfl⟩
theorem aR8 {w:World} {r:Nat} {A A':Option Addr} {n c n' c':Nat} {b:Bool} {bs':List UInt8} (hb:Bk w r 196 #[.slice A n c,.bool b]) (hnc:n'≤c') (hc:c'≤1000000000000) (h:Rd w A' n' bs'):
  Rdr (w.setCell ⟨r,0,none⟩ (.slice A' n' c')) r (bs',b):=
 ⟨A',n',c',by simpa using hb.set 0 (.slice A' n' c'),hnc,hc,Rd.setCell hb (aDh _ _ _ _) h 0 _⟩
theorem aR0 {w:World} {r:Nat} {A:Option Addr} {n c:Nat} {b b':Bool} {bs:List UInt8} (hb:Bk w r 196 #[.slice A n c,.bool b]) (hnc:n≤c) (hc:c≤1000000000000) (h:Rd w A n bs):
  Rdr (w.setCell ⟨r,1,none⟩ (.bool b')) r (bs,b'):=
 ⟨A,n,c,by simpa using hb.set 1 (.bool b'),hnc,hc,Rd.setCell hb (aDh _ _ _ _) h 1 _⟩
theorem aBp (w:World) (r i:Nat) (u:Value):w.grownBy (w.setCell ⟨r,i,none⟩ u) (some r):=
 ⟨rfl,rfl,rfl,by simp [World.setCell],fun k _ hk=>Below.heap_setCell w _ u k (fun e=>hk (by rw [e]))⟩
theorem aEw (w:World) (row:Option Nat):w.grownBy w row:=⟨rfl,rfl,rfl,Nat.le_refl _,fun _ _ _=>rfl⟩
def Red (w:World) (r:Nat) (v:Value) (s:List UInt8×Bool) (e:Ending) (w':World):Prop:=e=.returned v∧Rdr w' r s∧w.grownBy w' (some r)
theorem aW8 (r k:Nat) (kk:Int) (s:List UInt8×Bool) (w:World) (h:Rdr w r s) (hkk:kk=k) (hk8:k≤8):
  Calls Tryz.prog 164 #[.pointer (some ⟨r,0,none⟩),.int .u64 kk,.func (.func 165) #[] #[]] w (Red w r (.int .u64 (val (takeS k s).1:Int)) (takeS k s).2):=by
 obtain ⟨bs,bad⟩:=s;obtain ⟨A,n,c,hb,hnc,hc,hr⟩:=h;have hl:=hr.len;simp only at hb hr hl;cases bad with
 |true=>
  refine (aNc r A n c kk _ w hb).mono ?_;rintro e w' ⟨rfl,rfl⟩;simp only [takeS,true_or,if_true];exact ⟨rfl,⟨A,n,c,hb,hnc,hc,hr⟩,aEw _ _⟩
 |false=>
  by_cases hk:n<k
  ·refine (aJp r A n c k kk _ w hb (by omega) hkk hk).mono ?_;rintro e w' ⟨rfl,rfl⟩;simp only [takeS,hl,hk,or_true,if_true];exact ⟨rfl,aR0 hb hnc hc hr,aBp _ _ _ _⟩
  ·refine (aQk r A n c k kk bs w hb hnc hc hr hkk (by omega) hk8).mono ?_;rintro e w' ⟨rfl,rfl⟩;have hs:takeS k (bs,false)=(bs.take k,(bs.drop k,false)):=by simp [takeS,hl,hk]
   rw [hs];exact ⟨rfl,aR8 hb (by omega) (by omega) (hr.drop (by omega) hnc),aBp _ _ _ _⟩
theorem aGq (r k:Nat) (kk:Int) (s:List UInt8×Bool) (w:World) (h:Rdr w r s) (hkk:kk=k) (hk8:k≤8):
  Calls Tryz.prog 132 #[.pointer (some ⟨r,0,none⟩),.int .u64 kk] w (Red w r (.int .u64 (val (takeS k s).1:Int)) (takeS k s).2):=by
 have H:=Lib.hid h;have HE:=Lib.hid hkk;clear h hkk;go_enter Tryz.func132,Tryz.ntmps132
 go_wp2_with fail;refine (aW8 r k kk s w H.out HE.out hk8).mono ?_;rintro e w' ⟨rfl,h1,h2⟩;have H1:=Lib.hid h1;have H2:=Lib.hid h2;clear h1 h2;go_wp2_with fail;go_ret;exact ⟨rfl,H1.out,H2.out⟩
end Go.Proofs.YtgjmbbkcgillcaaGreat
namespace Go.Proofs.YtgjmbbkcgillcaaGreat
open Go.RowKit
theorem aFu (k:Nat) (s:List UInt8×Bool):(takeS k s).1.length≤k:=by
 unfold takeS;split
 ·simp
 ·exact List.length_take_le _ _
theorem aF3 (k:Nat) (s:List UInt8×Bool) (hk:k≤8):val (takeS k s).1<18446744073709551616:=bBt _ (Nat.le_trans (aFu k s) hk)
theorem aN2 (r:Nat) (s:List UInt8×Bool) (w:World) (h:Rdr w r s):
  Calls Tryz.prog 84 #[.pointer (some ⟨r,0,none⟩)] w (Red w r (.int .u8 (val (takeS 1 s).1:Int)) (takeS 1 s).2):=by
 have H:=Lib.hid h;clear h;have hv:val (takeS 1 s).1<256:=Nat.lt_of_lt_of_le (aK6 _) (Nat.le_trans (Nat.pow_le_pow_right (by omega) (aFu 1 s)) (by decide));go_enter Tryz.func84,Tryz.ntmps84
 go_wp2_with fail;refine (aGq r 1 1 s w H.out rfl (by omega)).mono ?_;rintro e w' ⟨rfl,h1,h2⟩;have H1:=Lib.hid h1;have H2:=Lib.hid h2;clear h1 h2;go_wp2_with fail;go_ret;exact ⟨rfl,H1.out,H2.out⟩
theorem aDi (r:Nat) (s:List UInt8×Bool) (w:World) (h:Rdr w r s):
  Calls Tryz.prog 85 #[.pointer (some ⟨r,0,none⟩)] w (Red w r (.int .u64 (val (takeS 8 s).1:Int)) (takeS 8 s).2):=by
 have H:=Lib.hid h;clear h;go_enter Tryz.func85,Tryz.ntmps85
 go_wp2_with fail;refine (aGq r 8 8 s w H.out rfl (by omega)).mono ?_;rintro e w' ⟨rfl,h1,h2⟩;have H1:=Lib.hid h1;have H2:=Lib.hid h2;clear h1 h2;go_wp2_with fail;go_ret;exact ⟨rfl,H1.out,H2.out⟩
theorem aNr (r:Nat) (s:List UInt8×Bool) (w:World) (h:Rdr w r s):
  Calls Tryz.prog 88 #[.pointer (some ⟨r,0,none⟩)] w (fun e w'=>e=.returned (.int .i64 (if s.2=true∨0<s.1.length then 2 else 0))∧w=w'):=by
 obtain ⟨bs,bad⟩:=s;obtain ⟨A,n,c,hb,hnc,hc,hr⟩:=h;have HR:=Lib.hid hr;have hl:=hr.len;have c0:=hb.cell 0;have c1:=hb.cell 1;clear hb hr;simp at c0 c1;simp only at hl ⊢;rw [hl];clear hl;cases bad with
 |true=>
  simp only [true_or,if_true];go_enter Tryz.func88,Tryz.ntmps88
  go_wp2_with fail;go_ret;exact ⟨rfl,rfl⟩
 |false=>
  by_cases h0:0<n
  ·simp only [h0,or_true,if_true];go_enter Tryz.func88,Tryz.ntmps88
   go_wp2_with fail;go_ret;exact ⟨rfl,rfl⟩
  ·rw [if_neg (by simp [h0])];go_enter Tryz.func88,Tryz.ntmps88
   go_wp2_with fail;go_ret;exact ⟨rfl,rfl⟩
theorem aLt (A:Option Addr) (n c:Nat) (bs:List UInt8) (w:World) (h:Rd w A n bs) (hn:n≤1000000000000):
  Calls Tryz.prog 83 #[.slice A n c] w (fun e w'=>∃r,e=.returned (.pointer (some ⟨r,0,none⟩))∧w.heap.size≤r∧Rdr w' r (bs,false)∧Below w.heap.size w w'):=by
 have H:=Lib.hid h;clear h;go_enter Tryz.func83,Tryz.ntmps83
 go_wp2_with fail;refine (aBc A n c 0 bs w H.out (by omega) (by omega)).mono ?_;rintro e w1 ⟨rfl,hown1,hb1⟩;have HO1:=Lib.hid hown1;have HB1:=Lib.hid hb1;clear hown1 hb1;go_wp2_with fail;go_ret;have hr1:=Rd.of_own HO1.out;exact ⟨w1.heap.size,rfl,HB1.out.size,⟨_,n,n,Bk.new w1 _ _,Nat.le_refl _,hn,hr1.1.below ((Below.refl _ _).alloc (Nat.le_refl _) _)⟩,HB1.out.alloc HB1.out.size _⟩
theorem aEr (A:Option Addr) (n c:Nat) (bs:List UInt8) (w:World) (h:Rd w A n bs) (hn:n≤1000000000000):
  Calls Tryz.prog 135 #[.slice A n c] w fun e w'=>e=.returned (.slice (some ⟨w.heap.size,0,none⟩) n n)∧w'.ownsRow w.heap.size 5 1 (.slice (some ⟨w.heap.size,0,none⟩) n n) n (bs.map U)∧Below w.heap.size w w':=by
 have H:=Lib.hid h;clear h;go_enter Tryz.func135,Tryz.ntmps135
 go_wp2_with fail;refine (aBc A n c 0 bs w H.out (by omega) (by omega)).mono ?_;rintro e w1 ⟨rfl,hown1,hb1⟩;have HO1:=Lib.hid hown1;have HB1:=Lib.hid hb1;clear hown1 hb1;go_wp2_with fail;go_ret;exact ⟨rfl,HO1.out,HB1.out⟩
def RedB (w:World) (r:Nat) (bs:List UInt8) (s:List UInt8×Bool) (e:Ending) (w':World):Prop:=
 ∃A n c,e=.returned (.slice A n c)∧w'.ownsRow w.heap.size 5 1 (.slice A n c) n (bs.map U)∧Rdr w' r s∧w.grownBy w' (some r)
def ToldB (w:World) (r k:Nat) (bs:List UInt8) (u:Value) (e:Ending) (w':World):Prop:=
 ∃w1,e=.returned (.slice (some ⟨w.heap.size,0,none⟩) k k)∧w1.ownsRow w.heap.size 5 1 (.slice (some ⟨w.heap.size,0,none⟩) k k) k (bs.map U)∧Below w.heap.size w w1∧w'=w1.setCell ⟨r,0,none⟩ u
theorem aAh {w:World} {base base':Nat} {e:TypeId} {size:Nat} {v:Value} {n:Nat} {xs:List Value} (h:w.ownsRow base e size v n xs) (hb:base'≤base):w.ownsRow base' e size v n xs:=by
 refine ⟨h.1,?_⟩;rcases h.2 with h2|⟨g,cap,cur,e,hg,hr⟩
 ·exact Or.inl h2
 ·exact Or.inr ⟨g,cap,cur,e,Nat.le_trans hb hg,hr⟩
theorem aQq (r:Nat) (A:Option Addr) (n c k:Nat) (kk:Int) (bs:List UInt8) (w:World) (hb:Bk w r 196 #[.slice A n c,.bool false]) (hnc:n≤c) (hc:c≤1000000000000) (h:Rd w A n bs) (hkk:kk=k) (hk:k≤n):
  Calls Tryz.prog 134 #[.pointer (some ⟨r,0,none⟩),.int .u64 kk,.func (.func 135) #[] #[]] w (ToldB w r k (bs.take k) (.slice (if c=k then A else A.map (·.add k)) (n - k) (c - k))):=by
 subst hkk;have H:=Lib.hid h;have HB:=Lib.hid hb;have c0:=hb.cell 0;have c1:=hb.cell 1;clear h hb;simp at c0 c1;go_enter Tryz.func134,Tryz.ntmps134
 go_wp2_with fail;refine (aEr A k c (bs.take k) w (H.out.take hk) (by omega)).mono ?_;rintro e w1 ⟨rfl,hown1,hb1⟩;have c01:w1.cell? ⟨r,0,none⟩=some (.slice A n c):=(hb1.cell HB.out.lt).trans c0;have f01:w1.frozen? ⟨r,0,none⟩=false:=(hb1.frozen HB.out.lt).trans (HB.out.frozen 0);have HO1:=Lib.hid hown1;have HB1:=Lib.hid hb1;clear hown1 hb1 c0 c1;go_wp2_with fail
 all_goals
  go_ret;exact ⟨w1,rfl,HO1.out,HB1.out,rfl⟩
theorem aMz (r:Nat) (A:Option Addr) (n c:Nat) (kk:Int) (f:Value) (w:World) (hb:Bk w r 196 #[.slice A n c,.bool true]):
  Calls Tryz.prog 134 #[.pointer (some ⟨r,0,none⟩),.int .u64 kk,f] w fun e w'=>e=.returned (.slice none 0 0)∧w=w':=by
 have c1:=hb.cell 1;clear hb;simp at c1;go_enter Tryz.func134,Tryz.ntmps134
 go_wp2_with fail;go_ret;exact ⟨rfl,rfl⟩
theorem aHz (r:Nat) (A:Option Addr) (n c k:Nat) (kk:Int) (f:Value) (w:World) (hb:Bk w r 196 #[.slice A n c,.bool false]) (hnc:n≤1000000000000) (hkk:kk=k) (hk:n<k):
  Calls Tryz.prog 134 #[.pointer (some ⟨r,0,none⟩),.int .u64 kk,f] w fun e w'=>e=.returned (.slice none 0 0)∧w'=w.setCell ⟨r,1,none⟩ (.bool true):=by
 subst hkk;have c0:=hb.cell 0;have c1:=hb.cell 1;have f0:=hb.frozen 1;clear hb;simp at c0 c1;go_enter Tryz.func134,Tryz.ntmps134
 go_wp2_with fail;go_ret;exact ⟨rfl,rfl⟩
theorem aA7 {w w1:World} (h:Below w.heap.size w w1) (row:Option Nat):w.grownBy w1 row:=⟨h.os,h.tape,h.output,h.size,fun k hk _=>h.block k hk⟩
theorem aBm {w w1 w2:World} {row:Option Nat} (h:w.grownBy w1 row) (k:w1.grownBy w2 row):w.grownBy w2 row:=
 ⟨k.os.trans h.os,k.tape.trans h.tape,k.output.trans h.output,Nat.le_trans h.size k.size,fun i hi hn=>(k.block i (Nat.lt_of_lt_of_le hi h.size) hn).trans (h.block i hi hn)⟩
theorem aUb (r k:Nat) (kk:Int) (s:List UInt8×Bool) (w:World) (h:Rdr w r s) (hkk:kk=k):
  Calls Tryz.prog 134 #[.pointer (some ⟨r,0,none⟩),.int .u64 kk,.func (.func 135) #[] #[]] w (RedB w r (takeS k s).1 (takeS k s).2):=by
 obtain ⟨bs,bad⟩:=s;obtain ⟨A,n,c,hb,hnc,hc,hr⟩:=h;have hl:=hr.len;simp only at hb hr hl;cases bad with
 |true=>
  refine (aMz r A n c kk _ w hb).mono ?_;rintro e w' ⟨rfl,rfl⟩;simp only [takeS,true_or,if_true];exact ⟨none,0,0,rfl,World.ownsRow_nil _ _ _ _,⟨A,n,c,hb,hnc,hc,hr⟩,aEw _ _⟩
 |false=>
  by_cases hk:n<k
  ·refine (aHz r A n c k kk _ w hb (by omega) hkk hk).mono ?_;rintro e w' ⟨rfl,rfl⟩;simp only [takeS,hl,hk,or_true,if_true];exact ⟨none,0,0,rfl,World.ownsRow_nil _ _ _ _,aR0 hb hnc hc hr,aBp _ _ _ _⟩
  ·refine (aQq r A n c k kk bs w hb hnc hc hr hkk (by omega)).mono ?_;rintro e w' ⟨w1,rfl,hown,hbel,rfl⟩;have hs:takeS k (bs,false)=(bs.take k,(bs.drop k,false)):=by simp [takeS,hl,hk]
   rw [hs];exact ⟨_,k,k,rfl,ownsRow_setCell_below hown hb.lt _,aR8 (hb.below hbel) (by omega) (by omega) ((hr.below hbel).drop (by omega) hnc),aBm (aA7 hbel _) (aBp _ _ _ _)⟩
def textS (s:List UInt8×Bool):List UInt8×(List UInt8×Bool):=takeS (val (takeS 4 s).1) (takeS 4 s).2
theorem aUj (r:Nat) (s:List UInt8×Bool) (w:World) (h:Rdr w r s):
  Calls Tryz.prog 87 #[.pointer (some ⟨r,0,none⟩)] w (RedB w r (textS s).1 (textS s).2):=by
 have H:=Lib.hid h;clear h;go_enter Tryz.func87,Tryz.ntmps87
 go_wp2_with fail;refine (aGq r 4 4 s w H.out rfl (by omega)).mono ?_;rintro e w1 ⟨rfl,h1,h2⟩;have H1:=Lib.hid h1;have H2:=Lib.hid h2;clear h1 h2;go_wp2_with fail;refine (aUb r _ _ (takeS 4 s).2 w1 H1.out rfl).mono ?_;rintro e w2 ⟨A,n,c,rfl,hown,h3,h4⟩;have HO:=Lib.hid hown;have H3:=Lib.hid h3;have H4:=Lib.hid h4;clear hown h3 h4;go_wp2_with fail;go_ret;exact ⟨A,n,c,rfl,aAh HO.out H2.out.size,H3.out,aBm H2.out H4.out⟩
end Go.Proofs.YtgjmbbkcgillcaaGreat
namespace Go.Proofs.YtgjmbbkcgillcaaGreat.Log
open Go.RowKit Disk
theorem aRb {w:World} {base:Nat} {e:TypeId} {A:Option Addr} {n c m:Nat} {xs:List Value} (h:w.ownsRow base e 1 (.slice A n c) m xs):n≤c:=by
 rcases h.2 with ⟨e1,rfl⟩|⟨g,cap,cur,e1,_,_,hnc,_⟩
 ·injection e1 with _ e2 e3;omega
 ·injection e1 with _ e2 e3;omega
theorem aGs {w W:World} {Z:Nat→Prop} {A:Option Addr} {n:Nat} {vs:List UInt8} (h:Rd w A n vs) (ho:Out Z w W) (hz:∀a,A=some a→¬Z a.block):Rd W A n vs:=
 ⟨h.len,fun h0=>by
  obtain ⟨ad,e,hc⟩:=h.cells h0;exact ⟨ad,e,fun j v hv=>(ho.cell (World.block_lt_of_cell? w _ (hc j v hv)) (by rw [aAa];exact hz ad e)).trans (hc j v hv)⟩⟩
structure Fresh (B:Nat) (w:World) (vs:List Value) (bs:List (List UInt8)):Prop where
 len:vs.length=bs.length
 at_:∀(j:Nat) (b:List UInt8),bs[j]? =some b→∃A n c,vs[j]? =some (.slice A n c)∧w.ownsRow B 5 1 (.slice A n c) n (b.map U)
theorem Fresh.below {B:Nat} {w w':World} {vs:List Value} {bs:List (List UInt8)} (h:Fresh B w vs bs) (hb:Below w.heap.size w w'):Fresh B w' vs bs:=
 ⟨h.len,fun j b hj=>by
  obtain ⟨A,n,c,h1,h2⟩:=h.at_ j b hj;exact ⟨A,n,c,h1,h2.kept (aA7 hb none) (Classical.em _)⟩⟩
theorem Fresh.grown {B:Nat} {w w':World} {vs:List Value} {bs:List (List UInt8)} (h:Fresh B w vs bs) {row:Option Nat} (hg:w.grownBy w' row) {T:TypeId} (hT:T≠5) (hr:∀r,row=some r→∃c fz,w.heap[r]? =some (.cells c T fz)):Fresh B w' vs bs:=
 ⟨h.len,fun j b hj=>by
  obtain ⟨A,n,c,h1,h2⟩:=h.at_ j b hj;refine ⟨A,n,c,h1,h2.kept hg ?_⟩;cases ho:(Value.slice A n c).ownBlock with
  |none=>exact .inl rfl
  |some k=>
   refine .inr fun e=>?_;obtain ⟨c1,f1,q1⟩:=Lib.ownsRow_kind h2 k ho;obtain ⟨c2,f2,q2⟩:=hr k e.symm;rw [q1] at q2;injection q2 with q2;injection q2 with _ q3;exact hT q3.symm⟩
theorem Fresh.set {B:Nat} {w:World} {vs:List Value} {bs:List (List UInt8)} (h:Fresh B w vs bs) {g i:Nat} {u:Value} (hg:g<B):Fresh B (w.setCell ⟨g,i,none⟩ u) vs bs:=
 ⟨h.len,fun j b hj=>by
  obtain ⟨A,n,c,h1,h2⟩:=h.at_ j b hj;exact ⟨A,n,c,h1,ownsRow_setCell_below h2 (a:=⟨g,i,none⟩) hg u⟩⟩
theorem Fresh.snoc {B:Nat} {w:World} {vs:List Value} {bs:List (List UInt8)} {A:Option Addr} {n c:Nat} {b:List UInt8} (h:Fresh B w vs bs) (h2:w.ownsRow B 5 1 (.slice A n c) n (b.map U)):Fresh B w (vs++[.slice A n c]) (bs++[b]):=
 ⟨by simp [h.len],fun j x hj=>by
  rcases Nat.lt_or_ge j bs.length with hl|hl
  ·rw [List.getElem?_append_left hl] at hj;rw [List.getElem?_append_left (by rw [h.len];exact hl)];exact h.at_ j x hj
  ·rw [List.getElem?_append_right hl] at hj;rw [List.getElem?_append_right (by rw [h.len];exact hl),h.len];have:j - bs.length=0:=by
    have:=(List.getElem?_eq_some_iff.1 hj).1;simp at this;omega
   rw [this] at hj ⊢;simp at hj;subst hj;exact ⟨A,n,c,rfl,h2⟩⟩
end Go.Proofs.YtgjmbbkcgillcaaGreat.Log
namespace Go.Proofs.YtgjmbbkcgillcaaGreat.Sto
open Go.RowKit Disk Log
structure Ln where
 epoch:Nat
 bytes:List UInt8
def top:Nat:=281474976710656
def lineB (x:Ln):Bool:=decide (1≤x.epoch)&&decide (x.epoch≤top)&&decide (1≤x.bytes.length)&&decide (x.bytes.length≤4096)
theorem aAi {x:Ln}:lineB x=true↔1≤x.epoch∧x.epoch≤top∧1≤x.bytes.length∧x.bytes.length≤4096:=by
 unfold lineB;simp [and_assoc]
theorem aHd {w W:World} {Z:Nat→Prop} {A:Option Addr} {n:Nat} {vs:List UInt8} (h:Rd w A n vs) (ho:Out Z w W) (hz:∀a,A=some a→1≤n→¬Z a.block):Rd W A n vs:=by
 rcases Nat.eq_zero_or_pos n with h0|h0
 ·exact ⟨h.len,fun q=>absurd q (by omega)⟩
 ·exact aGs h ho fun a ha=>hz a ha h0
structure LnS (P:Nat→Prop) (w:World) (A:Option Addr) (n:Nat) (ls:List Ln):Prop where
 len:ls.length=n
 at_:∀(j:Nat) (x:Ln),ls[j]? =some x→∃b o B m c,A=some ⟨b,o,none⟩∧P b∧w.cell? ⟨b,o+j*2,none⟩=some (.int .u64 (x.epoch:Int))∧w.cell? ⟨b,o+j*2+1,none⟩=some (.slice B m c)∧m≤c∧Rd w B m x.bytes∧∀b,B=some b→1≤m→P b.block
theorem LnS.out {P X:Nat→Prop} {w w':World} {A:Option Addr} {n:Nat} {ls:List Ln} (h:LnS P w A n ls) (ho:Out X w w') (hx:∀k,P k→¬X k):LnS P w' A n ls:=
 ⟨h.len,fun j x hj=>by
  obtain ⟨b,o,B,m,c,h1,h2,h3,h4,h5,h6,h7⟩:=h.at_ j x hj;have hk:∀i v,w.cell? ⟨b,i,none⟩=some v→w'.cell? ⟨b,i,none⟩=some v:=fun i v hv=>
   (ho.cell (World.block_lt_of_cell? w _ hv) (hx _ h2)).trans hv
  exact ⟨b,o,B,m,c,h1,h2,hk _ _ h3,hk _ _ h4,h5,aHd h6 ho (fun a ha h0=>hx _ (h7 a ha h0)),h7⟩⟩
theorem LnS.below {P:Nat→Prop} {w w':World} {A:Option Addr} {n:Nat} {ls:List Ln} (h:LnS P w A n ls) (hb:Below w.heap.size w w'):LnS P w' A n ls:=
 h.out (X:=fun _=>False) (Out.of_below hb) fun _ _ q=>q
theorem LnS.mono {P Q:Nat→Prop} {w:World} {A:Option Addr} {n:Nat} {ls:List Ln} (h:LnS P w A n ls) (hq:∀k,P k→Q k):LnS Q w A n ls:=
 ⟨h.len,fun j x hj=>by
  obtain ⟨b,o,B,m,c,h1,h2,h3,h4,h5,h6,h7⟩:=h.at_ j x hj;exact ⟨b,o,B,m,c,h1,hq _ h2,h3,h4,h5,h6,fun b hb h0=>hq _ (h7 b hb h0)⟩⟩
theorem LnS.nil_ (P:Nat→Prop) (w:World) (A:Option Addr):LnS P w A 0 []:=⟨rfl,fun j x hj=>by simp at hj⟩
def lnC (x:Ln) (v:Value):List Value:=[.int .u64 (x.epoch:Int),v]
def lnsC:List Ln→List Value→List Value
 |x::ls,v::vs=>lnC x v++lnsC ls vs
 |_,_=>[]
theorem aD3:∀(ls:List Ln) (vs:List Value),ls.length=vs.length→(lnsC ls vs).length=2*ls.length
 |[],[],_=>rfl
 |x::ls,v::vs,h=>by
  have:=aD3 ls vs (by simpa using h);rw [lnsC,List.length_append,this,List.length_cons];show 2+_=_;omega
theorem aFm:∀(ls:List Ln) (vs:List Value) (ms:List Ln) (us:List Value),ls.length=vs.length→lnsC (ls++ms) (vs++us)=lnsC ls vs++lnsC ms us
 |[],[],ms,us,_=>rfl
 |x::ls,v::vs,ms,us,h=>by
  rw [List.cons_append,List.cons_append,lnsC,aFm ls vs ms us (by simpa using h),lnsC,List.append_assoc]
theorem aJ1 (ls:List Ln) (vs:List Value) (x:Ln) (v:Value) (h:ls.length=vs.length):lnsC (ls++[x]) (vs++[v])=lnsC ls vs++lnC x v:=by
 rw [aFm ls vs [x] [v] h];show _++(lnC x v++[])=_;rw [List.append_nil]
theorem aF1:∀(ls:List Ln) (vs:List Value) (j i:Nat) (x:Ln) (v:Value),ls[j]? =some x→vs[j]? =some v→i<2→(lnsC ls vs)[2*j+i]? =(lnC x v)[i]?
 |[],_,j,i,x,v,h,_,_=>by simp at h
 |_::_,[],j,i,x,v,_,h,_=>by simp at h
 |y::ls,u::vs,0,i,x,v,h1,h2,hi=>by
  simp at h1 h2;subst h1 h2;rw [lnsC,Nat.mul_zero,Nat.zero_add,List.getElem?_append_left (by exact hi)]
 |y::ls,u::vs,j+1,i,x,v,h1,h2,hi=>by
  rw [lnsC,List.getElem?_append_right (by show 2≤_;omega)];have:2*(j+1)+i - (lnC y u).length=2*j+i:=by show 2*(j+1)+i - 2=_;omega
  rw [this];exact aF1 ls vs j i x v (by simpa using h1) (by simpa using h2) hi
theorem bA9 (x:Ln) {v:Value} (h:v.oneCell'=true):∀u∈lnC x v,u.oneCell'=true:=by
 intro u hu;rcases List.mem_cons.1 hu with rfl|hu
 ·rfl
 ·rw [List.mem_singleton.1 hu];exact h
def OwnL (base:Nat) (w:World) (v:Value) (ls:List Ln):Prop:=
 ∃xs,w.ownsRow base 65 2 v ls.length (lnsC ls xs)∧Fresh base w xs (ls.map (·.bytes))
theorem OwnL.nil_ (base:Nat) (w:World):OwnL base w (.slice none 0 0) []:=⟨[],⟨rfl,.inl ⟨rfl,rfl⟩⟩,⟨rfl,fun j b hj=>by simp at hj⟩⟩
theorem OwnL.form {base:Nat} {w:World} {v:Value} {ls:List Ln} (h:OwnL base w v ls):∃A c,v=.slice A ls.length c∧ls.length≤c∧∀a,A=some a→base≤a.block∧a.block<w.heap.size:=by
 obtain ⟨xs,hown,_⟩:=h;rcases hown.2 with ⟨rfl,h0⟩|⟨g,cap,cur,rfl,hg,hh,hnc,_⟩
 ·exact ⟨none,0,by rw [h0],by omega,fun a ha=>by cases ha⟩
 ·exact ⟨_,_,rfl,hnc,fun a ha=>by injection ha with ha;subst ha;exact ⟨hg,(Array.getElem?_eq_some_iff.1 hh).1⟩⟩
theorem aBj (g i:Nat):((⟨g,0,none⟩:Addr).add i)=⟨g,i,none⟩:=by unfold Addr.add;split<;>simp_all
theorem OwnL.lns {base:Nat} {w:World} {A:Option Addr} {n c:Nat} {ls:List Ln} (h:OwnL base w (.slice A n c) ls):LnS (fun k=>base≤k∧k<w.heap.size) w A ls.length ls:=by
 obtain ⟨xs,hown,hf⟩:=h;refine ⟨rfl,fun j x hj=>?_⟩;obtain ⟨B,m,c2,h1,h2⟩:=hf.at_ j x.bytes (by rw [List.getElem?_map,hj];rfl);have g0:=aF1 ls xs j 0 x _ hj h1 (by omega);have g1:=aF1 ls xs j 1 x _ hj h1 (by omega);have hjl:=(List.getElem?_eq_some_iff.1 hj).1;rcases hown.2 with ⟨_,h0⟩|⟨g,cap,cur,e,hg,hh,_⟩
 ·omega
 ·injection e with e;subst e;refine ⟨g,0,B,m,c2,rfl,⟨hg,(Array.getElem?_eq_some_iff.1 hh).1⟩,?_,?_,aRb h2,(Rd.of_own h2).1,fun b hb _=>h2.lt b.block (by subst hb;rfl)⟩
  ·have:=hown.cells (g:=g) rfl _ _ g0;rw [aBj] at this;rw [show 0+j*2=2*j+0 from by omega];exact this
  ·have:=hown.cells (g:=g) rfl _ _ g1;rw [aBj] at this;rw [show 0+j*2+1=2*j+1 from by omega];exact this
theorem aEb:(Tryz.prog.info? 65).map (fun i=>(i.zero,i.size,i.bytes))=some (some (.agg #[.int .u64 0,.slice none 0 0]),2,32):=by kernel_rfl
theorem aEj:Tryz.prog.underlying 34=some (.slice 65):=by kernel_rfl
end Go.Proofs.YtgjmbbkcgillcaaGreat.Sto
namespace Go.Proofs.YtgjmbbkcgillcaaGreat
open Go.RowKit
def countS (most:Int) (s:List UInt8×Bool):Nat×(List UInt8×Bool):=
 if most<0∨most<(val (takeS 8 s).1:Int) then (0,((takeS 8 s).2.1,true)) else (val (takeS 8 s).1,(takeS 8 s).2)
end Go.Proofs.YtgjmbbkcgillcaaGreat
namespace Go.Proofs.YtgjmbbkcgillcaaGreat
open Go.RowKit
theorem aRk (b:UInt8) (bs:List UInt8):val (b::bs)=b.toNat*256^bs.length+val bs:=by
 suffices h:∀(bs:List UInt8) (a:Nat),bs.foldl (fun v b=>v*256+b.toNat) a=a*256^bs.length+val bs by
  have:=h bs (0*256+b.toNat);simpa [val] using this
 intro bs
 induction bs with
 |nil=>intro a;simp [val]
 |cons c cs ih=>
  intro a;have h1:=ih (a*256+c.toNat);have h2:=ih (0*256+c.toNat);simp only [val,List.foldl_cons,List.length_cons] at*;rw [h1,h2,Nat.pow_succ,Nat.add_mul,Nat.zero_mul,Nat.zero_add,Nat.mul_assoc,Nat.mul_comm 256];omega
theorem aVt (k x:Nat):val (be k x)=x % 256^k:=by
 induction k with
 |zero=>simp [be,val,Nat.mod_one]
 |succ k ih=>
  have h:=@Nat.mod_mul (256^k) 256 x;rw [be,aRk,aA1,ih,Nat.pow_succ,h];simp;rw [Nat.mul_comm];omega
theorem aG6 (xs rest:List UInt8) {k:Nat} (h:xs.length=k):takeS k (xs++rest,false)=(xs,(rest,false)):=by
 unfold takeS;rw [if_neg (by simp;omega)];subst h;simp
theorem bCz:∀(k x:Nat),be k x=be k (x % 256^k):=by
 intro k
 induction k with
 |zero=>intro x;rfl
 |succ k ih=>
  intro x;have h1:x % 256^(k+1) % 256^k=x % 256^k:=by
   rw [Nat.pow_succ];exact Nat.mod_mul_right_mod _ _ _
  have h2:x % 256^(k+1) / 256^k=x / 256^k % 256:=by
   rw [Nat.pow_succ,Nat.mod_mul_right_div_self]
  rw [be,be,ih x,ih (x % 256^(k+1)),h1,h2]
  congr 1
  apply UInt8.toNat_inj.1
  simp
theorem aKv:∀(x:List UInt8) (k:Nat),x.length=k→be k (val x)=x:=by
 intro x
 induction x with
 |nil=>intro k h;subst h;rfl
 |cons b bs ih=>
  intro k h;subst h;have hv:=aK6 bs;have h1:=ih bs.length rfl;rw [List.length_cons,be,aRk];have e1:(b.toNat*256^bs.length+val bs) / 256^bs.length=b.toNat:=by
   rw [Nat.mul_comm,Nat.mul_add_div (Nat.pow_pos (by omega)),Nat.div_eq_of_lt hv,Nat.add_zero]
  have e2:be bs.length (b.toNat*256^bs.length+val bs)=bs:=by
   rw [bCz,Nat.add_comm,Nat.add_mul_mod_self_right,Nat.mod_eq_of_lt hv,h1]
  rw [e1,e2];simp
theorem aCz {k:Nat} {s:List UInt8×Bool} (h:(takeS k s).2.2=false):s.2=false∧s.1=(takeS k s).1++(takeS k s).2.1∧(takeS k s).1.length=k:=by
 unfold takeS at h ⊢;split at h
 ·simp at h
 ·next hn=>
  rw [if_neg hn];simp only [not_or,Nat.not_lt] at hn;refine ⟨by simpa using hn.1,by simp,?_⟩;simp;omega
theorem aUe {s:List UInt8×Bool} (h:(textS s).2.2=false):s.2=false∧s.1=be 4 (textS s).1.length++(textS s).1++(textS s).2.1∧(textS s).1.length<4294967296:=by
 obtain ⟨h1,h2,h3⟩:=aCz h;obtain ⟨h4,h5,h6⟩:=aCz h1;have e:be 4 (textS s).1.length=(takeS 4 s).1:=by
  show be 4 (takeS _ _).1.length=_;rw [h3];exact aKv _ 4 h6
 refine ⟨h4,?_,?_⟩
 ·rw [e,h5,List.append_assoc]
  congr 1
 ·show (takeS _ _).1.length<_;rw [h3];have:=aK6 (takeS 4 s).1;rw [h6] at this;exact this
theorem aGu {m:Int} {s:List UInt8×Bool} (h:(countS m s).2.2=false):s.2=false∧s.1=be 8 (countS m s).1++(countS m s).2.1∧((countS m s).1:Int)≤m:=by
 unfold countS at h ⊢;split at h
 ·simp at h
 ·next hn=>
  rw [if_neg hn];obtain ⟨h1,h2,h3⟩:=aCz h;refine ⟨h1,?_,by simp at hn ⊢;omega⟩;simp only;rw [aKv _ 8 h3];exact h2
theorem aGk (m:Int) (n:Nat) (rest:List UInt8) (hn:n<18446744073709551616) (hm:(n:Int)≤m):countS m (be 8 n++rest,false)=(n,(rest,false)):=by
 unfold countS;rw [aG6 _ _ (aA1 8 n)];simp only;rw [aVt,Nat.mod_eq_of_lt (by omega),if_neg (by omega)]
theorem aS3 (s rest:List UInt8) (h:s.length<4294967296):textS (be 4 s.length++s++rest,false)=(s,(rest,false)):=by
 unfold textS;rw [List.append_assoc,aG6 _ _ (aA1 4 s.length)];simp only;rw [aVt,Nat.mod_eq_of_lt (by omega)];exact aG6 _ _ rfl
theorem aHc (k x:Nat) (rest:List UInt8) (h:x<256^k):takeS k (be k x++rest,false)=(be k x,(rest,false))∧val (be k x)=x:=by
 refine ⟨aG6 _ _ (aA1 k x),?_⟩;rw [aVt,Nat.mod_eq_of_lt h]
end Go.Proofs.YtgjmbbkcgillcaaGreat
namespace Go.Proofs.YtgjmbbkcgillcaaGreat.Zm
open Go.RowKit Sto
structure Mg where
 kind:Nat
 epoch:Nat
 current:Nat
 at_:Int
 commit:Int
 lines:List Ln
def Mg.may (m:Mg):Prop:=
 1≤m.kind∧m.kind≤6∧1≤m.epoch∧m.epoch≤top∧m.current≤m.epoch∧0≤m.at_∧m.at_≤256∧0≤m.commit∧m.commit≤256∧m.lines.length≤256∧
  (∀x∈m.lines,lineB x=true)∧(m.kind=2∨m.current=0)∧(m.kind=5∨m.commit=0)∧(m.kind=5∨m.kind=6∨m.at_=0)∧(m.kind=2∨m.kind=4∨m.kind=5∨m.lines.length=0)
instance (m:Mg):Decidable m.may:=by unfold Mg.may;infer_instance
structure Mg.Ok (m:Mg):Prop where
 kind:m.kind<256
 epoch:m.epoch<18446744073709551616
 current:m.current<18446744073709551616
 at0:-9223372036854775808≤m.at_
 at1:m.at_≤9223372036854775807
 commit0:-9223372036854775808≤m.commit
 commit1:m.commit≤9223372036854775807
 many:m.lines.length≤140737488355328
 each:∀x∈m.lines,x.epoch<18446744073709551616∧x.bytes.length≤140737488355328
def u64 (z:Int):Nat:=(z % 18446744073709551616).toNat
theorem aRf (z:Int):u64 z<18446744073709551616:=by unfold u64;omega
theorem aM1 {n:Nat} (h:n<18446744073709551616):u64 (n:Int)=n:=by unfold u64;omega
def encL (x:Ln):List UInt8:=be 8 x.epoch++(be 4 x.bytes.length++x.bytes)
def encLs (l:List Ln):List UInt8:=l.flatMap encL
def Mg.enc (m:Mg):List UInt8:=be 1 m.kind++(be 8 m.epoch++(be 8 m.current++(be 8 (u64 m.at_)++(be 8 (u64 m.commit)++(be 8 m.lines.length++encLs m.lines)))))
theorem aKn (l:List Ln) (x:Ln):encLs (l++[x])=encLs l++encL x:=by simp [encLs]
theorem aKq (l:List Ln) (x:Ln):encLs (x::l)=encL x++encLs l:=by simp [encLs]
theorem aPc (x:Ln):(encL x).length=12+x.bytes.length:=by simp [encL,aA1];omega
theorem aHo {l:List Ln} {b:Nat} (h:∀x∈l,x.bytes.length≤b):(encLs l).length≤l.length*(12+b):=by
 induction l with
 |nil=>simp [encLs]
 |cons x l ih=>
  have h1:=h x List.mem_cons_self;have h2:=ih fun y hy=>h y (List.mem_cons_of_mem _ hy);rw [aKq,List.length_append,aPc,List.length_cons,Nat.succ_mul];omega
def lineS (s:List UInt8×Bool):Ln×(List UInt8×Bool):=(⟨val (takeS 8 s).1,(textS (takeS 8 s).2).1⟩,(textS (takeS 8 s).2).2)
def linesS:Nat→List UInt8×Bool→List Ln×(List UInt8×Bool)
 |0,s=>([],s)
 |k+1,s=>((linesS k s).1++[(lineS (linesS k s).2).1],(lineS (linesS k s).2).2)
theorem aDu (k:Nat) (s:List UInt8×Bool):(linesS k s).1.length=k:=by
 induction k with
 |zero=>rfl
 |succ k ih=>simp [linesS,ih]
theorem aH6 (k:Nat) (s:List UInt8×Bool):linesS (k+1) s=((lineS s).1::(linesS k (lineS s).2).1,(linesS k (lineS s).2).2):=by
 induction k with
 |zero=>rfl
 |succ k ih=>rw [linesS,ih];rfl
theorem aVs {x:Ln} (he:x.epoch<18446744073709551616) (hb:x.bytes.length<4294967296) (rest:List UInt8):lineS (encL x++rest,false)=(x,(rest,false)):=by
 obtain ⟨h1,h2⟩:=aHc 8 x.epoch (be 4 x.bytes.length++x.bytes++rest) (by omega);unfold lineS encL;rw [List.append_assoc (be 8 _),h1];simp only;rw [h2,aS3 _ _ hb]
theorem aRt:∀(l:List Ln) (_:∀x∈l,x.epoch<18446744073709551616∧x.bytes.length<4294967296) (rest:List UInt8),linesS l.length (encLs l++rest,false)=(l,(rest,false)):=by
 intro l
 induction l with
 |nil=>intro _ rest;simp [linesS,encLs]
 |cons x l ih=>
  intro h rest;obtain ⟨h1,h2⟩:=h x List.mem_cons_self;rw [List.length_cons,aH6,aKq,List.append_assoc,aVs h1 h2,ih fun y hy=>h y (List.mem_cons_of_mem _ hy)]
theorem aUm {s:List UInt8×Bool} (h:(lineS s).2.2=false):s.2=false∧s.1=encL (lineS s).1++(lineS s).2.1:=by
 obtain ⟨h1,h2,h3⟩:=aUe h;obtain ⟨h4,h5,h6⟩:=aCz h1;refine ⟨h4,?_⟩;unfold lineS encL;simp only;rw [aKv _ 8 h6,h5,h2];simp
theorem aTm:∀(k:Nat) {s:List UInt8×Bool} (_:(linesS k s).2.2=false),s.2=false∧s.1=encLs (linesS k s).1++(linesS k s).2.1:=by
 intro k
 induction k with
 |zero=>intro s h;exact ⟨h,by simp [linesS,encLs]⟩
 |succ k ih=>
  intro s h;obtain ⟨h1,h2⟩:=aUm h;obtain ⟨h3,h4⟩:=ih h1;refine ⟨h3,?_⟩;rw [linesS,aKn,List.append_assoc,←h2];exact h4
def s1 (b:List UInt8):List UInt8×Bool:=(takeS 1 (b,false)).2
def s2 (b:List UInt8):List UInt8×Bool:=(takeS 8 (s1 b)).2
def s3 (b:List UInt8):List UInt8×Bool:=(takeS 8 (s2 b)).2
def s4 (b:List UInt8):List UInt8×Bool:=(countS 256 (s3 b)).2
def s5 (b:List UInt8):List UInt8×Bool:=(countS 256 (s4 b)).2
def s6 (b:List UInt8):List UInt8×Bool:=(countS 256 (s5 b)).2
def nOf (b:List UInt8):Nat:=(countS 256 (s5 b)).1
def said (b:List UInt8):Mg:=⟨val (takeS 1 (b,false)).1,val (takeS 8 (s1 b)).1,val (takeS 8 (s2 b)).1,((countS 256 (s3 b)).1:Int),((countS 256 (s4 b)).1:Int),(linesS (nOf b) (s6 b)).1⟩
def left (b:List UInt8):List UInt8×Bool:=(linesS (nOf b) (s6 b)).2
def getOk (b:List UInt8):Prop:=(left b).2=false∧(left b).1=[]∧(said b).may
instance (b:List UInt8):Decidable (getOk b):=by unfold getOk;infer_instance
def Mg.zero:Mg:=⟨0,0,0,0,0,[]⟩
def getM (b:List UInt8):Mg:=if getOk b then said b else Mg.zero
def getE (b:List UInt8):Int:=if getOk b then 0 else 2
theorem aZo (b:List UInt8):nOf b≤256:=by
 unfold nOf countS;split
 ·exact Nat.zero_le _
 ·next h=>simp only;omega
theorem aQa (s:List UInt8×Bool):(countS 256 s).1≤256:=by
 unfold countS;split
 ·exact Nat.zero_le _
 ·next h=>simp only;omega
theorem bBc (b:List UInt8):(said b).kind<256∧(said b).epoch<18446744073709551616∧(said b).current<18446744073709551616:=by
 refine ⟨?_,aF3 8 _ (by omega),aF3 8 _ (by omega)⟩;have:=aK6 (takeS 1 (b,false)).1;have h2:=aFu 1 (b,false);exact Nat.lt_of_lt_of_le this (Nat.le_trans (Nat.pow_le_pow_right (by omega) h2) (by decide))
theorem bC4 {x:Ln} (h:lineB x=true):x.epoch<18446744073709551616∧x.bytes.length<4294967296:=by
 obtain ⟨h1,h2,h3,h4⟩:=aAi.1 h;unfold top at h2;omega
theorem bCp:top<18446744073709551616:=by unfold top;omega
theorem aXd {m:Mg} (h:m.may) (rest:List UInt8):said (m.enc++rest)=m∧left (m.enc++rest)=(rest,false):=by
 obtain ⟨h1,h2,h3,h4,h5,h6,h7,h8,h9,h10,h11,-⟩:=h;have ht:=bCp;obtain ⟨kind,epoch,current,at_,commit,lines⟩:=m;simp only at h1 h2 h3 h4 h5 h6 h7 h8 h9 h10 h11;obtain ⟨a,rfl⟩:=Int.eq_ofNat_of_zero_le h6;obtain ⟨c,rfl⟩:=Int.eq_ofNat_of_zero_le h8;have ea:u64 ((a:Nat):Int)=a:=aM1 (by omega);have ec:u64 ((c:Nat):Int)=c:=aM1 (by omega);have e0:(⟨kind,epoch,current,(a:Int),(c:Int),lines⟩:Mg).enc++rest=be 1 kind++(be 8 epoch++(be 8 current++(be 8 a++(be 8 c++(be 8 lines.length++(encLs lines++rest)))))):=by
  unfold Mg.enc;simp only [ea,ec,List.append_assoc]
 rw [e0];clear e0;obtain ⟨p1,q1⟩:=aHc 1 kind (be 8 epoch++(be 8 current++(be 8 a++(be 8 c++(be 8 lines.length++(encLs lines++rest)))))) (by omega);obtain ⟨p2,q2⟩:=aHc 8 epoch (be 8 current++(be 8 a++(be 8 c++(be 8 lines.length++(encLs lines++rest))))) (by omega);obtain ⟨p3,q3⟩:=aHc 8 current (be 8 a++(be 8 c++(be 8 lines.length++(encLs lines++rest)))) (by omega);have p4:=aGk 256 a (be 8 c++(be 8 lines.length++(encLs lines++rest))) (by omega) h7;have p5:=aGk 256 c (be 8 lines.length++(encLs lines++rest)) (by omega) h9;have p6:=aGk 256 lines.length (encLs lines++rest) (by omega) (by omega);have p7:=aRt lines (fun x hx=>bC4 (h11 x hx)) rest;generalize be 1 kind++(be 8 epoch++(be 8 current++(be 8 a++(be 8 c++(be 8 lines.length++(encLs lines++rest))))))=B at*;have t1:s1 B=(be 8 epoch++(be 8 current++(be 8 a++(be 8 c++(be 8 lines.length++(encLs lines++rest))))),false):=congrArg Prod.snd p1;have t2:s2 B=(be 8 current++(be 8 a++(be 8 c++(be 8 lines.length++(encLs lines++rest)))),false):=by unfold s2;rw [t1,p2]
 have t3:s3 B=(be 8 a++(be 8 c++(be 8 lines.length++(encLs lines++rest))),false):=by unfold s3;rw [t2,p3]
 have t4:s4 B=(be 8 c++(be 8 lines.length++(encLs lines++rest)),false):=by unfold s4;rw [t3,p4]
 have t5:s5 B=(be 8 lines.length++(encLs lines++rest),false):=by unfold s5;rw [t4,p5]
 have t6:s6 B=(encLs lines++rest,false):=by unfold s6;rw [t5,p6]
 have tn:nOf B=lines.length:=by unfold nOf;rw [t5,p6]
 unfold said left;rw [t6,tn,p7,t1,t2,t3,t4,p1,p2,p3,p4,p5];simp only [q1,q2,q3,and_self]
theorem aXw {b:List UInt8} (h:(left b).2=false):(said b).enc++(left b).1=b:=by
 obtain ⟨a6,b6⟩:=aTm _ h;obtain ⟨a5,b5,c5⟩:=aGu (s:=s5 b) a6;obtain ⟨a4,b4,c4⟩:=aGu (s:=s4 b) a5;obtain ⟨a3,b3,c3⟩:=aGu (s:=s3 b) a4;obtain ⟨a2,b2,c2⟩:=aCz (s:=s2 b) a3;obtain ⟨a1,b1,c1⟩:=aCz (s:=s1 b) a2;obtain ⟨a0,b0,c0⟩:=aCz (s:=(b,false)) a1;have e1:=aM1 (n:=(countS 256 (s3 b)).1) (by omega);have e2:=aM1 (n:=(countS 256 (s4 b)).1) (by omega);have hlen:(linesS (nOf b) (s6 b)).1.length=nOf b:=aDu _ _;have d0:=aKv _ 1 c0;have d1:=aKv _ 8 c1;have d2:=aKv _ 8 c2;unfold said Mg.enc;simp only;rw [e1,e2,hlen,d0,d1,d2];simp only [List.append_assoc];have f6:encLs (linesS (nOf b) (s6 b)).1++(left b).1=(s6 b).1:=b6.symm;rw [f6];have f5:be 8 (nOf b)++(s6 b).1=(s5 b).1:=b5.symm;rw [f5];have f4:be 8 (countS 256 (s4 b)).1++(s5 b).1=(s4 b).1:=b4.symm;rw [f4];have f3:be 8 (countS 256 (s3 b)).1++(s4 b).1=(s3 b).1:=b3.symm;rw [f3];have f2:(takeS 8 (s2 b)).1++(s3 b).1=(s2 b).1:=b2.symm;rw [f2];have f1:(takeS 8 (s1 b)).1++(s2 b).1=(s1 b).1:=b1.symm;rw [f1];exact b0.symm
theorem bAk {m:Mg} (h:m.may):getOk m.enc∧getM m.enc=m:=by
 have h1:=aXd h [];rw [List.append_nil] at h1;obtain ⟨h1,h2⟩:=h1;have h3:getOk m.enc:=⟨by rw [h2],by rw [h2],by rw [h1];exact h⟩;exact ⟨h3,by unfold getM;rw [if_pos h3,h1]⟩
theorem bBd {b:List UInt8} (h:getOk b):(said b).may∧(said b).enc=b:=by
 refine ⟨h.2.2,?_⟩;have:=aXw h.1;rwa [h.2.1,List.append_nil] at this
theorem aVc:∀(k:Nat) (s:List UInt8×Bool),∀x∈(linesS k s).1,x.epoch<18446744073709551616∧x.bytes.length≤s.1.length:=by
 intro k
 induction k with
 |zero=>intro s x hx;simp [linesS] at hx
 |succ k ih=>
  intro s x hx;rw [aH6] at hx;have hle:∀(j:Nat) (u:List UInt8×Bool),(takeS j u).1.length≤u.1.length∧(takeS j u).2.1.length≤u.1.length:=fun j u=>by
   unfold takeS;split
   ·simp
   ·simp;omega
  rcases List.mem_cons.1 hx with rfl|hx
  ·refine ⟨aF3 8 _ (by omega),?_⟩;have h1:=(hle 8 s).2;have h2:=(hle 4 (takeS 8 s).2).2;have h3:=(hle (val (takeS 4 (takeS 8 s).2).1) (takeS 4 (takeS 8 s).2).2).1;show (takeS _ _).1.length≤_;omega
  ·have h0:=ih (lineS s).2 x hx;have h1:=(hle 8 s).2;have h2:=(hle 4 (takeS 8 s).2).2;have h3:=(hle (val (takeS 4 (takeS 8 s).2).1) (takeS 4 (takeS 8 s).2).2).2;have h4:(lineS s).2.1.length≤s.1.length:=by
    show (takeS _ _).2.1.length≤_;omega
   exact ⟨h0.1,by omega⟩
theorem aWe (b:List UInt8):(s6 b).1.length≤b.length:=by
 have hle:∀(j:Nat) (u:List UInt8×Bool),(takeS j u).2.1.length≤u.1.length:=fun j u=>by
  unfold takeS;split
  ·simp
  ·simp
 have hc:∀u:List UInt8×Bool,(countS 256 u).2.1.length≤u.1.length:=fun u=>by
  have:=hle 8 u;unfold countS;split<;>exact this
 have h1:=hle 1 (b,false);have h2:=hle 8 (s1 b);have h3:=hle 8 (s2 b);have h4:=hc (s3 b);have h5:=hc (s4 b);have h6:=hc (s5 b);show (countS 256 (s5 b)).2.1.length≤_;have e1:(takeS 1 (b,false)).2=s1 b:=rfl;have e2:(takeS 8 (s1 b)).2=s2 b:=rfl;have e3:(takeS 8 (s2 b)).2=s3 b:=rfl;have e4:(countS 256 (s3 b)).2=s4 b:=rfl;have e5:(countS 256 (s4 b)).2=s5 b:=rfl;rw [e1] at h1;rw [e2] at h2;rw [e3] at h3;rw [e4] at h4;rw [e5] at h5;simp only at h1;omega
theorem aWf (b:List UInt8) (hb:b.length≤1000000):(said b).Ok:=by
 obtain ⟨h1,h2,h3⟩:=bBc b;have h4:=aQa (s3 b);have h5:=aQa (s4 b);refine ⟨h1,h2,h3,?_,?_,?_,?_,?_,fun x hx=>?_⟩
 ·show -9223372036854775808≤((countS 256 (s3 b)).1:Int);omega
 ·show ((countS 256 (s3 b)).1:Int)≤9223372036854775807;omega
 ·show -9223372036854775808≤((countS 256 (s4 b)).1:Int);omega
 ·show ((countS 256 (s4 b)).1:Int)≤9223372036854775807;omega
 ·show (linesS (nOf b) (s6 b)).1.length≤_;rw [aDu];have:=aZo b;omega
 ·obtain ⟨q1,q2⟩:=aVc (nOf b) (s6 b) x hx;have:=aWe b;exact ⟨q1,by omega⟩
theorem aSf {α:Type} (l:List α) (k:Nat) (a:α) (h:l[k]? =some a):l.take (k+1)=l.take k++[a]:=by
 obtain ⟨hk,rfl⟩:=List.getElem?_eq_some_iff.1 h;rw [List.take_append_getElem hk]
end Go.Proofs.YtgjmbbkcgillcaaGreat.Zm
