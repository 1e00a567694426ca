/- Lemmas, part 25: StoRead2, StoOpen, StoTurn -/
import Derived.Test.YtgjmbbkcgillcaaGreatPart24
set_option maxHeartbeats 16000000
namespace Go.Proofs.YtgjmbbkcgillcaaGreat.Sto
open Go.RowKit Disk Log
theorem out3' (i j k g:Nat) (w:World) (x y z:Value):Out (·=g) w (((w.setCell ⟨g,i,none⟩ x).setCell ⟨g,j,none⟩ y).setCell ⟨g,k,none⟩ z):=
 ((Out.setCell (X:=(·=g)) w (p:=⟨g,i,none⟩) rfl x).trans (Out.setCell (X:=(·=g)) _ (p:=⟨g,j,none⟩) rfl y) fun _ h=>.inl h).trans (Out.setCell (X:=(·=g)) _ (p:=⟨g,k,none⟩) rfl z) fun _ h=>.inl h
def kz:List Value:=[.int .u64 0,.int .u64 0,.slice none 0 0]
def kc (k:Kp) (A:Option Addr) (c:Nat):List Value:=[.int .u64 (k.promised:Int),.int .u64 (k.current:Int),.slice A k.lines.length c]
structure Half (w:World) (gd:Nat) (d:DK) (f p:Nat) (k:Kp) (B0:Nat) (wr:World) (g:Nat) (Y V:Nat→Prop) (A:Option Addr) (c:Nat):Prop where
 log:LgAt wr Y g gd (f:Int) p (newL d f p)
 lines:LnS V wr A k.lines.length k.lines
 caps:k.lines.length≤c∧(A=none→c=0)
 ys:∀b,Y b→B0≤b∧b<wr.heap.size
 vs:∀b,V b→B0≤b∧b<wr.heap.size∧¬Y b
theorem Half.out {w:World} {gd:Nat} {d:DK} {f p:Nat} {k:Kp} {B0:Nat} {wr w':World} {g:Nat} {Y V Z:Nat→Prop} {A:Option Addr} {c:Nat} (h:Half w gd d f p k B0 wr g Y V A c) (ho:Out Z wr w') (hz:∀b,Z b→b<B0):Half w gd d f p k B0 w' g Y V A c:=
 ⟨h.log.out ho fun b hb hq=>by have:=(h.ys b hb).1;have:=hz b hq;omega,h.lines.out ho fun b hb hq=>by have:=(h.vs b hb).1;have:=hz b hq;omega,h.caps,fun b hb=>⟨(h.ys b hb).1,Nat.lt_of_lt_of_le (h.ys b hb).2 ho.size⟩,fun b hb=>⟨(h.vs b hb).1,Nat.lt_of_lt_of_le (h.vs b hb).2.1 ho.size,(h.vs b hb).2.2⟩⟩
theorem aEu.half {gd:Nat} {d:DK} {f p:Nat} {k:Kp} {w0 w w':World} {e:Ending} (h:aEu gd d f p k w e w') (hf:Fine k):∃g Y V A c,e=.returned (.tuple #[.pointer (some ⟨g,0,none⟩),kpV k A c])∧Half w0 gd d f p k w.heap.size w' g Y V A c∧Below w.heap.size w w':=by
 obtain ⟨g,Y,A,c,B,h1,h2,h3,h4,h5,h6,h7⟩:=h;have hl:=h4.lt fun x hx=>(aAi.1 (hf.each x hx).1).2.2.1;refine ⟨g,Y,fun b=>(B≤b∧b<w'.heap.size)∧w.heap.size≤b,A,c,h1,⟨h2,?_,⟨h5,h6⟩,fun b hb=>⟨(h3 b hb).1,h2.lt b hb⟩,fun b hb=>⟨hb.2,hb.1.2,fun q=>by have:=(h3 b q).2;have:=hb.1.1;omega⟩⟩,h7⟩;refine hl.mono fun b hb=>⟨hb,?_⟩;have hg:∃b0,Y b0:=by
  obtain ⟨R,c0,vs,hh⟩:=h2;exact ⟨g,hh.yg⟩
 obtain ⟨b0,hb0⟩:=hg;have:=h3 b0 hb0;have hb1:B≤b:=hb.1;omega
def R0 (w:World) (gs gd:Nat) (wr:World):Prop:=
 Bk wr gs 126 #[.pointer (some ⟨gd,0,none⟩),.pointer none,.pointer none,.int .i64 0,.int .u64 0,.int .u64 0,.slice none 0 0,.bool false]∧Bk wr w.heap.size 173 (kz++kz).toArray∧Out (·=gs) w wr
def R1 (w:World) (gs gd:Nat) (d:DK) (p:Nat) (a:Kp) (wr:World):Prop:=
 ∃g0 Y0 V0 A0 c0,Half w gd d 0 p a (w.heap.size+1) wr g0 Y0 V0 A0 c0∧Bk wr gs 126 #[.pointer (some ⟨gd,0,none⟩),.pointer (some ⟨g0,0,none⟩),.pointer none,.int .i64 0,.int .u64 0,.int .u64 0,.slice none 0 0,.bool false]∧Bk wr w.heap.size 173 (kc a A0 c0++kz).toArray∧Out (·=gs) w wr
def R2 (w:World) (gs gd:Nat) (d:DK) (p:Nat) (a b:Kp) (wr:World):Prop:=
 ∃g0 Y0 V0 A0 c0 g1 Y1 V1 A1 c1 B1,Half w gd d 0 p a (w.heap.size+1) wr g0 Y0 V0 A0 c0∧Half w gd d p p b B1 wr g1 Y1 V1 A1 c1∧(∀j,(Y0 j∨V0 j)→j<B1)∧w.heap.size+1≤B1∧Bk wr gs 126 #[.pointer (some ⟨gd,0,none⟩),.pointer (some ⟨g0,0,none⟩),.pointer (some ⟨g1,0,none⟩),.int .i64 0,.int .u64 0,.int .u64 0,.slice none 0 0,.bool false]∧Bk wr w.heap.size 173 (kc a A0 c0++kc b A1 c1).toArray∧Out (·=gs) w wr
theorem bAf {w W:World} {X:Nat→Prop} {gs gd:Nat} {d:DK} {p:Nat} {a b:Kp} {g0:Nat} {Y0 V0:Nat→Prop} {A0:Option Addr} {c0 g1:Nat} {Y1 V1:Nat→Prop} {A1:Option Addr} {c1 B1:Nat} (hd:DkAt W X gd d) (hX:∀j,X j→j<w.heap.size∧j≠gs) (hgs:gs<w.heap.size) (hp:d.pages.length / 2=p) (hp4:4≤p) (h0:Half w gd d 0 p a (w.heap.size+1) W g0 Y0 V0 A0 c0) (h1:Half w gd d p p b B1 W g1 Y1 V1 A1 c1) (hB:∀j,(Y0 j∨V0 j)→j<B1) (hB1:w.heap.size+1≤B1):
  (Bk W gs 126 (svC gd g1 g0 true b A1 c1 false)→SvM W X Y1 Y0 V1 gs gd g1 g0 d p (newL d p p) (newL d 0 p) true b false)∧(Bk W gs 126 (svC gd g0 g1 false a A0 c0 false)→SvM W X Y0 Y1 V0 gs gd g0 g1 d p (newL d 0 p) (newL d p p) false a false):=by
 refine ⟨fun hb=>⟨⟨A1,c1,hb,h1.lines,h1.caps⟩,hd,h1.log,h0.log,⟨hp,hp4⟩,?_,?_,?_,?_⟩,fun hb=>⟨⟨A0,c0,hb,h0.lines,h0.caps⟩,hd,h0.log,h1.log,⟨hp,hp4⟩,?_,?_,?_,?_⟩⟩
 ·exact fun j hj=>⟨fun q=>by have:=(h1.ys j q).1;have:=(hX j hj).1;omega,fun q=>by have:=(h0.ys j q).1;have:=(hX j hj).1;omega,(hX j hj).2,fun q=>by have:=(h1.vs j q).1;have:=(hX j hj).1;omega⟩
 ·exact fun j hj=>⟨fun q=>by have:=hB j (.inl q);have:=(h1.ys j hj).1;omega,by have:=(h1.ys j hj).1;omega,fun q=>(h1.vs j q).2.2 hj⟩
 ·exact fun j hj=>⟨by have:=(h0.ys j hj).1;omega,fun q=>by have:=hB j (.inl hj);have:=(h1.vs j q).1;omega⟩
 ·exact fun j hj=>⟨by have:=(h1.vs j hj).1;omega,(h1.vs j hj).2.1⟩
 ·exact fun j hj=>⟨fun q=>by have:=(h0.ys j q).1;have:=(hX j hj).1;omega,fun q=>by have:=(h1.ys j q).1;have:=(hX j hj).1;omega,(hX j hj).2,fun q=>by have:=(h0.vs j q).1;have:=(hX j hj).1;omega⟩
 ·exact fun j hj=>⟨fun q=>by have:=hB j (.inl hj);have:=(h1.ys j q).1;omega,by have:=(h0.ys j hj).1;omega,fun q=>(h0.vs j q).2.2 hj⟩
 ·exact fun j hj=>⟨by have:=(h1.ys j hj).1;omega,fun q=>by have:=hB j (.inr q);have:=(h1.ys j hj).1;omega⟩
 ·exact fun j hj=>⟨by have:=(h0.vs j hj).1;omega,(h0.vs j hj).2.1⟩
def ReadSt (X:Nat→Prop) (gs gd:Nat) (d:DK) (p:Nat) (a b:Kp) (w:World) (e:Ending) (w':World):Prop:=
 e=.returned (.tuple #[])∧Out (·=gs) w w'∧∃Ya Yb V ga gb,((Later a b→SvM w' X Ya Yb V gs gd ga gb d p (newL d p p) (newL d 0 p) true b false)∧(¬Later a b→SvM w' X Ya Yb V gs gd ga gb d p (newL d 0 p) (newL d p p) false a false))∧∀j,(Ya j∨Yb j∨V j)→w.heap.size<j
set_option maxRecDepth 100000 in
theorem aZc {w:World} {X:Nat→Prop} {gs gd:Nat} {d:DK} {p N:Nat} {a b:Kp} (hd:DkAt w X gd d) (hp:d.pages.length / 2=p) (hp4:4≤p) (hx:¬X gs) (hb:Bk w gs 126 #[.pointer (some ⟨gd,0,none⟩),.pointer none,.pointer none,.int .i64 0,.int .u64 0,.int .u64 0,.slice none 0 0,.bool false]) (h0:Area d 0 p N a) (h1:Area d p p N b) (hrow:d.row=[]) (hN:N<65536) (hor:Later b a∨Later a b∨(a=Kp.zero∧b=Kp.zero)):
  Calls Tryz.prog 68 #[.pointer (some ⟨gs,0,none⟩)] w (ReadSt X gs gd d p a b w):=by
 have hgs:=hb.lt;have HGS:Hid (gs<w.heap.size):=hgs;have HFA:=Lib.hid h0.fine;have HFB:=Lib.hid h1.fine;have CA0:Hid (∀V,Out (·=gs) w V→Calls Tryz.prog 114 #[.pointer (some ⟨gd,0,none⟩),.int .i64 0,.int .i64 (p:Int)] V (aEu gd d 0 p a V)):=fun V hV=>aH7 (hd.out hV fun b hb e=>hx (e ▸ hb)) 0 p N a h0 hrow hN;have CA1:Hid (∀V,Out (·=gs) w V→Calls Tryz.prog 114 #[.pointer (some ⟨gd,0,none⟩),.int .i64 (p:Int),.int .i64 (p:Int)] V (aEu gd d p p b V)):=fun V hV=>aH7 (hd.out hV fun b hb e=>hx (e ▸ hb)) p p N b h1 hrow hN;have CP:Hid (∀V,Out (·=gs) w V→V.cell? ⟨gs,0,none⟩=some (.pointer (some ⟨gd,0,none⟩))→Calls Tryz.prog 115 #[.pointer (some ⟨gs,0,none⟩)] V fun e w'=>e=.returned (.int .i64 (p:Int))∧V=w'):=fun V hV hc=>aQo gs gd p d X V (hd.out hV fun b hb e=>hx (e ▸ hb)) hc hp;have HD:=Lib.hid hd;have hb0:Below w.heap.size w (w.alloc (.cells (kz++kz).toArray 173)):=(Below.refl _ _).alloc (Nat.le_refl _) _;have HR0:Hid (R0 w gs gd (w.alloc (.cells (kz++kz).toArray 173))):=⟨hb.below hb0,Bk.new w _ _,Out.of_below hb0⟩;have HP:Hid (4≤p):=hp4;have hmany:=hd.ok.many;have HP2:Hid (p≤4096):=by show _≤_;omega
 clear hd hb h0 h1 hb0 hgs hmany;go_enter Tryz.func68,Tryz.ntmps68
 go_wp2_with fail;go_loopw [3,5] (fun _ i wr=>(i=.int .i64 0∧R0 w gs gd wr)∨(i=.int .i64 1∧R1 w gs gd d p a wr)∨(i=.int .i64 2∧R2 w gs gd d p a b wr)) (fun _ i _=>2 - (intOf i).toNat)
 case atStart=>exact .inl ⟨rfl,HR0.out⟩
 case round=>
  rcases hrel with ⟨rfl,hr⟩|⟨rfl,hr⟩|⟨rfl,hr⟩
  ·obtain ⟨q1,q2,q3⟩:=hr;have HQ1:=Lib.hid q1;have HQ2:=Lib.hid q2;have HQ3:=Lib.hid q3;have k0:wr.cell? ⟨gs,0,none⟩=some (.pointer (some ⟨gd,0,none⟩)):=q1.cell 0;have hne:¬gs=w.heap.size:=by have:=HGS.out;omega
   have hne2:¬w.heap.size=gs:=fun e=>hne e.symm;have HSD:Hid (wr.drew.cell? ⟨gs,0,none⟩=some (.pointer (some ⟨gd,0,none⟩))):=k0;have HOD:Hid (Out (·=gs) w wr.drew):=q3.drew;have hz:IntKind.i64.wrap 0=0:=rfl;have CP0:=Lib.hid (CP.out wr.drew HOD.out HSD.out);have CA:=Lib.hid (CA0.out wr.drew HOD.out);have HDR:Hid (Below wr.heap.size wr wr.drew):=(Below.refl _ _).drew;have HSZ:Hid (w.heap.size+1≤wr.heap.size):=q2.lt;clear q1 q2 q3;go_wp2_with fail
   go_region_held3 (fun V=>V.cell? ⟨gs,0,none⟩=some (.pointer (some ⟨gd,0,none⟩)))
    (first|(with_reducible assumption)|(with_reducible exact HSD.out)|(with_reducible exact HS1.out)|(with_reducible exact HSU.out _)|(with_reducible exact HST.out _ _ _ _))
    (first
     |(go_at_call 115;(with_reducible refine CP0.out.mono ?_);rintro e _ ⟨rfl,rfl⟩)
     |(go_at_call 114;(with_reducible refine CA.out.mono ?_);intro e w1 hp1;obtain ⟨g0,Y0,V0,A0,c0,rfl,hh,hb1⟩:=hp1.half (w0:=w) HFA.out;have HH:=Lib.hid hh;have HB1:=Lib.hid hb1;have HBW:=Lib.hid (HDR.out.trans (hb1.mono HDR.out.size));have HK1:=Lib.hid (HQ1.out.below HBW.out);have HF1:=Lib.hid (HQ2.out.below HBW.out);have gf:=HK1.out.frozen;have gc1:w1.cell? ⟨gs,1,none⟩=some (.pointer none):=HK1.out.cell 1;have ff:=HF1.out.frozen;have fc0:w1.cell? ⟨w.heap.size,0,none⟩=some (.int .u64 0):=HF1.out.cell 0;have fc1:w1.cell? ⟨w.heap.size,1,none⟩=some (.int .u64 0):=HF1.out.cell 1;have fc2:w1.cell? ⟨w.heap.size,2,none⟩=some (.slice none 0 0):=HF1.out.cell 2;have HS1:Hid (w1.cell? ⟨gs,0,none⟩=some (.pointer (some ⟨gd,0,none⟩))):=HK1.out.cell 0;have HSU:Hid (∀v,(w1.setCell ⟨gs,1,none⟩ v).cell? ⟨gs,0,none⟩=some (.pointer (some ⟨gd,0,none⟩))):=(fun v=>(HK1.out.set 1 v).cell 0);have HST:Hid (∀v x y z,((((w1.setCell ⟨gs,1,none⟩ v).setCell ⟨w.heap.size,0,none⟩ x).setCell ⟨w.heap.size,1,none⟩ y).setCell ⟨w.heap.size,2,none⟩ z).cell? ⟨gs,0,none⟩=some (.pointer (some ⟨gd,0,none⟩))):=(fun v x y z=>((out3' 0 1 2 w.heap.size (w1.setCell ⟨gs,1,none⟩ v) x y z).cell (p:=⟨gs,0,none⟩) (HK1.out.set 1 v).lt hne).trans ((HK1.out.set 1 v).cell 0));unfold kpV;clear hp1 hh hb1))
   obtain ⟨W9,hW9⟩:∃W9,W9=(((w1.setCell ⟨gs,1,none⟩ (.pointer (some ⟨g0,0,none⟩))).setCell ⟨w.heap.size,0,none⟩ (.int .u64 (a.promised:Int))).setCell ⟨w.heap.size,1,none⟩ (.int .u64 (a.current:Int))).setCell ⟨w.heap.size,2,none⟩ (.slice A0 a.lines.length c0):=⟨_,rfl⟩;have ho9:Out (fun j=>j=w.heap.size∨j=gs) w1 W9:=by
    rw [hW9];exact (Out.setCell (X:=fun j=>j=w.heap.size∨j=gs) w1 (p:=⟨gs,1,none⟩) (.inr rfl) _).trans (out3' 0 1 2 w.heap.size _ _ _ _) fun _ h=>.inl (.inl h)
   have hg9:Bk W9 gs 126 #[.pointer (some ⟨gd,0,none⟩),.pointer (some ⟨g0,0,none⟩),.pointer none,.int .i64 0,.int .u64 0,.int .u64 0,.slice none 0 0,.bool false]:=by
    rw [hW9];refine aAd ?_ (out3' 0 1 2 w.heap.size _ _ _ _) hne;simpa using HK1.out.set 1 (.pointer (some ⟨g0,0,none⟩))
   have hf9:Bk W9 w.heap.size 173 (kc a A0 c0++kz).toArray:=by
    rw [hW9];have hx1:=aAd HF1.out (Out.setCell (X:=(·=gs)) w1 (p:=⟨gs,1,none⟩) rfl (.pointer (some ⟨g0,0,none⟩))) hne2;simpa [kc,kz] using ((hx1.set 0 (.int .u64 (a.promised:Int))).set 1 (.int .u64 (a.current:Int))).set 2 (.slice A0 a.lines.length c0)
   have hob:Out (·=gs) w W9:=(HQ3.out.trans (Out.of_below (X:=(·=gs)) HBW.out) fun _ h=>.inl h).trans ho9 fun j hj=>hj.elim (fun q=>.inr (by rw [q];exact Nat.le_refl _)) .inl;rw [←hW9];have HO9:=Lib.hid ho9;have HG9:=Lib.hid hg9;have HF9:=Lib.hid hf9;have HOB:=Lib.hid hob;clear ho9 hg9 hf9 hob gf gc1 ff fc0 fc1 fc2 hW9;go_wp2_with fail;have HR1:Hid (R1 w gs gd d p a W9):=⟨g0,Y0,V0,A0,c0,⟨HH.out.log.out HO9.out fun j hj e=>by
     have h1:=(HH.out.ys j hj).1;have h2:wr.drew.heap.size=wr.heap.size:=rfl;have h3:=HSZ.out;have h4:=HGS.out;rcases e with e|e<;>omega,HH.out.lines.out HO9.out fun j hj e=>by
     have h1:=(HH.out.vs j hj).1;have h2:wr.drew.heap.size=wr.heap.size:=rfl;have h3:=HSZ.out;have h4:=HGS.out;rcases e with e|e<;>omega,HH.out.caps,fun j hj=>⟨Nat.le_trans HSZ.out (HH.out.ys j hj).1,Nat.lt_of_lt_of_le (HH.out.ys j hj).2 HO9.out.size⟩,fun j hj=>⟨Nat.le_trans HSZ.out (HH.out.vs j hj).1,Nat.lt_of_lt_of_le (HH.out.vs j hj).2.1 HO9.out.size,(HH.out.vs j hj).2.2⟩⟩,HG9.out,HF9.out,HOB.out⟩
   exact ⟨.inr (.inl ⟨rfl,HR1.out⟩),by decide⟩
  ·obtain ⟨g0,Y0,V0,A0,c0,hh0,q1,q2,q3⟩:=hr;have HH0:=Lib.hid hh0;clear hh0;have HQ1:=Lib.hid q1;have HQ2:=Lib.hid q2;have HQ3:=Lib.hid q3;have k0:wr.cell? ⟨gs,0,none⟩=some (.pointer (some ⟨gd,0,none⟩)):=q1.cell 0;have hne:¬gs=w.heap.size:=by have:=HGS.out;omega
   have hne2:¬w.heap.size=gs:=fun e=>hne e.symm;have HSD:Hid (wr.drew.cell? ⟨gs,0,none⟩=some (.pointer (some ⟨gd,0,none⟩))):=k0;have HOD:Hid (Out (·=gs) w wr.drew):=q3.drew;have hz:IntKind.i64.wrap (p:Int)=(p:Int):=IntWalk.i64_in _ (by have:=HP2.out;omega);have CP0:=Lib.hid (CP.out wr.drew HOD.out HSD.out);have CA:=Lib.hid (CA1.out wr.drew HOD.out);have HDR:Hid (Below wr.heap.size wr wr.drew):=(Below.refl _ _).drew;have HSZ:Hid (w.heap.size+1≤wr.heap.size):=q2.lt;clear q1 q2 q3;go_wp2_with fail
   go_region_held3 (fun V=>V.cell? ⟨gs,0,none⟩=some (.pointer (some ⟨gd,0,none⟩)))
    (first|(with_reducible assumption)|(with_reducible exact HSD.out)|(with_reducible exact HS1.out)|(with_reducible exact HSU.out _)|(with_reducible exact HST.out _ _ _ _))
    (first
     |(go_at_call 115;(with_reducible refine CP0.out.mono ?_);rintro e _ ⟨rfl,rfl⟩)
     |(go_at_call 114;(with_reducible refine CA.out.mono ?_);intro e w1 hp1;obtain ⟨g1,Y1,V1,A1,c1,rfl,hh,hb1⟩:=hp1.half (w0:=w) HFB.out;have HH:=Lib.hid hh;have HB1:=Lib.hid hb1;have HBW:=Lib.hid (HDR.out.trans (hb1.mono HDR.out.size));have HK1:=Lib.hid (HQ1.out.below HBW.out);have HF1:=Lib.hid (HQ2.out.below HBW.out);have gf:=HK1.out.frozen;have gc1:w1.cell? ⟨gs,2,none⟩=some (.pointer none):=HK1.out.cell 2;have ff:=HF1.out.frozen;have fc0:w1.cell? ⟨w.heap.size,3,none⟩=some (.int .u64 0):=HF1.out.cell 3;have fc1:w1.cell? ⟨w.heap.size,4,none⟩=some (.int .u64 0):=HF1.out.cell 4;have fc2:w1.cell? ⟨w.heap.size,5,none⟩=some (.slice none 0 0):=HF1.out.cell 5;have HS1:Hid (w1.cell? ⟨gs,0,none⟩=some (.pointer (some ⟨gd,0,none⟩))):=HK1.out.cell 0;have HSU:Hid (∀v,(w1.setCell ⟨gs,2,none⟩ v).cell? ⟨gs,0,none⟩=some (.pointer (some ⟨gd,0,none⟩))):=(fun v=>(HK1.out.set 2 v).cell 0);have HST:Hid (∀v x y z,((((w1.setCell ⟨gs,2,none⟩ v).setCell ⟨w.heap.size,3,none⟩ x).setCell ⟨w.heap.size,4,none⟩ y).setCell ⟨w.heap.size,5,none⟩ z).cell? ⟨gs,0,none⟩=some (.pointer (some ⟨gd,0,none⟩))):=(fun v x y z=>((out3' 3 4 5 w.heap.size (w1.setCell ⟨gs,2,none⟩ v) x y z).cell (p:=⟨gs,0,none⟩) (HK1.out.set 2 v).lt hne).trans ((HK1.out.set 2 v).cell 0));unfold kpV;clear hp1 hh hb1))
   obtain ⟨W9,hW9⟩:∃W9,W9=(((w1.setCell ⟨gs,2,none⟩ (.pointer (some ⟨g1,0,none⟩))).setCell ⟨w.heap.size,3,none⟩ (.int .u64 (b.promised:Int))).setCell ⟨w.heap.size,4,none⟩ (.int .u64 (b.current:Int))).setCell ⟨w.heap.size,5,none⟩ (.slice A1 b.lines.length c1):=⟨_,rfl⟩;have ho9:Out (fun j=>j=w.heap.size∨j=gs) w1 W9:=by
    rw [hW9];exact (Out.setCell (X:=fun j=>j=w.heap.size∨j=gs) w1 (p:=⟨gs,2,none⟩) (.inr rfl) _).trans (out3' 3 4 5 w.heap.size _ _ _ _) fun _ h=>.inl (.inl h)
   have hg9:Bk W9 gs 126 #[.pointer (some ⟨gd,0,none⟩),.pointer (some ⟨g0,0,none⟩),.pointer (some ⟨g1,0,none⟩),.int .i64 0,.int .u64 0,.int .u64 0,.slice none 0 0,.bool false]:=by
    rw [hW9];refine aAd ?_ (out3' 3 4 5 w.heap.size _ _ _ _) hne;simpa using HK1.out.set 2 (.pointer (some ⟨g1,0,none⟩))
   have hf9:Bk W9 w.heap.size 173 (kc a A0 c0++kc b A1 c1).toArray:=by
    rw [hW9];have hx1:=aAd HF1.out (Out.setCell (X:=(·=gs)) w1 (p:=⟨gs,2,none⟩) rfl (.pointer (some ⟨g1,0,none⟩))) hne2;simpa [kc,kz] using ((hx1.set 3 (.int .u64 (b.promised:Int))).set 4 (.int .u64 (b.current:Int))).set 5 (.slice A1 b.lines.length c1)
   have hob:Out (·=gs) w W9:=(HQ3.out.trans (Out.of_below (X:=(·=gs)) HBW.out) fun _ h=>.inl h).trans ho9 fun j hj=>hj.elim (fun q=>.inr (by rw [q];exact Nat.le_refl _)) .inl;rw [←hW9];have HO9:=Lib.hid ho9;have HG9:=Lib.hid hg9;have HF9:=Lib.hid hf9;have HOB:=Lib.hid hob;clear ho9 hg9 hf9 hob gf gc1 ff fc0 fc1 fc2 hW9;go_wp2_with fail;have HR2:Hid (R2 w gs gd d p a b W9):=⟨g0,Y0,V0,A0,c0,g1,Y1,V1,A1,c1,wr.heap.size,(HH0.out.out (Out.of_below (X:=fun _=>False) HBW.out) fun _ q=>q.elim).out HO9.out (fun j e=>by
     have h4:=HGS.out;rcases e with e|e<;>omega),HH.out.out HO9.out (fun j e=>by
     have h3:=HSZ.out;have h4:=HGS.out;have h2:wr.drew.heap.size=wr.heap.size:=rfl;rcases e with e|e<;>omega),fun j hj=>hj.elim (fun q=>(HH0.out.ys j q).2) (fun q=>(HH0.out.vs j q).2.1),HSZ.out,HG9.out,HF9.out,HOB.out⟩
   exact ⟨.inr (.inr ⟨rfl,HR2.out⟩),by decide⟩
  ·obtain ⟨g0,Y0,V0,A0,c0,g1,Y1,V1,A1,c1,B1,hh0,hh1,hbj,hb1,q1,q2,q3⟩:=hr;have HQ1:=Lib.hid q1;have HQ2:=Lib.hid q2;have HQ3:=Lib.hid q3;have HBJ:=Lib.hid hbj;have HB1:Hid (w.heap.size+1≤B1):=hb1;have HH00:=Lib.hid hh0;have HH10:=Lib.hid hh1;have k0:wr.cell? ⟨w.heap.size,0,none⟩=some (.int .u64 (a.promised:Int)):=q2.cell 0;have k1:wr.cell? ⟨w.heap.size,1,none⟩=some (.int .u64 (a.current:Int)):=q2.cell 1;have k2:wr.cell? ⟨w.heap.size,2,none⟩=some (.slice A0 a.lines.length c0):=q2.cell 2;have k3:wr.cell? ⟨w.heap.size,3,none⟩=some (.int .u64 (b.promised:Int)):=q2.cell 3;have k4:wr.cell? ⟨w.heap.size,4,none⟩=some (.int .u64 (b.current:Int)):=q2.cell 4;have k5:wr.cell? ⟨w.heap.size,5,none⟩=some (.slice A1 b.lines.length c1):=q2.cell 5;have CK:=Lib.hid (aP2 a b A0 A1 c0 c1 wr (by have:=HFA.out.many;omega) (by have:=HFB.out.many;omega));unfold kpV at CK;have hne:¬gs=w.heap.size:=by have:=HGS.out;omega
   have hne2:¬w.heap.size=gs:=fun e=>hne e.symm;clear q1 q2 q3 hbj hb1 hh0 hh1;go_wp2_with fail;refine CK.out.mono ?_;rintro e w2 ⟨rfl,hb2⟩;have HG2:=Lib.hid (HQ1.out.below hb2);have HF2:=Lib.hid (HQ2.out.below hb2);have HH0:=Lib.hid (HH00.out.out (Out.of_below (X:=fun _=>False) hb2) fun _ q=>q.elim);have HH1:=Lib.hid (HH10.out.out (Out.of_below (X:=fun _=>False) hb2) fun _ q=>q.elim);have HO2:Hid (Out (·=gs) w w2):=HQ3.out.trans (Out.of_below (X:=(·=gs)) hb2) fun _ h=>.inl h;have hsp:=aVq a b;have HSP:=Lib.hid hsp;obtain ⟨z,hz⟩:∃z,z=cmpK a b:=⟨_,rfl⟩;have HZE:=Lib.hid hz;rw [←hz];have l0:w2.cell? ⟨w.heap.size,0,none⟩=some (.int .u64 (a.promised:Int)):=HF2.out.cell 0;have l1:w2.cell? ⟨w.heap.size,1,none⟩=some (.int .u64 (a.current:Int)):=HF2.out.cell 1;have l2:w2.cell? ⟨w.heap.size,2,none⟩=some (.slice A0 a.lines.length c0):=HF2.out.cell 2;have l3:w2.cell? ⟨w.heap.size,3,none⟩=some (.int .u64 (b.promised:Int)):=HF2.out.cell 3;have l4:w2.cell? ⟨w.heap.size,4,none⟩=some (.int .u64 (b.current:Int)):=HF2.out.cell 4;have l5:w2.cell? ⟨w.heap.size,5,none⟩=some (.slice A1 b.lines.length c1):=HF2.out.cell 5;have g3:w2.cell? ⟨gs,3,none⟩=some (.int .i64 0):=HG2.out.cell 3;have g4:w2.cell? ⟨gs,4,none⟩=some (.int .u64 0):=HG2.out.cell 4;have g5:w2.cell? ⟨gs,5,none⟩=some (.int .u64 0):=HG2.out.cell 5;have g6:w2.cell? ⟨gs,6,none⟩=some (.slice none 0 0):=HG2.out.cell 6;rw [←hz] at hsp;clear hb2 hz k0 k1 k2 k3 k4 k5 CK;by_cases hlt:Later a b
   ·have HLT:Hid (Later a b):=hlt;have z1:z<0:=hsp.1.2 hlt;have z2:(z==0)=false:=beq_eq_false_iff_ne.2 (by omega);clear hsp hlt;have f3:=HG2.out.frozen;go_wp2_with (go_at_call 117;(with_reducible refine (aAo _ _).mono ?_);rintro e _ ⟨rfl,rfl⟩)
    obtain ⟨W9,hW9⟩:∃W9,W9=(((w2.setCell ⟨gs,3,none⟩ (.int .i64 1)).setCell ⟨gs,4,none⟩ (.int .u64 (b.promised:Int))).setCell ⟨gs,5,none⟩ (.int .u64 (b.current:Int))).setCell ⟨gs,6,none⟩ (.slice A1 b.lines.length c1):=⟨_,rfl⟩;have hb9:Bk W9 gs 126 (svC gd g1 g0 true b A1 c1 false):=by
     rw [hW9];simpa [svC] using (((HG2.out.set 3 (.int .i64 1)).set 4 (.int .u64 (b.promised:Int))).set 5 (.int .u64 (b.current:Int))).set 6 (.slice A1 b.lines.length c1)
    have ho9:Out (·=gs) w2 W9:=by
     rw [hW9];exact (Out.setCell (X:=(·=gs)) w2 (p:=⟨gs,3,none⟩) rfl _).trans (out3' 4 5 6 gs _ _ _ _) fun _ h=>.inl h
    have how:Out (·=gs) w W9:=HO2.out.trans ho9 fun _ h=>.inl h;have hsv:=bAf (gs:=gs) (HD.out.out how fun j hj e=>hx (e ▸ hj)) (fun j hj=>⟨HD.out.lt j hj,fun e=>hx (e ▸ hj)⟩) HGS.out hp hp4 (HH0.out.out ho9 fun j e=>by have:=HGS.out;omega) (HH1.out.out ho9 fun j e=>by have:=HGS.out;have:=HB1.out;omega) HBJ.out HB1.out;have HFIN:Hid (ReadSt X gs gd d p a b w (.returned (.tuple #[])) W9):=⟨rfl,how,Y1,Y0,V1,g1,g0,⟨fun _=>hsv.1 hb9,fun h=>absurd HLT.out h⟩,fun j hj=>by
     have h1:=HB1.out;rcases hj with q|q|q
     ·have:=(HH1.out.ys j q).1;omega
     ·have:=(HH0.out.ys j q).1;omega
     ·have:=(HH1.out.vs j q).1;omega⟩
    rw [←hW9];clear hb9 ho9 how hsv hW9
    go_end0
    exact HFIN.out
   ·have HLT:Hid (¬Later a b):=hlt;have z1:(z<0)=False:=eq_false fun h=>hlt (hsp.1.1 h);by_cases hz0:z=0
    ·subst hz0;have hab:=(hsp.2.1 rfl);have ha0:a=Kp.zero:=by
      rcases hor with h|h|h
      ·exact absurd h hab.2
      ·exact absurd h hab.1
      ·exact h.1
     have hap:a.promised=0:=by rw [ha0];rfl
     have hap2:((0:Int)<(a.promised:Int))=False:=eq_false (by omega);have hap3:(0<a.promised)=False:=eq_false (by omega);clear hsp hlt hab ha0 hap z1;have f3:=HG2.out.frozen;go_wp2_with (go_at_call 117;(with_reducible refine (aAo _ _).mono ?_);rintro e _ ⟨rfl,rfl⟩)
     obtain ⟨W9,hW9⟩:∃W9,W9=((w2.setCell ⟨gs,4,none⟩ (.int .u64 (a.promised:Int))).setCell ⟨gs,5,none⟩ (.int .u64 (a.current:Int))).setCell ⟨gs,6,none⟩ (.slice A0 a.lines.length c0):=⟨_,rfl⟩;have hb9:Bk W9 gs 126 (svC gd g0 g1 false a A0 c0 false):=by
      rw [hW9];simpa [svC] using (((HG2.out).set 4 (.int .u64 (a.promised:Int))).set 5 (.int .u64 (a.current:Int))).set 6 (.slice A0 a.lines.length c0)
     have ho9:Out (·=gs) w2 W9:=by
      rw [hW9];exact out3' 4 5 6 gs _ _ _ _
     have how:Out (·=gs) w W9:=HO2.out.trans ho9 fun _ h=>.inl h;have hsv:=bAf (gs:=gs) (HD.out.out how fun j hj e=>hx (e ▸ hj)) (fun j hj=>⟨HD.out.lt j hj,fun e=>hx (e ▸ hj)⟩) HGS.out hp hp4 (HH0.out.out ho9 fun j e=>by have:=HGS.out;omega) (HH1.out.out ho9 fun j e=>by have:=HGS.out;have:=HB1.out;omega) HBJ.out HB1.out;have HFIN:Hid (ReadSt X gs gd d p a b w (.returned (.tuple #[])) W9):=⟨rfl,how,Y0,Y1,V0,g0,g1,⟨fun h=>absurd h HLT.out,fun _=>hsv.2 hb9⟩,fun j hj=>by
      have h1:=HB1.out;rcases hj with q|q|q
      ·have:=(HH0.out.ys j q).1;omega
      ·have:=(HH1.out.ys j q).1;omega
      ·have:=(HH0.out.vs j q).1;omega⟩
     rw [←hW9];clear hb9 ho9 how hsv hW9
     go_end0
     exact HFIN.out
    ·have z2:(z==0)=false:=beq_eq_false_iff_ne.2 hz0;clear hsp hlt hz0;have f3:=HG2.out.frozen;go_wp2_with (go_at_call 117;(with_reducible refine (aAo _ _).mono ?_);rintro e _ ⟨rfl,rfl⟩)
     obtain ⟨W9,hW9⟩:∃W9,W9=((w2.setCell ⟨gs,4,none⟩ (.int .u64 (a.promised:Int))).setCell ⟨gs,5,none⟩ (.int .u64 (a.current:Int))).setCell ⟨gs,6,none⟩ (.slice A0 a.lines.length c0):=⟨_,rfl⟩;have hb9:Bk W9 gs 126 (svC gd g0 g1 false a A0 c0 false):=by
      rw [hW9];simpa [svC] using (((HG2.out).set 4 (.int .u64 (a.promised:Int))).set 5 (.int .u64 (a.current:Int))).set 6 (.slice A0 a.lines.length c0)
     have ho9:Out (·=gs) w2 W9:=by
      rw [hW9];exact out3' 4 5 6 gs _ _ _ _
     have how:Out (·=gs) w W9:=HO2.out.trans ho9 fun _ h=>.inl h;have hsv:=bAf (gs:=gs) (HD.out.out how fun j hj e=>hx (e ▸ hj)) (fun j hj=>⟨HD.out.lt j hj,fun e=>hx (e ▸ hj)⟩) HGS.out hp hp4 (HH0.out.out ho9 fun j e=>by have:=HGS.out;omega) (HH1.out.out ho9 fun j e=>by have:=HGS.out;have:=HB1.out;omega) HBJ.out HB1.out;have HFIN:Hid (ReadSt X gs gd d p a b w (.returned (.tuple #[])) W9):=⟨rfl,how,Y0,Y1,V0,g0,g1,⟨fun h=>absurd h HLT.out,fun _=>hsv.2 hb9⟩,fun j hj=>by
      have h1:=HB1.out;rcases hj with q|q|q
      ·have:=(HH0.out.ys j q).1;omega
      ·have:=(HH1.out.ys j q).1;omega
      ·have:=(HH0.out.vs j q).1;omega⟩
     rw [←hW9];clear hb9 ho9 how hsv hW9
     go_end0
     exact HFIN.out
end Go.Proofs.YtgjmbbkcgillcaaGreat.Sto
namespace Go.Proofs.YtgjmbbkcgillcaaGreat.Sto
open Go.RowKit Disk Log
def OpenSt (X:Nat→Prop) (gd:Nat) (d:DK) (p:Nat) (a b:Kp) (w:World) (e:Ending) (w':World):Prop:=
 ∃gs,e=.returned (.tuple #[.pointer (some ⟨gs,0,none⟩),.int .i64 0])∧Below w.heap.size w w'∧w.heap.size≤gs∧∃Ya Yb V ga gb,((Later a b→SvM w' X Ya Yb V gs gd ga gb d p (newL d p p) (newL d 0 p) true b false)∧(¬Later a b→SvM w' X Ya Yb V gs gd ga gb d p (newL d 0 p) (newL d p p) false a false))∧∀j,(Ya j∨Yb j∨V j)→w.heap.size≤j
theorem aSi:∀args w,(callFunc 68 args).run Tryz.prog w=.ok (.enter 68 args) w:=by intro args w;kernel_rfl
set_option maxRecDepth 100000 in
theorem aU8 {w:World} {X:Nat→Prop} {gd:Nat} {d:DK} {p N:Nat} {a b:Kp} (hd:DkAt w X gd d) (hn:d.dead=false) (hp:d.pages.length / 2=p) (hp4:4≤p) (h0:Area d 0 p N a) (h1:Area d p p N b) (hrow:d.row=[]) (hN:N<65536) (hor:Later b a∨Later a b∨(a=Kp.zero∧b=Kp.zero)):
  Calls Tryz.prog 25 #[.pointer (some ⟨gd,0,none⟩)] w (OpenSt X gd d p a b w):=by
 have CD:=Lib.hid (aCo hd);have CS:=Lib.hid (aR6 hd);rw [hn] at CD;have hb1:Below w.heap.size w (w.alloc (.cells #[.pointer (some ⟨gd,0,none⟩),.pointer none,.pointer none,.int .i64 0,.int .u64 0,.int .u64 0,.slice none 0 0,.bool false] 126)):=(Below.refl _ _).alloc (Nat.le_refl _) _;obtain ⟨W,hW⟩:∃W,W=w.alloc (.cells #[.pointer (some ⟨gd,0,none⟩),.pointer none,.pointer none,.int .i64 0,.int .u64 0,.int .u64 0,.slice none 0 0,.bool false] 126):=⟨_,rfl⟩;have hbk:Bk W w.heap.size 126 #[.pointer (some ⟨gd,0,none⟩),.pointer none,.pointer none,.int .i64 0,.int .u64 0,.int .u64 0,.slice none 0 0,.bool false]:=by rw [hW];exact Bk.new w _ _
 rw [←hW] at hb1;have hb2:Below W.heap.size W (W.alloc (.cells #[.int .i64 0] 27)):=(Below.refl _ _).alloc (Nat.le_refl _) _;have hxl:=hd.lt;have hrd:=aZc (p:=p) (N:=N) (a:=a) (b:=b) ((hd.below hb1).below hb2) hp hp4 (fun q=>by have:=hxl _ q;omega) (hbk.below hb2) h0 h1 hrow hN hor;have hsz:(W.alloc (.cells #[.int .i64 0] 27)).heap.size=W.heap.size+1:=World.size_alloc _ _;have hwl:=hbk.lt;have hdo:Calls Tryz.prog 68 (#[.pointer (some ⟨w.heap.size,0,none⟩)]++#[]) (W.alloc (.cells #[.int .i64 0] 27)) (DoPost (fun x w'=>x=0∧ReadSt X w.heap.size gd d p a b (W.alloc (.cells #[.int .i64 0] 27)) (.returned (.tuple #[])) w') W):=
  hrd.mono fun e w' ⟨q1,q2,q3⟩=>⟨aAd (Bk.new W _ _) q2 (fun e=>by have e:W.heap.size=w.heap.size:=e;omega),.inl ⟨q1,rfl,rfl,q2,q3⟩⟩
 have CC:=Lib.hid (aL1 68 _ _ _ W aSi hdo);have HWE:=Lib.hid hW;have HB1:=Lib.hid hb1;have HB2:=Lib.hid hb2;have HXL:=Lib.hid hxl;have HSZ:Hid (w.heap.size<W.heap.size):=hwl;have HSZ2:=Lib.hid hsz;have hmf:∀(fn:Fn) (first cap:Array Value) (w:World),(Instr.makeFunc fn first cap).run Tryz.prog w=.ok (.func fn first cap) w:=fun _ _ _ _=>rfl;generalize hln:d.pages.length=n at*;have h8i:((n:Int)<8)=False:=eq_false (by omega);clear hd hn h0 h1 hor hb1 hb2 hbk hrd hdo hW hxl hwl hsz hrow;go_enter Tryz.func25,Tryz.ntmps25
 go_wp2_with (first
  |(go_at_call 39;(with_reducible refine CD.out.mono ?_);rintro e _ ⟨rfl,rfl⟩)
  |(go_at_call 66;(with_reducible refine CS.out.mono ?_);rintro e _ ⟨rfl,rfl⟩))
 rw [←HWE.out];go_wp2_with fail;refine CC.out.mono ?_;rintro e w9 ⟨x,w8,rfl,⟨rfl,-,ho8,Ya,Yb,V,ga,gb,hsv,hge⟩,ho9⟩;have hz:∀j,(X j∨Ya j∨Yb j∨V j∨j=w.heap.size)→¬j=W.heap.size:=fun j hj e=>by
  have h1:=HSZ.out;have h2:=HSZ2.out;rcases hj with q|q|q|q|q
  ·have:=HXL.out j q;omega
  ·have:=hge j (.inl q);omega
  ·have:=hge j (.inr (.inl q));omega
  ·have:=hge j (.inr (.inr q));omega
  ·omega
 have hb9:Below w.heap.size w w9:=ho9.below (ho8.below (HB1.out.trans (HB2.out.mono HB1.out.size)) (fun j hj=>by rw [hj];exact Nat.le_refl _) (Nat.le_trans HB1.out.size HB2.out.size)) (fun j hj=>by rw [hj];exact HB1.out.size) (by have:=ho8.size;have:=HSZ2.out;have:=HSZ.out;omega);have HFIN:Hid (OpenSt X gd d p a b w (.returned (.tuple #[.pointer (some ⟨w.heap.size,0,none⟩),.int .i64 0])) w9):=
  ⟨w.heap.size,rfl,hb9,Nat.le_refl _,Ya,Yb,V,ga,gb,⟨fun h=>(hsv.1 h).out ho9 hz,fun h=>(hsv.2 h).out ho9 hz⟩,fun j hj=>by
   have h1:=HSZ.out;have h2:=HSZ2.out;have:=hge j hj;omega⟩
 clear hz hb9 ho9 ho8 hsv hge;go_wp2_with fail
 go_ret2
 exact HFIN.out
end Go.Proofs.YtgjmbbkcgillcaaGreat.Sto
namespace Go.Proofs.YtgjmbbkcgillcaaGreat.Sto
open Go.RowKit Disk Log
def fOf (lv:Bool) (p:Nat):Nat:=bif lv then p else 0
def bare (w:World):World:={w with heap:=#[]}
theorem aTo (w:World):Below (bare w).heap.size (bare w) w:=⟨rfl,rfl,rfl,Nat.zero_le _,fun k hk=>by have hk:k<0:=hk;omega⟩
theorem bAw {w:World} {X Y:Nat→Prop} {g gd f n:Nat} {d:DK} {L:LK} (hd:DkAt w X gd d) (hl:LgAt w Y g gd (f:Int) n L) (hxy:∀b,X b→¬Y b):Lw (bare w) w (fun b=>X b∨Y b) g gd f n d L:=
 ⟨⟨X,Y,hd,hl,hxy,fun _ h=>.inl h,fun _ h=>.inr h⟩,aTo w,fun _ _=>Nat.zero_le _,fun b hb=>hb.elim (hd.lt b) (hl.lt b)⟩
theorem SvM.turn {w w0 w':World} {X Ya Yb V:Nat→Prop} {gs gd ga gb:Nat} {d d':DK} {p:Nat} {La La' Lb:LK} {lv:Bool} {k:Kp} {met:Bool} {v:Value} {e:Ending} (h:SvM w X Ya Yb V gs gd ga gb d p La Lb lv k met) (hq:LwTo v w0 (fun b=>X b∨Ya b) ga gd (fOf lv p) p d' La' w e w') (hp:d'.pages.length=d.pages.length):
  e=.returned v∧∃X' Ya',SvM w' X' Ya' Yb V gs gd ga gb d' p La' Lb lv k met∧Out (fun b=>X b∨Ya b) w w'∧∀b,X' b∨Ya' b→(X b∨Ya b)∨w.heap.size≤b:=by
 obtain ⟨rfl,Z',hlw,ho,hz⟩:=hq;obtain ⟨X',Ya',h1,h2,h3,h4,h5⟩:=hlw.at_;have hlt:=h.lt;have hn:∀b,Z' b→¬Yb b∧b≠gs∧¬V b:=fun b hb=>by
  rcases hz b hb with (q|q)|q
  ·exact ⟨(h.xs b q).2.1,(h.xs b q).2.2.1,(h.xs b q).2.2.2⟩
  ·exact ⟨(h.ys b q).1,(h.ys b q).2.1,(h.ys b q).2.2⟩
  ·exact ⟨fun r=>by have:=hlt b (.inr (.inr (.inl r)));omega,fun r=>by have:=hlt b (.inr (.inr (.inr (.inr r))));omega,fun r=>by have:=hlt b (.inr (.inr (.inr (.inl r))));omega⟩
 obtain ⟨A,c,b1,b2,b3⟩:=h.bk;refine ⟨rfl,X',Ya',⟨⟨A,c,aAd b1 ho (fun q=>q.elim (fun r=>(h.xs gs r).2.2.1 rfl) fun r=>(h.ys gs r).2.1 rfl),b2.out ho (fun b hb q=>q.elim (fun r=>(h.xs b r).2.2.2 hb) fun r=>(h.ys b r).2.2 hb),b3⟩,h1,h2,h.lb.out ho (fun b hb q=>q.elim (fun r=>(h.xs b r).2.1 hb) fun r=>(h.ys b r).1 hb),⟨by rw [hp];exact h.half.1,h.half.2⟩,fun b hb=>⟨h3 b hb,hn b (h4 b hb)⟩,fun b hb=>hn b (h5 b hb),h.zs,fun b hb=>⟨(h.vs b hb).1,Nat.lt_of_lt_of_le (h.vs b hb).2 ho.size⟩⟩,ho,fun b hb=>hz b (hb.elim (h4 b) (h5 b))⟩
theorem SvM.turnb {w w0 w':World} {X Ya Yb V:Nat→Prop} {gs gd ga gb:Nat} {d d':DK} {p:Nat} {La Lb' Lb:LK} {lv:Bool} {k:Kp} {met:Bool} {v:Value} {e:Ending} (h:SvM w X Ya Yb V gs gd ga gb d p La Lb lv k met) (hq:LwTo v w0 (fun b=>X b∨Yb b) gb gd (fOf (!lv) p) p d' Lb' w e w') (hp:d'.pages.length=d.pages.length):
  e=.returned v∧∃X' Yb',SvM w' X' Ya Yb' V gs gd ga gb d' p La Lb' lv k met∧Out (fun b=>X b∨Yb b) w w'∧∀b,X' b∨Yb' b→(X b∨Yb b)∨w.heap.size≤b:=by
 obtain ⟨rfl,Z',hlw,ho,hz⟩:=hq;obtain ⟨X',Yb',h1,h2,h3,h4,h5⟩:=hlw.at_;have hlt:=h.lt;have hn:∀b,Z' b→¬Ya b∧b≠gs∧¬V b:=fun b hb=>by
  rcases hz b hb with (q|q)|q
  ·exact ⟨(h.xs b q).1,(h.xs b q).2.2.1,(h.xs b q).2.2.2⟩
  ·exact ⟨fun r=>(h.ys b r).1 q,(h.zs b q).1,(h.zs b q).2⟩
  ·exact ⟨fun r=>by have:=hlt b (.inr (.inl r));omega,fun r=>by have:=hlt b (.inr (.inr (.inr (.inr r))));omega,fun r=>by have:=hlt b (.inr (.inr (.inr (.inl r))));omega⟩
 obtain ⟨A,c,b1,b2,b3⟩:=h.bk;have hf:((bif lv then 0 else p:Nat):Int)=((fOf (!lv) p:Nat):Int):=by cases lv<;>rfl
 refine ⟨rfl,X',Yb',⟨⟨A,c,aAd b1 ho (fun q=>q.elim (fun r=>(h.xs gs r).2.2.1 rfl) fun r=>(h.zs gs r).1 rfl),b2.out ho (fun b hb q=>q.elim (fun r=>(h.xs b r).2.2.2 hb) fun r=>(h.zs b r).2 hb),b3⟩,h1,h.la.out ho (fun b hb q=>q.elim (fun r=>(h.xs b r).1 hb) fun r=>(h.ys b hb).1 r),by rw [hf];exact h2,⟨by rw [hp];exact h.half.1,h.half.2⟩,fun b hb=>⟨(hn b (h4 b hb)).1,h3 b hb,(hn b (h4 b hb)).2⟩,fun b hb=>⟨fun q=>(hn b (h5 b q)).1 hb,(h.ys b hb).2.1,(h.ys b hb).2.2⟩,fun b hb=>(hn b (h5 b hb)).2,fun b hb=>⟨(h.vs b hb).1,Nat.lt_of_lt_of_le (h.vs b hb).2 ho.size⟩⟩,ho,fun b hb=>hz b (hb.elim (h4 b) (h5 b))⟩
theorem aU6 {d:DK} {f n:Nat} {L:LK} {b:List UInt8} {z:Int} {d':DK} {L':LK} (h:ComK d f n L b z d' L') (hK:KL d f n L) (hN:L.top+2<65536) (hn:n<65536):d'.pages.length=d.pages.length:=by
 rw [h.disk];by_cases h0:(commitF d f n L.top b).1.1=0
 ·exact (aJq hK.up (by omega) hn h0).2.2.2.1
 ·by_cases h4:(commitF d f n L.top b).1.1=4
  ·have:=(h.full (by rw [h.ans];exact h4)).1;rw [←h.disk,this]
  ·exact (aFg hK.up hK.row hN hn h0 h4).2.2.2.1
theorem bB6 {d:DK} {f n:Nat} {L:LK} {z:Int} {d':DK} {L':LK} (h:ResK d f n L z d' L') (hK:KL d f n L) (hN:L.top+2<65536):d'.pages.length=d.pages.length:=by
 rw [h.disk];by_cases h0:(resetF d f L.top).1=0
 ·exact (aDr hK.up (by omega) h0).2.2.2.1
 ·exact (aF2 hK.up hK.row (by omega) h0).2.2.2.1
theorem SvM.commit {w:World} {X Ya Yb V:Nat→Prop} {gs gd ga gb:Nat} {d:DK} {p:Nat} {La Lb:LK} {lv:Bool} {k:Kp} {met:Bool} (h:SvM w X Ya Yb V gs gd ga gb d p La Lb lv k met) (hK:KL d (fOf lv p) p La) (hN:La.top+2<65536) (A:Option Addr) (m c:Nat) (b:List UInt8) (hr:Rd w A m b) (hA:∀a,A=some a→¬(X a.block∨Ya a.block)) (hmc:m≤c) (hm:m≤3000000):
  Calls Tryz.prog 161 #[.pointer (some ⟨ga,0,none⟩),.slice A m c] w fun e w'=>∃z d' La',ComK d (fOf lv p) p La b z d' La'∧e=.returned (.int .i64 z)∧∃X' Ya',SvM w' X' Ya' Yb V gs gd ga gb d' p La' Lb lv k met∧Out (fun b=>X b∨Ya b) w w'∧∀b,X' b∨Ya' b→(X b∨Ya b)∨w.heap.size≤b:=
 (aNb (bAw h.disk (show LgAt w Ya ga gd ((fOf lv p:Nat):Int) p La from h.la) (fun b hb=>(h.xs b hb).1)) hK (by omega) A m c b hr hA hmc hm).mono fun e w' ⟨z,d',La',h1,h2⟩=>⟨z,d',La',h2,h.turn h1 (aU6 h2 hK hN (by have:=hK.many;omega))⟩
theorem SvM.commitb {w:World} {X Ya Yb V:Nat→Prop} {gs gd ga gb:Nat} {d:DK} {p:Nat} {La Lb:LK} {lv:Bool} {k:Kp} {met:Bool} (h:SvM w X Ya Yb V gs gd ga gb d p La Lb lv k met) (hK:KL d (fOf (!lv) p) p Lb) (hN:Lb.top+2<65536) (A:Option Addr) (m c:Nat) (b:List UInt8) (hr:Rd w A m b) (hA:∀a,A=some a→¬(X a.block∨Yb a.block)) (hmc:m≤c) (hm:m≤3000000):
  Calls Tryz.prog 161 #[.pointer (some ⟨gb,0,none⟩),.slice A m c] w fun e w'=>∃z d' Lb',ComK d (fOf (!lv) p) p Lb b z d' Lb'∧e=.returned (.int .i64 z)∧∃X' Yb',SvM w' X' Ya Yb' V gs gd ga gb d' p La Lb' lv k met∧Out (fun b=>X b∨Yb b) w w'∧∀b,X' b∨Yb' b→(X b∨Yb b)∨w.heap.size≤b:=
 (aNb (bAw h.disk (show LgAt w Yb gb gd ((fOf (!lv) p:Nat):Int) p Lb by have:=h.lb;cases lv<;>exact this) (fun b hb=>(h.xs b hb).2.1)) hK (by omega) A m c b hr hA hmc hm).mono fun e w' ⟨z,d',La',h1,h2⟩=>⟨z,d',La',h2,h.turnb h1 (aU6 h2 hK hN (by have:=hK.many;omega))⟩
theorem SvM.resetb {w:World} {X Ya Yb V:Nat→Prop} {gs gd ga gb:Nat} {d:DK} {p:Nat} {La Lb:LK} {lv:Bool} {k:Kp} {met:Bool} (h:SvM w X Ya Yb V gs gd ga gb d p La Lb lv k met) (hK:KL d (fOf (!lv) p) p Lb) (hN:Lb.top+2<65536):
  Calls Tryz.prog 188 #[.pointer (some ⟨gb,0,none⟩)] w fun e w'=>∃z d' Lb',ResK d (fOf (!lv) p) p Lb z d' Lb'∧e=.returned (.int .i64 z)∧∃X' Yb',SvM w' X' Ya Yb' V gs gd ga gb d' p La Lb' lv k met∧Out (fun b=>X b∨Yb b) w w'∧∀b,X' b∨Yb' b→(X b∨Yb b)∨w.heap.size≤b:=
 (aYr (bAw h.disk (show LgAt w Yb gb gd ((fOf (!lv) p:Nat):Int) p Lb by have:=h.lb;cases lv<;>exact this) (fun b hb=>(h.xs b hb).2.1)) hK (by omega)).mono fun e w' ⟨z,d',La',h1,h2⟩=>⟨z,d',La',h2,h.turnb h1 (bB6 h2 hK hN)⟩
end Go.Proofs.YtgjmbbkcgillcaaGreat.Sto
