/- ZabNil: the calls of no node, of a node whose store's disk lost its power, New of neither: for every number and all bytes the call returns true, and nothing of before is written. -/
import Derived.Test.YtgjmbbkcgillcaaGreatPart38
set_option maxHeartbeats 16000000
namespace Go.Proofs.YtgjmbbkcgillcaaGreat.zabNil
open Go.ChangeShapes Go.WideShapes Go.ChangeAt Go.RowKit Disk Log Sto Zm Bal Zab
set_option maxRecDepth 100000 in
theorem walk (i:Int) (A:Option Addr) (m c:Nat) (bs:List UInt8) (w:World) (_hr:Rd w A m bs):Calls Tryz.prog 7 #[.int .i64 i,.slice A m c] w fun e w'=>e=.returned (.bool true)∧Below w.heap.size w w':=by
 by_cases h3:1000<m
 ·have h3':(1000:Int)<(m:Int):=by omega
  go_enter Tryz.func7,Tryz.ntmps7
  go_wp2_with fail;go_ret;exact ⟨rfl,Below.refl _ _⟩
 have h3':¬(1000:Int)<(m:Int):=by omega
 clear h3;go_enter Tryz.func7,Tryz.ntmps7
 go_wp2_with fail;refine (bAm _ _ _).mono ?_;rintro r w' ⟨rfl,rfl⟩;go_wp2_with fail;refine (aZ9 _).mono ?_;rintro r w' ⟨rfl,rfl⟩;go_wp2_with fail;refine (aXf _ _ _).mono ?_;rintro r w' ⟨rfl,rfl⟩;go_wp2_with fail;refine (aPr _ _).mono ?_;rintro r w' ⟨rfl,rfl⟩;go_wp2_with fail;refine (aM4 _).mono ?_;rintro r w' ⟨rfl,rfl⟩;go_wp2_with fail;refine (aUr _).mono ?_;rintro r w' ⟨rfl,rfl⟩;go_wp2_with fail;refine (aVp _).mono ?_;rintro r w' ⟨rfl,rfl⟩;go_wp2_with fail;refine (Zab.aZ8 _).mono ?_;rintro r w' ⟨rfl,rfl⟩;go_wp2_with fail;have CO:Hid (Calls Tryz.prog 11 #[.int .i64 0,.int .i64 1] w (OpensP w 0 1 w)):=aG7 (Below.refl _ _) 0 1 (by omega) (by omega);refine CO.out.mono ?_;rintro r0 w0 ⟨gd,gs,gz,Z0,rfl,hn0,-,-⟩;obtain ⟨rv,hbk,-⟩:=hn0.bk;have CK:=Lib.hid hn0.ss.kill;have HG:=Lib.hid hn0.gzn.1;have HBK:=Lib.hid hbk;clear hn0 hbk CO;go_wp2_with fail;refine CK.out.mono ?_;rintro r1 w1 ⟨rfl,Z1,hq,hg⟩;have hbk1:=HBK.out.out hg.1 HG.out;have CN:=Lib.hid (bD8 hq 0 1);have CD:=Lib.hid (aWy hq hbk1);have CH:=Lib.hid (bBz hq hbk1 i (.slice A m c));have HB1:=Lib.hid hq.below;clear hq hg hbk1 CK HG HBK;go_wp2_with fail;refine CN.out.mono ?_;rintro r2 w2 ⟨rfl,rfl⟩;go_wp2_with fail;refine CD.out.mono ?_;rintro r3 w3 ⟨rfl,rfl⟩;go_wp2_with fail;refine CH.out.mono ?_;rintro r4 w4 ⟨rfl,rfl⟩;go_wp2_with fail;refine (aOc _).mono ?_;rintro r5 w5 ⟨rfl,hb5⟩;have HB5:=Lib.hid (HB1.out.trans (hb5.mono HB1.out.size));clear hb5 HB1 CN CD CH;go_wp2_with fail;go_ret;exact ⟨rfl,HB5.out⟩
set_option maxRecDepth 100000 in
theorem lifted (os:Os) (started:os.Started) (H:Type) (enc:TypeId×Value→H):
  ReturnsInHanded {} Tryz.checked os 7 .any (Rows.zabNilSpec.pre6 enc Tryz.prog Tryz.f7 Rows.zabNilRow.domain false) (Rows.zabNilSpec.post enc Tryz.prog Tryz.f7 false true false false):=by
 refine returnsInHanded_of_change (C:=Tryz.checked) own started (by kernel_rfl) Tryz.func7
  (ChangeSpec.witness6 (enc:=enc) (C:=Tryz.checked) false ⟨#[],#[.int .i64 0,.slice none 0 0],[]⟩ 8 (by kernel_rfl) (by kernel_rfl) (by kernel_rfl) (by kernel_rfl)) ?_
 intro W base args ds gs before hval0 hW hcnd _;have hval:∀(j:Nat) t v,Tryz.f7.params[j]? =some t→args[j]? =some v→Value.okWide Tryz.prog W .any base t v:=hval0;have hW':=hW;obtain ⟨p,q,hA0,hV,rfl,hfz,hnd⟩:=hW;have hA:DataW.TrodAll enc Tryz.prog W 0 (fun _=>true) true Tryz.f7.params.toList args.toList ds p:=hA0;rw [Tryz.params7] at hA hval;obtain ⟨v0,v1,d0,d1,p0,p1,rfl,rfl,rfl,h0,h1⟩:=trodAll_two hA;obtain ⟨rfl,rfl⟩:=trodVars_none hV;obtain ⟨z,rfl,_,_,hw⟩:=open_int (show Tryz.prog.underlying 3=some (.int .i64) by kernel_rfl) (hval 0 _ v0 rfl rfl) h0;simp [Lit.wf,IntKind.min,IntKind.max,IntKind.signed,IntKind.bits] at hw;obtain ⟨A,m,c,bs,rfl,_,_,hr⟩:=aT3 aAt aJ7 aS2 (hval 1 _ v1 rfl rfl) h1;refine (walk z A m c bs W hr).mono fun e W' ⟨he,hb⟩=>?_;subst he;exact ⟨_,rfl,aOd aU9 (by kernel_rfl) aU7 (by kernel_rfl) rfl hW' hb rfl⟩
theorem over:Rows.zabNilRow.holds Tryz.pinned (OpenSpec.ofChange Rows.zabNilSpec):=
 OpenClaim.holds_of_wide 7 Tryz.f7 rfl rfl rfl rfl rfl rfl rfl ⟨rfl,rfl,rfl,rfl,rfl⟩ rfl rfl rfl rfl rfl (by kernel_rfl) Tryz.func7 (by kernel_rfl)
  (of_decide_eq_true (by kernel_rfl)) (by unfold Func.isWrapper;first|(rw [if_pos (by decide+kernel)];kernel_rfl)|(rw [if_neg (by decide+kernel)];exact ⟨rfl,rfl⟩))
  (fun os started H enc _=>lifted os started H enc)
theorem proved:Rows.ZabNilSaid:=
 over
end Go.Proofs.YtgjmbbkcgillcaaGreat.zabNil
