/- Lemmas, part 38: ZabDead -/
import Derived.Test.YtgjmbbkcgillcaaGreatPart37
import Derived.Test.YtgjmbbkcgillcaaGreatPart33
set_option maxHeartbeats 16000000
namespace Go.Proofs.YtgjmbbkcgillcaaGreat.Zab
open Go.RowKit Disk Log Sto Zm Bal
section
variable {w0 w w':World} {Z:Nat→Prop} {gz gs gd:Nat} {k:Kp}
theorem aWy {rv:Value} {id n seen waited com:Nat} (h:Sq w0 w Z gs gd k) (hb:Bk w gz 94 (ndC id n gs rv seen waited com)):Calls Tryz.prog 23 #[.pointer (some ⟨gz,0,none⟩)] w fun e w'=>e=.returned (.bool true)∧w=w':=by
 have q2:w.cell? ⟨gz,2,none⟩=some (.pointer (some ⟨gs,0,none⟩)):=hb.cell 2;have CK:=Lib.hid h.dead;clear h hb;go_enter Tryz.func23,Tryz.ntmps23
 go_wp2_with fail;refine CK.out.mono ?_;rintro e w1 ⟨rfl,rfl⟩;go_wp2_with fail;go_ret;exact ⟨rfl,rfl⟩
theorem bBz {rv:Value} {id n seen waited com:Nat} (h:Sq w0 w Z gs gd k) (hb:Bk w gz 94 (ndC id n gs rv seen waited com)) (i:Int) (b:Value):Calls Tryz.prog 18 #[.pointer (some ⟨gz,0,none⟩),.int .i64 i,b] w fun e w'=>e=.returned (.slice none 0 0)∧w=w':=by
 have CK:=Lib.hid (aWy h hb);clear h hb;go_enter Tryz.func18,Tryz.ntmps18
 go_wp2_with fail;refine CK.out.mono ?_;rintro e w1 ⟨rfl,rfl⟩;go_wp2_with fail;go_ret;exact ⟨rfl,rfl⟩
theorem bD8 (h:Sq w0 w Z gs gd k) (id n:Int):Calls Tryz.prog 26 #[.int .i64 id,.int .i64 n,.pointer (some ⟨gs,0,none⟩)] w fun e w'=>e=.returned (.tuple #[.pointer none,.int .i64 9])∧w=w':=by
 have CK:=Lib.hid h.dead;clear h;go_enter Tryz.func26,Tryz.ntmps26
 go_wp2_with fail;refine CK.out.mono ?_;rintro e w1 ⟨rfl,rfl⟩;go_wp2_with fail
 go_ret2
 exact ⟨rfl,rfl⟩
end
end Go.Proofs.YtgjmbbkcgillcaaGreat.Zab
