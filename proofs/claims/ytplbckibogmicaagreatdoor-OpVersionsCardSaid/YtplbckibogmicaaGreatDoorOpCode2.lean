/- The next calls of op's work: touch, newNode, node, nodeOfVersion. -/
import Derived.Test.YtplbckibogmicaaGreatDoorOpPut
import Derived.Deep.RegionHeld3
namespace Go.Proofs.YtplbckibogmicaaGreatDoor.Opn
open Go.RowKit Path Tree

theorem PutPost.start {p : List UInt8} {n : ZN} {g : Nat} {tp : Addr} {at_ : Int} {o : O1} {od ops : Value} {who : Who} {fx : Value} {r : R1} {rd rk rp : Value} {Q : Nat → Prop} {xs : List Ef} {w w1 w' : World} {d' : Value}
    (h : PutPost p n g tp at_ o od ops who fx r rd rk rp (fun j => Q j ∧ j < w.heap.size) xs w1 d' w') (hb : Below w.heap.size w w1) : PutPost p n g tp at_ o od ops who fx r rd rk rp Q xs w d' w' := by
  obtain ⟨⟨G, c, h1, h2, h3⟩, h4, h5⟩ := h
  have hs := hb.size
  refine ⟨⟨G, c, h1, h2.mono fun j hj => ?_, or_map h3 id (fun h => by omega)⟩, h4.mono hs, (Out.of_below hb).trans h5 (fun j hj => .inl hj)⟩
  rcases hj with hj | hj
  · exact .inl hj.1
  · exact .inr (by omega)
theorem up_wrap (n : Int) : IntKind.u32.wrap (n + 1) = up32 n := by simp [IntKind.wrap, IntKind.signed, IntKind.bits, up32]
set_option maxRecDepth 100000 in
set_option maxHeartbeats 1000000 in
theorem touch_any {P : Nat → Prop} (p : List UInt8) (n : ZN) (A : Option Addr) (k c : Nat) (g : Nat) (tp : Addr) (at_ : Int) (o : O1) (od ops : Value) (who : Who) (fx : Value) (r : R1) (rd rk rp : Value) (Q : Nat → Prop) (xs : List Ef) (w : World)
    (h : Bk w g 104 (wkC tp at_ o od ops who fx r rd rk rp).toArray) (hE : OwnE Q w fx xs) (hQ : ∀ j, Q j → j ≠ g) (hd : DataS P w (.slice A k c) n.data) (hP : ∀ j, P j → j ≠ g ∧ fx.ownBlock ≠ some j) (hlen : n.data.length ≤ 1000000) (hxs : xs.length ≤ 1000) :
    Calls Tryz.prog 112 #[.pointer (some ⟨g, 0, none⟩), .string (S p), znV n (.slice A k c)] w fun e w' => e = .returned (.tuple #[]) ∧ ∃ d', PutPost p (touched n at_) g tp at_ o od ops who fx r rd rk rp Q xs w d' w' := by
  have hlt := h.lt
  have hbA : Below w.heap.size w (w.alloc (.cells (znC (touched n at_) (.slice A k c)).toArray 39)) := (Below.refl _ _).alloc (Nat.le_refl _) _
  have cp := put_any p (touched n at_) A k c g tp at_ o od ops who fx r rd rk rp (fun j => Q j ∧ j < w.heap.size) xs _ (h.below hbA) ((hE.lt).below hbA) (fun j hj => hQ j hj.1) (hd.below hbA) hP (by exact hlen) hxs
  have g1 : w.cell? ⟨g, 1, none⟩ = some (.int .u64 at_) := h.cell 1
  have hw := up_wrap n.kin
  have HBA := Lib.hid hbA
  have HFB := Lib.hid hE.blk
  clear h hbA hE hQ hd hP hlen hxs
  unfold znV at cp ⊢
  dsimp only [znC, touched] at cp HBA ⊢
  go_enter Tryz.func112, Tryz.ntmps112
  go_wp2_with fail
  refine cp.mono ?_
  rintro e w1 ⟨d', rfl, hp⟩
  have HP := Lib.hid hp
  clear hp cp
  go_wp2_with fail
  go_end0
  exact ⟨rfl, d', HP.out.start HBA.out⟩

set_option maxRecDepth 100000 in
theorem newNode_any (A : Option Addr) (k c : Nat) (g : Nat) (tp : Addr) (at_ : Int) (o : O1) (ops : Value) (who : Who) (fx : Value) (r : R1) (rd rk rp : Value) (w : World)
    (h : Bk w g 104 (wkC tp at_ o (.slice A k c) ops who fx r rd rk rp).toArray) :
    Calls Tryz.prog 115 #[.pointer (some ⟨g, 0, none⟩)] w fun e w' => e = .returned (znV (newNode o who at_) (.slice A k c)) ∧ Below w.heap.size w w' := by
  have hlt := h.lt
  have hbA : Below w.heap.size w (w.alloc (.cells (znC ZN.zero (.slice none 0 0)).toArray 39)) := (Below.refl _ _).alloc (Nat.le_refl _) _
  have K1 := h.below hbA
  have K2 : Bk (w.alloc (.cells (znC ZN.zero (.slice none 0 0)).toArray 39)) w.heap.size 39 (znC ZN.zero (.slice none 0 0)).toArray := Bk.new _ _ _
  have HBA := Lib.hid hbA
  clear h hbA
  obtain ⟨RES, hres⟩ : ∃ RES, RES = znV (newNode o who at_) (.slice A k c) := ⟨_, rfl⟩
  rw [← hres]
  have HRES := Lib.hid hres
  dsimp only [znC, ZN.zero] at K1 K2 HBA
  clear hres
  go_enter Tryz.func115, Tryz.ntmps115
  go_wp2_with fail
  obtain ⟨W, hW⟩ : ∃ W, W = w.alloc (.cells #[.slice none 0 0, .int .u32 0, .int .u32 0, .int .u32 0, .int .i64 0, .int .u32 0, .int .u64 0, .int .u64 0, .int .u64 0] 39) := ⟨_, rfl⟩
  have hsz : W.heap.size = w.heap.size + 1 := by rw [hW]; simp
  have HSZ := Lib.hid hsz
  rw [← hW] at K1 K2 HBA ⊢
  have k4 : W.cell? ⟨g, 4, none⟩ = some (.slice A k c) := K1.cell 4
  have k1 : W.cell? ⟨g, 1, none⟩ = some (.int .u64 at_) := K1.cell 1
  have n4 := World.new_ne W ⟨g, 4, none⟩ k4
  have n1 := World.new_ne W ⟨g, 1, none⟩ k1
  have HK1 := Lib.hid K1
  have HK2 := Lib.hid K2
  clear K1 K2 hsz hW
  go_region_held3 (fun V => V.cell? ⟨g, 4, none⟩ = some (.slice A k c) ∧ V.cell? ⟨g, 1, none⟩ = some (.int .u64 at_)) (go_keep) (fail)
  obtain ⟨V, hV⟩ : ∃ V, V = (W.alloc (.cells #[.slice A k c, .int .u32 0, .int .u32 0, .int .u32 0, .int .i64 0, .int .u32 0, .int .u64 at_, .int .u64 at_, .int .u64 at_] 39)).drew := ⟨_, rfl⟩
  rw [← hV]
  have hbV : Below W.heap.size W V := by rw [hV]; exact ((Below.refl _ _).alloc (Nat.le_refl _) _).drew
  have KG := HK1.out.below hbV
  have KR := HK2.out.below hbV
  have KN : Bk V W.heap.size 39 #[.slice A k c, .int .u32 0, .int .u32 0, .int .u32 0, .int .i64 0, .int .u32 0, .int .u64 at_, .int .u64 at_, .int .u64 at_] := by rw [hV]; exact bk_drew (Bk.new _ _ _)
  have HBV := Lib.hid (HBA.out.trans (hbV.mono HBA.out.size))
  obtain ⟨z, hz⟩ : ∃ z, z = W.heap.size := ⟨_, rfl⟩
  rw [← hz] at KN ⊢
  obtain ⟨b, hb⟩ : ∃ b, b = w.heap.size := ⟨_, rfl⟩
  rw [← hb] at KR ⊢
  have hzb : ¬ z = b := by have := HSZ.out; omega
  have hbz : ¬ b = z := by have := HSZ.out; omega
  have HZ := Lib.hid hz
  have HB := Lib.hid hb
  have e7 : V.cell? ⟨g, 7, none⟩ = some (.bool o.eph) := KG.cell 7
  have e9 : V.cell? ⟨g, 9, none⟩ = some (.int .i64 who.site) := KG.cell 9
  have e10 : V.cell? ⟨g, 10, none⟩ = some (.int .u32 who.n) := KG.cell 10
  have zc := KN.cell
  have zf := KN.frozen
  have bc := KR.cell
  have bf := KR.frozen
  have HKN := Lib.hid KN
  have HKR := Lib.hid KR
  have hgz : ¬ g = z := by have := HSZ.out; omega
  have hgb : ¬ g = b := by omega
  clear hV hbV KG KR KN hz hb k4 k1 n4 n1
  cases he : o.eph
  · rw [he] at e7
    go_wp2_with fail
    have hh := set9 HKR.out (.slice A k c) (.int .u32 0) (.int .u32 0) (.int .u32 0) (.int .i64 0) (.int .u32 0) (.int .u64 at_) (.int .u64 at_) (.int .u64 at_)
    refine bodyPost_ret (results_cell_row rfl _ _ b 39 _ (0, 0) _ rfl hh Tryz.underlying39 rfl size_znode) rfl ?_
    refine ⟨by rw [HRES.out]; simp [znV, znC, newNode, he], ?_⟩
    have hwb := HB.out
    exact (((((((((HBV.out.setCell (by simp; omega) _).setCell (by simp; omega) _).setCell (by simp; omega) _).setCell (by simp; omega) _).setCell (by simp; omega) _).setCell (by simp; omega) _).setCell (by simp; omega) _).setCell (by simp; omega) _).setCell (by simp; omega) _)
  · rw [he] at e7
    go_wp2_with fail
    have hh := set9 (HKR.out.kept (w' := (V.setCell ⟨z, 4, none⟩ (.int .i64 who.site)).setCell ⟨z, 5, none⟩ (.int .u32 who.n)) (by rw [heap_setCell_ne _ _ _ _ _ hbz, heap_setCell_ne _ _ _ _ _ hbz])) (.slice A k c) (.int .u32 0) (.int .u32 0) (.int .u32 0) (.int .i64 who.site) (.int .u32 who.n) (.int .u64 at_) (.int .u64 at_) (.int .u64 at_)
    refine bodyPost_ret (results_cell_row rfl _ _ b 39 _ (0, 0) _ rfl hh Tryz.underlying39 rfl size_znode) rfl ?_
    refine ⟨by rw [HRES.out]; simp [znV, znC, newNode, he], ?_⟩
    have hwb := HB.out
    have hwz := HZ.out
    have hws := HSZ.out
    exact (((((((((((HBV.out.setCell (by simp; omega) _).setCell (by simp; omega) _).setCell (by simp; omega) _).setCell (by simp; omega) _).setCell (by simp; omega) _).setCell (by simp; omega) _).setCell (by simp; omega) _).setCell (by simp; omega) _).setCell (by simp; omega) _).setCell (by simp; omega) _).setCell (by simp; omega) _)
end Go.Proofs.YtplbckibogmicaaGreatDoor.Opn
