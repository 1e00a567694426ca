/- create. -/
import Derived.Test.YtplbckibogmicaaGreatDoorOpCode9
namespace Go.Proofs.YtplbckibogmicaaGreatDoor.Opn
open Go.RowKit Path Tree

theorem len_seq {t : TR} {o : O1} (h : o.path.length ≤ 100000) : (seqPath t o).length ≤ 1000000 := by
  unfold seqPath
  split
  · rw [List.length_append, len_ten]; omega
  · omega
theorem create_ne {t : TR} {at_ : Int} {who : Who} {o : O1} (h : o.path ≠ t.root) : create t at_ who o =
    if partsF (seqPath t o) = none then ([], .no 30)
    else if has t.row (parentF o.path) = false then ([], .no 31)
    else if (nodeAt t (parentF o.path)).site ≠ 0 ∨ (nodeAt t (parentF o.path)).own ≠ 0 then ([], .no 34)
    else if o.eph = true ∧ who = .none_ then ([], .no 63)
    else if has t.row (seqPath t o) = true then ([], .no 32)
    else if 48 ≤ t.row.length then ([], .no 36)
    else ([⟨parentF o.path, false, touched (nexted (nodeAt t (parentF o.path)) o.seq) at_⟩, ⟨seqPath t o, false, newNode o who at_⟩], ⟨0, seqPath t o, newNode o who at_, []⟩) := by
  unfold create
  rw [if_neg (fun e => h e.1)]
  by_cases h2 : partsF (seqPath t o) = none
  · rw [if_pos (.inr h2), if_pos h2]
  · rw [if_neg (fun e => e.elim h h2), if_neg h2]
theorem meth_no {g : Nat} {tp : Addr} {at_ : Int} {o : O1} {od ops : Value} {who : Who} {x : List Ef × R1} {w w' : World} {y : Int} (hx : x = ([], .no y)) (h0 : y ≠ 0) (hb : Below w.heap.size w w') : Meth g tp at_ o od ops who x w (.panicked [{ v := .iface 25 (.int .i64 y), recovered := false }]) w' := by
  subst hx
  exact .inl ⟨h0, rfl, hb⟩
theorem create_fin {g : Nat} {tp : Addr} {at_ : Int} {o : O1} {od ops : Value} {who : Who} {x : List Ef × R1} {w w9 w10 w11 : World} {p ab : List UInt8} {n2 : ZN} {G c : Nat} {A : Option Addr} {k e : Nat} {fx : Value}
    (hx : x = ([⟨ab, false, touched n2 at_⟩, ⟨p, false, newNode o who at_⟩], ⟨0, p, newNode o who at_, []⟩))
    (hk : Bk w11 g 104 (wkC tp at_ o od ops who (.slice (some ⟨G, 0, none⟩) ([(⟨ab, false, touched n2 at_⟩ : Ef)].length + 1) c) ⟨(R1.no 0).e, p, newNode o who at_, (R1.no 0).kids⟩ (.slice A k e) nilS nilS).toArray) (h1 : Out (· = g) w w9) (h2 : Out (fun j => j = g ∨ fx.ownBlock = some j) w9 w10) (h3 : Out (· = g) w10 w11)
    (hE : OwnE (fun j => (w.heap.size ≤ j ∧ j < w9.heap.size) ∨ w9.heap.size ≤ j) w10 (.slice (some ⟨G, 0, none⟩) ([(⟨ab, false, touched n2 at_⟩ : Ef)].length + 1) c) ([⟨ab, false, touched n2 at_⟩] ++ [⟨p, false, newNode o who at_⟩])) (hc : Copied w9.heap.size w10 (.slice A k e) (newNode o who at_).data) (hg : g < w.heap.size) (hfx : ∀ j, fx.ownBlock = some j → w.heap.size ≤ j) : Meth g tp at_ o od ops who x w (.returned (.tuple #[])) w11 := by
  subst hx
  have hs := h1.size
  refine .inr ⟨rfl, rfl, (h1.trans h2 (fun j hj => hj.elim .inl (fun e => .inr (hfx j e)))).trans h3 (fun j hj => .inl hj), _, _, _, _, _, _, _, _, _, hk, ?_, ?_, TextS.nil_ _ _⟩
  · refine (hE.mono fun j hj => ?_).out h3 (fun j hj hx => by have hx : j = g := hx; omega)
    rcases hj with hj | hj
    · exact hj.1
    · omega
  · exact (hc.dataS.mono fun j hj => by omega).out h3 (fun j hj hx => by have hx : j = g := hx; have hj : w.heap.size ≤ j := hj; omega)
set_option maxRecDepth 100000 in
set_option maxHeartbeats 4000000 in
theorem create_other {P : Nat → Prop} (i : Nat) (t : TR) (L : List (Addr × TR)) (X : Nat → Prop) (g : Nat) (tp : Addr) (at_ : Int) (o : O1) (Ao : Option Addr) (ko co : Nat) (ops : Value) (who : Who) (w : World) (h : Bk w g 104 (wk0 tp at_ o (.slice Ao ko co) ops who).toArray) (hT : Trees w L X) (hi : L[i]? = some (tp, t)) (hX : ¬ X g) (hr : o.path ≠ t.root) (hp : o.path.length ≤ 100000) (ht : Tab w)
    (hn0 : 0 ≤ (nodeAt t (parentF o.path)).next) (hn1 : (nodeAt t (parentF o.path)).next < 4294967296) (hsm : (nodeAt t (parentF o.path)).data.length ≤ 1000000) (hd : DataS P w (.slice Ao ko co) o.data) (hP : ∀ j, P j → j ≠ g) (hPB : ∀ j, P j → j < w.heap.size) (hlen : o.data.length ≤ 1000000) :
    Calls Tryz.prog 97 #[.pointer (some ⟨g, 0, none⟩)] w (Meth g tp at_ o (.slice Ao ko co) ops who (create t at_ who o) w) := by
  have HE := Lib.hid (create_ne (at_ := at_) (who := who) hr)
  have k0 : w.cell? ⟨g, 0, none⟩ = some (.pointer (some tp)) := h.cell 0
  have k3 : w.cell? ⟨g, 3, none⟩ = some (.string (S o.path)) := h.cell 3
  have cr := Lib.hid ((Root_quiet i tp t w L X hT hi).mono (R' := fun e w' => e = .returned (.string (S t.root)) ∧ w = w') fun _ _ ⟨h, e⟩ => ⟨h, e.symm⟩)
  have s1 := S_list o.path
  have s2 := S_list t.root
  have h1 : (o.path == t.root) = false := by simpa using hr
  have HK := Lib.hid h
  have HT := Lib.hid hT
  have HI := Lib.hid hi
  have HX := Lib.hid hX
  have HPL := Lib.hid hp
  have HTB := Lib.hid ht
  have HN0 := Lib.hid hn0
  have HN1 := Lib.hid hn1
  have HSM := Lib.hid hsm
  have HD := Lib.hid hd
  have HPP := Lib.hid hP
  have HL := Lib.hid hlen
  have HPB : Hid (∀ j, P j → ¬ w.heap.size ≤ j) := fun j hj h => by have := hPB j hj; omega
  have cpar := Lib.hid (Parent_any o.path w (by omega))
  clear h hT hi hX hr hp ht hn0 hn1 hsm hd hP hPB hlen
  obtain ⟨x, hx⟩ : ∃ x, x = create t at_ who o := ⟨_, rfl⟩
  rw [← hx] at HE ⊢
  clear hx
  go_enter Tryz.func97, Tryz.ntmps97
  go_wp2_with (first
    | (go_at_call 46; (with_reducible refine cr.out.mono ?_); rintro e w1 ⟨rfl, rfl⟩)
    | (go_at_call 77; (with_reducible refine (throw_no _ _).mono ?_); rintro e w1 ⟨rfl, rfl⟩))
  refine cpar.out.mono ?_
  rintro e w2 ⟨rfl, hb2⟩
  have HB2 := Lib.hid hb2
  have k20 : w2.cell? ⟨g, 0, none⟩ = some (.pointer (some tp)) := (HK.out.below hb2).cell 0
  have cget := get_copied (parentF o.path) i tp t w2 L X (HT.out.below hb2) HI.out (parentF_len _ (by have := HPL.out; omega))
  clear hb2 k0 k3 s1 s2 h1 cr cpar
  go_wp2_with fail
  refine cget.mono ?_
  rintro e w3 ⟨A3, q3, c3, rfl, hb3, hc3⟩
  obtain ⟨n, hn⟩ : ∃ n, n = nodeAt t (parentF o.path) := ⟨_, rfl⟩
  rw [← hn] at hc3 HN0 HN1 HSM HE ⊢
  have hqp : seqPath t o = if o.seq = true then o.path ++ ten n.next.toNat else o.path := by rw [hn]; rfl
  obtain ⟨p, hpq⟩ : ∃ p, p = seqPath t o := ⟨_, rfl⟩
  have hpl : p.length ≤ 1000000 := by rw [hpq]; exact len_seq HPL.out
  rw [← hpq] at hqp HE
  obtain ⟨up, hup⟩ : ∃ up, up = has t.row (parentF o.path) := ⟨_, rfl⟩
  rw [← hup] at HE ⊢
  have HQP := Lib.hid hqp
  have HPQ := Lib.hid hpq
  have HPLN := Lib.hid hpl
  have HB3 := Lib.hid (HB2.out.trans (hb3.mono HB2.out.size))
  have HC3 := Lib.hid hc3
  have hlt3 : g < w3.heap.size := (HK.out.below HB3.out).lt
  have k36 : w3.cell? ⟨g, 6, none⟩ = some (.bool o.seq) := (HK.out.below HB3.out).cell 6
  have HUP := Lib.hid hup
  have HNN := Lib.hid hn
  have MID : ∃ b, b = w3.heap.size ∧ Hid (Bk (w3.alloc (.cells (znC n (.slice A3 q3 c3)).toArray 39)) b 39 (znC n (.slice A3 q3 c3)).toArray) := ⟨_, rfl, Bk.new _ _ _⟩
  obtain ⟨b, hb, HBX⟩ := MID
  have HBA := Lib.hid ((Below.refl w3.heap.size w3).alloc (Nat.le_refl _) (.cells (znC n (.slice A3 q3 c3)).toArray 39))
  have HBS := Lib.hid hb
  have hgb : ¬ g = b := by omega
  have hbg : ¬ b = g := by omega
  clear hb3 hc3 cget k20 hqp hpq hpl hup hn
  obtain ⟨ab, hab⟩ : ∃ ab, ab = parentF o.path := ⟨_, rfl⟩
  have HAB := Lib.hid hab
  rw [← hab] at HE ⊢
  clear hab
  obtain ⟨n2, hn2⟩ : ∃ n2, n2 = nexted n o.seq := ⟨_, rfl⟩
  have HN2 := Lib.hid hn2
  have HSZ : Hid (n2.data = n.data) := by
    show _ = _
    rw [hn2]
    unfold nexted
    split <;> rfl
  have HSO : Hid (n2.site = n.site ∧ n2.own = n.own) := by
    show _ ∧ _
    rw [hn2]
    unfold nexted
    split <;> exact ⟨rfl, rfl⟩
  rw [← hn2] at HE
  clear hn2
  dsimp only [znV, znC] at HBX HBA ⊢
  cases hs : o.seq
  · rw [hs] at k36
    have ep : o.path = p := by
      have := HQP.out
      rw [hs] at this
      exact this.symm
    go_wp2_with fail
    rw [ep, ← hb]
    obtain ⟨W, hW⟩ : ∃ W, W = w3.alloc (.cells #[.slice A3 q3 c3, .int .u32 n.ver, .int .u32 n.kin, .int .u32 n.next, .int .i64 n.site, .int .u32 n.own, .int .u64 n.made, .int .u64 n.chg, .int .u64 n.tch] 39) := ⟨_, rfl⟩
    have HKB : Hid (Bk W b 39 (znC n2 (.slice A3 q3 c3)).toArray) := by
      show Bk _ _ _ _
      rw [HN2.out, hs, hW]
      exact HBX.out
    have HBW : Hid (Below w3.heap.size w3 W) := by
      show Below _ _ _
      rw [hW]
      exact HBA.out
    rw [← hW]
    clear hW ep hb
    have HBT := Lib.hid (HB3.out.trans (HBW.out.mono HB3.out.size))
    clear k36 hlt3
    have cck := Check_any p W HPLN.out
    by_cases q1 : partsF p = none
    · rw [show checkE p = 30 by unfold checkE; rw [q1]; rfl] at cck
      have hx := HE.out
      rw [if_pos q1] at hx
      have HXX := Lib.hid hx
      clear hx q1
      refine cck.mono ?_
      rintro e w5 ⟨rfl, hb5⟩
      have HB5 := Lib.hid (HBT.out.trans (hb5.mono HBT.out.size))
      clear hb5 cck
      go_wp2_with (go_at_call 77; (with_reducible refine (throw_yes _ _).mono ?_); rintro e wz ⟨rfl, rfl⟩)
      exact ⟨rfl, meth_no HXX.out (by decide) HB5.out⟩
    · rw [show checkE p = 0 by unfold checkE; cases hq : partsF p; exact absurd hq q1; rfl] at cck
      have hx := HE.out
      rw [if_neg q1] at hx
      have HX1 := Lib.hid hx
      clear hx q1
      refine cck.mono ?_
      rintro e w5 ⟨rfl, hb5⟩
      have HB5 := Lib.hid (HBT.out.trans (hb5.mono HBT.out.size))
      have HK5 := Lib.hid (HKB.out.below hb5)
      have HC7F : Hid (∀ V, Below w5.heap.size w5 V → Copied w2.heap.size V (.slice A3 q3 c3) n.data) := fun V hV => (HC3.out.below (HBW.out.trans ((hb5.trans (hV.mono hb5.size)).mono HBW.out.size)))
      have g57 : w5.cell? ⟨g, 7, none⟩ = some (.bool o.eph) := (HK.out.below HB5.out).cell 7
      have g59 : w5.cell? ⟨g, 9, none⟩ = some (.int .i64 who.site) := (HK.out.below HB5.out).cell 9
      have g510 : w5.cell? ⟨g, 10, none⟩ = some (.int .u32 who.n) := (HK.out.below HB5.out).cell 10
      have g50 : w5.cell? ⟨g, 0, none⟩ = some (.pointer (some tp)) := (HK.out.below HB5.out).cell 0
      clear hb5 cck
      cases up
      · have hx := HX1.out
        rw [if_pos rfl] at hx
        have HXX := Lib.hid hx
        clear hx
        go_wp2_with (go_at_call 77; (with_reducible first | (refine (throw_yes _ _).mono ?_) | (refine (throw_no _ _).mono ?_)); rintro e wz ⟨rfl, rfl⟩)
        exact ⟨rfl, meth_no HXX.out (by decide) HB5.out⟩
      · have hx := HX1.out
        rw [if_neg (by decide)] at hx
        have HX2 := Lib.hid hx
        clear hx
        have b4 : w5.cell? ⟨b, 4, none⟩ = some (.int .i64 n2.site) := HK5.out.cell 4
        have b5 : w5.cell? ⟨b, 5, none⟩ = some (.int .u32 n2.own) := HK5.out.cell 5
        by_cases o1 : n2.site = 0
        · by_cases o2 : n2.own = 0
          · have hx := HX2.out
            rw [if_neg (by rw [← HSO.out.1, ← HSO.out.2]; exact fun h => h.elim (fun h => h o1) (fun h => h o2))] at hx
            have HX4 := Lib.hid hx
            rw [o1] at b4
            rw [o2] at b5
            clear hx o1 o2
            cases he : o.eph
            · rw [he] at g57
              have hx := HX4.out
              rw [if_neg (by rw [he]; exact fun h => by cases h.1)] at hx
              have HX5 := Lib.hid hx
              clear hx
              have cg2 := get_copied p i tp t w5 L X (HT.out.below HB5.out) HI.out HPLN.out
              obtain ⟨there, hth⟩ : ∃ b, b = has t.row p := ⟨_, rfl⟩
              rw [← hth] at cg2 HX5
              clear hth
              go_wp2_with (go_at_call 77; (with_reducible refine (throw_no _ _).mono ?_); rintro e wz ⟨rfl, rfl⟩)
              refine cg2.mono ?_
              rintro e w6 ⟨A6, q6, c6, rfl, hb6, _⟩
              have HB6 := Lib.hid (HB5.out.trans (hb6.mono HB5.out.size))
              have HK6 := Lib.hid (HK5.out.below hb6)
              have HBB6 : Hid (Below w5.heap.size w5 w6) := hb6
              have k60 : w6.cell? ⟨g, 0, none⟩ = some (.pointer (some tp)) := (HK.out.below HB6.out).cell 0
              clear hb6 cg2
              cases there
              · have hx := HX5.out
                rw [if_neg (by decide)] at hx
                have HX6 := Lib.hid hx
                clear hx
                by_cases q5 : 48 ≤ t.row.length
                · have cp := Lib.hid (Paths_any i tp t w6 L X (HT.out.below HB6.out) HI.out)
                  have hq5 : (48 : Int) ≤ (t.row.length : Int) := by omega
                  have hx := HX6.out
                  rw [if_pos q5] at hx
                  have HXX := Lib.hid hx
                  clear hx q5
                  go_wp2_with (go_at_call 77; (with_reducible refine (throw_no _ _).mono ?_); rintro e wz ⟨rfl, rfl⟩)
                  refine cp.out.mono ?_
                  rintro e w7 ⟨A7, c7, rfl, hb7, _⟩
                  have HB7 := Lib.hid (HB6.out.trans (hb7.mono HB6.out.size))
                  clear hb7 cp
                  go_wp2_with (go_at_call 77; (with_reducible refine (throw_yes _ _).mono ?_); rintro e wz ⟨rfl, rfl⟩)
                  exact ⟨rfl, meth_no HXX.out (by decide) HB7.out⟩
                · have hx := HX6.out
                  rw [if_neg q5] at hx
                  have HX7 := Lib.hid hx
                  clear hx
                  have cp := Lib.hid (Paths_any i tp t w6 L X (HT.out.below HB6.out) HI.out)
                  have hq5 : decide ((48 : Int) ≤ (t.row.length : Int)) = false := decide_eq_false (by omega)
                  clear q5
                  go_wp2_with (go_at_call 77; (with_reducible refine (throw_no _ _).mono ?_); rintro e wz ⟨rfl, rfl⟩)
                  refine cp.out.mono ?_
                  rintro e w7 ⟨A7, c7, rfl, hb7, _⟩
                  have HB67 := Lib.hid hb7
                  have HB7 := Lib.hid (HB6.out.trans (hb7.mono HB6.out.size))
                  have HK7 := Lib.hid (HK6.out.below hb7)
                  have HG7 := Lib.hid (HK.out.below HB7.out)
                  have kb7 := HK7.out.cell
                  have HC7 : Hid (Copied w2.heap.size w7 (.slice A3 q3 c3) n2.data) := by
                    show Copied _ _ _ _
                    rw [HSZ.out]
                    exact HC7F.out w7 (HBB6.out.trans (hb7.mono HBB6.out.size))
                  have ct := touch_any (P := fun j => w2.heap.size ≤ j) ab n2 A3 q3 c3 g tp at_ o (.slice Ao ko co) ops who nilS (.no 0) nilS nilS nilS (fun _ => False) [] w7 HG7.out (OwnE.nil_ _ _) (fun j hj => hj.elim) HC7.out.dataS (fun j hj => ⟨by have := HK.out.lt; have := HB2.out.size; omega, fun e => by cases e⟩) (by rw [HSZ.out]; exact HSM.out) (by simp)
                  clear hb7 cp
                  dsimp only [znV, znC] at ct kb7
                  have k70 : w7.cell? ⟨g, 0, none⟩ = some (.pointer (some tp)) := HG7.out.cell 0
                  go_wp2_with (go_at_call 77; (with_reducible refine (throw_no _ _).mono ?_); rintro e wz ⟨rfl, rfl⟩)
                  refine ct.mono ?_
                  rintro e w8 ⟨rfl, d8, ⟨⟨G8, c8, hk8, hoe8, hg8⟩, _, ho8⟩⟩
                  have HK8 := Lib.hid hk8
                  have HOE8 := Lib.hid hoe8
                  have HO8 := Lib.hid ho8
                  have HG8 := Lib.hid hg8
                  have cn := newNode_any Ao ko co g tp at_ o ops who (.slice (some ⟨G8, 0, none⟩) (([] : List Ef).length + 1) c8) (.no 0) nilS nilS nilS w8 hk8
                  clear ct hk8 hoe8 ho8 hg8 kb7
                  go_wp2_with fail
                  refine cn.mono ?_
                  rintro e w9 ⟨rfl, hb9⟩
                  have HB9 := Lib.hid hb9
                  have ho79 : Hid (Out (· = g) w w9) := ((Out.of_below HB7.out).trans HO8.out (fun j hj => .inl (hj.elim id (fun e => by cases e)))).trans (.of_below hb9) (fun j hj => .inl hj)
                  have HO79 := ho79
                  have cpu := put_any (P := P) p (newNode o who at_) Ao ko co g tp at_ o (.slice Ao ko co) ops who (.slice (some ⟨G8, 0, none⟩) (([] : List Ef).length + 1) c8) (.no 0) nilS nilS nilS (fun j => w.heap.size ≤ j) [⟨ab, false, touched n2 at_⟩] w9 (HK8.out.below hb9) ((HOE8.out.mono fun j hj => by
                    rcases hj with hj | hj
                    · exact hj.1.elim
                    · have := HB7.out.size; omega).below hb9) (fun j hj => by have := HK.out.lt; omega) ((HD.out.lt).out HO79.out (fun j hj => HPP.out j hj.1) |>.mono fun j hj => hj.1) (fun j hj => ⟨HPP.out j hj, fun e => HPB.out j hj (by
                      have h1 : j = G8 := (Option.some.inj e).symm
                      have h2 := HG8.out
                      have h3 := HB7.out.size
                      rcases h2 with h2 | h2
                      · cases h2
                      · omega)⟩) HL.out (by simp)
                  clear cn hb9 ho79
                  go_wp2_with fail
                  refine cpu.mono ?_
                  rintro e w10 ⟨d10, rfl, ⟨⟨G10, c10, hk10, hoe10, hg10⟩, hc10, ho10⟩⟩
                  have HOE10 := Lib.hid hoe10
                  have HO10 := Lib.hid ho10
                  have HC10 := Lib.hid hc10
                  obtain ⟨A10, k10, e10, rfl, hcx⟩ := hc10
                  have ca := answer_any p (newNode o who at_) A10 k10 e10 g tp at_ o (.slice Ao ko co) ops who (.slice (some ⟨G10, 0, none⟩) ([(⟨ab, false, touched n2 at_⟩ : Ef)].length + 1) c10) (.no 0) nilS nilS nilS w10 hk10
                  clear cpu hk10 hoe10 ho10 hcx hg10
                  go_wp2_with fail
                  refine ca.mono ?_
                  rintro e w11 ⟨rfl, hk11, ho11⟩
                  have HK11 := Lib.hid hk11
                  have HO11 := Lib.hid ho11
                  clear ca hk11 ho11
                  go_wp2_with fail
                  go_end0
                  exact create_fin HX7.out HK11.out HO79.out HO10.out HO11.out HOE10.out HC10.out HK.out.lt (fun j hj => by
                    have h1 : j = G8 := (Option.some.inj hj).symm
                    have h2 := HG8.out
                    have h3 := HB7.out.size
                    rcases h2 with h2 | h2
                    · cases h2
                    · omega)
              · have hx := HX5.out
                rw [if_pos rfl] at hx
                have HXX := Lib.hid hx
                clear hx
                go_wp2_with (go_at_call 77; (with_reducible first | (refine (throw_yes _ _).mono ?_) | (refine (throw_no _ _).mono ?_)); rintro e wz ⟨rfl, rfl⟩)
                exact ⟨rfl, meth_no HXX.out (by decide) HB6.out⟩
            · rw [he] at g57
              by_cases p1 : who.site = 0
              · by_cases p2 : who.n = 0
                · have hw : who = .none_ := by
                    cases who
                    simp at p1 p2
                    subst p1
                    subst p2
                    rfl
                  have hx := HX4.out
                  rw [if_pos ⟨he, hw⟩] at hx
                  have HXX := Lib.hid hx
                  rw [p1] at g59
                  rw [p2] at g510
                  clear hx p1 p2 hw
                  go_wp2_with (go_at_call 77; (with_reducible first | (refine (throw_yes _ _).mono ?_) | (refine (throw_no _ _).mono ?_)); rintro e wz ⟨rfl, rfl⟩)
                  exact ⟨rfl, meth_no HXX.out (by decide) HB5.out⟩
                · have hnw : ¬ (o.eph = true ∧ who = .none_) := fun h => p2 (by rw [h.2]; rfl)
                  rw [p1] at g59
                  clear p1
                  have hx := HX4.out
                  rw [if_neg hnw] at hx
                  have HX5 := Lib.hid hx
                  clear hx
                  have cg2 := get_copied p i tp t w5 L X (HT.out.below HB5.out) HI.out HPLN.out
                  obtain ⟨there, hth⟩ : ∃ b, b = has t.row p := ⟨_, rfl⟩
                  rw [← hth] at cg2 HX5
                  clear hth
                  go_wp2_with (go_at_call 77; (with_reducible refine (throw_no _ _).mono ?_); rintro e wz ⟨rfl, rfl⟩)
                  refine cg2.mono ?_
                  rintro e w6 ⟨A6, q6, c6, rfl, hb6, _⟩
                  have HB6 := Lib.hid (HB5.out.trans (hb6.mono HB5.out.size))
                  have HK6 := Lib.hid (HK5.out.below hb6)
                  have HBB6 : Hid (Below w5.heap.size w5 w6) := hb6
                  have k60 : w6.cell? ⟨g, 0, none⟩ = some (.pointer (some tp)) := (HK.out.below HB6.out).cell 0
                  clear hb6 cg2
                  cases there
                  · have hx := HX5.out
                    rw [if_neg (by decide)] at hx
                    have HX6 := Lib.hid hx
                    clear hx
                    by_cases q5 : 48 ≤ t.row.length
                    · have cp := Lib.hid (Paths_any i tp t w6 L X (HT.out.below HB6.out) HI.out)
                      have hq5 : (48 : Int) ≤ (t.row.length : Int) := by omega
                      have hx := HX6.out
                      rw [if_pos q5] at hx
                      have HXX := Lib.hid hx
                      clear hx q5
                      go_wp2_with (go_at_call 77; (with_reducible refine (throw_no _ _).mono ?_); rintro e wz ⟨rfl, rfl⟩)
                      refine cp.out.mono ?_
                      rintro e w7 ⟨A7, c7, rfl, hb7, _⟩
                      have HB7 := Lib.hid (HB6.out.trans (hb7.mono HB6.out.size))
                      clear hb7 cp
                      go_wp2_with (go_at_call 77; (with_reducible refine (throw_yes _ _).mono ?_); rintro e wz ⟨rfl, rfl⟩)
                      exact ⟨rfl, meth_no HXX.out (by decide) HB7.out⟩
                    · have hx := HX6.out
                      rw [if_neg q5] at hx
                      have HX7 := Lib.hid hx
                      clear hx
                      have cp := Lib.hid (Paths_any i tp t w6 L X (HT.out.below HB6.out) HI.out)
                      have hq5 : decide ((48 : Int) ≤ (t.row.length : Int)) = false := decide_eq_false (by omega)
                      clear q5
                      go_wp2_with (go_at_call 77; (with_reducible refine (throw_no _ _).mono ?_); rintro e wz ⟨rfl, rfl⟩)
                      refine cp.out.mono ?_
                      rintro e w7 ⟨A7, c7, rfl, hb7, _⟩
                      have HB67 := Lib.hid hb7
                      have HB7 := Lib.hid (HB6.out.trans (hb7.mono HB6.out.size))
                      have HK7 := Lib.hid (HK6.out.below hb7)
                      have HG7 := Lib.hid (HK.out.below HB7.out)
                      have kb7 := HK7.out.cell
                      have HC7 : Hid (Copied w2.heap.size w7 (.slice A3 q3 c3) n2.data) := by
                        show Copied _ _ _ _
                        rw [HSZ.out]
                        exact HC7F.out w7 (HBB6.out.trans (hb7.mono HBB6.out.size))
                      have ct := touch_any (P := fun j => w2.heap.size ≤ j) ab n2 A3 q3 c3 g tp at_ o (.slice Ao ko co) ops who nilS (.no 0) nilS nilS nilS (fun _ => False) [] w7 HG7.out (OwnE.nil_ _ _) (fun j hj => hj.elim) HC7.out.dataS (fun j hj => ⟨by have := HK.out.lt; have := HB2.out.size; omega, fun e => by cases e⟩) (by rw [HSZ.out]; exact HSM.out) (by simp)
                      clear hb7 cp
                      dsimp only [znV, znC] at ct kb7
                      have k70 : w7.cell? ⟨g, 0, none⟩ = some (.pointer (some tp)) := HG7.out.cell 0
                      go_wp2_with (go_at_call 77; (with_reducible refine (throw_no _ _).mono ?_); rintro e wz ⟨rfl, rfl⟩)
                      refine ct.mono ?_
                      rintro e w8 ⟨rfl, d8, ⟨⟨G8, c8, hk8, hoe8, hg8⟩, _, ho8⟩⟩
                      have HK8 := Lib.hid hk8
                      have HOE8 := Lib.hid hoe8
                      have HO8 := Lib.hid ho8
                      have HG8 := Lib.hid hg8
                      have cn := newNode_any Ao ko co g tp at_ o ops who (.slice (some ⟨G8, 0, none⟩) (([] : List Ef).length + 1) c8) (.no 0) nilS nilS nilS w8 hk8
                      clear ct hk8 hoe8 ho8 hg8 kb7
                      go_wp2_with fail
                      refine cn.mono ?_
                      rintro e w9 ⟨rfl, hb9⟩
                      have HB9 := Lib.hid hb9
                      have ho79 : Hid (Out (· = g) w w9) := ((Out.of_below HB7.out).trans HO8.out (fun j hj => .inl (hj.elim id (fun e => by cases e)))).trans (.of_below hb9) (fun j hj => .inl hj)
                      have HO79 := ho79
                      have cpu := put_any (P := P) p (newNode o who at_) Ao ko co g tp at_ o (.slice Ao ko co) ops who (.slice (some ⟨G8, 0, none⟩) (([] : List Ef).length + 1) c8) (.no 0) nilS nilS nilS (fun j => w.heap.size ≤ j) [⟨ab, false, touched n2 at_⟩] w9 (HK8.out.below hb9) ((HOE8.out.mono fun j hj => by
                        rcases hj with hj | hj
                        · exact hj.1.elim
                        · have := HB7.out.size; omega).below hb9) (fun j hj => by have := HK.out.lt; omega) ((HD.out.lt).out HO79.out (fun j hj => HPP.out j hj.1) |>.mono fun j hj => hj.1) (fun j hj => ⟨HPP.out j hj, fun e => HPB.out j hj (by
                          have h1 : j = G8 := (Option.some.inj e).symm
                          have h2 := HG8.out
                          have h3 := HB7.out.size
                          rcases h2 with h2 | h2
                          · cases h2
                          · omega)⟩) HL.out (by simp)
                      clear cn hb9 ho79
                      go_wp2_with fail
                      refine cpu.mono ?_
                      rintro e w10 ⟨d10, rfl, ⟨⟨G10, c10, hk10, hoe10, hg10⟩, hc10, ho10⟩⟩
                      have HOE10 := Lib.hid hoe10
                      have HO10 := Lib.hid ho10
                      have HC10 := Lib.hid hc10
                      obtain ⟨A10, k10, e10, rfl, hcx⟩ := hc10
                      have ca := answer_any p (newNode o who at_) A10 k10 e10 g tp at_ o (.slice Ao ko co) ops who (.slice (some ⟨G10, 0, none⟩) ([(⟨ab, false, touched n2 at_⟩ : Ef)].length + 1) c10) (.no 0) nilS nilS nilS w10 hk10
                      clear cpu hk10 hoe10 ho10 hcx hg10
                      go_wp2_with fail
                      refine ca.mono ?_
                      rintro e w11 ⟨rfl, hk11, ho11⟩
                      have HK11 := Lib.hid hk11
                      have HO11 := Lib.hid ho11
                      clear ca hk11 ho11
                      go_wp2_with fail
                      go_end0
                      exact create_fin HX7.out HK11.out HO79.out HO10.out HO11.out HOE10.out HC10.out HK.out.lt (fun j hj => by
                        have h1 : j = G8 := (Option.some.inj hj).symm
                        have h2 := HG8.out
                        have h3 := HB7.out.size
                        rcases h2 with h2 | h2
                        · cases h2
                        · omega)
                  · have hx := HX5.out
                    rw [if_pos rfl] at hx
                    have HXX := Lib.hid hx
                    clear hx
                    go_wp2_with (go_at_call 77; (with_reducible first | (refine (throw_yes _ _).mono ?_) | (refine (throw_no _ _).mono ?_)); rintro e wz ⟨rfl, rfl⟩)
                    exact ⟨rfl, meth_no HXX.out (by decide) HB6.out⟩
              · have hnw : ¬ (o.eph = true ∧ who = .none_) := fun h => p1 (by rw [h.2]; rfl)
                have hx := HX4.out
                rw [if_neg hnw] at hx
                have HX5 := Lib.hid hx
                clear hx
                have cg2 := get_copied p i tp t w5 L X (HT.out.below HB5.out) HI.out HPLN.out
                obtain ⟨there, hth⟩ : ∃ b, b = has t.row p := ⟨_, rfl⟩
                rw [← hth] at cg2 HX5
                clear hth
                go_wp2_with (go_at_call 77; (with_reducible refine (throw_no _ _).mono ?_); rintro e wz ⟨rfl, rfl⟩)
                refine cg2.mono ?_
                rintro e w6 ⟨A6, q6, c6, rfl, hb6, _⟩
                have HB6 := Lib.hid (HB5.out.trans (hb6.mono HB5.out.size))
                have HK6 := Lib.hid (HK5.out.below hb6)
                have HBB6 : Hid (Below w5.heap.size w5 w6) := hb6
                have k60 : w6.cell? ⟨g, 0, none⟩ = some (.pointer (some tp)) := (HK.out.below HB6.out).cell 0
                clear hb6 cg2
                cases there
                · have hx := HX5.out
                  rw [if_neg (by decide)] at hx
                  have HX6 := Lib.hid hx
                  clear hx
                  by_cases q5 : 48 ≤ t.row.length
                  · have cp := Lib.hid (Paths_any i tp t w6 L X (HT.out.below HB6.out) HI.out)
                    have hq5 : (48 : Int) ≤ (t.row.length : Int) := by omega
                    have hx := HX6.out
                    rw [if_pos q5] at hx
                    have HXX := Lib.hid hx
                    clear hx q5
                    go_wp2_with (go_at_call 77; (with_reducible refine (throw_no _ _).mono ?_); rintro e wz ⟨rfl, rfl⟩)
                    refine cp.out.mono ?_
                    rintro e w7 ⟨A7, c7, rfl, hb7, _⟩
                    have HB7 := Lib.hid (HB6.out.trans (hb7.mono HB6.out.size))
                    clear hb7 cp
                    go_wp2_with (go_at_call 77; (with_reducible refine (throw_yes _ _).mono ?_); rintro e wz ⟨rfl, rfl⟩)
                    exact ⟨rfl, meth_no HXX.out (by decide) HB7.out⟩
                  · have hx := HX6.out
                    rw [if_neg q5] at hx
                    have HX7 := Lib.hid hx
                    clear hx
                    have cp := Lib.hid (Paths_any i tp t w6 L X (HT.out.below HB6.out) HI.out)
                    have hq5 : decide ((48 : Int) ≤ (t.row.length : Int)) = false := decide_eq_false (by omega)
                    clear q5
                    go_wp2_with (go_at_call 77; (with_reducible refine (throw_no _ _).mono ?_); rintro e wz ⟨rfl, rfl⟩)
                    refine cp.out.mono ?_
                    rintro e w7 ⟨A7, c7, rfl, hb7, _⟩
                    have HB67 := Lib.hid hb7
                    have HB7 := Lib.hid (HB6.out.trans (hb7.mono HB6.out.size))
                    have HK7 := Lib.hid (HK6.out.below hb7)
                    have HG7 := Lib.hid (HK.out.below HB7.out)
                    have kb7 := HK7.out.cell
                    have HC7 : Hid (Copied w2.heap.size w7 (.slice A3 q3 c3) n2.data) := by
                      show Copied _ _ _ _
                      rw [HSZ.out]
                      exact HC7F.out w7 (HBB6.out.trans (hb7.mono HBB6.out.size))
                    have ct := touch_any (P := fun j => w2.heap.size ≤ j) ab n2 A3 q3 c3 g tp at_ o (.slice Ao ko co) ops who nilS (.no 0) nilS nilS nilS (fun _ => False) [] w7 HG7.out (OwnE.nil_ _ _) (fun j hj => hj.elim) HC7.out.dataS (fun j hj => ⟨by have := HK.out.lt; have := HB2.out.size; omega, fun e => by cases e⟩) (by rw [HSZ.out]; exact HSM.out) (by simp)
                    clear hb7 cp
                    dsimp only [znV, znC] at ct kb7
                    have k70 : w7.cell? ⟨g, 0, none⟩ = some (.pointer (some tp)) := HG7.out.cell 0
                    go_wp2_with (go_at_call 77; (with_reducible refine (throw_no _ _).mono ?_); rintro e wz ⟨rfl, rfl⟩)
                    refine ct.mono ?_
                    rintro e w8 ⟨rfl, d8, ⟨⟨G8, c8, hk8, hoe8, hg8⟩, _, ho8⟩⟩
                    have HK8 := Lib.hid hk8
                    have HOE8 := Lib.hid hoe8
                    have HO8 := Lib.hid ho8
                    have HG8 := Lib.hid hg8
                    have cn := newNode_any Ao ko co g tp at_ o ops who (.slice (some ⟨G8, 0, none⟩) (([] : List Ef).length + 1) c8) (.no 0) nilS nilS nilS w8 hk8
                    clear ct hk8 hoe8 ho8 hg8 kb7
                    go_wp2_with fail
                    refine cn.mono ?_
                    rintro e w9 ⟨rfl, hb9⟩
                    have HB9 := Lib.hid hb9
                    have ho79 : Hid (Out (· = g) w w9) := ((Out.of_below HB7.out).trans HO8.out (fun j hj => .inl (hj.elim id (fun e => by cases e)))).trans (.of_below hb9) (fun j hj => .inl hj)
                    have HO79 := ho79
                    have cpu := put_any (P := P) p (newNode o who at_) Ao ko co g tp at_ o (.slice Ao ko co) ops who (.slice (some ⟨G8, 0, none⟩) (([] : List Ef).length + 1) c8) (.no 0) nilS nilS nilS (fun j => w.heap.size ≤ j) [⟨ab, false, touched n2 at_⟩] w9 (HK8.out.below hb9) ((HOE8.out.mono fun j hj => by
                      rcases hj with hj | hj
                      · exact hj.1.elim
                      · have := HB7.out.size; omega).below hb9) (fun j hj => by have := HK.out.lt; omega) ((HD.out.lt).out HO79.out (fun j hj => HPP.out j hj.1) |>.mono fun j hj => hj.1) (fun j hj => ⟨HPP.out j hj, fun e => HPB.out j hj (by
                        have h1 : j = G8 := (Option.some.inj e).symm
                        have h2 := HG8.out
                        have h3 := HB7.out.size
                        rcases h2 with h2 | h2
                        · cases h2
                        · omega)⟩) HL.out (by simp)
                    clear cn hb9 ho79
                    go_wp2_with fail
                    refine cpu.mono ?_
                    rintro e w10 ⟨d10, rfl, ⟨⟨G10, c10, hk10, hoe10, hg10⟩, hc10, ho10⟩⟩
                    have HOE10 := Lib.hid hoe10
                    have HO10 := Lib.hid ho10
                    have HC10 := Lib.hid hc10
                    obtain ⟨A10, k10, e10, rfl, hcx⟩ := hc10
                    have ca := answer_any p (newNode o who at_) A10 k10 e10 g tp at_ o (.slice Ao ko co) ops who (.slice (some ⟨G10, 0, none⟩) ([(⟨ab, false, touched n2 at_⟩ : Ef)].length + 1) c10) (.no 0) nilS nilS nilS w10 hk10
                    clear cpu hk10 hoe10 ho10 hcx hg10
                    go_wp2_with fail
                    refine ca.mono ?_
                    rintro e w11 ⟨rfl, hk11, ho11⟩
                    have HK11 := Lib.hid hk11
                    have HO11 := Lib.hid ho11
                    clear ca hk11 ho11
                    go_wp2_with fail
                    go_end0
                    exact create_fin HX7.out HK11.out HO79.out HO10.out HO11.out HOE10.out HC10.out HK.out.lt (fun j hj => by
                      have h1 : j = G8 := (Option.some.inj hj).symm
                      have h2 := HG8.out
                      have h3 := HB7.out.size
                      rcases h2 with h2 | h2
                      · cases h2
                      · omega)
                · have hx := HX5.out
                  rw [if_pos rfl] at hx
                  have HXX := Lib.hid hx
                  clear hx
                  go_wp2_with (go_at_call 77; (with_reducible first | (refine (throw_yes _ _).mono ?_) | (refine (throw_no _ _).mono ?_)); rintro e wz ⟨rfl, rfl⟩)
                  exact ⟨rfl, meth_no HXX.out (by decide) HB6.out⟩
          · have hx := HX2.out
            rw [if_pos (by rw [← HSO.out.1, ← HSO.out.2]; exact .inr o2)] at hx
            have HXX := Lib.hid hx
            rw [o1] at b4
            clear hx o1
            go_wp2_with (go_at_call 77; (with_reducible first | (refine (throw_yes _ _).mono ?_) | (refine (throw_no _ _).mono ?_)); rintro e wz ⟨rfl, rfl⟩)
            exact ⟨rfl, meth_no HXX.out (by decide) HB5.out⟩
        · have hx := HX2.out
          rw [if_pos (by rw [← HSO.out.1, ← HSO.out.2]; exact .inl o1)] at hx
          have HXX := Lib.hid hx
          clear hx
          go_wp2_with (go_at_call 77; (with_reducible first | (refine (throw_yes _ _).mono ?_) | (refine (throw_no _ _).mono ?_)); rintro e wz ⟨rfl, rfl⟩)
          exact ⟨rfl, meth_no HXX.out (by decide) HB5.out⟩
  · rw [hs] at k36
    have cten := ten_any n.next HN0.out HN1.out _ ((HTB.out.below HB3.out).below HBA.out)
    go_wp2_with fail
    refine cten.mono ?_
    rintro e w4 ⟨rfl, hb4⟩
    have kb4 := HBX.out.below hb4
    rw [← hb]
    have bc := kb4.cell
    have bf := kb4.frozen
    have e1 : S o.path ++ S (ten n.next.toNat) = S p := by
      have := HQP.out
      rw [if_pos hs] at this
      rw [this]
      unfold S
      apply ByteArray.ext
      simp
    have e2 : ¬ 9223372036854775807 < (S o.path).size + (S (ten n.next.toNat)).size := by
      rw [S_size, S_size, len_ten]
      have := HPL.out
      omega
    have e3 := up_wrap n.next
    have HB4 := Lib.hid hb4
    have HKB4 := Lib.hid kb4
    clear hb4 cten kb4 hb
    go_wp2_with fail
    obtain ⟨W, hW⟩ : ∃ W, W = w4.setCell ⟨b, 3, none⟩ (.int .u32 (up32 n.next)) := ⟨_, rfl⟩
    have HKB : Hid (Bk W b 39 (znC n2 (.slice A3 q3 c3)).toArray) := by
      show Bk _ _ _ _
      rw [HN2.out, hs, hW]
      exact bk_set (l := znC n (.slice A3 q3 c3)) HKB4.out 3 (.int .u32 (up32 n.next))
    have HBW : Hid (Below w3.heap.size w3 W) := by
      show Below _ _ _
      rw [hW]
      exact (HBA.out.trans (HB4.out.mono HBA.out.size)).setCell (by rw [HBS.out]; exact Nat.le_refl _) _
    rw [← hW]
    clear hW bc bf e1 e2 e3 HB4 HKB4
    have HBT := Lib.hid (HB3.out.trans (HBW.out.mono HB3.out.size))
    clear k36 hlt3
    have cck := Check_any p W HPLN.out
    by_cases q1 : partsF p = none
    · rw [show checkE p = 30 by unfold checkE; rw [q1]; rfl] at cck
      have hx := HE.out
      rw [if_pos q1] at hx
      have HXX := Lib.hid hx
      clear hx q1
      refine cck.mono ?_
      rintro e w5 ⟨rfl, hb5⟩
      have HB5 := Lib.hid (HBT.out.trans (hb5.mono HBT.out.size))
      clear hb5 cck
      go_wp2_with (go_at_call 77; (with_reducible refine (throw_yes _ _).mono ?_); rintro e wz ⟨rfl, rfl⟩)
      exact ⟨rfl, meth_no HXX.out (by decide) HB5.out⟩
    · rw [show checkE p = 0 by unfold checkE; cases hq : partsF p; exact absurd hq q1; rfl] at cck
      have hx := HE.out
      rw [if_neg q1] at hx
      have HX1 := Lib.hid hx
      clear hx q1
      refine cck.mono ?_
      rintro e w5 ⟨rfl, hb5⟩
      have HB5 := Lib.hid (HBT.out.trans (hb5.mono HBT.out.size))
      have HK5 := Lib.hid (HKB.out.below hb5)
      have HC7F : Hid (∀ V, Below w5.heap.size w5 V → Copied w2.heap.size V (.slice A3 q3 c3) n.data) := fun V hV => (HC3.out.below (HBW.out.trans ((hb5.trans (hV.mono hb5.size)).mono HBW.out.size)))
      have g57 : w5.cell? ⟨g, 7, none⟩ = some (.bool o.eph) := (HK.out.below HB5.out).cell 7
      have g59 : w5.cell? ⟨g, 9, none⟩ = some (.int .i64 who.site) := (HK.out.below HB5.out).cell 9
      have g510 : w5.cell? ⟨g, 10, none⟩ = some (.int .u32 who.n) := (HK.out.below HB5.out).cell 10
      have g50 : w5.cell? ⟨g, 0, none⟩ = some (.pointer (some tp)) := (HK.out.below HB5.out).cell 0
      clear hb5 cck
      cases up
      · have hx := HX1.out
        rw [if_pos rfl] at hx
        have HXX := Lib.hid hx
        clear hx
        go_wp2_with (go_at_call 77; (with_reducible first | (refine (throw_yes _ _).mono ?_) | (refine (throw_no _ _).mono ?_)); rintro e wz ⟨rfl, rfl⟩)
        exact ⟨rfl, meth_no HXX.out (by decide) HB5.out⟩
      · have hx := HX1.out
        rw [if_neg (by decide)] at hx
        have HX2 := Lib.hid hx
        clear hx
        have b4 : w5.cell? ⟨b, 4, none⟩ = some (.int .i64 n2.site) := HK5.out.cell 4
        have b5 : w5.cell? ⟨b, 5, none⟩ = some (.int .u32 n2.own) := HK5.out.cell 5
        by_cases o1 : n2.site = 0
        · by_cases o2 : n2.own = 0
          · have hx := HX2.out
            rw [if_neg (by rw [← HSO.out.1, ← HSO.out.2]; exact fun h => h.elim (fun h => h o1) (fun h => h o2))] at hx
            have HX4 := Lib.hid hx
            rw [o1] at b4
            rw [o2] at b5
            clear hx o1 o2
            cases he : o.eph
            · rw [he] at g57
              have hx := HX4.out
              rw [if_neg (by rw [he]; exact fun h => by cases h.1)] at hx
              have HX5 := Lib.hid hx
              clear hx
              have cg2 := get_copied p i tp t w5 L X (HT.out.below HB5.out) HI.out HPLN.out
              obtain ⟨there, hth⟩ : ∃ b, b = has t.row p := ⟨_, rfl⟩
              rw [← hth] at cg2 HX5
              clear hth
              go_wp2_with (go_at_call 77; (with_reducible refine (throw_no _ _).mono ?_); rintro e wz ⟨rfl, rfl⟩)
              refine cg2.mono ?_
              rintro e w6 ⟨A6, q6, c6, rfl, hb6, _⟩
              have HB6 := Lib.hid (HB5.out.trans (hb6.mono HB5.out.size))
              have HK6 := Lib.hid (HK5.out.below hb6)
              have HBB6 : Hid (Below w5.heap.size w5 w6) := hb6
              have k60 : w6.cell? ⟨g, 0, none⟩ = some (.pointer (some tp)) := (HK.out.below HB6.out).cell 0
              clear hb6 cg2
              cases there
              · have hx := HX5.out
                rw [if_neg (by decide)] at hx
                have HX6 := Lib.hid hx
                clear hx
                by_cases q5 : 48 ≤ t.row.length
                · have cp := Lib.hid (Paths_any i tp t w6 L X (HT.out.below HB6.out) HI.out)
                  have hq5 : (48 : Int) ≤ (t.row.length : Int) := by omega
                  have hx := HX6.out
                  rw [if_pos q5] at hx
                  have HXX := Lib.hid hx
                  clear hx q5
                  go_wp2_with (go_at_call 77; (with_reducible refine (throw_no _ _).mono ?_); rintro e wz ⟨rfl, rfl⟩)
                  refine cp.out.mono ?_
                  rintro e w7 ⟨A7, c7, rfl, hb7, _⟩
                  have HB7 := Lib.hid (HB6.out.trans (hb7.mono HB6.out.size))
                  clear hb7 cp
                  go_wp2_with (go_at_call 77; (with_reducible refine (throw_yes _ _).mono ?_); rintro e wz ⟨rfl, rfl⟩)
                  exact ⟨rfl, meth_no HXX.out (by decide) HB7.out⟩
                · have hx := HX6.out
                  rw [if_neg q5] at hx
                  have HX7 := Lib.hid hx
                  clear hx
                  have cp := Lib.hid (Paths_any i tp t w6 L X (HT.out.below HB6.out) HI.out)
                  have hq5 : decide ((48 : Int) ≤ (t.row.length : Int)) = false := decide_eq_false (by omega)
                  clear q5
                  go_wp2_with (go_at_call 77; (with_reducible refine (throw_no _ _).mono ?_); rintro e wz ⟨rfl, rfl⟩)
                  refine cp.out.mono ?_
                  rintro e w7 ⟨A7, c7, rfl, hb7, _⟩
                  have HB67 := Lib.hid hb7
                  have HB7 := Lib.hid (HB6.out.trans (hb7.mono HB6.out.size))
                  have HK7 := Lib.hid (HK6.out.below hb7)
                  have HG7 := Lib.hid (HK.out.below HB7.out)
                  have kb7 := HK7.out.cell
                  have HC7 : Hid (Copied w2.heap.size w7 (.slice A3 q3 c3) n2.data) := by
                    show Copied _ _ _ _
                    rw [HSZ.out]
                    exact HC7F.out w7 (HBB6.out.trans (hb7.mono HBB6.out.size))
                  have ct := touch_any (P := fun j => w2.heap.size ≤ j) ab n2 A3 q3 c3 g tp at_ o (.slice Ao ko co) ops who nilS (.no 0) nilS nilS nilS (fun _ => False) [] w7 HG7.out (OwnE.nil_ _ _) (fun j hj => hj.elim) HC7.out.dataS (fun j hj => ⟨by have := HK.out.lt; have := HB2.out.size; omega, fun e => by cases e⟩) (by rw [HSZ.out]; exact HSM.out) (by simp)
                  clear hb7 cp
                  dsimp only [znV, znC] at ct kb7
                  have k70 : w7.cell? ⟨g, 0, none⟩ = some (.pointer (some tp)) := HG7.out.cell 0
                  go_wp2_with (go_at_call 77; (with_reducible refine (throw_no _ _).mono ?_); rintro e wz ⟨rfl, rfl⟩)
                  refine ct.mono ?_
                  rintro e w8 ⟨rfl, d8, ⟨⟨G8, c8, hk8, hoe8, hg8⟩, _, ho8⟩⟩
                  have HK8 := Lib.hid hk8
                  have HOE8 := Lib.hid hoe8
                  have HO8 := Lib.hid ho8
                  have HG8 := Lib.hid hg8
                  have cn := newNode_any Ao ko co g tp at_ o ops who (.slice (some ⟨G8, 0, none⟩) (([] : List Ef).length + 1) c8) (.no 0) nilS nilS nilS w8 hk8
                  clear ct hk8 hoe8 ho8 hg8 kb7
                  go_wp2_with fail
                  refine cn.mono ?_
                  rintro e w9 ⟨rfl, hb9⟩
                  have HB9 := Lib.hid hb9
                  have ho79 : Hid (Out (· = g) w w9) := ((Out.of_below HB7.out).trans HO8.out (fun j hj => .inl (hj.elim id (fun e => by cases e)))).trans (.of_below hb9) (fun j hj => .inl hj)
                  have HO79 := ho79
                  have cpu := put_any (P := P) p (newNode o who at_) Ao ko co g tp at_ o (.slice Ao ko co) ops who (.slice (some ⟨G8, 0, none⟩) (([] : List Ef).length + 1) c8) (.no 0) nilS nilS nilS (fun j => w.heap.size ≤ j) [⟨ab, false, touched n2 at_⟩] w9 (HK8.out.below hb9) ((HOE8.out.mono fun j hj => by
                    rcases hj with hj | hj
                    · exact hj.1.elim
                    · have := HB7.out.size; omega).below hb9) (fun j hj => by have := HK.out.lt; omega) ((HD.out.lt).out HO79.out (fun j hj => HPP.out j hj.1) |>.mono fun j hj => hj.1) (fun j hj => ⟨HPP.out j hj, fun e => HPB.out j hj (by
                      have h1 : j = G8 := (Option.some.inj e).symm
                      have h2 := HG8.out
                      have h3 := HB7.out.size
                      rcases h2 with h2 | h2
                      · cases h2
                      · omega)⟩) HL.out (by simp)
                  clear cn hb9 ho79
                  go_wp2_with fail
                  refine cpu.mono ?_
                  rintro e w10 ⟨d10, rfl, ⟨⟨G10, c10, hk10, hoe10, hg10⟩, hc10, ho10⟩⟩
                  have HOE10 := Lib.hid hoe10
                  have HO10 := Lib.hid ho10
                  have HC10 := Lib.hid hc10
                  obtain ⟨A10, k10, e10, rfl, hcx⟩ := hc10
                  have ca := answer_any p (newNode o who at_) A10 k10 e10 g tp at_ o (.slice Ao ko co) ops who (.slice (some ⟨G10, 0, none⟩) ([(⟨ab, false, touched n2 at_⟩ : Ef)].length + 1) c10) (.no 0) nilS nilS nilS w10 hk10
                  clear cpu hk10 hoe10 ho10 hcx hg10
                  go_wp2_with fail
                  refine ca.mono ?_
                  rintro e w11 ⟨rfl, hk11, ho11⟩
                  have HK11 := Lib.hid hk11
                  have HO11 := Lib.hid ho11
                  clear ca hk11 ho11
                  go_wp2_with fail
                  go_end0
                  exact create_fin HX7.out HK11.out HO79.out HO10.out HO11.out HOE10.out HC10.out HK.out.lt (fun j hj => by
                    have h1 : j = G8 := (Option.some.inj hj).symm
                    have h2 := HG8.out
                    have h3 := HB7.out.size
                    rcases h2 with h2 | h2
                    · cases h2
                    · omega)
              · have hx := HX5.out
                rw [if_pos rfl] at hx
                have HXX := Lib.hid hx
                clear hx
                go_wp2_with (go_at_call 77; (with_reducible first | (refine (throw_yes _ _).mono ?_) | (refine (throw_no _ _).mono ?_)); rintro e wz ⟨rfl, rfl⟩)
                exact ⟨rfl, meth_no HXX.out (by decide) HB6.out⟩
            · rw [he] at g57
              by_cases p1 : who.site = 0
              · by_cases p2 : who.n = 0
                · have hw : who = .none_ := by
                    cases who
                    simp at p1 p2
                    subst p1
                    subst p2
                    rfl
                  have hx := HX4.out
                  rw [if_pos ⟨he, hw⟩] at hx
                  have HXX := Lib.hid hx
                  rw [p1] at g59
                  rw [p2] at g510
                  clear hx p1 p2 hw
                  go_wp2_with (go_at_call 77; (with_reducible first | (refine (throw_yes _ _).mono ?_) | (refine (throw_no _ _).mono ?_)); rintro e wz ⟨rfl, rfl⟩)
                  exact ⟨rfl, meth_no HXX.out (by decide) HB5.out⟩
                · have hnw : ¬ (o.eph = true ∧ who = .none_) := fun h => p2 (by rw [h.2]; rfl)
                  rw [p1] at g59
                  clear p1
                  have hx := HX4.out
                  rw [if_neg hnw] at hx
                  have HX5 := Lib.hid hx
                  clear hx
                  have cg2 := get_copied p i tp t w5 L X (HT.out.below HB5.out) HI.out HPLN.out
                  obtain ⟨there, hth⟩ : ∃ b, b = has t.row p := ⟨_, rfl⟩
                  rw [← hth] at cg2 HX5
                  clear hth
                  go_wp2_with (go_at_call 77; (with_reducible refine (throw_no _ _).mono ?_); rintro e wz ⟨rfl, rfl⟩)
                  refine cg2.mono ?_
                  rintro e w6 ⟨A6, q6, c6, rfl, hb6, _⟩
                  have HB6 := Lib.hid (HB5.out.trans (hb6.mono HB5.out.size))
                  have HK6 := Lib.hid (HK5.out.below hb6)
                  have HBB6 : Hid (Below w5.heap.size w5 w6) := hb6
                  have k60 : w6.cell? ⟨g, 0, none⟩ = some (.pointer (some tp)) := (HK.out.below HB6.out).cell 0
                  clear hb6 cg2
                  cases there
                  · have hx := HX5.out
                    rw [if_neg (by decide)] at hx
                    have HX6 := Lib.hid hx
                    clear hx
                    by_cases q5 : 48 ≤ t.row.length
                    · have cp := Lib.hid (Paths_any i tp t w6 L X (HT.out.below HB6.out) HI.out)
                      have hq5 : (48 : Int) ≤ (t.row.length : Int) := by omega
                      have hx := HX6.out
                      rw [if_pos q5] at hx
                      have HXX := Lib.hid hx
                      clear hx q5
                      go_wp2_with (go_at_call 77; (with_reducible refine (throw_no _ _).mono ?_); rintro e wz ⟨rfl, rfl⟩)
                      refine cp.out.mono ?_
                      rintro e w7 ⟨A7, c7, rfl, hb7, _⟩
                      have HB7 := Lib.hid (HB6.out.trans (hb7.mono HB6.out.size))
                      clear hb7 cp
                      go_wp2_with (go_at_call 77; (with_reducible refine (throw_yes _ _).mono ?_); rintro e wz ⟨rfl, rfl⟩)
                      exact ⟨rfl, meth_no HXX.out (by decide) HB7.out⟩
                    · have hx := HX6.out
                      rw [if_neg q5] at hx
                      have HX7 := Lib.hid hx
                      clear hx
                      have cp := Lib.hid (Paths_any i tp t w6 L X (HT.out.below HB6.out) HI.out)
                      have hq5 : decide ((48 : Int) ≤ (t.row.length : Int)) = false := decide_eq_false (by omega)
                      clear q5
                      go_wp2_with (go_at_call 77; (with_reducible refine (throw_no _ _).mono ?_); rintro e wz ⟨rfl, rfl⟩)
                      refine cp.out.mono ?_
                      rintro e w7 ⟨A7, c7, rfl, hb7, _⟩
                      have HB67 := Lib.hid hb7
                      have HB7 := Lib.hid (HB6.out.trans (hb7.mono HB6.out.size))
                      have HK7 := Lib.hid (HK6.out.below hb7)
                      have HG7 := Lib.hid (HK.out.below HB7.out)
                      have kb7 := HK7.out.cell
                      have HC7 : Hid (Copied w2.heap.size w7 (.slice A3 q3 c3) n2.data) := by
                        show Copied _ _ _ _
                        rw [HSZ.out]
                        exact HC7F.out w7 (HBB6.out.trans (hb7.mono HBB6.out.size))
                      have ct := touch_any (P := fun j => w2.heap.size ≤ j) ab n2 A3 q3 c3 g tp at_ o (.slice Ao ko co) ops who nilS (.no 0) nilS nilS nilS (fun _ => False) [] w7 HG7.out (OwnE.nil_ _ _) (fun j hj => hj.elim) HC7.out.dataS (fun j hj => ⟨by have := HK.out.lt; have := HB2.out.size; omega, fun e => by cases e⟩) (by rw [HSZ.out]; exact HSM.out) (by simp)
                      clear hb7 cp
                      dsimp only [znV, znC] at ct kb7
                      have k70 : w7.cell? ⟨g, 0, none⟩ = some (.pointer (some tp)) := HG7.out.cell 0
                      go_wp2_with (go_at_call 77; (with_reducible refine (throw_no _ _).mono ?_); rintro e wz ⟨rfl, rfl⟩)
                      refine ct.mono ?_
                      rintro e w8 ⟨rfl, d8, ⟨⟨G8, c8, hk8, hoe8, hg8⟩, _, ho8⟩⟩
                      have HK8 := Lib.hid hk8
                      have HOE8 := Lib.hid hoe8
                      have HO8 := Lib.hid ho8
                      have HG8 := Lib.hid hg8
                      have cn := newNode_any Ao ko co g tp at_ o ops who (.slice (some ⟨G8, 0, none⟩) (([] : List Ef).length + 1) c8) (.no 0) nilS nilS nilS w8 hk8
                      clear ct hk8 hoe8 ho8 hg8 kb7
                      go_wp2_with fail
                      refine cn.mono ?_
                      rintro e w9 ⟨rfl, hb9⟩
                      have HB9 := Lib.hid hb9
                      have ho79 : Hid (Out (· = g) w w9) := ((Out.of_below HB7.out).trans HO8.out (fun j hj => .inl (hj.elim id (fun e => by cases e)))).trans (.of_below hb9) (fun j hj => .inl hj)
                      have HO79 := ho79
                      have cpu := put_any (P := P) p (newNode o who at_) Ao ko co g tp at_ o (.slice Ao ko co) ops who (.slice (some ⟨G8, 0, none⟩) (([] : List Ef).length + 1) c8) (.no 0) nilS nilS nilS (fun j => w.heap.size ≤ j) [⟨ab, false, touched n2 at_⟩] w9 (HK8.out.below hb9) ((HOE8.out.mono fun j hj => by
                        rcases hj with hj | hj
                        · exact hj.1.elim
                        · have := HB7.out.size; omega).below hb9) (fun j hj => by have := HK.out.lt; omega) ((HD.out.lt).out HO79.out (fun j hj => HPP.out j hj.1) |>.mono fun j hj => hj.1) (fun j hj => ⟨HPP.out j hj, fun e => HPB.out j hj (by
                          have h1 : j = G8 := (Option.some.inj e).symm
                          have h2 := HG8.out
                          have h3 := HB7.out.size
                          rcases h2 with h2 | h2
                          · cases h2
                          · omega)⟩) HL.out (by simp)
                      clear cn hb9 ho79
                      go_wp2_with fail
                      refine cpu.mono ?_
                      rintro e w10 ⟨d10, rfl, ⟨⟨G10, c10, hk10, hoe10, hg10⟩, hc10, ho10⟩⟩
                      have HOE10 := Lib.hid hoe10
                      have HO10 := Lib.hid ho10
                      have HC10 := Lib.hid hc10
                      obtain ⟨A10, k10, e10, rfl, hcx⟩ := hc10
                      have ca := answer_any p (newNode o who at_) A10 k10 e10 g tp at_ o (.slice Ao ko co) ops who (.slice (some ⟨G10, 0, none⟩) ([(⟨ab, false, touched n2 at_⟩ : Ef)].length + 1) c10) (.no 0) nilS nilS nilS w10 hk10
                      clear cpu hk10 hoe10 ho10 hcx hg10
                      go_wp2_with fail
                      refine ca.mono ?_
                      rintro e w11 ⟨rfl, hk11, ho11⟩
                      have HK11 := Lib.hid hk11
                      have HO11 := Lib.hid ho11
                      clear ca hk11 ho11
                      go_wp2_with fail
                      go_end0
                      exact create_fin HX7.out HK11.out HO79.out HO10.out HO11.out HOE10.out HC10.out HK.out.lt (fun j hj => by
                        have h1 : j = G8 := (Option.some.inj hj).symm
                        have h2 := HG8.out
                        have h3 := HB7.out.size
                        rcases h2 with h2 | h2
                        · cases h2
                        · omega)
                  · have hx := HX5.out
                    rw [if_pos rfl] at hx
                    have HXX := Lib.hid hx
                    clear hx
                    go_wp2_with (go_at_call 77; (with_reducible first | (refine (throw_yes _ _).mono ?_) | (refine (throw_no _ _).mono ?_)); rintro e wz ⟨rfl, rfl⟩)
                    exact ⟨rfl, meth_no HXX.out (by decide) HB6.out⟩
              · have hnw : ¬ (o.eph = true ∧ who = .none_) := fun h => p1 (by rw [h.2]; rfl)
                have hx := HX4.out
                rw [if_neg hnw] at hx
                have HX5 := Lib.hid hx
                clear hx
                have cg2 := get_copied p i tp t w5 L X (HT.out.below HB5.out) HI.out HPLN.out
                obtain ⟨there, hth⟩ : ∃ b, b = has t.row p := ⟨_, rfl⟩
                rw [← hth] at cg2 HX5
                clear hth
                go_wp2_with (go_at_call 77; (with_reducible refine (throw_no _ _).mono ?_); rintro e wz ⟨rfl, rfl⟩)
                refine cg2.mono ?_
                rintro e w6 ⟨A6, q6, c6, rfl, hb6, _⟩
                have HB6 := Lib.hid (HB5.out.trans (hb6.mono HB5.out.size))
                have HK6 := Lib.hid (HK5.out.below hb6)
                have HBB6 : Hid (Below w5.heap.size w5 w6) := hb6
                have k60 : w6.cell? ⟨g, 0, none⟩ = some (.pointer (some tp)) := (HK.out.below HB6.out).cell 0
                clear hb6 cg2
                cases there
                · have hx := HX5.out
                  rw [if_neg (by decide)] at hx
                  have HX6 := Lib.hid hx
                  clear hx
                  by_cases q5 : 48 ≤ t.row.length
                  · have cp := Lib.hid (Paths_any i tp t w6 L X (HT.out.below HB6.out) HI.out)
                    have hq5 : (48 : Int) ≤ (t.row.length : Int) := by omega
                    have hx := HX6.out
                    rw [if_pos q5] at hx
                    have HXX := Lib.hid hx
                    clear hx q5
                    go_wp2_with (go_at_call 77; (with_reducible refine (throw_no _ _).mono ?_); rintro e wz ⟨rfl, rfl⟩)
                    refine cp.out.mono ?_
                    rintro e w7 ⟨A7, c7, rfl, hb7, _⟩
                    have HB7 := Lib.hid (HB6.out.trans (hb7.mono HB6.out.size))
                    clear hb7 cp
                    go_wp2_with (go_at_call 77; (with_reducible refine (throw_yes _ _).mono ?_); rintro e wz ⟨rfl, rfl⟩)
                    exact ⟨rfl, meth_no HXX.out (by decide) HB7.out⟩
                  · have hx := HX6.out
                    rw [if_neg q5] at hx
                    have HX7 := Lib.hid hx
                    clear hx
                    have cp := Lib.hid (Paths_any i tp t w6 L X (HT.out.below HB6.out) HI.out)
                    have hq5 : decide ((48 : Int) ≤ (t.row.length : Int)) = false := decide_eq_false (by omega)
                    clear q5
                    go_wp2_with (go_at_call 77; (with_reducible refine (throw_no _ _).mono ?_); rintro e wz ⟨rfl, rfl⟩)
                    refine cp.out.mono ?_
                    rintro e w7 ⟨A7, c7, rfl, hb7, _⟩
                    have HB67 := Lib.hid hb7
                    have HB7 := Lib.hid (HB6.out.trans (hb7.mono HB6.out.size))
                    have HK7 := Lib.hid (HK6.out.below hb7)
                    have HG7 := Lib.hid (HK.out.below HB7.out)
                    have kb7 := HK7.out.cell
                    have HC7 : Hid (Copied w2.heap.size w7 (.slice A3 q3 c3) n2.data) := by
                      show Copied _ _ _ _
                      rw [HSZ.out]
                      exact HC7F.out w7 (HBB6.out.trans (hb7.mono HBB6.out.size))
                    have ct := touch_any (P := fun j => w2.heap.size ≤ j) ab n2 A3 q3 c3 g tp at_ o (.slice Ao ko co) ops who nilS (.no 0) nilS nilS nilS (fun _ => False) [] w7 HG7.out (OwnE.nil_ _ _) (fun j hj => hj.elim) HC7.out.dataS (fun j hj => ⟨by have := HK.out.lt; have := HB2.out.size; omega, fun e => by cases e⟩) (by rw [HSZ.out]; exact HSM.out) (by simp)
                    clear hb7 cp
                    dsimp only [znV, znC] at ct kb7
                    have k70 : w7.cell? ⟨g, 0, none⟩ = some (.pointer (some tp)) := HG7.out.cell 0
                    go_wp2_with (go_at_call 77; (with_reducible refine (throw_no _ _).mono ?_); rintro e wz ⟨rfl, rfl⟩)
                    refine ct.mono ?_
                    rintro e w8 ⟨rfl, d8, ⟨⟨G8, c8, hk8, hoe8, hg8⟩, _, ho8⟩⟩
                    have HK8 := Lib.hid hk8
                    have HOE8 := Lib.hid hoe8
                    have HO8 := Lib.hid ho8
                    have HG8 := Lib.hid hg8
                    have cn := newNode_any Ao ko co g tp at_ o ops who (.slice (some ⟨G8, 0, none⟩) (([] : List Ef).length + 1) c8) (.no 0) nilS nilS nilS w8 hk8
                    clear ct hk8 hoe8 ho8 hg8 kb7
                    go_wp2_with fail
                    refine cn.mono ?_
                    rintro e w9 ⟨rfl, hb9⟩
                    have HB9 := Lib.hid hb9
                    have ho79 : Hid (Out (· = g) w w9) := ((Out.of_below HB7.out).trans HO8.out (fun j hj => .inl (hj.elim id (fun e => by cases e)))).trans (.of_below hb9) (fun j hj => .inl hj)
                    have HO79 := ho79
                    have cpu := put_any (P := P) p (newNode o who at_) Ao ko co g tp at_ o (.slice Ao ko co) ops who (.slice (some ⟨G8, 0, none⟩) (([] : List Ef).length + 1) c8) (.no 0) nilS nilS nilS (fun j => w.heap.size ≤ j) [⟨ab, false, touched n2 at_⟩] w9 (HK8.out.below hb9) ((HOE8.out.mono fun j hj => by
                      rcases hj with hj | hj
                      · exact hj.1.elim
                      · have := HB7.out.size; omega).below hb9) (fun j hj => by have := HK.out.lt; omega) ((HD.out.lt).out HO79.out (fun j hj => HPP.out j hj.1) |>.mono fun j hj => hj.1) (fun j hj => ⟨HPP.out j hj, fun e => HPB.out j hj (by
                        have h1 : j = G8 := (Option.some.inj e).symm
                        have h2 := HG8.out
                        have h3 := HB7.out.size
                        rcases h2 with h2 | h2
                        · cases h2
                        · omega)⟩) HL.out (by simp)
                    clear cn hb9 ho79
                    go_wp2_with fail
                    refine cpu.mono ?_
                    rintro e w10 ⟨d10, rfl, ⟨⟨G10, c10, hk10, hoe10, hg10⟩, hc10, ho10⟩⟩
                    have HOE10 := Lib.hid hoe10
                    have HO10 := Lib.hid ho10
                    have HC10 := Lib.hid hc10
                    obtain ⟨A10, k10, e10, rfl, hcx⟩ := hc10
                    have ca := answer_any p (newNode o who at_) A10 k10 e10 g tp at_ o (.slice Ao ko co) ops who (.slice (some ⟨G10, 0, none⟩) ([(⟨ab, false, touched n2 at_⟩ : Ef)].length + 1) c10) (.no 0) nilS nilS nilS w10 hk10
                    clear cpu hk10 hoe10 ho10 hcx hg10
                    go_wp2_with fail
                    refine ca.mono ?_
                    rintro e w11 ⟨rfl, hk11, ho11⟩
                    have HK11 := Lib.hid hk11
                    have HO11 := Lib.hid ho11
                    clear ca hk11 ho11
                    go_wp2_with fail
                    go_end0
                    exact create_fin HX7.out HK11.out HO79.out HO10.out HO11.out HOE10.out HC10.out HK.out.lt (fun j hj => by
                      have h1 : j = G8 := (Option.some.inj hj).symm
                      have h2 := HG8.out
                      have h3 := HB7.out.size
                      rcases h2 with h2 | h2
                      · cases h2
                      · omega)
                · have hx := HX5.out
                  rw [if_pos rfl] at hx
                  have HXX := Lib.hid hx
                  clear hx
                  go_wp2_with (go_at_call 77; (with_reducible first | (refine (throw_yes _ _).mono ?_) | (refine (throw_no _ _).mono ?_)); rintro e wz ⟨rfl, rfl⟩)
                  exact ⟨rfl, meth_no HXX.out (by decide) HB6.out⟩
          · have hx := HX2.out
            rw [if_pos (by rw [← HSO.out.1, ← HSO.out.2]; exact .inr o2)] at hx
            have HXX := Lib.hid hx
            rw [o1] at b4
            clear hx o1
            go_wp2_with (go_at_call 77; (with_reducible first | (refine (throw_yes _ _).mono ?_) | (refine (throw_no _ _).mono ?_)); rintro e wz ⟨rfl, rfl⟩)
            exact ⟨rfl, meth_no HXX.out (by decide) HB5.out⟩
        · have hx := HX2.out
          rw [if_pos (by rw [← HSO.out.1, ← HSO.out.2]; exact .inl o1)] at hx
          have HXX := Lib.hid hx
          clear hx
          go_wp2_with (go_at_call 77; (with_reducible first | (refine (throw_yes _ _).mono ?_) | (refine (throw_no _ _).mono ?_)); rintro e wz ⟨rfl, rfl⟩)
          exact ⟨rfl, meth_no HXX.out (by decide) HB5.out⟩
end Go.Proofs.YtplbckibogmicaaGreatDoor.Opn
