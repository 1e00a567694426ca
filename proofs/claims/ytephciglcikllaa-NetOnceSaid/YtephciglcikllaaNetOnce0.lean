/- NetOnce's facts: a letter's key; a map that counts. -/
import Derived.Test.YtephciglcikllaaNetWant
import Derived.Test.YtephciglcikllaaNetDoes
namespace Go.Proofs.Ytephciglcikllaa.netOnce
open Go.RowKit Disk Zab Sto Net

def byteOf (x : Int) : UInt8 := UInt8.ofNat (x % 256).toNat
theorem byteOf_U (x : Int) : (Value.int .u8 (x % 256)) = U (byteOf x) := by
  unfold U byteOf
  have h1 : 0 ≤ x % 256 := Int.emod_nonneg _ (by decide)
  have h2 : x % 256 < 256 := Int.emod_lt_of_pos _ (by decide)
  congr 1
  rw [UInt8.toNat_ofNat']
  omega
def keyB (l : Lt) : List UInt8 := [byteOf l.fr.g, byteOf l.fr.n, byteOf l.to.g, byteOf l.to.n] ++ l.bs
theorem S_app' (a b : List UInt8) : S a ++ S b = S (a ++ b) := by
  simp [S, ByteArray.ext_iff]
def KeyP (l : Lt) (w : World) (e : Ending) (w' : World) : Prop := e = .returned (.string (S (keyB l))) ∧ Below w.heap.size w w'
set_option maxRecDepth 8000 in
theorem key_any {l : Lt} {B : Option Addr} {m c : Nat} {w : World} (hr : Rd w B m l.bs) (hlen : l.bs.length ≤ 2097152) : Calls Try.prog 21 #[ltV l (.slice B m c)] w (KeyP l w) := by
  have hB : Below w.heap.size w (w.alloc (.cells (ltA l (.slice B m c)) 37)) := (Below.refl _ _).alloc (Nat.le_refl _) _
  have hB2 : Below w.heap.size w ((w.alloc (.cells (ltA l (.slice B m c)) 37)).alloc (.cells #[U (byteOf l.fr.g), U (byteOf l.fr.n), U (byteOf l.to.g), U (byteOf l.to.n)] 5)) := hB.alloc (by simp) _
  have hk := rd_lit (w.alloc (.cells (ltA l (.slice B m c)) 37)) 5 (0, 0) [byteOf l.fr.g, byteOf l.fr.n, byteOf l.to.g, byteOf l.to.n]
  have s1 := conv_string hk 4
  have s2 := conv_string (hr.below hB2) c
  have e : ([byteOf l.fr.g, byteOf l.fr.n, byteOf l.to.g, byteOf l.to.n].map U).toArray = #[U (byteOf l.fr.g), U (byteOf l.fr.n), U (byteOf l.to.g), U (byteOf l.to.n)] := rfl
  rw [e] at s1
  have bk := Bk.new w 37 (ltA l (.slice B m c))
  obtain ⟨k0, k1, k2, k3, k4⟩ := bk_cells5 bk
  have k4' := (bk.alloc (.cells #[U (byteOf l.fr.g), U (byteOf l.fr.n), U (byteOf l.to.g), U (byteOf l.to.n)] 5)).cell 4
  have k4'' : ((w.alloc (.cells (ltA l (.slice B m c)) 37)).alloc (.cells #[U (byteOf l.fr.g), U (byteOf l.fr.n), U (byteOf l.to.g), U (byteOf l.to.n)] 5)).cell? ⟨w.heap.size, 4, none⟩ = some (.slice B m c) := k4'
  have HB2 := Lib.hid hB2
  have HS := Lib.hid (S_app' [byteOf l.fr.g, byteOf l.fr.n, byteOf l.to.g, byteOf l.to.n] l.bs)
  simp only [List.length_cons, List.length_nil, Nat.reduceAdd] at s1
  rw [World.size_alloc] at s1
  simp only [← byteOf_U] at s1 s2 k4'' HB2
  unfold ltV
  unfold ltA at *
  clear hB hB2 hk e bk k4'
  obtain ⟨sa, hsa⟩ : ∃ sa, sa = S [byteOf l.fr.g, byteOf l.fr.n, byteOf l.to.g, byteOf l.to.n] := ⟨_, rfl⟩
  obtain ⟨sb, hsb⟩ : ∃ sb, sb = S l.bs := ⟨_, rfl⟩
  rw [← hsa] at s1 HS
  rw [← hsb] at s2 HS
  have HE : Hid (sa ++ sb = S (keyB l)) := HS.out
  have hno : ¬ 9223372036854775807 < sa.size + sb.size := by
    have e1 : sa.size = 4 := by rw [hsa]; simp [S, ByteArray.size]
    have e2 : sb.size = l.bs.length := by rw [hsb]; simp [S, ByteArray.size]
    omega
  have hadd : ∀ V : World, (Op.stringOp .add sa sb).run Try.prog V = .ok (.string (sa ++ sb)) V := fun V => run_string_add_sum V sa sb (by omega)
  clear HS hsa hsb hno
  go_enter Try.func21, Try.ntmps21
  go_wp2_with fail
  go_ret
  exact ⟨by show Ending.returned (.string (sa ++ sb)) = _; rw [HE.out], HB2.out⟩
/-- The map's keys: texts. -/
theorem str_lit {x : List UInt8} (hx : x.length ≤ 3000000) : keyOf Try.prog 9 (.string (S x)) = some (.string (S x).data.toList) := by
  have e : (S x).size = x.length := by simp [S, ByteArray.size]
  exact Go.WideMaps.keyOf_string_mk ty_string (by rw [e]; unfold maxLen; omega)
def strT : KeyT (List UInt8) 9 := ⟨fun b => .string (S b), fun b => b.length ≤ 3000000, Go.Maps.string_keyed ty_string, fun x hx => ⟨_, str_lit hx⟩, fun x y h => by injection h with h; exact S_inj.1 h⟩
theorem under_cnt : Try.prog.underlying 54 = some (.map 9 3) := by kernel_rfl
theorem zero_int (w : World) : (zeroValue 3).run Try.prog w = .ok (.int .i64 0) w := by kernel_rfl
/-- How many of the letters have the key. -/
def cnt (ls : List Lt) (k : List UInt8) : Nat := (ls.filter fun l => decide (keyB l = k)).length
theorem cnt_nil (k : List UInt8) : cnt [] k = 0 := rfl
theorem cnt_snoc (ls : List Lt) (x : Lt) (k : List UInt8) : cnt (ls ++ [x]) k = cnt ls k + if k = keyB x then 1 else 0 := by
  unfold cnt
  rw [List.filter_append, List.length_append]
  congr 1
  by_cases h : k = keyB x
  · subst h; simp
  · have : ¬ keyB x = k := fun e => h e.symm
    simp [h, this]
theorem cnt_cons (ls : List Lt) (x : Lt) (k : List UInt8) : cnt (x :: ls) k = cnt ls k + if k = keyB x then 1 else 0 := by
  unfold cnt
  by_cases h : k = keyB x
  · subst h; simp
  · have : ¬ keyB x = k := fun e => h e.symm
    simp [h, this]
theorem cnt_erase : ∀ (ls : List Lt) (i : Nat) (x : Lt) (k : List UInt8), ls[i]? = some x → cnt ls k = cnt (ls.eraseIdx i) k + if k = keyB x then 1 else 0
  | [], _, _, _, h => by simp at h
  | y :: ls, 0, x, k, h => by
    simp at h
    subst h
    rw [cnt_cons]
    rfl
  | y :: ls, i + 1, x, k, h => by
    simp at h
    have := cnt_erase ls i x k h
    rw [List.eraseIdx_cons_succ, cnt_cons, cnt_cons, this]
    omega
theorem cnt_drop (ls : List Lt) (i : Nat) (x : Lt) (k : List UInt8) (h : ls[i]? = some x) : cnt (ls.drop i) k = cnt (ls.drop (i + 1)) k + if k = keyB x then 1 else 0 := by
  have hi := (List.getElem?_eq_some_iff.1 h)
  obtain ⟨h1, h2⟩ := hi
  rw [List.drop_eq_getElem_cons h1, cnt_cons, h2]
theorem cnt_le (ls : List Lt) (k : List UInt8) : cnt ls k ≤ ls.length := List.length_filter_le _ _
theorem key_len {z : Nt} (h : z.Ok) {x : Lt} (hx : x ∈ z.row) : (keyB x).length ≤ 3000000 := by
  have := (h.each x hx).2
  show (_ ++ x.bs).length ≤ _
  rw [List.length_append]
  show 4 + _ ≤ _
  omega
/-- The map at block b counts the letters. -/
def MapC (w : World) (b : Nat) (ls : List Lt) (c : Nat) : Prop := ∃ f D, KMap strT w b f c D ∧ ∀ k, (f k).getD (.int .i64 0) = .int .i64 (cnt ls k : Int)
theorem MapC.lt {w : World} {b c : Nat} {ls : List Lt} (h : MapC w b ls c) : b < w.heap.size := by obtain ⟨f, D, h, _⟩ := h; exact h.lt
theorem MapC.out {w w' : World} {b c : Nat} {ls : List Lt} {X : Nat → Prop} (h : MapC w b ls c) (ho : Out X w w') (hx : ¬ X b) : MapC w' b ls c := by
  obtain ⟨f, D, h1, h2⟩ := h
  exact ⟨f, D, h1.out ho hx, h2⟩
theorem MapC.below {w w' : World} {b c : Nat} {ls : List Lt} (h : MapC w b ls c) (hb : Below w.heap.size w w') : MapC w' b ls c := by
  obtain ⟨f, D, h1, h2⟩ := h
  exact ⟨f, D, h1.below hb, h2⟩
theorem MapC.mono {w : World} {b c c' : Nat} {ls : List Lt} (h : MapC w b ls c) (hc : c ≤ c') : MapC w b ls c' := by
  obtain ⟨f, D, h1, h2⟩ := h
  exact ⟨f, D, h1.mono hc, h2⟩
theorem MapC.same {w : World} {b c : Nat} {ls ks : List Lt} (h : MapC w b ls c) (hk : ∀ k, cnt ls k = cnt ks k) : MapC w b ks c := by
  obtain ⟨f, D, h1, h2⟩ := h
  exact ⟨f, D, h1, fun k => by rw [h2 k, hk k]⟩
theorem MapC.new (w : World) : MapC (w.alloc (.map #[] 0)) w.heap.size [] 0 := ⟨_, _, KMap.new strT w, fun _ => rfl⟩
theorem MapC.look {w : World} {b c : Nat} {ls : List Lt} (h : MapC w b ls c) (k : List UInt8) (hlen : k.length ≤ 3000000) : (Instr.lookup 54 (.map (some b)) (.string (S k)) false).run Try.prog w = .ok (.int .i64 (cnt ls k : Int)) w := by
  obtain ⟨f, D, h1, h2⟩ := h
  have := (h1.look under_cnt (zero_int w) k hlen).1
  rw [h2 k] at this
  exact this
theorem MapC.put {w : World} {b c : Nat} {ls ks : List Lt} (h : MapC w b ls c) (k : List UInt8) (hk : ∀ j, j ≠ k → cnt ls j = cnt ks j) (hc : c < 1000000) (hlen : k.length ≤ 3000000) : ∃ w', (Instr.mapUpdate 54 (.map (some b)) (.string (S k)) (.int .i64 (cnt ks k : Int))).run Try.prog w = .ok () w' ∧ MapC w' b ks (c + 1) ∧ Out (fun i => i = b) w w' := by
  obtain ⟨f, D, h1, h2⟩ := h
  obtain ⟨w', D', q1, q2, q3⟩ := h1.put under_cnt k hlen (.int .i64 (cnt ks k : Int)) hc
  refine ⟨w', q1, ⟨_, D', q2, fun j => ?_⟩, q3⟩
  unfold kput
  by_cases hj : j = k
  · subst hj
    rw [if_pos rfl]
    rfl
  · rw [if_neg hj, h2 j, hk j hj]
/-- What a map's change leaves: the net, the letters. -/
theorem sn_map {w0 w w' : World} {O : Nat → Prop} {gz : Nat} {z : Nt} {N b : Nat} (h : Sn w0 w O gz z N) (ho : Out (fun i => i = b) w w') (hb : ¬ O b) (hl : w0.heap.size ≤ b) : Sn w0 w' O gz z N :=
  h.out ho fun _ e => by subst e; exact ⟨hb, hl⟩
/-- An act that is refused changes nothing. -/
theorem act_no {z : Nt} {x : A1} (hok : z.Ok) (h : (z.act x).2.2 ≠ 0) : (z.act x).1 = z := by
  have hsend : ∀ l, (z.send l).2 ≠ 0 → (z.send l).1 = z := fun l hl => by
    rcases send_cases z l with ⟨q, _⟩ | ⟨_, q⟩
    · exact absurd q hl
    · exact q
  have hadd : ∀ (y : Nt) l, (y.add l).2 ≠ 0 → (y.add l).1 = y := fun y l => by
    unfold Nt.add
    split
    · exact fun _ => rfl
    · exact fun q => absurd rfl q
  have hturn : ∀ a b v, (z.turn a b v).2 ≠ 0 → (z.turn a b v).1 = z := fun a b v => by
    unfold Nt.turn
    split
    · exact fun _ => rfl
    · exact fun q => absurd rfl q
  have hlt : x.do_ % 7 < 7 := Nat.mod_lt _ (by decide)
  obtain q | q | q | q | q | q | q : x.do_ % 7 = 0 ∨ x.do_ % 7 = 1 ∨ x.do_ % 7 = 2 ∨ x.do_ % 7 = 3 ∨ x.do_ % 7 = 4 ∨ x.do_ % 7 = 5 ∨ x.do_ % 7 = 6 := by omega
  · rw [act_0 q] at h ⊢
    exact hsend _ h
  · rw [act_1 q] at h ⊢
    revert h
    unfold Nt.take
    split
    · exact fun _ => rfl
    · split
      · exact fun _ => rfl
      · exact fun q => absurd rfl q
  · rw [act_2 q] at h ⊢
    revert h
    unfold Nt.drop
    split
    · exact fun _ => rfl
    · exact fun q => absurd rfl q
  · rw [act_3 q] at h ⊢
    revert h
    unfold Nt.double
    split
    · exact fun _ => rfl
    · exact hadd _ _
  · rw [act_4 q] at h ⊢
    revert h
    unfold Nt.hold
    split
    · exact fun _ => rfl
    · rename_i hk
      have hk : z.okAt x.i = true := by simpa using hk
      obtain ⟨k, hk1, hk2⟩ := okAt_iff.1 hk
      have hf := hok.few
      intro h
      exfalso
      apply h
      unfold Nt.add
      rw [if_neg (by show ¬ 4096 ≤ (z.row.eraseIdx _).length; rw [List.length_eraseIdx]; rw [hk1, Int.toNat_natCast, if_pos hk2]; omega)]
  · rw [act_5 q] at h ⊢
    exact hturn _ _ _ h
  · rw [act_6 q] at h ⊢
    exact hturn _ _ _ h
/-- What an act does that is done. -/
theorem done_0 {z : Nt} {x : A1} (q : x.do_ % 7 = 0) (h : (z.act x).2.2 = 0) : (z.act x).1.row = z.row ++ [x.l] := by
  rw [act_0 q] at h ⊢
  rcases send_cases z x.l with ⟨_, e⟩ | ⟨e, _⟩
  · show (z.send x.l).1.row = _
    rw [e]
  · exact absurd h e
theorem done_i {z : Nt} {x : A1} (q1 : 0 < x.do_ % 7) (q2 : x.do_ % 7 < 5) (h : (z.act x).2.2 = 0) : ∃ k : Nat, x.i = (k : Int) ∧ k < z.row.length := by
  refine okAt_iff.1 ?_
  obtain q | q | q | q : x.do_ % 7 = 1 ∨ x.do_ % 7 = 2 ∨ x.do_ % 7 = 3 ∨ x.do_ % 7 = 4 := by omega
  · rw [act_1 q] at h
    cases ho : z.okAt x.i
    · unfold Nt.take at h; rw [if_pos ho] at h; cases h
    · rfl
  · rw [act_2 q] at h
    cases ho : z.okAt x.i
    · unfold Nt.drop at h; rw [if_pos ho] at h; cases h
    · rfl
  · rw [act_3 q] at h
    cases ho : z.okAt x.i
    · unfold Nt.double at h; rw [if_pos ho] at h; cases h
    · rfl
  · rw [act_4 q] at h
    cases ho : z.okAt x.i
    · unfold Nt.hold at h; rw [if_pos ho] at h; cases h
    · rfl
theorem getD_at {ls : List Lt} {k : Nat} {y : Lt} (h : ls[k]? = some y) : ls.getD ((k : Nat) : Int).toNat lt0 = y := by
  rw [Int.toNat_natCast, List.getD_eq_getElem?_getD, h]
  rfl
theorem ok_at {z : Nt} {k : Nat} {y : Lt} (h : z.row[k]? = some y) : ¬ z.okAt (k : Int) = false := by
  rw [okAt_iff.2 ⟨k, rfl, (List.getElem?_eq_some_iff.1 h).1⟩]
  simp
theorem done_1 {z : Nt} {x : A1} {k : Nat} {y : Lt} (q : x.do_ % 7 = 1) (hi : x.i = (k : Int)) (hy : z.row[k]? = some y) (h : (z.act x).2.2 = 0) : (z.act x).1.row = z.row.eraseIdx k ∧ (z.act x).2.1 = y := by
  rw [act_1 q, hi] at h ⊢
  revert h
  unfold Nt.take
  rw [if_neg (ok_at hy), getD_at hy]
  split
  · intro h; cases h
  · exact fun _ => ⟨rfl, rfl⟩
theorem done_2 {z : Nt} {x : A1} {k : Nat} {y : Lt} (q : x.do_ % 7 = 2) (hi : x.i = (k : Int)) (hy : z.row[k]? = some y) : (z.act x).1.row = z.row.eraseIdx k := by
  rw [act_2 q, hi]
  unfold Nt.drop
  rw [if_neg (ok_at hy)]
  rfl
theorem done_3 {z : Nt} {x : A1} {k : Nat} {y : Lt} (q : x.do_ % 7 = 3) (hi : x.i = (k : Int)) (hy : z.row[k]? = some y) (h : (z.act x).2.2 = 0) : (z.act x).1.row = z.row ++ [y] := by
  rw [act_3 q, hi] at h ⊢
  revert h
  unfold Nt.double
  rw [if_neg (ok_at hy), getD_at hy]
  unfold Nt.add
  split
  · intro h; cases h
  · exact fun _ => rfl
theorem done_4 {z : Nt} {x : A1} {k : Nat} {y : Lt} (q : x.do_ % 7 = 4) (hi : x.i = (k : Int)) (hy : z.row[k]? = some y) (h : (z.act x).2.2 = 0) : (z.act x).1.row = z.row.eraseIdx k ++ [y] := by
  rw [act_4 q, hi] at h ⊢
  revert h
  unfold Nt.hold
  rw [if_neg (ok_at hy), getD_at hy]
  unfold Nt.add
  split
  · intro h; cases h
  · exact fun _ => rfl
theorem done_56 {z : Nt} {x : A1} (q : x.do_ % 7 = 5 ∨ x.do_ % 7 = 6) : (z.act x).1.row = z.row := by
  rcases q with q | q
  · rw [act_5 q]
    show (z.turn _ _ _).1.row = _
    unfold Nt.turn
    split <;> rfl
  · rw [act_6 q]
    show (z.turn _ _ _).1.row = _
    unfold Nt.turn
    split <;> rfl
/-- 'm[k]++', 'm[k]--'. -/
theorem MapC.up {w : World} {b c : Nat} {ls ks : List Lt} {x : Lt} (h : MapC w b ls c) (hk : ∀ k, cnt ks k = cnt ls k + if k = keyB x then 1 else 0) (hc : c < 1000000) (hlen : (keyB x).length ≤ 3000000) : ∃ (v : Nat) (w' : World), v ≤ ls.length ∧ (Instr.lookup 54 (.map (some b)) (.string (S (keyB x))) false).run Try.prog w = .ok (.int .i64 (v : Int)) w ∧ (Instr.mapUpdate 54 (.map (some b)) (.string (S (keyB x))) (.int .i64 ((v : Int) + 1))).run Try.prog w = .ok () w' ∧ MapC w' b ks (c + 1) ∧ Out (fun i => i = b) w w' := by
  obtain ⟨w', q1, q2, q3⟩ := h.put (ks := ks) (keyB x) (fun j hj => by rw [hk j, if_neg hj]; rfl) hc hlen
  rw [hk (keyB x), if_pos rfl] at q1
  exact ⟨cnt ls (keyB x), w', cnt_le _ _, h.look _ hlen, q1, q2, q3⟩
theorem MapC.dn {w : World} {b c : Nat} {ls ks : List Lt} {x : Lt} (h : MapC w b ls c) (hk : ∀ k, cnt ls k = cnt ks k + if k = keyB x then 1 else 0) (hc : c < 1000000) (hlen : (keyB x).length ≤ 3000000) : ∃ (v : Nat) (w' : World), v ≤ ls.length ∧ 1 ≤ v ∧ (Instr.lookup 54 (.map (some b)) (.string (S (keyB x))) false).run Try.prog w = .ok (.int .i64 (v : Int)) w ∧ (Instr.mapUpdate 54 (.map (some b)) (.string (S (keyB x))) (.int .i64 ((v : Int) - 1))).run Try.prog w = .ok () w' ∧ MapC w' b ks (c + 1) ∧ Out (fun i => i = b) w w' := by
  obtain ⟨w', q1, q2, q3⟩ := h.put (ks := ks) (keyB x) (fun j hj => by rw [hk j, if_neg hj]; rfl) hc hlen
  have e := hk (keyB x)
  rw [if_pos rfl] at e
  have e2 : (cnt ks (keyB x) : Int) = (cnt ls (keyB x) : Int) - 1 := by omega
  rw [e2] at q1
  exact ⟨cnt ls (keyB x), w', cnt_le _ _, by omega, h.look _ hlen, q1, q2, q3⟩
end Go.Proofs.Ytephciglcikllaa.netOnce
