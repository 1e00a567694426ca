/- Two addresses are compared -/
import Derived.Test.YtephciglcikllaaNetTwo
namespace Go.Proofs.Ytephciglcikllaa.Net
open Go.ChangeShapes Go.WideShapes Go.ChangeAt Go.RowKit Disk Zab Sto Net
theorem eq_addr (g n : Int) (a : Ad) (V : World) : (binOp .eql 34 (.agg #[.int .i64 g, .int .i64 n]) (.agg #[.int .i64 a.g, .int .i64 a.n])).run Try.prog V = .ok (.bool (decide ((⟨g, n⟩ : Ad) = a))) V := by
  obtain ⟨ag, an⟩ := a
  have he := fun (x y : Int) => run_equalIn_int (P := Try.prog) V 9998 3 .i64 .i64 x y (by rfl)
  rw [run_eql_struct]
  show ((Op.equalIn (9999 + 1) _ _ _).run _ _).andThen _ = _
  rw [run_equalIn_agg V 9999 34 _ _ (by rfl) (by kernel_rfl)]
  have hf : (Program.fieldsOf Try.prog 34).toList.map (fun f => (decide (f.name ≠ "_"), f.type, f.offset)) = [(true, 3, 0), (true, 3, 1)] := by decide
  generalize (Program.fieldsOf Try.prog 34).toList = fs at hf
  obtain ⟨f1, f2, rfl⟩ : ∃ f1 f2, fs = [f1, f2] := by
    have hl := congrArg List.length hf
    simp only [List.length_map, List.length_cons, List.length_nil] at hl
    match fs, hl with | [f1, f2], _ => exact ⟨f1, f2, rfl⟩
  simp only [List.map_cons, List.map_nil, List.cons.injEq, Prod.mk.injEq, and_true, decide_eq_true_eq] at hf
  obtain ⟨⟨a1, a2, a3⟩, b1, b2, b3⟩ := hf
  have p0 : ∀ (x y : Int), (part 3 #[Value.int .i64 x, Value.int .i64 y] 0).run Try.prog V = .ok (.int .i64 x) V := fun x y => by rfl
  have p1 : ∀ (x y : Int), (part 3 #[Value.int .i64 x, Value.int .i64 y] 1).run Try.prog V = .ok (.int .i64 y) V := fun x y => by rfl
  rw [Op.eqFields, if_pos a1, a2, a3, Op.eqFields, if_pos b1, b2, b3, Op.eqFields]
  by_cases h1 : g = ag <;> by_cases h2 : n = an <;> simp [p0, p1, he, h1, h2]
end Go.Proofs.Ytephciglcikllaa.Net
