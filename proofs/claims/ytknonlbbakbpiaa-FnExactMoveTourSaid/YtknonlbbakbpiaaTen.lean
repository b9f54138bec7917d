/- '==' of arrays of ten integers. -/
import Derived.Test.YtknonlbbakbpiaaNumB
import Derived.ChangeKeysEq
import Derived.Laws.StructEq
import Derived.WalkSpells
namespace Go.Proofs.Ytknonlbbakbpiaa
open Go.RowKit Go.ChangeShapes Go.WideShapes

theorem num10 : numL 10 = [0, 1, 2, 3, 4, 5, 6, 7, 8, 9] := by decide
set_option maxHeartbeats 4000000 in
theorem run_eqTen (y0 y1 y2 y3 y4 y5 y6 y7 y8 y9 : Int) (w : World) : (Op.equalIn 10000 214 (.agg #[.int .i64 y0, .int .i64 y1, .int .i64 y2, .int .i64 y3, .int .i64 y4, .int .i64 y5, .int .i64 y6, .int .i64 y7, .int .i64 y8, .int .i64 y9]) (.agg #[.int .i64 0, .int .i64 1, .int .i64 2, .int .i64 3, .int .i64 4, .int .i64 5, .int .i64 6, .int .i64 7, .int .i64 8, .int .i64 9])).run Try.prog w = .ok (decide ([y0, y1, y2, y3, y4, y5, y6, y7, y8, y9] = numL 10)) w := by
  obtain ⟨i0, hi, -, -, -⟩ := info_parts Try.infoI
  have u3 := Try.underlying2
  have c3 : Try.prog.cellsOf 2 = 1 := by kernel_rfl
  have a3 := Try.isAgg2
  have z3 := Try.sizeOf2
  rw [show (10000 : Nat) = 9999 + 1 from rfl, run_equalIn_array w 9999 _ _ Try.underlying214 hi, c3, show List.range 10 = [0, 1, 2, 3, 4, 5, 6, 7, 8, 9] from rfl, num10]
  simp only [Op.eqItems]
  go_simp
  by_cases h0 : y0 = 0 <;> simp [h0]
  by_cases h1 : y1 = 1 <;> simp [h1]
  by_cases h2 : y2 = 2 <;> simp [h2]
  by_cases h3 : y3 = 3 <;> simp [h3]
  by_cases h4 : y4 = 4 <;> simp [h4]
  by_cases h5 : y5 = 5 <;> simp [h5]
  by_cases h6 : y6 = 6 <;> simp [h6]
  by_cases h7 : y7 = 7 <;> simp [h7]
  by_cases h8 : y8 = 8 <;> simp [h8]
  by_cases h9 : y9 = 9 <;> simp [h9]
theorem guard_ten : Try.prog.eqGuardType Try.prog.depth 214 = false := by kernel_rfl
theorem run_guardT (op : BinOp) (x y : Operand) (xs ys : Array Value) (w : World) : (eqGuard op 214 x y (.agg xs) (.agg ys)).run Try.prog w = .ok () w := run_eqGuard_agg w op _ x y xs ys guard_ten
theorem run_eqlT (y0 y1 y2 y3 y4 y5 y6 y7 y8 y9 : Int) (w : World) : (binOp .eql 214 (.agg #[.int .i64 y0, .int .i64 y1, .int .i64 y2, .int .i64 y3, .int .i64 y4, .int .i64 y5, .int .i64 y6, .int .i64 y7, .int .i64 y8, .int .i64 y9]) (.agg #[.int .i64 0, .int .i64 1, .int .i64 2, .int .i64 3, .int .i64 4, .int .i64 5, .int .i64 6, .int .i64 7, .int .i64 8, .int .i64 9])).run Try.prog w = .ok (.bool (decide ([y0, y1, y2, y3, y4, y5, y6, y7, y8, y9] = numL 10))) w := by
  rw [run_eql_struct, run_eqTen]; rfl
end Go.Proofs.Ytknonlbbakbpiaa
