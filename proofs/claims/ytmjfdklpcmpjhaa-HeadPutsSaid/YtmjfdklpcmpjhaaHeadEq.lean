/- Two beginnings that are the same, compared. -/
import Derived.Test.YtmjfdklpcmpjhaaHead9
import Derived.Laws.StructEq
namespace Go.Proofs.Ytmjfdklpcmpjhaa.Head
open Go.ChangeShapes Go.WideShapes Go.ChangeAt Go.RowKit
set_option linter.unusedVariables false

set_option maxRecDepth 100000 in
theorem eqIn_same (d : Nat) (h : B) (w : World) : (Op.equalIn (d + 2) 27 (.agg (rowOf h)) (.agg (rowOf h))).run Try.prog w = .ok true w := by
  have hu := Try.underlying27
  have hi : Try.prog.cellsOf 3 = 1 := by kernel_rfl
  have hb : Try.prog.cellsOf 4 = 1 := by kernel_rfl
  rw [run_equalIn_struct w (d + 1) 27 _ _ (by simp [Program.fieldsOf, hu]) (by kernel_rfl)]
  have e1 := fun (a : Int) (w : World) => run_equalIn_int (P := Try.prog) w d 3 .i64 .i64 a a Try.underlying3
  have e2 := fun (a : Bool) (w : World) => run_equalIn_bool' (P := Try.prog) w d 4 a a Try.underlying4
  simp [Program.fieldsOf, hu, Op.eqFields, go_sem, e1, e2]
theorem eql_same (h : B) (w : World) : (binOp .eql 27 (.agg (rowOf h)) (.agg (rowOf h))).run Try.prog w = .ok (.bool true) w := by
  have e : (Op.equalIn 10000 27 (.agg (rowOf h)) (.agg (rowOf h))).run Try.prog w = .ok true w := eqIn_same 9998 h w
  rw [run_eql_struct, e]; rfl
theorem neq_same (h : B) (w : World) : (binOp .neq 27 (.agg (rowOf h)) (.agg (rowOf h))).run Try.prog w = .ok (.bool false) w := by
  have e : (Op.equalIn 10000 27 (.agg (rowOf h)) (.agg (rowOf h))).run Try.prog w = .ok true w := eqIn_same 9998 h w
  rw [run_neq_struct, e]; rfl
end Go.Proofs.Ytmjfdklpcmpjhaa.Head
