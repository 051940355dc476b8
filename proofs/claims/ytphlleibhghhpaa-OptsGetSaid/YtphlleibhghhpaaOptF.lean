/- A function's value: stored, and compared with nil. -/
import Derived.Test.YtphlleibhghhpaaOpt5
import Derived.Laws.EntriesVeiled
import Derived.Laws.Cover3
namespace Go.Proofs.Ytphlleibhghhpaa.Opt
open Go.ChangeShapes Go.WideShapes Go.ChangeAt Go.RowKit Go.Shelf
set_option linter.unusedVariables false

theorem run_equalIn_func_nil {P : Program} {w : World} (d : Nat) (t : TypeId) {a b : Array TypeId} {c : Bool} (f : Fn) (x y : Array Value) (h : P.underlying t = some (.func a b c)) : (Op.equalIn (d + 1) t (.func f x y) .nilFunc).run P w = .ok false w := by
  simp [Op.equalIn, run_underlying h]
theorem func_not_nil1 (f : Fn) (x y : Array Value) (w : World) : (binOp .eql 31 (.func f x y) .nilFunc).run Try.prog w = .ok (.bool false) w := by
  have h : (Op.equal 31 (.func f x y) .nilFunc).run Try.prog w = .ok false w := run_equalIn_func_nil 9999 _ f x y Try.underlying31
  simp only [binOp]
  simp [h]
theorem func_not_nil2 (f : Fn) (x y : Array Value) (w : World) : (binOp .eql 27 (.func f x y) .nilFunc).run Try.prog w = .ok (.bool false) w := by
  have h : (Op.equal 27 (.func f x y) .nilFunc).run Try.prog w = .ok false w := run_equalIn_func_nil 9999 _ f x y Try.underlying27
  simp only [binOp]
  simp [h]
end Go.Proofs.Ytphlleibhghhpaa.Opt
