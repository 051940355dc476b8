/- The iterator over the options that bytes say. -/
import Derived.Test.YtmkngolkflihlaaOpt3
import Derived.RangeFuncNested
import Derived.RangeFuncBound
import Derived.RangeFuncCalls
import Derived.RangeFuncLeaves
import Derived.Shelf.Abstract
import Derived.Shelf.RegionOpen
import Derived.WalkKit
import Derived.OwnWalkIn
import Derived.TacticsInMore
import Derived.LoopNIn
import Derived.LoopIn
namespace Go.Proofs.Ytmkngolkflihlaa.Opt
open Go.ChangeShapes Go.WideShapes Go.ChangeAt Go.RowKit Go.Shelf
set_option linter.unusedVariables false

attribute [local go_sem] Oper.semAt_some

/-- what a round is handed -/
def encs (x : O × Int) : Array Value := #[.agg #[.int .i64 x.1.kind, .string x.1.value], .int .i64 x.2]
/-- how many bytes are left -/
def leftOf : Value → Nat
  | .string s => s.size
  | _ => 0

theorem not_nil {x : ByteArray} (h : 0 < x.size) : x.toList.isEmpty = false := by
  rw [ByteArray.toList_eq]
  cases hx : x.data.toList with
  | nil =>
    have h2 : x.data.toList.length = x.size := Array.length_toList
    rw [hx] at h2
    simp at h2
    omega
  | cons a r => rfl
theorem grown_of_below {w w' : World} (h : Below w.heap.size w w') : w.grownBy w' none := ⟨h.os, h.tape, h.output, h.size, fun k hk _ => h.block k hk⟩

theorem boxed_below {w w' : World} {B N : Nat} {t : TypeId} {v : Value} (h : Boxed w B t v) (hb : Below N w w') (hN : B < N) : Boxed w' B t v := (hb.block B hN).trans h

end Go.Proofs.Ytmkngolkflihlaa.Opt
