/- The document's Size and Check: their contracts. -/
import Derived.Test.YtkjojfcknfhkhaaHead2
namespace Go.Proofs.Ytkjojfcknfhkhaa.Head
open Go.ChangeShapes Go.WideShapes Go.ChangeAt Go.RowKit
set_option linter.unusedVariables false

set_option maxHeartbeats 4000000 in
theorem refSize_any (k : Int) (l : Bool) (w : World) : Calls Try.prog 66 #[.int .i64 k, .bool l] w fun e w' => e = .returned (.int .i64 (sizeOf k l)) ∧ w' = w := by
  obtain ⟨p, hp⟩ : ∃ p, acks k = p := ⟨_, rfl⟩
  have C := fun w => refAcks_any k w
  rw [hp] at C
  rcases ten k with rfl | rfl | rfl | rfl | rfl | rfl | rfl | rfl | rfl | rfl | h
  case inr.inr.inr.inr.inr.inr.inr.inr.inr.inr =>
    have e0 : sizeOf k l = 0 := (sizeOf_zero k l).2 (by simp [may, knownK]; omega)
    rw [e0]
    rcases h with h | h
    all_goals (
      go_enter Try.func66, Try.ntmps66
      go_wp2_with fail
      go_ret
      exact ⟨rfl, rfl⟩)
  all_goals (
    cases p <;> first
      | (exact absurd hp (by decide))
      | (cases l <;> (
          go_enter Try.func66, Try.ntmps66
          go_wp2_with (go_at_call 33; refine (C _).mono ?_; rintro e w ⟨rfl, rfl⟩)
          go_ret
          exact ⟨rfl, rfl⟩)))
end Go.Proofs.Ytkjojfcknfhkhaa.Head
