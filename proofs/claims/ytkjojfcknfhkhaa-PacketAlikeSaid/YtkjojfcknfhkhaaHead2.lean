/- What is wrong with a beginning: the contracts of both. -/
import Derived.Test.YtkjojfcknfhkhaaHead1
import Derived.Deep.QuietTactic
import Derived.BigQuiet
import Derived.StillTailTactics
namespace Go.Proofs.Ytkjojfcknfhkhaa.Head
open Go.ChangeShapes Go.WideShapes Go.ChangeAt Go.RowKit
set_option linter.unusedVariables false


theorem below_drewN {B : Nat} {a w : World} (h : Below B a w) (n : Nat) : Below B a (w.drewN n) := ⟨h.os, h.tape, h.output, h.size, h.block⟩

set_option maxRecDepth 100000 in
set_option maxHeartbeats 16000000 in
theorem inRange_any (h : B) (w : World) : Calls Try.prog 61 #[.agg #[.int .i64 h.src, .int .i64 h.dst, .int .i64 h.words, .int .i64 h.cc, .int .i64 h.cover, .int .i64 h.sum, .int .i64 h.kind, .bool h.long, .int .i64 h.seq]] w
    fun e w' => e = .returned (.bool (inRange h)) ∧ Below w.heap.size w w' := by
  obtain ⟨a, b, c, d, f, g, k, l, q⟩ := h
  unfold inRange
  dsimp only
  have hb := Lib.hid ((Below.refl w.heap.size w).alloc (Nat.le_refl _) (.cells #[.int .i64 a, .int .i64 b, .int .i64 c, .int .i64 d, .int .i64 f, .int .i64 g, .int .i64 k, .bool l, .int .i64 q] 43))
  cases h1 : fits a 65535
  case' true => cases h2 : fits b 65535
  case' true.true => cases h3 : fits g 65535
  case' true.true.true => cases h4 : fits d 15
  case' true.true.true.true => cases h5 : fits f 15
  case' true.true.true.true.true => cases h6 : fits q (seqMost l)
  case' true.true.true.true.true.true => cases h7 : fits c 255
  all_goals (
    go_enter Try.func61, Try.ntmps61
    go_wp2_with fail
    go_quiet ((first
      | (go_at_call 86; exact Calls.quiet_of_same (seqMost_any _ _))
      | (go_at_call 85; exact Calls.quiet_of_same (fits_any _ _ _))))
    go_wp2_with fail
    go_ret
    exact ⟨rfl, below_drewN hb.out _⟩)
end Go.Proofs.Ytkjojfcknfhkhaa.Head
