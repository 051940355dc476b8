/- The document's answer for Of: its contract. -/
import Derived.Test.YtmkngolkflihlaaBase1
namespace Go.Proofs.Ytmkngolkflihlaa.Oct
open Go.ChangeShapes Go.WideShapes Go.ChangeAt Go.RowKit
set_option linter.unusedVariables false

theorem of_step (m b : Nat) : IntKind.u64.wrap (IntKind.u64.wrap (256 * (m : Int)) + (b : Int)) = ((256 * m + b) % 18446744073709551616 : Nat) := by
  rw [IntKind.wrap_u64, IntKind.wrap_u64]
  omega

set_option maxHeartbeats 400000 in
theorem refOf_any (s : ByteArray) (w : World) (hs : s.size ≤ 100000) :
    Calls Try.prog 38 #[.string s] w fun e w' => e = .returned (.int .u64 (whole s : Int)) ∧ w = w' := by
  go_enter Try.func38, Try.ntmps38
  go_wp2
  go_loop [3, 4] (fun n i => ∃ k : Nat, k ≤ s.size ∧ i = .int .i64 k ∧ n = .int .u64 (ofTo s k))
    (fun _ i => s.size - (intOf i).toNat)
  case atStart => exact ⟨0, Nat.zero_le _, rfl, rfl⟩
  case round =>
    obtain ⟨k, hk, rfl, rfl⟩ := hrel
    have hl := ofTo_lt s k
    by_cases hlt : k < s.size
    · have hnext := Lib.hid (ofTo_succ s k hlt)
      have hb := s[k].toNat_lt
      generalize ofTo s k = m at *
      go_wp2
      refine ⟨⟨k + 1, by omega, by go_num, ?_⟩, by simp [intOf]; omega⟩
      rw [of_step, hnext.out]
    · have hall := Lib.hid (ofTo_all s k (by omega))
      go_wp2
      go_ret
      exact ⟨congrArg (fun x : Nat => Ending.returned (.int .u64 x)) hall.out, rfl⟩
end Go.Proofs.Ytmkngolkflihlaa.Oct
