/- Numbers turned round: the contracts of the program's and of the document's. -/
import Derived.Test.YtpocfcenfpdjfaaDoorSha0
import Derived.Deep.QuietTactic
import Derived.BigQuiet
namespace Go.Proofs.YtpocfcenfpdjfaaDoor.Sha
open Go.ChangeShapes Go.WideShapes Go.ChangeAt Go.RowKit
set_option linter.unusedVariables false

theorem and31 (n : Int) (h0 : 1 ≤ n) (h1 : n ≤ 31) : bits .and .u64 (IntKind.u64.wrap (-n)) 31 = 32 - n := by
  have hw : IntKind.u64.wrap (-n) = 18446744073709551616 - n := by
    have : IntKind.u64.wrap (-n) = (-n) % 18446744073709551616 := by simp [IntKind.wrap, IntKind.bits, IntKind.signed]
    omega
  rw [hw, u64_and _ _ (by omega) (by omega) (by omega) (by omega)]
  have : (31 : Int).toNat = 31 := rfl
  rw [this, nat_mask5]
  omega

theorem or_turn (a b : Int) : bits .or .u32 a b = bits .or .u32 b a := by
  show IntKind.u32.wrap ((BitVec.ofInt 32 a ||| BitVec.ofInt 32 b).toNat : Nat) = IntKind.u32.wrap ((BitVec.ofInt 32 b ||| BitVec.ofInt 32 a).toNat : Nat)
  rw [BitVec.or_comm]

theorem rot_any (x n : Int) (h0 : 1 ≤ n) (h1 : n ≤ 31) (w : World) :
    Calls Tryd.prog 51 #[.int .u32 x, .int .i64 (- n)] w fun e w' => e = .returned (.int .u32 (rr x n)) ∧ w = w' := by
  have hb := and31 n h0 h1
  have hc : (0 : Int) ≤ 32 - n := by omega
  have hd : IntKind.u64.wrap (32 - (32 - n)) = n := by
    have : IntKind.u64.wrap (32 - (32 - n)) = (32 - (32 - n)) % 18446744073709551616 := by simp [IntKind.wrap, IntKind.bits, IntKind.signed]
    omega
  have he : 0 ≤ n := by omega
  go_enter Tryd.func51, Tryd.ntmps51
  go_wp2_with fail
  go_ret
  exact ⟨rfl, rfl⟩

theorem ror_any (x n : Int) (h0 : 1 ≤ n) (h1 : n ≤ 31) (w : World) :
    Calls Tryd.prog 43 #[.int .u32 x, .int .i64 n] w fun e w' => e = .returned (.int .u32 (rr x n)) ∧ w' = w := by
  have hd : IntKind.i64.wrap (-n) = -n := by simp only [IntKind.wrap_i64]; omega
  go_enter Tryd.func43, Tryd.ntmps43
  go_wp2_with fail
  refine (rot_any _ _ h0 h1 _).mono ?_
  rintro e w' ⟨rfl, rfl⟩
  go_wp2_with fail
  go_ret
  exact ⟨rfl, rfl⟩

theorem refRor_any (x n : Int) (h0 : 1 ≤ n) (h1 : n ≤ 31) (w : World) :
    Calls Tryd.prog 34 #[.int .u32 x, .int .i64 n] w fun e w' => e = .returned (.int .u32 (rr x n)) ∧ ∃ m, w' = w.drewN m := by
  have hc : (0 : Int) ≤ 32 - n := by omega
  have he : 0 ≤ n := by omega
  have hd : IntKind.i64.wrap (32 - n) = 32 - n := by simp only [IntKind.wrap_i64]; omega
  have hf := Lib.hid (or_turn (x * 2 ^ (32 - n).toNat % 4294967296) (x / 2 ^ n.toNat))
  go_enter Tryd.func34, Tryd.ntmps34
  go_wp2_with fail
  go_quiet (fail)
  go_wp2_with fail
  go_ret
  exact ⟨congrArg (fun y => Ending.returned (.int .u32 y)) hf.out.symm, _, rfl⟩
end Go.Proofs.YtpocfcenfpdjfaaDoor.Sha
