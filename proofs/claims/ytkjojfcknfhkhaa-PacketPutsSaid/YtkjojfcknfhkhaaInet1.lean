/- The contracts of the sums' small parts: of the program's and of the document's. -/
import Derived.Test.YtkjojfcknfhkhaaInet0
import Derived.Test.YtkjojfcknfhkhaaBase1
import Derived.Laws.BitsAllLaws
namespace Go.Proofs.Ytkjojfcknfhkhaa.Inet
open Go.ChangeShapes Go.WideShapes Go.ChangeAt Go.RowKit
open Go.Proofs.Ytkjojfcknfhkhaa.Oct (newCap newRow1 run_bytes_new newRow1_cell)
set_option linter.unusedVariables false

theorem and16 (n : Int) : bits .and .i64 n 65535 = n % 65536 := by
  have h127 : (BitVec.ofInt 64 65535).toNat = 2 ^ 16 - 1 := by decide
  have key : (BitVec.ofInt 64 n &&& BitVec.ofInt 64 65535).toNat = (n % ((2 ^ 64 : Nat) : Int)).toNat % 2 ^ 16 := by
    rw [BitVec.toNat_and, BitVec.toNat_ofInt, h127, Nat.and_two_pow_sub_one_eq_mod]
  show IntKind.i64.wrap ((BitVec.ofInt 64 n &&& BitVec.ofInt 64 65535).toNat : Nat) = n % 65536
  rw [key, IntKind.wrap_i64]
  omega

theorem not_i64 (n : Int) : bits .xor .i64 (-1) n % 65536 = 65535 - n % 65536 := by
  have h1 : BitVec.ofInt 64 (-1) = BitVec.allOnes 64 := by decide
  have key : (BitVec.ofInt 64 (-1) ^^^ BitVec.ofInt 64 n).toNat = 2 ^ 64 - 1 - (n % ((2 ^ 64 : Nat) : Int)).toNat := by
    rw [h1, BitVec.allOnes_xor, BitVec.toNat_not, BitVec.toNat_ofInt]
  show IntKind.i64.wrap ((BitVec.ofInt 64 (-1) ^^^ BitVec.ofInt 64 n).toNat : Nat) % 65536 = 65535 - n % 65536
  rw [key, IntKind.wrap_i64]
  omega

theorem wrap16 (n : Int) : IntKind.u16.wrap n = n % 65536 := by simp [IntKind.wrap, IntKind.bits, IntKind.signed]
theorem not_u16 (n : Int) : bits .xor .u16 65535 (n % 65536) = 65535 - n % 65536 := by
  have h1 : BitVec.ofInt 16 65535 = BitVec.allOnes 16 := by decide
  have key : (BitVec.ofInt 16 65535 ^^^ BitVec.ofInt 16 (n % 65536)).toNat = 2 ^ 16 - 1 - ((n % 65536) % ((2 ^ 16 : Nat) : Int)).toNat := by
    rw [h1, BitVec.allOnes_xor, BitVec.toNat_not, BitVec.toNat_ofInt]
  show IntKind.u16.wrap ((BitVec.ofInt 16 65535 ^^^ BitVec.ofInt 16 (n % 65536)).toNat : Nat) = 65535 - n % 65536
  rw [key, wrap16]
  omega

theorem low_any (n : Int) (w : World) :
    Calls Try.prog 92 #[.int .i64 n] w fun e w' => e = .returned (.int .i64 (n % 65536)) ∧ w = w' := by
  go_enter Try.func92, Try.ntmps92
  go_wp2_with fail
  go_ret
  exact ⟨congrArg (fun x => Ending.returned (.int .i64 x)) (and16 n), rfl⟩

theorem turned_any (n : Int) (w : World) :
    Calls Try.prog 83 #[.int .i64 n] w fun e w' => e = .returned (.int .i64 (65535 - n % 65536)) ∧ w = w' := by
  go_enter Try.func83, Try.ntmps83
  go_wp2_with fail
  refine (low_any _ _).mono ?_
  rintro e w' ⟨rfl, rfl⟩
  go_wp2_with fail
  go_ret
  exact ⟨congrArg (fun x => Ending.returned (.int .i64 x)) (not_i64 n), rfl⟩

set_option maxHeartbeats 400000 in
theorem carried_any (n : Int) (h0 : 0 ≤ n) (h1 : n ≤ 1000000000000) (w : World) :
    Calls Try.prog 84 #[.int .i64 n] w fun e w' => e = .returned (.int .i64 (carry n)) ∧ w = w' := by
  go_enter Try.func84, Try.ntmps84
  go_wp2_with fail
  go_loop [0] (fun v => ∃ m : Int, 0 ≤ m ∧ m ≤ 1000000000000 ∧ carry m = carry n ∧ v = .int .i64 m) (fun v => (intOf v).toNat)
  case atStart => exact ⟨n, h0, h1, rfl, rfl⟩
  case round =>
    obtain ⟨m, h2, h3, h4, rfl⟩ := hrel
    have H4 := Lib.hid h4
    clear h4
    by_cases hlt : 65535 < m
    · have hs := Lib.hid (carry_step m hlt)
      go_wp2_with fail
      refine (low_any _ _).mono ?_
      rintro e w ⟨rfl, rfl⟩
      go_wp2_with fail
      go_round
      case rel => exact ⟨m / 65536 + m % 65536, by omega, by omega, hs.out.trans H4.out, by go_num⟩
      case measure => simp [intOf]; omega
    · have hc := Lib.hid (carry_small m h2 (by omega))
      go_wp2_with fail
      go_ret
      exact ⟨congrArg (fun x => Ending.returned (.int .i64 x)) (hc.out.symm.trans H4.out), rfl⟩
end Go.Proofs.Ytkjojfcknfhkhaa.Inet
