/- Numbers of 48 bits, round: the contracts of package circ and of the document's own answers. -/
import Derived.Test.YtdnddhnnpplgjaaRows
import Derived.WalkKit
import Derived.ProofKit
import Derived.OpenShut
import Derived.ShutString
import Derived.Below
import Derived.Lib.Hide
import Derived.WalkLawsBesides
import Derived.WalkSpells
import Derived.Laws.Bits64
import Derived.Laws.Bits64b
namespace Go.Proofs.Ytdnddhnnpplgjaa.Circ
open Go.ChangeShapes Go.WideShapes Go.ChangeAt Go.RowKit
set_option linter.unusedVariables false

theorem fits_i64 {n : Int} (h : (Lit.int .i64 n).wf = true) : -9223372036854775808 ≤ n ∧ n ≤ 9223372036854775807 := by
  simp [Lit.wf] at h; exact h

/-- a number, modulo 2^48 -/
def ofc (n : Int) : Int := n % 281474976710656
/-- the shorter way round -/
def farc (a b : Int) : Int := if (a - b) % 281474976710656 > 140737488355328 then (a - b) % 281474976710656 - 281474976710656 else (a - b) % 281474976710656
def manyc (a b : Int) : Int := (b - a) % 281474976710656 + 1
def laterc (a b : Int) : Int := if farc a b < 0 then ofc b else ofc a

theorem and48 (n : Int) : bits .and .i64 n 281474976710655 = ofc n := by
  have h127 : (BitVec.ofInt 64 281474976710655).toNat = 2 ^ 48 - 1 := by decide
  have key : (BitVec.ofInt 64 n &&& BitVec.ofInt 64 281474976710655).toNat = (n % ((2 ^ 64 : Nat) : Int)).toNat % 2 ^ 48 := by
    rw [BitVec.toNat_and, BitVec.toNat_ofInt, h127, Nat.and_two_pow_sub_one_eq_mod]
  show IntKind.i64.wrap ((BitVec.ofInt 64 n &&& BitVec.ofInt 64 281474976710655).toNat : Nat) = ofc n
  rw [key, IntKind.wrap_i64]
  unfold ofc
  omega

theorem ofc_wrap (n : Int) : ofc (wrap64 n) = ofc n := by unfold ofc wrap64; omega
theorem ofc_lt (n : Int) : 0 ≤ ofc n ∧ ofc n < 281474976710656 := by unfold ofc; omega
theorem tmod48 (n : Int) : n.tmod 281474976710656 = if n < 0 then - ((- n) % 281474976710656) else n % 281474976710656 := by
  split
  · rename_i h
    have := Int.neg_tmod (-n) 281474976710656
    rw [Int.neg_neg] at this
    rw [this, Int.tmod_eq_emod_of_nonneg (by omega)]
  · rename_i h
    exact Int.tmod_eq_emod_of_nonneg (by omega)
theorem farc_of (a b : Int) : farc a b = if ofc (a - b) > 140737488355328 then ofc (a - b) - 281474976710656 else ofc (a - b) := rfl
theorem manyc_of (a b : Int) : manyc a b = ofc (b - a) + 1 := rfl

theorem of_any (n : Int) (w : World) :
    Calls Try.prog 30 #[.int .i64 n] w fun e w' => e = .returned (.int .i64 (ofc n)) ∧ w' = w := by
  go_enter Try.func30, Try.ntmps30
  go_wp2_with fail
  go_ret
  exact ⟨congrArg (fun x => Ending.returned (.int .i64 x)) (and48 n), rfl⟩

theorem refOf_any (n : Int) (w : World) :
    Calls Try.prog 21 #[.int .i64 n] w fun e w' => e = .returned (.int .i64 (ofc n)) ∧ w' = w := by
  have ht := Lib.hid (tmod48 n)
  go_enter Try.func21, Try.ntmps21
  go_wp2_with fail
  · go_ret
    refine ⟨congrArg (fun x => Ending.returned (.int .i64 x)) ?_, rfl⟩
    have ht := ht.out
    unfold ofc wrap64
    split at ht <;> omega
  · go_ret
    refine ⟨congrArg (fun x => Ending.returned (.int .i64 x)) ?_, rfl⟩
    have ht := ht.out
    unfold ofc
    split at ht <;> omega

theorem add_any (a n : Int) (w : World) :
    Calls Try.prog 31 #[.int .i64 a, .int .i64 n] w fun e w' => e = .returned (.int .i64 (ofc (a + n))) ∧ w' = w := by
  go_enter Try.func31, Try.ntmps31
  go_wp2_with fail
  refine (of_any _ _).mono ?_
  rintro e w ⟨rfl, rfl⟩
  go_wp2_with fail
  go_ret
  exact ⟨congrArg (fun x => Ending.returned (.int .i64 x)) (ofc_wrap _), rfl⟩

end Go.Proofs.Ytdnddhnnpplgjaa.Circ
