/- The document's answer for Put: its contract. -/
import Derived.Test.YtmkngolkflihlaaBase1
namespace Go.Proofs.Ytmkngolkflihlaa.Oct
open Go.ChangeShapes Go.WideShapes Go.ChangeAt Go.RowKit
set_option linter.unusedVariables false

set_option maxHeartbeats 400000 in
theorem refPut_any (s : ByteArray) (n : Nat) (size : Int) (w : World) (hs : s.size ≤ 100000) (hn : n ≤ 18446744073709551615) :
    Calls Try.prog 22 #[.string s, .int .u64 n, .int .i64 size] w fun e w' => e = .returned (.string (s ++ ⟨(be n (held size)).toArray⟩)) ∧ Below w.heap.size w w' := by
  have h8 := held_le size
  go_enter Try.func22, Try.ntmps22
  go_wp2
  go_loopw [1, 7, 8] (fun m t i wr => ∃ k : Nat, k ≤ held size ∧ i = .int .i64 k ∧ t = .string ⟨(be n k).toArray⟩ ∧ m = .int .u64 ((n / 256 ^ k : Nat) : Int) ∧ Below w.heap.size w wr)
    (fun _ _ i _ => held size - (intOf i).toNat)
  case atStart => exact ⟨0, Nat.zero_le _, rfl, rfl, by simp, Below.refl _ _⟩
  case round =>
    obtain ⟨k, hk, rfl, rfl, rfl, hb⟩ := hrel
    have hm : n / 256 ^ k ≤ 18446744073709551615 := Nat.le_trans (Nat.div_le_self _ _) hn
    have hnext := Lib.hid (show be n (k + 1) = UInt8.ofNat (n / 256 ^ k) :: be n k from be_cons n k)
    have hdiv := Lib.hid (show n / 256 ^ (k + 1) = n / 256 ^ k / 256 by rw [Nat.pow_succ, Nat.div_div_eq_div_mul])
    have hT : (be n k).length ≤ 8 := by simp; omega
    generalize n / 256 ^ k = m at *
    by_cases hlt : k < held size
    · have h1 : (k : Int) < size := by unfold held at hlt; omega
      have h2 : (k : Int) < 8 := by unfold held at hlt; omega
      have hone := run_one_byte ((m : Int) % 256) wr
      go_wp2
      refine ⟨⟨k + 1, by omega, by go_num, ?_, ?_, hb.alloc (hb.size) _⟩, by simp [intOf]; omega⟩
      · rw [hnext.out, byte_of']; exact congrArg Value.string (bs_append [_] _)
      · rw [hdiv.out]; go_num
    · obtain rfl : k = held size := by omega
      by_cases h1 : (held size : Int) < size
      · have h2 : ¬ (held size : Int) < 8 := by unfold held at h1 ⊢; omega
        go_wp2
        go_ret
        exact ⟨rfl, hb⟩
      · go_wp2
        go_ret
        exact ⟨rfl, hb⟩
end Go.Proofs.Ytmkngolkflihlaa.Oct
