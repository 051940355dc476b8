/- The contracts of Patch and of the numbers of a part. -/
import Derived.Test.YtkjojfcknfhkhaaInet1
namespace Go.Proofs.Ytkjojfcknfhkhaa.Inet
open Go.ChangeShapes Go.WideShapes Go.ChangeAt Go.RowKit
open Go.Proofs.Ytkjojfcknfhkhaa.Oct (newCap newRow1 run_bytes_new newRow1_cell)
set_option linter.unusedVariables false

/-- a sum behind a change -/
def patchc (s o n : Int) : Int := 65535 - carry ((65535 - s % 65536) + (65535 - o % 65536) + n % 65536)
theorem patch_in (s o n : Int) : 0 ≤ (65535 - s % 65536) + (65535 - o % 65536) + n % 65536 ∧ (65535 - s % 65536) + (65535 - o % 65536) + n % 65536 ≤ 1000000 := by omega
theorem carry_mod (n : Int) (h : 0 ≤ n) : 65535 - carry n % 65536 = 65535 - carry n := by have := carry_bd n h; omega

set_option maxHeartbeats 400000 in
theorem numbers_any (s : ByteArray) (hs : s.size ≤ 10000) (w : World) :
    Calls Try.prog 82 #[.string s] w fun e w' => e = .returned (.int .i64 (ws s : Nat)) ∧ Below w.heap.size w w' := by
  have hl := ws_le s
  go_enter Try.func82, Try.ntmps82
  have hnew := run_bytes_new s w
  go_wp2_with fail
  go_loop [3, 4, 5, 9] (fun n _ _ i => ∃ k : Nat, k ≤ s.size ∧ i = .int .i64 k ∧ n = .int .i64 (wsum s k : Nat)) (fun _ _ _ i => s.size - (intOf i).toNat)
  case atStart => exact ⟨0, Nat.zero_le _, rfl, rfl⟩
  case round =>
    obtain ⟨k, hk, rfl, rfl⟩ := hrel
    have hbd := wsum_le s k
    by_cases hlt : k < s.size
    · have hnext := Lib.hid (show wsum s (k + 1) = wsum s k + worth k (byteAt s k) from rfl)
      have hget := byteAt_get s k hlt
      have hc := newRow1_cell s w k hlt
      have hu := s[k].toNat_lt
      rw [← hget] at hc hu
      generalize byteAt s k = v at *
      generalize wsum s k = m at *
      clear hget hnew
      by_cases hev : k % 2 = 0
      · have hw := Lib.hid (show worth k v = 256 * v by unfold worth; rw [if_pos hev])
        have he := Lib.hid hev
        clear hev
        have he1 : (((k : Int) % 2) == 0) = true := by rw [beq_iff_eq]; have := he.out; omega
        go_wp2_with fail
        go_round
        case rel => exact ⟨k + 1, by omega, by go_num, by rw [hnext.out, hw.out]; go_num⟩
        case measure => simp [intOf]; omega
      · have hw := Lib.hid (show worth k v = v by unfold worth; rw [if_neg hev])
        have he := Lib.hid hev
        clear hev
        have he1 : (((k : Int) % 2) == 0) = false := by rw [beq_eq_false_iff_ne]; have := he.out; omega
        go_wp2_with fail
        go_round
        case rel => exact ⟨k + 1, by omega, by go_num, by rw [hnext.out, hw.out]; go_num⟩
        case measure => simp [intOf]; omega
    · obtain rfl : k = s.size := by omega
      clear hnew
      go_wp2_with fail
      go_ret
      exact ⟨rfl, ((Below.refl _ _).alloc (Nat.le_refl _) _).drew⟩
end Go.Proofs.Ytkjojfcknfhkhaa.Inet
