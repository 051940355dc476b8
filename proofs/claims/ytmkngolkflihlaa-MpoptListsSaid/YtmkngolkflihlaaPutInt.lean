/- The program's Put at int: its contract. -/
import Derived.Test.YtmkngolkflihlaaBase1
import Derived.Deep.DeepCutAuto
namespace Go.Proofs.Ytmkngolkflihlaa.Oct
open Go.ChangeShapes Go.WideShapes Go.ChangeAt Go.RowKit
set_option linter.unusedVariables false

set_option maxHeartbeats 400000 in
theorem putInt_any (s : ByteArray) (n size : Int) (w : World) (hs : s.size ≤ 100000) :
    Calls Try.prog 19 #[.string s, .int .i64 n, .int .i64 size] w fun e w' => e = .returned (.string (s ++ ⟨(be (nat64 n) (held size)).toArray⟩)) ∧ Below w.heap.size w w' := by
  have h8 := held_le size
  obtain ⟨h, hh⟩ : ∃ h, h = held size := ⟨_, rfl⟩
  rw [← hh] at h8 ⊢
  have Hh := Lib.hid hh
  clear hh
  go_enter Try.func19, Try.ntmps19
  go_upto_region 1 with fail
  go_cut [2] (fun sz wx => sz = .int .i64 h ∧ wx = w)
  case first =>
    go_wp2
    all_goals (go_meet; refine ⟨?_, rfl⟩; have := Hh.out; unfold held at this; go_num)
  case rest =>
    obtain ⟨rfl, rfl⟩ := hcut
    go_wp2
    go_loopw [8, 9] (fun left i wr => ∃ k q : Nat, q + k = h ∧ i = .int .i64 ((q : Int) - 1) ∧ left = .int .u64 ((nat64 n / 256 ^ k : Nat) : Int) ∧ LowRow (nat64 n) h k wc.heap.size wr ∧ Below wc.heap.size wc wr)
      (fun _ i _ => (intOf i + 1).toNat)
    case atStart => exact ⟨0, h, rfl, rfl, wrap_u64_num n, LowRow.start _ _ _ _ (.inr trivial), (Below.refl _ _).alloc (Nat.le_refl _) _⟩
    case round =>
      obtain ⟨k, q, hq, rfl, rfl, hr, hb⟩ := hrel
      have hm : nat64 n / 256 ^ k ≤ 18446744073709551615 := Nat.le_trans (Nat.div_le_self _ _) (Nat.le_pred_of_lt (u64_lt n))
      have hdiv := Lib.hid (show nat64 n / 256 ^ (k + 1) = nat64 n / 256 ^ k / 256 by rw [Nat.pow_succ, Nat.div_div_eq_div_mul])
      have hnext := Lib.hid (fun p v hp hv => LowRow.step (p := p) hr hp h8 v hv)
      generalize nat64 n / 256 ^ k = m at *
      cases q with
      | zero =>
        obtain rfl : k = h := by omega
        have hlen := be_length (nat64 n) k
        have hconv := run_convert_bytes_back (P := Try.prog) wr 72 9 5 ⟨wc.heap.size, 0, none⟩ 8 (be (nat64 n) k) Try.underlying72 Try.underlying5 Try.underlying9 (hr.finish h8)
        rw [hlen] at hconv
        rw [show ((0 : Nat) : Int) - 1 = -1 from rfl]
        have hal : Try.prog.arrayLen 70 = 8 := by kernel_rfl
        have hsl : (Instr.sliceAt 70 (.pointer (some ⟨wc.heap.size, 0, none⟩)) none (some (.int .i64 (k : Int))) none).run Try.prog wr = .ok (.slice (some ⟨wc.heap.size, 0, none⟩) k 8) wr := by
          rw [run_sliceAt_array_h wr 70 ⟨wc.heap.size, 0, none⟩ (by simp [Program.arrayLen, Program.elem, Try.underlying70]) .i64 (k : Int) (by omega) (by rw [hal]; omega)]
          rw [hal]
          go_simp
        clear hlen hq hal
        go_wp2
        go_ret
        exact ⟨rfl, hb⟩
      | succ p =>
        have hcell := hr.1 p (by omega)
        have hfree := hr.2 p (by omega)
        have hqq : ((p + 1 : Nat) : Int) - 1 = p := by omega
        rw [hqq]
        go_wp2
        exact ⟨⟨k + 1, p, by omega, rfl, by rw [hdiv.out]; go_num, hnext.out p _ (by omega) (by omega), hb.setCell (Nat.le_refl _) _⟩, by simp [intOf]⟩
end Go.Proofs.Ytmkngolkflihlaa.Oct
