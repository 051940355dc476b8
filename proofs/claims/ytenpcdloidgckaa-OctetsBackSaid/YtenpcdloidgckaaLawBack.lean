/- The walk of OctetsBack. -/
import Derived.Test.YtenpcdloidgckaaLawBackA
import Derived.Deep.DeepCutAuto
namespace Go.Proofs.Ytenpcdloidgckaa.Oct
open Go.ChangeShapes Go.WideShapes Go.ChangeAt Go.RowKit
set_option linter.unusedVariables false

theorem u64_wrap' (n : Int) : IntKind.u64.wrap n = (nat64 n : Int) := by rw [IntKind.wrap_u64, u64_cast]

theorem shl_pow (K P : Nat) (h7 : K ≤ 7) (hP : P = 256 ^ K) : IntKind.u64.wrap (2 ^ (8 * K)) = (P : Int) := by
  have h1 : (2 : Int) ^ (8 * K) = ((256 ^ K : Nat) : Int) := by
    rw [Int.pow_mul]; norm_cast
  have h2 : 256 ^ K ≤ 256 ^ 7 := Nat.pow_le_pow_right (by omega) h7
  have h3 : (256 : Nat) ^ 7 = 72057594037927936 := by decide
  rw [h1, IntKind.wrap_u64, hP]
  omega

set_option maxHeartbeats 800000 in
theorem OctetsBack_walk (a0 : Int) (a1 : Int) (a2 : Int) (a3 : ByteArray) (w0 : (Lit.int .i64 a0).wf = true) (w1 : (Lit.int .u64 a1).wf = true) (w2 : (Lit.int .i64 a2).wf = true) (w3 : a3.size ≤ maxLen) (w : World) :
    Calls Try.prog 5 #[.int .i64 a0, .int .u64 a1, .int .i64 a2, .string a3] w fun e w' => e = .returned (.bool true) ∧ Below w.heap.size w w' := by
  unfold maxLen at w3
  obtain ⟨M, rfl, hM⟩ : ∃ m : Nat, a1 = (m : Int) ∧ m ≤ 18446744073709551615 := ⟨a1.toNat, by have := fits_u64 w1; omega, by have := fits_u64 w1; omega⟩
  clear w0 w1 w2
  by_cases hs : a3.size ≤ 3000
  · obtain ⟨K, hK⟩ : ∃ K : Nat, K = 1 + nat64 a2 % 7 := ⟨_, rfl⟩
    have h1 : 1 ≤ K := by omega
    have h7 : K ≤ 7 := by omega
    have hu2 := u64_wrap' a2
    have hu0 := u64_wrap' a0
    have hl2 := u64_lt a2
    have HK := Lib.hid hK
    clear hK
    go_enter Try.func5, Try.ntmps5
    go_wp2_with fail
    refine (works_any _).mono ?_
    rintro e w1 ⟨rfl, hb⟩
    have h0 := Lib.hid hb
    clear hb
    go_upto_region 5 with fail
    go_cut [9] (fun n wx => n = .int .i64 K ∧ wx = w1)
    case first =>
      go_wp2
      all_goals (go_meet; refine ⟨?_, rfl⟩; have := HK.out; go_num)
    case rest =>
      obtain ⟨rfl, rfl⟩ := hcut
      have hl0 := u64_lt a0
      clear hu2 hl2
      have hz := bsOf_size (nat64 a0) K
      go_wp2_with fail
      refine (putN a0 K _ (by omega)).mono ?_
      rintro e w2 ⟨rfl, hb⟩
      have h0 := Lib.hid (h0.out.trans (hb.mono h0.out.size))
      clear hb
      go_wp2_with fail
      refine (putM (nat64 a0) K a3 M _ (by omega) hs hM).mono ?_
      rintro e w3 ⟨rfl, hb⟩
      have h0 := Lib.hid (h0.out.trans (hb.mono h0.out.size))
      clear hb
      go_wp2_with fail
      refine (new_any _ _).mono ?_
      rintro e w4 ⟨rfl, rfl⟩
      have hf := Lib.hid (CutAt.fresh w3 (packed (nat64 a0) K a3 M) 54)
      have hB := h0.out.size
      have h0 := Lib.hid (h0.out.alloc hB (.cells #[.string (packed (nat64 a0) K a3 M), .int .i64 0] 54))
      generalize w3.alloc (.cells #[.string (packed (nat64 a0) K a3 M), .int .i64 0] 54) = w4 at *
      generalize w3.heap.size = B at *
      go_wp2_with fail
      refine (num_first (nat64 a0) K a3 M B _ h1 h7 hs hf.out).mono ?_
      rintro e w5 ⟨rfl, hf2, hb⟩
      have hf := Lib.hid hf2
      have h0 := Lib.hid (h0.out.trans (hb.toBelow hB h0.out.size))
      clear hf2 hb
      have hR : nat64 a0 % 256 ^ K < 72057594037927936 := by
        have p1 : nat64 a0 % 256 ^ K < 256 ^ K := Nat.mod_lt _ (Nat.pow_pos (by omega))
        have p2 : 256 ^ K ≤ 256 ^ 7 := Nat.pow_le_pow_right (by omega) h7
        have p3 : (256 : Nat) ^ 7 = 72057594037927936 := by decide
        omega
      generalize hR2 : nat64 a0 % 256 ^ K = R at *
      have HR := Lib.hid hR2
      clear hR2
      go_wp2_with fail
      refine (bytes_mid a3 M B _ hs hf.out).mono ?_
      rintro e w6 ⟨rfl, hf2, hb⟩
      have hf := Lib.hid hf2
      have h0 := Lib.hid (h0.out.trans (hb.toBelow hB h0.out.size))
      clear hf2 hb
      go_wp2_with fail
      refine (num_last7 M B _ hf.out).mono ?_
      rintro e w7 ⟨rfl, hf2, hb⟩
      have hf := Lib.hid hf2
      have h0 := Lib.hid (h0.out.trans (hb.toBelow hB h0.out.size))
      clear hf2 hb
      go_upto_region 8 with fail
      obtain ⟨P, hP⟩ : ∃ P : Nat, P = 256 ^ K := ⟨_, rfl⟩
      have hp := shl_pow K P h7 hP
      have hP1 : 1 ≤ P := by rw [hP]; exact Nat.pow_pos (by omega)
      have hPz : ((P : Int) == 0) = false := by simp; omega
      have hPR : ((nat64 a0 : Nat) : Int) % (P : Int) = (R : Int) := by rw [← HR.out, hP]; omega
      clear hP
      go_wp2_with fail
      refine (done_any B ⟨#[]⟩ 0 _ hf.out).mono ?_
      rintro e w8 ⟨rfl, rfl⟩
      rw [show doneOf ⟨#[]⟩ 0 = 0 by decide]
      go_wp2_with fail
      refine (num_short B _ hf.out).mono ?_
      rintro e w8 ⟨rfl, hf2, hb⟩
      have hf := Lib.hid hf2
      have h0 := Lib.hid (h0.out.trans (hb.toBelow hB h0.out.size))
      clear hf2 hb
      go_wp2_with fail
      refine (done_any B ⟨#[]⟩ 1 _ hf.out).mono ?_
      rintro e w9 ⟨rfl, rfl⟩
      rw [show doneOf ⟨#[]⟩ 1 = 1 by decide]
      go_wp2_with fail
      refine (putM8 M _ hM).mono ?_
      rintro e w9 ⟨rfl, hb⟩
      have h0 := Lib.hid (h0.out.trans (hb.mono h0.out.size))
      clear hb
      go_wp2_with fail
      refine (ofM M _ hM).mono ?_
      rintro e w10 ⟨rfl, hb⟩
      have h0 := Lib.hid (h0.out.trans (hb.mono h0.out.size))
      clear hb
      go_wp2_with fail
      go_ret
      exact ⟨rfl, h0.out⟩
  · go_enter Try.func5, Try.ntmps5
    go_wp2_with fail
    refine (works_any _).mono ?_
    rintro e w1 ⟨rfl, h1⟩
    go_wp2_with fail
    go_ret
    exact ⟨rfl, h1⟩
end Go.Proofs.Ytenpcdloidgckaa.Oct
