/- The document's Check: its contract. -/
import Derived.Test.YtkjojfcknfhkhaaHead4
namespace Go.Proofs.Ytkjojfcknfhkhaa.Head
open Go.ChangeShapes Go.WideShapes Go.ChangeAt Go.RowKit
set_option linter.unusedVariables false

/-- is it out of its bounds, of a number below another one -/
def isOff (n m : Int) : Bool := decide (n < 0) || decide (m ≤ n)
theorem isOff_fits (n m : Int) : fits n m = !isOff n (m + 1) := by
  unfold fits isOff
  by_cases h0 : 0 ≤ n <;> by_cases h1 : n ≤ m <;> simp [h0, h1] <;> omega
theorem off_is (n m : Int) (w : World) : Calls Try.prog 67 #[.int .i64 n, .int .i64 m] w fun e w' => e = .returned (.bool (isOff n m)) ∧ w' = w := by
  have := off_any n m w
  have e : (!fits n (m - 1)) = isOff n m := by rw [isOff_fits, Bool.not_not, show m - 1 + 1 = m by omega]
  rwa [e] at this

theorem inRange_off (h : B) : inRange h = !(isOff h.src 65536 || (isOff h.dst 65536 || (isOff h.sum 65536 || (isOff h.cc 16 || (isOff h.cover 16 || (isOff h.words 256 || (if h.long then isOff h.seq 281474976710656 else isOff h.seq 16777216))))))) := by
  unfold inRange seqMost
  simp only [isOff_fits]
  obtain ⟨a, b, c, d, f, g, k, l, q⟩ := h
  dsimp only
  rw [show (65535 : Int) + 1 = 65536 from rfl, show (15 : Int) + 1 = 16 from rfl, show (255 : Int) + 1 = 256 from rfl]
  cases l
  · rw [show (if false = true then (281474976710655 : Int) else 16777215) + 1 = 16777216 from rfl]
    generalize isOff a 65536 = x1; generalize isOff b 65536 = x2; generalize isOff g 65536 = x3; generalize isOff d 16 = x4; generalize isOff f 16 = x5; generalize isOff c 256 = x6
    simp only [Bool.false_eq_true, if_false]
    generalize isOff q 16777216 = x7
    revert x1 x2 x3 x4 x5 x6 x7; decide
  · rw [show (if true = true then (281474976710655 : Int) else 16777215) + 1 = 281474976710656 from rfl]
    generalize isOff a 65536 = x1; generalize isOff b 65536 = x2; generalize isOff g 65536 = x3; generalize isOff d 16 = x4; generalize isOff f 16 = x5; generalize isOff c 256 = x6
    simp only [if_true]
    generalize isOff q 281474976710656 = x7
    revert x1 x2 x3 x4 x5 x6 x7; decide

set_option maxRecDepth 100000 in
set_option maxHeartbeats 16000000 in
theorem refCheck_any (h : B) (w : World) : Calls Try.prog 31 #[.agg #[.int .i64 h.src, .int .i64 h.dst, .int .i64 h.words, .int .i64 h.cc, .int .i64 h.cover, .int .i64 h.sum, .int .i64 h.kind, .bool h.long, .int .i64 h.seq]] w
    fun e w' => e = .returned (.int .i64 (check h)) ∧ Below w.heap.size w w' := by
  have hR := inRange_iff h
  have hO := inRange_off h
  have hc := Lib.hid (show check h = if knownK h.kind = false then 7 else if may h.kind h.long = false then 4 else if inRange h = false then 3 else if 4 * h.words < sizeOf h.kind h.long then 1 else 0 from rfl)
  have hW : inRange h = true → 0 ≤ h.words ∧ h.words ≤ 255 := fun e => (hR.1 e).words
  clear hR
  generalize check h = C at *
  generalize inRange h = ir at *
  obtain ⟨a, b, c, d, f, g, k, l, q⟩ := h
  dsimp only at *
  have HO := Lib.hid hO
  clear hO
  have hb := Lib.hid ((Below.refl w.heap.size w).alloc (Nat.le_refl _) (.cells #[.int .i64 a, .int .i64 b, .int .i64 c, .int .i64 d, .int .i64 f, .int .i64 g, .int .i64 k, .bool l, .int .i64 q] 43))
  have hS := sizeOf_mid k l
  have hZ := sizeOf_zero k l
  cases hk : knownK k
  · have HC := Lib.hid (hc.out.trans (if_pos hk))
    have hk' : k < 0 ∨ 9 < k := by simp [knownK] at hk; omega
    rcases hk' with hk1 | hk1
    all_goals (
      go_enter Try.func31, Try.ntmps31
      go_wp2_with fail
      go_ret
      exact ⟨by rw [HC.out]; rfl, hb.out⟩)
  have hk' : 0 ≤ k ∧ k ≤ 9 := by simpa [knownK] using hk
  obtain ⟨hk0, hk9⟩ := hk'
  replace hc := Lib.hid (hc.out.trans (if_neg (by simp [hk])))
  have C1 := fun w => refSize_any k l w
  generalize sizeOf k l = S at *
  cases hml : may k l
  · have HC := Lib.hid (hc.out.trans (if_pos hml))
    obtain rfl := hZ.2 hml
    go_enter Try.func31, Try.ntmps31
    go_wp2_with (go_at_call 66; refine (C1 _).mono ?_; rintro e w1 ⟨rfl, rfl⟩)
    go_ret
    exact ⟨by rw [HC.out]; rfl, hb.out⟩
  replace hc := Lib.hid (hc.out.trans (if_neg (by simp [hml])))
  have hS0 : S ≠ 0 := fun e => by have := hZ.1 e; rw [hml] at this; cases this
  clear hZ
  cases ir
  · have HC := Lib.hid (hc.out.trans (if_pos rfl))
    clear hW hc
    have H1 := HO.out
    cases l
    case false =>
      cases o1 : isOff a 65536
      case' false => cases o2 : isOff b 65536
      case' false.false => cases o3 : isOff g 65536
      case' false.false.false => cases o4 : isOff d 16
      case' false.false.false.false => cases o5 : isOff f 16
      case' false.false.false.false.false => cases o6 : isOff c 256
      case' false.false.false.false.false.false => have o7 : isOff q 16777216 = true := by rw [o1, o2, o3, o4, o5, o6] at H1; simpa using H1.symm
      all_goals (
        clear H1
        go_enter Try.func31, Try.ntmps31
        go_wp2_with (first
          | (go_at_call 66; refine (C1 _).mono ?_; rintro e w1 ⟨rfl, rfl⟩)
          | (go_at_call 67; refine (off_is _ _ _).mono ?_; rintro e w1 ⟨rfl, rfl⟩))
        go_ret
        exact ⟨by rw [HC.out]; rfl, hb.out⟩)
    case true =>
      cases o1 : isOff a 65536
      case' false => cases o2 : isOff b 65536
      case' false.false => cases o3 : isOff g 65536
      case' false.false.false => cases o4 : isOff d 16
      case' false.false.false.false => cases o5 : isOff f 16
      case' false.false.false.false.false => cases o6 : isOff c 256
      case' false.false.false.false.false.false => have o7 : isOff q 281474976710656 = true := by rw [o1, o2, o3, o4, o5, o6] at H1; simpa using H1.symm
      all_goals (
        clear H1
        go_enter Try.func31, Try.ntmps31
        go_wp2_with (first
          | (go_at_call 66; refine (C1 _).mono ?_; rintro e w1 ⟨rfl, rfl⟩)
          | (go_at_call 67; refine (off_is _ _ _).mono ?_; rintro e w1 ⟨rfl, rfl⟩))
        go_ret
        exact ⟨by rw [HC.out]; rfl, hb.out⟩)
  replace hc := Lib.hid (hc.out.trans (if_neg (by simp)))
  have hw := hW rfl
  clear hW
  have H1 := HO.out
  simp at H1
  obtain ⟨o1, o2, o3, o4, o5, o6, o7⟩ := H1
  by_cases hlt : 4 * c < S
  · have HC := Lib.hid (hc.out.trans (if_pos hlt))
    clear hc
    cases l
    all_goals (
      simp at o7
      go_enter Try.func31, Try.ntmps31
      go_wp2_with (first
        | (go_at_call 66; refine (C1 _).mono ?_; rintro e w1 ⟨rfl, rfl⟩)
        | (go_at_call 67; refine (off_is _ _ _).mono ?_; rintro e w1 ⟨rfl, rfl⟩))
      go_quiet ((go_at_call 66; exact Calls.quiet_of_same (C1 _)))
      go_wp2_with fail
      go_ret
      exact ⟨by rw [HC.out]; rfl, below_drewN hb.out _⟩)
  · have HC := Lib.hid (hc.out.trans (if_neg hlt))
    clear hc
    cases l
    all_goals (
      simp at o7
      go_enter Try.func31, Try.ntmps31
      go_wp2_with (first
        | (go_at_call 66; refine (C1 _).mono ?_; rintro e w1 ⟨rfl, rfl⟩)
        | (go_at_call 67; refine (off_is _ _ _).mono ?_; rintro e w1 ⟨rfl, rfl⟩))
      go_quiet ((go_at_call 66; exact Calls.quiet_of_same (C1 _)))
      go_wp2_with fail
      go_ret
      exact ⟨by rw [HC.out]; rfl, below_drewN hb.out _⟩)
end Go.Proofs.Ytkjojfcknfhkhaa.Head
