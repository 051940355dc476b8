/- The walks of StretchTells, StretchBack. -/
import Derived.Test.YtnlhjnckbajpkaaStr2
namespace Go.Proofs.Ytnlhjnckbajpkaa.Circ
open Go.ChangeShapes Go.WideShapes Go.ChangeAt Go.RowKit
set_option linter.unusedVariables false

set_option maxHeartbeats 400000 in
theorem StretchTells_walk (a0 a1 a2 : Int) (w : World) (w0 : (Lit.int .i64 a0).wf = true) (w1 : (Lit.int .i64 a1).wf = true) (w2 : (Lit.int .i64 a2).wf = true) :
    Calls Try.prog 3 #[.int .i64 a0, .int .i64 a1, .int .i64 a2] w fun e w' => e = .returned (.bool true) ∧ Below w.heap.size w w' := by
  go_enter Try.func3, Try.ntmps3
  go_wp2_with fail
  refine (worksStr_any _).mono ?_
  rintro e w1 ⟨rfl, hb⟩
  go_wp2_with fail
  refine (short_any _ _).mono ?_
  rintro e w1 ⟨rfl, rfl⟩
  go_wp2_with fail
  refine (refShort_any _ _).mono ?_
  rintro e w1 ⟨rfl, rfl⟩
  go_wp2_with fail
  refine (long_any _ _ _).mono ?_
  rintro e w1 ⟨rfl, rfl⟩
  go_wp2_with fail
  refine (refLong_any _ _ _).mono ?_
  rintro e w1 ⟨rfl, rfl⟩
  go_wp2_with fail
  refine (safe_any _ _ _).mono ?_
  rintro e w1 ⟨rfl, rfl⟩
  go_wp2_with fail
  refine (refSafe_any _ _ _).mono ?_
  rintro e w1 ⟨rfl, rfl⟩
  go_wp2_with fail
  go_ret
  exact ⟨rfl, hb⟩

theorem back_iff (near n : Int) : longc near (shortc n) = ofc n ↔ (-8388608 < farc n near ∧ farc n near ≤ 8388608) := by
  unfold longc shortc ofc farc
  constructor
  · intro h; split at h <;> split <;> omega
  · intro h; split at h <;> split <;> omega
theorem back_eq (near n : Int) : (longc near (shortc n) == ofc n) = safec near n := by
  have h := back_iff near n
  unfold safec
  by_cases h1 : longc near (shortc n) = ofc n
  · have h2 := h.1 h1
    rw [decide_eq_true h2.1, decide_eq_true h2.2, beq_iff_eq.2 h1]; rfl
  · have h2 : ¬ (-8388608 < farc n near ∧ farc n near ≤ 8388608) := fun x => h1 (h.2 x)
    rw [beq_eq_false_iff_ne.2 h1]
    by_cases h3 : -8388608 < farc n near
    · rw [decide_eq_true h3, decide_eq_false (fun x => h2 ⟨h3, x⟩)]; rfl
    · rw [decide_eq_false h3]; rfl
theorem long_short (near short : Int) : shortc (longc near short) = shortc short := by
  unfold longc shortc ofc; split <;> omega
theorem long_safe (near short : Int) : safec near (longc near short) = true := by
  have : -8388608 < farc (longc near short) near ∧ farc (longc near short) near ≤ 8388608 := by
    unfold longc farc ofc; split <;> split <;> omega
  unfold safec; rw [decide_eq_true this.1, decide_eq_true this.2]; rfl
theorem shortc_idem (n : Int) : shortc (shortc n) = shortc n := by unfold shortc; omega

theorem short_s (n s : Int) (h : shortc n = s) (w : World) :
    Calls Try.prog 8 #[.int .i64 n] w fun e w' => e = .returned (.int .i64 s) ∧ w' = w := by
  subst h; exact short_any n w
theorem safe_s (near n : Int) (b : Bool) (h : safec near n = b) (w : World) :
    Calls Try.prog 12 #[.int .i64 near, .int .i64 n] w fun e w' => e = .returned (.bool b) ∧ w' = w := by
  subst h; exact safe_any near n w
theorem long_s (near short x : Int) (h : longc near short = x) (w : World) :
    Calls Try.prog 10 #[.int .i64 near, .int .i64 short] w fun e w' => e = .returned (.int .i64 x) ∧ w' = w := by
  subst h; exact long_any near short w

set_option maxHeartbeats 400000 in
theorem StretchBack_walk (a0 a1 : Int) (w : World) (w0 : (Lit.int .i64 a0).wf = true) (w1 : (Lit.int .i64 a1).wf = true) :
    Calls Try.prog 4 #[.int .i64 a0, .int .i64 a1] w fun e w' => e = .returned (.bool true) ∧ Below w.heap.size w w' := by
  have q1 := back_eq a0 a1
  have q2 := long_short a0 (shortc a1)
  rw [shortc_idem] at q2
  have q3 := long_safe a0 (shortc a1)
  obtain ⟨x, hx⟩ : ∃ x, longc a0 (shortc a1) = x := ⟨_, rfl⟩
  obtain ⟨o, ho⟩ : ∃ o, ofc a1 = o := ⟨_, rfl⟩
  rw [hx] at q1 q2 q3
  rw [ho] at q1
  obtain ⟨b, hb⟩ : ∃ b, safec a0 a1 = b := ⟨_, rfl⟩
  rw [hb] at q1
  have hx := Lib.hid hx
  have ho := Lib.hid ho
  have hb := Lib.hid hb
  have q2 := Lib.hid q2
  have q3 := Lib.hid q3
  go_enter Try.func4, Try.ntmps4
  go_wp2_with fail
  refine (worksStr_any _).mono ?_
  rintro e w1 ⟨rfl, hbl⟩
  go_wp2_with fail
  refine (short_any _ _).mono ?_
  rintro e w1 ⟨rfl, rfl⟩
  go_wp2_with fail
  refine (long_s _ _ _ hx.out _).mono ?_
  rintro e w1 ⟨rfl, rfl⟩
  go_wp2_with fail
  refine (refOf_any _ _).mono ?_
  rintro e w1 ⟨rfl, rfl⟩
  rw [ho.out]
  go_wp2_with fail
  refine (safe_s _ _ _ hb.out _).mono ?_
  rintro e w1 ⟨rfl, rfl⟩
  go_wp2_with fail
  refine (short_s _ _ q2.out _).mono ?_
  rintro e w1 ⟨rfl, rfl⟩
  go_wp2_with fail
  refine (short_any _ _).mono ?_
  rintro e w1 ⟨rfl, rfl⟩
  go_wp2_with fail
  refine (safe_s _ _ _ q3.out _).mono ?_
  rintro e w1 ⟨rfl, rfl⟩
  go_wp2_with fail
  go_ret
  exact ⟨rfl, hbl⟩
end Go.Proofs.Ytnlhjnckbajpkaa.Circ
