/- The walk of CircSteps. -/
import Derived.Test.YtgfpobahcmifeaaCirc1
namespace Go.Proofs.Ytgfpobahcmifeaa.Circ
open Go.ChangeShapes Go.WideShapes Go.ChangeAt Go.RowKit
set_option linter.unusedVariables false

theorem add_s (a n s : Int) (h : ofc (a + n) = s) (w : World) :
    Calls Try.prog 10 #[.int .i64 a, .int .i64 n] w fun e w' => e = .returned (.int .i64 s) ∧ w' = w := by
  subst h; exact add_any a n w
theorem far_s (a b f : Int) (h : farc a b = f) (w : World) :
    Calls Try.prog 12 #[.int .i64 a, .int .i64 b] w fun e w' => e = .returned (.int .i64 f) ∧ w' = w := by
  subst h; exact far_any a b w
theorem many_s (a b f : Int) (h : manyc a b = f) (w : World) :
    Calls Try.prog 18 #[.int .i64 a, .int .i64 b] w fun e w' => e = .returned (.int .i64 f) ∧ w' = w := by
  subst h; exact many_any a b w
theorem within_s (n a b : Int) (r : Bool) (h : decide (manyc a n ≤ manyc a b) = r) (w : World) :
    Calls Try.prog 20 #[.int .i64 n, .int .i64 a, .int .i64 b] w fun e w' => e = .returned (.bool r) ∧ w' = w := by
  subst h; exact within_any n a b w

set_option maxHeartbeats 800000 in
theorem CircSteps_walk (a0 a1 a2 : Int) (w : World) (w0 : (Lit.int .i64 a0).wf = true) (w1 : (Lit.int .u32 a1).wf = true) (w2 : (Lit.int .u32 a2).wf = true) :
    Calls Try.prog 6 #[.int .i64 a0, .int .u32 a1, .int .u32 a2] w fun e w' => e = .returned (.bool true) ∧ Below w.heap.size w w' := by
  have h1 : 0 ≤ a1 ∧ a1 ≤ 4294967295 := by simp [Lit.wf] at w1; exact w1
  have h2 : 0 ≤ a2 ∧ a2 ≤ 4294967295 := by simp [Lit.wf] at w2; exact w2
  clear w0 w1 w2
  have q1 : ofc (ofc (a0 + a1) + a2) = ofc (a0 + (a1 + a2)) := by unfold ofc; omega
  have q2 : ofc (ofc (a0 + a2) + a1) = ofc (a0 + (a1 + a2)) := by unfold ofc; omega
  have q3 : ofc (ofc (a0 + (a1 + a2)) + (- a1 - a2)) = ofc a0 := by unfold ofc; omega
  have q4 : farc (ofc (a0 + (a1 + a2))) a0 = a1 + a2 := by unfold farc ofc; split <;> omega
  have q5 : farc a0 (ofc (a0 + (a1 + a2))) = - a1 - a2 := by unfold farc ofc; split <;> omega
  have q6 : manyc a0 (ofc (a0 + (a1 + a2))) = a1 + a2 + 1 := by unfold manyc ofc; omega
  have q7 : decide (manyc a0 (ofc (a0 + a1)) ≤ manyc a0 (ofc (a0 + (a1 + a2)))) = true := decide_eq_true (by unfold manyc ofc; omega)
  generalize hs : ofc (a0 + (a1 + a2)) = s at *
  go_enter Try.func6, Try.ntmps6
  go_wp2_with fail
  refine (works_any _).mono ?_
  rintro e w ⟨rfl, rfl⟩
  go_wp2_with fail
  refine (add_any _ _ _).mono ?_
  rintro e w ⟨rfl, rfl⟩
  go_wp2_with fail
  refine (add_s _ _ _ q1 _).mono ?_
  rintro e w ⟨rfl, rfl⟩
  go_wp2_with fail
  refine (add_any _ _ _).mono ?_
  rintro e w ⟨rfl, rfl⟩
  go_wp2_with fail
  refine (add_s _ _ _ q2 _).mono ?_
  rintro e w ⟨rfl, rfl⟩
  go_wp2_with fail
  refine (add_s _ _ _ hs _).mono ?_
  rintro e w ⟨rfl, rfl⟩
  go_wp2_with fail
  refine (add_s _ _ _ q3 _).mono ?_
  rintro e w ⟨rfl, rfl⟩
  go_wp2_with fail
  refine (of_any _ _).mono ?_
  rintro e w ⟨rfl, rfl⟩
  go_wp2_with fail
  refine (far_s _ _ _ q4 _).mono ?_
  rintro e w ⟨rfl, rfl⟩
  go_wp2_with fail
  refine (far_s _ _ _ q5 _).mono ?_
  rintro e w ⟨rfl, rfl⟩
  go_wp2_with fail
  refine (many_s _ _ _ q6 _).mono ?_
  rintro e w ⟨rfl, rfl⟩
  go_wp2_with fail
  refine (add_any _ _ _).mono ?_
  rintro e w ⟨rfl, rfl⟩
  go_wp2_with fail
  refine (within_s _ _ _ _ q7 _).mono ?_
  rintro e w ⟨rfl, rfl⟩
  go_wp2_with fail
  go_ret
  exact ⟨rfl, Below.refl _ _⟩
end Go.Proofs.Ytgfpobahcmifeaa.Circ
