/- The walk of CircOrder. -/
import Derived.Test.YtgfpobahcmifeaaCirc1
namespace Go.Proofs.Ytgfpobahcmifeaa.Circ
open Go.ChangeShapes Go.WideShapes Go.ChangeAt Go.RowKit
set_option linter.unusedVariables false

theorem far_lt (a b : Int) : -140737488355328 < farc a b ∧ farc a b ≤ 140737488355328 := by
  unfold farc; split <;> omega
theorem far_back (a b : Int) : ofc (b + farc a b) = ofc a := by
  unfold farc ofc; split <;> omega
theorem far_moved (a b n : Int) : farc (ofc (a + n)) (ofc (b + n)) = farc a b := by
  have h : (ofc (a + n) - ofc (b + n)) % 281474976710656 = (a - b) % 281474976710656 := by unfold ofc; omega
  unfold farc; rw [h]
theorem far_other (a b : Int) : farc b a = if farc a b = 140737488355328 then 140737488355328 else - farc a b := by
  unfold farc; split <;> split <;> split <;> omega

theorem less_f (a b f : Int) (h : farc a b = f) (w : World) :
    Calls Try.prog 14 #[.int .i64 a, .int .i64 b] w fun e w' => e = .returned (.bool (decide (f < 0))) ∧ w' = w := by
  subst h; exact less_any a b w
theorem far_f (a b f : Int) (h : farc a b = f) (w : World) :
    Calls Try.prog 12 #[.int .i64 a, .int .i64 b] w fun e w' => e = .returned (.int .i64 f) ∧ w' = w := by
  subst h; exact far_any a b w

set_option maxHeartbeats 800000 in
theorem CircOrder_walk (a0 a1 a2 : Int) (w : World) (w0 : (Lit.int .i64 a0).wf = true) (w1 : (Lit.int .i64 a1).wf = true) (w2 : (Lit.int .i64 a2).wf = true) :
    Calls Try.prog 4 #[.int .i64 a0, .int .i64 a1, .int .i64 a2] w fun e w' => e = .returned (.bool true) ∧ Below w.heap.size w w' := by
  have k1 := far_lt a0 a1
  have k2 := far_back a0 a1
  have k3 := far_moved a0 a1 a2
  have k4 := far_other a0 a1
  generalize hf : farc a0 a1 = f at *
  by_cases h0 : f = 0
  · subst h0
    rw [if_neg (by decide)] at k4
    replace k4 : farc a1 a0 = 0 := k4
    have k2 : ofc a1 = ofc a0 := by simpa using k2
    go_enter Try.func4, Try.ntmps4
    go_wp2_with fail
    refine (works_any _).mono ?_
    rintro e w ⟨rfl, rfl⟩
    go_wp2_with fail
    refine (far_f _ _ _ hf _).mono ?_
    rintro e w ⟨rfl, rfl⟩
    go_wp2_with fail
    refine (add_any _ _ _).mono ?_
    rintro e w ⟨rfl, rfl⟩
    go_wp2_with fail
    refine (of_any _ _).mono ?_
    rintro e w ⟨rfl, rfl⟩
    go_wp2_with fail
    refine (add_any _ _ _).mono ?_
    rintro e w ⟨rfl, rfl⟩
    go_wp2_with fail
    refine (add_any _ _ _).mono ?_
    rintro e w ⟨rfl, rfl⟩
    go_wp2_with fail
    refine (far_f _ _ _ k3 _).mono ?_
    rintro e w ⟨rfl, rfl⟩
    go_wp2_with fail
    refine (less_f _ _ _ hf _).mono ?_
    rintro e w ⟨rfl, rfl⟩
    go_wp2_with fail
    refine (less_f _ _ _ k4 _).mono ?_
    rintro e w ⟨rfl, rfl⟩
    go_wp2_with fail
    go_ret
    exact ⟨rfl, Below.refl _ _⟩
  by_cases h1 : f = 140737488355328
  · subst h1
    rw [if_pos rfl] at k4
    go_enter Try.func4, Try.ntmps4
    go_wp2_with fail
    refine (works_any _).mono ?_
    rintro e w ⟨rfl, rfl⟩
    go_wp2_with fail
    refine (far_f _ _ _ hf _).mono ?_
    rintro e w ⟨rfl, rfl⟩
    go_wp2_with fail
    refine (add_any _ _ _).mono ?_
    rintro e w ⟨rfl, rfl⟩
    go_wp2_with fail
    refine (of_any _ _).mono ?_
    rintro e w ⟨rfl, rfl⟩
    go_wp2_with fail
    refine (add_any _ _ _).mono ?_
    rintro e w ⟨rfl, rfl⟩
    go_wp2_with fail
    refine (add_any _ _ _).mono ?_
    rintro e w ⟨rfl, rfl⟩
    go_wp2_with fail
    refine (far_f _ _ _ k3 _).mono ?_
    rintro e w ⟨rfl, rfl⟩
    go_wp2_with fail
    refine (less_f _ _ _ hf _).mono ?_
    rintro e w ⟨rfl, rfl⟩
    go_wp2_with fail
    refine (less_f _ _ _ k4 _).mono ?_
    rintro e w ⟨rfl, rfl⟩
    go_wp2_with fail
    go_ret
    exact ⟨rfl, Below.refl _ _⟩
  rw [if_neg h1] at k4
  have h0b : (f == 0) = false := by simpa using h0
  have h1b : (f == 140737488355328) = false := by simpa using h1
  by_cases h2 : f < 0
  · have k6 : ¬ (0 < f) := by omega
    go_enter Try.func4, Try.ntmps4
    go_wp2_with fail
    refine (works_any _).mono ?_
    rintro e w ⟨rfl, rfl⟩
    go_wp2_with fail
    refine (far_f _ _ _ hf _).mono ?_
    rintro e w ⟨rfl, rfl⟩
    go_wp2_with fail
    refine (add_any _ _ _).mono ?_
    rintro e w ⟨rfl, rfl⟩
    go_wp2_with fail
    refine (of_any _ _).mono ?_
    rintro e w ⟨rfl, rfl⟩
    go_wp2_with fail
    refine (add_any _ _ _).mono ?_
    rintro e w ⟨rfl, rfl⟩
    go_wp2_with fail
    refine (add_any _ _ _).mono ?_
    rintro e w ⟨rfl, rfl⟩
    go_wp2_with fail
    refine (far_f _ _ _ k3 _).mono ?_
    rintro e w ⟨rfl, rfl⟩
    go_wp2_with fail
    refine (less_f _ _ _ hf _).mono ?_
    rintro e w ⟨rfl, rfl⟩
    go_wp2_with fail
    refine (less_f _ _ _ k4 _).mono ?_
    rintro e w ⟨rfl, rfl⟩
    go_wp2_with fail
    refine (far_f _ _ _ k4 _).mono ?_
    rintro e w ⟨rfl, rfl⟩
    go_wp2_with fail
    go_ret
    refine ⟨congrArg (fun b => Ending.returned (.bool b)) ?_, Below.refl _ _⟩
    show _ = true
    first | rfl | (simp; omega)
  · have k6 : 0 < f := by omega
    have k7 : decide (f < 0) = false := decide_eq_false h2
    have k8 : decide (0 < f) = true := decide_eq_true k6
    go_enter Try.func4, Try.ntmps4
    go_wp2_with fail
    refine (works_any _).mono ?_
    rintro e w ⟨rfl, rfl⟩
    go_wp2_with fail
    refine (far_f _ _ _ hf _).mono ?_
    rintro e w ⟨rfl, rfl⟩
    go_wp2_with fail
    refine (add_any _ _ _).mono ?_
    rintro e w ⟨rfl, rfl⟩
    go_wp2_with fail
    refine (of_any _ _).mono ?_
    rintro e w ⟨rfl, rfl⟩
    go_wp2_with fail
    refine (add_any _ _ _).mono ?_
    rintro e w ⟨rfl, rfl⟩
    go_wp2_with fail
    refine (add_any _ _ _).mono ?_
    rintro e w ⟨rfl, rfl⟩
    go_wp2_with fail
    refine (far_f _ _ _ k3 _).mono ?_
    rintro e w ⟨rfl, rfl⟩
    go_wp2_with fail
    refine (less_f _ _ _ hf _).mono ?_
    rintro e w ⟨rfl, rfl⟩
    go_wp2_with fail
    refine (less_f _ _ _ k4 _).mono ?_
    rintro e w ⟨rfl, rfl⟩
    go_wp2_with fail
    refine (far_f _ _ _ k4 _).mono ?_
    rintro e w ⟨rfl, rfl⟩
    go_wp2_with fail
    go_ret
    refine ⟨congrArg (fun b => Ending.returned (.bool b)) ?_, Below.refl _ _⟩
    show _ = true
    first | rfl | (simp; omega)
end Go.Proofs.Ytgfpobahcmifeaa.Circ
