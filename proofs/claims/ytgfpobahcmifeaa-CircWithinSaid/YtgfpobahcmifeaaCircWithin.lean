/- The walk of CircWithin. -/
import Derived.Test.YtgfpobahcmifeaaCirc1
namespace Go.Proofs.Ytgfpobahcmifeaa.Circ
open Go.ChangeShapes Go.WideShapes Go.ChangeAt Go.RowKit
set_option linter.unusedVariables false

theorem many_lt (a b : Int) : 1 ≤ manyc a b ∧ manyc a b ≤ 281474976710656 := by unfold manyc; omega
theorem many_end (a b : Int) : ofc (a + (manyc a b - 1)) = ofc b := by unfold manyc ofc; omega
theorem many_self (a b : Int) : manyc a a ≤ manyc a b := by unfold manyc; omega
theorem many_all (a n : Int) : manyc a n ≤ 281474976710656 := (many_lt a n).2
theorem many_or (n a b : Int) (h : manyc a b ≠ 281474976710656) :
    decide (manyc (ofc (b + 1)) n ≤ manyc (ofc (b + 1)) (ofc (a + -1))) = !(decide (manyc a n ≤ manyc a b)) := by
  have : manyc (ofc (b + 1)) n ≤ manyc (ofc (b + 1)) (ofc (a + -1)) ↔ ¬ (manyc a n ≤ manyc a b) := by
    unfold manyc ofc at *
    constructor <;> intro h1 <;> omega
  by_cases h2 : manyc a n ≤ manyc a b
  · rw [decide_eq_true h2, decide_eq_false (by rw [this]; omega)]; rfl
  · rw [decide_eq_false h2, decide_eq_true (this.2 h2)]; rfl

theorem many_f (a b f : Int) (h : manyc a b = f) (w : World) :
    Calls Try.prog 18 #[.int .i64 a, .int .i64 b] w fun e w' => e = .returned (.int .i64 f) ∧ w' = w := by
  subst h; exact many_any a b w
theorem within_b (n a b k : Int) (r : Bool) (hk : manyc a b = k) (h : decide (manyc a n ≤ k) = r) (w : World) :
    Calls Try.prog 20 #[.int .i64 n, .int .i64 a, .int .i64 b] w fun e w' => e = .returned (.bool r) ∧ w' = w := by
  subst h hk; exact within_any n a b w

set_option maxHeartbeats 800000 in
theorem CircWithin_walk (a0 a1 a2 : Int) (w : World) (w0 : (Lit.int .i64 a0).wf = true) (w1 : (Lit.int .i64 a1).wf = true) (w2 : (Lit.int .i64 a2).wf = true) :
    Calls Try.prog 5 #[.int .i64 a0, .int .i64 a1, .int .i64 a2] w fun e w' => e = .returned (.bool true) ∧ Below w.heap.size w w' := by
  have q1 : decide (manyc a1 a1 ≤ manyc a1 a2) = true := decide_eq_true (many_self a1 a2)
  have k1 := many_lt a1 a2
  have k2 := many_end a1 a2
  have k3 : manyc a1 a2 = 281474976710656 → decide (manyc a1 a0 ≤ manyc a1 a2) = true := fun h => decide_eq_true (by rw [h]; exact many_all a1 a0)
  have k4 := many_or a0 a1 a2
  generalize hr : decide (manyc a1 a0 ≤ manyc a1 a2) = r at *
  generalize hk : manyc a1 a2 = k at *
  by_cases hfull : k = 281474976710656
  · have k5 := k3 hfull
    subst k5 hfull
    clear k3 k4
    have k2b : ofc (a1 + 281474976710655) = ofc a2 := k2
    go_enter Try.func5, Try.ntmps5
    go_wp2_with fail
    refine (works_any _).mono ?_
    rintro e w ⟨rfl, rfl⟩
    go_wp2_with fail
    refine (many_f _ _ _ hk _).mono ?_
    rintro e w ⟨rfl, rfl⟩
    go_wp2_with fail
    refine (within_b _ _ _ _ _ hk q1 _).mono ?_
    rintro e w ⟨rfl, rfl⟩
    go_wp2_with fail
    refine (within_b _ _ _ _ _ hk (decide_eq_true (Int.le_of_eq hk)) _).mono ?_
    rintro e w ⟨rfl, rfl⟩
    go_wp2_with fail
    refine (add_any _ _ _).mono ?_
    rintro e w ⟨rfl, rfl⟩
    go_wp2_with fail
    refine (of_any _ _).mono ?_
    rintro e w ⟨rfl, rfl⟩
    go_wp2_with fail
    refine (within_b _ _ _ _ _ hk hr _).mono ?_
    rintro e w ⟨rfl, rfl⟩
    go_wp2_with fail
    go_ret
    exact ⟨rfl, Below.refl _ _⟩
  · have k5 := k4 hfull
    clear k3 k4
    go_enter Try.func5, Try.ntmps5
    go_wp2_with fail
    refine (works_any _).mono ?_
    rintro e w ⟨rfl, rfl⟩
    go_wp2_with fail
    refine (many_f _ _ _ hk _).mono ?_
    rintro e w ⟨rfl, rfl⟩
    go_wp2_with fail
    refine (within_b _ _ _ _ _ hk q1 _).mono ?_
    rintro e w ⟨rfl, rfl⟩
    go_wp2_with fail
    refine (within_b _ _ _ _ _ hk (decide_eq_true (Int.le_of_eq hk)) _).mono ?_
    rintro e w ⟨rfl, rfl⟩
    go_wp2_with fail
    refine (add_any _ _ _).mono ?_
    rintro e w ⟨rfl, rfl⟩
    go_wp2_with fail
    refine (of_any _ _).mono ?_
    rintro e w ⟨rfl, rfl⟩
    go_wp2_with fail
    refine (within_b _ _ _ _ _ hk hr _).mono ?_
    rintro e w ⟨rfl, rfl⟩
    go_wp2_with fail
    refine (add_any _ _ _).mono ?_
    rintro e w ⟨rfl, rfl⟩
    go_wp2_with fail
    refine (add_any _ _ _).mono ?_
    rintro e w ⟨rfl, rfl⟩
    go_wp2_with fail
    refine (within_b _ _ _ _ _ rfl k5 _).mono ?_
    rintro e w ⟨rfl, rfl⟩
    cases r
    · go_wp2_with fail
      go_ret
      exact ⟨rfl, Below.refl _ _⟩
    · go_wp2_with fail
      go_ret
      exact ⟨rfl, Below.refl _ _⟩
end Go.Proofs.Ytgfpobahcmifeaa.Circ
