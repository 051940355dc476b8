/- What kinds bear, and how many bytes: the contracts of both. -/
import Derived.Test.YtkjojfcknfhkhaaBase1
import Derived.Test.YtkjojfcknfhkhaaHead0
import Derived.Handy
import Derived.BigRegion
namespace Go.Proofs.Ytkjojfcknfhkhaa.Head
open Go.ChangeShapes Go.WideShapes Go.ChangeAt Go.RowKit
set_option linter.unusedVariables false

theorem known_any (k : Int) (w : World) : Calls Try.prog 59 #[.int .i64 k] w fun e w' => e = .returned (.bool (knownK k)) ∧ w' = w := by
  by_cases h0 : 0 ≤ k
  · by_cases h9 : k ≤ 9
    all_goals (
      have hr : knownK k = decide (k ≤ 9) := by simp [knownK, h0]
      rw [hr]
      go_enter Try.func59, Try.ntmps59
      go_wp2
      go_ret
      exact ⟨by simp [h9], rfl⟩)
  · have hr : knownK k = false := by simp [knownK, h0]
    rw [hr]
    go_enter Try.func59, Try.ntmps59
    go_wp2
    go_ret
    exact ⟨rfl, rfl⟩

theorem short_any (k : Int) (w : World) : Calls Try.prog 60 #[.int .i64 k] w fun e w' => e = .returned (.bool (shortK k)) ∧ w' = w := by
  by_cases h2 : k = 2
  · subst h2
    go_enter Try.func60, Try.ntmps60
    go_wp2
    go_ret
    exact ⟨rfl, rfl⟩
  by_cases h3 : k = 3
  · subst h3
    go_enter Try.func60, Try.ntmps60
    go_wp2
    go_ret
    exact ⟨rfl, rfl⟩
  by_cases h4 : k = 4
  · subst h4
    go_enter Try.func60, Try.ntmps60
    go_wp2
    go_ret
    exact ⟨rfl, rfl⟩
  have hr : shortK k = false := by simp [shortK, h2, h3, h4]
  rw [hr]
  go_enter Try.func60, Try.ntmps60
  go_wp2
  go_ret
  exact ⟨by simp [h2, h3, h4], rfl⟩

theorem fits_any (n m : Int) (w : World) : Calls Try.prog 85 #[.int .i64 n, .int .i64 m] w fun e w' => e = .returned (.bool (fits n m)) ∧ w' = w := by
  by_cases h0 : 0 ≤ n
  · by_cases h9 : n ≤ m
    all_goals (
      have hr : fits n m = decide (n ≤ m) := by simp [fits, h0]
      rw [hr]
      go_enter Try.func85, Try.ntmps85
      go_wp2
      go_ret
      exact ⟨by simp [h9], rfl⟩)
  · have hr : fits n m = false := by simp [fits, h0]
    rw [hr]
    go_enter Try.func85, Try.ntmps85
    go_wp2
    go_ret
    exact ⟨rfl, rfl⟩

theorem seqMost_any (l : Bool) (w : World) : Calls Try.prog 86 #[.bool l] w fun e w' => e = .returned (.int .i64 (seqMost l)) ∧ w' = w := by
  cases l
  all_goals (
    go_enter Try.func86, Try.ntmps86
    go_wp2
    go_ret
    exact ⟨rfl, rfl⟩)

theorem ten (k : Int) : k = 0 ∨ k = 1 ∨ k = 2 ∨ k = 3 ∨ k = 4 ∨ k = 5 ∨ k = 6 ∨ k = 7 ∨ k = 8 ∨ k = 9 ∨ (k < 0 ∨ 9 < k) := by omega

set_option maxHeartbeats 800000 in
theorem cargoOf_any (k : Int) (w : World) : Calls Try.prog 81 #[.int .i64 k] w fun e w' => e = .returned (.agg #[.bool (acks k), .bool (own k), .bool (bears k)]) ∧ Below w.heap.size w w' := by
  rcases ten k with rfl | rfl | rfl | rfl | rfl | rfl | rfl | rfl | rfl | rfl | h
  case inr.inr.inr.inr.inr.inr.inr.inr.inr.inr =>
    have e0 : acks k = false := by simp [acks]; omega
    have e1 : own k = false := by simp [own]; omega
    have e2 : bears k = false := by simp [bears]; omega
    rw [e0, e1, e2]
    have n0 : k ≠ 0 := by omega
    have n1 : k ≠ 1 := by omega
    have n2 : k ≠ 2 := by omega
    have n3 : k ≠ 3 := by omega
    have n4 : k ≠ 4 := by omega
    have n5 : k ≠ 5 := by omega
    have n6 : k ≠ 6 := by omega
    have n7 : k ≠ 7 := by omega
    have n8 : k ≠ 8 := by omega
    have n9 : k ≠ 9 := by omega
    clear h
    go_enter Try.func81, Try.ntmps81
    go_wp2
    go_returns
    refine ⟨rfl, ?_⟩
    repeat (first | exact Below.refl _ _ | refine Below.alloc ?_ (by simp) _ | refine Below.setCell ?_ (by simp) _ | refine Below.drew ?_)
  all_goals (
    go_enter Try.func81, Try.ntmps81
    go_wp2
    go_returns
    refine ⟨rfl, ?_⟩
    repeat (first | exact Below.refl _ _ | refine Below.alloc ?_ (by simp) _ | refine Below.setCell ?_ (by simp) _ | refine Below.drew ?_))

theorem run_cargo0 (p q r : Bool) (w : World) : (Instr.field 95 (.agg #[.bool p, .bool q, .bool r]) 0).run Try.prog w = .ok (.bool p) w := by
  kernel_rfl
theorem run_cargo2 (p q r : Bool) (w : World) : (Instr.field 95 (.agg #[.bool p, .bool q, .bool r]) 2).run Try.prog w = .ok (.bool r) w := by
  kernel_rfl

theorem Acks_any (k : Int) (w : World) : Calls Try.prog 46 #[.int .i64 k] w fun e w' => e = .returned (.bool (acks k)) ∧ Below w.heap.size w w' := by
  go_enter Try.func46, Try.ntmps46
  go_wp2_with fail
  refine (cargoOf_any k _).mono ?_
  rintro e w1 ⟨rfl, h1⟩
  have hf0 := run_cargo0 (acks k) (own k) (bears k) w1
  have hf2 := run_cargo2 (acks k) (own k) (bears k) w1
  go_wp2_with fail
  go_ret
  exact ⟨rfl, h1⟩

theorem Bears_any (k : Int) (w : World) : Calls Try.prog 65 #[.int .i64 k] w fun e w' => e = .returned (.bool (bears k)) ∧ Below w.heap.size w w' := by
  go_enter Try.func65, Try.ntmps65
  go_wp2_with fail
  refine (cargoOf_any k _).mono ?_
  rintro e w1 ⟨rfl, h1⟩
  have hf0 := run_cargo0 (acks k) (own k) (bears k) w1
  have hf2 := run_cargo2 (acks k) (own k) (bears k) w1
  go_wp2_with fail
  go_ret
  exact ⟨rfl, h1⟩

set_option maxHeartbeats 800000 in
theorem Size_any (k : Int) (l : Bool) (w : World) : Calls Try.prog 50 #[.int .i64 k, .bool l] w fun e w' => e = .returned (.int .i64 (sizeOf k l)) ∧ Below w.heap.size w w' := by
  obtain ⟨kn, hkn⟩ : ∃ kn, kn = knownK k := ⟨_, rfl⟩
  obtain ⟨sh, hsh⟩ : ∃ sh, sh = shortK k := ⟨_, rfl⟩
  obtain ⟨p, hp⟩ : ∃ p, p = acks k := ⟨_, rfl⟩
  obtain ⟨q, hq⟩ : ∃ q, q = own k := ⟨_, rfl⟩
  have hr : sizeOf k l = if kn && (l || sh) then (if l then 16 else 12) + (if p then (if l then 8 else 4) else 0) + (if q then 4 else 0) else 0 := by
    rw [hkn, hsh, hp, hq]; rfl
  rw [hr]
  have C1 := fun w => known_any k w
  have C2 := fun w => short_any k w
  have C3 := fun w => cargoOf_any k w
  rw [← hkn] at C1; rw [← hsh] at C2; rw [← hp, ← hq] at C3
  clear hr hkn hsh hp hq
  generalize bears k = r at C3
  cases kn
  · go_enter Try.func50, Try.ntmps50
    go_wp2_with (go_at_call 59; refine (C1 _).mono ?_; rintro e w ⟨rfl, rfl⟩)
    go_ret
    exact ⟨rfl, Below.refl _ _⟩
  cases l <;> cases sh
  · go_enter Try.func50, Try.ntmps50
    go_wp2_with (first
      | (go_at_call 59; refine (C1 _).mono ?_; rintro e w ⟨rfl, rfl⟩)
      | (go_at_call 60; refine (C2 _).mono ?_; rintro e w ⟨rfl, rfl⟩))
    go_ret
    exact ⟨rfl, Below.refl _ _⟩
  all_goals (
    cases p <;> cases q
    all_goals (
      go_enter Try.func50, Try.ntmps50
      go_wp2_with (first
        | (go_at_call 59; refine (C1 _).mono ?_; rintro e w ⟨rfl, rfl⟩)
        | (go_at_call 60; refine (C2 _).mono ?_; rintro e w ⟨rfl, rfl⟩)
        | (go_at_call 81; refine (C3 _).mono ?_; rintro e w1 ⟨rfl, h1⟩))
      go_ret
      exact ⟨rfl, h1.alloc h1.size _⟩))

theorem refAcks_any (k : Int) (w : World) : Calls Try.prog 33 #[.int .i64 k] w fun e w' => e = .returned (.bool (acks k)) ∧ w' = w := by
  by_cases h1 : k = 1
  · subst h1
    go_enter Try.func33, Try.ntmps33
    go_wp2
    go_ret
    exact ⟨rfl, rfl⟩
  by_cases h3 : 3 ≤ k
  · by_cases h9 : k ≤ 9
    all_goals (
      go_enter Try.func33, Try.ntmps33
      go_wp2
      go_ret
      exact ⟨by simp [acks, h1, h3, h9, beq_false_of_ne h1], rfl⟩)
  · go_enter Try.func33, Try.ntmps33
    go_wp2
    go_ret
    exact ⟨by simp [acks, beq_false_of_ne h1]; omega, rfl⟩

theorem refBears_any (k : Int) (w : World) : Calls Try.prog 69 #[.int .i64 k] w fun e w' => e = .returned (.bool (bears k)) ∧ w' = w := by
  by_cases h0 : k = 0
  · subst h0
    go_enter Try.func69, Try.ntmps69
    go_wp2
    go_ret
    exact ⟨rfl, rfl⟩
  by_cases h1 : k = 1
  · subst h1
    go_enter Try.func69, Try.ntmps69
    go_wp2
    go_ret
    exact ⟨rfl, rfl⟩
  by_cases h2 : k = 2
  · subst h2
    go_enter Try.func69, Try.ntmps69
    go_wp2
    go_ret
    exact ⟨rfl, rfl⟩
  by_cases h4 : k = 4
  all_goals (
    go_enter Try.func69, Try.ntmps69
    go_wp2
    go_ret
    exact ⟨by simp [bears, h0, h1, h2, h4], rfl⟩)

theorem off_any (n m : Int) (w : World) : Calls Try.prog 67 #[.int .i64 n, .int .i64 m] w fun e w' => e = .returned (.bool (!fits n (m - 1))) ∧ w' = w := by
  by_cases h0 : n < 0
  · go_enter Try.func67, Try.ntmps67
    go_wp2
    go_ret
    exact ⟨by simp [fits, h0], rfl⟩
  · by_cases h9 : m ≤ n
    all_goals (
      go_enter Try.func67, Try.ntmps67
      go_wp2
      go_ret
      refine ⟨?_, rfl⟩
      simp [fits]
      omega)
end Go.Proofs.Ytkjojfcknfhkhaa.Head
