/- The fields' own small methods: their contracts. -/
import Derived.Test.YtmkngolkflihlaaMp1
import Derived.Test.YtmkngolkflihlaaPutInt
import Derived.Test.YtmkngolkflihlaaCutC
import Derived.Test.YtmkngolkflihlaaStep
import Derived.BigQuiet
namespace Go.Proofs.Ytmkngolkflihlaa.Mp
open Go.ChangeShapes Go.WideShapes Go.ChangeAt Go.RowKit
set_option linter.unusedVariables false

/-- a number's own value -/
abbrev nv (b j z : Nat) : Value := .agg #[.pointer (some ⟨b, j, none⟩), .int .i64 (z : Nat)]
/-- a text's own value -/
abbrev xv (b s l : Nat) : Value := .agg #[.pointer (some ⟨b, 6, none⟩), .int .i64 (s : Nat), .int .i64 (l : Nat)]

theorem belowN {B : Nat} {w w' : World} (h : Below B w w') (n : Nat) : Below B w (w'.drewN n) := ⟨h.os, h.tape, h.output, h.size, h.block⟩

set_option maxHeartbeats 2000000 in
theorem nwrong_any (b j z : Nat) (x : Int) (hz : z = 1 ∨ z = 2 ∨ z = 4 ∨ z = 6) (w : World) (hb : b < w.heap.size) (hc : w.cell? ⟨b, j, none⟩ = some (.int .i64 x)) :
    Calls Try.prog 65 #[nv b j z] w fun e w' => e = .returned (.int .i64 (if x < 0 ∨ (2 : Int) ^ (8 * z) ≤ x then 3 else 0)) ∧ Below w.heap.size w w' := by
  have hB := Lib.hid ((Below.refl w.heap.size w).alloc (Nat.le_refl _) (.cells #[.pointer (some ⟨b, j, none⟩), .int .i64 (z : Nat)] 75))
  have hc' : ((w.alloc (.cells #[.pointer (some ⟨b, j, none⟩), .int .i64 (z : Nat)] 75))).cell? ⟨b, j, none⟩ = some (.int .i64 x) := (hB.out.cell (p := ⟨b, j, none⟩) hb).trans hc
  by_cases h0 : x < 0
  · have hr := Lib.hid (show (if x < 0 ∨ (2 : Int) ^ (8 * z) ≤ x then (3 : Int) else 0) = 3 from if_pos (.inl h0))
    rw [hr.out]
    go_enter Try.func65, Try.ntmps65
    go_wp2_with fail
    go_quiet (fail)
    go_wp2_with fail
    go_ret
    exact ⟨rfl, belowN hB.out _⟩
  · have h0' : (decide (x < 0)) = false := by simpa using h0
    by_cases h1 : (2 : Int) ^ (8 * z) ≤ x
    · have hr := Lib.hid (show (if x < 0 ∨ (2 : Int) ^ (8 * z) ≤ x then (3 : Int) else 0) = 3 from if_pos (.inr h1))
      rw [hr.out]
      clear hr
      rcases hz with rfl | rfl | rfl | rfl
      all_goals (
        simp only [Int.reducePow, Nat.reduceMul] at h1
        go_enter Try.func65, Try.ntmps65
        go_wp2_with fail
        go_quiet (fail)
        go_wp2_with fail
        go_ret
        exact ⟨rfl, belowN hB.out _⟩)
    · have hr := Lib.hid (show (if x < 0 ∨ (2 : Int) ^ (8 * z) ≤ x then (3 : Int) else 0) = 0 from if_neg (by omega))
      rw [hr.out]
      clear hr
      rcases hz with rfl | rfl | rfl | rfl
      all_goals (
        simp only [Int.reducePow, Nat.reduceMul] at h1
        go_enter Try.func65, Try.ntmps65
        go_wp2_with fail
        go_quiet (fail)
        go_wp2_with fail
        go_ret
        exact ⟨rfl, belowN hB.out _⟩)
end Go.Proofs.Ytmkngolkflihlaa.Mp
