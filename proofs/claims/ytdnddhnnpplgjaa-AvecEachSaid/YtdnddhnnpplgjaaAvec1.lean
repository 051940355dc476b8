/- Runs that lie in memory; how many packets they tell, and what is wrong with them: the contracts of both. -/
import Derived.Test.YtdnddhnnpplgjaaAvec0
import Derived.Test.YtdnddhnnpplgjaaCirc1
import Derived.Deep.DeepCutAuto
import Derived.BigQuiet
import Derived.Handy
namespace Go.Proofs.Ytdnddhnnpplgjaa.Avec
open Go.ChangeShapes Go.WideShapes Go.ChangeAt Go.RowKit
set_option linter.unusedVariables false

/-- what a slice of runs reads as -/
def RunsAt (w : World) (a : Option Addr) (l : List R) : Prop :=
  l = [] ∨ ∃ b off, a = some ⟨b, off, none⟩ ∧ b < w.heap.size ∧ ∀ i o, l[i]? = some o → w.cell? ⟨b, off + i * 2, none⟩ = some (.int .i64 o.state) ∧ w.cell? ⟨b, off + i * 2 + 1, none⟩ = some (.int .i64 o.many)

theorem RunsAt.cell {w w' : World} {a : Option Addr} {l : List R} (h : RunsAt w a l) (hb : Below w.heap.size w w') {i : Nat} {o : R} (hi : l[i]? = some o) :
    ∃ b off, a = some ⟨b, off, none⟩ ∧ b < w.heap.size ∧ w'.cell? ⟨b, off + i * 2, none⟩ = some (.int .i64 o.state) ∧ w'.cell? ⟨b, off + i * 2 + 1, none⟩ = some (.int .i64 o.many) := by
  rcases h with rfl | ⟨b, off, rfl, h1, h2⟩
  · simp at hi
  · exact ⟨b, off, rfl, h1, (hb.cell (p := ⟨b, off + i * 2, none⟩) h1).trans (h2 i o hi).1, (hb.cell (p := ⟨b, off + i * 2 + 1, none⟩) h1).trans (h2 i o hi).2⟩
theorem RunsAt.below {w w' : World} {a : Option Addr} {l : List R} (h : RunsAt w a l) (hb : Below w.heap.size w w') : RunsAt w' a l := by
  rcases h with h | ⟨b, off, rfl, h1, h2⟩
  · exact .inl h
  · exact .inr ⟨b, off, rfl, Nat.lt_of_lt_of_le h1 hb.size, fun i o hi => ⟨(hb.cell (p := ⟨b, off + i * 2, none⟩) h1).trans (h2 i o hi).1, (hb.cell (p := ⟨b, off + i * 2 + 1, none⟩) h1).trans (h2 i o hi).2⟩⟩
theorem below_drewN {B : Nat} {w w' : World} (h : Below B w w') (n : Nat) : Below B w (w'.drewN n) := ⟨h.os, h.tape, h.output, h.size, h.block⟩
theorem cell_alloc {w : World} {b off : Nat} {v : Value} (o : Obj) (hb : b < w.heap.size) (h : w.cell? ⟨b, off, none⟩ = some v) : (w.alloc o).cell? ⟨b, off, none⟩ = some v :=
  (((Below.refl w.heap.size w).alloc (Nat.le_refl _) o).cell (p := ⟨b, off, none⟩) hb).trans h

theorem known_cases (s : Int) : (s = 0 ∧ known s = true) ∨ ((s == 0) = false ∧ s = 1 ∧ known s = true) ∨ ((s == 0) = false ∧ (s == 1) = false ∧ s = 3 ∧ known s = true) ∨ ((s == 0) = false ∧ (s == 1) = false ∧ (s == 3) = false ∧ known s = false) := by
  by_cases h0 : s = 0
  · exact .inl ⟨h0, by subst h0; rfl⟩
  · by_cases h1 : s = 1
    · exact .inr (.inl ⟨by simp [h0], h1, by subst h1; rfl⟩)
    · by_cases h3 : s = 3
      · exact .inr (.inr (.inl ⟨by simp [h0], by simp [h1], h3, by subst h3; rfl⟩))
      · exact .inr (.inr (.inr ⟨by simp [h0], by simp [h1], by simp [h3], by simp [known, h0, h1, h3]⟩))

theorem known_any (s : Int) (w : World) :
    Calls Try.prog 24 #[.int .i64 s] w fun e w' => e = .returned (.bool (known s)) ∧ w' = w := by
  go_enter Try.func24, Try.ntmps24
  rcases known_cases s with ⟨rfl, hk⟩ | ⟨h0, rfl, hk⟩ | ⟨h0, h1, rfl, hk⟩ | ⟨h0, h1, h3, hk⟩
  all_goals (
    go_wp2_with fail
    go_returns
    exact ⟨by rw [hk]; rfl, rfl⟩)

theorem refKnown_any (s : Int) (w : World) :
    Calls Try.prog 25 #[.int .i64 s] w fun e w' => e = .returned (.bool (known s)) ∧ w' = w := by
  go_enter Try.func25, Try.ntmps25
  rcases known_cases s with ⟨rfl, hk⟩ | ⟨h0, rfl, hk⟩ | ⟨h0, h1, rfl, hk⟩ | ⟨h0, h1, h3, hk⟩
  all_goals (
    go_wp2_with fail
    go_returns
    exact ⟨by rw [hk]; rfl, rfl⟩)

theorem told1_any (s n : Int) (w : World) :
    Calls Try.prog 26 #[.agg #[.int .i64 s, .int .i64 n]] w fun e w' => e = .returned (.int .i64 (heldN n)) ∧ Below w.heap.size w w' := by
  have hb := (Below.refl w.heap.size w).alloc (Nat.le_refl _) (.cells #[.int .i64 s, .int .i64 n] 45)
  have hh := Lib.hid (held_eq n)
  go_enter Try.func26, Try.ntmps26
  go_wp2_with fail
  all_goals (
    go_returns
    exact ⟨congrArg (fun x => Ending.returned (.int .i64 x)) (by have := hh.out; omega), hb⟩)

theorem refHeld_any (n : Int) (w : World) :
    Calls Try.prog 27 #[.int .i64 n] w fun e w' => e = .returned (.int .i64 (heldN n)) ∧ w' = w := by
  have hh := Lib.hid (held_eq n)
  go_enter Try.func27, Try.ntmps27
  go_wp2_with fail
  all_goals (
    go_returns
    exact ⟨congrArg (fun x => Ending.returned (.int .i64 x)) (by have := hh.out; omega), rfl⟩)
end Go.Proofs.Ytdnddhnnpplgjaa.Avec
