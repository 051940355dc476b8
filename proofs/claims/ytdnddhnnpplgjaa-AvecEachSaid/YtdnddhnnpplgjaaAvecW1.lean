/- The law's own first look at runs. -/
import Derived.Test.YtdnddhnnpplgjaaAvecF
namespace Go.Proofs.Ytdnddhnnpplgjaa.Avec
open Go.ChangeShapes Go.WideShapes Go.ChangeAt Go.RowKit
set_option linter.unusedVariables false

theorem ints3_in (w : World) (t : TypeId) : IntsIn (w.alloc (.cells #[.int .i64 0, .int .i64 0, .int .i64 3] t)) (some ⟨w.heap.size, 0, none⟩) [0, 0, 3] := by
  refine .inr ⟨w.heap.size, 0, rfl, by simp, fun i x hi => ?_⟩
  have hc := fun j => World.cell?_alloc_mark w #[.int .i64 0, .int .i64 0, .int .i64 3] t (0, 0) j
  match i, hi with
  | 0, hi =>
    obtain rfl : (0 : Int) = x := by simpa using hi
    exact hc 0
  | 1, hi =>
    obtain rfl : (0 : Int) = x := by simpa using hi
    exact hc 1
  | 2, hi =>
    obtain rfl : (3 : Int) = x := by simpa using hi
    exact hc 2
  | i + 3, hi => simp at hi

theorem works_runs : ofRuns [0, 0, 3] = [⟨0, 2⟩, ⟨3, 1⟩] := by rfl
theorem works_put : putOf [⟨0, 2⟩, ⟨3, 1⟩] = ⟨#[1, 192]⟩ ∧ check [⟨0, 2⟩, ⟨3, 1⟩] = 0 ∧ many [⟨0, 2⟩, ⟨3, 1⟩] = 3 := by decide
theorem works_at : atOf (seqOf 0) (told (seqOf 1) (states [⟨0, 2⟩, ⟨3, 1⟩])) = 0 ∧ atOf (seqOf 281474976710655) (told (seqOf 1) (states [⟨0, 2⟩, ⟨3, 1⟩])) = 3 := by decide

set_option maxRecDepth 100000 in
set_option maxHeartbeats 1000000 in
theorem works_any (w : World) :
    Calls Try.prog 6 #[] w fun e w' => e = .returned (.bool true) ∧ Below w.heap.size w w' := by
  have hb0 := (Below.refl w.heap.size w).alloc (Nat.le_refl _) (.cells #[.int .i64 0, .int .i64 0, .int .i64 3] 3)
  have hin := ints3_in w 3
  have Hof := Lib.hid (Of_any [0, 0, 3] (by decide) _ 3 _ hin)
  rw [works_runs] at Hof
  go_enter Try.func6, Try.ntmps6
  go_wp2_with fail
  refine Hof.out.mono ?_
  rintro e w1 ⟨v, rfl, hr, h1⟩
  obtain ⟨a, cap, rfl, hat⟩ := hr.at
  have h0 := Lib.hid (hb0.trans (h1.mono (by simp)))
  have Hat := Lib.hid hat
  clear hb0 h1 hr hin Hof hat
  have Hput := Lib.hid (fun (w : World) (h : RunsAt w a [⟨0, 2⟩, ⟨3, 1⟩]) => Put_any [⟨0, 2⟩, ⟨3, 1⟩] (by decide) a cap w h)
  rw [works_put.1, works_put.2.1] at Hput
  have Hmany := Lib.hid (fun (w : World) (h : RunsAt w a [⟨0, 2⟩, ⟨3, 1⟩]) => Many_any [⟨0, 2⟩, ⟨3, 1⟩] (by decide) a cap w h)
  rw [works_put.2.2] at Hmany
  have Hat1 := Lib.hid (fun (w : World) (h : RunsAt w a [⟨0, 2⟩, ⟨3, 1⟩]) => At_any 1 0 [⟨0, 2⟩, ⟨3, 1⟩] (by decide) a cap w h)
  rw [works_at.1] at Hat1
  have Hat2 := Lib.hid (fun (w : World) (h : RunsAt w a [⟨0, 2⟩, ⟨3, 1⟩]) => At_any 1 281474976710655 [⟨0, 2⟩, ⟨3, 1⟩] (by decide) a cap w h)
  rw [works_at.2] at Hat2
  go_wp2_with fail
  refine (Hput.out _ Hat.out).mono ?_
  rintro e w2 ⟨rfl, h2⟩
  have Hat := Lib.hid (Hat.out.below h2)
  have h0 := Lib.hid (h0.out.trans (h2.mono h0.out.size))
  clear h2
  go_wp2_with fail
  refine (Hmany.out _ Hat.out).mono ?_
  rintro e w3 ⟨rfl, h3⟩
  have Hat := Lib.hid (Hat.out.below h3)
  have h0 := Lib.hid (h0.out.trans (h3.mono h0.out.size))
  clear h3
  go_wp2_with fail
  refine (Hat1.out _ Hat.out).mono ?_
  rintro e w4 ⟨rfl, h4⟩
  have Hat := Lib.hid (Hat.out.below h4)
  have h0 := Lib.hid (h0.out.trans (h4.mono h0.out.size))
  clear h4
  go_wp2_with fail
  refine (Hat2.out _ Hat.out).mono ?_
  rintro e w5 ⟨rfl, h5⟩
  have h0 := Lib.hid (h0.out.trans (h5.mono h0.out.size))
  clear h5
  go_wp2_with fail
  go_returns
  exact ⟨rfl, h0.out⟩
end Go.Proofs.Ytdnddhnnpplgjaa.Avec
