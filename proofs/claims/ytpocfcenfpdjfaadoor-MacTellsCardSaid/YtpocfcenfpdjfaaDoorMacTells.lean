/- Names of keys, and what they give: the law's walk. -/
import Derived.Test.YtpocfcenfpdjfaaDoorMac4
import Derived.Test.YtpocfcenfpdjfaaDoorMacW1
import Derived.Test.YtpocfcenfpdjfaaDoorShaL
namespace Go.Proofs.YtpocfcenfpdjfaaDoor.Mac
open Go.ChangeShapes Go.WideShapes Go.ChangeAt Go.RowKit
open Go.Proofs.YtpocfcenfpdjfaaDoor.Sha
set_option linter.unusedVariables false

set_option maxRecDepth 100000 in
set_option maxHeartbeats 2000000 in
theorem MacTells_walk (a0 a1 : ByteArray) (a2 a3 : Int) (W : World) (w0 : a0.size ≤ maxLen) (w1 : a1.size ≤ maxLen) (w2 : (Lit.int .i64 a2).wf = true) (w3 : (Lit.int .i64 a3).wf = true) (hL : laidMetH Tryd.prog Rows.macTellsRow.laid W) :
    Calls Tryd.prog 4 #[.string a0, .string a1, .int .i64 a2, .int .i64 a3] W fun e w' => e = .returned (.bool true) ∧ Below W.heap.size W w' := by
  have hT := Tabs.of_laid hL
  unfold maxLen at w0 w1
  clear hL w2 w3
  go_enter Tryd.func4, Tryd.ntmps4
  go_wp2_with fail
  refine (works_any W hT).mono ?_
  rintro e wa ⟨rfl, hb⟩
  have hT := hT.below hb hT.size
  by_cases h0 : 300 < a0.size
  · have g0 : (300 : Int) < (a0.size : Int) := by omega
    go_wp2_with fail
    go_ret
    exact ⟨rfl, hb⟩
  · have g0 : ¬ (300 : Int) < (a0.size : Int) := by omega
    by_cases h1 : 300 < a1.size
    · have g1 : (300 : Int) < (a1.size : Int) := by omega
      go_wp2_with fail
      go_ret
      exact ⟨rfl, hb⟩
    · have g1 : ¬ (300 : Int) < (a1.size : Int) := by omega
      go_wp2_with fail
      refine (same_any a0 a1 wa).mono ?_
      rintro e wa ⟨rfl, rfl⟩
      go_wp2_with fail
      refine (same_is a0 a0 true (by simp) wa).mono ?_
      rintro e wa ⟨rfl, rfl⟩
      go_wp2_with fail
      refine (token_any a0 wa hT (by omega)).mono ?_
      rintro e wb ⟨rfl, h1⟩
      have hT := hT.below h1 hT.size
      have hb := hb.trans (h1.mono hb.size)
      have HR := Lib.hid (fun w' => refToken_any a0 w' (by omega))
      generalize token a0.data.toList = tk at *
      clear h1
      go_wp2_with fail
      refine (HR.out _).mono ?_
      rintro e wc ⟨rfl, h1⟩
      have hT := hT.below h1 hT.size
      have hb := hb.trans (h1.mono hb.size)
      clear h1 HR
      go_wp2_with fail
      refine (draw_any a0 a2 a3 wc hT (by omega)).mono ?_
      rintro e wd ⟨rfl, h1⟩
      have hb := hb.trans (h1.mono hb.size)
      have HR := Lib.hid (fun w' => refDraw_any a0 a2 a3 w' (by omega))
      generalize draw a0.data.toList a2 a3 = d at *
      clear h1
      go_wp2_with fail
      refine (HR.out _).mono ?_
      rintro e we ⟨rfl, h1⟩
      have hb := hb.trans (h1.mono hb.size)
      clear h1 HR
      go_wp2_with fail
      go_ret
      exact ⟨by simp, hb⟩
end Go.Proofs.YtpocfcenfpdjfaaDoor.Mac
