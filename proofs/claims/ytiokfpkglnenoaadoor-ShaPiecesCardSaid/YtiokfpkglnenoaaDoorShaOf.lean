/- The sum of any bytes: the law's walk. -/
import Derived.Test.YtiokfpkglnenoaaDoorSha8
import Derived.Test.YtiokfpkglnenoaaDoorShaW1
import Derived.Test.YtiokfpkglnenoaaDoorShaL
namespace Go.Proofs.YtiokfpkglnenoaaDoor.Sha
open Go.ChangeShapes Go.WideShapes Go.ChangeAt Go.RowKit
set_option linter.unusedVariables false

set_option maxHeartbeats 400000 in
theorem ShaOf_walk (a0 : ByteArray) (W : World) (w0 : a0.size ≤ maxLen) (hL : laidMetH Tryd.prog Rows.shaOfRow.laid W) :
    Calls Tryd.prog 3 #[.string a0] W fun e w' => e = .returned (.bool true) ∧ Below W.heap.size W w' := by
  have hT := Tabs.of_laid hL
  clear hL
  unfold maxLen at w0
  go_enter Tryd.func3, Tryd.ntmps3
  go_wp2_with fail
  refine (works_any _ hT).mono ?_
  rintro e w1 ⟨rfl, h1⟩
  have hT := hT.below h1 hT.size
  by_cases hbig : 1000 < a0.size
  · have hb : (1000 : Int) < (a0.size : Int) := by omega
    go_wp2_with fail
    go_ret
    exact ⟨rfl, h1⟩
  · have hb : ¬ (1000 : Int) < (a0.size : Int) := by omega
    go_wp2_with fail
    refine (of_any _ _ hT (by omega)).mono ?_
    rintro e w2 ⟨rfl, h2⟩
    have h1 := h1.trans (h2.mono h1.size)
    clear h2
    go_wp2_with fail
    refine (refOf_any _ (by omega) _).mono ?_
    rintro e w3 ⟨rfl, h3⟩
    have h1 := h1.trans (h3.mono h1.size)
    clear h3 hT
    generalize ByteArray.mk (sum a0.data.toList).toArray = z at *
    go_wp2_with fail
    go_ret
    exact ⟨by simp, h1⟩
end Go.Proofs.YtiokfpkglnenoaaDoor.Sha
