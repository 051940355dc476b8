/- The law's own first look at beginnings. -/
import Derived.Test.YtmjfdklpcmpjhaaHead9
namespace Go.Proofs.Ytmjfdklpcmpjhaa.Head
open Go.ChangeShapes Go.WideShapes Go.ChangeAt Go.RowKit
set_option linter.unusedVariables false

def hw : B := ⟨0, 0, 4, 0, 0, 0, 3, false, 7⟩
def sw : ByteArray := ⟨#[0, 0, 0, 0, 4, 0, 0, 0, 6, 0, 0, 7]⟩
theorem works_check : check hw = 0 := by decide
theorem works_put : putText hw = sw := by
  unfold putText
  rw [if_pos works_check]
  exact ByteArray.ext (by decide +kernel)
theorem works_parse : parse (sw ++ ⟨#[120]⟩) = hw := by kernel_rfl
theorem works_get : get (sw ++ ⟨#[120]⟩) = (hw, ⟨#[120]⟩, 0) := by
  have h1 : ¬ short (sw ++ ⟨#[120]⟩) := by decide +kernel
  have h2 : kept (sw ++ ⟨#[120]⟩) = false := by decide +kernel
  rw [get_right h1 h2 (by rw [works_parse]; exact works_check), works_parse]
  have h3 : (sw ++ ⟨#[120]⟩ : ByteArray).extract (nOf (isLong (sw ++ ⟨#[120]⟩))) (sw ++ ⟨#[120]⟩ : ByteArray).size = ⟨#[120]⟩ := ext_toList (by decide +kernel)
  rw [h3]
theorem works_size : sizeOf 1 true = 28 := by decide

set_option maxRecDepth 100000 in
set_option maxHeartbeats 1000000 in
theorem works_any (w : World) :
    Calls Try.prog 6 #[] w fun e w' => e = .returned (.bool true) ∧ Below w.heap.size w w' := by
  have HP := Lib.hid (Put_any hw w)
  rw [works_put, works_check] at HP
  have HG := Lib.hid (fun w => Get_any (sw ++ ⟨#[120]⟩) (by decide +kernel) w)
  unfold GetEnd at HG
  rw [works_get] at HG
  have HS := Lib.hid (fun w => Size_any 1 true w)
  rw [works_size] at HS
  have hsz : sw.size = 12 := rfl
  go_enter Try.func6, Try.ntmps6
  go_wp2_with fail
  refine HP.out.mono ?_
  rintro e w1 ⟨rfl, h1⟩
  generalize sw = S at *
  go_wp2_with fail
  refine (HG.out _).mono ?_
  rintro e w2 ⟨rfl, h2⟩
  have h0 := Lib.hid (h1.trans (h2.mono h1.size))
  clear h1 h2
  go_wp2_with fail
  refine (HS.out _).mono ?_
  rintro e w3 ⟨rfl, h3⟩
  go_wp2_with fail
  go_returns
  exact ⟨rfl, (h0.out.alloc h0.out.size _).trans (h3.mono (by simp; exact Nat.le_succ_of_le h0.out.size))⟩
end Go.Proofs.Ytmjfdklpcmpjhaa.Head
