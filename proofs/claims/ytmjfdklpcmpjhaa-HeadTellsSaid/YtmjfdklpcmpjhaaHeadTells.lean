/- The walk of HeadTells. -/
import Derived.Test.YtmjfdklpcmpjhaaHeadW
import Derived.Test.YtmjfdklpcmpjhaaHead4
namespace Go.Proofs.Ytmjfdklpcmpjhaa.Head
open Go.ChangeShapes Go.WideShapes Go.ChangeAt Go.RowKit
set_option linter.unusedVariables false

set_option maxRecDepth 100000 in
set_option maxHeartbeats 1000000 in
theorem HeadTells_walk (k : Int) (l : Bool) (W : World) (hk : (Lit.int .i64 k).wf = true) :
    Calls Try.prog 3 #[.int .i64 k, .bool l] W fun e w' => e = .returned (.bool true) ∧ Below W.heap.size W w' := by
  have CA := Lib.hid (fun w => Acks_any k w)
  have CB := Lib.hid (fun w => Bears_any k w)
  have CS := Lib.hid (fun w => Size_any k l w)
  have RA := Lib.hid (fun w => refAcks_any k w)
  have RB := Lib.hid (fun w => refBears_any k w)
  have RS := Lib.hid (fun w => refSize_any k l w)
  generalize acks k = p at *
  generalize bears k = q at *
  generalize sizeOf k l = z at *
  go_enter Try.func3, Try.ntmps3
  go_wp2_with fail
  refine (works_any _).mono ?_
  rintro e w1 ⟨rfl, h1⟩
  go_wp2_with fail
  refine (CA.out _).mono ?_
  rintro e w2 ⟨rfl, h2⟩
  go_wp2_with fail
  refine (RA.out _).mono ?_
  rintro e w2 ⟨rfl, rfl⟩
  go_wp2_with fail
  refine (CB.out _).mono ?_
  rintro e w3 ⟨rfl, h3⟩
  go_wp2_with fail
  refine (RB.out _).mono ?_
  rintro e w3 ⟨rfl, rfl⟩
  go_wp2_with fail
  refine (CS.out _).mono ?_
  rintro e w4 ⟨rfl, h4⟩
  go_wp2_with fail
  refine (RS.out _).mono ?_
  rintro e w4 ⟨rfl, rfl⟩
  go_wp2_with fail
  go_ret
  have a2 := h1.trans (h2.mono h1.size)
  have a3 := a2.trans (h3.mono a2.size)
  exact ⟨rfl, a3.trans (h4.mono a3.size)⟩
end Go.Proofs.Ytmjfdklpcmpjhaa.Head
