/- Two lists that are the same, compared: the contract of the law's own helper. -/
import Derived.Test.YtmkngolkflihlaaMpL
namespace Go.Proofs.Ytmkngolkflihlaa.Mp
open Go.ChangeShapes Go.WideShapes Go.ChangeAt Go.RowKit
set_option linter.unusedVariables false

set_option maxRecDepth 100000 in
set_option maxHeartbeats 2000000 in
theorem SameM_any (l : List M) (hl : l.length ≤ 3000) (a a2 : Option Addr) (cap cap2 : Nat) (w : World) (h : MsAt w a l) (h2 : MsAt w a2 l) :
    Calls Try.prog 14 #[.slice a l.length cap, .slice a2 l.length cap2] w fun e w' => e = .returned (.bool true) ∧ Below w.heap.size w w' := by
  have H := Lib.hid h
  have H2 := Lib.hid h2
  clear h h2
  go_enter Try.func14, Try.ntmps14
  go_wp2_with fail
  go_loopw [5] (fun i wr => ∃ k : Nat, k ≤ l.length ∧ i = .int .i64 k ∧ Below w.heap.size w wr) (fun i _ => l.length - (intOf i).toNat)
  case atStart => exact ⟨0, by omega, rfl, Below.refl _ _⟩
  case round =>
    obtain ⟨k, hk, rfl, hb⟩ := hrel
    by_cases hlt : k < l.length
    · obtain ⟨m, hi⟩ := Opt.some_at hlt
      obtain ⟨b, off, rfl, hb0, h7⟩ := H.out.get hb hi
      obtain ⟨b2, off2, rfl, hb20, h72⟩ := H2.out.get hb hi
      have qn := fun w => neqM_same m w
      obtain ⟨mk, ma, mp, mt, mn, mq, mb⟩ := m
      obtain ⟨c0, c1, c2, c3, c4, c5, c6⟩ := h7
      obtain ⟨d0, d1, d2, d3, d4, d5, d6⟩ := h72
      unfold rowOf at qn
      dsimp only at c0 c1 c2 c3 c4 c5 c6 d0 d1 d2 d3 d4 d5 d6 qn
      have g1 : (0 : Int) ≤ (k : Int) := by omega
      have g2 : (k : Int) < (l.length : Int) := by omega
      have Hb := Lib.hid (fun n => Opt.below_drewN hb n)
      clear hb hi
      go_wp2_with fail
      go_quiet (fail)
      go_wp2_with fail
      refine ⟨⟨k + 1, by omega, by go_num, Hb.out _⟩, by simp [intOf]; omega⟩
    · obtain rfl : k = l.length := by omega
      go_wp2_with fail
      go_returns
      exact ⟨rfl, hb⟩
end Go.Proofs.Ytmkngolkflihlaa.Mp
