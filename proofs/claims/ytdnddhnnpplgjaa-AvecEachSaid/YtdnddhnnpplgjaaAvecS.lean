/- Two equal lists of runs are the same: nothing but draws. -/
import Derived.Test.YtdnddhnnpplgjaaAvec8
namespace Go.Proofs.Ytdnddhnnpplgjaa.Avec
open Go.ChangeShapes Go.WideShapes Go.ChangeAt Go.RowKit
set_option linter.unusedVariables false

theorem RunsAt.drewN {w : World} {a : Option Addr} {l : List R} (h : RunsAt w a l) (n : Nat) : RunsAt (w.drewN n) a l := h.below (below_drewN (Below.refl _ _) n)
theorem RunsAt.take {w : World} {a : Option Addr} {l : List R} (h : RunsAt w a l) (n : Nat) : RunsAt w a (l.take n) := by
  rcases h with rfl | ⟨b, off, rfl, h1, h2⟩
  · exact .inl (by simp)
  · exact .inr ⟨b, off, rfl, h1, fun i o hi => h2 i o (by
      rw [List.getElem?_take] at hi
      split at hi
      · exact hi
      · simp at hi)⟩

set_option maxRecDepth 100000 in
set_option maxHeartbeats 800000 in
theorem SameD_any (l : List R) (n : Nat) (hn : l.length = n) (hl : n ≤ 5000) (a a2 : Option Addr) (cap cap2 : Nat) (w : World) (h : RunsAt w a l) (h2 : RunsAt w a2 l) :
    Calls Try.prog 11 #[.slice a n cap, .slice a2 n cap2] w fun e w' => e = .returned (.bool true) ∧ ∃ n, w' = w.drewN n := by
  subst hn
  have H := Lib.hid h
  have H2 := Lib.hid h2
  clear h h2
  go_enter Try.func11, Try.ntmps11
  go_wp2_with fail
  go_loopw [5] (fun i wr => ∃ k : Nat, k ≤ l.length ∧ i = .int .i64 k ∧ ∃ n, wr = w.drewN n) (fun i _ => l.length - (intOf i).toNat)
  case atStart => exact ⟨0, by omega, rfl, 0, rfl⟩
  case round =>
    obtain ⟨k, hk, rfl, n, rfl⟩ := hrel
    have hb := below_drewN (Below.refl w.heap.size w) n
    by_cases hlt : k < l.length
    · obtain ⟨⟨p, v⟩, hi⟩ := some_at hlt
      obtain ⟨b, off, rfl, hb0, hc0, hc1⟩ := H.out.cell hb hi
      obtain ⟨b2, off2, rfl, hb20, hc20, hc21⟩ := H2.out.cell hb hi
      dsimp only at hc0 hc1 hc20 hc21
      have g1 : (0 : Int) ≤ (k : Int) := by omega
      have g2 : (k : Int) < (l.length : Int) := by omega
      clear hb
      obtain ⟨wr, hwr⟩ : ∃ wr, w.drewN n = wr := ⟨_, rfl⟩
      rw [hwr] at hc0 hc1 hc20 hc21 ⊢
      have Hw := Lib.hid hwr
      clear hwr
      go_wp2_with fail
      go_quiet (fail)
      go_wp2_with fail
      refine ⟨⟨k + 1, by omega, by go_num, n + nq, by rw [← Hw.out, World.drewN_drewN]⟩, by simp [intOf]; omega⟩
    · obtain rfl : k = l.length := by omega
      go_wp2_with fail
      go_returns
      exact ⟨rfl, n, rfl⟩
end Go.Proofs.Ytdnddhnnpplgjaa.Avec
