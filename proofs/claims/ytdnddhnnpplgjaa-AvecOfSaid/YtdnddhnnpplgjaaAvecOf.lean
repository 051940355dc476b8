/- The walk of AvecOf. -/
import Derived.Test.YtdnddhnnpplgjaaAvecArg
import Derived.Test.YtdnddhnnpplgjaaAvec8
namespace Go.Proofs.Ytdnddhnnpplgjaa.Avec
open Go.ChangeShapes Go.WideShapes Go.ChangeAt Go.RowKit
open Go.Proofs.Ytdnddhnnpplgjaa.LInt
set_option linter.unusedVariables false

theorem AvecOf_open0 {H : Type} {enc : TypeId × Value → H} {W : World} {a : Option Addr} {len cap : Nat} {d : DataW H} {p : List MemPlace}
    (h : DataW.Trod enc Try.prog W 0 (fun _ => true) true 33 (.slice a len cap) d p) : IsInts W a len := isInts_open h

theorem turn_cases (x : Int) : (x = 0 ∧ turn x = 0) ∨ ((x == 0) = false ∧ x = 1 ∧ turn x = 1) ∨ ((x != 0) = true ∧ (x != 1) = true ∧ turn x = 3) := by
  by_cases h0 : x = 0
  · exact .inl ⟨h0, by subst h0; rfl⟩
  · by_cases h1 : x = 1
    · exact .inr (.inl ⟨by simp [h0], h1, by subst h1; rfl⟩)
    · refine .inr (.inr ⟨by simp [h0], by simp [h1], ?_⟩)
      by_cases h3 : x = 3
      · subst h3; rfl
      · unfold turn known; simp [h0, h1, h3]

set_option maxRecDepth 100000 in
set_option maxHeartbeats 1000000 in
theorem AvecOf_walk (a1 : Option Addr) (len cap : Nat) (W : World) (h : IsInts W a1 len) :
    Calls Try.prog 4 #[.slice a1 len cap] W fun e w' => e = .returned (.bool true) ∧ Below W.heap.size W w' := by
  obtain ⟨xs, rfl, hin, hlm⟩ := h
  go_enter Try.func4, Try.ntmps4
  go_wp2_with fail
  refine (works_any _).mono ?_
  rintro e w1 ⟨rfl, h1⟩
  have Hin := Lib.hid (hin.below h1)
  have Hb := Lib.hid h1
  clear hin h1
  by_cases hlen : 500 < xs.length
  · go_wp2_with fail
    go_returns
    exact ⟨rfl, Hb.out⟩
  · obtain ⟨hgood, hst, hrl⟩ := ofRuns_all xs
    have hrl5 : (ofRuns xs).length ≤ 5000 := by omega
    have Hrs := Lib.hid (refStates_any (ofRuns xs) hrl5)
    have Hof := Lib.hid (Of_any xs (by omega) a1 cap)
    have Hrof := Lib.hid (refOf_any xs (by omega) a1 cap)
    have Hsame := Lib.hid (SameD_any (ofRuns xs) (ofRuns xs).length rfl (by omega))
    rw [hst] at Hrs
    have hml : (xs.map turn).length = xs.length := List.length_map ..
    generalize ofRuns xs = l at *
    clear hgood hst
    go_wp2_with fail
    refine (Hof.out _ Hin.out).mono ?_
    rintro e w2 ⟨v, rfl, hr, h2⟩
    obtain ⟨a2, cap2, rfl, hat⟩ := hr.at
    have Hat := Lib.hid hat
    have Hin := Lib.hid (Hin.out.below h2)
    have Hb := Lib.hid (Hb.out.trans (h2.mono Hb.out.size))
    clear hat hr h2 Hof
    go_wp2_with fail
    refine (Hrs.out a2 cap2 _ Hat.out).mono ?_
    rintro e w3 ⟨v3, rfl, hi3, h3⟩
    obtain ⟨a3, cap3, rfl, hin3⟩ := ints_in hi3
    have Hin3 := Lib.hid hin3
    have Hat := Lib.hid (Hat.out.below h3)
    have Hin := Lib.hid (Hin.out.below h3)
    have Hb := Lib.hid (Hb.out.trans (h3.mono Hb.out.size))
    clear hin3 hi3 h3 Hrs
    rw [hml]
    go_wp2_with fail
    refine (Hrof.out _ Hin.out).mono ?_
    rintro e w4 ⟨v4, rfl, hr4, h4⟩
    obtain ⟨a4, cap4, rfl, hat4⟩ := hr4.at
    have Hat4 := Lib.hid hat4
    have Hat := Lib.hid (Hat.out.below h4)
    have Hin := Lib.hid (Hin.out.below h4)
    have Hin3 := Lib.hid (Hin3.out.below h4)
    have Hb := Lib.hid (Hb.out.trans (h4.mono Hb.out.size))
    clear hat4 hr4 h4 Hrof
    go_wp2_with fail
    refine (Hsame.out a2 a4 cap2 cap4 _ Hat.out Hat4.out).mono ?_
    rintro e w5 ⟨rfl, n5, h5⟩
    have h5b : Below w4.heap.size w4 w5 := by rw [h5]; exact below_drewN (Below.refl _ _) _
    have Hin := Lib.hid (Hin.out.below h5b)
    have Hin3 := Lib.hid (Hin3.out.below h5b)
    have Hb := Lib.hid (Hb.out.trans (h5b.mono Hb.out.size))
    clear h5 h5b Hsame Hat Hat4
    go_wp2_with fail
    go_loopw [5] (fun i wr => wr = w5 ∧ ∃ k : Nat, k ≤ xs.length ∧ i = .int .i64 k) (fun i _ => xs.length - (intOf i).toNat)
    case atStart => exact ⟨rfl, 0, by omega, rfl⟩
    case round =>
      obtain ⟨rfl, k, hk, rfl⟩ := hrel
      by_cases hlt : k < xs.length
      · obtain ⟨x, hi⟩ := some_at hlt
        obtain ⟨b, off, rfl, hb0, hc0⟩ := Hin.out.cell (Below.refl _ _) hi
        have hi3 : (xs.map turn)[k]? = some (turn x) := by rw [List.getElem?_map, hi]; rfl
        obtain ⟨b3, off3, rfl, hb30, hc30⟩ := Hin3.out.cell (Below.refl _ _) hi3
        rcases turn_cases x with ⟨rfl, ht⟩ | ⟨h0, rfl, ht⟩ | ⟨h0, h1, ht⟩
        all_goals (
          rw [ht] at hc30
          clear hi3 ht
          go_wp2_with fail
          refine ⟨⟨trivial, k + 1, by omega, by go_num⟩, by simp [intOf]; omega⟩)
      · obtain rfl : k = xs.length := by omega
        go_wp2_with fail
        go_returns
        exact ⟨rfl, Hb.out⟩
end Go.Proofs.Ytdnddhnnpplgjaa.Avec
