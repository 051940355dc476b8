/- The walk of OptsBack. -/
import Derived.Test.YtphlleibhghhpaaOptW1
import Derived.Test.YtphlleibhghhpaaOptArg
namespace Go.Proofs.Ytphlleibhghhpaa.Opt
open Go.ChangeShapes Go.WideShapes Go.ChangeAt Go.RowKit
set_option linter.unusedVariables false

theorem OptsBack_open0 {H : Type} {enc : TypeId × Value → H} {W : World} {a : Option Addr} {len cap : Nat} {d : DataW H} {p : List MemPlace}
    (h : DataW.Trod enc Try.prog W 0 (fun _ => true) true 23 (.slice a len cap) d p) : IsOpts W a len := isOpts_open h

/-- what was put is got: the two calls, one behind the other -/
theorem Got_any {l : List O} (hf : Fit l) (hc : check l = 0) (j : Nat) (hj : j ≤ 3) (w : World) :
    Calls Try.prog 7 #[.string (bytesOf l ++ zeros j)] w fun e w' => ∃ a cap, e = .returned (.tuple #[.slice a l.length cap, .int .i64 0]) ∧ OptsAt w' a l ∧ Below w.heap.size w w' := by
  obtain ⟨h1, h2⟩ := get_put hc j
  obtain ⟨hw, hs⟩ := check_wrongs hc
  have hz : (bytesOf l ++ zeros j).size ≤ 3000 := by rw [ByteArray.size_append, zeros_size, bytesOf_size hw]; omega
  have := Get_any (bytesOf l ++ zeros j) hz w
  rw [h1, h2] at this
  exact this

/-- the law's second half -/
theorem Put_ok {l : List O} (hf : Fit l) (hc : check l = 0) (a : Option Addr) (cap : Nat) (w : World) (h : OptsAt w a l) :
    Calls Try.prog 16 #[.slice a l.length cap] w fun e w' => (∃ j, j ≤ 3 ∧ e = .returned (.tuple #[.string (bytesOf l ++ zeros j), .int .i64 0]) ∧ (bytesOf l ++ zeros j).size % 4 = 0) ∧ Below w.heap.size w w' := by
  refine (Put_any l hf a cap w h).mono ?_
  rintro e w1 ⟨⟨h0, -⟩ | ⟨-, j, he, h4, hj⟩, hb⟩
  · exact absurd hc h0
  · exact ⟨⟨j, hj, he, h4⟩, hb⟩

set_option maxRecDepth 100000 in
set_option maxHeartbeats 1600000 in
theorem OptsBack_walk (a1 : Option Addr) (len cap : Nat) (s : ByteArray) (W : World) (h : IsOpts W a1 len) (w1 : s.size ≤ maxLen) :
    Calls Try.prog 5 #[.slice a1 len cap, .string s] W fun e w' => e = .returned (.bool true) ∧ Below W.heap.size W w' := by
  obtain ⟨l, rfl, hat, hlm, hvm⟩ := h
  unfold maxLen at w1
  go_enter Try.func5, Try.ntmps5
  go_wp2_with fail
  refine (works_any _).mono ?_
  rintro e w1 ⟨rfl, h1⟩
  have hat1 := hat.below h1
  clear hat
  go_wp2_with fail
  refine (Great_any l hlm a1 cap w1 hat1 hvm).mono ?_
  rintro e w2 ⟨rfl | ⟨rfl, hfit⟩, rfl⟩
  · go_wp2_with fail
    go_returns
    exact ⟨rfl, h1⟩
  · clear hlm hvm
    have Hat := Lib.hid hat1
    have Hfit := Lib.hid hfit
    have hlen := hfit.1
    clear hat1 hfit
    by_cases hs : 2000 < s.size
    · have hs' : (2000 : Int) < (s.size : Int) := by omega
      go_wp2_with fail
      go_returns
      exact ⟨rfl, h1⟩
    · have hs' : ¬ (2000 : Int) < (s.size : Int) := by omega
      have Hgs := Lib.hid (fun w => Get_any s (by omega) w)
      have Hgf := Lib.hid (getOpts_fit (s := s) (by omega))
      have Hgc := Lib.hid (@check_got s)
      have Hg0 := Lib.hid (show getErr s ≠ 0 → getOpts s = [] from fun h => if_neg h)
      generalize getErr s = ge at *
      generalize getOpts s = go at *
      go_wp2_with fail
      by_cases hc : check l = 0
      · refine (Put_ok Hfit.out hc a1 cap _ Hat.out).mono ?_
        rintro e w3 ⟨⟨j, hj, rfl, h4⟩, h3⟩
        have hb3 := Lib.hid (h1.trans (h3.mono h1.size))
        have Hat3 := Lib.hid (Hat.out.below h3)
        have Hgot := Lib.hid (fun w => Got_any Hfit.out hc j hj w)
        have hzz : (bytesOf l ++ zeros j).size ≤ 3000 := by
          obtain ⟨hw, hs⟩ := check_wrongs hc
          rw [ByteArray.size_append, zeros_size, bytesOf_size hw]; omega
        generalize bytesOf l ++ zeros j = t at *
        have h4' : ((t.size : Int) % 4 == 0) = true := by simp; omega
        clear h1 h3
        go_wp2_with fail
        refine (Hgot.out _).mono ?_
        rintro e w4 ⟨a4, cap4, rfl, hat4, h5⟩
        have hb4 := Lib.hid (hb3.out.trans (h5.mono hb3.out.size))
        have Hs := Lib.hid (Same_any l hlen a1 a4 cap cap4 w4 (Hat3.out.below h5) hat4)
        clear hb3 hat4 h5
        go_wp2_with fail
        refine Hs.out.mono ?_
        rintro e w5 ⟨rfl, h6⟩
        have hb5 := Lib.hid (hb4.out.trans (h6.mono hb4.out.size))
        have HB := Lib.hid hb5.out
        clear hb4 h6 hb5
        go_wp2_with fail
        refine (Hgs.out _).mono ?_
        rintro e w6 ⟨a6, cap6, rfl, hat6, h7⟩
        have hb6 := Lib.hid (HB.out.trans (h7.mono HB.out.size))
        have Hat6 := Lib.hid hat6
        clear HB h7 hat6
        by_cases hg : ge = 0
        · subst hg
          have Hc6 := Lib.hid (Hgc.out rfl)
          go_wp2_with fail
          refine (Put_ok Hgf.out Hc6.out a6 cap6 w6 Hat6.out).mono ?_
          rintro e w7 ⟨⟨j7, hj7, rfl, h47⟩, h8⟩
          have hb7 := Lib.hid (hb6.out.trans (h8.mono hb6.out.size))
          have Hat7 := Lib.hid (Hat6.out.below h8)
          have Hgot7 := Lib.hid (fun w => Got_any Hgf.out Hc6.out j7 hj7 w)
          generalize bytesOf go ++ zeros j7 = t7 at *
          clear h8 h47 hb6
          go_wp2_with fail
          refine (Hgot7.out _).mono ?_
          rintro e w8 ⟨a8, cap8, rfl, hat8, h9⟩
          have hb8 := Lib.hid (hb7.out.trans (h9.mono hb7.out.size))
          have Hs8 := Lib.hid (Same_any go Hgf.out.1 a6 a8 cap6 cap8 w8 (Hat7.out.below h9) hat8)
          clear hat8 h9 hb7
          go_wp2_with fail
          refine Hs8.out.mono ?_
          rintro e w9 ⟨rfl, h10⟩
          have hb9 := Lib.hid (hb8.out.trans (h10.mono hb8.out.size))
          clear h10 hb8
          go_wp2_with fail
          go_returns
          exact ⟨rfl, hb9.out⟩
        · have hg1 : (ge == 0) = false := by simp [hg]
          have hg2 := Hg0.out hg
          subst hg2
          go_wp2_with fail
          go_returns
          exact ⟨rfl, hb6.out⟩
      · refine (Put_any l Hfit.out a1 cap _ Hat.out).mono ?_
        rintro e w3 ⟨⟨-, rfl⟩ | ⟨h0, -⟩, h3⟩
        · have hb3 := Lib.hid (h1.trans (h3.mono h1.size))
          have hc1 : (check l == 0) = false := by simp [hc]
          have HB := Lib.hid hb3.out
          clear h1 h3 hb3
          go_wp2_with fail
          refine (Hgs.out _).mono ?_
          rintro e w6 ⟨a6, cap6, rfl, hat6, h7⟩
          have hb6 := Lib.hid (HB.out.trans (h7.mono HB.out.size))
          have Hat6 := Lib.hid hat6
          clear HB h7 hat6
          by_cases hg : ge = 0
          · subst hg
            have Hc6 := Lib.hid (Hgc.out rfl)
            go_wp2_with fail
            refine (Put_ok Hgf.out Hc6.out a6 cap6 w6 Hat6.out).mono ?_
            rintro e w7 ⟨⟨j7, hj7, rfl, h47⟩, h8⟩
            have hb7 := Lib.hid (hb6.out.trans (h8.mono hb6.out.size))
            have Hat7 := Lib.hid (Hat6.out.below h8)
            have Hgot7 := Lib.hid (fun w => Got_any Hgf.out Hc6.out j7 hj7 w)
            generalize bytesOf go ++ zeros j7 = t7 at *
            clear h8 h47 hb6
            go_wp2_with fail
            refine (Hgot7.out _).mono ?_
            rintro e w8 ⟨a8, cap8, rfl, hat8, h9⟩
            have hb8 := Lib.hid (hb7.out.trans (h9.mono hb7.out.size))
            have Hs8 := Lib.hid (Same_any go Hgf.out.1 a6 a8 cap6 cap8 w8 (Hat7.out.below h9) hat8)
            clear hat8 h9 hb7
            go_wp2_with fail
            refine Hs8.out.mono ?_
            rintro e w9 ⟨rfl, h10⟩
            have hb9 := Lib.hid (hb8.out.trans (h10.mono hb8.out.size))
            clear h10 hb8
            go_wp2_with fail
            go_returns
            exact ⟨rfl, hb9.out⟩
          · have hg1 : (ge == 0) = false := by simp [hg]
            have hg2 := Hg0.out hg
            subst hg2
            go_wp2_with fail
            go_returns
            exact ⟨rfl, hb6.out⟩
        · exact absurd h0 hc
end Go.Proofs.Ytphlleibhghhpaa.Opt
