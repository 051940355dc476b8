/- Numbers of 24 bits: the contracts of package stretch and of the document's own answers. -/
import Derived.Test.YtnlhjnckbajpkaaCirc1
import Derived.Test.YtnlhjnckbajpkaaLInt
namespace Go.Proofs.Ytnlhjnckbajpkaa.Circ
open Go.ChangeShapes Go.WideShapes Go.ChangeAt Go.RowKit
set_option linter.unusedVariables false

/-- a number, modulo 2^24 -/
def shortc (n : Int) : Int := n % 16777216
/-- the nearest number that has the lowest bits -/
def longc (near short : Int) : Int := ofc (near + if (short - near) % 16777216 > 8388608 then (short - near) % 16777216 - 16777216 else (short - near) % 16777216)
def safec (near n : Int) : Bool := decide (-8388608 < farc n near) && decide (farc n near ≤ 8388608)
/-- the i-th number that has the lowest bits -/
def nextc (from' short : Int) (i : Nat) : Int := ofc (from' + (short - from') % 16777216 + i * 16777216)

theorem and24 (n : Int) : bits .and .i64 n 16777215 = shortc n := by
  have h127 : (BitVec.ofInt 64 16777215).toNat = 2 ^ 24 - 1 := by decide
  have key : (BitVec.ofInt 64 n &&& BitVec.ofInt 64 16777215).toNat = (n % ((2 ^ 64 : Nat) : Int)).toNat % 2 ^ 24 := by
    rw [BitVec.toNat_and, BitVec.toNat_ofInt, h127, Nat.and_two_pow_sub_one_eq_mod]
  show IntKind.i64.wrap ((BitVec.ofInt 64 n &&& BitVec.ofInt 64 16777215).toNat : Nat) = shortc n
  rw [key, IntKind.wrap_i64]
  unfold shortc
  omega

theorem shortc_wrap (n : Int) : shortc (wrap64 n) = shortc n := by unfold shortc wrap64; omega
theorem shortc_lt (n : Int) : 0 ≤ shortc n ∧ shortc n < 16777216 := by unfold shortc; omega
theorem shortc_ofc (n : Int) : shortc (ofc n) = shortc n := by unfold shortc ofc; omega

theorem short_any (n : Int) (w : World) :
    Calls Try.prog 8 #[.int .i64 n] w fun e w' => e = .returned (.int .i64 (shortc n)) ∧ w' = w := by
  go_enter Try.func8, Try.ntmps8
  go_wp2_with fail
  go_ret
  exact ⟨congrArg (fun x => Ending.returned (.int .i64 x)) (and24 n), rfl⟩

theorem refShort_any (n : Int) (w : World) :
    Calls Try.prog 9 #[.int .i64 n] w fun e w' => e = .returned (.int .i64 (shortc n)) ∧ w' = w := by
  have h := ofc_lt n
  have hs := Lib.hid (shortc_ofc n)
  go_enter Try.func9, Try.ntmps9
  go_wp2_with fail
  refine (refOf_any _ _).mono ?_
  rintro e w ⟨rfl, rfl⟩
  go_wp2_with fail
  go_ret
  exact ⟨congrArg (fun x => Ending.returned (.int .i64 x)) hs.out, rfl⟩

theorem longc_of (near short : Int) : longc near short = ofc (near + if shortc (short - near) > 8388608 then shortc (short - near) - 16777216 else shortc (short - near)) := rfl

theorem long_any (near short : Int) (w : World) :
    Calls Try.prog 10 #[.int .i64 near, .int .i64 short] w fun e w' => e = .returned (.int .i64 (longc near short)) ∧ w' = w := by
  have hl := Lib.hid (longc_of near short)
  have hs := shortc_lt (short - near)
  go_enter Try.func10, Try.ntmps10
  go_wp2_with fail
  refine (short_any _ _).mono ?_
  rintro e w ⟨rfl, rfl⟩
  rw [shortc_wrap]
  generalize shortc (short - near) = s at *
  by_cases hg : s > 8388608
  · have hl2 : Hid (longc near short = ofc (near + (s - 16777216))) := by have := hl.out; rwa [if_pos hg] at this
    go_wp2_with fail
    refine (add_any _ _ _).mono ?_
    rintro e w ⟨rfl, rfl⟩
    go_wp2_with fail
    go_ret
    exact ⟨congrArg (fun x => Ending.returned (.int .i64 x)) hl2.out.symm, rfl⟩
  · have hl2 : Hid (longc near short = ofc (near + s)) := by have := hl.out; rwa [if_neg hg] at this
    go_wp2_with fail
    refine (add_any _ _ _).mono ?_
    rintro e w ⟨rfl, rfl⟩
    go_wp2_with fail
    go_ret
    exact ⟨congrArg (fun x => Ending.returned (.int .i64 x)) hl2.out.symm, rfl⟩

/-- is the one of the block so many on near enough? -/
def fitc (near short k : Int) : Prop := -8388608 < farc (ofc ((ofc near / 16777216 + k) * 16777216 + shortc short)) near ∧ farc (ofc ((ofc near / 16777216 + k) * 16777216 + shortc short)) near ≤ 8388608
theorem fit_long (near short k : Int) (h : fitc near short k) : ofc ((ofc near / 16777216 + k) * 16777216 + shortc short) = longc near short := by
  unfold fitc farc ofc shortc at h
  unfold longc ofc shortc
  split at h <;> split <;> omega
theorem fit_one (near short : Int) : fitc near short (-1) ∨ fitc near short 0 ∨ fitc near short 1 := by
  unfold fitc farc ofc shortc
  split <;> split <;> split <;> omega

/-- what is known ahead of a round: nothing was near enough, or the nearest was found -/
def SoFar (near short : Int) (k : Int) (best far : Int) : Prop :=
  (far = 16777216 ∧ ∀ j, -1 ≤ j → j < k → ¬ fitc near short j) ∨ (far ≠ 16777216 ∧ best = longc near short)

theorem refLong_any (near short : Int) (w : World) :
    Calls Try.prog 11 #[.int .i64 near, .int .i64 short] w fun e w' => e = .returned (.int .i64 (longc near short)) ∧ w' = w := by
  have hs := shortc_lt short
  have hn := ofc_lt near
  go_enter Try.func11, Try.ntmps11
  go_wp2_with fail
  refine (refOf_any _ _).mono ?_
  rintro e w ⟨rfl, rfl⟩
  go_wp2_with fail
  go_loop [6, 7, 8] (fun b f k => ∃ best far j : Int, b = .int .i64 best ∧ f = .int .i64 far ∧ k = .int .i64 j ∧ -1 ≤ j ∧ j ≤ 2 ∧ SoFar near short j best far) (fun _ _ k => (2 - intOf k).toNat)
  case atStart => exact ⟨_, _, _, rfl, rfl, rfl, by omega, by omega, .inl ⟨rfl, fun j h1 h2 => by omega⟩⟩
  case round =>
    obtain ⟨best, far, j, rfl, rfl, rfl, h1, h2, hso⟩ := hrel
    have HS := Lib.hid hso
    clear hso
    by_cases hj : j ≤ 1
    · have hbase : 0 ≤ ofc near / 16777216 ∧ ofc near / 16777216 < 16777216 := by omega
      have hfl := Lib.hid (fit_long near short j)
      have hfd : fitc near short j ↔ -8388608 < farc (ofc ((ofc near / 16777216 + j) * 16777216 + shortc short)) near ∧ farc (ofc ((ofc near / 16777216 + j) * 16777216 + shortc short)) near ≤ 8388608 := Iff.rfl
      have HF := Lib.hid hfd
      clear hfd
      generalize ofc near / 16777216 = base at *
      go_wp2_with fail
      refine (refShort_any _ _).mono ?_
      rintro e w ⟨rfl, rfl⟩
      go_wp2_with fail
      refine (refOf_any _ _).mono ?_
      rintro e w ⟨rfl, rfl⟩
      generalize ofc ((base + j) * 16777216 + shortc short) = n at *
      go_wp2_with fail
      refine (refFar_any _ _ _).mono ?_
      rintro e w ⟨rfl, rfl⟩
      generalize farc n near = d at *
      by_cases hfit : -8388608 < d ∧ d ≤ 8388608
      · have h3 := hfit.1
        have h4 := hfit.2
        have hbest := Lib.hid (hfl.out (HF.out.2 hfit))
        clear hfit
        by_cases hfar : far = 16777216
        · have hfb : (far == 16777216) = true := by simpa using hfar
          clear hfar
          go_wp2_with fail
          refine ⟨⟨_, _, _, rfl, rfl, rfl, by omega, by omega, .inr ⟨by omega, hbest.out⟩⟩, by simp [intOf]; omega⟩
        · have hfb : (far == 16777216) = false := by simpa using hfar
          have hold : Hid (best = longc near short) := by
            rcases HS.out with ⟨h, _⟩ | ⟨_, h⟩
            · exact absurd h hfar
            · exact h
          clear hfar
          go_wp2_with fail
          refine ⟨⟨_, _, _, rfl, rfl, rfl, by omega, by omega, .inr ⟨by simpa using hfb, hold.out⟩⟩, by simp [intOf]; omega⟩
      · have hno : Hid (SoFar near short (j + 1) best far) := by
          rcases HS.out with ⟨h, h'⟩ | h
          · refine .inl ⟨h, fun i h3 h4 => ?_⟩
            by_cases hi : i < j
            · exact h' i h3 hi
            · obtain rfl : i = j := by omega
              exact fun hc => hfit (HF.out.1 hc)
          · exact .inr h
        by_cases h3 : -8388608 < d
        · have h4 : ¬ d ≤ 8388608 := fun h => hfit ⟨h3, h⟩
          clear hfit
          go_wp2_with fail
          exact ⟨⟨_, _, _, rfl, rfl, rfl, by omega, by omega, hno.out⟩, by simp [intOf]; omega⟩
        · clear hfit
          go_wp2_with fail
          exact ⟨⟨_, _, _, rfl, rfl, rfl, by omega, by omega, hno.out⟩, by simp [intOf]; omega⟩
    · have hend : Hid (best = longc near short) := by
        rcases HS.out with ⟨_, h⟩ | ⟨_, h⟩
        · rcases fit_one near short with h3 | h3 | h3
          · exact absurd h3 (h _ (by omega) (by omega))
          · exact absurd h3 (h _ (by omega) (by omega))
          · exact absurd h3 (h _ (by omega) (by omega))
        · exact h
      go_wp2_with fail
      go_ret
      exact ⟨congrArg (fun x => Ending.returned (.int .i64 x)) hend.out, rfl⟩

theorem safe_any (near n : Int) (w : World) :
    Calls Try.prog 12 #[.int .i64 near, .int .i64 n] w fun e w' => e = .returned (.bool (safec near n)) ∧ w' = w := by
  have hd : Hid (safec near n = (decide (-8388608 < farc n near) && decide (farc n near ≤ 8388608))) := rfl
  go_enter Try.func12, Try.ntmps12
  go_wp2_with fail
  refine (far_any _ _ _).mono ?_
  rintro e w ⟨rfl, rfl⟩
  generalize farc n near = d at *
  by_cases h3 : -8388608 < d
  · go_wp2_with fail
    go_ret
    exact ⟨congrArg (fun x => Ending.returned (.bool x)) (by rw [hd.out, decide_eq_true h3]; rfl), rfl⟩
  · go_wp2_with fail
    go_ret
    exact ⟨congrArg (fun x => Ending.returned (.bool x)) (by rw [hd.out, decide_eq_false (by omega)]; rfl), rfl⟩

theorem refSafe_any (near n : Int) (w : World) :
    Calls Try.prog 13 #[.int .i64 near, .int .i64 n] w fun e w' => e = .returned (.bool (safec near n)) ∧ w' = w := by
  have hd : Hid (safec near n = (decide (-8388608 < farc n near) && decide (farc n near ≤ 8388608))) := rfl
  go_enter Try.func13, Try.ntmps13
  go_wp2_with fail
  refine (refFar_any _ _ _).mono ?_
  rintro e w ⟨rfl, rfl⟩
  generalize farc n near = d at *
  by_cases h3 : -8388608 < d
  · go_wp2_with fail
    go_ret
    exact ⟨congrArg (fun x => Ending.returned (.bool x)) (by rw [hd.out, decide_eq_true h3]; rfl), rfl⟩
  · go_wp2_with fail
    go_ret
    exact ⟨congrArg (fun x => Ending.returned (.bool x)) (by rw [hd.out, decide_eq_false (by omega)]; rfl), rfl⟩
end Go.Proofs.Ytnlhjnckbajpkaa.Circ
