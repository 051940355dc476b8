/- The walk of StretchStays. -/
import Derived.Test.YtnlhjnckbajpkaaStrTells
import Derived.Deep.DeepCutAuto
namespace Go.Proofs.Ytnlhjnckbajpkaa.Circ
open Go.ChangeShapes Go.WideShapes Go.ChangeAt Go.RowKit
set_option linter.unusedVariables false

theorem long_self (near short : Int) : longc (longc near short) short = longc near short := by
  unfold longc ofc; split <;> split <;> omega
theorem long_lt (near short : Int) : 0 ≤ longc near short ∧ longc near short < 281474976710656 := by
  unfold longc; exact ofc_lt _
theorem long_near (near short : Int) : -8388608 < farc (longc near short) near ∧ farc (longc near short) near ≤ 8388608 := by
  unfold longc farc ofc; split <;> split <;> omega
theorem long_stays (near short step : Int) (h : 0 ≤ step ∧ step ≤ farc (longc near short) near ∨ farc (longc near short) near ≤ step ∧ step ≤ 0) :
    longc (ofc near + step) short = longc near short := by
  unfold longc farc ofc at *
  split at h <;> split at h <;> split <;> omega

/-- near, taken into the round: on its way -/
theorem at_tmod (n : Int) (h : n.tmod 281474976710656 < 0) : n.tmod 281474976710656 + 281474976710656 = ofc n := by
  have := tmod48 n; unfold ofc; split at this <;> omega
theorem at_tmod' (n : Int) (h : ¬ n.tmod 281474976710656 < 0) : n.tmod 281474976710656 = ofc n := by
  have := tmod48 n; unfold ofc; split at this <;> omega
theorem tmod_lt (n : Int) : -281474976710656 < n.tmod 281474976710656 ∧ n.tmod 281474976710656 < 281474976710656 := by
  have := tmod48 n; split at this <;> omega

set_option maxRecDepth 100000 in
set_option maxHeartbeats 1600000 in
theorem StretchStays_walk (a0 a1 a2 : Int) (w : World) (w0 : (Lit.int .i64 a0).wf = true) (w1 : (Lit.int .i64 a1).wf = true) (w2 : (Lit.int .u32 a2).wf = true) :
    Calls Try.prog 6 #[.int .i64 a0, .int .i64 a1, .int .u32 a2] w fun e w' => e = .returned (.bool true) ∧ Below w.heap.size w w' := by
  have h2 : 0 ≤ a2 ∧ a2 ≤ 4294967295 := by simp [Lit.wf] at w2; exact w2
  have h0 := fits_i64 w0
  clear w0 w1 w2
  have q1 := long_lt a0 a1
  have q2 := Lib.hid (long_short a0 a1)
  have q3 := Lib.hid (long_self a0 a1)
  have q4 := Lib.hid (long_safe a0 a1)
  have q5 := Lib.hid (long_stays a0 a1)
  have q6 := long_near a0 a1
  have q7 : Hid (farc (longc a0 a1) a0 = if longc a0 a1 - ofc a0 > 140737488355328 then longc a0 a1 - ofc a0 - 281474976710656 else if longc a0 a1 - ofc a0 ≤ -140737488355328 then longc a0 a1 - ofc a0 + 281474976710656 else longc a0 a1 - ofc a0) := by
    have := ofc_lt a0
    show farc (longc a0 a1) a0 = _
    generalize longc a0 a1 = n at *
    unfold farc; unfold ofc at *; split <;> split <;> (try split) <;> omega
  obtain ⟨n, hn⟩ : ∃ n, longc a0 a1 = n := ⟨_, rfl⟩
  rw [hn] at q1 q2 q3 q4 q5 q6 q7
  obtain ⟨f, hf⟩ : ∃ f, farc n a0 = f := ⟨_, rfl⟩
  rw [hf] at q5 q6 q7
  have hn := Lib.hid hn
  clear hf
  have t1 := at_tmod a0
  have t2 := at_tmod' a0
  have t3 := tmod_lt a0
  have o1 := ofc_lt a0
  have T1 := Lib.hid t1
  have T2 := Lib.hid t2
  clear t1 t2
  go_enter Try.func6, Try.ntmps6
  go_wp2_with fail
  refine (worksStr_any _).mono ?_
  rintro e w1 ⟨rfl, hbl⟩
  go_wp2_with fail
  refine (long_s _ _ _ hn.out _).mono ?_
  rintro e w1 ⟨rfl, rfl⟩
  go_wp2_with fail
  refine (short_s _ _ q2.out _).mono ?_
  rintro e w1 ⟨rfl, rfl⟩
  go_wp2_with fail
  refine (short_any _ _).mono ?_
  rintro e w1 ⟨rfl, rfl⟩
  go_wp2_with fail
  refine (long_s _ _ _ q3.out _).mono ?_
  rintro e w1 ⟨rfl, rfl⟩
  go_wp2_with fail
  refine (safe_s _ _ _ q4.out _).mono ?_
  rintro e w1 ⟨rfl, rfl⟩
  go_upto_if 45 with fail
  go_cut [8] (fun x wx => x = .int .i64 (ofc a0) ∧ wx = w1)
  case first =>
    by_cases ht : a0.tmod 281474976710656 < 0
    · have T := Lib.hid (T1.out ht)
      go_wp2_with fail
      go_meet
      exact ⟨congrArg (Value.int .i64) T.out, rfl⟩
    · have T := Lib.hid (T2.out (by omega))
      go_wp2_with fail
      go_meet
      exact ⟨congrArg (Value.int .i64) T.out, rfl⟩
  case rest =>
    obtain ⟨rfl, rfl⟩ := hcut
    clear T1 T2
    generalize ofc a0 = at0 at *
    have hd : -281474976710656 < n - at0 ∧ n - at0 < 281474976710656 := by omega
    have hgt : n - at0 > 140737488355328 → n - at0 - 281474976710656 = f := by intro h; have := q7.out; rw [if_pos h] at this; exact this.symm
    have hle : ¬ n - at0 > 140737488355328 → n - at0 ≤ -140737488355328 → n - at0 + 281474976710656 = f := by intro h h'; have := q7.out; rw [if_neg h, if_pos h'] at this; exact this.symm
    have hmid : ¬ n - at0 > 140737488355328 → ¬ n - at0 ≤ -140737488355328 → n - at0 = f := by intro h h'; have := q7.out; rw [if_neg h, if_neg h'] at this; exact this.symm
    have Hgt := Lib.hid hgt
    have Hle := Lib.hid hle
    have Hmid := Lib.hid hmid
    clear hgt hle hmid
    by_cases hc1 : n - at0 > 140737488355328
    · obtain rfl := Hgt.out hc1
      clear Hgt Hle Hmid q7
      go_wp2_with fail
      all_goals (first
        | (go_ret; exact ⟨rfl, hbl⟩)
        | (refine (long_s _ _ _ (q5.out _ (by omega)) _).mono ?_; rintro e w1 ⟨rfl, rfl⟩; go_wp2_with fail; go_ret; exact ⟨rfl, hbl⟩))
    · by_cases hc2 : n - at0 ≤ -140737488355328
      · obtain rfl := Hle.out hc1 hc2
        clear Hgt Hle Hmid q7
        go_wp2_with fail
        all_goals (first
          | (go_ret; exact ⟨rfl, hbl⟩)
          | (refine (long_s _ _ _ (q5.out _ (by omega)) _).mono ?_; rintro e w1 ⟨rfl, rfl⟩; go_wp2_with fail; go_ret; exact ⟨rfl, hbl⟩))
      · obtain rfl := Hmid.out hc1 hc2
        clear Hgt Hle Hmid q7
        go_wp2_with fail
        all_goals (first
          | (go_ret; exact ⟨rfl, hbl⟩)
          | (refine (long_s _ _ _ (q5.out _ (by omega)) _).mono ?_; rintro e w1 ⟨rfl, rfl⟩; go_wp2_with fail; go_ret; exact ⟨rfl, hbl⟩))
end Go.Proofs.Ytnlhjnckbajpkaa.Circ
