/- How many packets runs tell, and what is wrong with them: the contracts of both. -/
import Derived.Test.YtdnddhnnpplgjaaAvec1
namespace Go.Proofs.Ytdnddhnnpplgjaa.Avec
open Go.ChangeShapes Go.WideShapes Go.ChangeAt Go.RowKit
set_option linter.unusedVariables false

set_option maxHeartbeats 400000 in
theorem Many_any (l : List R) (hlen : l.length ≤ 5000) (a : Option Addr) (cap : Nat) (w : World) (h : RunsAt w a l) :
    Calls Try.prog 14 #[.slice a l.length cap] w fun e w' => e = .returned (.int .i64 (many l)) ∧ Below w.heap.size w w' := by
  have hs := many_le l
  have H := Lib.hid h
  clear h
  go_enter Try.func14, Try.ntmps14
  go_wp2_with fail
  go_loopw [3, 8] (fun m i wr => ∃ k n : Nat, k ≤ l.length ∧ i = .int .i64 k ∧ m = .int .i64 n ∧ n + many (l.drop k) = many l ∧ Below w.heap.size w wr) (fun _ i _ => l.length - (intOf i).toNat)
  case atStart => exact ⟨0, 0, by omega, rfl, rfl, by simp, Below.refl _ _⟩
  case round =>
    obtain ⟨k, n, hk, rfl, rfl, hsum, hb⟩ := hrel
    by_cases hlt : k < l.length
    · obtain ⟨⟨q, v⟩, hi⟩ := some_at hlt
      obtain ⟨b, off, rfl, hb0, hc0, hc1⟩ := H.out.cell hb hi
      have e : many (l.drop k) = heldN v + many (l.drop (k + 1)) := by rw [drop_at hi]; rfl
      rw [e] at hsum
      dsimp only at hc0 hc1
      go_wp2_with fail
      refine (told1_any q v _).mono ?_
      rintro e1 w1 ⟨rfl, h1⟩
      have h0 := hb.trans ((((Below.refl _ wr).alloc (Nat.le_refl _) _).trans (h1.mono (by simp))).mono hb.size)
      generalize heldN v = hv at *
      go_wp2_with fail
      refine ⟨⟨k + 1, n + hv, by omega, by go_num, by go_num, by omega, h0⟩, by simp [intOf]; omega⟩
    · obtain rfl : k = l.length := by omega
      rw [List.drop_length] at hsum
      simp only [many, Nat.add_zero] at hsum
      subst hsum
      go_wp2_with fail
      go_returns
      exact ⟨rfl, hb⟩

set_option maxHeartbeats 400000 in
theorem refMany_any (l : List R) (hlen : l.length ≤ 5000) (a : Option Addr) (cap : Nat) (w : World) (h : RunsAt w a l) :
    Calls Try.prog 15 #[.slice a l.length cap] w fun e w' => e = .returned (.int .i64 (many l)) ∧ w' = w := by
  have hs := many_le l
  have H := Lib.hid h
  clear h
  go_enter Try.func15, Try.ntmps15
  go_wp2_with fail
  go_loopw [3, 4] (fun m i wr => ∃ k n : Nat, k ≤ l.length ∧ i = .int .i64 k ∧ m = .int .i64 n ∧ n + many (l.drop k) = many l ∧ wr = w) (fun _ i _ => l.length - (intOf i).toNat)
  case atStart => exact ⟨0, 0, by omega, rfl, rfl, by simp, rfl⟩
  case round =>
    obtain ⟨k, n, hk, rfl, rfl, hsum, rfl⟩ := hrel
    by_cases hlt : k < l.length
    · obtain ⟨⟨q, v⟩, hi⟩ := some_at hlt
      obtain ⟨b, off, rfl, hb0, hc0, hc1⟩ := H.out.cell (Below.refl _ _) hi
      have e : many (l.drop k) = heldN v + many (l.drop (k + 1)) := by rw [drop_at hi]; rfl
      rw [e] at hsum
      dsimp only at hc0 hc1
      go_wp2_with fail
      refine (refHeld_any v _).mono ?_
      rintro e1 wr ⟨rfl, rfl⟩
      generalize heldN v = hv at *
      go_wp2_with fail
      refine ⟨⟨k + 1, n + hv, by omega, by go_num, by go_num, by omega, trivial⟩, by simp [intOf]; omega⟩
    · obtain rfl : k = l.length := by omega
      rw [List.drop_length] at hsum
      simp only [many, Nat.add_zero] at hsum
      subst hsum
      go_wp2_with fail
      go_returns
      exact ⟨rfl, rfl⟩

set_option maxRecDepth 100000 in
set_option maxHeartbeats 800000 in
theorem Check_any (l : List R) (hlen : l.length ≤ 5000) (a : Option Addr) (cap : Nat) (w : World) (h : RunsAt w a l) :
    Calls Try.prog 12 #[.slice a l.length cap] w fun e w' => e = .returned (.int .i64 (check l)) ∧ Below w.heap.size w w' := by
  have hs := many_le l
  have H := Lib.hid h
  have Hc := Lib.hid (show check l = if wrongs l = 0 then (if 128 < many l then 11 else 0) else wrongs l from rfl)
  generalize check l = c at *
  clear h
  go_enter Try.func12, Try.ntmps12
  go_wp2_with fail
  go_loopw [7] (fun i wr => ∃ k : Nat, k ≤ l.length ∧ i = .int .i64 k ∧ wrongs (l.drop k) = wrongs l ∧ Below w.heap.size w wr) (fun i _ => l.length - (intOf i).toNat)
  case atStart => exact ⟨0, by omega, rfl, by simp, Below.refl _ _⟩
  case round =>
    obtain ⟨k, hk, rfl, hsum, hb⟩ := hrel
    by_cases hlt : k < l.length
    · obtain ⟨⟨q, v⟩, hi⟩ := some_at hlt
      obtain ⟨b, off, rfl, hb0, hc0, hc1⟩ := H.out.cell hb hi
      have e : wrongs (l.drop k) = if known q = true then (if v < 1 ∨ 64 < v then 3 else wrongs (l.drop (k + 1))) else 7 := by rw [drop_at hi]; rfl
      rw [e] at hsum
      dsimp only at hc0 hc1
      have Hk := Lib.hid (fun w => known_any q w)
      generalize known q = kq at *
      have Hs := Lib.hid hsum
      clear hsum e
      have hba := Lib.hid (hb.alloc hb.size (.cells #[.int .i64 q, .int .i64 v] 45))
      cases kq
      · have HC := Lib.hid (show c = 7 by rw [Hc.out, ← Hs.out]; rfl)
        go_wp2_with fail
        refine (Hk.out _).mono ?_
        rintro e1 w1 ⟨rfl, rfl⟩
        go_wp2_with fail
        go_returns
        exact ⟨by rw [HC.out]; rfl, hba.out⟩
      · go_wp2_with fail
        refine (Hk.out _).mono ?_
        rintro e1 w1 ⟨rfl, rfl⟩
        by_cases hv : v < 1 ∨ 64 < v
        · have HC := Lib.hid (show c = 3 by rw [Hc.out, ← Hs.out, if_pos trivial, if_pos hv]; rfl)
          by_cases hv1 : v < 1
          · go_wp2_with fail
            go_returns
            exact ⟨by rw [HC.out]; rfl, hba.out⟩
          · have hv2 : 64 < v := by omega
            go_wp2_with fail
            go_returns
            exact ⟨by rw [HC.out]; rfl, hba.out⟩
        · have Hn := Lib.hid (show wrongs (l.drop (k + 1)) = wrongs l by rw [← Hs.out, if_pos trivial, if_neg hv])
          have hv1 : ¬ v < 1 := by omega
          have hv2 : ¬ 64 < v := by omega
          go_wp2_with fail
          refine ⟨⟨k + 1, by omega, by go_num, Hn.out, hba.out⟩, by simp [intOf]; omega⟩
    · obtain rfl : k = l.length := by omega
      rw [List.drop_length] at hsum
      have HC := Lib.hid (show c = if 128 < many l then 11 else 0 by rw [Hc.out, ← hsum]; rfl)
      clear hsum
      go_wp2_with fail
      refine (Many_any l hlen a cap _ (H.out.below hb)).mono ?_
      rintro e1 w1 ⟨rfl, h1⟩
      have h0 := Lib.hid (hb.trans (h1.mono hb.size))
      clear h1
      generalize many l = m at *
      by_cases h4 : 128 < m
      · have HC3 := Lib.hid (show c = 11 by rw [HC.out, if_pos h4])
        go_wp2_with fail
        go_returns
        exact ⟨by rw [HC3.out]; rfl, h0.out⟩
      · have HC3 := Lib.hid (show c = 0 by rw [HC.out, if_neg h4])
        go_wp2_with fail
        go_returns
        exact ⟨by rw [HC3.out]; rfl, h0.out⟩

set_option maxRecDepth 100000 in
set_option maxHeartbeats 800000 in
theorem refCheck_any (l : List R) (hlen : l.length ≤ 5000) (a : Option Addr) (cap : Nat) (w : World) (h : RunsAt w a l) :
    Calls Try.prog 13 #[.slice a l.length cap] w fun e w' => e = .returned (.int .i64 (check l)) ∧ w' = w := by
  have hs := many_le l
  have H := Lib.hid h
  have Hc := Lib.hid (show check l = if wrongs l = 0 then (if 128 < many l then 11 else 0) else wrongs l from rfl)
  generalize check l = c at *
  clear h
  go_enter Try.func13, Try.ntmps13
  go_wp2_with fail
  go_loopw [3] (fun i wr => ∃ k : Nat, k ≤ l.length ∧ i = .int .i64 k ∧ wrongs (l.drop k) = wrongs l ∧ wr = w) (fun i _ => l.length - (intOf i).toNat)
  case atStart => exact ⟨0, by omega, rfl, by simp, rfl⟩
  case round =>
    obtain ⟨k, hk, rfl, hsum, rfl⟩ := hrel
    by_cases hlt : k < l.length
    · obtain ⟨⟨q, v⟩, hi⟩ := some_at hlt
      obtain ⟨b, off, rfl, hb0, hc0, hc1⟩ := H.out.cell (Below.refl _ _) hi
      have e : wrongs (l.drop k) = if known q = true then (if v < 1 ∨ 64 < v then 3 else wrongs (l.drop (k + 1))) else 7 := by rw [drop_at hi]; rfl
      rw [e] at hsum
      dsimp only at hc0 hc1
      have Hk := Lib.hid (fun w => refKnown_any q w)
      generalize known q = kq at *
      have Hs := Lib.hid hsum
      clear hsum e
      cases kq
      · have HC := Lib.hid (show c = 7 by rw [Hc.out, ← Hs.out]; rfl)
        go_wp2_with fail
        refine (Hk.out _).mono ?_
        rintro e1 w1 ⟨rfl, rfl⟩
        go_wp2_with fail
        go_returns
        exact ⟨by rw [HC.out]; rfl, rfl⟩
      · go_wp2_with fail
        refine (Hk.out _).mono ?_
        rintro e1 w1 ⟨rfl, rfl⟩
        by_cases hv : v < 1 ∨ 64 < v
        · have HC := Lib.hid (show c = 3 by rw [Hc.out, ← Hs.out, if_pos trivial, if_pos hv]; rfl)
          by_cases hv1 : v < 1
          · go_wp2_with fail
            go_returns
            exact ⟨by rw [HC.out]; rfl, rfl⟩
          · have hv2 : 64 < v := by omega
            go_wp2_with fail
            go_returns
            exact ⟨by rw [HC.out]; rfl, rfl⟩
        · have Hn := Lib.hid (show wrongs (l.drop (k + 1)) = wrongs l by rw [← Hs.out, if_pos trivial, if_neg hv])
          have hv1 : ¬ v < 1 := by omega
          have hv2 : ¬ 64 < v := by omega
          go_wp2_with fail
          refine ⟨⟨k + 1, by omega, by go_num, Hn.out, trivial⟩, by simp [intOf]; omega⟩
    · obtain rfl : k = l.length := by omega
      rw [List.drop_length] at hsum
      have HC := Lib.hid (show c = if 128 < many l then 11 else 0 by rw [Hc.out, ← hsum]; rfl)
      clear hsum
      go_wp2_with fail
      refine (refMany_any l hlen a cap _ H.out).mono ?_
      rintro e1 w1 ⟨rfl, rfl⟩
      generalize many l = m at *
      by_cases h4 : 128 < m
      · have HC3 := Lib.hid (show c = 11 by rw [HC.out, if_pos h4])
        go_wp2_with fail
        go_returns
        exact ⟨by rw [HC3.out]; rfl, rfl⟩
      · have HC3 := Lib.hid (show c = 0 by rw [HC.out, if_neg h4])
        go_wp2_with fail
        go_returns
        exact ⟨by rw [HC3.out]; rfl, rfl⟩
end Go.Proofs.Ytdnddhnnpplgjaa.Avec
