/- What is wrong with options: the contract of the program's. -/
import Derived.Test.YtmkngolkflihlaaOpt1
namespace Go.Proofs.Ytmkngolkflihlaa.Opt
open Go.ChangeShapes Go.WideShapes Go.ChangeAt Go.RowKit
set_option linter.unusedVariables false

set_option maxRecDepth 100000 in
set_option maxHeartbeats 800000 in
theorem Check_any (l : List O) (hl : Fit l) (a : Option Addr) (cap : Nat) (w : World) (h : OptsAt w a l) :
    Calls Try.prog 34 #[.slice a l.length cap] w fun e w' => e = .returned (.int .i64 (check l)) ∧ Below w.heap.size w w' := by
  have hs := hl.sizes
  have hlen := hl.1
  have Hf := Lib.hid hl
  have H := Lib.hid h
  have Hc := Lib.hid (show check l = if wrongs l = 0 then (if form l = true then 4 else if 400 < sizes l then 11 else 0) else wrongs l from rfl)
  generalize check l = c at *
  clear h hl
  go_enter Try.func34, Try.ntmps34
  go_wp2_with fail
  go_loopw [9] (fun i wr => ∃ k : Nat, k ≤ l.length ∧ i = .int .i64 k ∧ wrongs (l.drop k) = wrongs l ∧ Below w.heap.size w wr) (fun i _ => l.length - (intOf i).toNat)
  case atStart => exact ⟨0, by omega, rfl, by simp, Below.refl _ _⟩
  case round =>
    obtain ⟨k, hk, rfl, hsum, hb⟩ := hrel
    by_cases hlt : k < l.length
    · obtain ⟨⟨q, v⟩, hi⟩ := some_at hlt
      obtain ⟨b, off, rfl, hb0, hc0, hc1⟩ := H.out.cell hb hi
      have hv := Hf.out.get hi
      have e : wrongs (l.drop k) = if wrong1 q v = 0 then wrongs (l.drop (k + 1)) else wrong1 q v := by rw [drop_at hi]; rfl
      rw [e] at hsum
      dsimp only at hc0 hc1 hv
      have hba := Lib.hid (hb.alloc hb.size (.cells #[.int .i64 q, .string v] 26))
      by_cases hq : q < 1 ∨ 255 < q
      · have hw : wrong1 q v = 7 := if_pos hq
        rw [hw, if_neg (by decide)] at hsum
        have HC := Lib.hid (show c = 7 by rw [Hc.out, ← hsum]; rfl)
        clear hsum
        by_cases hq1 : q < 1
        · go_wp2_with fail
          go_ret
          exact ⟨by rw [HC.out]; rfl, hba.out⟩
        · have hq2 : 255 < q := by omega
          go_wp2_with fail
          go_ret
          exact ⟨by rw [HC.out]; rfl, hba.out⟩
      · have hq1 : ¬ q < 1 := by omega
        have hq2 : ¬ 255 < q := by omega
        have Hs := Lib.hid hsum
        clear hsum
        have hw := Lib.hid (show wrong1 q v = if room q < v.size then 11 else 0 from if_neg hq)
        go_wp2_with fail
        go_quiet ((go_at_call 40; exact Calls.quiet_of_same (room_any q _)))
        by_cases hr : room q < v.size
        · have HC := Lib.hid (show c = 11 by rw [Hc.out, ← Hs.out, hw.out, if_pos hr]; rfl)
          go_wp2_with fail
          go_ret
          exact ⟨by rw [HC.out]; rfl, below_drewN hba.out _⟩
        · have Hn := Lib.hid (show wrongs (l.drop (k + 1)) = wrongs l by rw [← Hs.out, hw.out, if_neg hr]; rfl)
          go_wp2_with fail
          refine ⟨⟨k + 1, by omega, by go_num, Hn.out, below_drewN hba.out _⟩, by simp [intOf]; omega⟩
    · obtain rfl : k = l.length := by omega
      rw [List.drop_length] at hsum
      have HC := Lib.hid (show c = if form l = true then 4 else if 400 < sizes l then 11 else 0 by rw [Hc.out, ← hsum]; rfl)
      clear hsum
      go_wp2_with fail
      go_loopw [31] (fun i wr => ∃ k : Nat, k ≤ l.length ∧ i = .int .i64 k ∧ form (l.drop k) = form l ∧ Below w.heap.size w wr) (fun i _ => l.length - (intOf i).toNat)
      case atStart => exact ⟨0, by omega, rfl, by simp, hb⟩
      case round =>
        obtain ⟨k, hk, rfl, hsum, hb⟩ := hrel
        by_cases hlt : k < l.length
        · obtain ⟨⟨q, v⟩, hi⟩ := some_at hlt
          obtain ⟨b, off, rfl, hb0, hc0, hc1⟩ := H.out.cell hb hi
          have e : form (l.drop k) = ((decide (q = 1) && alone (l.drop (k + 1))) || form (l.drop (k + 1))) := by rw [drop_at hi]; rfl
          rw [e] at hsum
          have Hs := Lib.hid hsum
          clear hsum e
          dsimp only at hc0 hc1
          have hba := Lib.hid (hb.alloc hb.size (.cells #[.int .i64 q, .string v] 26))
          by_cases hq : q = 1
          · subst hq
            by_cases hk1 : k + 1 < l.length
            · obtain ⟨⟨q2, v2⟩, hi2⟩ := some_at hk1
              obtain ⟨b2, off2, hab, hb20, hc20, hc21⟩ := H.out.cell hb hi2
              obtain ⟨rfl, rfl⟩ : b = b2 ∧ off = off2 := by simpa using hab
              dsimp only at hc20
              have hk2 : ((k : Int) == (l.length : Int) - 1) = false := by simp; omega
              have hcA := cell_alloc (.cells #[.int .i64 1, .string v] 26) (Nat.lt_of_lt_of_le hb0 hb.size) hc20
              have ha : alone (l.drop (k + 1)) = decide (q2 = 1) := by rw [drop_at hi2]; rfl
              by_cases hq2 : q2 = 1
              · subst hq2
                have HC2 := Lib.hid (show c = 4 by rw [HC.out, ← Hs.out, ha]; rfl)
                go_wp2_with fail
                go_ret
                exact ⟨by rw [HC2.out]; rfl, hba.out⟩
              · have hn : form (l.drop (k + 1)) = form l := by rw [← Hs.out, ha]; simp [hq2]
                have Hn := Lib.hid hn
                clear ha hn
                have hq3 : (q2 == 1) = false := by simp [hq2]
                go_wp2_with fail
                refine ⟨⟨k + 1, by omega, by go_num, Hn.out, hba.out⟩, by simp [intOf]; omega⟩
            · have hk2 : ((k : Int) == (l.length : Int) - 1) = true := by simp; omega
              have HC2 := Lib.hid (show c = 4 by rw [HC.out, ← Hs.out, List.drop_eq_nil_of_le (by omega)]; rfl)
              go_wp2_with fail
              go_ret
              exact ⟨by rw [HC2.out]; rfl, hba.out⟩
          · have Hn := Lib.hid (show form (l.drop (k + 1)) = form l by rw [← Hs.out]; simp [hq])
            have hq1 : (q == 1) = false := by simp [hq]
            go_wp2_with fail
            refine ⟨⟨k + 1, by omega, by go_num, Hn.out, hba.out⟩, by simp [intOf]; omega⟩
        · obtain rfl : k = l.length := by omega
          rw [List.drop_length] at hsum
          have HC2 := Lib.hid (show c = if 400 < sizes l then 11 else 0 by rw [HC.out, ← hsum]; rfl)
          clear hsum
          go_wp2_with fail
          refine (Size_any l Hf.out a cap _ (H.out.below hb)).mono ?_
          rintro e1 w1 ⟨rfl, h1⟩
          have h0 := Lib.hid (hb.trans (h1.mono hb.size))
          clear h1
          by_cases h4 : 400 < sizes l
          · have HC3 := Lib.hid (show c = 11 by rw [HC2.out, if_pos h4])
            go_wp2_with fail
            go_ret
            exact ⟨by rw [HC3.out]; rfl, h0.out⟩
          · have HC3 := Lib.hid (show c = 0 by rw [HC2.out, if_neg h4])
            go_wp2_with fail
            go_ret
            exact ⟨by rw [HC3.out]; rfl, h0.out⟩
end Go.Proofs.Ytmkngolkflihlaa.Opt
