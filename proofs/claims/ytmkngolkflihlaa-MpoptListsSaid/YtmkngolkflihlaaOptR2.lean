/- The document's own answers: how many bytes, what is wrong, what bytes say. -/
import Derived.Test.YtmkngolkflihlaaOptR1
namespace Go.Proofs.Ytmkngolkflihlaa.Opt
open Go.ChangeShapes Go.WideShapes Go.ChangeAt Go.RowKit
set_option linter.unusedVariables false

set_option maxRecDepth 100000 in
set_option maxHeartbeats 800000 in
theorem RefSize_any (l : List O) (hl : Fit l) (a : Option Addr) (cap : Nat) (w : World) (h : OptsAt w a l) :
    Calls Try.prog 32 #[.slice a l.length cap] w fun e w' => e = .returned (.int .i64 (sizes l)) ∧ w' = w := by
  have hs := hl.sizes
  have hlen := hl.1
  have Hf := Lib.hid hl
  have H := Lib.hid h
  clear h hl
  go_enter Try.func32, Try.ntmps32
  go_wp2_with fail
  go_loopw [3, 4] (fun m i wr => ∃ k n : Nat, k ≤ l.length ∧ i = .int .i64 k ∧ m = .int .i64 n ∧ n + sizes (l.drop k) = sizes l ∧ wr = w) (fun _ i _ => l.length - (intOf i).toNat)
  case atStart => exact ⟨0, 0, by omega, rfl, rfl, by simp, rfl⟩
  case round =>
    obtain ⟨k, n, hk, rfl, rfl, hsum, rfl⟩ := hrel
    by_cases hlt : k < l.length
    · obtain ⟨⟨q, v⟩, hi⟩ := some_at hlt
      obtain ⟨b, off, rfl, hb0, hc0, hc1⟩ := H.out.cell (Below.refl _ _) hi
      have hv := Hf.out.get hi
      have e : sizes (l.drop k) = size1 q v + sizes (l.drop (k + 1)) := by rw [drop_at hi]; rfl
      rw [e] at hsum
      dsimp only at hc0 hc1 hv
      by_cases hq : q ≤ 31
      · have hq' : ¬ (31 : Int) < q := by omega
        have hz : size1 q v = 1 := if_pos hq
        rw [hz] at hsum
        clear hz e
        go_wp2_with fail
        refine ⟨⟨k + 1, n + 1, by omega, by go_num, by go_num, by omega, trivial⟩, by simp [intOf]; omega⟩
      · have hq' : (31 : Int) < q := by omega
        have hz : size1 q v = 2 + v.size := if_neg hq
        rw [hz] at hsum
        clear hz e
        go_wp2_with fail
        refine ⟨⟨k + 1, n + (2 + v.size), by omega, by go_num, by go_num, by omega, trivial⟩, by simp [intOf]; omega⟩
    · obtain rfl : k = l.length := by omega
      rw [List.drop_length] at hsum
      simp only [sizes, Nat.add_zero] at hsum
      subst hsum
      go_wp2_with fail
      go_ret
      exact ⟨rfl, rfl⟩

set_option maxRecDepth 100000 in
set_option maxHeartbeats 1600000 in
theorem RefCheck_any (l : List O) (hl : Fit l) (a : Option Addr) (cap : Nat) (w : World) (h : OptsAt w a l) :
    Calls Try.prog 16 #[.slice a l.length cap] w fun e w' => e = .returned (.int .i64 (check l)) ∧ Below w.heap.size w w' := by
  have hs := hl.sizes
  have hlen := hl.1
  have Hf := Lib.hid hl
  have H := Lib.hid h
  have Hc := Lib.hid (show check l = if wrongs l = 0 then (if form l = true then 4 else if 400 < sizes l then 11 else 0) else wrongs l from rfl)
  generalize check l = c at *
  clear h hl
  go_enter Try.func16, Try.ntmps16
  go_wp2_with fail
  go_loopw [3] (fun i wr => ∃ k : Nat, k ≤ l.length ∧ i = .int .i64 k ∧ wrongs (l.drop k) = wrongs l ∧ Below w.heap.size w wr) (fun i _ => l.length - (intOf i).toNat)
  case atStart => exact ⟨0, by omega, rfl, by simp, Below.refl _ _⟩
  case round =>
    obtain ⟨k, hk, rfl, hsum, hb⟩ := hrel
    by_cases hlt : k < l.length
    · obtain ⟨⟨q, v⟩, hi⟩ := some_at hlt
      obtain ⟨b, off, rfl, hb0, hc0, hc1⟩ := H.out.cell hb hi
      have hv := Hf.out.get hi
      have e : wrongs (l.drop k) = if wrong1 q v = 0 then wrongs (l.drop (k + 1)) else wrong1 q v := by rw [drop_at hi]; rfl
      rw [e] at hsum
      have Hs := Lib.hid hsum
      clear hsum e
      dsimp only at hc0 hc1 hv
      have hba := Lib.hid (hb.alloc hb.size (.cells #[.int .i64 q, .string v] 26))
      by_cases hq : q < 1 ∨ 255 < q
      · have hw : wrong1 q v = 7 := if_pos hq
        have HC := Lib.hid (show c = 7 by rw [Hc.out, ← Hs.out, hw]; rfl)
        clear hw
        by_cases hq1 : q < 1
        · go_wp2_with fail
          go_ret
          exact ⟨by rw [HC.out]; rfl, hba.out⟩
        · have hq2 : 255 < q := by omega
          go_wp2_with fail
          go_ret
          exact ⟨by rw [HC.out]; rfl, hba.out⟩
      · have hq1 : ¬ q < 1 := by omega
        have hq2 : ¬ 255 < q := by omega
        have hw := Lib.hid (show wrong1 q v = if room q < v.size then 11 else 0 from if_neg hq)
        by_cases h32 : q < 32
        · have hr : room q = 0 := if_pos (by omega)
          by_cases h0 : 0 < v.size
          · have h0' : (0 : Int) < (v.size : Int) := by omega
            have HC := Lib.hid (show c = 11 by rw [Hc.out, ← Hs.out, hw.out, hr, if_pos h0']; rfl)
            clear hr
            go_wp2_with fail
            go_ret
            exact ⟨by rw [HC.out]; rfl, hba.out⟩
          · have h0' : ¬ (0 : Int) < (v.size : Int) := by omega
            have Hn := Lib.hid (show wrongs (l.drop (k + 1)) = wrongs l by rw [← Hs.out, hw.out, hr, if_neg h0']; rfl)
            have h253 : ¬ (253 : Int) < (v.size : Int) := by omega
            clear hr
            go_wp2_with fail
            refine ⟨⟨k + 1, by omega, by go_num, Hn.out, hba.out⟩, by simp [intOf]; omega⟩
        · have hr : room q = 253 := if_neg (by omega)
          by_cases h0 : 253 < v.size
          · have h0' : (253 : Int) < (v.size : Int) := by omega
            have HC := Lib.hid (show c = 11 by rw [Hc.out, ← Hs.out, hw.out, hr, if_pos h0']; rfl)
            clear hr
            go_wp2_with fail
            go_ret
            exact ⟨by rw [HC.out]; rfl, hba.out⟩
          · have h0' : ¬ (253 : Int) < (v.size : Int) := by omega
            have Hn := Lib.hid (show wrongs (l.drop (k + 1)) = wrongs l by rw [← Hs.out, hw.out, hr, if_neg h0']; rfl)
            clear hr
            go_wp2_with fail
            refine ⟨⟨k + 1, by omega, by go_num, Hn.out, hba.out⟩, by simp [intOf]; omega⟩
    · obtain rfl : k = l.length := by omega
      rw [List.drop_length] at hsum
      have HC := Lib.hid (show c = if form l = true then 4 else if 400 < sizes l then 11 else 0 by rw [Hc.out, ← hsum]; rfl)
      clear hsum
      go_wp2_with fail
      go_loopw [5] (fun i wr => ∃ k : Nat, k ≤ l.length ∧ i = .int .i64 k ∧ form (l.drop k) = form l ∧ Below w.heap.size w wr) (fun i _ => l.length - (intOf i).toNat)
      case atStart => exact ⟨0, by omega, rfl, by simp, hb⟩
      case round =>
        obtain ⟨k, hk, rfl, hsum, hb⟩ := hrel
        by_cases hlt : k < l.length
        · obtain ⟨⟨q, v⟩, hi⟩ := some_at hlt
          obtain ⟨b, off, rfl, hb0, hc0, hc1⟩ := H.out.cell hb hi
          have e : form (l.drop k) = ((decide (q = 1) && alone (l.drop (k + 1))) || form (l.drop (k + 1))) := by rw [drop_at hi]; rfl
          rw [e] at hsum
          have Hs := Lib.hid hsum
          clear hsum e hc1
          dsimp only at hc0
          by_cases hq : q = 1
          · subst hq
            by_cases hk1 : k + 1 < l.length
            · obtain ⟨⟨q2, v2⟩, hi2⟩ := some_at hk1
              obtain ⟨b2, off2, hab, hb20, hc20, hc21⟩ := H.out.cell hb hi2
              obtain ⟨rfl, rfl⟩ : b = b2 ∧ off = off2 := by simpa using hab
              dsimp only at hc20
              have hk2 : ((k : Int) == (l.length : Int) - 1) = false := by simp; omega
              have ha : alone (l.drop (k + 1)) = decide (q2 = 1) := by rw [drop_at hi2]; rfl
              by_cases hq2 : q2 = 1
              · subst hq2
                have HC2 := Lib.hid (show c = 4 by rw [HC.out, ← Hs.out, ha]; rfl)
                clear ha
                go_wp2_with fail
                go_ret
                exact ⟨by rw [HC2.out]; rfl, hb⟩
              · have hn : form (l.drop (k + 1)) = form l := by rw [← Hs.out, ha]; simp [hq2]
                have Hn := Lib.hid hn
                clear ha hn
                have hq3 : (q2 == 1) = false := by simp [hq2]
                go_wp2_with fail
                refine ⟨⟨k + 1, by omega, by go_num, Hn.out, hb⟩, by simp [intOf]; omega⟩
            · have hk2 : ((k : Int) == (l.length : Int) - 1) = true := by simp; omega
              have HC2 := Lib.hid (show c = 4 by rw [HC.out, ← Hs.out, List.drop_eq_nil_of_le (by omega)]; rfl)
              go_wp2_with fail
              go_ret
              exact ⟨by rw [HC2.out]; rfl, hb⟩
          · have Hn := Lib.hid (show form (l.drop (k + 1)) = form l by rw [← Hs.out]; simp [hq])
            have hq1 : (q == 1) = false := by simp [hq]
            go_wp2_with fail
            refine ⟨⟨k + 1, by omega, by go_num, Hn.out, hb⟩, by simp [intOf]; omega⟩
        · obtain rfl : k = l.length := by omega
          rw [List.drop_length] at hsum
          have HC2 := Lib.hid (show c = if 400 < sizes l then 11 else 0 by rw [HC.out, ← hsum]; rfl)
          clear hsum
          go_wp2_with fail
          refine (RefSize_any l Hf.out a cap _ (H.out.below hb)).mono ?_
          rintro e1 w1 ⟨rfl, rfl⟩
          by_cases h4 : 400 < sizes l
          · have HC3 := Lib.hid (show c = 11 by rw [HC2.out, if_pos h4])
            go_wp2_with fail
            go_ret
            exact ⟨by rw [HC3.out]; rfl, hb⟩
          · have HC3 := Lib.hid (show c = 0 by rw [HC2.out, if_neg h4])
            go_wp2_with fail
            go_ret
            exact ⟨by rw [HC3.out]; rfl, hb⟩

/-- what the document's Get says -/
def GetPost (s : ByteArray) (w : World) (e : Ending) (w' : World) : Prop :=
  ∃ a cap, e = .returned (.tuple #[.slice a (getOpts s).length cap, .int .i64 (getErr s)]) ∧ OptsAt w' a (getOpts s) ∧ Below w.heap.size w w'

end Go.Proofs.Ytmkngolkflihlaa.Opt
