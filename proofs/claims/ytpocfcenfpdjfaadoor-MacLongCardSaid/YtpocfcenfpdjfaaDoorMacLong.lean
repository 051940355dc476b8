/- Long keys, and short ones: the law's walk. -/
import Derived.Test.YtpocfcenfpdjfaaDoorMacTells
import Derived.Test.YtpocfcenfpdjfaaDoorRowB
namespace Go.Proofs.YtpocfcenfpdjfaaDoor.Mac
open Go.ChangeShapes Go.WideShapes Go.ChangeAt Go.RowKit
open Go.Proofs.YtpocfcenfpdjfaaDoor.Sha Go.Proofs.YtpocfcenfpdjfaaDoor.StrArg
set_option linter.unusedVariables false

/-- the sum with a key of one text, in a slice that was just made -/
theorem macOne_any (key s : ByteArray) (w : World) (hT : Tabs w) (hk : key.size ≤ 30000) (hs : s.size ≤ 20000) :
    Calls Tryd.prog 7 #[.string key, .slice (some ⟨w.heap.size, 0, none⟩) 1 1] (w.alloc (.cells #[.string s] 9)) fun e w' =>
      e = .returned (.string ⟨(mac key.data.toList s.data.toList).toArray⟩) ∧ Below w.heap.size w w' := by
  have h2 := (Below.refl w.heap.size w).alloc (Nat.le_refl _) (.cells #[.string s] 9)
  refine (macOf_any key (some ⟨w.heap.size, 0, none⟩) 1 1 (fun _ => s) _ (hT.below h2 hT.size) (strsAt_one w s 9) (by omega) hk (by rw [joined_one, Oct.size_list]; exact hs)).mono ?_
  rintro e w' ⟨rfl, h⟩
  exact ⟨by rw [joined_one], h2.trans (h.mono h2.size)⟩

set_option maxRecDepth 100000 in
set_option maxHeartbeats 2000000 in
theorem MacLong_walk (a0 : ByteArray) (a1 : Int) (a2 : ByteArray) (W : World) (w0 : a0.size ≤ maxLen) (w1 : (Lit.int .u8 a1).wf = true) (w2 : a2.size ≤ maxLen) (hL : laidMetH Tryd.prog Rows.macLongRow.laid W) :
    Calls Tryd.prog 5 #[.string a0, .int .u8 a1, .string a2] W fun e w' => e = .returned (.bool true) ∧ Below W.heap.size W w' := by
  have hT := Tabs.of_laid hL
  have h8 : 0 ≤ a1 ∧ a1 ≤ 255 := by simp [Lit.wf] at w1; exact w1
  obtain ⟨m, hm⟩ : ∃ m : Nat, (m : Int) = a1 := ⟨a1.toNat, by omega⟩
  subst hm
  have hm2 : m ≤ 255 := by omega
  obtain ⟨i0, hi, hz0, hz1, hz2⟩ := info_parts infoU8
  unfold maxLen at w0 w2
  clear hL w1 h8
  go_enter Tryd.func5, Tryd.ntmps5
  go_wp2_with fail
  refine (works_any W hT).mono ?_
  rintro e wa ⟨rfl, hb⟩
  have hT := hT.below hb hT.size
  by_cases h0 : 300 < a0.size
  · have g0 : (300 : Int) < (a0.size : Int) := by omega
    go_wp2_with fail
    go_ret
    exact ⟨rfl, hb⟩
  · have g0 : ¬ (300 : Int) < (a0.size : Int) := by omega
    by_cases h1 : 300 < a2.size
    · have g1 : (300 : Int) < (a2.size : Int) := by omega
      go_wp2_with fail
      go_ret
      exact ⟨rfl, hb⟩
    · have g1 : ¬ (300 : Int) < (a2.size : Int) := by omega
      have ha0 : a0.size ≤ 300 := by omega
      have ha2 : a2.size ≤ 300 := by omega
      have hmk := run_make (P := Tryd.prog) wa 31 5 i0 (.int .u8 0) Tryd.underlying31 hi hz0 .i64 .i64 ((m : Int) % 65) ((m : Int) % 65) (by omega) (by omega) (by rw [hz2]; omega) (by omega)
      rw [hz1, show ((m : Int) % 65).toNat = m % 65 by omega, Nat.mul_one] at hmk
      have hconv := (RowB.made wa (m % 65)).back (m % 65) (m % 65) (by simp)
      have hzn : ByteArray.mk (List.replicate (m % 65) 0).toArray = zeros (m % 65) := rfl
      have hzs := zeros_size (m % 65)
      rw [hzn] at hconv
      have h3 := (Below.refl wa.heap.size wa).alloc (Nat.le_refl _) (.cells (madeCells (Value.int .u8 0).cells (m % 65)) 5)
      have hT := hT.below h3 hT.size
      have hb := hb.trans (h3.mono hb.size)
      generalize wa.alloc (.cells (madeCells (Value.int .u8 0).cells (m % 65)) 5) = wb at *
      have hlist : (a0 ++ zeros (m % 65)).data.toList = a0.data.toList ++ List.replicate (m % 65) 0 := by
        rw [ByteArray.data_append]; simp [zeros]
      have hks : (a0 ++ zeros (m % 65)).size = a0.size + m % 65 := by rw [ByteArray.size_append, hzs]
      have Hz : Hid (a0.size + m % 65 ≤ 64 → mac (a0 ++ zeros (m % 65)).data.toList a2.data.toList = mac a0.data.toList a2.data.toList) :=
        Lib.hid (fun h => by rw [hlist]; exact mac_zeros _ _ _ (by rw [Oct.size_list]; exact h))
      have Hks := Lib.hid hks
      clear hzn hi hz0 hz1 hz2 h3 hlist hks
      by_cases h64 : 64 < a0.size + m % 65
      · have g2 : (64 : Int) < ((a0 ++ zeros (m % 65)).size : Int) := by rw [Hks.out]; omega
        have hkl : (a0 ++ zeros (m % 65)).size ≤ 400 := by rw [Hks.out]; omega
        go_wp2_with fail
        generalize a0 ++ zeros (m % 65) = K at *
        refine (macOne_any K a2 wb hT (by omega) (by omega)).mono ?_
        rintro e wc ⟨rfl, h1⟩
        have hb := hb.trans (h1.mono hb.size)
        have HR := Lib.hid (fun w' => refMac_any K a2 w' (by omega) (by omega))
        generalize ByteArray.mk (mac K.data.toList a2.data.toList).toArray = y at *
        clear h1 hT
        go_wp2_with fail
        refine (HR.out _).mono ?_
        rintro e wd ⟨rfl, h1⟩
        have hb := hb.trans (h1.mono hb.size)
        clear h1 HR
        go_wp2_with fail
        go_ret
        exact ⟨by simp, hb⟩
      · have g2 : ¬ (64 : Int) < ((a0 ++ zeros (m % 65)).size : Int) := by rw [Hks.out]; omega
        have hkl : (a0 ++ zeros (m % 65)).size ≤ 400 := by rw [Hks.out]; omega
        have hmz := Hz.out (by omega)
        go_wp2_with fail
        generalize a0 ++ zeros (m % 65) = K at *
        refine (macOne_any K a2 wb hT (by omega) (by omega)).mono ?_
        rintro e wc ⟨rfl, h1⟩
        have hT := hT.below h1 hT.size
        have hb := hb.trans (h1.mono hb.size)
        have HO := Lib.hid (macOne_any a0 a2 wc hT (by omega) (by omega))
        rw [hmz]
        generalize ByteArray.mk (mac a0.data.toList a2.data.toList).toArray = y at *
        clear h1 hT hmz
        go_wp2_with fail
        refine HO.out.mono ?_
        rintro e wd ⟨rfl, h1⟩
        have hb := hb.trans (h1.mono hb.size)
        clear h1 HO
        go_wp2_with fail
        go_ret
        exact ⟨by simp, hb⟩
end Go.Proofs.YtpocfcenfpdjfaaDoor.Mac
