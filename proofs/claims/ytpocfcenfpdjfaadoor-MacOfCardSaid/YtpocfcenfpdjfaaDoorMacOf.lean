/- The sum of any parts with any key: the law's walk. -/
import Derived.Test.YtpocfcenfpdjfaaDoorMacTells
namespace Go.Proofs.YtpocfcenfpdjfaaDoor.Mac
open Go.ChangeShapes Go.WideShapes Go.ChangeAt Go.RowKit
open Go.Proofs.YtpocfcenfpdjfaaDoor.Sha Go.Proofs.YtpocfcenfpdjfaaDoor.StrArg
set_option linter.unusedVariables false

theorem MacOf_open1 {H : Type} {enc : TypeId × Value → H} {W : World} {a : Option Addr} {len cap : Nat} {d : DataW H} {p : List MemPlace}
    (h : DataW.Trod enc Tryd.prog W 0 (fun _ => true) true 22 (.slice a len cap) d p) : IsStrs W a len := isStrs_open h

theorem strsAt_later {w w' : World} {a : Option Addr} {len : Nat} {f : Nat → ByteArray} (h : StrsAt w a len f) (hb : Below w.heap.size w w') : StrsAt w' a len f := by
  rcases h with h | ⟨b, off, rfl, h1, h2⟩
  · exact .inl h
  · exact .inr ⟨b, off, rfl, Nat.lt_of_lt_of_le h1 hb.size, fun i hi => (hb.cell (p := ⟨b, off + i, none⟩) h1).trans (h2 i hi)⟩

set_option maxRecDepth 100000 in
set_option maxHeartbeats 2000000 in
theorem MacOf_walk (a0 : ByteArray) (a1 : Option Addr) (len1 cap1 : Nat) (W : World) (w0 : a0.size ≤ maxLen) (w1 : IsStrs W a1 len1) (hL : laidMetH Tryd.prog Rows.macOfRow.laid W) :
    Calls Tryd.prog 3 #[.string a0, .slice a1 len1 cap1] W fun e w' => e = .returned (.bool true) ∧ Below W.heap.size W w' := by
  have hT := Tabs.of_laid hL
  obtain ⟨f, hat, hl, hs⟩ := w1
  have Hs := Lib.hid hs
  have Hat := Lib.hid hat
  have hml : len1 ≤ 9223372036854775807 := by unfold maxLen at hl; omega
  unfold maxLen at w0
  clear hL hs hat hl
  go_enter Tryd.func3, Tryd.ntmps3
  go_wp2_with fail
  refine (works_any _ hT).mono ?_
  rintro e wa ⟨rfl, hb⟩
  have hT := hT.below hb hT.size
  go_wp2_with fail
  go_loopw [5, 6] (fun v i wr => ∃ (k : Nat) (all : ByteArray), k ≤ len1 ∧ k ≤ 20 ∧ i = .int .i64 k ∧ v = .string all ∧ all.size ≤ 300 * k ∧ Hid (all.data.toList = joined f k) ∧ Tabs wr ∧ Below W.heap.size W wr) (fun _ i _ => len1 - (intOf i).toNat)
  case atStart => exact ⟨0, ⟨#[]⟩, by omega, by omega, rfl, rfl, by decide, Lib.hid rfl, hT, hb⟩
  case round =>
    clear hT hb
    obtain ⟨k, all, hk, hk20, rfl, rfl, ha, Hj, hT, hb⟩ := hrel
    by_cases hlt : k < len1
    · obtain ⟨b, off, rfl, hbl, hcell⟩ := Hat.out.cell hb k hlt
      have hfs := Hs.out k hlt
      have hlt1 : (k : Int) < (len1 : Int) := by omega
      unfold maxLen at hfs
      by_cases h20 : 20 ≤ k
      · have g1 : (20 : Int) ≤ (k : Int) := by omega
        go_wp2_with fail
        go_ret
        exact ⟨rfl, hb⟩
      · have g1 : ¬ (20 : Int) ≤ (k : Int) := by omega
        by_cases h300 : 300 < (f k).size
        · have g2 : (300 : Int) < ((f k).size : Int) := by omega
          go_wp2_with fail
          go_ret
          exact ⟨rfl, hb⟩
        · have g2 : ¬ (300 : Int) < ((f k).size : Int) := by omega
          have hm : (all ++ f k).data.toList = joined f (k + 1) := by
            rw [ByteArray.data_append, Array.toList_append, Hj.out]; rfl
          have Hm := Lib.hid hm
          clear hm
          have hys : (all ++ f k).size ≤ 300 * (k + 1) := by rw [ByteArray.size_append]; omega
          have hx : (f k).size ≤ 300 := by omega
          have hz : all.size ≤ 6000 := by omega
          have Hf := Lib.hid (show _ ∧ _ ∧ _ ∧ _ from ⟨hys, Hm, hT, hb⟩)
          clear hys hT hb
          generalize f k = x at *
          go_wp2_with fail
          exact ⟨⟨k + 1, all ++ x, by omega, by omega, by go_num, rfl, Hf.out⟩, by simp [intOf]; omega⟩
    · obtain rfl : k = len1 := by omega
      have hlt1 : ¬ (k : Int) < (k : Int) := by omega
      have hz : all.size ≤ 6000 := by omega
      have hal := Oct.size_list all
      by_cases h300 : 300 < a0.size
      · have g0 : (300 : Int) < (a0.size : Int) := by omega
        go_wp2_with fail
        go_ret
        exact ⟨rfl, hb⟩
      · have g0 : ¬ (300 : Int) < (a0.size : Int) := by omega
        have hjl : (joined f k).length ≤ 20000 := by rw [← Hj.out]; omega
        have HR := Lib.hid (fun w' => refMac_any a0 all w' (by omega) (by omega))
        have HM := Lib.hid (fun (w' : World) (h : Below W.heap.size W w') (hT' : Tabs w') => macOf_any a0 a1 k cap1 f w' hT' (strsAt_later Hat.out h) (by omega) (by omega) hjl)
        have HO := Lib.hid (fun (w' : World) (hT' : Tabs w') => macOf_any a0 (some ⟨w'.heap.size, 0, none⟩) 1 1 (fun _ => all) (w'.alloc (.cells #[.string all] 9))
          (hT'.below ((Below.refl w'.heap.size w').alloc (Nat.le_refl _) _) hT'.size) (strsAt_one w' all 9) (by omega) (by omega) (by rw [joined_one]; omega))
        rw [joined_one, Hj.out] at HO
        rw [Hj.out] at HR
        generalize ByteArray.mk (mac a0.data.toList (joined f k)).toArray = z at *
        clear hjl
        go_wp2_with fail
        refine (HM.out _ hb hT).mono ?_
        rintro e wb ⟨rfl, h1⟩
        have hT := hT.below h1 hT.size
        have hb := hb.trans (h1.mono hb.size)
        clear h1
        go_wp2_with fail
        refine (HR.out _).mono ?_
        rintro e wc ⟨rfl, h1⟩
        have hT := hT.below h1 hT.size
        have hb := hb.trans (h1.mono hb.size)
        clear h1 HR
        go_wp2_with fail
        refine (HO.out _ hT).mono ?_
        rintro e wd ⟨rfl, h1⟩
        have h2 := (Below.refl wc.heap.size wc).alloc (Nat.le_refl _) (.cells #[.string all] 9)
        have h1 := h2.trans (h1.mono h2.size)
        have hT := hT.below h1 hT.size
        have hb := hb.trans (h1.mono hb.size)
        clear h1 h2 HO
        go_wp2_with fail
        refine (HM.out _ hb hT).mono ?_
        rintro e we ⟨rfl, h1⟩
        have hb := hb.trans (h1.mono hb.size)
        clear h1 HM
        go_wp2_with fail
        go_ret
        exact ⟨by simp, hb⟩
end Go.Proofs.YtpocfcenfpdjfaaDoor.Mac
