/- In pieces, as whole: the law's walk. -/
import Derived.Test.YtiokfpkglnenoaaDoorShaOf
import Derived.Test.YtiokfpkglnenoaaDoorStrArg
namespace Go.Proofs.YtiokfpkglnenoaaDoor.Sha
open Go.ChangeShapes Go.WideShapes Go.ChangeAt Go.RowKit
open Go.Proofs.YtiokfpkglnenoaaDoor.StrArg
set_option linter.unusedVariables false

theorem ShaPieces_open0 {H : Type} {enc : TypeId × Value → H} {W : World} {a : Option Addr} {len cap : Nat} {d : DataW H} {p : List MemPlace}
    (h : DataW.Trod enc Tryd.prog W 0 (fun _ => true) true 25 (.slice a len cap) d p) : IsStrs W a len := isStrs_open h

theorem more_list (x y : ByteArray) : (x ++ y).data.toList = x.data.toList ++ y.data.toList := by
  rw [ByteArray.data_append]; simp

set_option maxRecDepth 100000 in
set_option maxHeartbeats 2000000 in
theorem ShaPieces_walk (a0 : Option Addr) (len0 cap0 : Nat) (W : World) (w0 : IsStrs W a0 len0) (hL : laidMetH Tryd.prog Rows.shaPiecesRow.laid W) :
    Calls Tryd.prog 4 #[.slice a0 len0 cap0] W fun e w' => e = .returned (.bool true) ∧ Below W.heap.size W w' := by
  have hT := Tabs.of_laid hL
  obtain ⟨f, hat, hl, hs⟩ := w0
  have Hs := Lib.hid hs
  have Hat := Lib.hid hat
  have hml : len0 ≤ 9223372036854775807 := by unfold maxLen at hl; omega
  have h2 := hT.size
  clear hL hs hat hl
  go_enter Tryd.func4, Tryd.ntmps4
  go_wp2_with fail
  refine (works_any _ hT).mono ?_
  rintro e w1 ⟨rfl, h1⟩
  have hT := hT.below h1 hT.size
  have hz1 := h1.size
  go_wp2_with fail
  refine (new_any _).mono ?_
  rintro e w2 ⟨rfl, hC, h3⟩
  have hT := hT.below h3 hT.size
  have hb := h1.trans (h3.mono hz1)
  have hz2 : w1.heap.size < w2.heap.size := hC.lt
  clear h1 h3
  go_wp2_with fail
  obtain ⟨C, hCe⟩ : ∃ C, C = w1.heap.size := ⟨_, rfl⟩
  rw [← hCe] at hC hz1 hz2 ⊢
  go_loopw [5, 6] (fun v i wr => ∃ (k : Nat) (all : ByteArray), k ≤ len0 ∧ i = .int .i64 k ∧ v = .string all ∧ all.size ≤ 1500 ∧ StateAt wr C all.data.toList ∧ Tabs wr ∧ Below W.heap.size W wr) (fun _ i _ => len0 - (intOf i).toNat)
  case atStart => exact ⟨0, ⟨#[]⟩, by omega, rfl, rfl, by decide, hC, hT, hb⟩
  case round =>
    clear hC hT hb hCe hz2
    obtain ⟨k, all, hk, rfl, rfl, ha, hC, hT, hb⟩ := hrel
    have hl1 : all.data.toList.length = all.size := rfl
    by_cases hlt : k < len0
    · obtain ⟨b, off, rfl, hbl, hcell⟩ := Hat.out.cell hb k hlt
      have hfs := Hs.out k hlt
      have hlt1 : (k : Int) < (len0 : Int) := by omega
      unfold maxLen at hfs
      by_cases h20 : 20 ≤ k
      · have g1 : (20 : Int) ≤ (k : Int) := by omega
        go_wp2_with fail
        go_ret
        exact ⟨rfl, hb⟩
      · have g1 : ¬ (20 : Int) ≤ (k : Int) := by omega
        by_cases h500 : 500 < (f k).size
        · have g2 : (500 : Int) < ((f k).size : Int) := by omega
          go_wp2_with fail
          go_ret
          exact ⟨rfl, hb⟩
        · have g2 : ¬ (500 : Int) < ((f k).size : Int) := by omega
          by_cases h1000 : 1000 < all.size
          · have g3 : (1000 : Int) < (all.size : Int) := by omega
            go_wp2_with fail
            go_ret
            exact ⟨rfl, hb⟩
          · have g3 : ¬ (1000 : Int) < (all.size : Int) := by omega
            have hz : all.size ≤ 1000 := by omega
            have hx : (f k).size ≤ 500 := by omega
            have hm := more_list all (f k)
            have hxb := fun (w' : World) (h : Below W.heap.size W w') => (Hat.out.cell h k hlt)
            generalize f k = x at *
            go_wp2_with fail
            refine (add_any all.data.toList x C wr hC hT (by omega) (by omega)).mono ?_
            rintro e w3 ⟨rfl, ht, hC⟩
            have hCl : C < w3.heap.size := hC.lt
            have hT := hT.below (ht.below (n := 2) (by omega) hT.size) (Nat.le_refl _)
            have hb := hb.trans (ht.below hz1 hb.size)
            rw [← hm] at hC
            clear hm
            have hc2 : w3.cell? ⟨b, off + k, none⟩ = some (.string x) := by
              obtain ⟨b', off', he, _, hc⟩ := hxb w3 hb
              cases he
              exact hc
            clear ht hcell
            go_wp2_with fail
            refine (add_nil _ _).mono ?_
            rintro e w4 ⟨rfl, rfl⟩
            go_wp2_with fail
            have hys : (all ++ x).size ≤ 1500 := by rw [ByteArray.size_append]; omega
            generalize all ++ x = y at *
            have hyl : y.data.toList.length = y.size := rfl
            refine (sum_any y.data.toList C w4 hC hT (by omega)).mono ?_
            rintro e w5 ⟨rfl, h5⟩
            have hC := hC.below h5 hCl
            have hCl := hC.lt
            have hT := hT.below h5 hT.size
            have hb := hb.trans (h5.mono hb.size)
            clear h5 hc2 hxb
            go_wp2_with fail
            refine (of_any y w5 hT (by omega)).mono ?_
            rintro e w6 ⟨rfl, h6⟩
            have hC := hC.below h6 hCl
            have hT := hT.below h6 hT.size
            have hb := hb.trans (h6.mono hb.size)
            clear h6
            have Hf := Lib.hid (show _ ∧ _ ∧ _ ∧ _ from ⟨hys, hC, hT, hb⟩)
            generalize ByteArray.mk (sum y.data.toList).toArray = z at *
            clear hC hT hb
            go_wp2_with fail
            exact ⟨⟨k + 1, y, by omega, rfl, rfl, Hf.out⟩, by simp [intOf]; omega⟩
    · obtain rfl : k = len0 := by omega
      have hlt1 : ¬ (k : Int) < (k : Int) := by omega
      have hCl := hC.lt
      go_wp2_with fail
      refine (sum_any all.data.toList C wr hC hT (by omega)).mono ?_
      rintro e w5 ⟨rfl, h5⟩
      have hC := hC.below h5 hCl
      have hCl := hC.lt
      have hT := hT.below h5 hT.size
      have hb := hb.trans (h5.mono hb.size)
      clear h5
      go_wp2_with fail
      refine (of_any all w5 hT (by omega)).mono ?_
      rintro e w6 ⟨rfl, h6⟩
      have hC := hC.below h6 hCl
      have hCl := hC.lt
      have hT := hT.below h6 hT.size
      have hb := hb.trans (h6.mono hb.size)
      clear h6
      have HS := Lib.hid (sum_any all.data.toList C w6 hC hT (by omega))
      have HR := Lib.hid (fun w' => refOf_any all ha w')
      clear hC hCl hT
      generalize ByteArray.mk (sum all.data.toList).toArray = z at *
      go_wp2_with fail
      refine HS.out.mono ?_
      rintro e w7 ⟨rfl, h7⟩
      have hb := hb.trans (h7.mono hb.size)
      clear h7 HS
      go_wp2_with fail
      refine (HR.out _).mono ?_
      rintro e w8 ⟨rfl, h8⟩
      have hb := hb.trans (h8.mono hb.size)
      clear h8 HR
      go_wp2_with fail
      refine (sum_nil _).mono ?_
      rintro e w9 ⟨rfl, rfl⟩
      go_wp2_with fail
      go_ret
      exact ⟨by simp, hb⟩
end Go.Proofs.YtiokfpkglnenoaaDoor.Sha
