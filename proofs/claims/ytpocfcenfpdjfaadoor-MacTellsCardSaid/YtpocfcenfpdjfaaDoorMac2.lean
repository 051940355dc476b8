/- A key of 64 bytes, and the sum with a key: the contracts of the program's. -/
import Derived.Test.YtpocfcenfpdjfaaDoorMac1
import Derived.Test.YtpocfcenfpdjfaaDoorSha6
import Derived.Test.YtpocfcenfpdjfaaDoorStrArg
namespace Go.Proofs.YtpocfcenfpdjfaaDoor.Mac
open Go.ChangeShapes Go.WideShapes Go.ChangeAt Go.RowKit
open Go.Proofs.YtpocfcenfpdjfaaDoor.Sha Go.Proofs.YtpocfcenfpdjfaaDoor.StrArg
set_option linter.unusedVariables false

theorem fill_short (k : List UInt8) (h : k.length ≤ 64) : fill k = k ++ List.replicate (64 - k.length) 0 := by
  have h2 : short k = k := by unfold short; rw [if_neg (by omega)]
  unfold fill; rw [h2]
theorem fill_long (k : List UInt8) (h : 64 < k.length) : fill k = sum k ++ List.replicate 32 0 := by
  have h2 : short k = sum k := by unfold short; rw [if_pos h]
  unfold fill; rw [h2, sum_length]
theorem fill_short' (k : ByteArray) (h : k.size ≤ 64) : k ++ zeros (64 - k.size) = ⟨(fill k.data.toList).toArray⟩ := by
  have hl := Oct.size_list k
  rw [fill_short _ (by omega), hl]
  apply ByteArray.ext
  rw [ByteArray.data_append]
  simp [zeros]
theorem fill_long' (k : ByteArray) (h : 64 < k.size) : ByteArray.mk (sum k.data.toList).toArray ++ zeros 32 = ⟨(fill k.data.toList).toArray⟩ := by
  have hl := Oct.size_list k
  rw [fill_long _ (by omega)]
  unfold zeros
  rw [Oct.bs_append]

theorem filled_any (k : ByteArray) (w : World) (hT : Tabs w) (hk : k.size ≤ 30000) :
    Calls Tryd.prog 14 #[.string k] w fun e w' => e = .returned (.string ⟨(fill k.data.toList).toArray⟩) ∧ Below w.heap.size w w' := by
  go_enter Tryd.func14, Tryd.ntmps14
  by_cases h64 : 64 < k.size
  · have h1 : (64 : Int) < (k.size : Int) := by omega
    have Hf := Lib.hid (fill_long' k h64)
    have hz : (ByteArray.mk (sum k.data.toList).toArray).size = 32 := by show (sum k.data.toList).toArray.size = 32; simp
    go_wp2_with fail
    refine (of_any k w hT hk).mono ?_
    rintro e w1 ⟨rfl, hb⟩
    generalize ByteArray.mk (sum k.data.toList).toArray = z at *
    have i1 : (64 : Int) - (z.size : Int) = ((32 : Nat) : Int) := by omega
    have hz2 := zeros_size 32
    go_wp2_with fail
    refine (repeat_any 32 (by omega) w1).mono ?_
    rintro e w2 ⟨rfl, h2⟩
    have hb := hb.trans (h2.mono hb.size)
    generalize zeros 32 = y at *
    clear h2
    go_wp2_with fail
    go_ret
    exact ⟨by rw [Hf.out]; rfl, hb⟩
  · have h1 : ¬ (64 : Int) < (k.size : Int) := by omega
    have Hf := Lib.hid (fill_short' k (by omega))
    have i1 : (64 : Int) - (k.size : Int) = ((64 - k.size : Nat) : Int) := by omega
    have hz2 := zeros_size (64 - k.size)
    go_wp2_with fail
    refine (repeat_any (64 - k.size) (by omega) w).mono ?_
    rintro e w2 ⟨rfl, hb⟩
    generalize zeros (64 - k.size) = y at *
    go_wp2_with fail
    go_ret
    exact ⟨by rw [Hf.out]; rfl, hb⟩

/-- the bytes of k parts, one behind the other -/
def joined (f : Nat → ByteArray) : Nat → List UInt8
  | 0 => []
  | k + 1 => joined f k ++ (f k).data.toList
theorem joined_le (f : Nat → ByteArray) (k n : Nat) (h : k ≤ n) : (joined f k).length ≤ (joined f n).length := by
  induction n with
  | zero => obtain rfl : k = 0 := by omega
            exact Nat.le_refl _
  | succ n ih =>
    by_cases e : k = n + 1
    · subst e; exact Nat.le_refl _
    · have := ih (by omega)
      simp only [joined, List.length_append]; omega
theorem size_mk (l : List UInt8) : (ByteArray.mk l.toArray).size = l.length := by show l.toArray.size = _; simp
theorem list_mk (l : List UInt8) : (ByteArray.mk l.toArray).data.toList = l := by simp

set_option maxRecDepth 100000 in
set_option maxHeartbeats 1000000 in
theorem macOf_any (key : ByteArray) (a : Option Addr) (len cap : Nat) (f : Nat → ByteArray) (w : World) (hT : Tabs w) (hat : StrsAt w a len f) (hlen : len ≤ 1000000)
    (hk : key.size ≤ 30000) (hm : (joined f len).length ≤ 20000) :
    Calls Tryd.prog 7 #[.string key, .slice a len cap] w fun e w' => e = .returned (.string ⟨(mac key.data.toList (joined f len)).toArray⟩) ∧ Below w.heap.size w w' := by
  have Hat := Lib.hid hat
  have h2 := hT.size
  clear hat
  go_enter Tryd.func7, Tryd.ntmps7
  go_wp2_with fail
  refine (filled_any key w hT hk).mono ?_
  rintro e w1 ⟨rfl, hb⟩
  have hT := hT.below hb hT.size
  have hFs := size_mk (fill key.data.toList)
  rw [fill_length] at hFs
  have HM := Lib.hid (show mac key.data.toList (joined f len) = sum (turn 92 (ByteArray.mk (fill key.data.toList).toArray).data.toList ++ sum (turn 54 (ByteArray.mk (fill key.data.toList).toArray).data.toList ++ joined f len)) by rw [list_mk]; rfl)
  generalize ByteArray.mk (fill key.data.toList).toArray = F at *
  go_wp2_with fail
  refine (new_any w1).mono ?_
  rintro e w2 ⟨rfl, hC, h3⟩
  have hT := hT.below h3 hT.size
  have hz1 := hb.size
  have hb := hb.trans (h3.mono hb.size)
  clear h3
  obtain ⟨C, hCe⟩ : ∃ C, C = w1.heap.size := ⟨_, rfl⟩
  rw [← hCe] at hC hz1 ⊢
  have hC2 : 2 ≤ C := by omega
  clear hCe
  go_wp2_with fail
  refine (by_any 54 w2).mono ?_
  rintro e w3 ⟨rfl, hc, hz3, h3⟩
  have hT := hT.below h3 hT.size
  have hC := hC.below h3 hC.lt
  have hb := hb.trans (h3.mono hb.size)
  generalize w2.heap.size = B at *
  clear h3
  go_wp2_with fail
  refine (turned_any F 54 B w3 (by omega) hc hz3).mono ?_
  rintro e w4 ⟨rfl, h3⟩
  have hT := hT.below h3 hT.size
  have hC := hC.below h3 hC.lt
  have hb := hb.trans (h3.mono hb.size)
  have hxs := size_mk (turn 54 F.data.toList)
  have hxl := list_mk (turn 54 F.data.toList)
  have hFl := Oct.size_list F
  rw [turn_length, hFl] at hxs
  clear h3 hc hz3
  generalize ByteArray.mk (turn 54 F.data.toList).toArray = X at *
  rw [← hxl] at HM
  clear hxl
  go_wp2_with fail
  refine (add_any [] X C w4 hC hT hC2 (by simp; omega)).mono ?_
  rintro e w5 ⟨rfl, ht, hC⟩
  have hT := hT.below (ht.below hC2 hT.size) (Nat.le_refl _)
  have hb := hb.trans (ht.below hz1 hb.size)
  rw [List.nil_append] at hC
  clear ht
  have hXl := Oct.size_list X
  go_wp2_with fail
  go_loopw [7, 18] (fun _ i wr => ∃ k : Nat, k ≤ len ∧ i = .int .i64 k ∧ StateAt wr C (X.data.toList ++ joined f k) ∧ Tabs wr ∧ Below w.heap.size w wr) (fun _ i _ => len - (intOf i).toNat)
  case atStart => exact ⟨0, by omega, rfl, by simpa [joined] using hC, hT, hb⟩
  case round =>
    clear hC hT hb
    obtain ⟨k, hk, rfl, hC, hT, hb⟩ := hrel
    by_cases hlt : k < len
    · obtain ⟨b, off, rfl, hbl, hcell⟩ := Hat.out.cell hb k hlt
      have hj := joined_le f (k + 1) len (by omega)
      have hjk : joined f (k + 1) = joined f k ++ (f k).data.toList := rfl
      have hfl := Oct.size_list (f k)
      have hlt1 : (k : Int) < (len : Int) := by omega
      have Hl := Lib.hid (show (X.data.toList ++ joined f k).length + (f k).size ≤ 40000 by
        rw [hjk] at hj; simp only [List.length_append] at hj ⊢; omega)
      have Hj := Lib.hid (show (X.data.toList ++ joined f k) ++ (f k).data.toList = X.data.toList ++ joined f (k + 1) by rw [List.append_assoc]; rfl)
      have hx : (f k).size ≤ 20000 := by rw [hjk] at hj; simp only [List.length_append] at hj; omega
      clear hj hjk hfl
      go_wp2_with fail
      refine (add_any (X.data.toList ++ joined f k) (f k) C wr hC hT hC2 Hl.out).mono ?_
      rintro e w6 ⟨rfl, ht, hC⟩
      have hT := hT.below (ht.below hC2 hT.size) (Nat.le_refl _)
      have hb := hb.trans (ht.below hz1 hb.size)
      rw [Hj.out] at hC
      have Hf := Lib.hid (show _ ∧ _ ∧ _ from ⟨hC, hT, hb⟩)
      clear ht hC hT hb hcell Hl Hj
      go_wp2_with fail
      exact ⟨⟨k + 1, by omega, by go_num, Hf.out⟩, by simp [intOf]; omega⟩
    · obtain rfl : k = len := by omega
      have hlt1 : ¬ (k : Int) < (k : Int) := by omega
      have hCl := hC.lt
      go_wp2_with fail
      refine (by_any 92 wr).mono ?_
      rintro e w6 ⟨rfl, hc, hz6, h6⟩
      have hT := hT.below h6 hT.size
      have hC := hC.below h6 hCl
      have hb := hb.trans (h6.mono hb.size)
      generalize wr.heap.size = B2 at *
      have hCl := hC.lt
      clear h6
      go_wp2_with fail
      refine (turned_any F 92 B2 w6 (by omega) hc hz6).mono ?_
      rintro e w7 ⟨rfl, h7⟩
      have hT := hT.below h7 hT.size
      have hC := hC.below h7 hCl
      have hb := hb.trans (h7.mono hb.size)
      have hCl := hC.lt
      have hys := size_mk (turn 92 F.data.toList)
      have hyl := list_mk (turn 92 F.data.toList)
      rw [turn_length, hFl] at hys
      rw [← hyl] at HM
      clear h7 hc hz6 hyl
      generalize ByteArray.mk (turn 92 F.data.toList).toArray = Y at *
      go_wp2_with fail
      refine (sum_any (X.data.toList ++ joined f k) C w7 hC hT (by rw [List.length_append]; omega)).mono ?_
      rintro e w8 ⟨rfl, h8⟩
      have hT := hT.below h8 hT.size
      have hb := hb.trans (h8.mono hb.size)
      have hss := size_mk (sum (X.data.toList ++ joined f k))
      have hsl := list_mk (sum (X.data.toList ++ joined f k))
      rw [sum_length] at hss
      rw [← hsl] at HM
      clear h8 hsl hC hCl
      generalize ByteArray.mk (sum (X.data.toList ++ joined f k)).toArray = S at *
      have hYS : (Y ++ S).size = 96 := by rw [ByteArray.size_append]; omega
      have hYl : (Y ++ S).data.toList = Y.data.toList ++ S.data.toList := by rw [ByteArray.data_append]; simp
      rw [← hYl] at HM
      clear hYl
      go_wp2_with fail
      generalize Y ++ S = Z at *
      refine (of_any Z w8 hT (by omega)).mono ?_
      rintro e w9 ⟨rfl, h9⟩
      have hb := hb.trans (h9.mono hb.size)
      rw [← HM.out]
      clear h9 hT
      go_wp2_with fail
      go_ret
      exact ⟨rfl, hb⟩
end Go.Proofs.YtpocfcenfpdjfaaDoor.Mac
