/- The document's own answers: bytes turned, the sum with a key, the numbers that it gives. -/
import Derived.Test.YtpocfcenfpdjfaaDoorMac3
import Derived.Test.YtpocfcenfpdjfaaDoorSha8
import Derived.Test.YtpocfcenfpdjfaaDoorRefPut1
import Derived.Test.YtpocfcenfpdjfaaDoorRefOf1
namespace Go.Proofs.YtpocfcenfpdjfaaDoor.Mac
open Go.ChangeShapes Go.WideShapes Go.ChangeAt Go.RowKit
open Go.Proofs.YtpocfcenfpdjfaaDoor.Sha
set_option linter.unusedVariables false

theorem byte_list (s : ByteArray) (k : Nat) (hk : k < s.size) (hk' : k < s.data.toList.length) : s[k] = s.data.toList[k] := by simp; rfl

set_option maxHeartbeats 400000 in
theorem refTurned_any (s : ByteArray) (n : Int) (w : World) (hs : s.size ≤ 1000) :
    Calls Tryd.prog 22 #[.string s, .int .u8 n] w fun e w' => e = .returned (.string ⟨(turn n s.data.toList).toArray⟩) ∧ Below w.heap.size w w' := by
  have hlen := Lib.hid (Oct.size_list s)
  go_enter Tryd.func22, Tryd.ntmps22
  go_wp2_with fail
  go_loopw [5, 6] (fun v i wr => ∃ k : Nat, k ≤ s.size ∧ i = .int .i64 k ∧ v = .string ⟨(turn n (s.data.toList.take k)).toArray⟩ ∧ Below w.heap.size w wr) (fun _ i _ => s.size - (intOf i).toNat)
  case atStart => exact ⟨0, by omega, rfl, rfl, Below.refl _ _⟩
  case round =>
    obtain ⟨k, hk, rfl, rfl, hb⟩ := hrel
    by_cases hlt : k < s.size
    · have hkl : k < s.data.toList.length := by rw [hlen.out]; exact hlt
      have Hn := Lib.hid (turn_snoc n s.data.toList k hkl)
      rw [← byte_list s k hlt hkl] at Hn
      have hu := (s[k]).toNat_lt
      have hz := size_mk (turn n (s.data.toList.take k))
      have hz2 : (ByteArray.mk (turn n (s.data.toList.take k)).toArray).size ≤ 1000 := by rw [hz, turn_length, List.length_take]; omega
      clear hz
      have hconv := fun v => Oct.run_one_byte v wr
      go_wp2_with fail
      refine ⟨⟨k + 1, by omega, by go_num, ?_, hb.alloc hb.size _⟩, by simp [intOf]; omega⟩
      rw [Hn.out, Oct.bs_append]; rfl
    · obtain rfl : k = s.size := by omega
      have hz := size_mk (turn n (s.data.toList.take s.size))
      rw [← hlen.out, List.take_length]
      go_wp2_with fail
      go_ret
      exact ⟨rfl, hb⟩

theorem zeros_snoc (s : ByteArray) (j : Nat) : (s ++ zeros j) ++ ⟨#[0]⟩ = s ++ zeros (j + 1) := by
  apply ByteArray.ext
  simp [ByteArray.data_append, zeros, Array.replicate_succ]
theorem zeros_none (s : ByteArray) : s ++ zeros 0 = s := by
  apply ByteArray.ext
  simp [ByteArray.data_append, zeros]
theorem short_mk (k : ByteArray) (h : ¬ 64 < k.size) : k = ⟨(short k.data.toList).toArray⟩ := by
  unfold short
  rw [if_neg (by rw [Oct.size_list]; exact h)]
theorem short_sum (k : ByteArray) (h : 64 < k.size) : ByteArray.mk (sum k.data.toList).toArray = ⟨(short k.data.toList).toArray⟩ := by
  unfold short
  rw [if_pos (by rw [Oct.size_list]; exact h)]
theorem fill_zero (k : List UInt8) : ByteArray.mk (short k).toArray ++ zeros (64 - (short k).length) = ⟨(fill k).toArray⟩ := by
  unfold zeros fill
  rw [Oct.bs_append]

set_option maxHeartbeats 1000000 in
theorem refMac_any (key all : ByteArray) (w : World) (hk : key.size ≤ 15000) (ha : all.size ≤ 15000) :
    Calls Tryd.prog 8 #[.string key, .string all] w fun e w' => e = .returned (.string ⟨(mac key.data.toList all.data.toList).toArray⟩) ∧ Below w.heap.size w w' := by
  go_enter Tryd.func8, Tryd.ntmps8
  go_upto_if 7 with fail
  go_cut [0] (fun v wx => v = .string ⟨(short key.data.toList).toArray⟩ ∧ Below w.heap.size w wx)
  case first =>
    by_cases h64 : 64 < key.size
    · have h1 : (64 : Int) < (key.size : Int) := by omega
      have Hs := Lib.hid (short_sum key h64)
      go_wp2_with fail
      refine (Sha.refOf_any key (by omega) w).mono ?_
      rintro e w1 ⟨rfl, hb⟩
      rw [Hs.out]
      go_wp2_with fail
      all_goals (go_meet; exact ⟨rfl, hb⟩)
    · have h1 : ¬ (64 : Int) < (key.size : Int) := by omega
      have Hs := Lib.hid (short_mk key h64)
      go_wp2_with fail
      all_goals (go_meet; exact ⟨by rw [← Hs.out], Below.refl _ _⟩)
  case rest =>
    obtain ⟨rfl, hb⟩ := hcut
    have hz := size_mk (short key.data.toList)
    have hl := short_length key.data.toList
    have HF := Lib.hid (fill_zero key.data.toList)
    rw [← hz] at HF
    have hKz : (ByteArray.mk (short key.data.toList).toArray).size ≤ 64 := by omega
    have HM := Lib.hid (show mac key.data.toList all.data.toList = sum (turn 92 (ByteArray.mk (fill key.data.toList).toArray).data.toList ++ sum (turn 54 (ByteArray.mk (fill key.data.toList).toArray).data.toList ++ all.data.toList)) by rw [list_mk]; rfl)
    have hFs := size_mk (fill key.data.toList)
    rw [fill_length] at hFs
    clear hz hl
    generalize ByteArray.mk (short key.data.toList).toArray = K at *
    generalize ByteArray.mk (fill key.data.toList).toArray = F at *
    go_wp2_with fail
    go_loop [0] (fun v => ∃ j : Nat, K.size + j ≤ 64 ∧ v = .string (K ++ zeros j)) (fun v => match v with | .string t => 64 - t.size | _ => 0)
    case atStart => exact ⟨0, by omega, by rw [zeros_none]⟩
    case round =>
      obtain ⟨j, hj, rfl⟩ := hrel
      have hz : (K ++ zeros j).size = K.size + j := by rw [ByteArray.size_append, zeros_size]
      by_cases hlt : K.size + j < 64
      · have hc : ((K ++ zeros j).size : Int) < 64 := by omega
        have Hj := Lib.hid (show ∃ j' : Nat, K.size + j' ≤ 64 ∧ (K ++ zeros j) ++ ⟨#[0]⟩ = K ++ zeros j' from ⟨j + 1, by omega, zeros_snoc K j⟩)
        have hz3 : 64 - ((K ++ zeros j) ++ ⟨#[0]⟩).size < 64 - (K ++ zeros j).size := by rw [ByteArray.size_append, hz]; show 64 - (K.size + j + 1) < _; omega
        generalize K ++ zeros j = t at *
        clear hz
        go_wp2_with fail
        obtain ⟨j', h1, h2⟩ := Hj.out
        exact ⟨⟨j', h1, by rw [h2]⟩, hz3⟩
      · obtain rfl : j = 64 - K.size := by omega
        have hc : ¬ ((K ++ zeros (64 - K.size)).size : Int) < 64 := by omega
        rw [HF.out] at hc hz ⊢
        go_wp2_with fail
        refine (refTurned_any F 92 wc (by omega)).mono ?_
        rintro e w1 ⟨rfl, h1⟩
        have hb := hb.trans (h1.mono hb.size)
        have hFl := Oct.size_list F
        have hys := size_mk (turn 92 F.data.toList)
        have hyl := list_mk (turn 92 F.data.toList)
        rw [turn_length, hFl] at hys
        rw [← hyl] at HM
        clear h1 hyl hc hz HF
        generalize ByteArray.mk (turn 92 F.data.toList).toArray = Y at *
        go_wp2_with fail
        refine (refTurned_any F 54 w1 (by omega)).mono ?_
        rintro e w2 ⟨rfl, h1⟩
        have hb := hb.trans (h1.mono hb.size)
        have hxs := size_mk (turn 54 F.data.toList)
        have hxl := list_mk (turn 54 F.data.toList)
        rw [turn_length, hFl] at hxs
        rw [← hxl] at HM
        clear h1 hxl hFl
        generalize ByteArray.mk (turn 54 F.data.toList).toArray = X at *
        have hXs : (X ++ all).size ≤ 15064 := by rw [ByteArray.size_append]; omega
        have hXl : (X ++ all).data.toList = X.data.toList ++ all.data.toList := by rw [ByteArray.data_append]; simp
        rw [← hXl] at HM
        clear hXl
        go_wp2_with fail
        generalize X ++ all = V at *
        refine (Sha.refOf_any V (by omega) w2).mono ?_
        rintro e w3 ⟨rfl, h1⟩
        have hb := hb.trans (h1.mono hb.size)
        have hss := size_mk (sum V.data.toList)
        have hsl := list_mk (sum V.data.toList)
        rw [sum_length] at hss
        rw [← hsl] at HM
        clear h1 hsl
        generalize ByteArray.mk (sum V.data.toList).toArray = S at *
        have hYS : (Y ++ S).size = 96 := by rw [ByteArray.size_append]; omega
        have hYl : (Y ++ S).data.toList = Y.data.toList ++ S.data.toList := by rw [ByteArray.data_append]; simp
        rw [← hYl] at HM
        clear hYl
        go_wp2_with fail
        generalize Y ++ S = Z at *
        refine (Sha.refOf_any Z (by omega) w3).mono ?_
        rintro e w4 ⟨rfl, h1⟩
        have hb := hb.trans (h1.mono hb.size)
        rw [← HM.out]
        clear h1
        go_wp2_with fail
        go_ret
        exact ⟨rfl, hb⟩

theorem refToken_any (k : ByteArray) (w : World) (hk : k.size ≤ 15000) :
    Calls Tryd.prog 11 #[.string k] w fun e w' => e = .returned (.int .i64 (token k.data.toList)) ∧ Below w.heap.size w w' := by
  have hz := size_mk (sum k.data.toList)
  rw [sum_length] at hz
  have HE := Lib.hid (show token k.data.toList = wrap64 (Oct.whole ((ByteArray.mk (sum k.data.toList).toArray).extract 0 4)) from rfl)
  go_enter Tryd.func11, Tryd.ntmps11
  go_wp2_with fail
  refine (Sha.refOf_any k (by omega) w).mono ?_
  rintro e w1 ⟨rfl, hb⟩
  generalize ByteArray.mk (sum k.data.toList).toArray = z at *
  go_wp2_with fail
  have hx : (z.extract 0 4).size ≤ 100000 := by simp; omega
  refine (Oct.refOf_any _ _ hx).mono ?_
  rintro e w2 ⟨rfl, rfl⟩
  generalize Oct.whole (z.extract 0 4) = v at *
  go_wp2_with fail
  go_ret
  exact ⟨by rw [HE.out]; rfl, hb⟩

set_option maxHeartbeats 400000 in
theorem refDraw_any (k : ByteArray) (place size : Int) (w : World) (hk : k.size ≤ 15000) :
    Calls Tryd.prog 13 #[.string k, .int .i64 place, .int .i64 size] w fun e w' => e = .returned (.int .i64 (draw k.data.toList place size)) ∧ Below w.heap.size w w' := by
  have h8 : Oct.held 8 = 8 := by rw [Oct.held_mid] <;> omega
  have hl7 := held7_le size
  have HE := Lib.hid (show draw k.data.toList place size = wrap64 (Oct.whole ((ByteArray.mk (mac k.data.toList (Oct.be (Oct.nat64 place) 8)).toArray).extract 0 (held7 size))) from rfl)
  have Hh := Lib.hid (show held7 size = (min (max size 1) 7).toNat from rfl)
  generalize held7 size = h at *
  have hu : IntKind.u64.wrap place = (Oct.nat64 place : Int) := by rw [IntKind.wrap_u64, Oct.u64_cast]
  have hul := Oct.u64_lt place
  go_enter Tryd.func13, Tryd.ntmps13
  go_wp2_with fail
  refine (Oct.refPut_any _ _ _ _ (by decide) (by omega)).mono ?_
  rintro e w1 ⟨rfl, hb⟩
  have hx : ByteArray.mk #[] ++ ByteArray.mk (Oct.be (Oct.nat64 place) (Oct.held 8)).toArray = ByteArray.mk (Oct.be (Oct.nat64 place) 8).toArray := by rw [h8]; exact Oct.bs_append [] _
  rw [hx]
  have hxl := list_mk (Oct.be (Oct.nat64 place) 8)
  have hxs := size_mk (Oct.be (Oct.nat64 place) 8)
  rw [Oct.be_length] at hxs
  rw [← hxl] at HE
  clear hx hxl h8 hu hul
  generalize ByteArray.mk (Oct.be (Oct.nat64 place) 8).toArray = X at *
  generalize (Oct.nat64 place : Int) = p at *
  go_wp2_with fail
  refine (refMac_any k X w1 hk (by omega)).mono ?_
  rintro e w3 ⟨rfl, h3⟩
  have hb := hb.trans (h3.mono hb.size)
  have hz := size_mk (mac k.data.toList X.data.toList)
  rw [mac_length] at hz
  generalize ByteArray.mk (mac k.data.toList X.data.toList).toArray = z at *
  clear h3
  go_wp2_with fail
  rw [← Hh.out]
  have hx : (z.extract 0 h).size ≤ 100000 := by simp; omega
  refine (Oct.refOf_any _ _ hx).mono ?_
  rintro e w4 ⟨rfl, rfl⟩
  generalize Oct.whole (z.extract 0 h) = v at *
  go_wp2_with fail
  go_ret
  exact ⟨by rw [HE.out]; rfl, hb⟩
end Go.Proofs.YtpocfcenfpdjfaaDoor.Mac
