/- Plain: the beginning, byte by byte. -/
import Derived.Test.YtmjfdklpcmpjhaaHead7
namespace Go.Proofs.Ytmjfdklpcmpjhaa.Head
open Go.Proofs.Ytmjfdklpcmpjhaa.Oct (num num_lt num_append size_list whole)
set_option linter.unusedVariables false

theorem fld_one (s : ByteArray) (a : Nat) (h : a < s.size) : fld s a 1 = s[a].toNat := by
  unfold fld
  have hl : a < s.data.toList.length := by rw [size_list]; exact h
  rw [List.drop_eq_getElem_cons hl, List.take_succ_cons, List.take_zero]
  have : s.data.toList[a] = s[a] := rfl
  rw [this]
  simp [num]

theorem fld_add (s : ByteArray) (a m n : Nat) (h : a + m + n ≤ s.size) : fld s a (m + n) = fld s a m * 256 ^ n + fld s (a + m) n := by
  unfold fld
  have hl := size_list s
  rw [List.take_add, num_append, List.drop_drop]
  congr 2
  rw [List.length_take, List.length_drop]
  rw [show min n (s.data.toList.length - (a + m)) = n by omega]

theorem fld_two (s : ByteArray) (a : Nat) (h : a + 1 < s.size) : fld s a 2 = s[a].toNat * 256 + s[a + 1].toNat := by
  rw [show (2 : Nat) = 1 + 1 from rfl, fld_add s a 1 1 (by omega), fld_one s a (by omega), fld_one s (a + 1) (by omega)]

theorem isLong_byte (s : ByteArray) (h : 12 ≤ s.size) : isLong s = (s[8].toNat % 2 == 1) := by
  unfold isLong; rw [fld_one s 8 (by omega)]
theorem kept_byte (s : ByteArray) (h : 12 ≤ s.size) : kept s = (decide (32 ≤ s[8].toNat) || ((s[8].toNat % 2 == 1) && decide (s[9].toNat ≠ 0))) := by
  unfold kept; rw [isLong_byte s h, fld_one s 8 (by omega), fld_one s 9 (by omega)]

theorem parse_byte (s : ByteArray) (h : 12 ≤ s.size) : parse s = ⟨s[0].toNat * 256 + s[1].toNat, s[2].toNat * 256 + s[3].toNat, s[4].toNat, (s[5].toNat : Int) / 16, (s[5].toNat : Int) % 16, s[6].toNat * 256 + s[7].toNat, (s[8].toNat : Int) / 2, s[8].toNat % 2 == 1,
    if s[8].toNat % 2 == 1 then fld s 10 6 else fld s 9 3⟩ := by
  unfold parse
  rw [fld_two s 0 (by omega), fld_two s 2 (by omega), fld_one s 4 (by omega), fld_one s 5 (by omega), fld_two s 6 (by omega), fld_one s 8 (by omega)]
  simp only [Int.natCast_add, Int.natCast_mul]
  rfl

theorem fld_seven (s : ByteArray) (h : 16 ≤ s.size) (h9 : s[9].toNat = 0) : fld s 9 7 = fld s 10 6 := by
  rw [show (7 : Nat) = 1 + 6 from rfl, fld_add s 9 1 6 (by omega), fld_one s 9 (by omega), h9, Nat.zero_mul, Nat.zero_add]

theorem whole_mid (s : ByteArray) (a b : Nat) (hb : b ≤ a + 7) : whole (s.extract a b) = fld s a (b - a) := by
  unfold whole
  rw [extract_toList]
  have h2 := fld_lt s a (b - a)
  unfold fld at h2 ⊢
  have h3 : 256 ^ (b - a) ≤ 256 ^ 7 := Nat.pow_le_pow_right (by omega) (by omega)
  have h4 : (256 : Nat) ^ 7 = 72057594037927936 := by decide
  omega
end Go.Proofs.Ytmjfdklpcmpjhaa.Head
