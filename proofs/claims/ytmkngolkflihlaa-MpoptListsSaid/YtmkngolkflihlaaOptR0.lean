/- What bytes say, from a place on: plain. -/
import Derived.Test.YtmkngolkflihlaaOpt6
namespace Go.Proofs.Ytmkngolkflihlaa.Opt
open Go.ChangeShapes Go.WideShapes Go.ChangeAt Go.RowKit
set_option linter.unusedVariables false

/-- what is left from a place on -/
def rest (s : ByteArray) (k : Nat) : ByteArray := s.extract k s.size
theorem rest_size (s : ByteArray) (k : Nat) : (rest s k).size = s.size - k := by unfold rest; rw [size_extract]; omega
theorem rest_list (s : ByteArray) (k : Nat) : (rest s k).data.toList = s.data.toList.drop k := by
  unfold rest
  rw [list_extract, List.take_of_length_le (by rw [List.length_drop, list_size]; omega)]
theorem rest_zero (s : ByteArray) : rest s 0 = s := by apply ext_l; rw [rest_list]; rfl
theorem rest_byte (s : ByteArray) (k i : Nat) : byte (rest s k) i = byte s (k + i) := by
  rw [byte_list, byte_list, rest_list, List.getD_eq_getElem?_getD, List.getD_eq_getElem?_getD, List.getElem?_drop]
theorem rest_rest (s : ByteArray) (k i : Nat) : (rest s k).extract i (s.size - k) = rest s (k + i) := by
  apply ext_l
  rw [list_extract, rest_list, rest_list, List.drop_drop, List.take_of_length_le (by rw [List.length_drop, list_size]; omega)]
theorem rest_piece (s : ByteArray) (k i j : Nat) : (rest s k).extract i j = s.extract (k + i) (k + j) := by
  apply ext_l
  rw [list_extract, list_extract, rest_list, List.drop_drop, show k + j - (k + i) = j - i by omega]

/-- all that is told from a place on -/
def from_ (s : ByteArray) (k : Nat) : List (O × Int) := told (rest s k)
theorem from_zero (s : ByteArray) : from_ s 0 = told s := by unfold from_; rw [rest_zero]
theorem from_end {s : ByteArray} {k : Nat} (h : s.size ≤ k) : from_ s k = [] := told_nil (by rw [rest_size]; omega)
theorem from_step {s : ByteArray} {k : Nat} (h : k < s.size) : from_ s k =
    if byte s k ≤ 31 then (if byte s k = 0 then from_ s (k + 1) else (⟨byte s k, ⟨#[]⟩⟩, 0) :: from_ s (k + 1))
    else if s.size ≤ k + 1 then [(none1, 1)]
    else if byte s (k + 1) < 2 then [(none1, 4)]
    else if s.size < k + byte s (k + 1) then [(none1, 1)]
    else (⟨byte s k, s.extract (k + 2) (k + byte s (k + 1))⟩, 0) :: from_ s (k + byte s (k + 1)) := by
  have e1 : from_ s k = told (rest s k) := rfl
  have hF : first (rest s k) = if byte s k ≤ 31 then (⟨byte s k, ⟨#[]⟩⟩, rest s (k + 1), 0)
      else if s.size - k < 2 then (none1, ⟨#[]⟩, 1)
      else if byte s (k + 1) < 2 then (none1, ⟨#[]⟩, 4)
      else if s.size - k < byte s (k + 1) then (none1, ⟨#[]⟩, 1)
      else (⟨byte s k, s.extract (k + 2) (k + byte s (k + 1))⟩, rest s (k + byte s (k + 1)), 0) := by
    unfold first
    rw [rest_byte, rest_byte, rest_size, Nat.add_zero, rest_rest, rest_rest, rest_piece]
  rw [e1, told_step (by rw [rest_size]; omega)]
  by_cases h1 : byte s k ≤ 31
  · have hG := hF.trans (if_pos h1)
    rw [hG, if_pos h1]
    dsimp only
    rw [if_pos rfl]
    by_cases h0 : byte s k = 0
    · rw [if_pos (by omega), if_pos h0]; rfl
    · rw [if_neg (by omega), if_neg h0]; rfl
  · have hG := hF.trans (if_neg h1)
    rw [if_neg h1]
    by_cases h2 : s.size ≤ k + 1
    · rw [hG.trans (if_pos (by omega)), if_pos h2]; rfl
    · replace hG := hG.trans (if_neg (by omega))
      rw [if_neg h2]
      by_cases h3 : byte s (k + 1) < 2
      · rw [hG.trans (if_pos h3), if_pos h3]; rfl
      · replace hG := hG.trans (if_neg h3)
        rw [if_neg h3]
        by_cases h4 : s.size < k + byte s (k + 1)
        · rw [hG.trans (if_pos (by omega)), if_pos h4]; rfl
        · rw [hG.trans (if_neg (by omega)), if_neg h4]
          dsimp only
          rw [if_pos rfl, if_neg (by omega)]; rfl
end Go.Proofs.Ytmkngolkflihlaa.Opt
