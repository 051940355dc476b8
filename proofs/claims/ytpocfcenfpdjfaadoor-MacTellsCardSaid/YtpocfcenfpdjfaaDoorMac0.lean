/- Sums with a key as plain mathematics: nothing of any program but the model's own bits. -/
import Derived.Test.YtpocfcenfpdjfaaDoorSha0
import Derived.Laws.Bits64
import Derived.KernelRfl
namespace Go.Proofs.YtpocfcenfpdjfaaDoor.Mac
open Go.Proofs.YtpocfcenfpdjfaaDoor.Sha
set_option linter.unusedVariables false

/-- a byte turned by a number's bits -/
def turn1 (n : Int) (b : UInt8) : UInt8 := UInt8.ofNat (bits .xor .u8 (b.toNat : Int) n).toNat
def turn (n : Int) (l : List UInt8) : List UInt8 := l.map (turn1 n)
@[simp] theorem turn_length (n : Int) (l : List UInt8) : (turn n l).length = l.length := by simp [turn]

theorem wrap_u8 (n : Int) : IntKind.u8.wrap n = n % 256 := by simp [IntKind.wrap, IntKind.bits, IntKind.signed]
theorem xor_u8 (a n : Int) : 0 ≤ bits .xor .u8 a n ∧ bits .xor .u8 a n < 256 := by
  show 0 ≤ IntKind.u8.wrap _ ∧ IntKind.u8.wrap _ < 256
  rw [wrap_u8]; omega
theorem turn1_num (n : Int) (b : UInt8) : ((turn1 n b).toNat : Int) = bits .xor .u8 (b.toNat : Int) n := by
  obtain ⟨h0, h1⟩ := xor_u8 (b.toNat : Int) n
  unfold turn1
  rw [UInt8.toNat_ofNat']
  omega

/-- the first k of these turned -/
def upto (n : Int) (l : List UInt8) (k : Nat) : List UInt8 := turn n (l.take k) ++ l.drop k
theorem upto_zero (n : Int) (l : List UInt8) : upto n l 0 = l := rfl
theorem upto_all (n : Int) (l : List UInt8) : upto n l l.length = turn n l := by simp [upto]
@[simp] theorem upto_length (n : Int) (l : List UInt8) (k : Nat) : (upto n l k).length = l.length := by simp [upto]; omega
theorem upto_get (n : Int) (l : List UInt8) (k : Nat) (hk : k < l.length) : (upto n l k)[k]'(by rw [upto_length]; exact hk) = l[k] := by
  unfold upto
  rw [List.getElem_append_right (by simp; omega)]
  simp [Nat.min_eq_left (Nat.le_of_lt hk)]
theorem upto_set (n : Int) (l : List UInt8) (k : Nat) (hk : k < l.length) : (upto n l k).set k (turn1 n l[k]) = upto n l (k + 1) := by
  unfold upto
  have hz : (turn n (l.take k)).length = k := by simp; omega
  rw [List.set_append_right _ _ (by omega), hz, Nat.sub_self, List.drop_eq_getElem_cons hk, List.set_cons_zero, ← List.take_append_getElem hk]
  unfold turn
  rw [List.map_append, List.append_assoc]; rfl
/-- turned from the front on, a byte a step -/
theorem turn_snoc (n : Int) (l : List UInt8) (k : Nat) (hk : k < l.length) : turn n (l.take (k + 1)) = turn n (l.take k) ++ [turn1 n l[k]] := by
  rw [← List.take_append_getElem hk]
  unfold turn
  rw [List.map_append]; rfl

/-- a key that is too long is its sum -/
def short (k : List UInt8) : List UInt8 := if 64 < k.length then sum k else k
theorem short_length (k : List UInt8) : (short k).length ≤ 64 := by
  unfold short; split
  · simp
  · omega
def fill (k : List UInt8) : List UInt8 := short k ++ List.replicate (64 - (short k).length) 0
@[simp] theorem fill_length (k : List UInt8) : (fill k).length = 64 := by
  have := short_length k
  simp [fill]; omega
/-- the sum of bytes with a key -/
def mac (k m : List UInt8) : List UInt8 := sum (turn 92 (fill k) ++ sum (turn 54 (fill k) ++ m))
@[simp] theorem mac_length (k m : List UInt8) : (mac k m).length = 32 := by simp [mac]

/-- bytes 0 behind a key that stays short change nothing -/
theorem fill_zeros (k : List UInt8) (c : Nat) (h : k.length + c ≤ 64) : fill (k ++ List.replicate c 0) = fill k := by
  have h1 : short (k ++ List.replicate c 0) = k ++ List.replicate c 0 := by unfold short; rw [if_neg (by simp; omega)]
  have h2 : short k = k := by unfold short; rw [if_neg (by omega)]
  unfold fill
  rw [h1, h2, List.append_assoc]
  congr 1
  rw [List.replicate_append_replicate]
  congr 1
  simp; omega
theorem mac_zeros (k m : List UInt8) (c : Nat) (h : k.length + c ≤ 64) : mac (k ++ List.replicate c 0) m = mac k m := by
  unfold mac; rw [fill_zeros k c h]
end Go.Proofs.YtpocfcenfpdjfaaDoor.Mac
