/- Plain mathematics of numbers as bytes, the highest byte ahead: nothing of any program. -/
import Derived.Laws.Strings
namespace Go.Proofs.Ytmkngolkflihlaa.Oct

/-- the lowest k bytes of n, the highest of them ahead -/
def be (n : Nat) : Nat → List UInt8
  | 0 => []
  | k + 1 => be (n / 256) k ++ [UInt8.ofNat n]

/-- the number that bytes are -/
def num (l : List UInt8) : Nat := l.foldl (fun a b => a * 256 + b.toNat) 0

@[simp] theorem be_length (n k : Nat) : (be n k).length = k := by
  induction k generalizing n with
  | zero => rfl
  | succ k ih => simp [be, ih]

theorem be_cons (n k : Nat) : be n (k + 1) = UInt8.ofNat (n / 256 ^ k) :: be n k := by
  induction k generalizing n with
  | zero => simp [be]
  | succ k ih =>
    rw [be, ih, be]
    simp [Nat.div_div_eq_div_mul, Nat.pow_succ, Nat.mul_comm]

theorem num_nil : num [] = 0 := rfl

theorem num_from (l : List UInt8) (a : Nat) : l.foldl (fun a b => a * 256 + b.toNat) a = a * 256 ^ l.length + num l := by
  induction l generalizing a with
  | nil => simp [num]
  | cons b l ih =>
    simp only [num, List.foldl_cons, List.length_cons]
    rw [ih, ih (0 * 256 + b.toNat)]
    simp [Nat.pow_succ, Nat.add_mul, Nat.mul_assoc, Nat.mul_comm 256, Nat.add_assoc]

theorem num_append (l m : List UInt8) : num (l ++ m) = num l * 256 ^ m.length + num m := by
  rw [num, List.foldl_append, num_from]; rfl

theorem num_snoc (l : List UInt8) (b : UInt8) : num (l ++ [b]) = num l * 256 + b.toNat := by
  rw [num_append]; simp [num]

theorem num_lt (l : List UInt8) : num l < 256 ^ l.length := by
  have h : ∀ (r : List UInt8), num r.reverse < 256 ^ r.length := by
    intro r
    induction r with
    | nil => simp [num]
    | cons b r ih =>
      rw [List.reverse_cons, num_snoc, List.length_cons, Nat.pow_succ]
      have := b.toNat_lt
      omega
  have := h l.reverse
  simpa using this

theorem num_be (n k : Nat) : num (be n k) = n % 256 ^ k := by
  induction k generalizing n with
  | zero => simp [be, num, Nat.mod_one]
  | succ k ih =>
    rw [be, num_snoc, ih, Nat.pow_succ]
    have h1 : (UInt8.ofNat n).toNat = n % 256 := by simp
    rw [h1, Nat.mul_comm (256 ^ k) 256, Nat.mod_mul]
    omega

theorem be_mod (n k : Nat) : be (n % 256 ^ k) k = be n k := by
  induction k generalizing n with
  | zero => rfl
  | succ k ih =>
    rw [be, be]
    have h1 : n % 256 ^ (k + 1) / 256 = (n / 256) % 256 ^ k := by
      rw [Nat.pow_succ, Nat.mul_comm, Nat.mod_mul_right_div_self]
    have h2 : UInt8.ofNat (n % 256 ^ (k + 1)) = UInt8.ofNat n := by
      apply UInt8.toNat_inj.1
      simp only [UInt8.toNat_ofNat']
      rw [Nat.pow_succ]
      exact Nat.mod_mul_left_mod n (256 ^ k) 256
    rw [h1, h2, ih]

/-- only the lowest 64 bits matter for up to eight bytes -/
theorem be_mod64 (n k : Nat) (h : k ≤ 8) : be (n % 18446744073709551616) k = be n k := by
  rw [← be_mod (n % 18446744073709551616) k, ← be_mod n k]
  congr 1
  have : (18446744073709551616 : Nat) = 256 ^ k * 256 ^ (8 - k) := by
    rw [← Nat.pow_add, show k + (8 - k) = 8 by omega]
  rw [this, Nat.mod_mul_right_mod]

theorem be_num (l : List UInt8) : be (num l) l.length = l := by
  have h : ∀ (r : List UInt8), be (num r.reverse) r.length = r.reverse := by
    intro r
    induction r with
    | nil => rfl
    | cons b r ih =>
      rw [List.reverse_cons, num_snoc, List.length_cons, be]
      have hb := b.toNat_lt
      rw [show (num r.reverse * 256 + b.toNat) / 256 = num r.reverse by omega, ih]
      congr 2
      apply UInt8.toNat_inj.1
      simp only [UInt8.toNat_ofNat']
      omega
  have := h l.reverse
  simpa using this

theorem num_inj {l m : List UInt8} (h : l.length = m.length) (e : num l = num m) : l = m := by
  rw [← be_num l, ← be_num m, h, e]

theorem be_inj {a b k : Nat} (ha : a < 256 ^ k) (hb : b < 256 ^ k) : be a k = be b k ↔ a = b := by
  constructor
  · intro h
    have := congrArg num h
    rwa [num_be, num_be, Nat.mod_eq_of_lt ha, Nat.mod_eq_of_lt hb] at this
  · rintro rfl; rfl

theorem be_add (n k j : Nat) : be n (k + j) = be (n / 256 ^ j) k ++ be n j := by
  induction j generalizing n with
  | zero => simp [be]
  | succ j ih =>
    rw [← Nat.add_assoc, be, ih, be]
    simp [Nat.div_div_eq_div_mul, Nat.pow_succ, Nat.mul_comm]

theorem be_zero (k : Nat) : be 0 k = List.replicate k 0 := by
  induction k with
  | zero => rfl
  | succ k ih => rw [be, Nat.zero_div, ih, List.replicate_succ']; rfl

/-- the last eight bytes, as a number: what all of them are, modulo 2^64 -/
theorem num_last (l : List UInt8) : num (l.drop (l.length - 8)) = num l % 18446744073709551616 := by
  by_cases h : l.length ≤ 8
  · rw [show l.length - 8 = 0 by omega, List.drop_zero]
    have h1 := num_lt l
    have h2 : 256 ^ l.length ≤ 256 ^ 8 := Nat.pow_le_pow_right (by omega) h
    rw [Nat.mod_eq_of_lt (by have : (256 : Nat) ^ 8 = 18446744073709551616 := by decide
                             omega)]
  · have h8 : (l.drop (l.length - 8)).length = 8 := by simp; omega
    have h1 := num_lt (l.drop (l.length - 8))
    rw [h8] at h1
    conv => rhs; rw [← List.take_append_drop (l.length - 8) l, num_append, h8]
    rw [show (256 : Nat) ^ 8 = 18446744073709551616 by decide] at *
    rw [Nat.add_comm, Nat.add_mul_mod_self_right, Nat.mod_eq_of_lt h1]

/-- a number of any kind, as one of 64 bits -/
def nat64 (n : Int) : Nat := (n % 18446744073709551616).toNat

theorem u64_lt (n : Int) : nat64 n < 18446744073709551616 := by
  unfold nat64
  have := Int.emod_lt_of_pos n (show (0 : Int) < 18446744073709551616 by omega)
  have := Int.emod_nonneg n (show (18446744073709551616 : Int) ≠ 0 by omega)
  omega

theorem u64_cast (n : Int) : (nat64 n : Int) = n % 18446744073709551616 := by
  unfold nat64
  have := Int.emod_nonneg n (show (18446744073709551616 : Int) ≠ 0 by omega)
  omega

theorem u64_nat (n : Nat) (h : n < 18446744073709551616) : nat64 (n : Int) = n := by
  unfold nat64; omega

/-- a size, held from 0 to 8 -/
def held (n : Int) : Nat := (min (max n 0) 8).toNat
theorem held_le (n : Int) : held n ≤ 8 := by unfold held; omega
theorem held_mid (n : Int) (h0 : 0 ≤ n) (h8 : n ≤ 8) : held n = n.toNat := by unfold held; omega

/-- the number that the last eight of some bytes are -/
def whole (s : ByteArray) : Nat := num s.data.toList % 18446744073709551616

theorem whole_lt (s : ByteArray) : whole s < 18446744073709551616 := Nat.mod_lt _ (by omega)

/-- the number that the first k bytes are, modulo 2^64 -/
def ofTo (s : ByteArray) (k : Nat) : Nat := num (s.data.toList.take k) % 18446744073709551616

theorem ofTo_lt (s : ByteArray) (k : Nat) : ofTo s k < 18446744073709551616 := Nat.mod_lt _ (by omega)

theorem ofTo_succ (s : ByteArray) (k : Nat) (h : k < s.size) : ofTo s (k + 1) = (256 * ofTo s k + s[k].toNat) % 18446744073709551616 := by
  unfold ofTo
  have : s.data.toList.take (k + 1) = s.data.toList.take k ++ [s[k]] := by
    rw [List.take_succ_eq_append_getElem (by simpa using h)]; rfl
  rw [this, num_snoc]
  omega

theorem ofTo_all (s : ByteArray) (k : Nat) (h : s.size ≤ k) : ofTo s k = whole s := by
  unfold ofTo whole
  rw [List.take_of_length_le (by simpa using h)]

theorem extract_size (s : ByteArray) : (s.extract ((s.size : Int) - 8).toNat s.size).size ≤ 8 := by
  simp; omega

theorem whole_extract (s : ByteArray) : whole (s.extract ((s.size : Int) - 8).toNat s.size) = whole s := by
  unfold whole
  have h1 : (s.extract ((s.size : Int) - 8).toNat s.size).data.toList = s.data.toList.drop (s.data.toList.length - 8) := by
    simp [ByteArray.data_extract]
    rw [show ((s.size : Int) - 8).toNat = s.size - 8 by omega]
    rw [List.take_of_length_le (by simp)]
  rw [h1, num_last, Nat.mod_mod]

theorem size_list (s : ByteArray) : s.data.toList.length = s.size := Array.length_toList

theorem not_empty (s : ByteArray) (h : s.size ≠ 0) : s.toList.isEmpty = false := by
  rw [ByteArray.toList_eq, List.isEmpty_eq_false_iff]
  intro e
  have := size_list s
  rw [e] at this
  exact h this.symm

theorem is_empty (s : ByteArray) (h : s.size = 0) : s.toList.isEmpty = true := by
  rw [ByteArray.toList_eq, List.isEmpty_iff]
  exact List.eq_nil_of_length_eq_zero ((size_list s).trans h)

end Go.Proofs.Ytmkngolkflihlaa.Oct
