/- Plain: what the chapter says of beginnings, nothing of any program. -/
import Derived.Test.YtkjojfcknfhkhaaMath1
import Derived.Lib.Hide
namespace Go.Proofs.Ytkjojfcknfhkhaa.Head
open Go.Proofs.Ytkjojfcknfhkhaa.Oct (be num be_length num_be num_lt be_num be_add be_mod be_cons num_append nat64 u64_nat u64_lt size_list whole held)
set_option linter.unusedVariables false

/-- what kinds bear -/
def knownK (k : Int) : Bool := decide (0 ≤ k) && decide (k ≤ 9)
def shortK (k : Int) : Bool := decide (k = 2) || (decide (k = 3) || decide (k = 4))
def acks (k : Int) : Bool := decide (k = 1) || (decide (3 ≤ k) && decide (k ≤ 9))
def own (k : Int) : Bool := decide (k = 0) || (decide (k = 1) || decide (k = 7))
def bears (k : Int) : Bool := decide (k = 0) || (decide (k = 1) || (decide (k = 2) || decide (k = 4)))

/-- how many bytes a kind's packets have ahead of their options -/
def plainSize (k : Int) (l : Bool) : Int :=
  (if l then 16 else 12) + (if acks k then (if l then 8 else 4) else 0) + (if own k then 4 else 0)
def may (k : Int) (l : Bool) : Bool := knownK k && (l || shortK k)
def sizeOf (k : Int) (l : Bool) : Int := if may k l then plainSize k l else 0

theorem plainSize_mid (k : Int) (l : Bool) : 12 ≤ plainSize k l ∧ plainSize k l ≤ 28 := by
  unfold plainSize; cases l <;> cases acks k <;> cases own k <;> decide
theorem sizeOf_mid (k : Int) (l : Bool) : 0 ≤ sizeOf k l ∧ sizeOf k l ≤ 28 := by
  have := plainSize_mid k l
  unfold sizeOf; split <;> omega
theorem sizeOf_zero (k : Int) (l : Bool) : sizeOf k l = 0 ↔ may k l = false := by
  have := plainSize_mid k l
  unfold sizeOf; cases may k l
  · simp
  · simp; omega

/-- a beginning -/
structure B where
  src : Int
  dst : Int
  words : Int
  cc : Int
  cover : Int
  sum : Int
  kind : Int
  long : Bool
  seq : Int

def B.none : B := ⟨0, 0, 0, 0, 0, 0, 0, false, 0⟩

def fits (n most : Int) : Bool := decide (0 ≤ n) && decide (n ≤ most)
def seqMost (l : Bool) : Int := if l then 281474976710655 else 16777215
def inRange (h : B) : Bool :=
  fits h.src 65535 && fits h.dst 65535 && fits h.sum 65535 && fits h.cc 15 && fits h.cover 15 && fits h.seq (seqMost h.long) && fits h.words 255

theorem fits_iff (n m : Int) : fits n m = true ↔ 0 ≤ n ∧ n ≤ m := by unfold fits; simp

structure Ranged (h : B) : Prop where
  src : 0 ≤ h.src ∧ h.src ≤ 65535
  dst : 0 ≤ h.dst ∧ h.dst ≤ 65535
  sum : 0 ≤ h.sum ∧ h.sum ≤ 65535
  cc : 0 ≤ h.cc ∧ h.cc ≤ 15
  cover : 0 ≤ h.cover ∧ h.cover ≤ 15
  seq : 0 ≤ h.seq ∧ h.seq ≤ seqMost h.long
  words : 0 ≤ h.words ∧ h.words ≤ 255

theorem inRange_iff (h : B) : inRange h = true ↔ Ranged h := by
  unfold inRange
  simp only [Bool.and_eq_true, fits_iff]
  exact ⟨fun ⟨⟨⟨⟨⟨⟨a, b⟩, c⟩, d⟩, e⟩, f⟩, g⟩ => ⟨a, b, c, d, e, f, g⟩, fun h => ⟨⟨⟨⟨⟨⟨h.src, h.dst⟩, h.sum⟩, h.cc⟩, h.cover⟩, h.seq⟩, h.words⟩⟩

/-- what is wrong with a beginning -/
def check (h : B) : Int :=
  if knownK h.kind = false then 7
  else if may h.kind h.long = false then 4
  else if inRange h = false then 3
  else if 4 * h.words < sizeOf h.kind h.long then 1
  else 0

structure Good (h : B) : Prop where
  known : 0 ≤ h.kind ∧ h.kind ≤ 9
  may : may h.kind h.long = true
  range : Ranged h
  words : sizeOf h.kind h.long ≤ 4 * h.words

theorem check_ok (h : B) : check h = 0 ↔ Good h := by
  unfold check
  constructor
  · intro e
    cases hk : knownK h.kind
    · rw [if_pos hk] at e; simp at e
    rw [if_neg (by simp [hk])] at e
    cases hm : may h.kind h.long
    · rw [if_pos hm] at e; simp at e
    rw [if_neg (by simp [hm])] at e
    cases hr : inRange h
    · rw [if_pos hr] at e; simp at e
    rw [if_neg (by simp [hr])] at e
    by_cases hw : 4 * h.words < sizeOf h.kind h.long
    · rw [if_pos hw] at e; simp at e
    · exact ⟨by simpa [knownK] using hk, hm, (inRange_iff h).1 hr, by omega⟩
  · intro g
    rw [if_neg (by simp [knownK, g.known]), if_neg (by simp [g.may]), if_neg (by simp [(inRange_iff h).2 g.range]), if_neg (by have := g.words; omega)]

theorem check_few (h : B) : 0 ≤ check h ∧ check h ≤ 7 := by
  unfold check; split; · omega
  split; · omega
  split; · omega
  split <;> omega

theorem check_none : check B.none = 4 := by decide

/-- as bytes -/
def lead (h : B) : List UInt8 :=
  be (nat64 h.src) 2 ++ (be (nat64 h.dst) 2 ++ (be (nat64 h.words) 1 ++ (be (nat64 (16 * h.cc + h.cover)) 1 ++ be (nat64 h.sum) 2)))
def tail (h : B) : List UInt8 :=
  if h.long then be (nat64 (2 * h.kind + 1)) 1 ++ (be 0 1 ++ be (nat64 h.seq) 6) else be (nat64 (2 * h.kind)) 1 ++ be (nat64 h.seq) 3
def put (h : B) : List UInt8 := lead h ++ tail h
def nOf (l : Bool) : Nat := if l then 16 else 12

theorem lead_length (h : B) : (lead h).length = 8 := by unfold lead; simp
theorem put_length (h : B) : (put h).length = nOf h.long := by
  unfold put tail nOf; rw [List.length_append, lead_length]; cases h.long <;> simp

/-- the number that so many bytes from a place on are -/
def fld (s : ByteArray) (a n : Nat) : Nat := num ((s.data.toList.drop a).take n)
theorem fld_lt (s : ByteArray) (a n : Nat) : fld s a n < 256 ^ n := by
  have h1 := num_lt ((s.data.toList.drop a).take n)
  have h2 : ((s.data.toList.drop a).take n).length ≤ n := by rw [List.length_take]; omega
  have h3 : 256 ^ ((s.data.toList.drop a).take n).length ≤ 256 ^ n := Nat.pow_le_pow_right (by omega) h2
  unfold fld; omega

/-- the beginning that bytes are, if they are one -/
def parse (s : ByteArray) : B where
  src := fld s 0 2
  dst := fld s 2 2
  words := fld s 4 1
  cc := (fld s 5 1 / 16 : Nat)
  cover := (fld s 5 1 % 16 : Nat)
  sum := fld s 6 2
  kind := (fld s 8 1 / 2 : Nat)
  long := fld s 8 1 % 2 == 1
  seq := if fld s 8 1 % 2 == 1 then fld s 10 6 else fld s 9 3

def isLong (s : ByteArray) : Bool := fld s 8 1 % 2 == 1
def short (s : ByteArray) : Prop := s.size < 12 ∨ (isLong s = true ∧ s.size < 16)
instance (s : ByteArray) : Decidable (short s) := by unfold short; infer_instance
def kept (s : ByteArray) : Bool := decide (32 ≤ fld s 8 1) || (isLong s && decide (fld s 9 1 ≠ 0))

def get (s : ByteArray) : B × ByteArray × Int :=
  if short s then (B.none, ⟨#[]⟩, 1)
  else if kept s = true then (B.none, ⟨#[]⟩, 4)
  else if check (parse s) ≠ 0 then (B.none, ⟨#[]⟩, check (parse s))
  else (parse s, s.extract (nOf (isLong s)) s.size, 0)

end Go.Proofs.Ytkjojfcknfhkhaa.Head
