/- SHA-256 as plain mathematics: nothing of any program but the model's own sums and bits. -/
import Derived.Test.YtpocfcenfpdjfaaDoorRows
import Derived.Test.YtpocfcenfpdjfaaDoorMath1
import Derived.WalkKit
import Derived.ProofKit
import Derived.Below
import Derived.Lib.Hide
import Derived.Laws.BitsAllLaws
namespace Go.Proofs.YtpocfcenfpdjfaaDoor.Sha
open Go.ChangeShapes Go.WideShapes Go.ChangeAt Go.RowKit
set_option linter.unusedVariables false

/-- turned round to the lower end -/
def rr (x n : Int) : Int := bits .or .u32 (x * 2 ^ (32 - n).toNat % 4294967296) (x / 2 ^ n.toNat)
def xo (a b : Int) : Int := bits .xor .u32 a b
def an (a b : Int) : Int := bits .and .u32 a b
def no (a : Int) : Int := bits .xor .u32 4294967295 a
def ad (a b : Int) : Int := (a + b) % 4294967296

/-- the constants -/
def ks : List Int := [0x428a2f98, 0x71374491, 0xb5c0fbcf, 0xe9b5dba5, 0x3956c25b, 0x59f111f1, 0x923f82a4, 0xab1c5ed5,
  0xd807aa98, 0x12835b01, 0x243185be, 0x550c7dc3, 0x72be5d74, 0x80deb1fe, 0x9bdc06a7, 0xc19bf174,
  0xe49b69c1, 0xefbe4786, 0x0fc19dc6, 0x240ca1cc, 0x2de92c6f, 0x4a7484aa, 0x5cb0a9dc, 0x76f988da,
  0x983e5152, 0xa831c66d, 0xb00327c8, 0xbf597fc7, 0xc6e00bf3, 0xd5a79147, 0x06ca6351, 0x14292967,
  0x27b70a85, 0x2e1b2138, 0x4d2c6dfc, 0x53380d13, 0x650a7354, 0x766a0abb, 0x81c2c92e, 0x92722c85,
  0xa2bfe8a1, 0xa81a664b, 0xc24b8b70, 0xc76c51a3, 0xd192e819, 0xd6990624, 0xf40e3585, 0x106aa070,
  0x19a4c116, 0x1e376c08, 0x2748774c, 0x34b0bcb5, 0x391c0cb3, 0x4ed8aa4a, 0x5b9cca4f, 0x682e6ff3,
  0x748f82ee, 0x78a5636f, 0x84c87814, 0x8cc70208, 0x90befffa, 0xa4506ceb, 0xbef9a3f7, 0xc67178f2]

/-- eight numbers -/
structure St where
  a : Int
  b : Int
  c : Int
  d : Int
  e : Int
  f : Int
  g : Int
  h : Int

def St.list (s : St) : List Int := [s.a, s.b, s.c, s.d, s.e, s.f, s.g, s.h]
theorem St.list_length (s : St) : s.list.length = 8 := rfl
def hs : St := ⟨0x6a09e667, 0xbb67ae85, 0x3c6ef372, 0xa54ff53a, 0x510e527f, 0x9b05688c, 0x1f83d9ab, 0x5be0cd19⟩

def sig0 (x : Int) : Int := xo (xo (rr x 7) (rr x 18)) (x / 8)
def sig1 (x : Int) : Int := xo (xo (rr x 17) (rr x 19)) (x / 1024)
def bigE (e : Int) : Int := xo (xo (rr e 6) (rr e 11)) (rr e 25)
def bigA (a : Int) : Int := xo (xo (rr a 2) (rr a 13)) (rr a 22)
def pick (e f g : Int) : Int := xo (an e f) (an (no e) g)
def most (a b c : Int) : Int := xo (xo (an a b) (an a c)) (an b c)

def t1Of (s : St) (k w : Int) : Int := (s.h + bigE s.e + pick s.e s.f s.g + k + w) % 4294967296
def t2Of (s : St) : Int := ad (bigA s.a) (most s.a s.b s.c)
def step (s : St) (k w : Int) : St := ⟨ad (t1Of s k w) (t2Of s), s.a, s.b, s.c, ad s.d (t1Of s k w), s.e, s.f, s.g⟩

/-- i rounds -/
def rounds (w : List Int) (s : St) : Nat → St
  | 0 => s
  | i + 1 => step (rounds w s i) (ks.getD i 0) (w.getD i 0)

/-- the number of a block at place i -/
def word (block : List UInt8) (i : Nat) : Int := (Oct.num ((block.drop (4 * i)).take 4) : Int)

/-- the number behind w -/
def next (block : List UInt8) (w : List Int) : Int :=
  if w.length < 16 then word block w.length
  else (w.getD (w.length - 16) 0 + sig0 (w.getD (w.length - 15) 0) + w.getD (w.length - 7) 0 + sig1 (w.getD (w.length - 2) 0)) % 4294967296

/-- the first i numbers of a block -/
def words (block : List UInt8) : Nat → List Int
  | 0 => []
  | i + 1 => words block i ++ [next block (words block i)]

@[simp] theorem words_length (block : List UInt8) (i : Nat) : (words block i).length = i := by
  induction i with
  | zero => rfl
  | succ i ih => simp [words, ih]

theorem words_get (block : List UInt8) (i n j : Nat) (h : j < i) (hn : i ≤ n) : (words block n).getD j 0 = (words block i).getD j 0 := by
  induction n with
  | zero => omega
  | succ n ih =>
    by_cases e : i = n + 1
    · subst e; rfl
    · have h1 : i ≤ n := by omega
      rw [← ih h1]
      simp only [words, List.getD]
      rw [List.getElem?_append_left (by simp; omega)]

def sumSt (s t : St) : St := ⟨ad s.a t.a, ad s.b t.b, ad s.c t.c, ad s.d t.d, ad s.e t.e, ad s.f t.f, ad s.g t.g, ad s.h t.h⟩

/-- the sums behind one block more -/
def stir (s : St) (block : List UInt8) : St := sumSt s (rounds (words block 64) s 64)

/-- the sums behind n blocks of l -/
def blocks : Nat → St → List UInt8 → St
  | 0, s, _ => s
  | n + 1, s, l => blocks n (stir s (l.take 64)) (l.drop 64)

theorem blocks_add (m n : Nat) (s : St) (l : List UInt8) : blocks (m + n) s l = blocks n (blocks m s l) (l.drop (64 * m)) := by
  induction m generalizing s l with
  | zero => simp [blocks]
  | succ m ih =>
    rw [show m + 1 + n = (m + n) + 1 by omega, blocks, blocks, ih, List.drop_drop]
    congr 2
    omega

theorem blocks_succ (n : Nat) (s : St) (l : List UInt8) : blocks (n + 1) s l = stir (blocks n s l) ((l.drop (64 * n)).take 64) := by
  rw [blocks_add n 1]; rfl

theorem blocks_front (n : Nat) (s : St) (l m : List UInt8) (h : 64 * n ≤ l.length) : blocks n s (l ++ m) = blocks n s l := by
  induction n generalizing s l with
  | zero => rfl
  | succ n ih =>
    rw [blocks, blocks, List.take_append_of_le_length (by omega), List.drop_append_of_le_length (by omega), ih _ _ (by simp; omega)]

/-- what stands behind n bytes up to the end of a block -/
def tail (n : Nat) : List UInt8 := 128 :: (List.replicate (63 - (n + 8) % 64) 0 ++ Oct.be (8 * n) 8)

theorem tail_length (n : Nat) : (n + (tail n).length) % 64 = 0 := by
  simp [tail]; omega

/-- the bytes of the first k of the eight -/
def St.upto (s : St) (k : Nat) : List UInt8 := ((s.list.take k).map (fun x => Oct.be x.toNat 4)).flatten
def St.bytes (s : St) : List UInt8 := s.upto 8

@[simp] theorem St.bytes_length (s : St) : s.bytes.length = 32 := by simp [St.bytes, St.upto, St.list]
theorem St.upto_succ (s : St) (k : Nat) (hk : k < 8) : s.upto (k + 1) = s.upto k ++ Oct.be (s.list.getD k 0).toNat 4 := by
  unfold St.upto
  rw [List.take_add_one, List.map_append, List.flatten_append]
  have : k < s.list.length := hk
  simp [List.getD, List.getElem?_eq_getElem this]
theorem St.upto_length (s : St) (k : Nat) (hk : k ≤ 8) : (s.upto k).length = 4 * k := by
  induction k with
  | zero => rfl
  | succ k ih => rw [s.upto_succ k (by omega), List.length_append, ih (by omega), Oct.be_length]; omega

/-- each of the eight has 32 bits -/
def St.ok (s : St) : Prop := ∀ k, 0 ≤ s.list.getD k 0 ∧ s.list.getD k 0 ≤ 4294967295
theorem St.ok_of (s : St) (ha : 0 ≤ s.a ∧ s.a ≤ 4294967295) (hb : 0 ≤ s.b ∧ s.b ≤ 4294967295) (hc : 0 ≤ s.c ∧ s.c ≤ 4294967295) (hd : 0 ≤ s.d ∧ s.d ≤ 4294967295)
    (he : 0 ≤ s.e ∧ s.e ≤ 4294967295) (hf : 0 ≤ s.f ∧ s.f ≤ 4294967295) (hg : 0 ≤ s.g ∧ s.g ≤ 4294967295) (hh : 0 ≤ s.h ∧ s.h ≤ 4294967295) : s.ok := by
  intro k
  match k with
  | 0 => exact ha
  | 1 => exact hb
  | 2 => exact hc
  | 3 => exact hd
  | 4 => exact he
  | 5 => exact hf
  | 6 => exact hg
  | 7 => exact hh
  | k + 8 => exact ⟨Int.le_refl _, by show (0 : Int) ≤ _; omega⟩
theorem ad_ok (a b : Int) : 0 ≤ ad a b ∧ ad a b ≤ 4294967295 := by unfold ad; omega
theorem sumSt_ok (s t : St) : (sumSt s t).ok := St.ok_of _ (ad_ok _ _) (ad_ok _ _) (ad_ok _ _) (ad_ok _ _) (ad_ok _ _) (ad_ok _ _) (ad_ok _ _) (ad_ok _ _)
theorem hs_ok : hs.ok := St.ok_of _ (by decide) (by decide) (by decide) (by decide) (by decide) (by decide) (by decide) (by decide)
theorem blocks_ok (n : Nat) (s : St) (l : List UInt8) (h : s.ok) : (blocks n s l).ok := by
  induction n generalizing s l with
  | zero => exact h
  | succ n ih => exact ih _ _ (sumSt_ok _ _)

/-- the sum -/
def sum (l : List UInt8) : List UInt8 := (blocks ((l.length + (tail l.length).length) / 64) hs (l ++ tail l.length)).bytes

@[simp] theorem sum_length (l : List UInt8) : (sum l).length = 32 := by simp [sum]
end Go.Proofs.YtpocfcenfpdjfaaDoor.Sha
