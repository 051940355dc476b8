/- Options of several paths: plain. -/
import Derived.Test.YtmkngolkflihlaaRows
import Derived.WalkKit
import Derived.ProofKit
import Derived.Below
import Derived.Lib.Hide
namespace Go.Proofs.Ytmkngolkflihlaa.Mp
open Go.ChangeShapes Go.WideShapes Go.ChangeAt Go.RowKit
set_option linter.unusedVariables false

/-- what such an option says -/
structure M where
  kind : Int
  addr : Int
  prio : Int
  token : Int
  nonce : Int
  num : Int
  bytes : ByteArray

/-- is there such a kind? -/
def known (k : Int) : Bool := decide (0 ≤ k ∧ k ≤ 11 ∧ k ≠ 2)
/-- how many bytes each field of a kind has -/
def za (k : Int) : Nat := if k = 1 ∨ k = 7 ∨ k = 8 ∨ k = 9 then 1 else 0
def zp (k : Int) : Nat := if k = 9 then 1 else 0
def zt (k : Int) : Nat := if k = 1 then 4 else 0
def zn (k : Int) : Nat := if k = 0 ∨ k = 7 ∨ k = 8 ∨ k = 9 ∨ k = 10 then 4 else if k = 4 then 6 else if k = 6 then 2 else if k = 11 then 1 else 0
/-- the least and the most Bytes -/
def lo (k : Int) : Nat := if k = 0 ∨ k = 5 then 32 else if k = 3 then 8 else 0
def hi (k : Int) : Nat := if k = 0 ∨ k = 5 then 32 else if k = 3 then 16 else 0
/-- of the fields in their order -/
def zs (k : Int) : Nat → Nat
  | 0 => za k
  | 1 => zp k
  | 2 => zt k
  | 3 => zt k
  | 4 => zn k
  | _ => 0
/-- a number has no room in so many bytes -/
def far (z : Nat) (n : Int) : Bool := decide (0 < z ∧ (n < 0 ∨ (2 : Int) ^ (8 * z) ≤ n))
/-- a number is there that has no field -/
def vain (z : Nat) (n : Int) : Bool := decide (z = 0 ∧ n ≠ 0)
def farAny (m : M) : Bool := far (za m.kind) m.addr || far (zp m.kind) m.prio || far (zt m.kind) m.token || far (zt m.kind) m.nonce || far (zn m.kind) m.num
def vainAny (m : M) : Bool := vain (za m.kind) m.addr || vain (zp m.kind) m.prio || vain (zt m.kind) m.token || vain (zt m.kind) m.nonce || vain (zn m.kind) m.num
/-- what is wrong -/
def check (m : M) : Int :=
  if known m.kind = false then 7
  else if farAny m = true then 3
  else if 0 < hi m.kind ∧ m.bytes.size ≠ lo m.kind ∧ m.bytes.size ≠ hi m.kind then 11
  else if vainAny m = true then 4
  else if hi m.kind = 0 ∧ m.bytes.size ≠ 0 then 4
  else 0

theorem known_le {k : Int} (h : known k = true) : 0 ≤ k ∧ k ≤ 11 ∧ k ≠ 2 := of_decide_eq_true h
theorem za_le (k : Int) : za k ≤ 1 := by unfold za; split <;> omega
theorem zp_le (k : Int) : zp k ≤ 1 := by unfold zp; split <;> omega
theorem zt_le (k : Int) : zt k ≤ 4 := by unfold zt; split <;> omega
theorem zn_le (k : Int) : zn k ≤ 6 := by unfold zn; repeat' split
                                         all_goals omega
theorem lo_le (k : Int) : lo k ≤ 32 := by unfold lo; repeat' split
                                          all_goals omega
theorem hi_le (k : Int) : hi k ≤ 32 := by unfold hi; repeat' split
                                          all_goals omega
theorem lo_hi (k : Int) : lo k ≤ hi k := by
  unfold lo hi
  repeat' split
  all_goals omega
theorem zs_le (k : Int) (i : Nat) : zs k i ≤ 6 := by
  have := za_le k
  have := zp_le k
  have := zt_le k
  have := zn_le k
  unfold zs
  split <;> omega
/-- as one value -/
def zv (k : Int) : Value := .agg #[.int .i64 (za k : Nat), .int .i64 (zp k : Nat), .int .i64 (zt k : Nat), .int .i64 (zt k : Nat), .int .i64 (zn k : Nat), .int .i64 (lo k : Nat), .int .i64 (hi k : Nat)]
end Go.Proofs.Ytmkngolkflihlaa.Mp
