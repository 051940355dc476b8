/- Options of several paths: the program's fields, plain. -/
import Derived.Test.YtmkngolkflihlaaMpR2
namespace Go.Proofs.Ytmkngolkflihlaa.Mp
open Go.ChangeShapes Go.WideShapes Go.ChangeAt Go.RowKit
set_option linter.unusedVariables false

/-- a field: a number at a place in so many bytes, or the bytes -/
inductive Fld where
  | num (j z : Nat)
  | txt (s l : Nat)

/-- the fields of a kind, in order -/
def fields (k : Int) : List Fld :=
  if k = 0 then [.num 3 4, .txt 32 32]
  else if k = 1 then [.num 1 1, .num 4 4, .num 5 4]
  else if k = 3 then [.txt 8 16]
  else if k = 4 then [.num 3 6]
  else if k = 5 then [.txt 32 32]
  else if k = 6 then [.num 3 2]
  else if k = 7 ∨ k = 8 then [.num 1 1, .num 3 4]
  else if k = 9 then [.num 1 1, .num 2 1, .num 3 4]
  else if k = 10 then [.num 3 4]
  else if k = 11 then [.num 3 1]
  else []
/-- all fields, of no size -/
def everyF : List Fld := [.num 1 0, .num 2 0, .num 3 0, .num 4 0, .num 5 0, .txt 0 0]

/-- the number at a place -/
def M.get (m : M) : Nat → Int
  | 1 => m.addr
  | 2 => m.prio
  | 3 => m.num
  | 4 => m.token
  | 5 => m.nonce
  | _ => m.kind
def M.set (m : M) (j : Nat) (v : Int) : M :=
  match j with
  | 1 => { m with addr := v }
  | 2 => { m with prio := v }
  | 3 => { m with num := v }
  | 4 => { m with token := v }
  | 5 => { m with nonce := v }
  | _ => { m with kind := v }
def M.setB (m : M) (s : ByteArray) : M := { m with bytes := s }

/-- a field that may be -/
def Fld.ok : Fld → Prop
  | .num j z => 1 ≤ j ∧ j ≤ 5 ∧ z ≤ 6
  | .txt s l => s ≤ l ∧ l ≤ 32
/-- as many bytes as a text has, where so many are there -/
def size1 (s l there : Nat) : Nat := if there < l then s else l
def wrongF (m : M) : Fld → Int
  | .num j z => if m.get j < 0 ∨ (2 : Int) ^ (8 * z) ≤ m.get j then 3 else 0
  | .txt s l => if m.bytes.size = size1 s l m.bytes.size then 0 else 11
def emptyF (m : M) : Fld → M
  | .num j _ => m.set j 0
  | .txt _ _ => m.setB ⟨#[]⟩
def zeroF (m : M) : Fld → Bool
  | .num j _ => decide (m.get j = 0)
  | .txt _ _ => decide (m.bytes.size = 0)
def putF (m : M) : Fld → List UInt8
  | .num j z => Oct.be (m.get j).toNat z
  | .txt _ _ => m.bytes.data.toList
/-- the first that is wrong -/
def wrongs (m : M) : List Fld → Int
  | [] => 0
  | f :: r => if wrongF m f ≠ 0 then wrongF m f else wrongs m r
def empties (m : M) (l : List Fld) : M := l.foldl emptyF m
def zeros (m : M) (l : List Fld) : Bool := l.all (zeroF m)
def puts (m : M) (l : List Fld) : List UInt8 := l.flatMap (putF m)

theorem empties_snoc (m : M) (l : List Fld) (f : Fld) : empties m (l ++ [f]) = emptyF (empties m l) f := by simp [empties]
theorem wrongs_append (m : M) : ∀ (l r : List Fld), wrongs m l = 0 → wrongs m (l ++ r) = wrongs m r
  | [], r, _ => rfl
  | f :: l, r, h => by
    have h0 : wrongF m f = 0 := by
      by_cases e : wrongF m f = 0
      · exact e
      · simp [wrongs, e] at h
    have h1 : wrongs m l = 0 := by simpa [wrongs, h0] using h
    show wrongs m (f :: (l ++ r)) = _
    simp only [wrongs, h0, ne_eq, not_true, if_false]
    exact wrongs_append m l r h1
theorem wrongs_at (m : M) (l : List Fld) (k : Nat) (f : Fld) (hk : l[k]? = some f) (h : wrongs m (l.take k) = 0) (hf : wrongF m f ≠ 0) : wrongs m l = wrongF m f := by
  have e : l = l.take k ++ f :: l.drop (k + 1) := by
    obtain ⟨hl, rfl⟩ := List.getElem?_eq_some_iff.1 hk
    rw [List.getElem_cons_drop, List.take_append_drop]
  rw [e, wrongs_append _ _ _ h]
  simp [wrongs, hf]
theorem wrongs_next (m : M) (l : List Fld) (k : Nat) (f : Fld) (hk : l[k]? = some f) (h : wrongs m (l.take k) = 0) (hf : wrongF m f = 0) : wrongs m (l.take (k + 1)) = 0 := by
  rw [List.take_add_one, hk, wrongs_append _ _ _ h]
  simp [wrongs, hf]
theorem empties_next (m : M) (l : List Fld) (k : Nat) (f : Fld) (hk : l[k]? = some f) : empties m (l.take (k + 1)) = emptyF (empties m (l.take k)) f := by
  rw [List.take_add_one, hk]
  exact empties_snoc _ _ _
theorem puts_next (m : M) (l : List Fld) (k : Nat) (f : Fld) (hk : l[k]? = some f) : puts m (l.take (k + 1)) = puts m (l.take k) ++ putF m f := by
  rw [List.take_add_one, hk]
  simp [puts]

theorem kinds (k : Int) (h : known k = true) : k = 0 ∨ k = 1 ∨ k = 3 ∨ k = 4 ∨ k = 5 ∨ k = 6 ∨ k = 7 ∨ k = 8 ∨ k = 9 ∨ k = 10 ∨ k = 11 := by
  have := known_le h
  omega
theorem fields_none {k : Int} (h : known k = false) : fields k = [] := by
  have h' : ¬ (0 ≤ k ∧ k ≤ 11 ∧ k ≠ 2) := by simpa [known] using h
  unfold fields
  repeat rw [if_neg (by omega)]
theorem fields_some {k : Int} (h : known k = true) : fields k ≠ [] := by
  rcases kinds k h with rfl | rfl | rfl | rfl | rfl | rfl | rfl | rfl | rfl | rfl | rfl <;> simp [fields]
theorem fields_le (k : Int) : (fields k).length ≤ 3 := by
  unfold fields
  repeat' split
  all_goals simp
theorem fields_ok (k : Int) : ∀ f ∈ fields k, f.ok := by
  unfold fields
  repeat' split
  all_goals simp [Fld.ok]
/-- numbers of a kind have one, two, four or six bytes -/
def Fld.real : Fld → Prop
  | .num j z => (1 ≤ j ∧ j ≤ 5) ∧ (z = 1 ∨ z = 2 ∨ z = 4 ∨ z = 6)
  | .txt s l => (s = 32 ∧ l = 32) ∨ (s = 8 ∧ l = 16)
theorem fields_real (k : Int) : ∀ f ∈ fields k, f.real := by
  unfold fields
  repeat' split
  all_goals simp [Fld.real]

/-- what the program's Check finds -/
def pcheck (m : M) : Int := if known m.kind = false then 7 else if wrongs m (fields m.kind) ≠ 0 then wrongs m (fields m.kind) else if zeros (empties m (fields m.kind)) everyF = true then 0 else 4

theorem far_iff (z : Nat) (n : Int) (h : 0 < z) : far z n = true ↔ (n < 0 ∨ (2 : Int) ^ (8 * z) ≤ n) := by simp [far, h]
theorem far_zero (n : Int) : far 0 n = false := by simp [far]
end Go.Proofs.Ytmkngolkflihlaa.Mp
