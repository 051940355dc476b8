/- What an option of several paths says: plain. -/
import Derived.Test.YtmkngolkflihlaaMpPut
import Derived.Test.YtmkngolkflihlaaOpt0
namespace Go.Proofs.Ytmkngolkflihlaa.Mp
open Go.ChangeShapes Go.WideShapes Go.ChangeAt Go.RowKit
set_option linter.unusedVariables false

/-- what is read, what is left of the bytes, and what fell -/
structure Rd where
  m : M
  left : ByteArray
  fail : Int
def readF (x : Rd) : Fld → Rd
  | .num j z => ⟨x.m.set j (wrap64 (Oct.whole (Oct.gotOf x.left (Oct.fell1 x.fail z) z))), Oct.stayOf x.left (Oct.fell1 x.fail z) z, Oct.fellOf x.left (Oct.fell1 x.fail z) z⟩
  | .txt s l => ⟨x.m.setB (Oct.gotOf x.left x.fail (size1 s l x.left.size : Nat)), Oct.stayOf x.left x.fail (size1 s l x.left.size : Nat), Oct.fellOf x.left x.fail (size1 s l x.left.size : Nat)⟩
def reads (x : Rd) (l : List Fld) : Rd := l.foldl readF x
theorem reads_next (x : Rd) (l : List Fld) (k : Nat) (f : Fld) (hk : l[k]? = some f) : reads x (l.take (k + 1)) = readF (reads x (l.take k)) f := by
  rw [List.take_add_one, hk]
  simp [reads]
theorem readF_size (x : Rd) (f : Fld) : (readF x f).left.size ≤ x.left.size := by
  cases f <;> exact Oct.stay_size _ _ _
theorem reads_size (x : Rd) : ∀ (l : List Fld), (reads x l).left.size ≤ x.left.size := by
  intro l
  induction l generalizing x with
  | nil => exact Nat.le_refl _
  | cons f r ih => exact Nat.le_trans (ih (readF x f)) (readF_size x f)

def M.zero : M := ⟨0, 0, 0, 0, 0, 0, ⟨#[]⟩⟩
/-- the first byte -/
def kindOf (s : ByteArray) : Int := ((s.data.toList.headD 0).toNat : Nat)
def begun (s : ByteArray) : Rd := ⟨{ M.zero with kind := kindOf s }, s.extract 1 s.size, 0⟩
/-- what the bytes say -/
def said (s : ByteArray) : Rd := reads (begun s) (fields (kindOf s))
def get (o : Opt.O) : M × Int :=
  if o.kind ≠ 46 then (M.zero, 7)
  else if o.value.size = 0 then (M.zero, 1)
  else if known (kindOf o.value) = false then (M.zero, 7)
  else if Oct.doneOf (said o.value).left (said o.value).fail ≠ 0 then (M.zero, Oct.doneOf (said o.value).left (said o.value).fail)
  else ((said o.value).m, 0)
def getV (o : Opt.O) : Value := .tuple #[vOf (get o).1, .int .i64 (get o).2]

theorem kind_first (s : ByteArray) (h : s.size ≠ 0) : wrap64 (Oct.whole (Oct.gotOf s (Oct.fell1 0 1) 1)) = kindOf s ∧ Oct.stayOf s (Oct.fell1 0 1) 1 = s.extract 1 s.size ∧ Oct.fellOf s (Oct.fell1 0 1) 1 = 0 := by
  have e1 : Oct.fell1 0 1 = 0 := by decide
  have e2 : Oct.fellOf s 0 1 = 0 := by unfold Oct.fellOf; rw [if_neg (by simp), if_neg (by omega), if_neg (by omega)]
  rw [e1]
  refine ⟨?_, by unfold Oct.stayOf; rw [if_pos e2]; rfl, e2⟩
  have e3 : Oct.gotOf s 0 1 = s.extract 0 1 := by unfold Oct.gotOf; rw [if_pos e2]; rfl
  rw [e3]
  have e4 : (s.extract 0 1).data.toList = [s.data.toList.headD 0] := by
    rw [Oct.extract_list]
    have : s.data.toList ≠ [] := fun e => h (by have := congrArg List.length e; rwa [Array.length_toList] at this)
    obtain ⟨b, r, hb⟩ := List.exists_cons_of_ne_nil this
    rw [hb]; simp
  unfold Oct.whole
  rw [e4]
  have e5 : Oct.num [s.data.toList.headD 0] = (s.data.toList.headD 0).toNat := by simp [Oct.num]
  rw [e5]
  have := (s.data.toList.headD 0).toNat_lt
  unfold kindOf wrap64
  omega
theorem kindOf_lt (s : ByteArray) : 0 ≤ kindOf s ∧ kindOf s < 256 := by
  have := (s.data.toList.headD 0).toNat_lt
  unfold kindOf; omega

theorem get_off {o : Opt.O} (h : o.kind ≠ 46) : get o = (M.zero, 7) := if_pos h
theorem get_empty {o : Opt.O} (h : o.kind = 46) (h1 : o.value.size = 0) : get o = (M.zero, 1) := by unfold get; rw [if_neg (by simp [h]), if_pos h1]
theorem get_none {o : Opt.O} (h : o.kind = 46) (h1 : o.value.size ≠ 0) (h2 : known (kindOf o.value) = false) : get o = (M.zero, 7) := by
  unfold get; rw [if_neg (by simp [h]), if_neg h1, if_pos h2]
theorem get_bad {o : Opt.O} (h : o.kind = 46) (h1 : o.value.size ≠ 0) (h2 : known (kindOf o.value) = true) (h3 : Oct.doneOf (said o.value).left (said o.value).fail ≠ 0) : get o = (M.zero, Oct.doneOf (said o.value).left (said o.value).fail) := by
  unfold get; rw [if_neg (by simp [h]), if_neg h1, if_neg (by simp [h2]), if_pos h3]
theorem get_good {o : Opt.O} (h : o.kind = 46) (h1 : o.value.size ≠ 0) (h2 : known (kindOf o.value) = true) (h3 : Oct.doneOf (said o.value).left (said o.value).fail = 0) : get o = ((said o.value).m, 0) := by
  unfold get; rw [if_neg (by simp [h]), if_neg h1, if_neg (by simp [h2]), if_neg (by simp [h3])]

theorem readN (b j z cb : Nat) (x : Rd) (hf : (Fld.num j z).real) (w : World) (h : RowM w b x.m) (hl : x.left.size ≤ 4000) (hc : Oct.CutAt w cb x.left x.fail) (hne : b ≠ cb) :
    Calls Try.prog 64 #[nv b j z, .pointer (some ⟨cb, 0, none⟩)] w (RdEnd b cb (readF x (.num j z)).m (readF x (.num j z)).left (readF x (.num j z)).fail w) :=
  nread_any b j z cb x.m x.left x.fail hf.1.2 (by have := hf.2; omega) w h hl hc hne
theorem readX (b s q cb : Nat) (x : Rd) (hf : (Fld.txt s q).real) (w : World) (h : RowM w b x.m) (hl : x.left.size ≤ 4000) (hc : Oct.CutAt w cb x.left x.fail) (hne : b ≠ cb) :
    Calls Try.prog 68 #[xv b s q, .pointer (some ⟨cb, 0, none⟩)] w (RdEnd b cb (readF x (.txt s q)).m (readF x (.txt s q)).left (readF x (.txt s q)).fail w) :=
  tread_any b s q cb x.m x.left x.fail (by unfold Fld.real at hf; omega) (by unfold Fld.real at hf; omega) w h hl hc hne
end Go.Proofs.Ytmkngolkflihlaa.Mp
