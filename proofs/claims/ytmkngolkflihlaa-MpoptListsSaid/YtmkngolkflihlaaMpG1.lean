/- What is put is got: plain. -/
import Derived.Test.YtmkngolkflihlaaMpG0
namespace Go.Proofs.Ytmkngolkflihlaa.Mp
open Go.ChangeShapes Go.WideShapes Go.ChangeAt Go.RowKit
set_option linter.unusedVariables false

theorem read_num (x : M) (j z : Nat) (v : Int) (rest : List UInt8) (hz : z = 1 ∨ z = 2 ∨ z = 4 ∨ z = 6) (h0 : 0 ≤ v) (h1 : v < (2 : Int) ^ (8 * z)) :
    readF ⟨x, ⟨(Oct.be v.toNat z ++ rest).toArray⟩, 0⟩ (.num j z) = ⟨x.set j v, ⟨rest.toArray⟩, 0⟩ := by
  have e1 : Oct.fell1 0 z = 0 := by unfold Oct.fell1; rw [if_neg (by simp), if_neg (by omega)]
  have hl : (Oct.be v.toNat z).length = z := by simp
  have e2 : Oct.fellOf ⟨(Oct.be v.toNat z ++ rest).toArray⟩ 0 z = 0 := by
    unfold Oct.fellOf
    rw [if_neg (by simp), if_neg (by omega), if_neg (by show ¬ (((Oct.be v.toNat z ++ rest).toArray.size : Nat) : Int) < _; simp; omega)]
  have e3 : Oct.gotOf ⟨(Oct.be v.toNat z ++ rest).toArray⟩ 0 z = ⟨(Oct.be v.toNat z).toArray⟩ := by
    unfold Oct.gotOf; rw [if_pos e2]
    apply Oct.ext_list
    rw [Oct.extract_list]
    simp [hl]
  have e4 : Oct.stayOf ⟨(Oct.be v.toNat z ++ rest).toArray⟩ 0 z = ⟨rest.toArray⟩ := by
    unfold Oct.stayOf; rw [if_pos e2]
    apply Oct.ext_list
    rw [Oct.extract_list]
    simp [ByteArray.size, hl]
  unfold readF
  simp only [e1, e2, e3, e4]
  have e5 : Oct.whole ⟨(Oct.be v.toNat z).toArray⟩ = v.toNat := by
    unfold Oct.whole
    rw [show (⟨(Oct.be v.toNat z).toArray⟩ : ByteArray).data.toList = Oct.be v.toNat z from rfl, Oct.num_be]
    rcases hz with rfl | rfl | rfl | rfl <;> simp at h1 ⊢ <;> omega
  rw [e5]
  have e6 : wrap64 ((v.toNat : Nat) : Int) = v := by
    unfold wrap64
    rcases hz with rfl | rfl | rfl | rfl <;> simp at h1 <;> omega
  rw [e6]
theorem read_txt (x : M) (s q : Nat) (y : ByteArray) (h : y.size = size1 s q y.size) :
    readF ⟨x, y, 0⟩ (.txt s q) = ⟨x.setB y, ⟨#[]⟩, 0⟩ := by
  have e2 : Oct.fellOf y 0 (size1 s q y.size : Nat) = 0 := by unfold Oct.fellOf; rw [if_neg (by simp), if_neg (by omega), if_neg (by omega)]
  have e3 : Oct.gotOf y 0 (size1 s q y.size : Nat) = y := by
    unfold Oct.gotOf; rw [if_pos e2, ← h]
    apply Oct.ext_list
    rw [Oct.extract_list, List.drop_zero, Nat.sub_zero, Int.toNat_natCast]
    exact List.take_of_length_le (by rw [Oct.size_list]; exact Nat.le_refl _)
  have e4 : Oct.stayOf y 0 (size1 s q y.size : Nat) = ⟨#[]⟩ := by
    unfold Oct.stayOf; rw [if_pos e2, ← h]
    apply Oct.ext_list
    rw [Oct.extract_list]
    simp
  unfold readF
  simp only [e2, e3, e4]

theorem wrongN_in {m : M} {j z : Nat} (h : wrongF m (.num j z) = 0) : 0 ≤ m.get j ∧ m.get j < (2 : Int) ^ (8 * z) := by
  have h1 : ¬ (m.get j < 0 ∨ (2 : Int) ^ (8 * z) ≤ m.get j) := by
    intro e
    simp [wrongF, e] at h
  omega
theorem wrongX_in {m : M} {s q : Nat} (h : wrongF m (.txt s q) = 0) : m.bytes.size = size1 s q m.bytes.size := by
  by_cases e : m.bytes.size = size1 s q m.bytes.size
  · exact e
  · simp [wrongF, e] at h
theorem check_zeros {m : M} (h : check m = 0) : zeros (empties m (fields m.kind)) everyF = true := by
  have hk := check_known h
  rw [← pcheck_eq] at h
  unfold pcheck at h
  rw [if_neg (by simp [hk])] at h
  split at h
  · rename_i e; exact absurd h e
  · split at h
    · assumption
    · simp at h
theorem bytes_mk (y : ByteArray) : (⟨y.data.toList.toArray⟩ : ByteArray) = y := rfl

/-- bytes stand last -/
def lastTxt : List Fld → Prop
  | [] => True
  | .num _ _ :: r => lastTxt r
  | .txt _ _ :: r => r = []
/-- the fields of another one -/
def fillF (m x : M) : Fld → M
  | .num j _ => x.set j (m.get j)
  | .txt _ _ => x.setB m.bytes
def fill (m x : M) (l : List Fld) : M := l.foldl (fillF m) x
theorem reads_fill (m : M) : ∀ (l : List Fld) (x : M), lastTxt l → (∀ f ∈ l, f.real) → (∀ f ∈ l, wrongF m f = 0) → reads ⟨x, ⟨(puts m l).toArray⟩, 0⟩ l = ⟨fill m x l, ⟨#[]⟩, 0⟩
  | [], x, _, _, _ => rfl
  | .num j z :: r, x, hl, hr, hw => by
    have h1 := hw (.num j z) (by simp)
    have e : puts m (.num j z :: r) = Oct.be (m.get j).toNat z ++ puts m r := by simp [puts, putF]
    show reads (readF _ (.num j z)) r = _
    rw [e, read_num x j z (m.get j) _ (hr (.num j z) (by simp)).2 (wrongN_in h1).1 (wrongN_in h1).2]
    exact reads_fill m r _ hl (fun f hf => hr f (by simp [hf])) (fun f hf => hw f (by simp [hf]))
  | .txt s q :: r, x, hl, hr, hw => by
    obtain rfl : r = [] := hl
    have h1 := hw (.txt s q) (by simp)
    have e : (⟨(puts m [.txt s q]).toArray⟩ : ByteArray) = m.bytes := by simp [puts, putF]
    show readF _ (.txt s q) = _
    rw [e]
    exact read_txt x s q m.bytes (wrongX_in h1)
theorem fields_last (k : Int) : lastTxt (fields k) := by
  unfold fields
  repeat' split
  all_goals simp [lastTxt]
theorem fill_all (m : M) (hk : known m.kind = true) (hz : zeros (empties m (fields m.kind)) everyF = true) : fill m { M.zero with kind := m.kind } (fields m.kind) = m := by
  obtain ⟨k, a, p, t, n, q, y⟩ := m
  dsimp only at hk hz ⊢
  rcases kinds k hk with rfl | rfl | rfl | rfl | rfl | rfl | rfl | rfl | rfl | rfl | rfl
  all_goals
    simp [fields, fill, fillF, M.zero, M.set, M.get, M.setB, zeros, everyF, zeroF, empties, emptyF] at hz ⊢
    try simp only [hz, true_and, and_true]
  all_goals rfl

/-- what is read of what was put -/
theorem reads_puts (m : M) (h : check m = 0) : reads ⟨{ M.zero with kind := m.kind }, ⟨(puts m (fields m.kind)).toArray⟩, 0⟩ (fields m.kind) = ⟨m, ⟨#[]⟩, 0⟩ := by
  rw [reads_fill m (fields m.kind) _ (fields_last _) (fields_real _) (check_wrongs h), fill_all m (check_known h) (check_zeros h)]

theorem get_put (m : M) (h : check m = 0) : get ⟨46, putOf m⟩ = (m, 0) := by
  have hk := kind_ok m h
  have e := putOf_eq m h
  have e0 : (Oct.be m.kind.toNat 1) = [UInt8.ofNat m.kind.toNat] := by simp [Oct.be]
  have e1 : kindOf (putOf m) = m.kind := by
    unfold kindOf
    rw [e, e0]
    simp
    omega
  have e2 : (putOf m).extract 1 (putOf m).size = ⟨(puts m (fields m.kind)).toArray⟩ := by
    apply Oct.ext_list
    rw [Oct.extract_list, e, e0]
    simp [ByteArray.size]
  have e3 : (putOf m).size ≠ 0 := by
    rw [e, e0]
    simp [ByteArray.size]
  have e4 : said (putOf m) = ⟨m, ⟨#[]⟩, 0⟩ := by
    unfold said begun
    rw [e1, e2]
    exact reads_puts m h
  have := get_good (o := ⟨46, putOf m⟩) rfl e3 (by show known (kindOf (putOf m)) = true; rw [e1]; exact check_known h) (by show Oct.doneOf (said (putOf m)).left (said (putOf m)).fail = 0; rw [e4]; rfl)
  rw [this]
  show ((said (putOf m)).m, 0) = _
  rw [e4]
end Go.Proofs.Ytmkngolkflihlaa.Mp
