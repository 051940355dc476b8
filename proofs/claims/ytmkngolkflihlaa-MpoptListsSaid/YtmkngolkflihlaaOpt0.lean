/- Options, one behind the other: plain. -/
import Derived.Test.YtmkngolkflihlaaRows
import Derived.WalkKit
import Derived.ProofKit
import Derived.Below
import Derived.Lib.Hide
namespace Go.Proofs.Ytmkngolkflihlaa.Opt
open Go.ChangeShapes Go.WideShapes Go.ChangeAt Go.RowKit
set_option linter.unusedVariables false

/-- an option -/
structure O where
  kind : Int
  value : ByteArray

/-- how many bytes one has -/
def size1 (k : Int) (v : ByteArray) : Nat := if k ≤ 31 then 1 else 2 + v.size
/-- how many bytes all have -/
def sizes : List O → Nat
  | [] => 0
  | o :: r => size1 o.kind o.value + sizes r
/-- how many of its own one may have -/
def room (k : Int) : Int := if k ≤ 31 then 0 else 253
/-- what is wrong with one by itself -/
def wrong1 (k : Int) (v : ByteArray) : Int := if k < 1 ∨ 255 < k then 7 else if room k < v.size then 11 else 0
/-- what is wrong with the first one that is wrong by itself -/
def wrongs : List O → Int
  | [] => 0
  | o :: r => if wrong1 o.kind o.value = 0 then wrongs r else wrong1 o.kind o.value
/-- nothing is there that one of Kind 1 could speak of -/
def alone : List O → Bool
  | [] => true
  | o :: _ => decide (o.kind = 1)
/-- one of Kind 1 speaks of nothing -/
def form : List O → Bool
  | [] => false
  | o :: r => (decide (o.kind = 1) && alone r) || form r
/-- what is wrong -/
def check (l : List O) : Int := if wrongs l = 0 then (if form l = true then 4 else if 400 < sizes l then 11 else 0) else wrongs l

theorem room_nonneg (k : Int) : 0 ≤ room k := by unfold room; split <;> omega
theorem wrong1_cases (k : Int) (v : ByteArray) : wrong1 k v = 0 ∨ wrong1 k v = 7 ∨ wrong1 k v = 11 := by
  unfold wrong1
  split
  · exact .inr (.inl rfl)
  · split
    · exact .inr (.inr rfl)
    · exact .inl rfl
theorem wrongs_cases : ∀ l : List O, wrongs l = 0 ∨ wrongs l = 7 ∨ wrongs l = 11
  | [] => .inl rfl
  | o :: r => by
    unfold wrongs
    split
    · exact wrongs_cases r
    · exact wrong1_cases _ _
theorem check_cases (l : List O) : check l = 0 ∨ check l = 4 ∨ check l = 7 ∨ check l = 11 := by
  have := wrongs_cases l
  unfold check
  split
  · split
    · exact .inr (.inl rfl)
    · split
      · exact .inr (.inr (.inr rfl))
      · exact .inl rfl
  · omega

/-- not too many, not too long -/
def Fit (l : List O) : Prop := l.length ≤ 3000 ∧ ∀ o, o ∈ l → o.value.size ≤ 3000
theorem size1_le (k : Int) (v : ByteArray) (h : v.size ≤ 3000) : size1 k v ≤ 3002 := by unfold size1; split <;> omega
theorem sizes_le : ∀ l : List O, (∀ o, o ∈ l → o.value.size ≤ 3000) → sizes l ≤ 3002 * l.length
  | [], _ => by simp [sizes]
  | o :: r, h => by
    have h1 := size1_le o.kind o.value (h o (by simp))
    have h2 := sizes_le r (fun x hx => h x (by simp [hx]))
    simp only [sizes, List.length_cons]
    omega
theorem Fit.sizes {l : List O} (h : Fit l) : sizes l ≤ 9006000 := by
  have := sizes_le l h.2
  have := h.1
  omega
theorem Fit.get {l : List O} (h : Fit l) {i : Nat} {o : O} (hi : l[i]? = some o) : o.value.size ≤ 3000 := h.2 o (List.mem_of_getElem? hi)

theorem drop_at {α : Type} {l : List α} {i : Nat} {o : α} (hi : l[i]? = some o) : l.drop i = o :: l.drop (i + 1) := by
  obtain ⟨h, rfl⟩ := List.getElem?_eq_some_iff.1 hi
  exact List.drop_eq_getElem_cons h
theorem take_at {α : Type} {l : List α} {i : Nat} {o : α} (hi : l[i]? = some o) : l.take (i + 1) = l.take i ++ [o] := by
  obtain ⟨h, rfl⟩ := List.getElem?_eq_some_iff.1 hi
  exact (List.take_append_getElem h).symm
theorem some_at {α : Type} {l : List α} {i : Nat} (h : i < l.length) : ∃ o, l[i]? = some o := ⟨l[i], List.getElem?_eq_getElem h⟩

/-! ### what bytes say -/
/-- a byte -/
def byte (s : ByteArray) (i : Nat) : Nat := if h : i < s.size then s[i].toNat else 0
theorem byte_eq {s : ByteArray} {i : Nat} (h : i < s.size) : byte s i = s[i].toNat := dif_pos h
theorem byte_lt (s : ByteArray) (i : Nat) : byte s i < 256 := by
  unfold byte
  split
  · exact UInt8.toNat_lt _
  · omega
def none1 : O := ⟨0, ⟨#[]⟩⟩
/-- the first option, and what is left behind it -/
def first (s : ByteArray) : O × ByteArray × Int :=
  if byte s 0 ≤ 31 then (⟨byte s 0, ⟨#[]⟩⟩, s.extract 1 s.size, 0)
  else if s.size < 2 then (none1, ⟨#[]⟩, 1)
  else if byte s 1 < 2 then (none1, ⟨#[]⟩, 4)
  else if s.size < byte s 1 then (none1, ⟨#[]⟩, 1)
  else (⟨byte s 0, s.extract 2 (byte s 1)⟩, s.extract (byte s 1) s.size, 0)
theorem size_extract (s : ByteArray) (a b : Nat) : (s.extract a b).size = min b s.size - a := ByteArray.size_extract
theorem first_less {s : ByteArray} (h : 0 < s.size) : (first s).2.1.size < s.size := by
  unfold first
  split
  · simp only [size_extract]; omega
  · split
    · exact h
    · split
      · exact h
      · split
        · exact h
        · simp only [size_extract]; omega
theorem first_value (s : ByteArray) : (first s).1.value.size ≤ 253 := by
  have hb := byte_lt s 1
  unfold first
  split
  · exact Nat.zero_le _
  · split
    · exact Nat.zero_le _
    · split
      · exact Nat.zero_le _
      · split
        · exact Nat.zero_le _
        · simp only [size_extract]; omega

/-- so many options at the most, and what is wrong behind them -/
def items : Nat → ByteArray → List (O × Int)
  | 0, _ => []
  | n + 1, s =>
    if s.size = 0 then []
    else if (first s).2.2 = 0 then
      if (first s).1.kind = 0 then items n (first s).2.1
      else ((first s).1, 0) :: items n (first s).2.1
    else [(none1, (first s).2.2)]
/-- all that bytes say -/
def told (s : ByteArray) : List (O × Int) := items s.size s
theorem items_enough : ∀ (n m : Nat) (s : ByteArray), s.size ≤ n → s.size ≤ m → items n s = items m s
  | 0, 0, _, _, _ => rfl
  | 0, m + 1, s, h, _ => by unfold items; rw [if_pos (by omega)]
  | n + 1, 0, s, _, h => by unfold items; rw [if_pos (by omega)]
  | n + 1, m + 1, s, h, h' => by
    unfold items
    split
    · rfl
    · have hl := first_less (s := s) (by omega)
      rw [items_enough n m (first s).2.1 (by omega) (by omega)]
theorem told_nil {s : ByteArray} (h : s.size = 0) : told s = [] := by unfold told; rw [h]; rfl
theorem told_step {s : ByteArray} (h : 0 < s.size) : told s =
    if (first s).2.2 = 0 then
      if (first s).1.kind = 0 then told (first s).2.1
      else ((first s).1, 0) :: told (first s).2.1
    else [(none1, (first s).2.2)] := by
  have hl := first_less h
  have e := items_enough (s.size - 1) (first s).2.1.size (first s).2.1 (by omega) (Nat.le_refl _)
  have : told s = items (s.size - 1 + 1) s := by unfold told; rw [show s.size - 1 + 1 = s.size by omega]
  rw [this]
  unfold items
  rw [if_neg (by omega)]
  unfold told
  rw [e]
theorem items_length : ∀ (n : Nat) (s : ByteArray), (items n s).length ≤ n
  | 0, _ => Nat.le_refl _
  | n + 1, s => by
    unfold items
    have := items_length n (first s).2.1
    split
    · simp
    · split
      · split
        · omega
        · simpa using this
      · simp
theorem told_length (s : ByteArray) : (told s).length ≤ s.size := items_length _ _
theorem items_value : ∀ (n : Nat) (s : ByteArray) (x : O × Int), x ∈ items n s → x.1.value.size ≤ 253
  | 0, _, x, h => by simp [items] at h
  | n + 1, s, x, h => by
    unfold items at h
    have ih := items_value n (first s).2.1 x
    split at h
    · simp at h
    · split at h
      · split at h
        · exact ih h
        · rcases List.mem_cons.1 h with rfl | h
          · exact first_value s
          · exact ih h
      · obtain rfl := List.mem_singleton.1 h
        exact Nat.zero_le _

/-- the first error of what was told -/
def errs : List (O × Int) → Int
  | [] => 0
  | x :: r => if x.2 = 0 then errs r else x.2
/-- the options ahead of it -/
def goods : List (O × Int) → List O
  | [] => []
  | x :: r => if x.2 = 0 then x.1 :: goods r else []
theorem errs_zero : ∀ l : List (O × Int), (∀ x, x ∈ l → x.2 = 0) → errs l = 0
  | [], _ => rfl
  | x :: r, h => by unfold errs; rw [if_pos (h x (by simp)), errs_zero r (fun y hy => h y (by simp [hy]))]
theorem goods_zero : ∀ l : List (O × Int), (∀ x, x ∈ l → x.2 = 0) → goods l = l.map (·.1)
  | [], _ => rfl
  | x :: r, h => by unfold goods; rw [if_pos (h x (by simp)), goods_zero r (fun y hy => h y (by simp [hy]))]; rfl
theorem errs_at : ∀ (l r : List (O × Int)) (x : O × Int), (∀ y, y ∈ l → y.2 = 0) → x.2 ≠ 0 → errs (l ++ x :: r) = x.2
  | [], r, x, _, hx => by show errs (x :: r) = _; unfold errs; rw [if_neg hx]
  | y :: l, r, x, h, hx => by
    show errs (y :: (l ++ x :: r)) = _
    unfold errs
    rw [if_pos (h y (by simp)), errs_at l r x (fun z hz => h z (by simp [hz])) hx]
theorem goods_at : ∀ (l r : List (O × Int)) (x : O × Int), (∀ y, y ∈ l → y.2 = 0) → x.2 ≠ 0 → goods (l ++ x :: r) = l.map (·.1)
  | [], r, x, _, hx => by show goods (x :: r) = _; unfold goods; rw [if_neg hx]; rfl
  | y :: l, r, x, h, hx => by
    show goods (y :: (l ++ x :: r)) = _
    unfold goods
    rw [if_pos (h y (by simp)), goods_at l r x (fun z hz => h z (by simp [hz])) hx]
    rfl
theorem goods_length : ∀ l : List (O × Int), (goods l).length ≤ l.length
  | [] => Nat.le_refl _
  | x :: r => by
    have := goods_length r
    unfold goods
    split
    · simpa using this
    · simp
theorem goods_mem : ∀ (l : List (O × Int)) (o : O), o ∈ goods l → ∃ x, x ∈ l ∧ x.1 = o
  | [], o, h => by simp [goods] at h
  | x :: r, o, h => by
    unfold goods at h
    split at h
    · rcases List.mem_cons.1 h with rfl | h
      · exact ⟨x, by simp, rfl⟩
      · obtain ⟨y, hy, e⟩ := goods_mem r o h
        exact ⟨y, by simp [hy], e⟩
    · simp at h
theorem goods_fit {s : ByteArray} (h : s.size ≤ 3000) : Fit (goods (told s)) := by
  refine ⟨Nat.le_trans (goods_length _) (Nat.le_trans (told_length s) h), fun o ho => ?_⟩
  obtain ⟨x, hx, rfl⟩ := goods_mem _ _ ho
  have := items_value _ _ x hx
  omega

/-- what bytes say, or what is wrong -/
def getErr (s : ByteArray) : Int := if errs (told s) = 0 then check (goods (told s)) else errs (told s)
def getOpts (s : ByteArray) : List O := if getErr s = 0 then goods (told s) else []
theorem getOpts_fit {s : ByteArray} (h : s.size ≤ 3000) : Fit (getOpts s) := by
  unfold getOpts
  split
  · exact goods_fit h
  · exact ⟨Nat.zero_le _, fun o ho => by simp at ho⟩
end Go.Proofs.Ytmkngolkflihlaa.Opt
