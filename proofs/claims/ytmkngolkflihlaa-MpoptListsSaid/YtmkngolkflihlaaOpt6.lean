/- Options as bytes, and back: plain. -/
import Derived.Test.YtmkngolkflihlaaOpt0
namespace Go.Proofs.Ytmkngolkflihlaa.Opt
open Go.ChangeShapes Go.WideShapes Go.ChangeAt Go.RowKit
set_option linter.unusedVariables false

/-- what stands ahead of an option's own bytes -/
def headOf (k : Int) (n : Nat) : ByteArray := if k ≤ 31 then ⟨#[UInt8.ofNat k.toNat]⟩ else ⟨#[UInt8.ofNat k.toNat, UInt8.ofNat (2 + n)]⟩
def bytes1 (o : O) : ByteArray := headOf o.kind o.value.size ++ o.value
def bytesOf : List O → ByteArray
  | [] => ⟨#[]⟩
  | o :: r => bytes1 o ++ bytesOf r
def zeros (j : Nat) : ByteArray := ⟨(List.replicate j (0 : UInt8)).toArray⟩

theorem zeros_size (j : Nat) : (zeros j).size = j := by show (List.replicate j (0 : UInt8)).toArray.size = j; simp
theorem zeros_list (j : Nat) : (zeros j).data.toList = List.replicate j 0 := rfl
theorem ext_l {a b : ByteArray} (h : a.data.toList = b.data.toList) : a = b := bytes_inj h
theorem list_size (s : ByteArray) : s.data.toList.length = s.size := Array.length_toList
theorem list_append (a b : ByteArray) : (a ++ b).data.toList = a.data.toList ++ b.data.toList := by rw [ByteArray.data_append]; simp
theorem list_extract (s : ByteArray) (a b : Nat) : (s.extract a b).data.toList = (s.data.toList.drop a).take (b - a) := by
  rw [ByteArray.data_extract]
  simp
theorem byte_list (s : ByteArray) (i : Nat) : byte s i = (s.data.toList.getD i 0).toNat := by
  unfold byte
  split
  · rename_i h
    have h' : i < s.data.toList.length := by rw [list_size]; exact h
    rw [List.getD_eq_getElem?_getD, List.getElem?_eq_getElem h']
    simp
    rfl
  · rename_i h
    have h' : s.data.toList.length ≤ i := by rw [list_size]; omega
    rw [List.getD_eq_getElem?_getD, List.getElem?_eq_none h']
    rfl
theorem nil_of_size {v : ByteArray} (h : v.size = 0) : v = ⟨#[]⟩ := by
  cases v with | mk d =>
  have : d.size = 0 := h
  rw [Array.eq_empty_of_size_eq_zero this]

theorem right1 {k : Int} {v : ByteArray} (h : wrong1 k v = 0) : 1 ≤ k ∧ k ≤ 255 ∧ (v.size : Int) ≤ room k := by
  unfold wrong1 at h
  split at h
  · simp at h
  · split at h
    · simp at h
    · omega
theorem right1_short {k : Int} {v : ByteArray} (h : wrong1 k v = 0) (hk : k ≤ 31) : v = ⟨#[]⟩ := by
  obtain ⟨_, _, h3⟩ := right1 h
  rw [show room k = 0 from if_pos hk] at h3
  exact nil_of_size (by omega)
theorem right1_long {k : Int} {v : ByteArray} (h : wrong1 k v = 0) : v.size ≤ 253 := by
  obtain ⟨_, _, h3⟩ := right1 h
  unfold room at h3
  split at h3 <;> omega
theorem wrongs_at : ∀ {l : List O} {i : Nat} {o : O}, wrongs l = 0 → l[i]? = some o → wrong1 o.kind o.value = 0
  | [], i, o, _, hi => by simp at hi
  | p :: r, 0, o, h, hi => by
    obtain rfl : p = o := by simpa using hi
    unfold wrongs at h
    split at h
    · assumption
    · rename_i h2; exact absurd h h2
  | p :: r, i + 1, o, h, hi => by
    unfold wrongs at h
    split at h
    · exact wrongs_at h (by simpa using hi)
    · rename_i h2; exact absurd h h2

theorem headOf_size (k : Int) (n : Nat) : (headOf k n).size = if k ≤ 31 then 1 else 2 := by unfold headOf; split <;> rfl
theorem bytes1_size {k : Int} {v : ByteArray} (h : wrong1 k v = 0) : (bytes1 ⟨k, v⟩).size = size1 k v := by
  unfold bytes1 size1
  rw [ByteArray.size_append, headOf_size]
  split
  · rename_i hk
    rw [right1_short h hk]; rfl
  · rfl
theorem bytesOf_size : ∀ {l : List O}, wrongs l = 0 → (bytesOf l).size = sizes l
  | [], _ => rfl
  | o :: r, h => by
    have h1 := wrongs_at (i := 0) h rfl
    have h2 : wrongs r = 0 := by
      unfold wrongs at h
      rwa [if_pos h1] at h
    show (bytes1 o ++ bytesOf r).size = size1 o.kind o.value + sizes r
    rw [ByteArray.size_append, bytesOf_size h2, bytes1_size h1]

theorem first_put {o : O} (h : wrong1 o.kind o.value = 0) (t : ByteArray) : first (bytes1 o ++ t) = (o, t, 0) := by
  obtain ⟨k, v⟩ := o
  have hr := right1 h
  have h253 := right1_long h
  dsimp only at hr h253
  by_cases hk : k ≤ 31
  · obtain rfl := right1_short h hk
    have hl : (bytes1 ⟨k, ⟨#[]⟩⟩ ++ t).data.toList = UInt8.ofNat k.toNat :: t.data.toList := by
      rw [list_append, bytes1, list_append, headOf, if_pos hk]; rfl
    have hb : byte (bytes1 ⟨k, ⟨#[]⟩⟩ ++ t) 0 = k.toNat := by
      rw [byte_list, hl]
      show (UInt8.ofNat k.toNat).toNat = _
      rw [UInt8.toNat_ofNat']; omega
    have hz : (bytes1 ⟨k, ⟨#[]⟩⟩ ++ t).size = 1 + t.size := by rw [← list_size, hl, List.length_cons, list_size]; omega
    have he : (bytes1 ⟨k, ⟨#[]⟩⟩ ++ t).extract 1 (1 + t.size) = t := by
      apply ext_l
      rw [list_extract, hl, List.drop_succ_cons, List.drop_zero, List.take_of_length_le (by rw [list_size]; omega)]
    unfold first
    rw [hb, hz, he, if_pos (by omega)]
    rw [show ((k.toNat : Nat) : Int) = k by omega]
  · have hl : (bytes1 ⟨k, v⟩ ++ t).data.toList = UInt8.ofNat k.toNat :: UInt8.ofNat (2 + v.size) :: (v.data.toList ++ t.data.toList) := by
      rw [list_append, bytes1, list_append, headOf, if_neg hk]; rfl
    have hb : byte (bytes1 ⟨k, v⟩ ++ t) 0 = k.toNat := by
      rw [byte_list, hl]
      show (UInt8.ofNat k.toNat).toNat = _
      rw [UInt8.toNat_ofNat']; omega
    have hb1 : byte (bytes1 ⟨k, v⟩ ++ t) 1 = 2 + v.size := by
      rw [byte_list, hl]
      show (UInt8.ofNat (2 + v.size)).toNat = _
      rw [UInt8.toNat_ofNat']; omega
    have hz : (bytes1 ⟨k, v⟩ ++ t).size = 2 + v.size + t.size := by
      rw [← list_size, hl, List.length_cons, List.length_cons, List.length_append, list_size, list_size]; omega
    have he : (bytes1 ⟨k, v⟩ ++ t).extract 2 (2 + v.size) = v := by
      apply ext_l
      rw [list_extract, hl, List.drop_succ_cons, List.drop_succ_cons, List.drop_zero, show 2 + v.size - 2 = v.data.toList.length by rw [list_size]; omega, List.take_left']
      rfl
    have he2 : (bytes1 ⟨k, v⟩ ++ t).extract (2 + v.size) (2 + v.size + t.size) = t := by
      apply ext_l
      rw [list_extract, hl, show 2 + v.size = v.data.toList.length + 1 + 1 by rw [list_size]; omega, List.drop_succ_cons, List.drop_succ_cons, List.drop_left' rfl, List.take_of_length_le (by rw [list_size]; omega)]
    unfold first
    rw [hb, hb1, hz, he, he2, if_neg (by omega), if_neg (by omega), if_neg (by omega), if_neg (by omega)]
    rw [show ((k.toNat : Nat) : Int) = k by omega]

theorem told_zeros : ∀ j, told (zeros j) = []
  | 0 => rfl
  | j + 1 => by
    have hl : (zeros (j + 1)).data.toList = 0 :: List.replicate j 0 := rfl
    have hz := zeros_size (j + 1)
    have hb : byte (zeros (j + 1)) 0 = 0 := by rw [byte_list, hl]; rfl
    have he : (zeros (j + 1)).extract 1 (j + 1) = zeros j := by
      apply ext_l
      rw [list_extract, hl, List.drop_succ_cons, List.drop_zero, List.take_of_length_le (by simp)]; rfl
    have hf : first (zeros (j + 1)) = (⟨0, ⟨#[]⟩⟩, zeros j, 0) := by
      unfold first
      rw [hb, hz, he, if_pos (by omega)]; rfl
    rw [told_step (by omega), hf]
    exact told_zeros j
theorem told_put : ∀ (l : List O), wrongs l = 0 → ∀ j, told (bytesOf l ++ zeros j) = l.map fun o => (o, 0)
  | [], _, j => by
    have : bytesOf [] ++ zeros j = zeros j := by apply ext_l; rw [list_append]; rfl
    rw [this, told_zeros]; rfl
  | o :: r, h, j => by
    have h1 := wrongs_at (i := 0) h rfl
    have h2 : wrongs r = 0 := by
      unfold wrongs at h
      rwa [if_pos h1] at h
    have e : bytesOf (o :: r) ++ zeros j = bytes1 o ++ (bytesOf r ++ zeros j) := by
      apply ext_l
      simp only [list_append, bytesOf, List.append_assoc]
    have hp : 0 < (bytes1 o ++ (bytesOf r ++ zeros j)).size := by
      rw [ByteArray.size_append, bytes1_size h1]
      unfold size1
      split <;> omega
    have hk : o.kind ≠ 0 := by have := (right1 h1).1; omega
    rw [e, told_step hp, first_put h1]
    show (if o.kind = 0 then _ else (o, (0 : Int)) :: told (bytesOf r ++ zeros j)) = _
    rw [if_neg hk, told_put r h2 j]
    rfl
theorem errs_map (l : List O) : errs (l.map fun o => (o, 0)) = 0 := errs_zero _ (fun x hx => by
  obtain ⟨o, _, rfl⟩ := List.mem_map.1 hx
  rfl)
theorem goods_map (l : List O) : goods (l.map fun o => (o, 0)) = l := by
  rw [goods_zero _ (fun x hx => by
    obtain ⟨o, _, rfl⟩ := List.mem_map.1 hx
    rfl)]
  rw [List.map_map]
  exact List.map_id'' (fun _ => rfl) l
theorem check_wrongs {l : List O} (h : check l = 0) : wrongs l = 0 ∧ sizes l ≤ 400 := by
  unfold check at h
  split at h
  · rename_i hw
    refine ⟨hw, ?_⟩
    split at h
    · simp at h
    · split at h
      · simp at h
      · omega
  · rename_i hw; exact absurd h hw
/-- what is put is got -/
theorem get_put {l : List O} (h : check l = 0) (j : Nat) : getErr (bytesOf l ++ zeros j) = 0 ∧ getOpts (bytesOf l ++ zeros j) = l := by
  obtain ⟨hw, hs⟩ := check_wrongs h
  have he : getErr (bytesOf l ++ zeros j) = 0 := by
    unfold getErr
    rw [told_put l hw j, errs_map, goods_map, if_pos rfl, h]
  refine ⟨he, ?_⟩
  unfold getOpts
  rw [if_pos he, told_put l hw j, goods_map]
/-- what is got may be put -/
theorem check_got {s : ByteArray} (h : getErr s = 0) : check (getOpts s) = 0 := by
  have ho : getOpts s = goods (told s) := if_pos h
  rw [ho]
  unfold getErr at h
  split at h
  · exact h
  · rename_i h2; exact absurd h h2
end Go.Proofs.Ytmkngolkflihlaa.Opt
