/- The reads of a beginning: the cut's contract, place by place. -/
import Derived.Test.YtkjojfcknfhkhaaHead6
import Derived.Test.YtkjojfcknfhkhaaCutC
namespace Go.Proofs.Ytkjojfcknfhkhaa.Head
open Go.ChangeShapes Go.WideShapes Go.ChangeAt Go.RowKit
open Go.Proofs.Ytkjojfcknfhkhaa.Oct (num num_lt size_list whole CutAt gotOf stayOf fellOf fell1 doneOf NumEnd ReadEnd num_any rest_any done_any)
set_option linter.unusedVariables false

theorem ext_toList {a b : ByteArray} (h : a.data.toList = b.data.toList) : a = b := by
  apply ByteArray.ext
  exact Array.toList_inj.1 h
theorem extract_toList (s : ByteArray) (a b : Nat) : (s.extract a b).data.toList = (s.data.toList.drop a).take (b - a) := by
  simp [ByteArray.data_extract]
theorem from_toList (s : ByteArray) (a : Nat) : (s.extract a s.size).data.toList = s.data.toList.drop a := by
  rw [extract_toList, List.take_of_length_le]
  rw [List.length_drop, size_list]; exact Nat.le_refl _
theorem from_zero (s : ByteArray) : s.extract 0 s.size = s := ext_toList (by rw [from_toList]; rfl)
theorem from_size (s : ByteArray) (a : Nat) : (s.extract a s.size).size = s.size - a := by
  rw [← size_list, from_toList, List.length_drop, size_list]
theorem from_next (s : ByteArray) (a n : Nat) : (s.extract a s.size).extract n (s.extract a s.size).size = s.extract (a + n) s.size :=
  ext_toList (by rw [from_toList, from_toList, from_toList, List.drop_drop])
theorem whole_fld (s : ByteArray) (a n : Nat) (hn : n ≤ 7) : whole ((s.extract a s.size).extract 0 n) = fld s a n := by
  unfold whole
  have h1 : ((s.extract a s.size).extract 0 n).data.toList = (s.data.toList.drop a).take n := by
    rw [extract_toList, from_toList]; simp
  rw [h1]
  have h2 := fld_lt s a n
  unfold fld at h2 ⊢
  have h3 : 256 ^ n ≤ 256 ^ 7 := Nat.pow_le_pow_right (by omega) hn
  have h4 : (256 : Nat) ^ 7 = 72057594037927936 := by decide
  omega

theorem whole_none : wrap64 ((whole ⟨#[]⟩ : Nat) : Int) = 0 := by rw [show whole ⟨#[]⟩ = 0 from rfl]; unfold wrap64; omega

/-- one read of a number: from a place on, with a failure, to another place, with another failure, and the number -/
def Stp (s : ByteArray) (a : Nat) (f : Int) (n : Nat) (a' : Nat) (f' v : Int) : Prop :=
  (f = 0 ∧ a + n ≤ s.size ∧ a' = a + n ∧ f' = 0 ∧ v = fld s a n) ∨ (f' = 1 ∧ a' = a ∧ v = 0 ∧ (f = 1 ∨ (f = 0 ∧ s.size < a + n)))

structure At (w : World) (b : Nat) (s : ByteArray) (a : Nat) (f : Int) : Prop where
  cut : CutAt w b (s.extract a s.size) f
  le : a ≤ s.size
  bit : f = 0 ∨ f = 1

theorem num_stp (b : Nat) (s : ByteArray) (a n : Nat) (f size : Int) (hz : size = n) (hn : 1 ≤ n ∧ n ≤ 7) (hs : s.size ≤ 4000) (w : World) (hc : At w b s a f) :
    Calls Try.prog 87 #[.pointer (some ⟨b, 0, none⟩), .int .i64 size] w fun e w' => ∃ (a' : Nat) (f' v : Int), e = .returned (.int .i64 v) ∧ Stp s a f n a' f' v ∧ At w' b s a' f' ∧ Oct.Touch b w w' := by
  subst hz
  have hle := hc.le
  refine (num_any b _ f n w (by rw [from_size]; omega) hc.cut).mono ?_
  rintro e w' ⟨rfl, h1, h2⟩
  have e1 : fell1 f n = f := by
    unfold fell1
    rcases hc.bit with rfl | rfl
    · rw [if_neg (by simp), if_neg (by omega)]
    · rfl
  rw [e1] at h1 ⊢
  rcases hc.bit with rfl | rfl
  · by_cases hl : a + n ≤ s.size
    · have e2 : fellOf (s.extract a s.size) 0 n = 0 := by
        unfold fellOf
        rw [if_neg (by simp), if_neg (by omega), if_neg (by rw [from_size]; omega)]
      have e3 : gotOf (s.extract a s.size) 0 n = (s.extract a s.size).extract 0 n := by unfold gotOf; rw [if_pos e2]; rfl
      have e4 : stayOf (s.extract a s.size) 0 n = s.extract (a + n) s.size := by unfold stayOf; rw [if_pos e2]; exact from_next s a n
      rw [e4, e2] at h1
      have hf := fld_lt s a n
      have h3 : 256 ^ n ≤ 256 ^ 7 := Nat.pow_le_pow_right (by omega) hn.2
      have h4 : (256 : Nat) ^ 7 = 72057594037927936 := by decide
      refine ⟨a + n, 0, fld s a n, ?_, .inl ⟨rfl, hl, rfl, rfl, rfl⟩, ⟨h1, hl, .inl rfl⟩, h2⟩
      rw [e3, whole_fld s a n hn.2]
      congr 2
      unfold wrap64; omega
    · have e2 : fellOf (s.extract a s.size) 0 n = 1 := by
        unfold fellOf
        rw [if_neg (by simp), if_neg (by omega), if_pos (by rw [from_size]; omega)]
      have e3 : gotOf (s.extract a s.size) 0 n = ⟨#[]⟩ := by unfold gotOf; rw [if_neg (by rw [e2]; decide)]
      have e4 : stayOf (s.extract a s.size) 0 n = s.extract a s.size := by unfold stayOf; rw [if_neg (by rw [e2]; decide)]
      rw [e4, e2] at h1
      exact ⟨a, 1, 0, by rw [e3, whole_none], .inr ⟨rfl, rfl, rfl, .inr ⟨rfl, by omega⟩⟩, ⟨h1, hle, .inr rfl⟩, h2⟩
  · have e2 : fellOf (s.extract a s.size) 1 n = 1 := by unfold fellOf; rw [if_pos (by decide)]
    have e3 : gotOf (s.extract a s.size) 1 n = ⟨#[]⟩ := by unfold gotOf; rw [if_neg (by rw [e2]; decide)]
    have e4 : stayOf (s.extract a s.size) 1 n = s.extract a s.size := by unfold stayOf; rw [if_neg (by rw [e2]; decide)]
    rw [e4, e2] at h1
    exact ⟨a, 1, 0, by rw [e3, whole_none], .inr ⟨rfl, rfl, rfl, .inl rfl⟩, ⟨h1, hle, .inr rfl⟩, h2⟩

theorem Stp.lt {s : ByteArray} {a : Nat} {f : Int} {n : Nat} {a' : Nat} {f' v : Int} (h : Stp s a f n a' f' v) : 0 ≤ v ∧ v < (256 ^ n : Nat) := by
  rcases h with ⟨_, _, _, _, rfl⟩ | ⟨_, _, rfl, _⟩
  · have := fld_lt s a n; omega
  · have : 0 < 256 ^ n := Nat.pow_pos (by omega)
    omega
theorem Stp.bit {s : ByteArray} {a : Nat} {f : Int} {n : Nat} {a' : Nat} {f' v : Int} (h : Stp s a f n a' f' v) : (f = 0 ∨ f = 1) ∧ (f' = 0 ∨ f' = 1) := by
  rcases h with ⟨h, _, _, h', _⟩ | ⟨h', _, _, h | ⟨h, _⟩⟩ <;> simp [h, h']

theorem lt32 (n : Nat) : decide ((n : Int) < 32) = !decide (32 ≤ n) := by rw [← decide_not]; exact decide_eq_decide.2 (by omega)
theorem eq0 (n : Nat) : decide ((n : Int) = 0) = !decide (n ≠ 0) := by rw [← decide_not]; exact decide_eq_decide.2 (by omega)

/-- what is known behind the reads of a beginning -/
def ReadOk (s : ByteArray) (h : B) (k : Bool) (a : Nat) (f : Int) : Prop :=
  (short s ∧ f = 1) ∨ (¬ short s ∧ f = 0 ∧ h = parse s ∧ k = (!kept s) ∧ a = nOf (isLong s))

theorem read_short {s : ByteArray} {a1 a2 a3 a4 a5 a6 a7 : Nat} {f1 f2 f3 f4 f5 f6 f7 v1 v2 v3 v4 v5 v6 v7 : Int} (h1 : Stp s 0 0 2 a1 f1 v1) (h2 : Stp s a1 f1 2 a2 f2 v2) (h3 : Stp s a2 f2 1 a3 f3 v3)
    (h4 : Stp s a3 f3 1 a4 f4 v4) (h5 : Stp s a4 f4 2 a5 f5 v5) (h6 : Stp s a5 f5 1 a6 f6 v6) (hl : v6 % 2 ≠ 1) (h7 : Stp s a6 f6 3 a7 f7 v7) :
    ReadOk s ⟨v1, v2, v3, v4 / 16, v4 % 16, v5, v6 / 2, false, v7⟩ (decide (v6 < 32)) a7 f7 := by
  by_cases hs : 12 ≤ s.size
  · obtain ⟨-, -, rfl, rfl, rfl⟩ | ⟨-, -, -, h⟩ := h1
    case inr => omega
    obtain ⟨-, -, rfl, rfl, rfl⟩ | ⟨-, -, -, h⟩ := h2
    case inr => omega
    obtain ⟨-, -, rfl, rfl, rfl⟩ | ⟨-, -, -, h⟩ := h3
    case inr => omega
    obtain ⟨-, -, rfl, rfl, rfl⟩ | ⟨-, -, -, h⟩ := h4
    case inr => omega
    obtain ⟨-, -, rfl, rfl, rfl⟩ | ⟨-, -, -, h⟩ := h5
    case inr => omega
    obtain ⟨-, -, rfl, rfl, rfl⟩ | ⟨-, -, -, h⟩ := h6
    case inr => omega
    obtain ⟨-, -, rfl, rfl, rfl⟩ | ⟨-, -, -, h⟩ := h7
    case inr => omega
    simp only [Nat.zero_add, Nat.reduceAdd] at *
    have e : isLong s = false := by unfold isLong; simp; omega
    refine .inr ⟨?_, rfl, ?_, ?_, ?_⟩
    · unfold short; rw [e]; simp; omega
    · have e' : (fld s 8 1 % 2 == 1) = false := e
      unfold parse
      rw [e', if_neg (by simp)]
      simp
    · unfold kept; rw [e, lt32]; simp
    · rw [e]; rfl
  · refine .inl ⟨.inl (by omega), ?_⟩
    have b6 := h6.bit
    unfold Stp at *
    omega

theorem read_long {s : ByteArray} {a1 a2 a3 a4 a5 a6 a7 a8 : Nat} {f1 f2 f3 f4 f5 f6 f7 f8 v1 v2 v3 v4 v5 v6 v7 v8 : Int} (h1 : Stp s 0 0 2 a1 f1 v1) (h2 : Stp s a1 f1 2 a2 f2 v2) (h3 : Stp s a2 f2 1 a3 f3 v3)
    (h4 : Stp s a3 f3 1 a4 f4 v4) (h5 : Stp s a4 f4 2 a5 f5 v5) (h6 : Stp s a5 f5 1 a6 f6 v6) (hl : v6 % 2 = 1) (h7 : Stp s a6 f6 1 a7 f7 v7) (h8 : Stp s a7 f7 6 a8 f8 v8) :
    ReadOk s ⟨v1, v2, v3, v4 / 16, v4 % 16, v5, v6 / 2, true, v8⟩ (decide (v6 < 32) && decide (v7 = 0)) a8 f8 := by
  by_cases hs : 12 ≤ s.size
  · obtain ⟨-, -, rfl, rfl, rfl⟩ | ⟨-, -, -, h⟩ := h1
    case inr => omega
    obtain ⟨-, -, rfl, rfl, rfl⟩ | ⟨-, -, -, h⟩ := h2
    case inr => omega
    obtain ⟨-, -, rfl, rfl, rfl⟩ | ⟨-, -, -, h⟩ := h3
    case inr => omega
    obtain ⟨-, -, rfl, rfl, rfl⟩ | ⟨-, -, -, h⟩ := h4
    case inr => omega
    obtain ⟨-, -, rfl, rfl, rfl⟩ | ⟨-, -, -, h⟩ := h5
    case inr => omega
    obtain ⟨-, -, rfl, rfl, rfl⟩ | ⟨-, -, -, h⟩ := h6
    case inr => omega
    obtain ⟨-, -, rfl, rfl, rfl⟩ | ⟨-, -, -, h⟩ := h7
    case inr => omega
    simp only [Nat.zero_add, Nat.reduceAdd] at *
    have e : isLong s = true := by unfold isLong; simp; omega
    by_cases hs2 : 16 ≤ s.size
    · obtain ⟨-, -, rfl, rfl, rfl⟩ | ⟨-, -, -, h⟩ := h8
      case inr => omega
      refine .inr ⟨?_, rfl, ?_, ?_, ?_⟩
      · unfold short; rw [e]; simp; omega
      · have e' : (fld s 8 1 % 2 == 1) = true := e
        unfold parse
        rw [e', if_pos rfl]
        simp
      · unfold kept; rw [e, lt32, eq0]
        cases decide (32 ≤ fld s 8 1) <;> cases decide (fld s 9 1 ≠ 0) <;> rfl
      · rw [e]; rfl
    · refine .inl ⟨.inr ⟨e, by omega⟩, ?_⟩
      unfold Stp at h8
      omega
  · refine .inl ⟨.inl (by omega), ?_⟩
    have b6 := h6.bit
    unfold Stp at *
    omega
end Go.Proofs.Ytkjojfcknfhkhaa.Head
