/- What OctetsBack puts together, and how it is read back. -/
import Derived.Test.YtenpcdloidgckaaLawOrderA
import Derived.Test.YtenpcdloidgckaaPutU64
import Derived.Test.YtenpcdloidgckaaOfU64
namespace Go.Proofs.Ytenpcdloidgckaa.Oct
open Go.ChangeShapes Go.WideShapes Go.ChangeAt Go.RowKit
set_option linter.unusedVariables false

def txt (l : List UInt8) : ByteArray := ⟨l.toArray⟩
theorem txt_size (l : List UInt8) : (txt l).size = l.length := by
  have := size_list (txt l)
  simp [txt] at this
  exact this.symm
theorem txt_list (l : List UInt8) : (txt l).data.toList = l := by simp [txt]
theorem txt_self (s : ByteArray) : txt s.data.toList = s := by
  apply ByteArray.ext; simp [txt]
theorem ext_list {a b : ByteArray} (h : a.data.toList = b.data.toList) : a = b := by
  rw [← txt_self a, ← txt_self b, h]

theorem extract_list (s : ByteArray) (a b : Nat) : (s.extract a b).data.toList = (s.data.toList.drop a).take (b - a) := by
  simp [ByteArray.data_extract]

/-- a read of n bytes that are there -/
theorem got_front (a b : List UInt8) (n : Int) (h : n = (a.length : Int)) : gotOf (txt (a ++ b)) 0 n = txt a ∧ stayOf (txt (a ++ b)) 0 n = txt b ∧ fellOf (txt (a ++ b)) 0 n = 0 := by
  subst h
  have e1 : fellOf (txt (a ++ b)) 0 (a.length : Int) = 0 := by
    unfold fellOf
    rw [if_neg (by simp), if_neg (by omega), txt_size, if_neg (by simp; omega)]
  refine ⟨?_, ?_, e1⟩
  · unfold gotOf
    rw [if_pos e1]
    apply ext_list
    rw [extract_list, txt_list, txt_list]
    simp
  · unfold stayOf
    rw [if_pos e1]
    apply ext_list
    rw [extract_list, txt_list, txt_list, txt_size]
    simp

/-- n's bytes, s, and m's seven lowest bytes behind -/
def packed (n k : Nat) (s : ByteArray) (m : Nat) : ByteArray := txt (be n k ++ (s.data.toList ++ be m 7))
def packed1 (s : ByteArray) (m : Nat) : ByteArray := txt (s.data.toList ++ be m 7)
def packed2 (m : Nat) : ByteArray := txt (be m 7)

theorem packed_size (n k : Nat) (s : ByteArray) (m : Nat) : (packed n k s m).size = k + s.size + 7 := by
  rw [packed, txt_size]; simp; omega
theorem packed1_size (s : ByteArray) (m : Nat) : (packed1 s m).size = s.size + 7 := by
  rw [packed1, txt_size]; simp
theorem packed2_size (m : Nat) : (packed2 m).size = 7 := by
  rw [packed2, txt_size]; simp

theorem putN (n : Int) (k : Nat) (w : World) (hk : k ≤ 8) :
    Calls Try.prog 8 #[.string ⟨#[]⟩, .int .i64 n, .int .i64 k] w fun e w' => e = .returned (.string (bsOf (nat64 n) k)) ∧ Below w.heap.size w w' := by
  refine (putInt_any ⟨#[]⟩ n k w (by decide)).mono ?_
  rintro e w' ⟨rfl, hb⟩
  refine ⟨congrArg (fun s => Ending.returned (.string s)) ?_, hb⟩
  rw [held_mid k (by omega) (by omega), Int.toNat_natCast]
  exact bs_append [] _

theorem putM (n k : Nat) (s : ByteArray) (m : Nat) (w : World) (hk : k ≤ 8) (hs : s.size ≤ 3000) (hm : m ≤ 18446744073709551615) :
    Calls Try.prog 25 #[.string (bsOf n k ++ s), .int .u64 m, .int .i64 7] w fun e w' => e = .returned (.string (packed n k s m)) ∧ Below w.heap.size w w' := by
  have hz : (bsOf n k ++ s).size ≤ 4000 := by
    have := bsOf_size n k
    rw [ByteArray.size_append]; omega
  refine (putU64_any (bsOf n k ++ s) m 7 w hz hm).mono ?_
  rintro e w' ⟨rfl, hb⟩
  refine ⟨congrArg (fun s => Ending.returned (.string s)) ?_, hb⟩
  apply ext_list
  rw [packed, txt_list]
  simp [bsOf]
  rfl

theorem num_first (n k : Nat) (s : ByteArray) (m b : Nat) (w : World) (h1 : 1 ≤ k) (h7 : k ≤ 7) (hs : s.size ≤ 3000) (hc : CutAt w b (packed n k s m) 0) :
    Calls Try.prog 16 #[.pointer (some ⟨b, 0, none⟩), .int .i64 k] w fun e w' => e = .returned (.int .i64 ((n % 256 ^ k : Nat) : Int)) ∧ CutAt w' b (packed1 s m) 0 ∧ Touch b w w' := by
  refine (num_any b (packed n k s m) 0 k w (by rw [packed_size]; omega) hc).mono ?_
  rintro e w' ⟨rfl, h2, h3⟩
  have ef : fell1 0 (k : Int) = 0 := by unfold fell1; rw [if_neg (by simp), if_neg (by omega)]
  obtain ⟨e1, e2, e3⟩ := got_front (be n k) (s.data.toList ++ be m 7) k (by simp)
  rw [ef] at h2 ⊢
  rw [packed, e2, e3] at h2
  refine ⟨congrArg (fun s => Ending.returned (.int .i64 s)) ?_, h2, h3⟩
  rw [packed, e1, whole, txt_list, num_be]
  have p1 : n % 256 ^ k < 256 ^ k := Nat.mod_lt _ (Nat.pow_pos (by omega))
  have p2 : 256 ^ k ≤ 256 ^ 7 := Nat.pow_le_pow_right (by omega) h7
  have p3 : (256 : Nat) ^ 7 = 72057594037927936 := by decide
  rw [Nat.mod_eq_of_lt (a := n % 256 ^ k) (by omega)]
  exact IntWalk.wrap64_in _ (by omega)

theorem bytes_mid (s : ByteArray) (m b : Nat) (w : World) (hs : s.size ≤ 3000) (hc : CutAt w b (packed1 s m) 0) :
    Calls Try.prog 18 #[.pointer (some ⟨b, 0, none⟩), .int .i64 s.size] w fun e w' => e = .returned (.string s) ∧ CutAt w' b (packed2 m) 0 ∧ Touch b w w' := by
  refine (bytes_any b (packed1 s m) 0 s.size w (by rw [packed1_size]; omega) hc).mono ?_
  rintro e w' ⟨rfl, h2, h3⟩
  obtain ⟨e1, e2, e3⟩ := got_front s.data.toList (be m 7) s.size (by rw [size_list])
  rw [packed1, e2, e3] at h2
  exact ⟨congrArg (fun s => Ending.returned (.string s)) (by rw [packed1, e1, txt_self]), h2, h3⟩

theorem num_last7 (m b : Nat) (w : World) (hc : CutAt w b (packed2 m) 0) :
    Calls Try.prog 16 #[.pointer (some ⟨b, 0, none⟩), .int .i64 7] w fun e w' => e = .returned (.int .i64 ((m % 72057594037927936 : Nat) : Int)) ∧ CutAt w' b ⟨#[]⟩ 0 ∧ Touch b w w' := by
  refine (num_any b (packed2 m) 0 7 w (by rw [packed2_size]; omega) hc).mono ?_
  rintro e w' ⟨rfl, h2, h3⟩
  have ef : fell1 0 7 = 0 := by decide
  obtain ⟨e1, e2, e3⟩ := got_front (be m 7) [] 7 (by simp)
  rw [List.append_nil] at e1 e2 e3
  rw [ef] at h2 ⊢
  rw [packed2, e2, e3] at h2
  refine ⟨congrArg (fun s => Ending.returned (.int .i64 s)) ?_, h2, h3⟩
  rw [packed2, e1, whole, txt_list, num_be]
  have p3 : (256 : Nat) ^ 7 = 72057594037927936 := by decide
  rw [p3, Nat.mod_eq_of_lt (a := m % 72057594037927936) (by omega)]
  exact IntWalk.wrap64_in _ (by omega)

theorem num_short (b : Nat) (w : World) (hc : CutAt w b ⟨#[]⟩ 0) :
    Calls Try.prog 16 #[.pointer (some ⟨b, 0, none⟩), .int .i64 1] w fun e w' => e = .returned (.int .i64 0) ∧ CutAt w' b ⟨#[]⟩ 1 ∧ Touch b w w' := by
  refine (num_any b ⟨#[]⟩ 0 1 w (by decide) hc).mono ?_
  rintro e w' ⟨rfl, h2, h3⟩
  exact ⟨congrArg (fun s => Ending.returned (.int .i64 s)) (by rw [show whole (gotOf ⟨#[]⟩ (fell1 0 1) 1) = 0 from rfl]; unfold wrap64; omega), h2, h3⟩

theorem ofM (m : Nat) (w : World) (hm : m ≤ 18446744073709551615) :
    Calls Try.prog 14 #[.string (bsOf m 8)] w fun e w' => e = .returned (.int .u64 m) ∧ Below w.heap.size w w' := by
  refine (ofU64_any (bsOf m 8) w (by rw [bsOf_size]; omega)).mono ?_
  rintro e w' ⟨rfl, hb⟩
  refine ⟨congrArg (fun s : Nat => Ending.returned (.int .u64 s)) ?_, hb⟩
  have p3 : (256 : Nat) ^ 8 = 18446744073709551616 := by decide
  rw [whole, ← ByteArray.toList_eq, bsOf_list, num_be, p3, Nat.mod_mod, Nat.mod_eq_of_lt (by omega)]

theorem putM8 (m : Nat) (w : World) (hm : m ≤ 18446744073709551615) :
    Calls Try.prog 25 #[.string ⟨#[]⟩, .int .u64 m, .int .i64 8] w fun e w' => e = .returned (.string (bsOf m 8)) ∧ Below w.heap.size w w' := by
  refine (putU64_any ⟨#[]⟩ m 8 w (by decide) hm).mono ?_
  rintro e w' ⟨rfl, hb⟩
  exact ⟨congrArg (fun s => Ending.returned (.string s)) (bs_append [] _), hb⟩
end Go.Proofs.Ytenpcdloidgckaa.Oct
