/- Numbers as texts of some bytes: their order is that of the numbers. -/
import Derived.Test.YtenpcdloidgckaaWorks1
namespace Go.Proofs.Ytenpcdloidgckaa.Oct
open Go.ChangeShapes Go.WideShapes Go.ChangeAt Go.RowKit
set_option linter.unusedVariables false

/-- a number's bytes, as a text -/
def bsOf (n k : Nat) : ByteArray := ⟨(be n k).toArray⟩

theorem bsOf_size (n k : Nat) : (bsOf n k).size = k := by
  have := size_list (bsOf n k)
  simp [bsOf] at this
  exact this.symm

theorem bsOf_list (n k : Nat) : (bsOf n k).toList = be n k := by simp [bsOf]

theorem less_snoc (x y : List UInt8) (a b : UInt8) (h : x.length = y.length) : Op.bytesLess (x ++ [a]) (y ++ [b]) = (Op.bytesLess x y || (x == y && decide (a < b))) := by
  induction x generalizing y with
  | nil => 
    have : y = [] := List.eq_nil_of_length_eq_zero (by simpa using h.symm)
    subst this
    simp [Op.bytesLess]
  | cons c x ih =>
    cases y with
    | nil => simp at h
    | cons d y =>
      simp only [List.cons_append, Op.bytesLess]
      rw [ih y (by simpa using h)]
      by_cases hcd : c = d
      · subst hcd; simp
      · have hf : (c == d) = false := by simpa using hcd
        rw [List.cons_beq_cons, hf]; simp

theorem less_be (a b k : Nat) (ha : a < 256 ^ k) (hb : b < 256 ^ k) : Op.bytesLess (be a k) (be b k) = decide (a < b) := by
  induction k generalizing a b with
  | zero => simp at ha hb; subst ha hb; simp [be, Op.bytesLess]
  | succ k ih =>
    rw [be, be, less_snoc _ _ _ _ (by simp), ih _ _ (by rw [Nat.pow_succ] at ha; omega) (by rw [Nat.pow_succ] at hb; omega)]
    have h1 : (be (a / 256) k == be (b / 256) k) = decide (a / 256 = b / 256) := by
      rw [Bool.eq_iff_iff]; simp only [beq_iff_eq, decide_eq_true_eq]
      exact be_inj (by rw [Nat.pow_succ] at ha; omega) (by rw [Nat.pow_succ] at hb; omega)
    have h2 : (UInt8.ofNat a < UInt8.ofNat b) ↔ a % 256 < b % 256 := by
      rw [UInt8.lt_iff_toNat_lt]; simp
    rw [h1, Bool.eq_iff_iff]
    simp only [Bool.or_eq_true, decide_eq_true_eq, Bool.and_eq_true, h2]
    omega

theorem pow_big (A h : Nat) (hA : A ≤ 4294967295) (h4 : 4 ≤ h) : A < 256 ^ h := by
  have h1 : 256 ^ 4 ≤ 256 ^ h := Nat.pow_le_pow_right (by omega) h4
  have h2 : (256 : Nat) ^ 4 = 4294967296 := by decide
  omega

theorem bsOf_less (A B h : Nat) (hA : A ≤ 4294967295) (hB : B ≤ 4294967295) (h4 : 4 ≤ h) : Op.bytesLess (bsOf A h).toList (bsOf B h).toList = decide ((A : Int) < (B : Int)) := by
  rw [bsOf_list, bsOf_list, less_be A B h (pow_big A h hA h4) (pow_big B h hB h4)]
  simp

theorem bsOf_eq (A B h : Nat) (hA : A ≤ 4294967295) (hB : B ≤ 4294967295) (h4 : 4 ≤ h) : ((bsOf A h).toList == (bsOf B h).toList) = ((A : Int) == (B : Int)) := by
  rw [bsOf_list, bsOf_list, Bool.eq_iff_iff]
  simp only [beq_iff_eq]
  rw [be_inj (pow_big A h hA h4) (pow_big B h hB h4)]
  omega

theorem bsOf_zero (A h i : Nat) (hA : A ≤ 4294967295) (hi : i + 4 < h) (hs : i < (bsOf A h).size) : (bsOf A h)[i].toNat = 0 := by
  have h1 : (bsOf A h)[i] = (be A h)[i]'(by simp; omega) := rfl
  rw [h1, be_get]
  have h2 : 256 ^ 4 ≤ 256 ^ (h - 1 - i) := Nat.pow_le_pow_right (by omega) (by omega)
  have h3 : (256 : Nat) ^ 4 = 4294967296 := by decide
  rw [Nat.div_eq_of_lt (by omega)]
  rfl

theorem bsOf_whole (A h : Nat) (hA : A ≤ 4294967295) (h4 : 4 ≤ h) : whole (bsOf A h) = A := by
  unfold whole
  rw [← ByteArray.toList_eq, bsOf_list, num_be, Nat.mod_eq_of_lt (pow_big A h hA h4), Nat.mod_eq_of_lt (by omega)]

theorem bsOf_cut (A h : Nat) (h4 : 4 ≤ h) : ((bsOf A 4).toList == ((bsOf A h).extract (h - 4) h).toList) = true := by
  rw [beq_iff_eq, bsOf_list, ByteArray.toList_eq]
  simp only [ByteArray.data_extract]
  have h1 := be_add A (h - 4) 4
  rw [show h - 4 + 4 = h by omega] at h1
  have h2 : ((bsOf A h).data.extract (h - 4) h).toList = ((be A h).drop (h - 4)).take (h - (h - 4)) := by simp [bsOf]
  rw [h2, h1, List.drop_append_of_le_length (by simp), List.drop_of_length_le (by simp), List.nil_append, List.take_of_length_le (by simp; omega)]

theorem put0 (A h : Nat) (w : World) (hA : A ≤ 4294967295) (hh : h ≤ 8) :
    Calls Try.prog 8 #[.string ⟨#[]⟩, .int .i64 A, .int .i64 h] w fun e w' => e = .returned (.string (bsOf A h)) ∧ Below w.heap.size w w' := by
  refine (putInt_any ⟨#[]⟩ A h w (by decide)).mono ?_
  rintro e w' ⟨rfl, hb⟩
  refine ⟨congrArg (fun s => Ending.returned (.string s)) ?_, hb⟩
  rw [u64_nat A (by omega), held_mid h (by omega) (by omega), Int.toNat_natCast]
  exact bs_append [] _

theorem of0 (A h : Nat) (w : World) (hA : A ≤ 4294967295) (h4 : 4 ≤ h) (hh : h ≤ 8) :
    Calls Try.prog 11 #[.string (bsOf A h)] w fun e w' => e = .returned (.int .i64 A) ∧ Below w.heap.size w w' := by
  refine (ofInt_any (bsOf A h) w (by rw [bsOf_size]; omega)).mono ?_
  rintro e w' ⟨rfl, hb⟩
  refine ⟨congrArg (fun s => Ending.returned (.int .i64 s)) ?_, hb⟩
  rw [bsOf_whole A h hA h4]
  exact IntWalk.wrap64_in _ (by omega)
end Go.Proofs.Ytenpcdloidgckaa.Oct
