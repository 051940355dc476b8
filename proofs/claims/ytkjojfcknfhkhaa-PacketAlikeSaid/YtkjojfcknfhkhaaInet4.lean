/- The contracts of Covered, of Pseudo, of what is too many, and of the anchor. -/
import Derived.Test.YtkjojfcknfhkhaaInet3
import Derived.Test.YtkjojfcknfhkhaaPutInt
import Derived.Test.YtkjojfcknfhkhaaRefPut1
namespace Go.Proofs.Ytkjojfcknfhkhaa.Inet
open Go.ChangeShapes Go.WideShapes Go.ChangeAt Go.RowKit
open Go.Proofs.Ytkjojfcknfhkhaa.Oct
set_option linter.unusedVariables false

/-- what of a packet is summed -/
def covc (h d : ByteArray) (c : Int) : ByteArray × Bool :=
  if c < 0 ∨ 15 < c then (⟨#[]⟩, false) else if c = 0 then (h ++ d, true) else if (d.size : Int) < 4 * (c - 1) then (⟨#[]⟩, false) else (h ++ d.extract 0 (4 * (c - 1)).toNat, true)
def covVal (h d : ByteArray) (c : Int) : Value := .tuple #[.string (covc h d c).1, .bool (covc h d c).2]
theorem covVal_no (h d : ByteArray) (c : Int) (hc : c < 0 ∨ 15 < c) : covVal h d c = .tuple #[.string ⟨#[]⟩, .bool false] := by unfold covVal covc; rw [if_pos hc]
theorem covVal_all (h d : ByteArray) (c : Int) (hc : c = 0) : covVal h d c = .tuple #[.string (h ++ d), .bool true] := by unfold covVal covc; rw [if_neg (by omega), if_pos hc]
theorem covVal_few (h d : ByteArray) (c : Int) (h0 : 1 ≤ c) (h1 : c ≤ 15) (hc : (d.size : Int) < 4 * (c - 1)) : covVal h d c = .tuple #[.string ⟨#[]⟩, .bool false] := by
  unfold covVal covc; rw [if_neg (by omega), if_neg (by omega), if_pos hc]
theorem covVal_cut (h d : ByteArray) (c : Int) (h0 : 1 ≤ c) (h1 : c ≤ 15) (hc : 4 * (c - 1) ≤ (d.size : Int)) : covVal h d c = .tuple #[.string (h ++ d.extract 0 (4 * (c - 1)).toNat), .bool true] := by
  unfold covVal covc; rw [if_neg (by omega), if_neg (by omega), if_neg (by omega)]

set_option maxHeartbeats 400000 in
theorem covered_any (h d : ByteArray) (c : Int) (w : World) (hh : h.size ≤ 4000) (hd : d.size ≤ 4000) :
    Calls Try.prog 30 #[.string h, .string d, .int .i64 c] w fun e w' => e = .returned (covVal h d c) ∧ w = w' := by
  by_cases h1 : c < 0
  · rw [covVal_no h d c (.inl h1)]
    go_enter Try.func30, Try.ntmps30
    go_wp2_with fail
    go_ret2
    exact ⟨rfl, rfl⟩
  by_cases h2 : 15 < c
  · rw [covVal_no h d c (.inr h2)]
    go_enter Try.func30, Try.ntmps30
    go_wp2_with fail
    go_ret2
    exact ⟨rfl, rfl⟩
  by_cases h3 : c = 0
  · rw [covVal_all h d c h3]
    subst h3
    go_enter Try.func30, Try.ntmps30
    go_wp2_with fail
    go_ret2
    exact ⟨rfl, rfl⟩
  have h5 : 1 ≤ c := by omega
  have h6 : c ≤ 15 := by omega
  have h7 : (c == 0) = false := by simpa using h3
  by_cases h4 : (d.size : Int) < 4 * (c - 1)
  · rw [covVal_few h d c h5 h6 h4]
    go_enter Try.func30, Try.ntmps30
    go_wp2_with fail
    go_ret2
    exact ⟨rfl, rfl⟩
  · have h8 : 4 * (c - 1) ≤ (d.size : Int) := by omega
    rw [covVal_cut h d c h5 h6 h8]
    go_enter Try.func30, Try.ntmps30
    go_wp2_with fail
    go_ret2
    exact ⟨rfl, rfl⟩

set_option maxHeartbeats 400000 in
theorem refCovered_any (h d : ByteArray) (c : Int) (w : World) (hh : h.size ≤ 4000) (hd : d.size ≤ 4000) :
    Calls Try.prog 36 #[.string h, .string d, .int .i64 c] w fun e w' => e = .returned (covVal h d c) ∧ w = w' := by
  by_cases h1 : c < 0
  · rw [covVal_no h d c (.inl h1)]
    go_enter Try.func36, Try.ntmps36
    go_wp2_with fail
    go_ret2
    exact ⟨rfl, rfl⟩
  by_cases h2 : 15 < c
  · rw [covVal_no h d c (.inr h2)]
    go_enter Try.func36, Try.ntmps36
    go_wp2_with fail
    go_ret2
    exact ⟨rfl, rfl⟩
  by_cases h3 : c = 0
  · rw [covVal_all h d c h3]
    subst h3
    go_enter Try.func36, Try.ntmps36
    go_wp2_with fail
    go_ret2
    exact ⟨rfl, rfl⟩
  have h5 : 1 ≤ c := by omega
  have h6 : c ≤ 15 := by omega
  have h7 : (c == 0) = false := by simpa using h3
  by_cases h4 : (d.size : Int) < 4 * (c - 1)
  · rw [covVal_few h d c h5 h6 h4]
    go_enter Try.func36, Try.ntmps36
    go_wp2_with fail
    go_ret2
    exact ⟨rfl, rfl⟩
  · have h8 : 4 * (c - 1) ≤ (d.size : Int) := by omega
    rw [covVal_cut h d c h5 h6 h8]
    go_enter Try.func36, Try.ntmps36
    go_wp2_with fail
    go_ret2
    exact ⟨rfl, rfl⟩

/-- a packet's way -/
def pse (f t z : Int) : ByteArray := ⟨(be (nat64 f) 4 ++ be (nat64 t) 4 ++ [0, 33] ++ be (nat64 z) 2).toArray⟩
theorem bs_size (l : List UInt8) : (⟨l.toArray⟩ : ByteArray).size = l.length := rfl
theorem pse_size (f t z : Int) : (pse f t z).size = 12 := by unfold pse; rw [bs_size]; simp

set_option maxHeartbeats 400000 in
theorem pseudo_any (f t z : Int) (w : World) :
    Calls Try.prog 53 #[.int .i64 f, .int .i64 t, .int .i64 z] w fun e w' => e = .returned (.string (pse f t z)) ∧ Below w.heap.size w w' := by
  have k4 : held 4 = 4 := by decide
  have k2 : held 2 = 2 := by decide
  have e1 := Lib.hid (show (⟨#[]⟩ : ByteArray) ++ ⟨(be (nat64 f) (held 4)).toArray⟩ = ⟨(be (nat64 f) 4).toArray⟩ by rw [k4]; exact bs_append [] _)
  have e2 := Lib.hid (show (⟨(be (nat64 f) 4).toArray⟩ : ByteArray) ++ ⟨(be (nat64 t) (held 4)).toArray⟩ = ⟨(be (nat64 f) 4 ++ be (nat64 t) 4).toArray⟩ by rw [k4]; exact bs_append _ _)
  have e3 := Lib.hid (show (⟨(be (nat64 f) 4 ++ be (nat64 t) 4).toArray⟩ : ByteArray) ++ ⟨(be (nat64 33) (held 2)).toArray⟩ = ⟨(be (nat64 f) 4 ++ be (nat64 t) 4 ++ [0, 33]).toArray⟩ by
    rw [k2, show be (nat64 33) 2 = [0, 33] by decide]; exact bs_append _ _)
  have e4 := Lib.hid (show (⟨(be (nat64 f) 4 ++ be (nat64 t) 4 ++ [0, 33]).toArray⟩ : ByteArray) ++ ⟨(be (nat64 z) (held 2)).toArray⟩ = pse f t z by
    rw [k2]; exact bs_append _ _)
  have s1 : (⟨(be (nat64 f) 4).toArray⟩ : ByteArray).size ≤ 4000 := by rw [bs_size]; simp
  have s2 : (⟨(be (nat64 f) 4 ++ be (nat64 t) 4).toArray⟩ : ByteArray).size ≤ 4000 := by rw [bs_size]; simp
  have s3 : (⟨(be (nat64 f) 4 ++ be (nat64 t) 4 ++ [0, 33]).toArray⟩ : ByteArray).size ≤ 4000 := by rw [bs_size]; simp
  clear k4 k2
  generalize (⟨(be (nat64 f) 4).toArray⟩ : ByteArray) = x1 at *
  generalize (⟨(be (nat64 f) 4 ++ be (nat64 t) 4).toArray⟩ : ByteArray) = x2 at *
  generalize (⟨(be (nat64 f) 4 ++ be (nat64 t) 4 ++ [0, 33]).toArray⟩ : ByteArray) = x3 at *
  generalize pse f t z = x4 at *
  go_enter Try.func53, Try.ntmps53
  go_wp2_with fail
  refine (putInt_any _ _ _ _ (by decide)).mono ?_
  rintro e w1 ⟨rfl, h1⟩
  have h0 := Lib.hid h1
  clear h1
  rw [e1.out]
  go_wp2_with fail
  refine (putInt_any _ _ _ _ (Nat.le_trans s1 (by decide))).mono ?_
  rintro e w2 ⟨rfl, h1⟩
  have h0 := Lib.hid (h0.out.trans (h1.mono h0.out.size))
  clear h1
  rw [e2.out]
  go_wp2_with fail
  refine (putInt_any _ _ _ _ (Nat.le_trans s2 (by decide))).mono ?_
  rintro e w3 ⟨rfl, h1⟩
  have h0 := Lib.hid (h0.out.trans (h1.mono h0.out.size))
  clear h1
  rw [e3.out]
  go_wp2_with fail
  refine (putInt_any _ _ _ _ (Nat.le_trans s3 (by decide))).mono ?_
  rintro e w4 ⟨rfl, h1⟩
  have h0 := Lib.hid (h0.out.trans (h1.mono h0.out.size))
  clear h1
  rw [e4.out]
  go_wp2_with fail
  go_ret
  exact ⟨rfl, h0.out⟩

theorem u64_wrap (n : Int) : IntKind.u64.wrap n = (nat64 n : Int) := by rw [IntKind.wrap_u64, u64_cast]

set_option maxHeartbeats 400000 in
theorem refPseudo_any (f t z : Int) (w : World) :
    Calls Try.prog 55 #[.int .i64 f, .int .i64 t, .int .i64 z] w fun e w' => e = .returned (.string (pse f t z)) ∧ Below w.heap.size w w' := by
  have k4 : held 4 = 4 := by decide
  have k2 : held 2 = 2 := by decide
  have e1 := Lib.hid (show (⟨#[]⟩ : ByteArray) ++ ⟨(be (nat64 f) (held 4)).toArray⟩ = ⟨(be (nat64 f) 4).toArray⟩ by rw [k4]; exact bs_append [] _)
  have e2 := Lib.hid (show (⟨(be (nat64 f) 4).toArray⟩ : ByteArray) ++ ⟨(be (nat64 t) (held 4)).toArray⟩ = ⟨(be (nat64 f) 4 ++ be (nat64 t) 4).toArray⟩ by rw [k4]; exact bs_append _ _)
  have e3 := Lib.hid (show (⟨(be (nat64 f) 4 ++ be (nat64 t) 4).toArray⟩ : ByteArray) ++ ⟨#[0, 33]⟩ = ⟨(be (nat64 f) 4 ++ be (nat64 t) 4 ++ [0, 33]).toArray⟩ from bs_append _ _)
  have e4 := Lib.hid (show (⟨(be (nat64 f) 4 ++ be (nat64 t) 4 ++ [0, 33]).toArray⟩ : ByteArray) ++ ⟨(be (nat64 z) (held 2)).toArray⟩ = pse f t z by
    rw [k2]; exact bs_append _ _)
  have s1 : (⟨(be (nat64 f) 4).toArray⟩ : ByteArray).size ≤ 4000 := by rw [bs_size]; simp
  have s2 : (⟨(be (nat64 f) 4 ++ be (nat64 t) 4).toArray⟩ : ByteArray).size ≤ 4000 := by rw [bs_size]; simp
  have s3 : (⟨(be (nat64 f) 4 ++ be (nat64 t) 4 ++ [0, 33]).toArray⟩ : ByteArray).size ≤ 4000 := by rw [bs_size]; simp
  have uf := u64_lt f
  have ut := u64_lt t
  have uz := u64_lt z
  have wf := Lib.hid (u64_wrap f)
  have wt := Lib.hid (u64_wrap t)
  have wz := Lib.hid (u64_wrap z)
  clear k4 k2
  generalize (⟨(be (nat64 f) 4).toArray⟩ : ByteArray) = x1 at *
  generalize (⟨(be (nat64 f) 4 ++ be (nat64 t) 4).toArray⟩ : ByteArray) = x2 at *
  generalize (⟨(be (nat64 f) 4 ++ be (nat64 t) 4 ++ [0, 33]).toArray⟩ : ByteArray) = x3 at *
  generalize pse f t z = x4 at *
  go_enter Try.func55, Try.ntmps55
  go_wp2_with fail
  rw [wf.out]
  refine (refPut_any _ _ _ _ (by decide) (by omega)).mono ?_
  rintro e w1 ⟨rfl, h1⟩
  have h0 := Lib.hid h1
  clear h1
  rw [e1.out]
  go_wp2_with fail
  rw [wt.out]
  refine (refPut_any _ _ _ _ (Nat.le_trans s1 (by decide)) (by omega)).mono ?_
  rintro e w2 ⟨rfl, h1⟩
  have h0 := Lib.hid (h0.out.trans (h1.mono h0.out.size))
  clear h1
  rw [e2.out]
  go_wp2_with fail
  rw [wz.out, e3.out]
  refine (refPut_any _ _ _ _ (Nat.le_trans s3 (by decide)) (by omega)).mono ?_
  rintro e w4 ⟨rfl, h1⟩
  have h0 := Lib.hid (h0.out.trans (h1.mono h0.out.size))
  clear h1
  rw [e4.out]
  go_wp2_with fail
  go_ret
  exact ⟨rfl, h0.out⟩
end Go.Proofs.Ytkjojfcknfhkhaa.Inet
