/- The document's constants, and its bytes up to the end of a block: the contracts. -/
import Derived.Test.YtpocfcenfpdjfaaDoorSha4
import Derived.Test.YtpocfcenfpdjfaaDoorRefPut1
import Derived.Test.YtpocfcenfpdjfaaDoorRefOf1
namespace Go.Proofs.YtpocfcenfpdjfaaDoor.Sha
open Go.ChangeShapes Go.WideShapes Go.ChangeAt Go.RowKit
set_option linter.unusedVariables false

theorem ks_at (i : Nat) (hi : i < 64) : (ks.map (Value.int .u32))[i]'(by simpa [ks_length] using hi) = .int .u32 (ks.getD i 0) := by
  simp [List.getD, List.getElem?_eq_getElem (show i < ks.length from hi)]

set_option maxRecDepth 100000 in
set_option maxHeartbeats 1000000 in
theorem refK_any (i : Nat) (hi : i < 64) (w : World) :
    Calls Tryd.prog 35 #[.int .i64 i] w fun e w' => e = .returned (.int .u32 (ks.getD i 0)) ∧ Below w.heap.size w w' := by
  go_enter Tryd.func35, Tryd.ntmps35
  go_wp2_with fail
  go_ret
  exact ⟨congrArg Ending.returned (ks_at i hi), (Below.refl _ _).alloc (Nat.le_refl _) _⟩

/-- the bytes, 128, and j bytes 0 -/
def padTo (s : ByteArray) (j : Nat) : ByteArray := ⟨(s.data.toList ++ 128 :: List.replicate j 0).toArray⟩
theorem padTo_size (s : ByteArray) (j : Nat) : (padTo s j).size = s.size + 1 + j := by
  show (s.data.toList ++ 128 :: List.replicate j 0).toArray.size = _
  have : s.data.toList.length = s.size := rfl
  simp; omega
theorem padTo_zero (s : ByteArray) : s ++ ⟨#[128]⟩ = padTo s 0 := by
  apply ByteArray.ext
  rw [ByteArray.data_append]
  apply Array.toList_inj.1
  simp [padTo]
theorem padTo_succ (s : ByteArray) (j : Nat) : padTo s j ++ ⟨#[0]⟩ = padTo s (j + 1) := by
  apply ByteArray.ext
  rw [ByteArray.data_append]
  apply Array.toList_inj.1
  simp [padTo, List.replicate_succ']
theorem padTo_all (s : ByteArray) (hs : s.size ≤ 30000) : padTo s (63 - (s.size + 8) % 64) ++ ⟨(Oct.be (8 * s.size) (Oct.held 8)).toArray⟩ = ⟨(s.data.toList ++ tail s.size).toArray⟩ := by
  have h8 : Oct.held 8 = 8 := by rw [Oct.held_mid] <;> omega
  rw [h8]
  unfold padTo
  rw [Oct.bs_append, List.append_assoc]
  rfl

set_option maxHeartbeats 400000 in
theorem refPad_any (s : ByteArray) (hs : s.size ≤ 30000) (w : World) :
    Calls Tryd.prog 33 #[.string s] w fun e w' => e = .returned (.string ⟨(s.data.toList ++ tail s.size).toArray⟩) ∧ Below w.heap.size w w' := by
  go_enter Tryd.func33, Tryd.ntmps33
  go_wp2_with fail
  go_loop [3] (fun v => ∃ j : Nat, j ≤ 63 - (s.size + 8) % 64 ∧ v = .string (padTo s j)) (fun v => match v with | .string t => 40000 - t.size | _ => 0)
  case atStart => exact ⟨0, by omega, by rw [padTo_zero]⟩
  case round =>
    obtain ⟨j, hj, rfl⟩ := hrel
    have hz := padTo_size s j
    have hz2 : (padTo s j).size ≤ 30100 := by omega
    by_cases hlt : j < 63 - (s.size + 8) % 64
    · have hc : ((((padTo s j).size : Int) % 64) != 56) = true := by
        have : ((padTo s j).size : Int) % 64 ≠ 56 := by omega
        simpa using this
      have Hn := Lib.hid (padTo_succ s j)
      have hz3 : 40000 - (padTo s (j + 1)).size < 40000 - (padTo s j).size := by rw [padTo_size, padTo_size]; omega
      have Hj := Lib.hid (show ∃ j' : Nat, j' ≤ 63 - (s.size + 8) % 64 ∧ padTo s j ++ ⟨#[0]⟩ = padTo s j' from ⟨j + 1, by omega, padTo_succ s j⟩)
      rw [← Hn.out] at hz3
      generalize padTo s j = t at *
      clear hz
      go_wp2_with fail
      obtain ⟨j', h1, h2⟩ := Hj.out
      exact ⟨⟨j', h1, by rw [h2]⟩, hz3⟩
    · obtain rfl : j = 63 - (s.size + 8) % 64 := by omega
      have hc : ((((padTo s (63 - (s.size + 8) % 64)).size : Int) % 64) != 56) = false := by
        have : ((padTo s (63 - (s.size + 8) % 64)).size : Int) % 64 = 56 := by omega
        simpa using this
      have Ha := Lib.hid (padTo_all s hs)
      generalize padTo s (63 - (s.size + 8) % 64) = t at *
      clear hz
      have hu : IntKind.u64.wrap (8 * (s.size : Int)) = ((8 * s.size : Nat) : Int) := by rw [IntKind.wrap_u64]; omega
      go_wp2_with fail
      rw [show (8 : Int) * (s.size : Int) = ((8 * s.size : Nat) : Int) by omega]
      refine (Oct.refPut_any _ _ _ _ (by omega) (by omega)).mono ?_
      rintro e w2 ⟨rfl, h2⟩
      rw [Ha.out]
      go_wp2_with fail
      go_ret
      exact ⟨rfl, h2⟩
end Go.Proofs.YtpocfcenfpdjfaaDoor.Sha
