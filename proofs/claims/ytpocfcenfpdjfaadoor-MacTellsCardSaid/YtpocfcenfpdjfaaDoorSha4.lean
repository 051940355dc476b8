/- What stands behind the bytes that are summed; a text of one's own: the contracts of the program's. -/
import Derived.Test.YtpocfcenfpdjfaaDoorSha3
import Derived.Test.YtpocfcenfpdjfaaDoorPutInt
import Derived.Test.YtpocfcenfpdjfaaDoorPutU32
import Derived.Test.YtpocfcenfpdjfaaDoorShelf
namespace Go.Proofs.YtpocfcenfpdjfaaDoor.Sha
open Go.ChangeShapes Go.WideShapes Go.ChangeAt Go.RowKit
set_option linter.unusedVariables false

theorem clone_any (s : ByteArray) (w : World) (hs : s.size ≤ 100000) :
    Calls Tryd.prog 29 #[.string s] w fun e w' => e = .returned (.string s) ∧ Below w.heap.size w w' := by
  go_enter Tryd.func29, Tryd.ntmps29
  go_wp2_with fail
  refine (Tryd.stringslite_Clone _ _ (by omega)).mono ?_
  rintro e w1 ⟨rfl, h1⟩
  go_wp2_with fail
  go_ret
  exact ⟨rfl, h1⟩

/-- so many bytes 0 -/
def zeros (c : Nat) : ByteArray := ⟨(List.replicate c 0).toArray⟩
theorem zeros_size (c : Nat) : (zeros c).size = c := by show (List.replicate c (0 : UInt8)).toArray.size = c; simp
theorem repeat_zero (c : Nat) : Lib.repeatL [0] c = List.replicate c 0 := by
  induction c with
  | zero => rfl
  | succ c ih => rw [Lib.repeatL, ih]; rfl
theorem repeat_any (c : Nat) (hc : c ≤ 100000) (w : World) :
    Calls Tryd.prog 27 #[.string ⟨#[0]⟩, .int .i64 c] w fun e w' => e = .returned (.string (zeros c)) ∧ Below w.heap.size w w' := by
  refine (Tryd.strings_Repeat ⟨#[0]⟩ c w (by omega) (by show 1 * _ ≤ _; omega)).mono ?_
  rintro e w1 ⟨rfl, h1⟩
  refine ⟨?_, h1⟩
  unfold zeros
  rw [← repeat_zero]

theorem tail_is (n : Nat) (hn : n ≤ 100000) : (ByteArray.mk #[128] ++ zeros (63 - (n + 8) % 64)) ++ ByteArray.mk (Oct.be (Oct.nat64 (8 * n)) (Oct.held 8)).toArray = ByteArray.mk (tail n).toArray := by
  have h8 : Oct.held 8 = 8 := by rw [Oct.held_mid] <;> omega
  have h1 : Oct.nat64 (8 * n) = 8 * n := by unfold Oct.nat64; omega
  rw [h8, h1]
  unfold zeros
  rw [Oct.bs_append [128], Oct.bs_append]
  rfl

set_option maxHeartbeats 400000 in
theorem ending_any (n : Nat) (hn : n ≤ 100000) (w : World) :
    Calls Tryd.prog 31 #[.int .i64 n] w fun e w' => e = .returned (.string ⟨(tail n).toArray⟩) ∧ Below w.heap.size w w' := by
  go_enter Tryd.func31, Tryd.ntmps31
  go_wp2_with fail
  rw [show (63 : Int) - ((n : Int) + 8) % 64 = ((63 - (n + 8) % 64 : Nat) : Int) by omega]
  have hz := zeros_size (63 - (n + 8) % 64)
  have hz3 : (zeros (63 - (n + 8) % 64)).size ≤ 63 := by omega
  have Ht := Lib.hid (tail_is n hn)
  refine (repeat_any _ (by omega) w).mono ?_
  rintro e w1 ⟨rfl, h1⟩
  generalize zeros (63 - (n + 8) % 64) = z at *
  clear hz
  go_wp2_with fail
  refine (Oct.putInt_any _ _ _ _ (by simp [ByteArray.size_append]; show 1 + _ ≤ _; omega)).mono ?_
  rintro e w2 ⟨rfl, h2⟩
  have h0 := Lib.hid (h1.trans (h2.mono h1.size))
  clear h1 h2
  rw [Ht.out]
  go_wp2_with fail
  go_ret
  exact ⟨rfl, h0.out⟩
end Go.Proofs.YtpocfcenfpdjfaaDoor.Sha
