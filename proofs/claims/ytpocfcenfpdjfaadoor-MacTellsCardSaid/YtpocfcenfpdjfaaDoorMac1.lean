/- Bytes turned by a function that is handed over: the contracts of the program's. -/
import Derived.Test.YtpocfcenfpdjfaaDoorMac0
import Derived.Test.YtpocfcenfpdjfaaDoorBytesAt
import Derived.Deep.QuietTactic
import Derived.BigQuiet
namespace Go.Proofs.YtpocfcenfpdjfaaDoor.Mac
open Go.ChangeShapes Go.WideShapes Go.ChangeAt Go.RowKit
open Go.Proofs.YtpocfcenfpdjfaaDoor.Oct (newCap newRow1 run_bytes_new BytesAt)
set_option linter.unusedVariables false

/-- the function that turns a byte by the number that a block holds -/
def turner (B : Nat) : Value := .func (.func 30) #[] #[.pointer (some ⟨B, 0, none⟩)]

theorem clo_any (b n : Int) (B : Nat) (w : World) (hc : w.cell? ⟨B, 0, none⟩ = some (.int .u8 n)) :
    Calls Tryd.prog 30 #[.int .u8 b, .pointer (some ⟨B, 0, none⟩)] w fun e w' => e = .returned (.int .u8 (bits .xor .u8 b n)) ∧ w' = w := by
  go_enter Tryd.func30, Tryd.ntmps30
  go_wp2_with fail
  go_ret
  exact ⟨rfl, rfl⟩

theorem by_any (n : Int) (w : World) :
    Calls Tryd.prog 18 #[.int .u8 n] w fun e w' => e = .returned (turner w.heap.size) ∧ w'.cell? ⟨w.heap.size, 0, none⟩ = some (.int .u8 n) ∧ w.heap.size < w'.heap.size ∧ Below w.heap.size w w' := by
  go_enter Tryd.func18, Tryd.ntmps18
  go_wp2_with fail
  go_ret
  exact ⟨rfl, by rw [World.cell?_alloc_mark]; rfl, by simp, (Below.refl _ _).alloc (Nat.le_refl _) _⟩

set_option maxHeartbeats 400000 in
theorem turned_any (s : ByteArray) (n : Int) (B : Nat) (w : World) (hs : s.size ≤ 1000) (hc : w.cell? ⟨B, 0, none⟩ = some (.int .u8 n)) (hB : B < w.heap.size) :
    Calls Tryd.prog 17 #[.string s, turner B] w fun e w' => e = .returned (.string ⟨(turn n s.data.toList).toArray⟩) ∧ Below w.heap.size w w' := by
  have hnew := run_bytes_new s w
  have hlen := Lib.hid (Oct.size_list s)
  unfold turner
  go_enter Tryd.func17, Tryd.ntmps17
  go_wp2_with fail
  clear hnew
  have HB := BytesAt.new s w
  have h0 := ((Below.refl w.heap.size w).alloc (Nat.le_refl _) (newRow1 w s)).drew
  have hz0 : w.heap.size < (w.alloc (newRow1 w s)).drew.heap.size := by simp
  rw [← upto_zero n s.data.toList] at HB
  generalize (w.alloc (newRow1 w s)).drew = w2 at *
  generalize newCap w s = c at *
  go_loopw [6, 7, 12] (fun _ _ i wr => ∃ k : Nat, k ≤ s.size ∧ i = .int .i64 k ∧ BytesAt wr w.heap.size (upto n s.data.toList k) ∧ w.heap.size < wr.heap.size ∧ Below w.heap.size w wr) (fun _ _ i _ => s.size - (intOf i).toNat)
  case atStart => exact ⟨0, by omega, rfl, HB, hz0, h0⟩
  case round =>
    clear HB h0 hz0
    obtain ⟨k, hk, rfl, HB, hz, hb⟩ := hrel
    by_cases hlt : k < s.size
    · have hkl : k < s.data.toList.length := by rw [hlen.out]; exact hlt
      have ck := HB.1 k (by rw [upto_length]; exact hkl)
      have fk := HB.2 k (by rw [upto_length]; exact hkl)
      rw [upto_get n _ k hkl] at ck
      have Hs := Lib.hid (HB.set k (turn1 n s.data.toList[k]) (by rw [upto_length]; exact hkl))
      rw [upto_set n _ k hkl, turn1_num] at Hs
      have hu := (s.data.toList[k]).toNat_lt
      have hcw := (hb.cell (p := ⟨B, 0, none⟩) hB).trans hc
      generalize ((s.data.toList[k]).toNat : Int) = v at *
      clear HB
      go_wp2_with fail
      refine (clo_any v n B wr hcw).mono ?_
      rintro e wr ⟨rfl, rfl⟩
      have i1 : (0 : Int) ≤ (k : Int) ∧ (k : Int) < (s.size : Int) := by omega
      go_wp2_with fail
      exact ⟨⟨k + 1, by omega, by go_num, Hs.out, by simpa using hz, hb.setCell (p := ⟨w.heap.size, k, none⟩) (Nat.le_refl _) _⟩, by simp [intOf]; omega⟩
    · obtain rfl : k = s.size := by omega
      rw [← hlen.out, upto_all] at HB
      have hconv := HB.back s.size c (by rw [turn_length, hlen.out])
      clear HB
      go_wp2_with fail
      go_ret
      exact ⟨rfl, hb⟩
end Go.Proofs.YtpocfcenfpdjfaaDoor.Mac
