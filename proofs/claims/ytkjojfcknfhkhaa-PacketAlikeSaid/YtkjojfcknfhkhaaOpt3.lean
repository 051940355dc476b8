/- The first option that bytes say: the contract of the program's. -/
import Derived.Test.YtkjojfcknfhkhaaOpt2
import Derived.StillTailTactics
import Derived.BigRegion
import Derived.Handy
namespace Go.Proofs.Ytkjojfcknfhkhaa.Opt
open Go.ChangeShapes Go.WideShapes Go.ChangeAt Go.RowKit
set_option linter.unusedVariables false

set_option maxRecDepth 100000 in
set_option maxHeartbeats 800000 in
theorem first_any (s : ByteArray) (hs0 : 0 < s.size) (hs : s.size ≤ 3000) (w : World) :
    Calls Try.prog 97 #[.string s] w fun e w' => e = .returned (.tuple #[.agg #[.int .i64 (first s).1.kind, .string (first s).1.value], .string (first s).2.1, .int .i64 (first s).2.2]) ∧ Below w.heap.size w w' := by
  have hF := Lib.hid (show first s = if byte s 0 ≤ 31 then (⟨byte s 0, ⟨#[]⟩⟩, s.extract 1 s.size, 0)
    else if s.size < 2 then (none1, ⟨#[]⟩, 1)
    else if byte s 1 < 2 then (none1, ⟨#[]⟩, 4)
    else if s.size < byte s 1 then (none1, ⟨#[]⟩, 1)
    else (⟨byte s 0, s.extract 2 (byte s 1)⟩, s.extract (byte s 1) s.size, 0) from rfl)
  generalize first s = F at *
  have hb := fun (k : Int) (v : ByteArray) => (Below.refl w.heap.size w).alloc (Nat.le_refl _) (.cells #[.int .i64 k, .string v] 57)
  have hk0 := byte_eq hs0
  have hu0 : s[0].toNat < 256 := UInt8.toNat_lt _
  rw [hk0] at hF
  clear hk0
  by_cases h31 : s[0].toNat ≤ 31
  · have HF := Lib.hid (hF.out.trans (if_pos h31))
    have h31' : (s[0].toNat : Int) ≤ 31 := by omega
    go_enter Try.func97, Try.ntmps97
    go_wp2_with fail
    go_region
    go_wp2_with fail
    go_returns
    exact ⟨by rw [HF.out], (hb (s[0].toNat) ⟨#[]⟩).drew⟩
  · have h31' : ¬ (s[0].toNat : Int) ≤ 31 := by omega
    replace hF := Lib.hid (hF.out.trans (if_neg h31))
    by_cases hs2 : s.size < 2
    · have HF := Lib.hid (hF.out.trans (if_pos hs2))
      go_enter Try.func97, Try.ntmps97
      go_wp2_with fail
      go_returns
      exact ⟨by rw [HF.out]; rfl, hb _ _⟩
    · replace hF := Lib.hid (hF.out.trans (if_neg hs2))
      have hk1 := byte_eq (s := s) (i := 1) (by omega)
      have hl1 : 1 < s.size := by omega
      have hu1 : s[1].toNat < 256 := UInt8.toNat_lt _
      rw [hk1] at hF
      clear hk1
      by_cases hn2 : s[1].toNat < 2
      · have HF := Lib.hid (hF.out.trans (if_pos hn2))
        have hn2' : (s[1].toNat : Int) < 2 := by omega
        go_enter Try.func97, Try.ntmps97
        go_wp2_with fail
        go_returns
        exact ⟨by rw [HF.out]; rfl, hb _ _⟩
      · replace hF := Lib.hid (hF.out.trans (if_neg hn2))
        have hn2' : ¬ (s[1].toNat : Int) < 2 := by omega
        by_cases hn : s.size < s[1].toNat
        · have HF := Lib.hid (hF.out.trans (if_pos hn))
          have hn' : (s.size : Int) < (s[1].toNat : Int) := by omega
          go_enter Try.func97, Try.ntmps97
          go_wp2_with fail
          go_returns
          exact ⟨by rw [HF.out]; rfl, hb _ _⟩
        · have HF := Lib.hid (hF.out.trans (if_neg hn))
          have hn' : ¬ (s.size : Int) < (s[1].toNat : Int) := by omega
          have hn3 : (2 : Int) ≤ (s[1].toNat : Int) := by omega
          have hn4 : (s[1].toNat : Int) ≤ (s.size : Int) := by omega
          go_enter Try.func97, Try.ntmps97
          go_wp2_with fail
          go_region
          go_wp2_with fail
          go_returns
          exact ⟨by rw [HF.out], (hb (s[0].toNat) (s.extract 2 s[1].toNat)).drew⟩
end Go.Proofs.Ytkjojfcknfhkhaa.Opt
