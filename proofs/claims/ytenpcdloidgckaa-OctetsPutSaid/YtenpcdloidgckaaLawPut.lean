/- The walk of OctetsPut. -/
import Derived.Test.YtenpcdloidgckaaWorks1
import Derived.Test.YtenpcdloidgckaaPutU16
import Derived.Test.YtenpcdloidgckaaRefPut1
import Derived.Test.YtenpcdloidgckaaRefOf1
import Derived.Test.YtenpcdloidgckaaOfU16
import Derived.Test.YtenpcdloidgckaaOfU64
namespace Go.Proofs.Ytenpcdloidgckaa.Oct
open Go.ChangeShapes Go.WideShapes Go.ChangeAt Go.RowKit
set_option linter.unusedVariables false

theorem u64_wrap (n : Int) : IntKind.u64.wrap n = (nat64 n : Int) := by rw [IntKind.wrap_u64, u64_cast]

set_option maxHeartbeats 800000 in
theorem OctetsPut_walk (a0 : ByteArray) (a1 : Int) (a2 : Int) (a3 : Int) (w0 : a0.size ≤ maxLen) (w1 : (Lit.int .i64 a1).wf = true) (w2 : (Lit.int .u16 a2).wf = true) (w3 : (Lit.int .i64 a3).wf = true) (w : World) :
    Calls Try.prog 3 #[.string a0, .int .i64 a1, .int .u16 a2, .int .i64 a3] w fun e w' => e = .returned (.bool true) ∧ Below w.heap.size w w' := by
  unfold maxLen at w0
  have hwn := u64_wrap a1
  have hu := u64_lt a1
  obtain ⟨m, rfl, hm⟩ : ∃ m : Nat, a2 = (m : Int) ∧ m ≤ 65535 := by
    have := fits_u16 w2
    exact ⟨a2.toNat, by omega, by omega⟩
  clear w1 w2 w3
  by_cases hs : a0.size ≤ 3000
  · have hs4 : a0.size ≤ 4000 := by omega
    have hN : nat64 a1 ≤ 18446744073709551615 := by omega
    go_enter Try.func3, Try.ntmps3
    go_wp2_with fail
    refine (works_any _).mono ?_
    rintro e w1 ⟨rfl, h1⟩
    have h0 := Lib.hid h1
    clear h1
    go_wp2_with fail
    refine (putInt_any _ _ _ _ hs4).mono ?_
    rintro e w2 ⟨rfl, h1⟩
    have h0 := Lib.hid (h0.out.trans (h1.mono h0.out.size))
    clear h1
    go_wp2_with fail
    refine (refPut_any _ _ _ _ hs4 hN).mono ?_
    rintro e w3 ⟨rfl, h1⟩
    have h0 := Lib.hid (h0.out.trans (h1.mono h0.out.size))
    clear h1
    go_wp2_with fail
    refine (putU16_any _ _ _ _ hs4 hm).mono ?_
    rintro e w4 ⟨rfl, h1⟩
    have h0 := Lib.hid (h0.out.trans (h1.mono h0.out.size))
    clear h1
    go_wp2_with fail
    refine (refPut_any _ _ _ _ hs4 (by omega)).mono ?_
    rintro e w5 ⟨rfl, h1⟩
    have h0 := Lib.hid (h0.out.trans (h1.mono h0.out.size))
    clear h1
    go_wp2_with fail
    refine (ofInt_any _ _ hs4).mono ?_
    rintro e w6 ⟨rfl, h1⟩
    have h0 := Lib.hid (h0.out.trans (h1.mono h0.out.size))
    clear h1
    go_wp2_with fail
    refine (refOf_any _ _ hs4).mono ?_
    rintro e w7 ⟨rfl, rfl⟩
    go_wp2_with fail
    refine (ofU16_any _ _ hs4).mono ?_
    rintro e w8 ⟨rfl, h1⟩
    have h0 := Lib.hid (h0.out.trans (h1.mono h0.out.size))
    clear h1
    go_wp2_with fail
    refine (refOf_any _ _ hs4).mono ?_
    rintro e w9 ⟨rfl, rfl⟩
    go_wp2_with fail
    refine (ofU64_any _ _ hs4).mono ?_
    rintro e w10 ⟨rfl, h1⟩
    have h0 := Lib.hid (h0.out.trans (h1.mono h0.out.size))
    clear h1
    go_wp2_with fail
    refine (refOf_any _ _ hs4).mono ?_
    rintro e w11 ⟨rfl, rfl⟩
    go_wp2_with fail
    go_ret
    exact ⟨rfl, h0.out⟩
  · go_enter Try.func3, Try.ntmps3
    go_wp2_with fail
    refine (works_any _).mono ?_
    rintro e w1 ⟨rfl, h1⟩
    go_wp2_with fail
    go_ret
    exact ⟨rfl, h1⟩
end Go.Proofs.Ytenpcdloidgckaa.Oct
