/- The walk of OctetsOrder. -/
import Derived.Test.YtenpcdloidgckaaLawOrderA
import Derived.Deep.DeepCutAuto
import Derived.Deep.RegionHeld3
namespace Go.Proofs.Ytenpcdloidgckaa.Oct
open Go.ChangeShapes Go.WideShapes Go.ChangeAt Go.RowKit
set_option linter.unusedVariables false

set_option maxHeartbeats 800000 in
theorem OctetsOrder_walk (a0 : Int) (a1 : Int) (a2 : Int) (w0 : (Lit.int .u32 a0).wf = true) (w1 : (Lit.int .u32 a1).wf = true) (w2 : (Lit.int .i64 a2).wf = true) (w : World) :
    Calls Try.prog 6 #[.int .u32 a0, .int .u32 a1, .int .i64 a2] w fun e w' => e = .returned (.bool true) ∧ Below w.heap.size w w' := by
  obtain ⟨A, rfl, hA⟩ : ∃ m : Nat, a0 = (m : Int) ∧ m ≤ 4294967295 := ⟨a0.toNat, by have := fits_u32 w0; omega, by have := fits_u32 w0; omega⟩
  obtain ⟨B, rfl, hB⟩ : ∃ m : Nat, a1 = (m : Int) ∧ m ≤ 4294967295 := ⟨a1.toNat, by have := fits_u32 w1; omega, by have := fits_u32 w1; omega⟩
  clear w0 w1 w2
  obtain ⟨h, hh⟩ : ∃ h : Nat, h = (min (max a2 4) 8).toNat := ⟨_, rfl⟩
  have h4 : 4 ≤ h := by omega
  have h8 : h ≤ 8 := by omega
  have Hh := Lib.hid hh
  clear hh
  go_enter Try.func6, Try.ntmps6
  go_wp2_with fail
  refine (works_any _).mono ?_
  rintro e w1 ⟨rfl, h1⟩
  have h0 := Lib.hid h1
  clear h1
  go_upto_region 3 with fail
  go_cut [7] (fun n wx => n = .int .i64 h ∧ wx = w1)
  case first =>
    go_wp2
    all_goals (go_meet; refine ⟨?_, rfl⟩; have := Hh.out; go_num)
  case rest =>
    obtain ⟨rfl, rfl⟩ := hcut
    go_wp2_with fail
    refine (put0 A h _ hA h8).mono ?_
    rintro e w2 ⟨rfl, h1⟩
    have h0 := Lib.hid (h0.out.trans (h1.mono h0.out.size))
    clear h1
    go_wp2_with fail
    refine (put0 B h _ hB h8).mono ?_
    rintro e w3 ⟨rfl, h1⟩
    have h0 := Lib.hid (h0.out.trans (h1.mono h0.out.size))
    clear h1
    have s1 := bsOf_size A h
    have s2 := bsOf_size B h
    have s3 := bsOf_less A B h hA hB h4
    have s4 := bsOf_eq A B h hA hB h4
    go_wp2_with fail
    clear s3 s4
    go_loop [10] (fun i => ∃ k : Nat, k + 4 ≤ h ∧ i = .int .i64 k) (fun i => h - (intOf i).toNat)
    case atStart => exact ⟨0, by omega, rfl⟩
    case round =>
      obtain ⟨k, hk, rfl⟩ := hrel
      by_cases hlt : k + 4 < h
      · have z1 := bsOf_zero A h k hA hlt (by rw [s1]; omega)
        have z2 := bsOf_zero B h k hB hlt (by rw [s2]; omega)
        go_wp2
        exact ⟨⟨k + 1, by omega, by go_num⟩, by simp [intOf]; omega⟩
      · have e2 := bsOf_cut A h h4
        have hc1 := of0 A h
        have hc2 := put0 A 4
        have HC1 := Lib.hid (fun w => hc1 w hA h4 h8)
        have HC2 := Lib.hid (fun w => hc2 w hA (by omega))
        clear hc1 hc2
        have r0 : (0 : Int) ≤ (h : Int) - 4 := by omega
        have r3 : (h : Int) - 4 ≤ (h : Int) := by omega
        have r1 : IntKind.i64.wrap ((h : Int) - 4) = (h : Int) - 4 := IntWalk.i64_in _ (by omega)
        have r5 : (4 : Int) ≤ (h : Int) := by omega
        have r6 : (4 : Int) ≤ (h : Int) ∧ (h : Int) - 4 ≤ (h : Int) := by omega
        have r4 : IntKind.i64.wrap (A : Int) = (A : Int) := IntWalk.i64_in _ (by omega)
        have r2 : ((h : Int) - 4).toNat = h - 4 := by omega
        go_wp2_with fail
        go_region_held3 (fun _ => True) (trivial) (first
          | (go_at_call 11; refine (HC1.out _).mono ?_; rintro e w' ⟨rfl, hx⟩)
          | (go_at_call 8; refine (HC2.out _).mono ?_; rintro e w' ⟨rfl, h1⟩))
        all_goals (
          have h0 := Lib.hid ((h0.out.drew.trans (hx.mono h0.out.size)))
          have h0 := Lib.hid ((h0.out.trans (h1.mono h0.out.size)))
          clear hx h1
          go_wp2_with fail
          go_ret
          exact ⟨rfl, h0.out⟩)
end Go.Proofs.Ytenpcdloidgckaa.Oct
