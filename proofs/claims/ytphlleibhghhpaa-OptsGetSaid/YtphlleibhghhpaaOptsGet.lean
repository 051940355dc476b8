/- The walk of OptsGet. -/
import Derived.Test.YtphlleibhghhpaaOptW1
import Derived.Test.YtphlleibhghhpaaOptR2
import Derived.Test.YtphlleibhghhpaaOptE2
import Derived.Test.YtphlleibhghhpaaOptS
namespace Go.Proofs.Ytphlleibhghhpaa.Opt
open Go.ChangeShapes Go.WideShapes Go.ChangeAt Go.RowKit
set_option linter.unusedVariables false

set_option maxRecDepth 100000 in
set_option maxHeartbeats 1600000 in
theorem OptsGet_walk (s : ByteArray) (most : Int) (W : World) (w0 : s.size ≤ maxLen) (w1 : (Lit.int .i64 most).wf = true) :
    Calls Try.prog 3 #[.string s, .int .i64 most] W fun e w' => e = .returned (.bool true) ∧ Below W.heap.size W w' := by
  unfold maxLen at w0
  have hb0 := (Below.refl W.heap.size W).alloc (Nat.le_refl _) (.cells #[.int .i64 most] 3)
  have hM0 := Boxed.new W 3 (.int .i64 most)
  go_enter Try.func3, Try.ntmps3
  go_wp2_with fail
  refine (works_any _).mono ?_
  rintro e w1 ⟨rfl, h1⟩
  have hM1 := boxed_below hM0 h1 (by simp)
  have hb1 := hb0.trans (h1.mono (by simp))
  have hs1 : W.heap.size < w1.heap.size := hM1.lt
  clear hM0 h1 hb0
  by_cases hs : 2000 < s.size
  · have hs' : (2000 : Int) < (s.size : Int) := by omega
    go_wp2_with fail
    go_returns
    exact ⟨rfl, hb1⟩
  · have hs' : ¬ (2000 : Int) < (s.size : Int) := by omega
    have hs3 : s.size ≤ 3000 := by omega
    have Hge := Lib.hid (fun w => Get_any s hs3 w)
    have Hrg := Lib.hid (fun w => RefGet_any s hs3 w)
    have Hrd := Lib.hid (fun w => Read_any s hs3 w)
    have Hea := Lib.hid (fun w => Each_any s hs3 w)
    go_wp2_with fail
    refine (Hge.out _).mono ?_
    rintro e w2 ⟨a5, cap5, rfl, hat5, h2⟩
    go_wp2_with fail
    refine (Hrg.out _).mono ?_
    rintro e w3 ⟨a7, cap7, rfl, hat7, h3⟩
    go_wp2_with fail
    refine (Hrd.out _).mono ?_
    rintro e w4 ⟨a9, cap9, rfl, hat9, h4, hc9, hcm9⟩
    have hb2 := hb1.trans (h2.mono hb1.size)
    have hb3 := hb2.trans (h3.mono hb2.size)
    have hb4 := Lib.hid (hb3.trans (h4.mono hb3.size))
    have Hat5 := Lib.hid ((hat5.below h3).below h4)
    have Hat7 := Lib.hid (hat7.below h4)
    have Hat9 := Lib.hid hat9
    have hM4 := boxed_below (boxed_below (boxed_below hM1 h2 hs1) h3 (Nat.lt_of_lt_of_le hs1 h2.size)) h4 (Nat.lt_of_lt_of_le (Nat.lt_of_lt_of_le hs1 h2.size) h3.size)
    have hlo := (getOpts_fit hs3).1
    have hlg := (goods_fit hs3).1
    clear hat5 hat7 hat9 hb1 hb2 hb3 h2 h3 h4 hM1 hs1 Hge Hrg Hrd
    have hs4 := hM4.lt
    have hT5 := Boxed.new w4 23 (.slice none 0 0)
    have hM5 := hM4.alloc (.cells #[.slice none 0 0] 23)
    have hb5 := (Below.refl w4.heap.size w4).alloc (Nat.le_refl _) (.cells #[.slice none 0 0] 23)
    go_wp2_with fail
    refine (Hea.out _).mono ?_
    rintro e w6 ⟨Bc, Bn, rfl, hBc, hBcc, hBcT, hBn, hBnc, h6⟩
    have hsz5 : (w4.alloc (.cells #[.slice none 0 0] 23)).heap.size = w4.heap.size + 1 := by simp
    have hT6 := boxed_below hT5 h6 (by omega)
    have hM6 := boxed_below hM5 h6 (by omega)
    have hb6 := hb5.trans (h6.mono (by omega))
    have hsz6 : w4.heap.size + 1 ≤ w6.heap.size := by have := h6.size; omega
    clear hT5 hM5 hb5 h6 hsz5 Hea
    have hfn := fun W => func_not_nil2 (.func 20) #[] #[.pointer (some ⟨Bc, 0, none⟩)] W
    obtain ⟨T, hT⟩ : ∃ T, w4.heap.size = T := ⟨_, rfl⟩
    obtain ⟨M, hM⟩ : ∃ M, W.heap.size = M := ⟨_, rfl⟩
    have Hea1 := Lib.hid (Each1_in 3 (Nat.le_refl _) s hs3 T M Bc Bn most w6 (by omega) (by omega) (by omega) (by rw [← hM]; exact hM6.cell) (by rw [← hT]; exact hT6) hBc hBcc hBn hBnc)
    have HM6 := Lib.hid hM6
    have HB6 := Lib.hid hb6
    have hszW : W.heap.size < T := by omega
    have Hz := Lib.hid hsz6
    clear hT6 hM6 hb6 hBc hBcc hBn hBnc hBcT hsz6
    rw [hT, hM]
    go_wp2_with fail
    refine (callsIn_wide.1 Hea1.out).mono ?_
    rintro e w7 ⟨rfl, ⟨v, hv7, ho7⟩, hg7⟩
    have h47 : Below w4.heap.size w4 w7 := by
      have h6 := HB6.out
      have hz := Hz.out
      refine ⟨hg7.os.trans h6.os, hg7.tape.trans h6.tape, hg7.output.trans h6.output, Nat.le_trans h6.size hg7.size, fun k hk => ?_⟩
      rw [hg7.block k (by omega) (by simp; omega)]
      exact h6.block k hk
    have hc7 := hv7.cell
    have hM7 : w7.cell? ⟨M, 0, none⟩ = some (.int .i64 most) := World.grownBy.cell hg7 (by rw [← hM]; exact HM6.out.cell) (by simp; omega)
    have Hend := Lib.hid (show Below W.heap.size W w7 from hb4.out.trans (h47.mono hb4.out.size))
    obtain ⟨a12, cap12, rfl, hat12⟩ := ho7.at
    have HN := Lib.hid (show ((goods (told s)).take (manyOf (goods (told s)).length most)).length = manyOf (goods (told s)).length most by rw [List.length_take]; unfold manyOf; omega)
    have HS1 := Lib.hid (fun n => SameD_any (getOpts s) _ rfl hlo a5 a7 cap5 cap7 (w7.drewN n) ((Hat5.out.below h47).drewN n) ((Hat7.out.below h47).drewN n))
    have HS2 := Lib.hid (fun n => SameD_any ((goods (told s)).take (manyOf (goods (told s)).length most)) _ HN.out (by unfold manyOf; omega) a12 a9 cap12 cap9 (w7.drewN n) (hat12.drewN n) (((Hat9.out.below h47).take _).drewN n))
    rw [HN.out] at hc7 hv7 ho7
    unfold manyOf at hc7 HS2
    clear hv7 ho7 hg7 h47 hat12 Hat5 Hat7 Hat9 HM6 HB6 Hz HN Hea1 hfn
    generalize (getOpts s).length = n5 at *
    generalize (goods (told s)).length = n9 at *
    generalize getErr s = ge at *
    generalize errs (told s) = er at *
    have hc9' : (n9 : Int) ≤ (cap9 : Int) := by omega
    have g0 : (0 : Int) ≤ min (n9 : Int) (max most 1) := by omega
    have g1 : min (n9 : Int) (max most 1) ≤ (cap9 : Int) := by omega
    have g9 : (0 : Int) ≤ (n9 : Int) := by omega
    have hgg : (ge == ge) = true := by simp
    obtain ⟨N, hN⟩ : ∃ N, (min (n9 : Int) (max most 1)).toNat = N := ⟨_, rfl⟩
    rw [hN] at hc7 HS2
    go_wp2_with fail
    go_quiet ((first
      | (go_at_call_of 12 (Value.slice a5 n5 cap5); exact Calls.quiet_of (HS1.out _))
      | (go_at_call_of 12 (Value.slice a12 N cap12); exact Calls.quiet_of (HS2.out _))))
    go_wp2_with fail
    go_returns
    exact ⟨rfl, below_drewN Hend.out _⟩
end Go.Proofs.Ytphlleibhghhpaa.Opt
