/- The walk of HeadGets. -/
import Derived.Test.YtmjfdklpcmpjhaaHeadB
import Derived.Test.YtmjfdklpcmpjhaaHeadW
import Derived.Test.YtmjfdklpcmpjhaaHeadEq
import Derived.Test.YtmjfdklpcmpjhaaHeadP0
namespace Go.Proofs.Ytmjfdklpcmpjhaa.Head
open Go.ChangeShapes Go.WideShapes Go.ChangeAt Go.RowKit
set_option linter.unusedVariables false

set_option maxRecDepth 100000 in
set_option maxHeartbeats 4000000 in
theorem HeadGets_walk (s : ByteArray) (W : World) (w0 : s.size ≤ maxLen) :
    Calls Try.prog 5 #[.string s] W fun e w' => e = .returned (.bool true) ∧ Below W.heap.size W w' := by
  unfold maxLen at w0
  by_cases hm : s.size ≤ 1000
  case neg =>
    have hm' : (1000 : Int) < s.size := by omega
    go_enter Try.func5, Try.ntmps5
    go_wp2_with fail
    refine (works_any _).mono ?_
    rintro e w2 ⟨rfl, h2⟩
    go_wp2_with fail
    go_returns
    exact ⟨rfl, h2⟩
  have hm' : ¬ (1000 : Int) < s.size := by omega
  have CG := fun w => Get_any s (by omega) w
  have RG := fun w => refGet_any s (by omega) w
  unfold GetEnd at CG RG
  have HP := Lib.hid (put_get s)
  have hsz := get_size s
  obtain ⟨h, hh⟩ : ∃ h, (get s).1 = h := ⟨_, rfl⟩
  obtain ⟨r, hr⟩ : ∃ r, (get s).2.1 = r := ⟨_, rfl⟩
  obtain ⟨f, hf⟩ : ∃ f, (get s).2.2 = f := ⟨_, rfl⟩
  rw [hh, hr, hf] at CG RG
  rw [hr] at hsz
  have HP' := HP.out
  rw [hh, hr, hf] at HP'
  have HP2 := Lib.hid HP'
  have CP := fun w => Put_any h w
  have hput := put_size h
  have CG2 := Lib.hid CG
  have RG2 := Lib.hid RG
  clear HP HP' CG RG hh hr hf
  go_enter Try.func5, Try.ntmps5
  go_wp2_with fail
  refine (works_any _).mono ?_
  rintro e w2 ⟨rfl, h2⟩
  go_wp2_with fail
  refine (CG2.out _).mono ?_
  rintro e w3 ⟨rfl, h3⟩
  have b3 := h2.trans (h3.mono h2.size)
  have k3 := Box9.new w3 h
  have b3' := b3.alloc b3.size (.cells (rowOf h) 27)
  have e3 : (w3.alloc (.cells (rowOf h) 27)).heap.size = w3.heap.size + 1 := by simp
  clear h2 h3 b3
  have B3 := Lib.hid b3'
  have K3 := Lib.hid k3
  clear b3' k3
  go_wp2_with fail
  refine (RG2.out _).mono ?_
  rintro e w4 ⟨rfl, h4⟩
  have k4 : Box9 w4 w3.heap.size h := K3.out.below h4 (by rw [e3]; exact Nat.lt_succ_self _)
  have b4 := B3.out.trans (h4.mono B3.out.size)
  have k4' : Box9 (w4.alloc (.cells (rowOf h) 27)) w3.heap.size h := (Below.heap_alloc _ _ _ k4.lt).trans k4
  have k5 := Box9.new w4 h
  have b5 := b4.alloc b4.size (.cells (rowOf h) 27)
  have hn := neq_same h (w4.alloc (.cells (rowOf h) 27))
  clear B3 K3 h4 b4 k4 e3
  go_wp2_with (first
    | refine wpList_load_row rfl 27 _ rfl w3.heap.size rfl 27 _ _ _ k4' Try.underlying27 rfl (hi9 _ _ _ _ _ _ _ _ _) ?_
    | refine wpList_load_row rfl 27 _ rfl w4.heap.size rfl 27 _ _ _ k5 Try.underlying27 rfl (hi9 _ _ _ _ _ _ _ _ _) ?_)
  by_cases hf : f = 0
  · subst hf
    obtain ⟨hc, hs⟩ := HP2.out rfl
    rw [hc] at CP
    have CP2 := Lib.hid CP
    clear CP HP2 CG2 RG2 hn
    generalize putText h = T at *
    refine (CP2.out _).mono ?_
    rintro e w6 ⟨rfl, h6⟩
    have b6 := b5.trans (h6.mono b5.size)
    go_wp2_with fail
    go_returns
    exact ⟨by simp, b6⟩
  · have hfb : (f == 0) = false := by simpa using hf
    have CP2 := Lib.hid CP
    clear CP HP2 CG2 RG2 hn
    generalize putText h = T at *
    generalize check h = C at *
    refine (CP2.out _).mono ?_
    rintro e w6 ⟨rfl, h6⟩
    have b6 := b5.trans (h6.mono b5.size)
    go_wp2_with fail
    go_returns
    exact ⟨by simp, b6⟩
end Go.Proofs.Ytmjfdklpcmpjhaa.Head
