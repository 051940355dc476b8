/- The walk of HeadPuts. -/
import Derived.Test.YtmjfdklpcmpjhaaHeadA
import Derived.Test.YtmjfdklpcmpjhaaHeadArg
import Derived.Test.YtmjfdklpcmpjhaaHeadEq
import Derived.Test.YtmjfdklpcmpjhaaHeadP0
namespace Go.Proofs.Ytmjfdklpcmpjhaa.Head
open Go.ChangeShapes Go.WideShapes Go.ChangeAt Go.RowKit
set_option linter.unusedVariables false

set_option maxRecDepth 100000 in
set_option maxHeartbeats 4000000 in
theorem HeadPuts_walk (v0 : Value) (a1 : ByteArray) (W : World) (w0 : ∃ h : B, v0 = .agg (rowOf h)) (w1 : a1.size ≤ maxLen) :
    Calls Try.prog 4 #[v0, .string a1] W fun e w' => e = .returned (.bool true) ∧ Below W.heap.size W w' := by
  unfold maxLen at w1
  obtain ⟨h, rfl⟩ := w0
  have hbox := Box9.new W h
  have hb0 := Lib.hid ((Below.refl W.heap.size W).alloc (Nat.le_refl _) (.cells (rowOf h) 27))
  have hsz : (W.alloc (.cells (rowOf h) 27)).heap.size = W.heap.size + 1 := by simp
  by_cases hm : a1.size ≤ 1000
  case neg =>
    have hm' : (1000 : Int) < a1.size := by omega
    go_enter Try.func4, Try.ntmps4
    go_wp2_with fail
    refine (works_any _).mono ?_
    rintro e w2 ⟨rfl, h2⟩
    go_wp2_with fail
    go_returns
    exact ⟨rfl, hb0.out.trans (h2.mono hb0.out.size)⟩
  have hm' : ¬ (1000 : Int) < a1.size := by omega
  have CP := Lib.hid (fun w => Put_any h w)
  have RP := Lib.hid (fun w => refPutH_any h w)
  have CC := Lib.hid (fun w => Check_any h w)
  have RC := Lib.hid (fun w => refCheck_any h w)
  have hput := put_size h
  have CG := Lib.hid (fun w => Get_any (putText h ++ a1) (by rw [ByteArray.size_append]; omega) w)
  have HG := Lib.hid (fun g => get_put h g a1)
  have HC := Lib.hid (check_ok h)
  have hCC : (check h != check h) = false := by simp
  generalize putText h = T at *
  generalize check h = C at *
  go_enter Try.func4, Try.ntmps4
  go_wp2_with fail
  refine (works_any _).mono ?_
  rintro e w2 ⟨rfl, h2⟩
  have k2 := hbox.below h2 (by rw [hsz]; exact Nat.lt_succ_self _)
  have b2 := hb0.out.trans (h2.mono hb0.out.size)
  clear hbox hb0 h2 hsz
  go_wp2_with (refine wpList_load_row rfl 27 _ rfl W.heap.size rfl 27 _ _ _ k2 Try.underlying27 rfl (hi9 _ _ _ _ _ _ _ _ _) ?_)
  refine (CP.out _).mono ?_
  rintro e w3 ⟨rfl, h3⟩
  have k3 := k2.below h3 k2.lt
  have b3 := b2.trans (h3.mono b2.size)
  clear k2 b2 h3
  go_wp2_with (refine wpList_load_row rfl 27 _ rfl W.heap.size rfl 27 _ _ _ k3 Try.underlying27 rfl (hi9 _ _ _ _ _ _ _ _ _) ?_)
  refine (RP.out _).mono ?_
  rintro e w4 ⟨rfl, h4⟩
  have k4 := k3.below h4 k3.lt
  have b4 := b3.trans (h4.mono b3.size)
  clear k3 b3 h4
  obtain ⟨A, hA⟩ : ∃ A, W.heap.size = A := ⟨_, rfl⟩
  rw [hA] at k4 b4 ⊢
  obtain ⟨c0, c1, c2, c3, c4, c5, c6, c7, c8⟩ := k4.cell
  go_wp2_with fail
  go_region_held3 (fun w' => w'.cell? ⟨A, 0, none⟩ = some (.int .i64 h.src) ∧ w'.cell? ⟨A, 1, none⟩ = some (.int .i64 h.dst) ∧ w'.cell? ⟨A, 2, none⟩ = some (.int .i64 h.words) ∧ w'.cell? ⟨A, 3, none⟩ = some (.int .i64 h.cc) ∧ w'.cell? ⟨A, 4, none⟩ = some (.int .i64 h.cover) ∧ w'.cell? ⟨A, 5, none⟩ = some (.int .i64 h.sum) ∧ w'.cell? ⟨A, 6, none⟩ = some (.int .i64 h.kind) ∧ w'.cell? ⟨A, 7, none⟩ = some (.bool h.long) ∧ w'.cell? ⟨A, 8, none⟩ = some (.int .i64 h.seq)) (first | go_keep | exact v5 | exact v6) (first
    | (go_at_call 15; refine (CC.out _).mono ?_; rintro e w5 ⟨rfl, h5⟩; have k5 := k4.below (at_drew h5) k4.lt; have v5 := k5.cell)
    | (go_at_call 16; refine (RC.out _).mono ?_; rintro e w6 ⟨rfl, h6⟩; have k6 := k5.below h6 k5.lt; have v6 := k6.cell))
  all_goals (
    have b6 := (b4.trans ((at_drew h5).mono (by rw [← hA]; exact b4.size))).trans (h6.mono (by have := k5.lt; omega))
    clear c0 c1 c2 c3 c4 c5 c6 c7 c8
    have CG' := CG.out
    unfold GetEnd at CG'
    by_cases hc : C = 0
    · subst hc
      rw [HG.out (HC.out.1 rfl)] at CG'
      have CG2 := Lib.hid CG'
      clear CG' CG
      go_wp2_with fail
      refine (CG2.out _).mono ?_
      rintro e w7 ⟨rfl, h7⟩
      have k7 := k6.below h7 k6.lt
      have b7 := b6.trans (h7.mono (by have := k6.lt; omega))
      have k8 : Box9 (w7.alloc (.cells (rowOf h) 27)) A h := (Below.heap_alloc _ _ _ k7.lt).trans k7
      have b8 := b7.alloc (by have := k7.lt; omega) (.cells (rowOf h) 27)
      have he := eql_same h (w7.alloc (.cells (rowOf h) 27))
      obtain ⟨d0, d1, d2, d3, d4, d5, d6, d7, d8⟩ := k8.cell
      go_wp2_with fail
      go_returns
      rw [hA]
      exact ⟨rfl, b8⟩
    · have hcb : (C == 0) = false := by simpa using hc
      have CG2 := Lib.hid CG'
      clear CG' CG
      generalize (get (T ++ a1)).1 = gh at *
      generalize (get (T ++ a1)).2.1 = gr at *
      generalize (get (T ++ a1)).2.2 = ge at *
      go_wp2_with fail
      refine (CG2.out _).mono ?_
      rintro e w7 ⟨rfl, h7⟩
      have b7 := b6.trans (h7.mono (by have := k6.lt; omega))
      have b8 := b7.alloc (by have := k6.lt; have := h7.size; omega) (.cells (rowOf gh) 27)
      go_wp2_with fail
      go_returns
      rw [hA]
      exact ⟨rfl, b8⟩)
end Go.Proofs.Ytmjfdklpcmpjhaa.Head
