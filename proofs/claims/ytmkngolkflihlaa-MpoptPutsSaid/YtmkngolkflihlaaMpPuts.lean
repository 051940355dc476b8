/- Any option of several paths: the walk of the law. -/
import Derived.Test.YtmkngolkflihlaaMpW
import Derived.Test.YtmkngolkflihlaaMpArg
namespace Go.Proofs.Ytmkngolkflihlaa.Mp
open Go.ChangeShapes Go.WideShapes Go.ChangeAt Go.RowKit
set_option linter.unusedVariables false

/-- the four blocks -/
structure Four (w : World) (b1 b3 b5 b7 : Nat) (m m7 : M) (k : Int) (s : ByteArray) : Prop where
  r1 : w.heap[b1]? = some (.cells (rowOf m) 23 (0, 0))
  r3 : w.heap[b3]? = some (.cells #[.int .i64 k, .string s] 26 (0, 0))
  r5 : w.heap[b5]? = some (.cells #[.int .i64 k, .string s] 26 (0, 0))
  r7 : w.heap[b7]? = some (.cells (rowOf m7) 23 (0, 0))
theorem Four.below {w w' : World} {b1 b3 b5 b7 : Nat} {m m7 : M} {k : Int} {s : ByteArray} (h : Four w b1 b3 b5 b7 m m7 k s) (hb : Below w.heap.size w w') : Four w' b1 b3 b5 b7 m m7 k s :=
  ⟨(hb.block _ (Array.getElem?_eq_some_iff.1 h.r1).1).trans h.r1, (hb.block _ (Array.getElem?_eq_some_iff.1 h.r3).1).trans h.r3, (hb.block _ (Array.getElem?_eq_some_iff.1 h.r5).1).trans h.r5, (hb.block _ (Array.getElem?_eq_some_iff.1 h.r7).1).trans h.r7⟩

set_option maxRecDepth 100000 in
set_option maxHeartbeats 8000000 in
theorem MpoptPuts_walk (v0 : Value) (W : World) (w0 : ∃ m : M, v0 = .agg (rowOf m)) : Calls Try.prog 3 #[v0] W fun e W' => e = .returned (.bool true) ∧ Below W.heap.size W W' := by
  obtain ⟨m, rfl⟩ := w0
  have hb0 := Lib.hid ((Below.refl W.heap.size W).alloc (Nat.le_refl _) (.cells (rowOf m) 23))
  have n0 := Lib.hid (RowM.new W m)
  by_cases hs : 600 < m.bytes.size
  · go_enter Try.func3, Try.ntmps3
    go_wp2_with fail
    refine (works_any _).mono ?_
    rintro e w2 ⟨rfl, h2⟩
    have n2 := n0.out.below h2 (by simp)
    have c6 := n2.txt.2
    have H2 := Lib.hid (hb0.out.trans (h2.mono (by simp)))
    have hd : decide ((600 : Int) < (m.bytes.size : Int)) = true := by simp; omega
    have hd2 : decide (600 < m.bytes.size) = true := by simpa using hs
    clear h2 n2 hs hb0 n0
    go_wp2_with fail
    go_ret
    exact ⟨rfl, H2.out⟩
  · have CP := Lib.hid (fun w => Put_any m (by omega) w)
    have RP := Lib.hid (fun w => RefPut_any m (by omega) w)
    have CC := Lib.hid (fun w => Check_any m (by omega) w)
    have RC := Lib.hid (fun w => RefCheck_any m (by omega) w)
    rw [pcheck_eq] at CC
    obtain ⟨k, s, m7, e7, C, hV, hC, hG, hss, hz⟩ : ∃ (k : Int) (s : ByteArray) (m7 : M) (e7 C : Int), putV m = .tuple #[.agg #[.int .i64 k, .string s], .int .i64 C] ∧ check m = C ∧ getV ⟨k, s⟩ = .tuple #[.agg (rowOf m7), .int .i64 e7] ∧ s.size ≤ 3000 ∧ (C = 0 → m7 = m ∧ e7 = 0) := by
      by_cases hc : check m = 0
      · refine ⟨46, putOf m, m, 0, 0, if_pos hc, hc, ?_, ?_, fun _ => ⟨rfl, rfl⟩⟩
        · unfold getV; rw [get_put m hc]; rfl
        · have h1 : (pre m 5).length ≤ 1 + 6 * 5 := pre_length m 5
          have h2 : (putOf m).size = (pre m 5).length + m.bytes.size := by unfold putOf; rw [ByteArray.size_append]; rfl
          omega
      · refine ⟨0, ⟨#[]⟩, M.zero, 7, check m, if_neg hc, rfl, ?_, by decide, fun h => absurd h hc⟩
        unfold getV; rw [get_off (by decide)]; rfl
    have CG := Lib.hid (fun w => Get_any ⟨k, s⟩ hss w)
    rw [hV] at CP RP
    rw [hC] at CC RC
    rw [hG] at CG
    have HZ := Lib.hid hz
    have qo := fun w => eqlO_same k s w
    have hd : decide ((600 : Int) < (m.bytes.size : Int)) = false := by simp; omega
    have hd2 : decide (600 < m.bytes.size) = false := by simp; omega
    clear hV hC hG hss hz hs
    unfold vOf at CP RP CC RC
    go_enter Try.func3, Try.ntmps3
    go_wp2_with fail
    refine (works_any _).mono ?_
    rintro e w2 ⟨rfl, h2⟩
    have n2 := n0.out.below h2 (by simp)
    have c6 := n2.txt.2
    have H2 := Lib.hid (hb0.out.trans (h2.mono (by simp)))
    have L2 := n2.lt
    clear h2 hb0 n0
    go_wp2_with (refine wpList_load_row rfl 23 _ rfl W.heap.size rfl 23 _ _ _ n2 Try.underlying23 rfl (hi7m _ _ _ _ _ _ _) ?_)
    refine (CP.out _).mono ?_
    rintro e w3 ⟨rfl, h3⟩
    have n3 := (n2.below h3 L2).below ((Below.refl w3.heap.size w3).alloc (Nat.le_refl _) (.cells #[.int .i64 k, .string s] 26)) (by have := h3.size; omega)
    have o3 := heap_alloc_new w3 (.cells #[.int .i64 k, .string s] 26)
    have z3 := h3.size
    have H3 := Lib.hid ((H2.out.trans (h3.mono H2.out.size)).alloc (Nat.le_trans H2.out.size h3.size) (.cells #[.int .i64 k, .string s] 26))
    have Z3 := Lib.hid (show W.heap.size < w3.heap.size by omega)
    have N3 := Lib.hid n3
    clear h3 n2 c6 z3 L2
    go_wp2_with (refine wpList_load_row rfl 23 _ rfl W.heap.size rfl 23 _ _ _ N3.out Try.underlying23 rfl (hi7m _ _ _ _ _ _ _) ?_)
    refine (RP.out _).mono ?_
    rintro e w4 ⟨rfl, h4⟩
    have z4 : w3.heap.size + 1 ≤ w4.heap.size := by have := h4.size; simpa using this
    have n4 := (N3.out.below h4 (by have := Z3.out; simp; omega)).below ((Below.refl w4.heap.size w4).alloc (Nat.le_refl _) (.cells #[.int .i64 k, .string s] 26)) (by have := Z3.out; omega)
    have o4 := (Below.heap_alloc w4 (.cells #[.int .i64 k, .string s] 26) w3.heap.size (by omega)).trans ((h4.block w3.heap.size (by simp)).trans o3)
    have p4 := heap_alloc_new w4 (.cells #[.int .i64 k, .string s] 26)
    have H4 := Lib.hid ((H3.out.trans (h4.mono H3.out.size)).alloc (Nat.le_trans H3.out.size h4.size) (.cells #[.int .i64 k, .string s] 26))
    have N4 := Lib.hid n4
    have O4 := Lib.hid o4
    have P4 := Lib.hid p4
    clear h4 o3 N3 n4 o4 p4
    go_wp2_with (refine wpList_load_row rfl 26 _ rfl w3.heap.size rfl 26 _ _ _ O4.out Try.underlying26 rfl (hi2 _ _) ?_)
    refine (CG.out _).mono ?_
    rintro e w5 ⟨rfl, h5⟩
    have z5 : w4.heap.size + 1 ≤ w5.heap.size := by have := h5.size; simpa using this
    have F0 : Four w5 W.heap.size w3.heap.size w4.heap.size w5.heap.size m m7 k s → True := fun _ => trivial
    have z7 := heap_alloc_new w5 (.cells #[.int .i64 0, .int .i64 0, .int .i64 0, .int .i64 0, .int .i64 0, .int .i64 0, .string ⟨#[]⟩] 23)
    have hX : Below w5.heap.size w5 ((w5.alloc (.cells #[.int .i64 0, .int .i64 0, .int .i64 0, .int .i64 0, .int .i64 0, .int .i64 0, .string ⟨#[]⟩] 23)).setRow w5.heap.size (rowOf m7)) := below_setRow ((Below.refl _ _).alloc (Nat.le_refl _) _) (Nat.le_refl _) _
    have FF := Lib.hid (show Four ((w5.alloc (.cells #[.int .i64 0, .int .i64 0, .int .i64 0, .int .i64 0, .int .i64 0, .int .i64 0, .string ⟨#[]⟩] 23)).setRow w5.heap.size (rowOf m7)) W.heap.size w3.heap.size w4.heap.size w5.heap.size m m7 k s from
      ⟨(hX.block _ (by have := Z3.out; omega)).trans ((h5.block _ (by have := Z3.out; simp; omega)).trans N4.out),
       (hX.block _ (by omega)).trans ((h5.block _ (by simp; omega)).trans O4.out),
       (hX.block _ (by omega)).trans ((h5.block _ (by simp)).trans P4.out),
       setRow_heap _ _ _ _ _ _ z7⟩)
    have H5 := Lib.hid ((H4.out.trans (h5.mono H4.out.size)).trans (hX.mono (Nat.le_trans H4.out.size h5.size)))
    have Z7 := Lib.hid z7
    clear z7 hX
    clear h5 F0 N4 O4 P4 H2 H3 H4 z4 z5 Z3
    go_wp2_with (refine wpList_store_row rfl 23 _ _ rfl w5.heap.size _ rfl rfl 23 _ Z7.out (hi7m _ _ _ _ _ _ _) rfl (hone7m _ _ _ _ _ _ _) ?_)
    generalize (w5.alloc (.cells #[.int .i64 0, .int .i64 0, .int .i64 0, .int .i64 0, .int .i64 0, .int .i64 0, .string ⟨#[]⟩] 23)).setRow w5.heap.size (rowOf m7) = X at *
    have K0 : Four X.drew W.heap.size w3.heap.size w4.heap.size w5.heap.size m m7 k s := ⟨FF.out.r1, FF.out.r3, FF.out.r5, FF.out.r7⟩
    by_cases hc : C = 0
    · obtain ⟨h7, rfl⟩ := HZ.out hc
      subst h7
      subst hc
      have qm := fun w => eqlM_same m7 w
      refine Step.start (S := (fun w' => Four w' W.heap.size w3.heap.size w4.heap.size w5.heap.size m7 m7 k s)) (by kernel_rfl) (by (try dsimp only); first | exact K0 | exact K6 | exact K7) (fun hHeld => ?_)
      refine Step.load (i := 0) rfl (by kernel_rfl) (by kernel_rfl) (by kernel_rfl) w3.heap.size _ 26 (0, 0) _ (fun w hSw => hSw.r3) Try.underlying26 rfl (hi2 _ _) (fun _ _ _ h => h) (by rfl) rfl (by assumption) ?_
      try simp only [Act.put, List.setIfInBounds_toArray, List.set_cons_zero, List.set_cons_succ]
      refine Step.load (i := 1) rfl (by kernel_rfl) (by kernel_rfl) (by kernel_rfl) w4.heap.size _ 26 (0, 0) _ (fun w hSw => hSw.r5) Try.underlying26 rfl (hi2 _ _) (fun _ _ _ h => h) (by rfl) rfl (by assumption) ?_
      try simp only [Act.put, List.setIfInBounds_toArray, List.set_cons_zero, List.set_cons_succ]
      refine Step.take (i := 2) rfl (by kernel_rfl) (by kernel_rfl) (by kernel_rfl) (fun _ _ _ h => h) (by rfl) (by (intro w hSw; (try dsimp only at hSw); go_simp; try (with_reducible rfl))) (by assumption) ?_
      try simp only [Act.put, List.setIfInBounds_toArray, List.set_cons_zero, List.set_cons_succ]
      refine Step.take (i := 3) rfl (by kernel_rfl) (by kernel_rfl) (by kernel_rfl) (fun _ _ _ h => h) (by rfl) (by (intro w hSw; (try dsimp only at hSw); go_simp; try (with_reducible rfl))) (by assumption) ?_
      try simp only [Act.put, List.setIfInBounds_toArray, List.set_cons_zero, List.set_cons_succ]
      refine Step.take (i := 4) rfl (by kernel_rfl) (by kernel_rfl) (by kernel_rfl) (fun _ _ _ h => h) (by rfl) (by (intro w hSw; (try dsimp only at hSw); go_simp; try (with_reducible rfl))) (by assumption) ?_
      try simp only [Act.put, List.setIfInBounds_toArray, List.set_cons_zero, List.set_cons_succ]
      refine Step.take (i := 5) rfl (by kernel_rfl) (by kernel_rfl) (by kernel_rfl) (fun _ _ _ h => h) (by rfl) (by (intro w hSw; (try dsimp only at hSw); go_simp; try (with_reducible rfl))) (by assumption) ?_
      try simp only [Act.put, List.setIfInBounds_toArray, List.set_cons_zero, List.set_cons_succ]
      refine Step.take (i := 6) rfl (by kernel_rfl) (by kernel_rfl) (by kernel_rfl) (fun _ _ _ h => h) (by rfl) (by (intro w hSw; (try dsimp only at hSw); go_simp; try (with_reducible rfl))) (by assumption) ?_
      try simp only [Act.put, List.setIfInBounds_toArray, List.set_cons_zero, List.set_cons_succ]
      refine Step.take (i := 7) rfl (by kernel_rfl) (by kernel_rfl) (by kernel_rfl) (fun _ _ _ h => h) (by rfl) (by (intro w hSw; (try dsimp only at hSw); go_simp; try (with_reducible rfl))) (by assumption) ?_
      try simp only [Act.put, List.setIfInBounds_toArray, List.set_cons_zero, List.set_cons_succ]
      refine Step.take (i := 8) rfl (by kernel_rfl) (by kernel_rfl) (by kernel_rfl) (fun _ _ _ h => h) (by rfl) (by (intro w hSw; (try dsimp only at hSw); go_simp; try (with_reducible rfl))) (by assumption) ?_
      try simp only [Act.put, List.setIfInBounds_toArray, List.set_cons_zero, List.set_cons_succ]
      refine Step.load (i := 9) rfl (by kernel_rfl) (by kernel_rfl) (by kernel_rfl) W.heap.size _ 23 (0, 0) _ (fun w hSw => hSw.r1) Try.underlying23 rfl (hi7m _ _ _ _ _ _ _) (fun _ _ _ h => h) (by rfl) rfl (by assumption) ?_
      try simp only [Act.put, List.setIfInBounds_toArray, List.set_cons_zero, List.set_cons_succ]
      refine Step.load (i := 11) rfl (by kernel_rfl) (by kernel_rfl) (by kernel_rfl) W.heap.size _ 23 (0, 0) _ (fun w hSw => hSw.r1) Try.underlying23 rfl (hi7m _ _ _ _ _ _ _) (fun _ _ _ h => h) (by rfl) rfl (by assumption) ?_
      try simp only [Act.put, List.setIfInBounds_toArray, List.set_cons_zero, List.set_cons_succ]
      refine Step.call (i := 10) rfl (by kernel_rfl) (by rfl) (fun K hK => ?_)
      go_simp
      (go_at_call 9; refine (CC.out _).mono ?_; rintro e w6 ⟨rfl, h6⟩; have K6 := K0.below h6)
      try (go_wp2_with fail)
      refine hK.out _ _ (by (try dsimp only); first | exact K0 | exact K6 | exact K7) (fun hHeld => ?_)
      clear hK K
      try simp only [Act.put, List.setIfInBounds_toArray, List.set_cons_zero, List.set_cons_succ]
      refine Step.call (i := 12) rfl (by kernel_rfl) (by rfl) (fun K hK => ?_)
      go_simp
      (go_at_call 10; refine (RC.out _).mono ?_; rintro e w7 ⟨rfl, h7⟩; have K7 := K6.below h7)
      try (go_wp2_with fail)
      refine hK.out _ _ (by (try dsimp only); first | exact K0 | exact K6 | exact K7) (fun hHeld => ?_)
      clear hK K
      try simp only [Act.put, List.setIfInBounds_toArray, List.set_cons_zero, List.set_cons_succ]
      refine Step.take (i := 13) rfl (by kernel_rfl) (by kernel_rfl) (by kernel_rfl) (fun _ _ _ h => h) (by rfl) (by (intro w hSw; (try dsimp only at hSw); go_simp; try (with_reducible rfl))) (by assumption) ?_
      try simp only [Act.put, List.setIfInBounds_toArray, List.set_cons_zero, List.set_cons_succ]
      refine Step.take (i := 14) rfl (by kernel_rfl) (by kernel_rfl) (by kernel_rfl) (fun _ _ _ h => h) (by rfl) (by (intro w hSw; (try dsimp only at hSw); go_simp; try (with_reducible rfl))) (by assumption) ?_
      try simp only [Act.put, List.setIfInBounds_toArray, List.set_cons_zero, List.set_cons_succ]
      refine Step.take (i := 15) rfl (by kernel_rfl) (by kernel_rfl) (by kernel_rfl) (fun _ _ _ h => h) (by rfl) (by (intro w hSw; (try dsimp only at hSw); go_simp; try (with_reducible rfl))) (by assumption) ?_
      try simp only [Act.put, List.setIfInBounds_toArray, List.set_cons_zero, List.set_cons_succ]
      refine Step.take (i := 16) rfl (by kernel_rfl) (by kernel_rfl) (by kernel_rfl) (fun _ _ _ h => h) (by rfl) (by (intro w hSw; (try dsimp only at hSw); go_simp; try (with_reducible rfl))) (by assumption) ?_
      try simp only [Act.put, List.setIfInBounds_toArray, List.set_cons_zero, List.set_cons_succ]
      refine Step.take (i := 17) rfl (by kernel_rfl) (by kernel_rfl) (by kernel_rfl) (fun _ _ _ h => h) (by rfl) (by (intro w hSw; (try dsimp only at hSw); go_simp; try (with_reducible rfl))) (by assumption) ?_
      try simp only [Act.put, List.setIfInBounds_toArray, List.set_cons_zero, List.set_cons_succ]
      refine Step.take (i := 18) rfl (by kernel_rfl) (by kernel_rfl) (by kernel_rfl) (fun _ _ _ h => h) (by rfl) (by (intro w hSw; (try dsimp only at hSw); go_simp; try (with_reducible rfl))) (by assumption) ?_
      try simp only [Act.put, List.setIfInBounds_toArray, List.set_cons_zero, List.set_cons_succ]
      refine Step.load (i := 19) rfl (by kernel_rfl) (by kernel_rfl) (by kernel_rfl) w5.heap.size _ 23 (0, 0) _ (fun w hSw => hSw.r7) Try.underlying23 rfl (hi7m _ _ _ _ _ _ _) (fun _ _ _ h => h) (by rfl) rfl (by assumption) ?_
      try simp only [Act.put, List.setIfInBounds_toArray, List.set_cons_zero, List.set_cons_succ]
      refine Step.load (i := 20) rfl (by kernel_rfl) (by kernel_rfl) (by kernel_rfl) W.heap.size _ 23 (0, 0) _ (fun w hSw => hSw.r1) Try.underlying23 rfl (hi7m _ _ _ _ _ _ _) (fun _ _ _ h => h) (by rfl) rfl (by assumption) ?_
      try simp only [Act.put, List.setIfInBounds_toArray, List.set_cons_zero, List.set_cons_succ]
      refine Step.take (i := 21) rfl (by kernel_rfl) (by kernel_rfl) (by kernel_rfl) (fun _ _ _ h => h) (by rfl) (by (intro w hSw; (try dsimp only at hSw); go_simp; try (with_reducible rfl))) (by assumption) ?_
      try simp only [Act.put, List.setIfInBounds_toArray, List.set_cons_zero, List.set_cons_succ]
      refine Step.take (i := 22) rfl (by kernel_rfl) (by kernel_rfl) (by kernel_rfl) (fun _ _ _ h => h) (by rfl) (by (intro w hSw; (try dsimp only at hSw); go_simp; try (with_reducible rfl))) (by assumption) ?_
      try simp only [Act.put, List.setIfInBounds_toArray, List.set_cons_zero, List.set_cons_succ]
      refine Step.take (i := 23) rfl (by kernel_rfl) (by kernel_rfl) (by kernel_rfl) (fun _ _ _ h => h) (by rfl) (by (intro w hSw; (try dsimp only at hSw); go_simp; try (with_reducible rfl))) (by assumption) ?_
      try simp only [Act.put, List.setIfInBounds_toArray, List.set_cons_zero, List.set_cons_succ]
      refine Step.take (i := 24) rfl (by kernel_rfl) (by kernel_rfl) (by kernel_rfl) (fun _ _ _ h => h) (by rfl) (by (intro w hSw; (try dsimp only at hSw); go_simp; try (with_reducible rfl))) (by assumption) ?_
      try simp only [Act.put, List.setIfInBounds_toArray, List.set_cons_zero, List.set_cons_succ]
      refine Step.take (i := 25) rfl (by kernel_rfl) (by kernel_rfl) (by kernel_rfl) (fun _ _ _ h => h) (by rfl) (by (intro w hSw; (try dsimp only at hSw); go_simp; try (with_reducible rfl))) (by assumption) ?_
      try simp only [Act.put, List.setIfInBounds_toArray, List.set_cons_zero, List.set_cons_succ]
      refine Step.take (i := 26) rfl (by kernel_rfl) (by kernel_rfl) (by kernel_rfl) (fun _ _ _ h => h) (by rfl) (by (intro w hSw; (try dsimp only at hSw); go_simp; try (with_reducible rfl))) (by assumption) ?_
      try simp only [Act.put, List.setIfInBounds_toArray, List.set_cons_zero, List.set_cons_succ]
      refine Step.take (i := 27) rfl (by kernel_rfl) (by kernel_rfl) (by kernel_rfl) (fun _ _ _ h => h) (by rfl) (by (intro w hSw; (try dsimp only at hSw); go_simp; try (with_reducible rfl))) (by assumption) ?_
      try simp only [Act.put, List.setIfInBounds_toArray, List.set_cons_zero, List.set_cons_succ]
      refine Step.take (i := 28) rfl (by kernel_rfl) (by kernel_rfl) (by kernel_rfl) (fun _ _ _ h => h) (by rfl) (by (intro w hSw; (try dsimp only at hSw); go_simp; try (with_reducible rfl))) (by assumption) ?_
      try simp only [Act.put, List.setIfInBounds_toArray, List.set_cons_zero, List.set_cons_succ]
      refine wpAnyH_done (by kernel_rfl) ?_ _
      go_wp2_with fail
      go_ret
      exact ⟨rfl, (H5.out.trans ((at_drew h6).mono H5.out.size)).trans (h7.mono (Nat.le_trans H5.out.size h6.size))⟩
    · have hcb : (C != 0) = true := by simpa using hc
      refine Step.start (S := (fun w' => Four w' W.heap.size w3.heap.size w4.heap.size w5.heap.size m m7 k s)) (by kernel_rfl) (by (try dsimp only); first | exact K0 | exact K6 | exact K7) (fun hHeld => ?_)
      refine Step.load (i := 0) rfl (by kernel_rfl) (by kernel_rfl) (by kernel_rfl) w3.heap.size _ 26 (0, 0) _ (fun w hSw => hSw.r3) Try.underlying26 rfl (hi2 _ _) (fun _ _ _ h => h) (by rfl) rfl (by assumption) ?_
      try simp only [Act.put, List.setIfInBounds_toArray, List.set_cons_zero, List.set_cons_succ]
      refine Step.load (i := 1) rfl (by kernel_rfl) (by kernel_rfl) (by kernel_rfl) w4.heap.size _ 26 (0, 0) _ (fun w hSw => hSw.r5) Try.underlying26 rfl (hi2 _ _) (fun _ _ _ h => h) (by rfl) rfl (by assumption) ?_
      try simp only [Act.put, List.setIfInBounds_toArray, List.set_cons_zero, List.set_cons_succ]
      refine Step.take (i := 2) rfl (by kernel_rfl) (by kernel_rfl) (by kernel_rfl) (fun _ _ _ h => h) (by rfl) (by (intro w hSw; (try dsimp only at hSw); go_simp; try (with_reducible rfl))) (by assumption) ?_
      try simp only [Act.put, List.setIfInBounds_toArray, List.set_cons_zero, List.set_cons_succ]
      refine Step.take (i := 3) rfl (by kernel_rfl) (by kernel_rfl) (by kernel_rfl) (fun _ _ _ h => h) (by rfl) (by (intro w hSw; (try dsimp only at hSw); go_simp; try (with_reducible rfl))) (by assumption) ?_
      try simp only [Act.put, List.setIfInBounds_toArray, List.set_cons_zero, List.set_cons_succ]
      refine Step.take (i := 4) rfl (by kernel_rfl) (by kernel_rfl) (by kernel_rfl) (fun _ _ _ h => h) (by rfl) (by (intro w hSw; (try dsimp only at hSw); go_simp; try (with_reducible rfl))) (by assumption) ?_
      try simp only [Act.put, List.setIfInBounds_toArray, List.set_cons_zero, List.set_cons_succ]
      refine Step.take (i := 5) rfl (by kernel_rfl) (by kernel_rfl) (by kernel_rfl) (fun _ _ _ h => h) (by rfl) (by (intro w hSw; (try dsimp only at hSw); go_simp; try (with_reducible rfl))) (by assumption) ?_
      try simp only [Act.put, List.setIfInBounds_toArray, List.set_cons_zero, List.set_cons_succ]
      refine Step.take (i := 6) rfl (by kernel_rfl) (by kernel_rfl) (by kernel_rfl) (fun _ _ _ h => h) (by rfl) (by (intro w hSw; (try dsimp only at hSw); go_simp; try (with_reducible rfl))) (by assumption) ?_
      try simp only [Act.put, List.setIfInBounds_toArray, List.set_cons_zero, List.set_cons_succ]
      refine Step.take (i := 7) rfl (by kernel_rfl) (by kernel_rfl) (by kernel_rfl) (fun _ _ _ h => h) (by rfl) (by (intro w hSw; (try dsimp only at hSw); go_simp; try (with_reducible rfl))) (by assumption) ?_
      try simp only [Act.put, List.setIfInBounds_toArray, List.set_cons_zero, List.set_cons_succ]
      refine Step.take (i := 8) rfl (by kernel_rfl) (by kernel_rfl) (by kernel_rfl) (fun _ _ _ h => h) (by rfl) (by (intro w hSw; (try dsimp only at hSw); go_simp; try (with_reducible rfl))) (by assumption) ?_
      try simp only [Act.put, List.setIfInBounds_toArray, List.set_cons_zero, List.set_cons_succ]
      refine Step.load (i := 9) rfl (by kernel_rfl) (by kernel_rfl) (by kernel_rfl) W.heap.size _ 23 (0, 0) _ (fun w hSw => hSw.r1) Try.underlying23 rfl (hi7m _ _ _ _ _ _ _) (fun _ _ _ h => h) (by rfl) rfl (by assumption) ?_
      try simp only [Act.put, List.setIfInBounds_toArray, List.set_cons_zero, List.set_cons_succ]
      refine Step.load (i := 11) rfl (by kernel_rfl) (by kernel_rfl) (by kernel_rfl) W.heap.size _ 23 (0, 0) _ (fun w hSw => hSw.r1) Try.underlying23 rfl (hi7m _ _ _ _ _ _ _) (fun _ _ _ h => h) (by rfl) rfl (by assumption) ?_
      try simp only [Act.put, List.setIfInBounds_toArray, List.set_cons_zero, List.set_cons_succ]
      refine Step.call (i := 10) rfl (by kernel_rfl) (by rfl) (fun K hK => ?_)
      go_simp
      (go_at_call 9; refine (CC.out _).mono ?_; rintro e w6 ⟨rfl, h6⟩; have K6 := K0.below h6)
      try (go_wp2_with fail)
      refine hK.out _ _ (by (try dsimp only); first | exact K0 | exact K6 | exact K7) (fun hHeld => ?_)
      clear hK K
      try simp only [Act.put, List.setIfInBounds_toArray, List.set_cons_zero, List.set_cons_succ]
      refine Step.call (i := 12) rfl (by kernel_rfl) (by rfl) (fun K hK => ?_)
      go_simp
      (go_at_call 10; refine (RC.out _).mono ?_; rintro e w7 ⟨rfl, h7⟩; have K7 := K6.below h7)
      try (go_wp2_with fail)
      refine hK.out _ _ (by (try dsimp only); first | exact K0 | exact K6 | exact K7) (fun hHeld => ?_)
      clear hK K
      try simp only [Act.put, List.setIfInBounds_toArray, List.set_cons_zero, List.set_cons_succ]
      refine Step.take (i := 13) rfl (by kernel_rfl) (by kernel_rfl) (by kernel_rfl) (fun _ _ _ h => h) (by rfl) (by (intro w hSw; (try dsimp only at hSw); go_simp; try (with_reducible rfl))) (by assumption) ?_
      try simp only [Act.put, List.setIfInBounds_toArray, List.set_cons_zero, List.set_cons_succ]
      refine Step.take (i := 14) rfl (by kernel_rfl) (by kernel_rfl) (by kernel_rfl) (fun _ _ _ h => h) (by rfl) (by (intro w hSw; (try dsimp only at hSw); go_simp; try (with_reducible rfl))) (by assumption) ?_
      try simp only [Act.put, List.setIfInBounds_toArray, List.set_cons_zero, List.set_cons_succ]
      refine Step.take (i := 15) rfl (by kernel_rfl) (by kernel_rfl) (by kernel_rfl) (fun _ _ _ h => h) (by rfl) (by (intro w hSw; (try dsimp only at hSw); go_simp; try (with_reducible rfl))) (by assumption) ?_
      try simp only [Act.put, List.setIfInBounds_toArray, List.set_cons_zero, List.set_cons_succ]
      refine Step.take (i := 16) rfl (by kernel_rfl) (by kernel_rfl) (by kernel_rfl) (fun _ _ _ h => h) (by rfl) (by (intro w hSw; (try dsimp only at hSw); go_simp; try (with_reducible rfl))) (by assumption) ?_
      try simp only [Act.put, List.setIfInBounds_toArray, List.set_cons_zero, List.set_cons_succ]
      refine Step.take (i := 17) rfl (by kernel_rfl) (by kernel_rfl) (by kernel_rfl) (fun _ _ _ h => h) (by rfl) (by (intro w hSw; (try dsimp only at hSw); go_simp; try (with_reducible rfl))) (by assumption) ?_
      try simp only [Act.put, List.setIfInBounds_toArray, List.set_cons_zero, List.set_cons_succ]
      refine Step.take (i := 18) rfl (by kernel_rfl) (by kernel_rfl) (by kernel_rfl) (fun _ _ _ h => h) (by rfl) (by (intro w hSw; (try dsimp only at hSw); go_simp; try (with_reducible rfl))) (by assumption) ?_
      try simp only [Act.put, List.setIfInBounds_toArray, List.set_cons_zero, List.set_cons_succ]
      refine Step.skip (i := 19) rfl (by kernel_rfl) (by kernel_rfl) (by kernel_rfl) (fun _ _ _ h => h) (by rfl) (by assumption) ?_
      try simp only [Act.put, List.setIfInBounds_toArray, List.set_cons_zero, List.set_cons_succ]
      refine Step.skip (i := 20) rfl (by kernel_rfl) (by kernel_rfl) (by kernel_rfl) (fun _ _ _ h => h) (by rfl) (by assumption) ?_
      try simp only [Act.put, List.setIfInBounds_toArray, List.set_cons_zero, List.set_cons_succ]
      refine Step.skip (i := 21) rfl (by kernel_rfl) (by kernel_rfl) (by kernel_rfl) (fun _ _ _ h => h) (by rfl) (by assumption) ?_
      try simp only [Act.put, List.setIfInBounds_toArray, List.set_cons_zero, List.set_cons_succ]
      refine Step.skip (i := 22) rfl (by kernel_rfl) (by kernel_rfl) (by kernel_rfl) (fun _ _ _ h => h) (by rfl) (by assumption) ?_
      try simp only [Act.put, List.setIfInBounds_toArray, List.set_cons_zero, List.set_cons_succ]
      refine Step.skip (i := 23) rfl (by kernel_rfl) (by kernel_rfl) (by kernel_rfl) (fun _ _ _ h => h) (by rfl) (by assumption) ?_
      try simp only [Act.put, List.setIfInBounds_toArray, List.set_cons_zero, List.set_cons_succ]
      refine Step.skip (i := 24) rfl (by kernel_rfl) (by kernel_rfl) (by kernel_rfl) (fun _ _ _ h => h) (by rfl) (by assumption) ?_
      try simp only [Act.put, List.setIfInBounds_toArray, List.set_cons_zero, List.set_cons_succ]
      refine Step.skip (i := 25) rfl (by kernel_rfl) (by kernel_rfl) (by kernel_rfl) (fun _ _ _ h => h) (by rfl) (by assumption) ?_
      try simp only [Act.put, List.setIfInBounds_toArray, List.set_cons_zero, List.set_cons_succ]
      refine Step.take (i := 26) rfl (by kernel_rfl) (by kernel_rfl) (by kernel_rfl) (fun _ _ _ h => h) (by rfl) (by (intro w hSw; (try dsimp only at hSw); go_simp; try (with_reducible rfl))) (by assumption) ?_
      try simp only [Act.put, List.setIfInBounds_toArray, List.set_cons_zero, List.set_cons_succ]
      refine Step.take (i := 27) rfl (by kernel_rfl) (by kernel_rfl) (by kernel_rfl) (fun _ _ _ h => h) (by rfl) (by (intro w hSw; (try dsimp only at hSw); go_simp; try (with_reducible rfl))) (by assumption) ?_
      try simp only [Act.put, List.setIfInBounds_toArray, List.set_cons_zero, List.set_cons_succ]
      refine Step.take (i := 28) rfl (by kernel_rfl) (by kernel_rfl) (by kernel_rfl) (fun _ _ _ h => h) (by rfl) (by (intro w hSw; (try dsimp only at hSw); go_simp; try (with_reducible rfl))) (by assumption) ?_
      try simp only [Act.put, List.setIfInBounds_toArray, List.set_cons_zero, List.set_cons_succ]
      refine wpAnyH_done (by kernel_rfl) ?_ _
      go_wp2_with fail
      go_ret
      exact ⟨rfl, (H5.out.trans ((at_drew h6).mono H5.out.size)).trans (h7.mono (Nat.le_trans H5.out.size h6.size))⟩
end Go.Proofs.Ytmkngolkflihlaa.Mp
