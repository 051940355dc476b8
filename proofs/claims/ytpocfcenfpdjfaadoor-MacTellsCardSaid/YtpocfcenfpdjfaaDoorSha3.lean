/- The sums behind one block more: the contract of the program's. -/
import Derived.Test.YtpocfcenfpdjfaaDoorSha2
import Derived.Deep.QuietTactic
import Derived.BigQuiet
namespace Go.Proofs.YtpocfcenfpdjfaaDoor.Sha
open Go.ChangeShapes Go.WideShapes Go.ChangeAt Go.RowKit
set_option linter.unusedVariables false

/-- the constants, where the program keeps them -/
def Tabs (w : World) : Prop := (∃ t fr, w.heap[0]? = some (.cells (hs.list.map (Value.int .u32)).toArray t fr)) ∧ ∃ t fr, w.heap[1]? = some (.cells (ks.map (Value.int .u32)).toArray t fr)
theorem Tabs.below {w w' : World} {n : Nat} (h : Tabs w) (hb : Below n w w') (hn : 2 ≤ n) : Tabs w' := by
  obtain ⟨⟨t, fr, h1⟩, t', fr', h2⟩ := h
  exact ⟨⟨t, fr, (hb.block _ (by omega)).trans h1⟩, t', fr', (hb.block _ (by omega)).trans h2⟩
theorem Tabs.size {w : World} (h : Tabs w) : 2 ≤ w.heap.size := by
  obtain ⟨_, t', fr', h2⟩ := h
  have := (Array.getElem?_eq_some_iff.1 h2).1
  omega
theorem ks_length : ks.length = 64 := rfl
theorem Tabs.k {w : World} (h : Tabs w) (j : Nat) (hj : j < 64) : w.cell? ⟨1, j, none⟩ = some (.int .u32 (ks.getD j 0)) := by
  obtain ⟨_, t', fr', h2⟩ := h
  rw [cell_of_row _ _ _ _ _ _ h2]
  simp [List.getD, List.getElem?_eq_getElem (show j < ks.length from hj)]

/-- a block that was laid, and filled at once: the world under a name -/
theorem meet_laid {P : Program} {ops : Array Oper} {rest : List Oper} {a : Act} {Q : Exit → Act → World → Prop} (w1 : World) (o cs : Array Value) (t : TypeId)
    (h : ∀ w2, Below w1.heap.size w1 w2 → w2.heap[w1.heap.size]? = some (.cells cs t (0, 0)) → wpList P ops Q rest a w2) : wpList P ops Q rest a ((w1.alloc (.cells o t)).setRow w1.heap.size cs) :=
  h _ (below_setRow ((Below.refl _ _).alloc (Nat.le_refl _) _) (Nat.le_refl _) _) (setRow_heap _ _ _ _ _ _ (heap_alloc_new w1 _))

theorem t1_eq (a b c d e f g h K W : Int) : ((h + bits .xor .u32 (bits .xor .u32 (rr e 6) (rr e 11)) (rr e 25) + bits .xor .u32 (bits .and .u32 e f) (bits .and .u32 (bits .xor .u32 (if IntKind.u32.signed = true then -1 else IntKind.u32.max) e) g) + K) % 4294967296 + W) % 4294967296
    = t1Of ⟨a, b, c, d, e, f, g, h⟩ K W := by
  show _ = (h + bits .xor .u32 (bits .xor .u32 (rr e 6) (rr e 11)) (rr e 25) + bits .xor .u32 (bits .and .u32 e f) (bits .and .u32 (bits .xor .u32 (if IntKind.u32.signed = true then -1 else IntKind.u32.max) e) g) + K + W) % 4294967296
  rw [Int.emod_add_emod]

/-- eight numbers as an array's value -/
def St.val (s : St) : Value := .agg #[.int .u32 s.a, .int .u32 s.b, .int .u32 s.c, .int .u32 s.d, .int .u32 s.e, .int .u32 s.f, .int .u32 s.g, .int .u32 s.h]

set_option maxRecDepth 100000 in
set_option maxHeartbeats 400000 in
theorem stirred_any (s : St) (x : ByteArray) (w : World) (hx : x.size = 64) (hT : Tabs w) :
    Calls Tryd.prog 28 #[s.val, .string x] w fun e w' => e = .returned (stir s x.data.toList).val ∧ Below w.heap.size w w' := by
  unfold St.val
  go_enter Tryd.func28, Tryd.ntmps28
  go_wp2_with fail
  obtain ⟨w0, hw0⟩ : ∃ w0, w0 = ((w.alloc (.cells (s.list.map (Value.int .u32)).toArray 48)).alloc (.cells ((List.replicate 8 (0 : Int)).map (Value.int .u32)).toArray 48)) := ⟨_, rfl⟩
  have r0 : Row w0 w.heap.size 48 s.list := by rw [hw0]; exact heap_alloc2_old w _ _
  have r1 : Row w0 (w.heap.size + 1) 48 (List.replicate 8 0) := by rw [hw0]; exact heap_alloc2_new w _ _
  have hb : Below w.heap.size w w0 := by rw [hw0]; exact ((Below.refl _ _).alloc (Nat.le_refl _) _).alloc (by simp) _
  change Calls _ _ _ ((w.alloc (.cells (s.list.map (Value.int .u32)).toArray 48)).alloc (.cells ((List.replicate 8 (0 : Int)).map (Value.int .u32)).toArray 48)) _
  rw [← hw0]
  clear hw0
  refine (spread_any x _ hx).mono ?_
  rintro e w1 ⟨rfl, h1⟩
  have r0 := r0.below h1 r0.lt
  have r1 := r1.below h1 r1.lt
  have hT := hT.below hb hT.size
  have hT := hT.below h1 hT.size
  have hb := hb.trans (h1.mono hb.size)
  have hl := words_length x.data.toList 64
  have hi64 : (Tryd.prog.info? 70).map (·.size) = some ((words x.data.toList 64).map (Value.int .u32)).toArray.size := by simp only [List.size_toArray, List.length_map, hl]; kernel_rfl
  have hone := ints_one (words x.data.toList 64)
  have hc64 : ((words x.data.toList 64).map (Value.int .u32)).toArray.size = 64 := by simp
  obtain ⟨cs, hcs⟩ : ∃ cs, cs = ((words x.data.toList 64).map (Value.int .u32)).toArray := ⟨_, rfl⟩
  rw [← hcs] at hi64 hone hc64 ⊢
  dsimp only
  iterate 4 go_step
  refine wpList_store_row rfl 70 _ _ rfl w1.heap.size cs rfl rfl 70 _ (heap_alloc_new w1 _) hi64 (by rw [hc64]; rfl) hone ?_
  refine meet_laid _ _ _ _ (fun w2 hL hR => ?_)
  have r0 := r0.below hL r0.lt
  have r1 := r1.below hL r1.lt
  have hT := hT.below hL hT.size
  have r2 : Row w2 w1.heap.size 70 (words x.data.toList 64) := by unfold Row; rw [← hcs]; exact hR
  have hb2 := hb.trans (hL.mono hb.size)
  have hC := hb.size
  have hC0 := r0.lt
  clear hR hL hcs hi64 hone hc64 hb h1
  have e0 := r0.cell 0 (by rw [St.list_length]; omega)
  have e1 := r0.cell 1 (by rw [St.list_length]; omega)
  have e2 := r0.cell 2 (by rw [St.list_length]; omega)
  have e3 := r0.cell 3 (by rw [St.list_length]; omega)
  have e4 := r0.cell 4 (by rw [St.list_length]; omega)
  have e5 := r0.cell 5 (by rw [St.list_length]; omega)
  have e6 := r0.cell 6 (by rw [St.list_length]; omega)
  have e7 := r0.cell 7 (by rw [St.list_length]; omega)
  simp only [St.list, List.getD_cons_zero, List.getD_cons_succ] at e0 e1 e2 e3 e4 e5 e6 e7
  go_wp2_with fail
  go_quiet (fail)
  go_wp2_with fail
  go_loopw [6, 7, 8, 9, 10, 11, 12, 13, 35] (fun a b c d e f g h i wr => ∃ (k : Nat) (st : St), k ≤ 64 ∧ st = rounds (words x.data.toList 64) s k ∧ i = .int .i64 k ∧
      a = .int .u32 st.a ∧ b = .int .u32 st.b ∧ c = .int .u32 st.c ∧ d = .int .u32 st.d ∧ e = .int .u32 st.e ∧ f = .int .u32 st.f ∧ g = .int .u32 st.g ∧ h = .int .u32 st.h ∧
      Row wr w.heap.size 48 s.list ∧ Row wr (w.heap.size + 1) 48 (List.replicate 8 0) ∧ Row wr w1.heap.size 70 (words x.data.toList 64) ∧ Tabs wr ∧ Below w.heap.size w wr)
    (fun _ _ _ _ _ _ _ _ i _ => 64 - (intOf i).toNat)
  case atStart =>
    have hD := drawn_below w2 nq
    exact ⟨0, s, by omega, rfl, rfl, rfl, rfl, rfl, rfl, rfl, rfl, rfl, rfl, r0.below hD r0.lt, r1.below hD r1.lt, r2.below hD r2.lt, hT.below hD hT.size, hb2.trans (hD.mono hb2.size)⟩
  case round =>
    obtain ⟨k, st, hk, hst, rfl, rfl, rfl, rfl, rfl, rfl, rfl, rfl, rfl, r0, r1, r2, hT, hb⟩ := hrel
    have Hst := Lib.hid hst
    clear hst e0 e1 e2 e3 e4 e5 e6 e7
    by_cases hlt : k < 64
    · have ck := hT.k k hlt
      have cw := r2.cell k (by rw [words_length]; exact hlt)
      have bk : (0 : Int) ≤ (k : Int) ∧ (k : Int) < 64 := by omega
      have hk0 : ((k : Int)).toNat = k := by omega
      have Hn : Hid (rounds (words x.data.toList 64) s (k + 1) = step st (ks.getD k 0) ((words x.data.toList 64).getD k 0)) := Lib.hid (by rw [rounds, Hst.out])
      generalize ks.getD k 0 = K at *
      generalize (words x.data.toList 64).getD k 0 = W at *
      obtain ⟨a, b, c, d, e, f, g, h⟩ := st
      go_wp2_with fail
      go_quiet ((go_at_call 43; exact Calls.quiet_of_same (ror_any _ _ (by omega) (by omega) _)))
      rw [t1_eq a b c d e f g h K W]
      generalize hT1 : t1Of ⟨a, b, c, d, e, f, g, h⟩ K W = T1
      have HT1 := Lib.hid hT1
      clear hT1
      go_wp2_with (go_at_call 43; refine (ror_any _ _ (by omega) (by omega) _).mono ?_; rintro e w' ⟨rfl, rfl⟩)
      have hD := drawn_below wr nq
      exact ⟨⟨k + 1, step ⟨a, b, c, d, e, f, g, h⟩ K W, by omega, Hn.out.symm, rfl, by rw [← HT1.out]; rfl, rfl, rfl, rfl, by rw [← HT1.out]; rfl, rfl, rfl, rfl,
        r0.below hD r0.lt, r1.below hD r1.lt, r2.below hD r2.lt, hT.below hD hT.size, hb.trans (hD.mono hb.size)⟩, by simp [intOf]; omega⟩
    · obtain rfl : k = 64 := by omega
      have e0 := r0.cell 0 (by rw [St.list_length]; omega)
      have e1 := r0.cell 1 (by rw [St.list_length]; omega)
      have e2 := r0.cell 2 (by rw [St.list_length]; omega)
      have e3 := r0.cell 3 (by rw [St.list_length]; omega)
      have e4 := r0.cell 4 (by rw [St.list_length]; omega)
      have e5 := r0.cell 5 (by rw [St.list_length]; omega)
      have e6 := r0.cell 6 (by rw [St.list_length]; omega)
      have e7 := r0.cell 7 (by rw [St.list_length]; omega)
      simp only [St.list, List.getD_cons_zero, List.getD_cons_succ] at e0 e1 e2 e3 e4 e5 e6 e7
      have hn : ¬ ((64 : Nat) : Int) < 64 := by omega
      have hi8 : ∀ a b c d e f g h : Value, (Tryd.prog.info? 48).map (·.size) = some (#[a, b, c, d, e, f, g, h] : Array Value).size := fun _ _ _ _ _ _ _ _ => by kernel_rfl
      unfold Row at r1
      have hone8 : ∀ a b c d e f g h : Int, (#[.int .u32 a, .int .u32 b, .int .u32 c, .int .u32 d, .int .u32 e, .int .u32 f, .int .u32 g, .int .u32 h] : Array Value).all (·.oneCell') = true := fun a b c d e f g h => ints_one [a, b, c, d, e, f, g, h]
      have hnew := fun cs => setRow_heap wr (w.heap.size + 1) _ cs _ _ r1
      have hbn := fun cs => below_setRow hb (show w.heap.size ≤ w.heap.size + 1 by omega) cs
      go_wp2_with (refine wpList_store_row rfl 48 _ _ rfl (w.heap.size + 1) _ rfl rfl 48 _ r1 (hi8 _ _ _ _ _ _ _ _) (by rfl) (hone8 _ _ _ _ _ _ _ _) ?_)
      refine bodyPost_ret (v := (stir s x.data.toList).val) ?_ rfl ⟨rfl, hbn _⟩
      rw [stir, ← Hst.out]
      exact results_cell_row Tryd.results28 _ _ (w.heap.size + 1) 48 _ (0, 0) _ (by rfl) (hnew _) Tryd.underlying48 (by rfl) (hi8 _ _ _ _ _ _ _ _)
end Go.Proofs.YtpocfcenfpdjfaaDoor.Sha
