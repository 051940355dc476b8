/- The document's Known and Sizes. -/
import Derived.Test.YtmkngolkflihlaaBase1
import Derived.Test.YtmkngolkflihlaaMp0
import Derived.Handy
import Derived.BigRegion
import Derived.Laws.Rows
import Derived.Laws.CopyOwn
namespace Go.Proofs.Ytmkngolkflihlaa.Mp
open Go.ChangeShapes Go.WideShapes Go.ChangeAt Go.RowKit
set_option linter.unusedVariables false

theorem RefKnown_any (k : Int) (w : World) : Calls Try.prog 28 #[.int .i64 k] w fun e w' => e = .returned (.bool (known k)) ∧ w' = w := by
  by_cases h0 : 0 ≤ k
  · by_cases h9 : k ≤ 11
    · by_cases h2 : k = 2
      · subst h2
        go_enter Try.func28, Try.ntmps28
        go_wp2
        go_ret
        exact ⟨rfl, rfl⟩
      · have hr : known k = true := by simp [known, h0, h9, h2]
        rw [hr]
        go_enter Try.func28, Try.ntmps28
        go_wp2
        go_ret
        exact ⟨by simp [h2], rfl⟩
    · have hr : known k = false := by simp [known, h9]
      rw [hr]
      go_enter Try.func28, Try.ntmps28
      go_wp2
      go_ret
      exact ⟨by simp, rfl⟩
  · have hr : known k = false := by simp [known, h0]
    rw [hr]
    go_enter Try.func28, Try.ntmps28
    go_wp2
    go_ret
    exact ⟨by simp, rfl⟩

theorem hi7 (v0 v1 v2 v3 v4 v5 v6 : Value) : (Try.prog.info? 53).map (·.size) = some (#[v0, v1, v2, v3, v4, v5, v6] : Array Value).size := by
  show _ = some 7
  kernel_rfl
theorem hone7 (a b c d f g k : Int) : (#[.int .i64 a, .int .i64 b, .int .i64 c, .int .i64 d, .int .i64 f, .int .i64 g, .int .i64 k] : Array Value).all (·.oneCell') = true := by
  simp [Value.oneCell']

/-- in a block just made, the sizes -/
theorem sizes_done (k : Int) (w : World) {fn : Func} (h : fn.results = #[.cell 2 53]) (tmps : Array Value) (a b c d f g l : Int)
    (hz : zv k = .agg #[.int .i64 a, .int .i64 b, .int .i64 c, .int .i64 d, .int .i64 f, .int .i64 g, .int .i64 l])
    (hp : tmps.getD 2 undef = .pointer (some ⟨w.heap.size, 0, none⟩)) (o : Array Value) :
    (results fn tmps).run Try.prog ((w.alloc (.cells o 53)).setRow w.heap.size #[.int .i64 a, .int .i64 b, .int .i64 c, .int .i64 d, .int .i64 f, .int .i64 g, .int .i64 l])
      = .ok (zv k) ((w.alloc (.cells o 53)).setRow w.heap.size #[.int .i64 a, .int .i64 b, .int .i64 c, .int .i64 d, .int .i64 f, .int .i64 g, .int .i64 l]) := by
  rw [hz]
  exact results_cell_row h tmps _ w.heap.size 53 _ (0, 0) _ hp (setRow_heap _ _ _ _ _ _ (heap_alloc_new w _)) Try.underlying53 rfl (hi7 _ _ _ _ _ _ _)

set_option maxHeartbeats 2000000 in
theorem RefSizes_any (k : Int) (w : World) : Calls Try.prog 21 #[.int .i64 k] w fun e w' => e = .returned (zv k) ∧ Below w.heap.size w w' := by
  by_cases h0 : k = 0
  · subst h0
    go_enter Try.func21, Try.ntmps21
    go_wp2_with (refine wpList_store_row rfl 53 _ _ rfl w.heap.size _ rfl rfl 53 _ (heap_alloc_new w _) (hi7 _ _ _ _ _ _ _) rfl (hone7 _ _ _ _ _ _ _) ?_)
    refine bodyPost_ret (sizes_done _ w Try.results21 _ _ _ _ _ _ _ _ ?_ rfl _) rfl ⟨rfl, below_setRow ((Below.refl _ _).alloc (Nat.le_refl _) _) (Nat.le_refl _) _⟩
    rfl
  by_cases h1 : k = 1
  · subst h1
    go_enter Try.func21, Try.ntmps21
    go_wp2_with (refine wpList_store_row rfl 53 _ _ rfl w.heap.size _ rfl rfl 53 _ (heap_alloc_new w _) (hi7 _ _ _ _ _ _ _) rfl (hone7 _ _ _ _ _ _ _) ?_)
    refine bodyPost_ret (sizes_done _ w Try.results21 _ _ _ _ _ _ _ _ ?_ rfl _) rfl ⟨rfl, below_setRow ((Below.refl _ _).alloc (Nat.le_refl _) _) (Nat.le_refl _) _⟩
    rfl
  by_cases h3 : k = 3
  · subst h3
    go_enter Try.func21, Try.ntmps21
    go_wp2_with (refine wpList_store_row rfl 53 _ _ rfl w.heap.size _ rfl rfl 53 _ (heap_alloc_new w _) (hi7 _ _ _ _ _ _ _) rfl (hone7 _ _ _ _ _ _ _) ?_)
    refine bodyPost_ret (sizes_done _ w Try.results21 _ _ _ _ _ _ _ _ ?_ rfl _) rfl ⟨rfl, below_setRow ((Below.refl _ _).alloc (Nat.le_refl _) _) (Nat.le_refl _) _⟩
    rfl
  by_cases h4 : k = 4
  · subst h4
    go_enter Try.func21, Try.ntmps21
    go_wp2_with (refine wpList_store_row rfl 53 _ _ rfl w.heap.size _ rfl rfl 53 _ (heap_alloc_new w _) (hi7 _ _ _ _ _ _ _) rfl (hone7 _ _ _ _ _ _ _) ?_)
    refine bodyPost_ret (sizes_done _ w Try.results21 _ _ _ _ _ _ _ _ ?_ rfl _) rfl ⟨rfl, below_setRow ((Below.refl _ _).alloc (Nat.le_refl _) _) (Nat.le_refl _) _⟩
    rfl
  by_cases h5 : k = 5
  · subst h5
    go_enter Try.func21, Try.ntmps21
    go_wp2_with (refine wpList_store_row rfl 53 _ _ rfl w.heap.size _ rfl rfl 53 _ (heap_alloc_new w _) (hi7 _ _ _ _ _ _ _) rfl (hone7 _ _ _ _ _ _ _) ?_)
    refine bodyPost_ret (sizes_done _ w Try.results21 _ _ _ _ _ _ _ _ ?_ rfl _) rfl ⟨rfl, below_setRow ((Below.refl _ _).alloc (Nat.le_refl _) _) (Nat.le_refl _) _⟩
    rfl
  by_cases h6 : k = 6
  · subst h6
    go_enter Try.func21, Try.ntmps21
    go_wp2_with (refine wpList_store_row rfl 53 _ _ rfl w.heap.size _ rfl rfl 53 _ (heap_alloc_new w _) (hi7 _ _ _ _ _ _ _) rfl (hone7 _ _ _ _ _ _ _) ?_)
    refine bodyPost_ret (sizes_done _ w Try.results21 _ _ _ _ _ _ _ _ ?_ rfl _) rfl ⟨rfl, below_setRow ((Below.refl _ _).alloc (Nat.le_refl _) _) (Nat.le_refl _) _⟩
    rfl
  by_cases h7 : k = 7
  · subst h7
    go_enter Try.func21, Try.ntmps21
    go_wp2_with (refine wpList_store_row rfl 53 _ _ rfl w.heap.size _ rfl rfl 53 _ (heap_alloc_new w _) (hi7 _ _ _ _ _ _ _) rfl (hone7 _ _ _ _ _ _ _) ?_)
    refine bodyPost_ret (sizes_done _ w Try.results21 _ _ _ _ _ _ _ _ ?_ rfl _) rfl ⟨rfl, below_setRow ((Below.refl _ _).alloc (Nat.le_refl _) _) (Nat.le_refl _) _⟩
    rfl
  by_cases h8 : k = 8
  · subst h8
    go_enter Try.func21, Try.ntmps21
    go_wp2_with (refine wpList_store_row rfl 53 _ _ rfl w.heap.size _ rfl rfl 53 _ (heap_alloc_new w _) (hi7 _ _ _ _ _ _ _) rfl (hone7 _ _ _ _ _ _ _) ?_)
    refine bodyPost_ret (sizes_done _ w Try.results21 _ _ _ _ _ _ _ _ ?_ rfl _) rfl ⟨rfl, below_setRow ((Below.refl _ _).alloc (Nat.le_refl _) _) (Nat.le_refl _) _⟩
    rfl
  by_cases h9 : k = 9
  · subst h9
    go_enter Try.func21, Try.ntmps21
    go_wp2_with (refine wpList_store_row rfl 53 _ _ rfl w.heap.size _ rfl rfl 53 _ (heap_alloc_new w _) (hi7 _ _ _ _ _ _ _) rfl (hone7 _ _ _ _ _ _ _) ?_)
    refine bodyPost_ret (sizes_done _ w Try.results21 _ _ _ _ _ _ _ _ ?_ rfl _) rfl ⟨rfl, below_setRow ((Below.refl _ _).alloc (Nat.le_refl _) _) (Nat.le_refl _) _⟩
    rfl
  by_cases h10 : k = 10
  · subst h10
    go_enter Try.func21, Try.ntmps21
    go_wp2_with (refine wpList_store_row rfl 53 _ _ rfl w.heap.size _ rfl rfl 53 _ (heap_alloc_new w _) (hi7 _ _ _ _ _ _ _) rfl (hone7 _ _ _ _ _ _ _) ?_)
    refine bodyPost_ret (sizes_done _ w Try.results21 _ _ _ _ _ _ _ _ ?_ rfl _) rfl ⟨rfl, below_setRow ((Below.refl _ _).alloc (Nat.le_refl _) _) (Nat.le_refl _) _⟩
    rfl
  by_cases h11 : k = 11
  · subst h11
    go_enter Try.func21, Try.ntmps21
    go_wp2_with (refine wpList_store_row rfl 53 _ _ rfl w.heap.size _ rfl rfl 53 _ (heap_alloc_new w _) (hi7 _ _ _ _ _ _ _) rfl (hone7 _ _ _ _ _ _ _) ?_)
    refine bodyPost_ret (sizes_done _ w Try.results21 _ _ _ _ _ _ _ _ ?_ rfl _) rfl ⟨rfl, below_setRow ((Below.refl _ _).alloc (Nat.le_refl _) _) (Nat.le_refl _) _⟩
    rfl
  have hz : zv k = .agg #[.int .i64 0, .int .i64 0, .int .i64 0, .int .i64 0, .int .i64 0, .int .i64 0, .int .i64 0] := by
    simp [zv, za, zp, zt, zn, lo, hi, *]
  go_enter Try.func21, Try.ntmps21
  go_wp2_with (refine wpList_store_row rfl 53 _ _ rfl w.heap.size _ rfl rfl 53 _ (heap_alloc_new w _) (hi7 _ _ _ _ _ _ _) rfl (hone7 _ _ _ _ _ _ _) ?_)
  refine bodyPost_ret (sizes_done _ w Try.results21 _ _ _ _ _ _ _ _ hz rfl _) rfl ⟨rfl, below_setRow ((Below.refl _ _).alloc (Nat.le_refl _) _) (Nat.le_refl _) _⟩
end Go.Proofs.Ytmkngolkflihlaa.Mp
