/- A list of runs, copied; what an iterator over it holds. -/
import Derived.Test.YtdnddhnnpplgjaaAvecS
import Derived.Laws.EntriesVeiled
import Derived.Laws.Cover3
import Derived.RangeFuncNested
import Derived.RangeFuncBound
import Derived.RangeFuncCalls
import Derived.RangeFuncLeaves
import Derived.WalkKit
import Derived.OwnWalkIn
import Derived.TacticsInMore
import Derived.LoopNIn
import Derived.LoopIn
import Derived.Lib.SliceRun
namespace Go.Proofs.Ytdnddhnnpplgjaa.Avec
open Go.ChangeShapes Go.WideShapes Go.ChangeAt Go.RowKit Go.Shelf
set_option linter.unusedVariables false

theorem RunsAt.none {w : World} {l : List R} (h : RunsAt w none l) : l = [] := by
  rcases h with h | ⟨b, off, h, _⟩
  · exact h
  · cases h
theorem news_at {w : World} {ad : Addr} {l : List R} (h : RunsAt w (some ad) l) : ∀ j u, (cellsOf l)[j]? = some u → w.cell? (ad.add j) = some u := by
  intro j u hj
  rcases h with rfl | ⟨b, off, e, h1, h2⟩
  · simp [cellsOf] at hj
  · cases e
    have hjl : j < (cellsOf l).length := (List.getElem?_eq_some_iff.1 hj).1
    rw [cellsOf_length] at hjl
    have ha : (⟨b, off, Option.none⟩ : Addr).add j = ⟨b, off + j, Option.none⟩ := by unfold Addr.add; split <;> simp_all
    rw [ha]
    obtain ⟨o, ho⟩ := some_at (l := l) (i := j / 2) (by omega)
    obtain ⟨g0, g1⟩ := cellsOf_get l (j / 2) o ho
    obtain ⟨c0, c1⟩ := h2 (j / 2) o ho
    by_cases hp : j % 2 = 0
    · rw [show j = j / 2 * 2 by omega, g0] at hj
      rw [show off + j = off + j / 2 * 2 by omega, c0, Option.some.inj hj]
    · rw [show j = j / 2 * 2 + 1 by omega, g1] at hj
      rw [show off + j = off + j / 2 * 2 + 1 by omega, c1, Option.some.inj hj]
theorem cellsOf_one (l : List R) : ∀ u ∈ cellsOf l, u.oneCell' = true := by
  intro u hu
  simp only [cellsOf, List.mem_flatMap] at hu
  obtain ⟨o, _, ho⟩ := hu
  simp at ho
  rcases ho with rfl | rfl <;> rfl

set_option maxRecDepth 100000 in
set_option maxHeartbeats 1000000 in
theorem clone_any (l : List R) (hlen : l.length ≤ 5000) (a : Option Addr) (cap : Nat) (w : World) (h : RunsAt w a l) :
    Calls Try.prog 28 #[.slice a l.length cap] w fun e w' => ∃ v, e = .returned v ∧ Runs w' w.heap.size v l ∧ Below w.heap.size w w' := by
  obtain ⟨i0, hi, hz0, hz1, hz2⟩ := info_parts infoRun
  cases a with
  | none =>
    obtain rfl := h.none
    have q := fun (w : World) (a : Option Addr) (n c n' c' : Nat) => Lib.run_eql_slice_nil (P := Try.prog) w _ _ a n c n' c' Try.underlying22
    go_enter Try.func28, Try.ntmps28
    go_wp2_with fail
    go_returns
    exact ⟨_, rfl, Runs.nil _ _, Below.refl _ _⟩
  | some ad =>
    have q := fun (w : World) (a : Option Addr) (n c n' c' : Nat) => Lib.run_eql_slice_nil (P := Try.prog) w _ _ a n c n' c' Try.underlying22
    have Hn := Lib.hid (fun (w' : World) (hb : Below w.heap.size w w') => news_at (h.below hb))
    go_enter Try.func28, Try.ntmps28
    go_wp2_with (at_builtin; refine wpList_append_own _ rfl _ _ 22 rfl w.heap.size 45 i0 (.agg #[.int .i64 0, .int .i64 0]) 2 16 Try.underlying22 hi hz0 hz1 hz2 rfl (by decide) _ _ _ rfl (World.ownsRow_made w #[] 0 (Nat.le_refl _) (Nat.zero_le _) (by simp)) ad l.length cap (cellsOf l) rfl (cellsOf_length l) ?q2 (cellsOf_one l) ?q4 ?q5 (by simp) ?_)
    case q2 => exact Hn.out _ ((Below.refl _ _).alloc (Nat.le_refl _) _)
    case q4 => unfold maxLen; omega
    case q5 => omega
    intro v' w1 hown hgrow _
    have hb := ((Below.refl _ w).alloc (Nat.le_refl _) _).grown hgrow (by simp) (by intro k hk; simp [Value.ownBlock] at hk; omega)
    clear hgrow
    go_wp2_with fail
    go_returns
    exact ⟨_, rfl, hown, hb⟩

/-- a list that lies in a block of runs -/
def RunsT (w : World) (a : Option Addr) (l : List R) : Prop :=
  l = [] ∨ ∃ b off cs m, a = some ⟨b, off, none⟩ ∧ w.heap[b]? = some (.cells cs 45 m) ∧ ∀ i o, l[i]? = some o → w.cell? ⟨b, off + i * 2, none⟩ = some (.int .i64 o.state) ∧ w.cell? ⟨b, off + i * 2 + 1, none⟩ = some (.int .i64 o.many)
/-- whatever block of runs there is, it lies as it lay -/
def KeepsRuns (W W' : World) : Prop := ∀ (b : Nat) (cs : Array Value) (m : Nat × Nat), W.heap[b]? = some (Obj.cells cs 45 m) → W'.heap[b]? = W.heap[b]?
theorem KeepsRuns.trans {A B C : World} (h : KeepsRuns A B) (k : KeepsRuns B C) : KeepsRuns A C := fun b cs m hb => (k b cs m ((h b cs m hb).trans hb)).trans (h b cs m hb)
theorem keepsRuns_below {w w' : World} (h : Below w.heap.size w w') : KeepsRuns w w' := fun b cs m hb => h.block b (Array.getElem?_eq_some_iff.1 hb).1
theorem keepsRuns_putObj (W : World) (l : Nat) (o o' : Obj) (h : W.heap[l]? = some o) (ho : o.isCells = false) : KeepsRuns W (W.putObj l o') := fun b cs m hb => World.putObj_heap_other (fun e => by
  rw [← e, hb] at h
  cases h
  cases ho)
theorem RunsT.keeps {w w' : World} {a : Option Addr} {l : List R} (h : RunsT w a l) (hk : KeepsRuns w w') : RunsT w' a l := by
  rcases h with h | ⟨b, off, cs, m, rfl, h1, h2⟩
  · exact .inl h
  · have e := hk b cs m h1
    exact .inr ⟨b, off, cs, m, rfl, e.trans h1, fun i o hi => ⟨(World.cell?_of_block (a := ⟨b, _, none⟩) e).trans (h2 i o hi).1, (World.cell?_of_block (a := ⟨b, _, none⟩) e).trans (h2 i o hi).2⟩⟩
theorem RunsT.at {w : World} {a : Option Addr} {l : List R} (h : RunsT w a l) : RunsAt w a l := by
  rcases h with h | ⟨b, off, cs, m, rfl, h1, h2⟩
  · exact .inl h
  · exact .inr ⟨b, off, rfl, (Array.getElem?_eq_some_iff.1 h1).1, h2⟩
theorem Runs.atT {w : World} {base : Nat} {v : Value} {l : List R} (h : Runs w base v l) : ∃ a cap, v = .slice a l.length cap ∧ RunsT w a l := by
  have hc := fun g hg => World.ownsRow.cells (g := g) h hg
  rcases h.2 with ⟨rfl, hn⟩ | ⟨g, cap, cur, rfl, hb, hg, _⟩
  · obtain rfl := List.eq_nil_of_length_eq_zero hn
    exact ⟨none, 0, rfl, .inl rfl⟩
  · refine ⟨_, cap, rfl, .inr ⟨g, 0, cur, _, rfl, hg, fun i o hi => ?_⟩⟩
    obtain ⟨h0, h1⟩ := cellsOf_get l i o hi
    have c0 := hc g rfl _ _ h0
    have c1 := hc g rfl _ _ h1
    rw [add_at] at c0 c1
    exact ⟨c0, c1⟩
theorem Box2.keeps {w w' : World} {B : Nat} {u v : Value} (h : Box2 w B 45 u v) (hk : KeepsRuns w w') : Box2 w' B 45 u v := (hk B _ _ h).trans h

theorem run_equalIn_func_nil {P : Program} {w : World} (d : Nat) (t : TypeId) {a b : Array TypeId} {c : Bool} (f : Fn) (x y : Array Value) (h : P.underlying t = some (.func a b c)) : (Op.equalIn (d + 1) t (.func f x y) .nilFunc).run P w = .ok false w := by
  simp [Op.equalIn, run_underlying h]
theorem yield_not_nil (f : Fn) (x y : Array Value) (w : World) : (binOp .eql 40 (.func f x y) .nilFunc).run Try.prog w = .ok (.bool false) w := by
  have h : (Op.equal 40 (.func f x y) .nilFunc).run Try.prog w = .ok false w := run_equalIn_func_nil 9999 _ f x y Try.underlying40
  simp only [binOp]
  simp [h]
theorem each_not_nil (f : Fn) (x y : Array Value) (w : World) : (binOp .eql 37 (.func f x y) .nilFunc).run Try.prog w = .ok (.bool false) w := by
  have h : (Op.equal 37 (.func f x y) .nilFunc).run Try.prog w = .ok false w := run_equalIn_func_nil 9999 _ f x y Try.underlying37
  simp only [binOp]
  simp [h]
end Go.Proofs.Ytdnddhnnpplgjaa.Avec
