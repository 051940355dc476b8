/- An append of one cell to a slice of the call's own, in a region that draws its order: what stood in the old row stands. -/
import Derived.Test.YtpocfcenfpdjfaaDoorRows
import Derived.WalkKit
import Derived.ProofKit
import Derived.Below
import Derived.Laws.AppendOwn
import Derived.ArgAppend
import Derived.Deep.RegionLaw
namespace Go.Proofs.YtpocfcenfpdjfaaDoor.LU32
open Go.ChangeShapes Go.WideShapes Go.ChangeAt Go.RowKit
set_option linter.unusedVariables false

theorem run_append_keep {P : Program} {w : World} (base : Nat) (t ty e : TypeId) (i : TypeInfo) (z : Value) (bytes : Nat) (ht : P.underlying t = some (.slice e)) (hi : P.info? e = some i) (hz : i.zero = some z)
    (hsize : i.size = 1) (hby : i.bytes = bytes) (hzs : z.cells.size = 1)
    (g n cap : Nat) (xs : List Value) (hown : w.ownsRow base e 1 (.slice (some ⟨g, 0, none⟩) n cap) n xs)
    (ad : Addr) (c : Nat) (y : Value) (hy : w.cell? ad = some y) (h1 : y.oneCell' = true) (h63 : n + 1 ≤ maxLen) (hbytes : (n + 1) * bytes ≤ 140737488355328) (hbase : base ≤ w.heap.size) :
    ∃ v' w', (Builtin.append_ #[t, t] ty #[.slice (some ⟨g, 0, none⟩) n cap, .slice (some ad) 1 c]).run P w = .ok v' w' ∧ w'.ownsRow base e 1 v' (n + 1) (xs ++ [y]) ∧ w.grownBy w' (some g) ∧
      ∀ j, j < n → w'.cell? ⟨g, j, none⟩ = w.cell? ⟨g, j, none⟩ := by
  have hnews : ∀ j u, ([y] : List Value)[j]? = some u → w.cell? (ad.add j) = some u := by
    intro j u hj
    match j, hj with
    | 0, hj => simp at hj; subst hj; rw [← hy]; unfold Addr.add; split <;> simp_all
  have hone : ∀ u ∈ [y], u.oneCell' = true := by intro u hu; simp at hu; subst hu; exact h1
  obtain ⟨v', w', hrun, ho, hg, -⟩ := run_append_own (P := P) w base t ty e i z 1 bytes ht hi hz hsize hby hzs (by omega) _ n xs hown ad 1 c [y] rfl hnews hone h63 hbytes hbase
  refine ⟨v', w', hrun, ho, hg, ?_⟩
  have hcs := World.ownsRow.cells (g := g) hown rfl
  rcases hown.2 with ⟨hv, _⟩ | ⟨g', cap', cur, hv, hbg, hgc, hnc, hcm, hcs', htake⟩
  · cases hv
  · cases hv
    by_cases hroom : n + 1 ≤ cap
    · have hlt : n < cur.size := by omega
      have hr := run_append_room_cells (P := P) w t ty e i ht hi g 0 n cap ad 1 c [y] (by rw [hsize]; rfl) hnews hone hroom
        (fun j hj => by
          have : j = 0 := by simp at hj; exact hj
          subst this
          rw [hsize, cell_of_row _ _ _ _ _ _ hgc]
          simpa using hlt)
        (fun j hj => frozen_of_row _ _ _ _ _ hgc)
      rw [hrun] at hr
      injection hr with _ hw
      subst hw
      intro j hj
      rw [World.cell?_setCells_out]
      intro _ _
      left
      rw [hsize]
      show j < _
      omega
    · obtain ⟨v2, w2, hr, _, r2⟩ := run_append_arg_grows (P := P) w t ty e i z 1 bytes ht hi hz hsize hby hzs (by omega) ⟨g, 0, none⟩ n cap xs hown.1 hcs ad 1 c [y] rfl hnews (by omega) h63 hbytes
      rw [hrun] at hr
      injection hr with _ hw
      subst hw
      intro j hj
      exact World.cell?_of_block (r2.block g (Array.getElem?_eq_some_iff.1 hgc).1 (by simp))

theorem step_append_keep {P : Program} {ops : Array Oper} {o : Oper} {a : Act} {w : World} {K : Act → World → Prop} {Q : Exit → Act → World → Prop} {E : Prop} (hgd : o.guard = none) (s x : Operand) (t : TypeId)
    (ho : o.op = .call { callee := .builtin .append, args := #[s, x], argTypes := #[t, t] })
    (base : Nat) (e : TypeId) (i : TypeInfo) (z : Value) (bytes : Nat) (ht : P.underlying t = some (.slice e)) (hi : P.info? e = some i) (hz : i.zero = some z)
    (hsize : i.size = 1) (hby : i.bytes = bytes) (hzs : z.cells.size = 1)
    (g n cap : Nat) (xs : List Value) (hs : a.eval s = .slice (some ⟨g, 0, none⟩) n cap) (hown : w.ownsRow base e 1 (.slice (some ⟨g, 0, none⟩) n cap) n xs)
    (ad : Addr) (c : Nat) (y : Value) (hx : a.eval x = .slice (some ad) 1 c) (hy : w.cell? ad = some y) (h1 : y.oneCell' = true)
    (h63 : n + 1 ≤ maxLen) (hbytes : (n + 1) * bytes ≤ 140737488355328) (hbase : base ≤ w.heap.size)
    (h : ∀ v' w', w'.ownsRow base e 1 v' (n + 1) (xs ++ [y]) → w.grownBy w' (some g) → (∀ j, j < n → w'.cell? ⟨g, j, none⟩ = w.cell? ⟨g, j, none⟩) → K (a.put o.dst v') w') :
    if Region.wanted o (yielded ops a.tmps) = true then Oper.wp P o a w K Q else E := by
  have hw : Region.wanted o (yielded ops a.tmps) = true := by simp [Region.wanted, hgd]
  rw [if_pos hw]
  obtain ⟨v', w', hrun, r1, r2, r3⟩ := run_append_keep (P := P) base t o.type e i z bytes ht hi hz hsize hby hzs g n cap xs hown ad c y hy h1 h63 hbytes hbase
  unfold Oper.wp
  simp [execOp, ho, resolve, invoke, builtin, hs, hx, hrun, Result.andThen]
  exact h v' w' r1 r2 r3
theorem own_after {wr W : World} {base : Nat} {e : TypeId} {size : Nat} {v : Value} {n : Nat} {xs : List Value} (hown : wr.ownsRow base e size v n xs) (o : Obj) (h : W.heap = wr.heap) : (W.alloc o).ownsRow base e size v n xs := by
  have h' : W.ownsRow base e size v n xs := by
    unfold World.ownsRow at *
    rw [h]; exact hown
  exact World.ownsRow.alloc h' o
theorem new_after {wr W : World} (v : Value) (t : TypeId) (h : W.heap = wr.heap) : (W.alloc (.cells #[v] t)).cell? ⟨wr.heap.size, 0, none⟩ = some v := by
  rw [← h]
  exact cell_of_row _ _ 0 _ _ _ (heap_alloc_new W _)
end Go.Proofs.YtpocfcenfpdjfaaDoor.LU32
