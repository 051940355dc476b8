/- Options that bytes say: the contract of the program's. -/
import Derived.Test.YtmkngolkflihlaaOpt4
import Derived.Maps.AppendAt
namespace Go.Proofs.Ytmkngolkflihlaa.Opt
open Go.ChangeShapes Go.WideShapes Go.ChangeAt Go.RowKit Go.Shelf
set_option linter.unusedVariables false

attribute [local go_sem] Oper.semAt_some

theorem infoOpt : (Try.prog.info? 26).map (fun i => (i.zero, i.size, i.bytes)) = some (some (.agg #[.int .i64 0, .string ⟨#[]⟩]), 2, 24) := by kernel_rfl

/-- the cells of options -/
def cellsOf (l : List O) : List Value := l.flatMap fun o => [.int .i64 o.kind, .string o.value]
theorem cellsOf_snoc (l : List O) (o : O) : cellsOf (l ++ [o]) = cellsOf l ++ [.int .i64 o.kind, .string o.value] := by simp [cellsOf]
theorem cellsOf_get : ∀ (l : List O) (i : Nat) (o : O), l[i]? = some o → (cellsOf l)[i * 2]? = some (.int .i64 o.kind) ∧ (cellsOf l)[i * 2 + 1]? = some (.string o.value)
  | [], i, o, h => by simp at h
  | p :: r, 0, o, h => by
    obtain rfl : p = o := by simpa using h
    exact ⟨rfl, rfl⟩
  | p :: r, i + 1, o, h => by
    have := cellsOf_get r i o (by simpa using h)
    have e : cellsOf (p :: r) = .int .i64 p.kind :: .string p.value :: cellsOf r := rfl
    rw [e, show (i + 1) * 2 = i * 2 + 1 + 1 by omega]
    exact this

/-- a slice of options of the call's own, from block base on -/
def Opts (w : World) (base : Nat) (v : Value) (l : List O) : Prop := w.ownsRow base 26 2 v l.length (cellsOf l)
theorem Opts.at {w : World} {base : Nat} {v : Value} {l : List O} (h : Opts w base v l) : ∃ a cap, v = .slice a l.length cap ∧ OptsAt w a l := by
  have hl := World.ownsRow.lt h
  have hc := fun g hg => World.ownsRow.cells (g := g) h hg
  rcases h.2 with ⟨rfl, hn⟩ | ⟨g, cap, cur, rfl, hb, hg, _⟩
  · obtain rfl := List.eq_nil_of_length_eq_zero hn
    exact ⟨none, 0, rfl, .inl rfl⟩
  · refine ⟨_, cap, rfl, .inr ⟨g, 0, rfl, (hl g rfl).2, fun i o hi => ?_⟩⟩
    have ha : ∀ j, (⟨g, 0, none⟩ : Addr).add j = ⟨g, 0 + j, none⟩ := fun j => by unfold Addr.add; split <;> simp_all
    obtain ⟨h0, h1⟩ := cellsOf_get l i o hi
    have c0 := hc g rfl _ _ h0
    have c1 := hc g rfl _ _ h1
    rw [ha] at c0 c1
    exact ⟨c0, c1⟩

theorem Opts.below {w w' : World} {base B : Nat} {v : Value} {l : List O} (h : Opts w base v l) (hB : w.heap.size ≤ B) (hb : Below B w w') : Opts w' base v l := by
  have hl := World.ownsRow.lt h
  refine ⟨h.1, ?_⟩
  rcases h.2 with h2 | ⟨g, cap, cur, rfl, h1, h2, h3⟩
  · exact .inl h2
  · exact .inr ⟨g, cap, cur, rfl, h1, (hb.block g (Nat.lt_of_lt_of_le (hl g rfl).2 hB)).trans h2, h3⟩
theorem Opts.set {w : World} {base B : Nat} {v : Value} {l : List O} {t : TypeId} {u : Value} (h : Opts w base v l) (hb : Boxed w B t u) (ht : t ≠ 26) (x : Value) : Opts (w.setCell ⟨B, 0, none⟩ x) base v l :=
  World.ownsRow.kept h (grownBy_setCell' w B x) (.inr (hb.not_row ht h).symm)

/-- two cells that a variable has -/
def Box2 (W : World) (B : Nat) (t : TypeId) (u v : Value) : Prop := W.heap[B]? = some (.cells #[u, v] t (0, 0))
theorem Box2.lt {W : World} {B : Nat} {t : TypeId} {u v : Value} (h : Box2 W B t u v) : B < W.heap.size := (Array.getElem?_eq_some_iff.1 h).1
theorem Box2.cell {W : World} {B : Nat} {t : TypeId} {u v : Value} (h : Box2 W B t u v) : W.cell? ⟨B, 0, none⟩ = some u ∧ W.cell? ⟨B, 1, none⟩ = some v := by
  constructor <;> simp [World.cell?, show W.heap[B]? = _ from h]
theorem Box2.new (W : World) (t : TypeId) (u v : Value) : Box2 (W.alloc (.cells #[u, v] t)) W.heap.size t u v := World.alloc_heap_new W _
theorem Box2.below {w w' : World} {B N : Nat} {t : TypeId} {u v : Value} (h : Box2 w B t u v) (hb : Below N w w') (hN : B < N) : Box2 w' B t u v := (hb.block B hN).trans h
theorem box2_own {β : Type} (B : Nat) (t : TypeId) (u v : Value) : Own (fun (_ : β) W => Box2 W B t u v) := fun s X Y row hs hg hrow => by
  have hlt := Box2.lt hs
  refine (hg.block B hlt (fun e' => ?_)).trans hs
  obtain ⟨o, ho, hc⟩ := hrow B e'.symm
  rw [show X.heap[B]? = _ from hs] at ho; cases ho; cases hc
theorem cell_two_new (w : World) (x y : Value) (t : TypeId) : ∀ j u, [x, y][j]? = some u → (w.alloc (.cells #[x, y] t)).cell? ((⟨w.heap.size, 0, none⟩ : Addr).add j) = some u := by
  intro j u hj
  have ha : ∀ j, (⟨w.heap.size, 0, none⟩ : Addr).add j = ⟨w.heap.size, 0 + j, none⟩ := fun j => by unfold Addr.add; split <;> simp_all
  have hb := Box2.new w t x y
  rw [ha]
  match j, hj with
  | 0, hj => simp at hj; subst hj; exact hb.cell.1
  | 1, hj => simp at hj; subst hj; exact hb.cell.2

theorem errs_snoc : ∀ (pre : List (O × Int)) (x : O × Int), errs pre = 0 → errs (pre ++ [x]) = x.2
  | [], x, _ => by
    show errs [x] = x.2
    unfold errs
    split
    · rename_i h; rw [h]; rfl
    · rfl
  | y :: r, x, h => by
    show errs (y :: (r ++ [x])) = x.2
    unfold errs at h ⊢
    split at h
    · rename_i hy; rw [if_pos hy]; exact errs_snoc r x h
    · rename_i hy; exact absurd h hy
theorem goods_snoc : ∀ (pre : List (O × Int)) (x : O × Int), errs pre = 0 → x.2 = 0 → goods (pre ++ [x]) = goods pre ++ [x.1]
  | [], x, _, hx => by
    show goods [x] = [x.1]
    unfold goods
    rw [if_pos hx]; rfl
  | y :: r, x, h, hx => by
    show goods (y :: (r ++ [x])) = goods (y :: r) ++ [x.1]
    unfold errs at h
    unfold goods
    split at h
    · rename_i hy; rw [if_pos hy, if_pos hy, goods_snoc r x h hx]; rfl
    · rename_i hy; exact absurd h hy
theorem errs_prefix : ∀ {pre l : List (O × Int)}, pre <+: l → errs pre ≠ 0 → errs l = errs pre
  | [], l, _, h => absurd rfl h
  | y :: r, l, ⟨t, ht⟩, h => by
    subst ht
    show errs (y :: (r ++ t)) = errs (y :: r)
    unfold errs at h ⊢
    split at h
    · rename_i hy; rw [if_pos hy, if_pos hy]; exact errs_prefix ⟨t, rfl⟩ h
    · rename_i hy; rw [if_neg hy, if_neg hy]

end Go.Proofs.Ytmkngolkflihlaa.Opt
