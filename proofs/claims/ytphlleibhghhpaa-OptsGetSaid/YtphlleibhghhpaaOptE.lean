/- The options told one by one, to one who collects them and stops. -/
import Derived.Test.YtphlleibhghhpaaOpt5
namespace Go.Proofs.Ytphlleibhghhpaa.Opt
open Go.ChangeShapes Go.WideShapes Go.ChangeAt Go.RowKit Go.Shelf
set_option linter.unusedVariables false

attribute [local go_sem] Oper.semAt_some

theorem goods_stop : ∀ (pre : List (O × Int)) (x : O × Int), errs pre = 0 → x.2 ≠ 0 → goods (pre ++ [x]) = goods pre
  | [], x, _, hx => by
    show goods [x] = []
    unfold goods
    rw [if_neg hx]
  | y :: r, x, h, hx => by
    show goods (y :: (r ++ [x])) = goods (y :: r)
    unfold errs at h
    unfold goods
    split at h
    · rename_i hy; rw [if_pos hy, if_pos hy, goods_stop r x h hx]
    · rename_i hy; exact absurd h hy
theorem goods_prefix : ∀ {pre l : List (O × Int)}, pre <+: l → errs pre = 0 → goods pre <+: goods l
  | [], l, _, _ => ⟨_, rfl⟩
  | y :: r, l, ⟨t, ht⟩, h => by
    subst ht
    show goods (y :: r) <+: goods (y :: (r ++ t))
    unfold errs at h
    unfold goods
    split at h
    · rename_i hy
      rw [if_pos hy, if_pos hy]
      obtain ⟨u, hu⟩ := goods_prefix (pre := r) (l := r ++ t) ⟨t, rfl⟩ h
      exact ⟨u, by rw [← hu]; rfl⟩
    · rename_i hy; exact absurd h hy
theorem goods_same : ∀ {pre l : List (O × Int)}, pre <+: l → errs pre ≠ 0 → goods l = goods pre
  | [], l, _, h => absurd rfl h
  | y :: r, l, ⟨t, ht⟩, h => by
    subst ht
    show goods (y :: (r ++ t)) = goods (y :: r)
    unfold errs at h
    unfold goods
    split at h
    · rename_i hy
      rw [if_pos hy, if_pos hy, goods_same (pre := r) (l := r ++ t) ⟨t, rfl⟩ h]
    · rename_i hy; rw [if_neg hy, if_neg hy]

/-- so many are told -/
def manyOf (n : Nat) (most : Int) : Nat := (min (n : Int) (max most 1)).toNat

/-- what was collected, in the variable T; whatever else lay in W0 lies as it lay -/
def Taken (W0 : World) (T : Nat) (g : List O) (W : World) : Prop :=
  (∃ v, Boxed W T 23 v ∧ W.ownsRow W0.heap.size 30 2 v g.length (cellsOf g) ∧ True) ∧ W0.grownBy W (some T)

theorem Taken.alloc {W0 W : World} {T : Nat} {g : List O} (h : Taken W0 T g W) (o : Obj) : Taken W0 T g (W.alloc o) := by
  obtain ⟨⟨v, hv, hr, -⟩, hg⟩ := h
  refine ⟨⟨v, hv.alloc o, hr.alloc o, trivial⟩, hg.os, hg.tape, hg.output, Nat.le_trans hg.size (by simp), fun k hk hne => ?_⟩
  exact ((Below.refl _ W).alloc (Nat.le_refl _) o).block k (Nat.lt_of_lt_of_le hk hg.size) |>.trans (hg.block k hk hne)

theorem taken_push {W0 W w1 : World} {T : Nat} {v v' : Value} {g : List O} {k : Int} {x : ByteArray} {tmp : Obj} (hT : T < W0.heap.size)
    (hv : Boxed W T 23 v) (hrow : W.ownsRow W0.heap.size 30 2 v g.length (cellsOf g)) (hg : W0.grownBy W (some T))
    (hown' : w1.ownsRow W0.heap.size 30 2 v' (g.length + 1) (cellsOf g ++ [.int .i64 k, .string x])) (hgrow : (W.alloc tmp).grownBy w1 v.ownBlock) :
    Boxed w1 T 23 v ∧ Boxed (w1.setCell ⟨T, 0, none⟩ v') T 23 v' ∧ Taken W0 T (g ++ [⟨k, x⟩]) (w1.setCell ⟨T, 0, none⟩ v') ∧ KeepsOthers W (w1.setCell ⟨T, 0, none⟩ v') := by
  have hne := hv.not_row (by decide) hrow
  have hv1 : Boxed w1 T 23 v := (hv.alloc tmp).kept hgrow hne
  have hsz1 : W.heap.size ≤ w1.heap.size := Nat.le_trans (by simp) hgrow.size
  have hsz2 : w1.heap.size ≤ (w1.setCell ⟨T, 0, none⟩ v').heap.size := (grownBy_setCell' w1 T v').size
  refine ⟨hv1, hv1.set v', ⟨⟨v', hv1.set v', ?_, trivial⟩, ?_⟩, ?_⟩
  · rw [List.length_append, cellsOf_snoc]
    exact World.ownsRow.kept hown' (grownBy_setCell' w1 T v') (.inr (hv1.not_row (by decide) hown').symm)
  · have ha := (World.grownBy_alloc W tmp none)
    have hs := grownBy_setCell' w1 T v'
    refine ⟨hs.os.trans (hgrow.os.trans (ha.os.trans hg.os)), hs.tape.trans (hgrow.tape.trans (ha.tape.trans hg.tape)), hs.output.trans (hgrow.output.trans (ha.output.trans hg.output)), Nat.le_trans hg.size (Nat.le_trans hsz1 hsz2), fun j hj hjT => ?_⟩
    have hjW := Nat.lt_of_lt_of_le hj hg.size
    have hjA : j < (W.alloc tmp).heap.size := by simp; omega
    rw [hs.block j (Nat.lt_of_lt_of_le hjW hsz1) hjT, hgrow.block j hjA (fun e => by
      have := (World.ownsRow.lt hrow j e.symm).1
      omega), ha.block j hjW (by simp)]
    exact hg.block j hj hjT
  · refine ((KeepsOthers.alloc W tmp).trans (KeepsOthers.of_grownBy hgrow fun j o ej hj => ?_)).trans (KeepsOthers.setCell _ _ _)
    rcases (hrow.alloc tmp).2 with ⟨rfl, _⟩ | ⟨g, cap, cur, rfl, _, hgb, _⟩
    · simp [Value.ownBlock] at ej
    · obtain rfl : g = j := by simpa [Value.ownBlock] using ej
      rw [hgb] at hj; cases hj; rfl

set_option maxRecDepth 100000 in
set_option maxHeartbeats 1000000 in
theorem push_any (W0 : World) (T M : Nat) (most : Int) (g : List O) (k : Int) (x : ByteArray) (w : World) (hT : T < W0.heap.size) (hM : M < W0.heap.size) (hMT : M ≠ T) (hMc : W0.cell? ⟨M, 0, none⟩ = some (.int .i64 most)) (h : Taken W0 T g w) (hlen : g.length ≤ 3000) :
    Calls Try.prog 11 #[.agg #[.int .i64 k, .string x], .pointer (some ⟨T, 0, none⟩), .pointer (some ⟨M, 0, none⟩)] w fun e w' =>
      e = .returned (.bool (decide (((g.length + 1 : Nat) : Int) < most))) ∧ Taken W0 T (g ++ [⟨k, x⟩]) w' ∧ KeepsOthers w w' := by
  obtain ⟨i0, hi, hz0, hz1, hz2⟩ := info_parts infoOpt
  have hka := KeepsOthers.alloc w (.cells #[.int .i64 k, .string x] 30)
  obtain ⟨⟨v, hv, hrow, -⟩, hg⟩ := h.alloc (.cells #[.int .i64 k, .string x] 30)
  have hb2 := Box2.new w 30 (.int .i64 k) (.string x)
  obtain ⟨hx0, hx1⟩ := hb2.cell
  have hc := hv.cell
  have hf := hv.frozen
  have hsz := hg.size
  go_enter Try.func11, Try.ntmps11
  go_wp2_with (at_builtin; refine wpList_append_own _ rfl _ _ 23 rfl W0.heap.size 30 i0 (.agg #[.int .i64 0, .string ⟨#[]⟩]) 2 24 Try.underlying23 hi hz0 hz1 hz2 rfl (by decide) _ _ _ rfl (World.ownsRow.alloc hrow _) ⟨w.heap.size + 1, 0, none⟩ 1 1 [.int .i64 k, .string x] rfl rfl ?c1 (by simp [Value.oneCell']) (by unfold maxLen; omega) (by omega) (by simp at hsz ⊢; omega) ?_)
  case c1 =>
    have := cell_two_new (w.alloc (.cells #[.int .i64 k, .string x] 30)) (.int .i64 k) (.string x) 30
    rwa [World.size_alloc] at this
  intro v' w1 hown' hgrow _
  obtain ⟨g', cap', rfl⟩ := ownsRow_succ hown'
  obtain ⟨hv1, hv2, ht, hk⟩ := taken_push hT hv hrow hg hown' hgrow
  have hc1 := hv1.cell
  have hf1 := hv1.frozen
  have hc2 := hv2.cell
  have hMc2 := World.grownBy.cell ht.2 hMc (by simpa using hMT)
  have Ht := Lib.hid ht
  have Hk := Lib.hid (hka.trans hk)
  clear hka hk ht hg hgrow hown' hrow hv1 hv2 hv hb2
  go_wp2_with fail
  go_ret
  exact ⟨by simp, Ht.out, Hk.out⟩
end Go.Proofs.Ytphlleibhghhpaa.Opt
