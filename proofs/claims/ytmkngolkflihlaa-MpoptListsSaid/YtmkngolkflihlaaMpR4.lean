/- The document's Get: plain. -/
import Derived.Test.YtmkngolkflihlaaMpG0
import Derived.Test.YtmkngolkflihlaaRefCutP
namespace Go.Proofs.Ytmkngolkflihlaa.Mp
open Go.ChangeShapes Go.WideShapes Go.ChangeAt Go.RowKit
set_option linter.unusedVariables false

/-- where the number of the i-th size lies -/
def placeOf : Nat → Nat
  | 0 => 1
  | 1 => 2
  | 2 => 4
  | 3 => 5
  | _ => 3
def rnums (k : Int) (x : Rd) : Nat → Rd
  | 0 => x
  | i + 1 => if zs k i = 0 then rnums k x i else readF (rnums k x i) (.num (placeOf i) (zs k i))
def rtxt (k : Int) (x : Rd) : Rd := if hi k = 0 then x else readF x (.txt (lo k) (hi k))
theorem rsaid (s : ByteArray) (h : known (kindOf s) = true) : rtxt (kindOf s) (rnums (kindOf s) (begun s) 5) = said s := by
  unfold said
  generalize begun s = x
  rcases kinds _ h with h | h | h | h | h | h | h | h | h | h | h <;> (rw [h]; simp [rnums, rtxt, zs, za, zp, zt, zn, lo, hi, fields, reads, placeOf])

theorem place_in (i : Nat) : 1 ≤ placeOf i ∧ placeOf i ≤ 5 := by
  unfold placeOf
  split <;> omega
theorem set_kind (m : M) (j : Nat) (v : Int) (h : 1 ≤ j ∧ j ≤ 5) : (m.set j v).kind = m.kind ∧ (m.set j v).bytes = m.bytes := by
  rcases (by omega : j = 1 ∨ j = 2 ∨ j = 3 ∨ j = 4 ∨ j = 5) with rfl | rfl | rfl | rfl | rfl <;> exact ⟨rfl, rfl⟩
theorem rnums_kind (k : Int) (x : Rd) : ∀ i, (rnums k x i).m.kind = x.m.kind ∧ (rnums k x i).m.bytes = x.m.bytes
  | 0 => ⟨rfl, rfl⟩
  | i + 1 => by
    have ih := rnums_kind k x i
    unfold rnums
    split
    · exact ih
    · have := set_kind (rnums k x i).m (placeOf i) (wrap64 (Oct.whole (Oct.gotOf (rnums k x i).left (Oct.fell1 (rnums k x i).fail (zs k i)) (zs k i)))) (place_in i)
      exact ⟨this.1.trans ih.1, this.2.trans ih.2⟩
theorem rnums_size (k : Int) (x : Rd) : ∀ i, (rnums k x i).left.size ≤ x.left.size
  | 0 => Nat.le_refl _
  | i + 1 => by
    have ih := rnums_size k x i
    unfold rnums
    split
    · exact ih
    · exact Nat.le_trans (readF_size _ _) ih
/-- the numbers' row, a number set -/
theorem lrow_set (m : M) (i : Nat) (hi : i < 5) (v : Int) : lrow (m.set (placeOf i) v) = (lrow m).setIfInBounds i (.int .i64 v) := by
  rcases (by omega : i = 0 ∨ i = 1 ∨ i = 2 ∨ i = 3 ∨ i = 4) with rfl | rfl | rfl | rfl | rfl <;> rfl
theorem lrow_cell {w : World} {b : Nat} {m : M} (h : w.heap[b]? = some (.cells (lrow m) 55 (0, 0))) (i : Nat) (hi : i < 5) (v : Int) :
    (w.setCell ⟨b, i, none⟩ (.int .i64 v)).heap[b]? = some (.cells (lrow (m.set (placeOf i) v)) 55 (0, 0)) := by
  rw [heap_setCell_same _ _ _ _ _ _ h, lrow_set m i hi v]
/-- the option that the numbers' row says -/
theorem lrow_all (m : M) : rowOf m = #[.int .i64 m.kind, .int .i64 (fieldAt m 0), .int .i64 (fieldAt m 1), .int .i64 (fieldAt m 4), .int .i64 (fieldAt m 2), .int .i64 (fieldAt m 3), .string m.bytes] := rfl
end Go.Proofs.Ytmkngolkflihlaa.Mp
