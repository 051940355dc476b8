/- Slices of texts that a call made: what they read as. -/
import Derived.Test.YtjfmdfmfefjhnaaRows
import Derived.WalkKit
import Derived.ProofKit
import Derived.Below
import Derived.Lib.Hide
import Derived.Laws.AppendOwn
namespace Go.Proofs.Ytjfmdfmfefjhnaa.LStr
open Go.ChangeShapes Go.WideShapes Go.ChangeAt Go.RowKit
set_option linter.unusedVariables false

theorem infoStr : (Try.prog.info? 9).map (fun i => (i.zero, i.size, i.bytes)) = some (some (.string ⟨#[]⟩), 1, 16) := by kernel_rfl

/-- a slice of texts of the call's own, from block base on -/
def Strs (w : World) (base : Nat) (v : Value) (xs : List ByteArray) : Prop := w.ownsRow base 9 1 v xs.length (xs.map Value.string)

/-- what a slice of texts reads as -/
def StrsIn (w : World) (base : Nat) (v : Value) (xs : List ByteArray) : Prop :=
  (xs = [] ∧ v = .slice none 0 0) ∨
  ∃ g cap, v = .slice (some ⟨g, 0, none⟩) xs.length cap ∧ base ≤ g ∧ g < w.heap.size ∧ ∀ j, j < xs.length → w.cell? ⟨g, j, none⟩ = some (.string (xs.getD j ⟨#[]⟩))

theorem Strs.at {w : World} {base : Nat} {v : Value} {xs : List ByteArray} (h : Strs w base v xs) : StrsIn w base v xs := by
  have hl := World.ownsRow.lt h
  have hc := fun g hg => World.ownsRow.cells (g := g) h hg
  rcases h.2 with ⟨rfl, hn⟩ | ⟨g, cap, cur, rfl, hb, hg, _⟩
  · exact .inl ⟨List.eq_nil_of_length_eq_zero hn, rfl⟩
  · refine .inr ⟨g, cap, rfl, hb, (hl g rfl).2, fun j hj => ?_⟩
    have ha : (⟨g, 0, none⟩ : Addr).add j = ⟨g, j, none⟩ := by unfold Addr.add; split <;> simp_all
    have := hc g rfl j (.string (xs.getD j ⟨#[]⟩)) (by simp [List.getElem?_eq_getElem hj])
    rwa [ha] at this

theorem StrsIn.below {w w' : World} {base B : Nat} {v : Value} {xs : List ByteArray} (h : StrsIn w base v xs) (hB : w.heap.size ≤ B) (hb : Below B w w') : StrsIn w' base v xs := by
  rcases h with h | ⟨g, cap, rfl, h1, h2, h3⟩
  · exact .inl h
  · exact .inr ⟨g, cap, rfl, h1, Nat.lt_of_lt_of_le h2 hb.size, fun j hj => by rw [hb.cell (p := ⟨g, j, none⟩) (Nat.lt_of_lt_of_le h2 hB)]; exact h3 j hj⟩

theorem Strs.below {w w' : World} {base B : Nat} {v : Value} {xs : List ByteArray} (h : Strs w base v xs) (hB : w.heap.size ≤ B) (hb : Below B w w') : Strs w' base v xs := by
  have hl := World.ownsRow.lt h
  refine ⟨h.1, ?_⟩
  rcases h.2 with h2 | ⟨g, cap, cur, rfl, h1, h2, h3⟩
  · exact .inl h2
  · exact .inr ⟨g, cap, cur, rfl, h1, (hb.block g (Nat.lt_of_lt_of_le (hl g rfl).2 hB)).trans h2, h3⟩

theorem Strs.nil (w : World) (base : Nat) : Strs w base (.slice none 0 0) [] := World.ownsRow_nil w base _ _

theorem strs_push {w wr w1 : World} {base : Nat} {v v' : Value} {o : Obj} {xs : List ByteArray} {x : ByteArray} (hB : base ≤ wr.heap.size) (hown : Strs wr base v xs) (hb : Below base w wr)
    (hown' : w1.ownsRow base 9 1 v' (xs.length + 1) (xs.map Value.string ++ [.string x])) (hg : (wr.alloc o).grownBy w1 v.ownBlock) :
    Strs w1 base v' (xs ++ [x]) ∧ Below base w w1 := by
  refine ⟨?_, (hb.alloc hB o).grown hg (by simp; omega) (fun j hj => (World.ownsRow.lt hown j hj).1)⟩
  unfold Strs
  rw [List.length_append, List.map_append]
  exact hown'
end Go.Proofs.Ytjfmdfmfefjhnaa.LStr
