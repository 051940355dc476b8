/- The document's own answers: what bytes say. -/
import Derived.Test.YtmkngolkflihlaaOpt5
import Derived.Test.YtmkngolkflihlaaOptR0
import Derived.Laws.AppendOwn
namespace Go.Proofs.Ytmkngolkflihlaa.Opt
open Go.ChangeShapes Go.WideShapes Go.ChangeAt Go.RowKit
set_option linter.unusedVariables false

theorem opts_push {w wr w1 : World} {base : Nat} {v v' : Value} {o : Obj} {xs : List O} {k : Int} {x : ByteArray} (hB : base ≤ wr.heap.size) (hown : Opts wr base v xs) (hb : Below base w wr)
    (hown' : w1.ownsRow base 26 2 v' (xs.length + 1) (cellsOf xs ++ [.int .i64 k, .string x])) (hg : (wr.alloc o).grownBy w1 v.ownBlock) :
    Opts w1 base v' (xs ++ [⟨k, x⟩]) ∧ Below base w w1 := by
  refine ⟨?_, (hb.alloc hB o).grown hg (by simp; omega) (fun j hj => (World.ownsRow.lt hown j hj).1)⟩
  unfold Opts
  rw [List.length_append, cellsOf_snoc]
  exact hown'

theorem Opts.at2 {w : World} {base : Nat} {v : Value} {l : List O} (h : Opts w base v l) : ∃ a cap, v = .slice a l.length cap ∧ OptsAt w a l ∧ l.length ≤ cap ∧ cap ≤ maxLen := by
  obtain ⟨a, cap, e, hat⟩ := h.at
  refine ⟨a, cap, e, hat, ?_⟩
  rcases h.2 with ⟨h1, hn⟩ | ⟨g, c, cur, h1, h2, h3, h4, h5, _⟩
  · have e2 : cap = 0 := (Value.slice.inj (e.symm.trans h1)).2.2
    rw [hn, e2]; exact ⟨Nat.le_refl _, by decide⟩
  · have e2 : cap = c := (Value.slice.inj (e.symm.trans h1)).2.2
    rw [e2]; exact ⟨h4, h5⟩

/-- how far it was read -/
def ReadAt (s : ByteArray) (base : Nat) (k : Nat) (v : Value) (w : World) : Prop :=
  ∃ xs : List O, Opts w base v xs ∧ xs.length ≤ k ∧ goods (told s) = xs ++ goods (from_ s k) ∧ errs (told s) = errs (from_ s k)

/-- what Read says -/
def ReadPost (s : ByteArray) (w : World) (e : Ending) (w' : World) : Prop :=
  ∃ a cap, e = .returned (.tuple #[.slice a (goods (told s)).length cap, .int .i64 (errs (told s))]) ∧ OptsAt w' a (goods (told s)) ∧ Below w.heap.size w w' ∧ (goods (told s)).length ≤ cap ∧ cap ≤ maxLen

end Go.Proofs.Ytmkngolkflihlaa.Opt
