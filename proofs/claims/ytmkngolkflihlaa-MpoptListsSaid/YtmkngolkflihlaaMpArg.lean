/- What says an option of several paths, that came in: what is known of it. -/
import Derived.Test.YtmkngolkflihlaaMpR2
import Derived.OpenShut
import Derived.ChangeOld
namespace Go.Proofs.Ytmkngolkflihlaa.Mp
open Go.ChangeShapes Go.WideShapes Go.ChangeAt Go.RowKit
set_option linter.unusedVariables false

theorem MpoptPuts_open0 {H : Type} {enc : TypeId × Value → H} {W w : World} {base b0 : Nat} {spare : Nat → Bool} {held : Bool} {r : Reach} {v : Value} {d : DataW H} {p : List MemPlace}
    (hv : Value.okWide Try.prog W r b0 23 v) (h : DataW.Trod enc Try.prog w base spare held 23 v d p) : ∃ m : M, v = .agg (rowOf m) := by
  obtain ⟨⟨l⟩, rfl, hsz⟩ := okWide_struct Try.underlying23 hv
  obtain ⟨fuel, hf⟩ := h
  obtain ⟨xs, n, _, -, _, hlen, hg⟩ := DataW.trod_struct Try.underlying23 hf
  match l, hsz.trans (show Try.prog.cellsOf 23 = 7 by kernel_rfl) with
  | [v0, v1, v2, v3, v4, v5, v6], _ =>
    have hi : Try.prog.cellsOf 3 = 1 := by kernel_rfl
    have hb : Try.prog.cellsOf 9 = 1 := by kernel_rfl
    match xs, hlen with
    | [y0, y1, y2, y3, y4, y5, y6], _ =>
      have g0 : DataW.trod enc Try.prog w base spare held n 3 [v0] = some y0 := by simpa [hi, Value.cells] using hg 0 _ rfl
      have g1 : DataW.trod enc Try.prog w base spare held n 3 [v1] = some y1 := by simpa [hi, Value.cells] using hg 1 _ rfl
      have g2 : DataW.trod enc Try.prog w base spare held n 3 [v2] = some y2 := by simpa [hi, Value.cells] using hg 2 _ rfl
      have g3 : DataW.trod enc Try.prog w base spare held n 3 [v3] = some y3 := by simpa [hi, Value.cells] using hg 3 _ rfl
      have g4 : DataW.trod enc Try.prog w base spare held n 3 [v4] = some y4 := by simpa [hi, Value.cells] using hg 4 _ rfl
      have g5 : DataW.trod enc Try.prog w base spare held n 3 [v5] = some y5 := by simpa [hi, Value.cells] using hg 5 _ rfl
      have g6 : DataW.trod enc Try.prog w base spare held n 9 [v6] = some y6 := by simpa [hb, Value.cells] using hg 6 _ rfl
      obtain ⟨a0, e0, -, -⟩ := DataW.trod_int Try.underlying3 g0
      obtain ⟨a1, e1, -, -⟩ := DataW.trod_int Try.underlying3 g1
      obtain ⟨a2, e2, -, -⟩ := DataW.trod_int Try.underlying3 g2
      obtain ⟨a3, e3, -, -⟩ := DataW.trod_int Try.underlying3 g3
      obtain ⟨a4, e4, -, -⟩ := DataW.trod_int Try.underlying3 g4
      obtain ⟨a5, e5, -, -⟩ := DataW.trod_int Try.underlying3 g5
      obtain ⟨a6, e6, -, -⟩ := DataW.trod_string Try.underlying9 g6
      cases e0
      cases e1
      cases e2
      cases e3
      cases e4
      cases e5
      cases e6
      exact ⟨⟨a0, a1, a2, a4, a5, a3, a6⟩, rfl⟩
end Go.Proofs.Ytmkngolkflihlaa.Mp
