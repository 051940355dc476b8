/- A slice of what says options of several paths, that came in: what is known of it. -/
import Derived.Test.YtmkngolkflihlaaMpL
import Derived.Test.YtmkngolkflihlaaMpArg
import Derived.Test.YtmkngolkflihlaaOptArg
import Derived.Deep.Slices
namespace Go.Proofs.Ytmkngolkflihlaa.Mp
open Go.ChangeShapes Go.WideShapes Go.ChangeAt Go.RowKit Go.Deep
open Go.Proofs.Ytmkngolkflihlaa.Opt (O OptsAt IsOpts isOpts_open list_of cell_lt)
set_option linter.unusedVariables false

theorem cells_multi {H : Type} {enc : TypeId × Value → H} {w : World} {base n : Nat} {spare : Nat → Bool} {held : Bool} {cs : List Value} {x : DataW H × List MemPlace}
    (h : DataW.trod enc Try.prog w base spare held n 23 cs = some x) : ∃ m : M, cs = cells1 m ∧ m.bytes.size ≤ maxLen := by
  obtain ⟨xs, n, _, -, hsz, hlen, hg⟩ := DataW.trod_struct Try.underlying23 h
  match cs, hsz.trans (show Try.prog.cellsOf 23 = 7 by kernel_rfl) with
  | [v0, v1, v2, v3, v4, v5, v6], _ =>
    have hi : Try.prog.cellsOf 3 = 1 := by kernel_rfl
    have hb : Try.prog.cellsOf 9 = 1 := by kernel_rfl
    match xs, hlen with
    | [y0, y1, y2, y3, y4, y5, y6], _ =>
      have g0 : DataW.trod enc Try.prog w base spare held n 3 [v0] = some y0 := by simpa [hi] using hg 0 _ rfl
      have g1 : DataW.trod enc Try.prog w base spare held n 3 [v1] = some y1 := by simpa [hi] using hg 1 _ rfl
      have g2 : DataW.trod enc Try.prog w base spare held n 3 [v2] = some y2 := by simpa [hi] using hg 2 _ rfl
      have g3 : DataW.trod enc Try.prog w base spare held n 3 [v3] = some y3 := by simpa [hi] using hg 3 _ rfl
      have g4 : DataW.trod enc Try.prog w base spare held n 3 [v4] = some y4 := by simpa [hi] using hg 4 _ rfl
      have g5 : DataW.trod enc Try.prog w base spare held n 3 [v5] = some y5 := by simpa [hi] using hg 5 _ rfl
      have g6 : DataW.trod enc Try.prog w base spare held n 9 [v6] = some y6 := by simpa [hb] using hg 6 _ rfl
      obtain ⟨a0, e0, -, -⟩ := DataW.trod_int Try.underlying3 g0
      obtain ⟨a1, e1, -, -⟩ := DataW.trod_int Try.underlying3 g1
      obtain ⟨a2, e2, -, -⟩ := DataW.trod_int Try.underlying3 g2
      obtain ⟨a3, e3, -, -⟩ := DataW.trod_int Try.underlying3 g3
      obtain ⟨a4, e4, -, -⟩ := DataW.trod_int Try.underlying3 g4
      obtain ⟨a5, e5, -, -⟩ := DataW.trod_int Try.underlying3 g5
      obtain ⟨a6, e6, -, hs⟩ := DataW.trod_string Try.underlying9 g6
      cases e0
      cases e1
      cases e2
      cases e3
      cases e4
      cases e5
      cases e6
      exact ⟨⟨a0, a1, a2, a4, a5, a3, a6⟩, rfl, hs⟩
/-- what is known of a slice of them that came in -/
def IsMs (W : World) (a : Option Addr) (len : Nat) : Prop := ∃ l : List M, l.length = len ∧ MsAt W a l ∧ len ≤ maxLen ∧ ∀ m, m ∈ l → m.bytes.size ≤ maxLen

theorem isMs_open {H : Type} {enc : TypeId × Value → H} {W : World} {a : Option Addr} {len cap : Nat} {d : DataW H} {p : List MemPlace}
    (h : DataW.Trod enc Try.prog W 0 (fun _ => true) true 35 (.slice a len cap) d p) : IsMs W a len := by
  obtain ⟨fuel, hf⟩ := h
  rcases open_slice Try.underlying35 hf with ⟨hcs, _⟩ | ⟨x, l, c, m, n, D, Pl, hcs, _, hl, hm, hmm, _, hcell⟩
  · simp [Value.cells] at hcs
    exact ⟨[], hcs.2.1.symm, .inl rfl, by rw [hcs.2.1]; decide, fun o ho => by simp at ho⟩
  · simp [Value.cells] at hcs
    obtain ⟨rfl, rfl, rfl⟩ := hcs
    by_cases hz : len = 0
    · subst hz
      exact ⟨[], rfl, .inl rfl, by decide, fun o ho => by simp at ho⟩
    · have hlm : len ≤ m := by rw [hmm]; split <;> omega
      have hC : Try.prog.cellsOf 23 = 7 := by kernel_rfl
      rw [hC] at hcell
      have key : ∀ i, i < m → ∃ o : M, (∀ j, j < 7 → W.cell? ((x.add (i * 7)).add j) = (cells1 o)[j]?) ∧ o.bytes.size ≤ maxLen := fun i hi => by
        obtain ⟨cs', h1, h2⟩ := hcell i hi
        obtain ⟨o, rfl, hs⟩ := cells_multi h2
        exact ⟨o, (World.cells?_some h1).2.2, hs⟩
      obtain ⟨b, off, spot⟩ := x
      have hspot : spot = none := by
        obtain ⟨o, h0, -⟩ := key 0 (by omega)
        have h1 : W.cell? _ = some _ := h0 0 (by omega)
        simpa [Addr.add] using World.cell?_spot h1
      subst hspot
      have ea : ∀ j, (⟨b, off, none⟩ : Addr).add j = ⟨b, off + j, none⟩ := fun j => by unfold Addr.add; split <;> simp_all
      have ea2 : ∀ i j, ((⟨b, off, none⟩ : Addr).add i).add j = ⟨b, off + i + j, none⟩ := fun i j => by rw [ea]; unfold Addr.add; split <;> simp_all
      obtain ⟨q, hq, hp⟩ := list_of (fun i (o : M) => At7 W b (off + i * 7) o ∧ o.bytes.size ≤ maxLen) len (fun i hi => by
        obtain ⟨o, h7, hs⟩ := key i (by omega)
        have h0 := h7 0 (by omega)
        have h1 := h7 1 (by omega)
        have h2 := h7 2 (by omega)
        have h3 := h7 3 (by omega)
        have h4 := h7 4 (by omega)
        have h5 := h7 5 (by omega)
        have h6 := h7 6 (by omega)
        rw [ea2] at h0 h1 h2 h3 h4 h5 h6
        exact ⟨o, ⟨h0, h1, h2, h3, h4, h5, h6⟩, hs⟩)
      refine ⟨q, hq, .inr ⟨b, off, rfl, ?_, fun i o ho => (hp i o ho).1⟩, by omega, fun o ho => ?_⟩
      · obtain ⟨o, h0, -⟩ := key 0 (by omega)
        have h1 : W.cell? _ = some _ := h0 0 (by omega)
        rw [ea2] at h1
        exact cell_lt h1
      · obtain ⟨j, hj, e⟩ := List.mem_iff_getElem.1 ho
        exact (hp j o (by rw [List.getElem?_eq_getElem hj, e])).2
end Go.Proofs.Ytmkngolkflihlaa.Mp
