/- A slice of runs that came in: what is known of it. -/
import Derived.Test.YtdnddhnnpplgjaaAvecW1
import Derived.OpenShut
import Derived.Deep.SlicePairs
import Derived.ChangeOld
namespace Go.Proofs.Ytdnddhnnpplgjaa.Avec
open Go.ChangeShapes Go.WideShapes Go.ChangeAt Go.RowKit Go.Deep
set_option linter.unusedVariables false

theorem list_of {α : Type} (P : Nat → α → Prop) : ∀ n, (∀ i, i < n → ∃ o, P i o) → ∃ l : List α, l.length = n ∧ ∀ i o, l[i]? = some o → P i o
  | 0, _ => ⟨[], rfl, fun i o h => by simp at h⟩
  | n + 1, h => by
    obtain ⟨l, hl, hp⟩ := list_of P n (fun i hi => h i (by omega))
    obtain ⟨o, ho⟩ := h n (by omega)
    refine ⟨l ++ [o], by simp [hl], fun i x hx => ?_⟩
    by_cases hi : i < n
    · rw [List.getElem?_append_left (by omega)] at hx
      exact hp i x hx
    · have hlt : i < (l ++ [o]).length := (List.getElem?_eq_some_iff.1 hx).1
      obtain rfl : i = n := by simp [hl] at hlt; omega
      rw [List.getElem?_append_right (by omega), hl, Nat.sub_self] at hx
      obtain rfl : o = x := by simpa using hx
      exact ho

/-- what is known of a slice of runs that came in -/
def IsRuns (W : World) (a : Option Addr) (len : Nat) : Prop := ∃ l : List R, l.length = len ∧ RunsAt W a l ∧ len ≤ maxLen

theorem cell_lt {w : World} {b o : Nat} {v : Value} (h : w.cell? ⟨b, o, none⟩ = some v) : b < w.heap.size := by
  rcases Nat.lt_or_ge b w.heap.size with h' | h'
  · exact h'
  · unfold World.cell? at h
    rw [Array.getElem?_eq_none h'] at h
    simp at h

theorem isRuns_open {H : Type} {enc : TypeId × Value → H} {W : World} {a : Option Addr} {len cap : Nat} {d : DataW H} {p : List MemPlace}
    (h : DataW.Trod enc Try.prog W 0 (fun _ => true) true 22 (.slice a len cap) d p) : IsRuns W a len := by
  obtain ⟨fuel, hf⟩ := h
  rcases open_slice_pairs Try.underlying22 Try.underlying45 (by kernel_rfl) rfl rfl (by kernel_rfl) (by kernel_rfl) hf with ⟨hcs, _⟩ | ⟨x, l, c, m, n, V0, V1, D0, D1, P0, P1, hcs, _, hl, hm, hmm, _, hcell⟩
  · simp [Value.cells] at hcs
    exact ⟨[], hcs.2.1.symm, .inl rfl, by rw [hcs.2.1]; decide⟩
  · simp [Value.cells] at hcs
    obtain ⟨rfl, rfl, rfl⟩ := hcs
    by_cases hz : len = 0
    · subst hz
      exact ⟨[], rfl, .inl rfl, by decide⟩
    · have hlm : len ≤ m := by rw [hmm]; split <;> omega
      have h0 := hcell 0 (by omega)
      obtain ⟨b, off, spot⟩ := x
      have hspot : spot = none := by simpa [Addr.add] using World.cell?_spot h0.1
      subst hspot
      have ea : ∀ j, (⟨b, off, none⟩ : Addr).add j = ⟨b, off + j, none⟩ := fun j => by unfold Addr.add; split <;> simp_all
      obtain ⟨q, hq, hp⟩ := list_of (fun i (o : R) => W.cell? ⟨b, off + i * 2, none⟩ = some (.int .i64 o.state) ∧ W.cell? ⟨b, off + i * 2 + 1, none⟩ = some (.int .i64 o.many)) len (fun i hi => by
        have hi' := hcell i (by omega)
        obtain ⟨k, e1, _⟩ := DataW.trod_int Try.underlying3 hi'.2.2.1
        obtain ⟨s, e2, _⟩ := DataW.trod_int Try.underlying3 hi'.2.2.2
        have c0 := hi'.1
        have c1 := hi'.2.1
        rw [ea] at c0 c1
        exact ⟨⟨k, s⟩, c0.trans (congrArg some (List.cons.inj e1).1), c1.trans (congrArg some (List.cons.inj e2).1)⟩)
      refine ⟨q, hq, .inr ⟨b, off, rfl, ?_, fun i o ho => hp i o ho⟩, by omega⟩
      have h1 := h0.1
      rw [ea] at h1
      exact cell_lt h1

/-- what is known of a slice of ints that came in -/
def IsInts (W : World) (a : Option Addr) (len : Nat) : Prop := ∃ l : List Int, l.length = len ∧ IntsIn W a l ∧ len ≤ maxLen
theorem isInts_open {H : Type} {enc : TypeId × Value → H} {W : World} {a : Option Addr} {len cap : Nat} {d : DataW H} {p : List MemPlace}
    (h : DataW.Trod enc Try.prog W 0 (fun _ => true) true 33 (.slice a len cap) d p) : IsInts W a len := by
  obtain ⟨fuel, hf⟩ := h
  rcases open_ints Try.underlying33 Try.underlying3 (by kernel_rfl) hf with ⟨hcs, _⟩ | ⟨x, l, c, zs, hcs, _, hl, hm, hmm, _, hcell, _⟩
  · simp [Value.cells] at hcs
    exact ⟨[], hcs.2.1.symm, .inl rfl, by rw [hcs.2.1]; decide⟩
  · simp [Value.cells] at hcs
    obtain ⟨rfl, rfl, rfl⟩ := hcs
    have hlm : len ≤ zs.length := by rw [hmm]; split <;> omega
    refine ⟨zs.take len, by rw [List.length_take]; omega, ?_, by omega⟩
    by_cases hz : len = 0
    · exact .inl (by rw [hz]; rfl)
    · have h0 := hcell 0 (by omega)
      obtain ⟨b, off, spot⟩ := x
      have hspot : spot = none := by simpa [Addr.add] using World.cell?_spot h0
      subst hspot
      have ea : ∀ j, (⟨b, off, none⟩ : Addr).add j = ⟨b, off + j, none⟩ := fun j => by unfold Addr.add; split <;> simp_all
      refine .inr ⟨b, off, rfl, ?_, fun i y hi => ?_⟩
      · rw [ea] at h0
        exact cell_lt h0
      · rw [List.getElem?_take] at hi
        split at hi
        · have hc := hcell i (by omega)
          rw [ea, List.getD_eq_getElem?_getD, hi] at hc
          exact hc
        · cases hi
end Go.Proofs.Ytdnddhnnpplgjaa.Avec
