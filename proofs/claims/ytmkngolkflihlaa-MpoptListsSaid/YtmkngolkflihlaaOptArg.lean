/- A slice of options that came in: what is known of it. -/
import Derived.Test.YtmkngolkflihlaaOpt1
import Derived.OpenShut
import Derived.Deep.SlicePairs
import Derived.ChangeOld
namespace Go.Proofs.Ytmkngolkflihlaa.Opt
open Go.ChangeShapes Go.WideShapes Go.ChangeAt Go.RowKit Go.Deep
set_option linter.unusedVariables false

theorem list_of {α : Type} (P : Nat → α → Prop) : ∀ n, (∀ i, i < n → ∃ o, P i o) → ∃ l : List α, l.length = n ∧ ∀ i o, l[i]? = some o → P i o
  | 0, _ => ⟨[], rfl, fun i o h => by simp at h⟩
  | n + 1, h => by
    obtain ⟨l, hl, hp⟩ := list_of P n (fun i hi => h i (by omega))
    obtain ⟨o, ho⟩ := h n (by omega)
    refine ⟨l ++ [o], by simp [hl], fun i x hx => ?_⟩
    by_cases hi : i < n
    · rw [List.getElem?_append_left (by omega)] at hx
      exact hp i x hx
    · have hlt : i < (l ++ [o]).length := (List.getElem?_eq_some_iff.1 hx).1
      obtain rfl : i = n := by simp [hl] at hlt; omega
      rw [List.getElem?_append_right (by omega), hl, Nat.sub_self] at hx
      obtain rfl : o = x := by simpa using hx
      exact ho

/-- what is known of a slice of options that came in -/
def IsOpts (W : World) (a : Option Addr) (len : Nat) : Prop := ∃ l : List O, l.length = len ∧ OptsAt W a l ∧ len ≤ maxLen ∧ ∀ o, o ∈ l → o.value.size ≤ maxLen

theorem cell_lt {w : World} {b o : Nat} {v : Value} (h : w.cell? ⟨b, o, none⟩ = some v) : b < w.heap.size := by
  rcases Nat.lt_or_ge b w.heap.size with h' | h'
  · exact h'
  · unfold World.cell? at h
    rw [Array.getElem?_eq_none h'] at h
    simp at h

theorem isOpts_open {H : Type} {enc : TypeId × Value → H} {W : World} {a : Option Addr} {len cap : Nat} {d : DataW H} {p : List MemPlace}
    (h : DataW.Trod enc Try.prog W 0 (fun _ => true) true 34 (.slice a len cap) d p) : IsOpts W a len := by
  obtain ⟨fuel, hf⟩ := h
  rcases open_slice_pairs Try.underlying34 Try.underlying26 (by kernel_rfl) rfl rfl (by kernel_rfl) (by kernel_rfl) hf with ⟨hcs, _⟩ | ⟨x, l, c, m, n, V0, V1, D0, D1, P0, P1, hcs, _, hl, hm, hmm, _, hcell⟩
  · simp [Value.cells] at hcs
    exact ⟨[], hcs.2.1.symm, .inl rfl, by rw [hcs.2.1]; decide, fun o ho => by simp at ho⟩
  · simp [Value.cells] at hcs
    obtain ⟨rfl, rfl, rfl⟩ := hcs
    by_cases hz : len = 0
    · subst hz
      exact ⟨[], rfl, .inl rfl, by decide, fun o ho => by simp at ho⟩
    · have hlm : len ≤ m := by rw [hmm]; split <;> omega
      have h0 := hcell 0 (by omega)
      obtain ⟨b, off, spot⟩ := x
      have hspot : spot = none := by simpa [Addr.add] using World.cell?_spot h0.1
      subst hspot
      have ea : ∀ j, (⟨b, off, none⟩ : Addr).add j = ⟨b, off + j, none⟩ := fun j => by unfold Addr.add; split <;> simp_all
      obtain ⟨q, hq, hp⟩ := list_of (fun i (o : O) => W.cell? ⟨b, off + i * 2, none⟩ = some (.int .i64 o.kind) ∧ W.cell? ⟨b, off + i * 2 + 1, none⟩ = some (.string o.value) ∧ o.value.size ≤ maxLen) len (fun i hi => by
        have hi' := hcell i (by omega)
        obtain ⟨k, e1, _⟩ := DataW.trod_int Try.underlying3 hi'.2.2.1
        obtain ⟨s, e2, _, hs⟩ := DataW.trod_string Try.underlying9 hi'.2.2.2
        have c0 := hi'.1
        have c1 := hi'.2.1
        rw [ea] at c0 c1
        exact ⟨⟨k, s⟩, c0.trans (congrArg some (List.cons.inj e1).1), c1.trans (congrArg some (List.cons.inj e2).1), hs⟩)
      refine ⟨q, hq, .inr ⟨b, off, rfl, ?_, fun i o ho => ⟨(hp i o ho).1, (hp i o ho).2.1⟩⟩, by omega, fun o ho => ?_⟩
      · have h1 := h0.1
        rw [ea] at h1
        exact cell_lt h1
      · obtain ⟨j, hj, e⟩ := List.mem_iff_getElem.1 ho
        exact (hp j o (by rw [List.getElem?_eq_getElem hj, e])).2.2
end Go.Proofs.Ytmkngolkflihlaa.Opt
