/- OctetsReads: what its slice holds. -/
import Derived.Test.YtenpcdloidgckaaLawReads
import Derived.Deep.SlicePairs
import Derived.ChangeOld
namespace Go.Proofs.Ytenpcdloidgckaa.Oct
open Go.ChangeShapes Go.WideShapes Go.ChangeAt Go.RowKit Go.Deep
set_option linter.unusedVariables false

theorem cell_lt {w : World} {b o : Nat} {v : Value} (h : w.cell? ⟨b, o, none⟩ = some v) : b < w.heap.size := by
  rcases Nat.lt_or_ge b w.heap.size with h' | h'
  · exact h'
  · unfold World.cell? at h
    rw [Array.getElem?_eq_none h'] at h
    simp at h

theorem OctetsReads_open1 {H : Type} {enc : TypeId × Value → H} {W : World} {a : Option Addr} {len cap : Nat} {d : DataW H} {p : List MemPlace}
    (h : DataW.Trod enc Try.prog W 0 (fun _ => true) true 32 (.slice a len cap) d p) : IsOps W a len ∧ len ≤ maxLen := by
  obtain ⟨fuel, hf⟩ := h
  rcases open_slice_pairs Try.underlying32 Try.underlying40 (by kernel_rfl) rfl rfl (by kernel_rfl) (by kernel_rfl) hf with ⟨hcs, _⟩ | ⟨x, l, c, m, n, V0, V1, D0, D1, P0, P1, hcs, _, hl, hm, hmm, _, hcell⟩
  · simp [Value.cells] at hcs
    exact ⟨.inl hcs.2.1, by rw [hcs.2.1]; decide⟩
  · simp [Value.cells] at hcs
    obtain ⟨rfl, rfl, rfl⟩ := hcs
    refine ⟨?_, by omega⟩
    by_cases hz : len = 0
    · exact .inl hz
    · have hlm : len ≤ m := by rw [hmm]; split <;> omega
      have h0 := hcell 0 (by omega)
      obtain ⟨b, off, spot⟩ := x
      have hspot : spot = none := by simpa [Addr.add] using World.cell?_spot h0.1
      subst hspot
      have ea : ∀ j, (⟨b, off, none⟩ : Addr).add j = ⟨b, off + j, none⟩ := fun j => by unfold Addr.add; split <;> simp_all
      refine .inr ⟨b, off, rfl, ?_, fun i hi => ?_⟩
      · have h1 := h0.1
        rw [ea] at h1
        exact cell_lt h1
      · have hi' := hcell i (by omega)
        obtain ⟨k, e1, _⟩ := DataW.trod_int Try.underlying3 hi'.2.2.1
        obtain ⟨k2, e2, _⟩ := DataW.trod_int Try.underlying3 hi'.2.2.2
        have c0 := hi'.1
        have c1 := hi'.2.1
        rw [ea] at c0 c1
        exact ⟨k, k2, c0.trans (congrArg some (List.cons.inj e1).1), c1.trans (congrArg some (List.cons.inj e2).1)⟩

theorem OctetsReads_walk (s : ByteArray) (a1 : Option Addr) (len cap : Nat) (W : World) (w0 : s.size ≤ maxLen) (h : IsOps W a1 len ∧ len ≤ maxLen) :
    Calls Try.prog 4 #[.string s, .slice a1 len cap] W fun e w' => e = .returned (.bool true) ∧ Below W.heap.size W w' :=
  reads_walk s a1 len cap w0 h.2 W h.1
end Go.Proofs.Ytenpcdloidgckaa.Oct
