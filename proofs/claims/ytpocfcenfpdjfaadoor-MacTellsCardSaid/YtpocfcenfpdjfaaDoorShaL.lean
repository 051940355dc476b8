/- The program's two tables, out of what the row lists. -/
import Derived.Test.YtpocfcenfpdjfaaDoorSha3
import Derived.Lib.LaidTab
namespace Go.Proofs.YtpocfcenfpdjfaaDoor.Sha
open Go.ChangeShapes Go.WideShapes Go.ChangeAt Go.RowKit
set_option linter.unusedVariables false

/-- two tables on the list: both variables' cells -/
theorem laid_two {P : Program} {W : World} {n1 n2 : String} {k : IntKind} {z1 z2 : List Int} {g1 g2 : Nat} {t1 t2 e1 e2 : TypeId} {m1 m2 : Nat}
    (hg1 : P.globalNamed n1 = some g1) (hty1 : (P.globals[g1]?).map (·.type) = some t1) (ht1 : P.underlying t1 = some (.array m1 e1)) (he1 : P.underlying e1 = some (.int k)) (hce1 : P.cellsOf e1 = 1) (hct1 : P.cellsOf t1 = m1)
    (hg2 : P.globalNamed n2 = some g2) (hty2 : (P.globals[g2]?).map (·.type) = some t2) (ht2 : P.underlying t2 = some (.array m2 e2)) (he2 : P.underlying e2 = some (.int k)) (hce2 : P.cellsOf e2 = 1) (hct2 : P.cellsOf t2 = m2)
    (h : laidMet P [(n1, Lib.tabData k z1), (n2, Lib.tabData k z2)] W) :
    W.var? P n1 = some (z1.map (Value.int k)).toArray ∧ W.var? P n2 = some (z2.map (Value.int k)).toArray := by
  obtain ⟨ps, ⟨g', t', cs, fuel, p, q, hg', ht', hvar, hd, hrest, _⟩, _⟩ := h
  obtain ⟨g'', t'', cs', fuel', p', q', hg'', ht'', hvar', hd', _, _⟩ := hrest
  obtain rfl := Option.some.inj (hg1.symm.trans hg')
  obtain rfl := Option.some.inj (hty1.symm.trans ht')
  obtain rfl := Option.some.inj (hg2.symm.trans hg'')
  obtain rfl := Option.some.inj (hty2.symm.trans ht'')
  rw [hvar, hvar', ← Lib.cells_of_tab ht1 he1 hce1 hct1 hd, ← Lib.cells_of_tab ht2 he2 hce2 hct2 hd']
  exact ⟨rfl, rfl⟩

theorem heap_of_var {P : Program} {W : World} {n : String} {g : Nat} {cs : Array Value} (hg : P.globalNamed n = some g) (h : W.var? P n = some cs) : ∃ t fr, W.heap[g]? = some (.cells cs t fr) := by
  unfold World.var? at h
  rw [hg] at h
  simp only [Option.bind_some] at h
  split at h
  · rename_i cs' t fr hh
    cases h
    exact ⟨t, fr, hh⟩
  · cases h

theorem Tabs.of_laid {W : World} (h : laidMetH Tryd.prog [("anabranch/sha.constants", Rows.laid_anabranch_sha_constants), ("anabranch/sha.beginning", Rows.laid_anabranch_sha_beginning)] W) : Tabs W := by
  have h2 : laidMet Tryd.prog [("anabranch/sha.constants", Lib.tabData .u32 ks), ("anabranch/sha.beginning", Lib.tabData .u32 hs.list)] W := h
  obtain ⟨v1, v2⟩ := laid_two (g1 := 1) (g2 := 0) (t1 := 70) (t2 := 48) (by kernel_rfl) (by kernel_rfl) Tryd.underlying70 Tryd.underlying47 (by kernel_rfl) (by kernel_rfl) (by kernel_rfl) (by kernel_rfl) Tryd.underlying48 Tryd.underlying47 (by kernel_rfl) (by kernel_rfl) h2
  exact ⟨heap_of_var (by kernel_rfl) v2, heap_of_var (by kernel_rfl) v1⟩
end Go.Proofs.YtpocfcenfpdjfaaDoor.Sha
