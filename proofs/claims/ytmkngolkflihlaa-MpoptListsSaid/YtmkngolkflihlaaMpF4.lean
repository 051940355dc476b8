/- Whether nothing stands in a field; a field's methods through the interface: contracts. -/
import Derived.Test.YtmkngolkflihlaaMpF3
namespace Go.Proofs.Ytmkngolkflihlaa.Mp
open Go.ChangeShapes Go.WideShapes Go.ChangeAt Go.RowKit
set_option linter.unusedVariables false

/-- a field that stands where one stands -/
def Fld.in : Fld → Prop
  | .num j z => j ≤ 5 ∧ z ≤ 8
  | .txt s l => s ≤ 100 ∧ l ≤ 100

theorem isNum (v : Value) (w : World) : (Instr.typeAssert (.iface 75 v) 51 75 true).run Try.prog w = .ok (.tuple #[v, .bool true]) w := by kernel_rfl
theorem noNum (v : Value) (w : World) : (Instr.typeAssert (.iface 78 v) 51 75 true).run Try.prog w = .ok (.tuple #[.agg #[.pointer none, .int .i64 0], .bool false]) w := by kernel_rfl
theorem isTxt (v : Value) (w : World) : (Instr.typeAssert (.iface 78 v) 51 78 true).run Try.prog w = .ok (.tuple #[v, .bool true]) w := by kernel_rfl

set_option maxHeartbeats 2000000 in
theorem isZero_any (b : Nat) (m : M) (f : Fld) (hf : f.in) (hm : m.bytes.size ≤ 4000) (w : World) (h : RowM w b m) : Calls Try.prog 27 #[fv b f] w
    fun e w' => e = .returned (.bool (zeroF m f)) ∧ Below w.heap.size w w' := by
  cases f with
  | num j z =>
    have hB := (Below.refl w.heap.size w).alloc (Nat.le_refl _) (.cells #[.pointer (some ⟨b, j, none⟩), .int .i64 (z : Nat)] 75)
    have h' := h.below hB h.lt
    have hc := (h'.num j hf.1).2
    have HB := Lib.hid hB
    clear hB h h'
    show Calls Try.prog 27 #[.iface 75 (nv b j z)] w _
    have hz : zeroF m (.num j z) = (m.get j == 0) := by simp [zeroF]; rfl
    rw [hz]
    clear hz
    have t0 := isNum
    have t1 := noNum
    have t2 := isTxt
    go_enter Try.func27, Try.ntmps27
    go_wp2_with fail
    go_ret
    exact ⟨rfl, HB.out⟩
  | txt s l =>
    have hB := (Below.refl w.heap.size w).alloc (Nat.le_refl _) (.cells #[.pointer (some ⟨b, 6, none⟩), .int .i64 (s : Nat), .int .i64 (l : Nat)] 78)
    have h' := h.below hB h.lt
    have hc := h'.txt.2
    have HB := Lib.hid hB
    clear hB h h'
    show Calls Try.prog 27 #[.iface 78 (xv b s l)] w _
    have hz : zeroF m (.txt s l) = m.bytes.toList.isEmpty := by
      by_cases h0 : m.bytes.size = 0
      · rw [Oct.is_empty _ h0]; simp [zeroF, h0]
      · rw [Oct.not_empty _ h0]; simp [zeroF, h0]
    rw [hz]
    clear hz
    have t0 := isNum
    have t1 := noNum
    have t2 := isTxt
    go_enter Try.func27, Try.ntmps27
    go_wp2_with fail
    go_ret
    exact ⟨rfl, HB.out⟩
end Go.Proofs.Ytmkngolkflihlaa.Mp
