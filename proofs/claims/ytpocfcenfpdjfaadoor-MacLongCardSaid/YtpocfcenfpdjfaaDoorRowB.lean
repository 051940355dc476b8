/- A block of bytes that a call made. -/
import Derived.Test.YtpocfcenfpdjfaaDoorBase1
import Derived.Laws.OwnMore
import Derived.Laws.MakeOwn
namespace Go.Proofs.YtpocfcenfpdjfaaDoor.Sha
open Go.ChangeShapes Go.WideShapes Go.ChangeAt Go.RowKit
set_option linter.unusedVariables false

/-- a block that holds bytes -/
def RowB (w : World) (B : Nat) (l : List UInt8) : Prop := w.heap[B]? = some (.cells (l.map (fun b : UInt8 => Value.int .u8 (b.toNat : Int))).toArray 5 (0, 0))
theorem RowB.cell {w : World} {B : Nat} {l : List UInt8} (h : RowB w B l) (j : Nat) (hj : j < l.length) : w.cell? ⟨B, j, none⟩ = some (.int .u8 (l[j].toNat : Int)) := by
  rw [cell_of_row _ _ _ _ _ _ h]
  simp [List.getElem?_eq_getElem hj]
theorem RowB.set {w : World} {B : Nat} {l : List UInt8} (h : RowB w B l) (k : Nat) (b : UInt8) : RowB (w.setCell ⟨B, k, none⟩ (.int .u8 (b.toNat : Int))) B (l.set k b) := by
  unfold RowB
  rw [heap_setCell_same _ _ _ _ _ _ h]
  simp
theorem RowB.back {w : World} {B : Nat} {l : List UInt8} (h : RowB w B l) (n c : Nat) (hn : l.length = n) :
    (convert 31 9 (.slice (some ⟨B, 0, none⟩) n c)).run Tryd.prog w = .ok (.string ⟨l.toArray⟩) w := by
  subst hn
  exact run_convert_bytes_back (P := Tryd.prog) w 31 9 5 ⟨B, 0, none⟩ c l Tryd.underlying31 Tryd.underlying5 Tryd.underlying9 (fun j hj => by
    have ha : (⟨B, 0, none⟩ : Addr).add j = ⟨B, j, none⟩ := by unfold Addr.add; split <;> simp_all
    rw [ha]; exact h.cell j hj)
theorem RowB.made (w : World) (n : Nat) : RowB (w.alloc (.cells (madeCells (Value.int .u8 0).cells n) 5)) w.heap.size (List.replicate n 0) := by
  unfold RowB
  rw [heap_alloc_new]
  congr 2
  apply Array.toList_inj.1
  rw [show (Value.int .u8 0).cells = #[Value.int .u8 0] from rfl, toList_madeCells_one]
  simp
theorem infoU8 : (Tryd.prog.info? 5).map (fun i => (i.zero, i.size, i.bytes)) = some (some (.int .u8 0), 1, 1) := by kernel_rfl
end Go.Proofs.YtpocfcenfpdjfaaDoor.Sha
