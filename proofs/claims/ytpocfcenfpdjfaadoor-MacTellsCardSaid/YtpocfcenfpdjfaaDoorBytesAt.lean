/- A block that holds bytes, and lets them be written. -/
import Derived.Test.YtpocfcenfpdjfaaDoorBase1
namespace Go.Proofs.YtpocfcenfpdjfaaDoor.Oct
open Go.ChangeShapes Go.WideShapes Go.ChangeAt Go.RowKit
set_option linter.unusedVariables false

/-- a block that holds bytes at its front, and lets them be written -/
def BytesAt (w : World) (B : Nat) (l : List UInt8) : Prop :=
  (∀ j (hj : j < l.length), w.cell? ⟨B, j, none⟩ = some (.int .u8 (l[j].toNat : Int))) ∧ ∀ j, j < l.length → w.frozen? ⟨B, j, none⟩ = false

theorem BytesAt.set {w : World} {B : Nat} {l : List UInt8} (h : BytesAt w B l) (k : Nat) (b : UInt8) (hk : k < l.length) : BytesAt (w.setCell ⟨B, k, none⟩ (.int .u8 (b.toNat : Int))) B (l.set k b) := by
  refine ⟨fun j hj => ?_, fun j hj => by rw [World.frozen?_setCell]; exact h.2 j (by simpa using hj)⟩
  have hj' : j < l.length := by simpa using hj
  by_cases e : j = k
  · subst e
    rw [World.cell?_setCell_same _ _ _ (h.1 j hj')]; simp
  · rw [World.cell?_setCell_other _ _ _ _ (fun e' => e (by simpa using (congrArg Addr.off e').symm)), h.1 j hj', List.getElem_set_ne (by omega)]

theorem BytesAt.new (s : ByteArray) (w : World) : BytesAt (w.alloc (newRow1 w s)).drew w.heap.size s.data.toList := by
  have hl : s.data.toList.length = s.size := size_list s
  refine ⟨fun j hj => newRow1_cell s w j (by omega), fun j hj => ?_⟩
  rw [hl] at hj
  have := World.frozen?_alloc_mark w (bytesRow s (newCap w s)) 5 (bytesRow s (newCap w s)).size ((bytesRow s (newCap w s)).size + 1) j
  show (w.alloc (newRow1 w s)).frozen? _ = false
  unfold newRow1
  rw [this]
  have : s.size ≤ (bytesRow s (newCap w s)).size := by
    have h0 := bytesRow_at s (newCap w s)
    by_cases hz : s.size = 0
    · omega
    · have h1 := h0 (s.size - 1) (by show s.size - 1 < s.size; omega)
      have := (Array.getElem?_eq_some_iff.1 h1).1
      omega
  simp; omega

theorem BytesAt.drewN {w : World} {B : Nat} {l : List UInt8} (h : BytesAt w B l) (n : Nat) : BytesAt (w.drewN n) B l :=
  ⟨fun j hj => by rw [World.cell?_drewN]; exact h.1 j hj, fun j hj => by rw [World.frozen?_drewN]; exact h.2 j hj⟩
theorem BytesAt.back {w : World} {B : Nat} {l : List UInt8} (h : BytesAt w B l) (n c : Nat) (hn : l.length = n) :
    (convert 31 9 (.slice (some ⟨B, 0, none⟩) n c)).run Tryd.prog w = .ok (.string ⟨l.toArray⟩) w := by
  subst hn
  exact run_convert_bytes_back (P := Tryd.prog) w 31 9 5 ⟨B, 0, none⟩ c l Tryd.underlying31 Tryd.underlying5 Tryd.underlying9 (fun j hj => by
    have ha : (⟨B, 0, none⟩ : Addr).add j = ⟨B, j, none⟩ := by unfold Addr.add; split <;> simp_all
    rw [ha]; exact h.1 j hj)
theorem BytesAt.below {w w' : World} {B n : Nat} {l : List UInt8} (h : BytesAt w B l) (hb : Below n w w') (hB : B < n) : BytesAt w' B l := by
  have e := hb.block B hB
  refine ⟨fun j hj => (World.cell?_of_block (a := ⟨B, j, none⟩) e).trans (h.1 j hj), fun j hj => ?_⟩
  have := h.2 j hj
  unfold World.frozen? at this ⊢
  simpa [e] using this
end Go.Proofs.YtpocfcenfpdjfaaDoor.Oct
