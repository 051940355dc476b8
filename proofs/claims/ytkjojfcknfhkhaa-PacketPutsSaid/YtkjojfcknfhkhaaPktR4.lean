/- The document's Check of a packet: its contract. -/
import Derived.Test.YtkjojfcknfhkhaaPktR3
import Derived.Test.YtkjojfcknfhkhaaInet4
import Derived.Deep.DeepCutAuto
namespace Go.Proofs.Ytkjojfcknfhkhaa.Pkt
open Go.ChangeShapes Go.WideShapes Go.ChangeAt Go.RowKit
open Go.Proofs.Ytkjojfcknfhkhaa.Opt (O OptsAt Fit RefSize_any RefCheck_any)
open Go.Proofs.Ytkjojfcknfhkhaa.Head (refSize_any refAcks_any refBears_any below_drewN rowOf sizeOf_mid acks bears refCheck_any isOff isOff_fits)
set_option linter.unusedVariables false

/-- a block that holds a packet -/
def BoxK (W : World) (A : Nat) (p : K) (a : Option Addr) (cap : Nat) : Prop := W.heap[A]? = some (.cells #[.int .i64 p.kind, .bool p.long, .int .i64 p.src, .int .i64 p.dst, .int .i64 p.cc, .int .i64 p.cover, .int .i64 p.seq, .int .i64 p.ack, .int .i64 p.service, .int .i64 p.code, .int .i64 p.detail, .slice a p.opts.length cap, .string p.data] 24 (0, 0))
theorem BoxK.lt {W : World} {A : Nat} {p : K} {a : Option Addr} {cap : Nat} (h : BoxK W A p a cap) : A < W.heap.size := (Array.getElem?_eq_some_iff.1 h).1
theorem BoxK.new (W : World) (p : K) (a : Option Addr) (cap : Nat) : BoxK (W.alloc (.cells #[.int .i64 p.kind, .bool p.long, .int .i64 p.src, .int .i64 p.dst, .int .i64 p.cc, .int .i64 p.cover, .int .i64 p.seq, .int .i64 p.ack, .int .i64 p.service, .int .i64 p.code, .int .i64 p.detail, .slice a p.opts.length cap, .string p.data] 24)) W.heap.size p a cap := heap_alloc_new W _
theorem BoxK.below {w w' : World} {A N : Nat} {p : K} {a : Option Addr} {cap : Nat} (h : BoxK w A p a cap) (hb : Below N w w') (hN : A < N) : BoxK w' A p a cap := (hb.block A hN).trans h
theorem BoxK.cell {W : World} {A : Nat} {p : K} {a : Option Addr} {cap : Nat} (h : BoxK W A p a cap) : W.cell? ⟨A, 0, none⟩ = some (.int .i64 p.kind) ∧ W.cell? ⟨A, 1, none⟩ = some (.bool p.long) ∧ W.cell? ⟨A, 2, none⟩ = some (.int .i64 p.src) ∧ W.cell? ⟨A, 3, none⟩ = some (.int .i64 p.dst) ∧ W.cell? ⟨A, 4, none⟩ = some (.int .i64 p.cc) ∧ W.cell? ⟨A, 5, none⟩ = some (.int .i64 p.cover) ∧ W.cell? ⟨A, 6, none⟩ = some (.int .i64 p.seq) ∧ W.cell? ⟨A, 7, none⟩ = some (.int .i64 p.ack) ∧ W.cell? ⟨A, 8, none⟩ = some (.int .i64 p.service) ∧ W.cell? ⟨A, 9, none⟩ = some (.int .i64 p.code) ∧ W.cell? ⟨A, 10, none⟩ = some (.int .i64 p.detail) ∧ W.cell? ⟨A, 11, none⟩ = some (.slice a p.opts.length cap) ∧ W.cell? ⟨A, 12, none⟩ = some (.string p.data) := by
  refine ⟨?_, ?_, ?_, ?_, ?_, ?_, ?_, ?_, ?_, ?_, ?_, ?_, ?_⟩ <;> exact cell_of_row _ _ _ _ _ _ h
theorem hi13 (v0 v1 v2 v3 v4 v5 v6 v7 v8 v9 v10 v11 v12 : Value) : (Try.prog.info? 24).map (·.size) = some (#[v0, v1, v2, v3, v4, v5, v6, v7, v8, v9, v10, v11, v12] : Array Value).size := by
  show _ = some 13
  kernel_rfl

theorem off10_is (n m : Int) (w : World) : Calls Try.prog 34 #[.int .i64 n, .int .i64 m] w fun e w' => e = .returned (.bool (isOff n m)) ∧ w' = w := by
  by_cases h0 : n < 0
  · go_enter Try.func34, Try.ntmps34
    go_wp2
    go_ret
    exact ⟨by simp [isOff, h0], rfl⟩
  · by_cases h9 : m ≤ n
    all_goals (
      go_enter Try.func34, Try.ntmps34
      go_wp2
      go_ret
      exact ⟨by simp [isOff, h0, h9], rfl⟩)

/-- is a number of what its kind has out of its bounds -/
def unranged (p : K) : Bool :=
  (acks p.kind && ((p.long && isOff p.ack 281474976710656) || (!p.long && isOff p.ack 16777216))) || ((decide (p.kind < 2) && isOff p.service 4294967296) || ((p.kind == 7) && (isOff p.code 256 || isOff p.detail 16777216)))
theorem ranged_off (p : K) : ranged p = !unranged p := by
  unfold ranged acked served told unranged Head.seqMost
  simp only [isOff_fits]
  obtain ⟨k, l, s, d, cc, cv, q, ak, sv, co, de, os, da⟩ := p
  dsimp only
  rw [show (4294967295 : Int) + 1 = 4294967296 from rfl, show (255 : Int) + 1 = 256 from rfl, show (16777215 : Int) + 1 = 16777216 from rfl]
  rw [show (k == 7) = decide (k = 7) from rfl]
  generalize acks k = x1; generalize decide (k < 2) = x2; generalize decide (k = 7) = x3; generalize isOff sv 4294967296 = x4; generalize isOff co 256 = x5; generalize isOff de 16777216 = x6
  cases l
  · rw [show (if false = true then (281474976710655 : Int) else 16777215) + 1 = 16777216 from rfl]
    generalize isOff ak 16777216 = x7; generalize isOff ak 281474976710656 = x8
    revert x1 x2 x3 x4 x5 x6 x7 x8; decide
  · rw [show (if true = true then (281474976710655 : Int) else 16777215) + 1 = 281474976710656 from rfl]
    generalize isOff ak 281474976710656 = x8; generalize isOff ak 16777216 = x7
    revert x1 x2 x3 x4 x5 x6 x7 x8; decide
end Go.Proofs.Ytkjojfcknfhkhaa.Pkt
