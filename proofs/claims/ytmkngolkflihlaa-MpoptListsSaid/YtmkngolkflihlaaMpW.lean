/- The law's own first look at options of several paths; two that are the same, compared. -/
import Derived.Test.YtmkngolkflihlaaMpG1
import Derived.Test.YtmkngolkflihlaaMpGet
import Derived.Laws.StructEq
namespace Go.Proofs.Ytmkngolkflihlaa.Mp
open Go.ChangeShapes Go.WideShapes Go.ChangeAt Go.RowKit
set_option linter.unusedVariables false

set_option maxRecDepth 100000 in
theorem eqInM_same (d : Nat) (m : M) (w : World) : (Op.equalIn (d + 2) 23 (vOf m) (vOf m)).run Try.prog w = .ok true w := by
  have hu := Try.underlying23
  have hi : Try.prog.cellsOf 3 = 1 := by kernel_rfl
  have hb : Try.prog.cellsOf 9 = 1 := by kernel_rfl
  unfold vOf
  rw [run_equalIn_struct w (d + 1) 23 _ _ (by simp [Program.fieldsOf, hu]) (by kernel_rfl)]
  have e1 := fun (a : Int) (w : World) => run_equalIn_int (P := Try.prog) w d 3 .i64 .i64 a a Try.underlying3
  have e2 := fun (a : ByteArray) (w : World) => run_equalIn_string (P := Try.prog) w d 9 a a Try.underlying9
  simp [Program.fieldsOf, hu, Op.eqFields, go_sem, e1, e2]
set_option maxRecDepth 100000 in
theorem eqInO_same (d : Nat) (k : Int) (s : ByteArray) (w : World) : (Op.equalIn (d + 2) 26 (.agg #[.int .i64 k, .string s]) (.agg #[.int .i64 k, .string s])).run Try.prog w = .ok true w := by
  have hu := Try.underlying26
  have hi : Try.prog.cellsOf 3 = 1 := by kernel_rfl
  have hb : Try.prog.cellsOf 9 = 1 := by kernel_rfl
  rw [run_equalIn_struct w (d + 1) 26 _ _ (by simp [Program.fieldsOf, hu]) (by kernel_rfl)]
  have e1 := fun (a : Int) (w : World) => run_equalIn_int (P := Try.prog) w d 3 .i64 .i64 a a Try.underlying3
  have e2 := fun (a : ByteArray) (w : World) => run_equalIn_string (P := Try.prog) w d 9 a a Try.underlying9
  simp [Program.fieldsOf, hu, Op.eqFields, go_sem, e1, e2]
theorem eqlM_same (m : M) (w : World) : (binOp .eql 23 (.agg (rowOf m)) (.agg (rowOf m))).run Try.prog w = .ok (.bool true) w := by
  have e : (Op.equalIn 10000 23 (.agg (rowOf m)) (.agg (rowOf m))).run Try.prog w = .ok true w := eqInM_same 9998 m w
  rw [run_eql_struct, e]; rfl
theorem neqM_same (m : M) (w : World) : (binOp .neq 23 (.agg (rowOf m)) (.agg (rowOf m))).run Try.prog w = .ok (.bool false) w := by
  have e : (Op.equalIn 10000 23 (.agg (rowOf m)) (.agg (rowOf m))).run Try.prog w = .ok true w := eqInM_same 9998 m w
  rw [run_neq_struct, e]; rfl
theorem eqlO_same (k : Int) (s : ByteArray) (w : World) : (binOp .eql 26 (.agg #[.int .i64 k, .string s]) (.agg #[.int .i64 k, .string s])).run Try.prog w = .ok (.bool true) w := by
  have e : (Op.equalIn 10000 26 (.agg #[.int .i64 k, .string s]) (.agg #[.int .i64 k, .string s])).run Try.prog w = .ok true w := eqInO_same 9998 k s w
  rw [run_eql_struct, e]; rfl

def mw : M := ⟨4, 0, 0, 0, 0, 258, ⟨#[]⟩⟩
def sw : ByteArray := ⟨#[4, 0, 0, 0, 0, 1, 2]⟩
theorem mw_ok : check mw = 0 := by decide +kernel
theorem mw_put : putOf mw = sw := by
  apply Oct.ext_list
  decide +kernel
theorem mw_get : get ⟨46, sw⟩ = (mw, 0) := by rw [← mw_put]; exact get_put mw mw_ok

set_option maxRecDepth 100000 in
set_option maxHeartbeats 4000000 in
theorem works_any (w : World) : Calls Try.prog 5 #[] w fun e w' => e = .returned (.bool true) ∧ Below w.heap.size w w' := by
  have HP := Lib.hid (fun w => Put_any mw (by decide) w)
  rw [show putV mw = .tuple #[.agg #[.int .i64 46, .string sw], .int .i64 0] by unfold putV; rw [if_pos mw_ok, mw_put]] at HP
  have HG := Lib.hid (fun w => Get_any ⟨46, sw⟩ (by decide) w)
  rw [show getV ⟨46, sw⟩ = .tuple #[vOf mw, .int .i64 0] by unfold getV; rw [mw_get]] at HG
  unfold vOf mw at HP HG
  dsimp only at HP HG
  have HE := Lib.hid (show sw.toList = [4, 0, 0, 0, 0, 1, 2] by decide +kernel)
  go_enter Try.func5, Try.ntmps5
  go_wp2_with fail
  refine (HP.out _).mono ?_
  rintro e w2 ⟨rfl, h2⟩
  generalize sw = S at *
  go_wp2_with fail
  refine (HG.out _).mono ?_
  rintro e w3 ⟨rfl, h3⟩
  have z2 := h2.size
  have H3 := Lib.hid ((h2.alloc z2 (.cells #[.int .i64 46, .string S] 26)).trans (h3.mono (by simp; omega)))
  have z3 : w2.heap.size + 1 ≤ w3.heap.size := by have := h3.size; simpa using this
  have c3 : w3.cell? ⟨w2.heap.size, 1, none⟩ = some (.string S) := (h3.cell (p := ⟨w2.heap.size, 1, none⟩) (by simp)).trans ((cell_of_row _ _ _ _ _ _ (heap_alloc_new w2 _)).trans rfl)
  have c3' := Opt.cell_alloc (.cells #[.int .i64 4, .int .i64 0, .int .i64 0, .int .i64 258, .int .i64 0, .int .i64 0, .string ⟨#[]⟩] 23) (by omega) c3
  clear c3 h2 h3
  have he2 : S.toList = [4, 0, 0, 0, 0, 1, 2] := HE.out
  go_wp2_with fail
  go_ret
  exact ⟨rfl, H3.out.alloc (by omega) _⟩
end Go.Proofs.Ytmkngolkflihlaa.Mp
