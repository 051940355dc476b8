/- The program's Of at int: its contract. -/
import Derived.Test.YtmkngolkflihlaaBase1
import Derived.Deep.DeepCutAuto
namespace Go.Proofs.Ytmkngolkflihlaa.Oct
open Go.ChangeShapes Go.WideShapes Go.ChangeAt Go.RowKit
set_option linter.unusedVariables false

set_option maxHeartbeats 400000 in
theorem ofInt_any (s : ByteArray) (w : World) (hs : s.size ≤ 100000) :
    Calls Try.prog 36 #[.string s] w fun e w' => e = .returned (.int .i64 (wrap64 (whole s))) ∧ Below w.heap.size w w' := by
  go_enter Try.func36, Try.ntmps36
  go_upto_region 2 with fail
  go_cut [12, 13, 14] (fun sl n i wx => OfReady s w sl n i wx)
  case first =>
    have hconv := fun x => run_bytes_new x w
    by_cases h8 : s.size ≤ 8
    all_goals go_wp2
    all_goals go_meet
    all_goals (first | with_reducible exact ofReady_cut s w | with_reducible exact ofReady_all s w h8)
  case rest =>
    obtain ⟨x, c, hx, hx8, rfl, rfl, rfl, hcell, hb⟩ := hcut
    have Hx := Lib.hid hx
    clear hx
    go_wp2
    go_loop [3, 5, 14] (fun n _ i => ∃ k : Nat, k ≤ x.size ∧ i = .int .i64 k ∧ n = .int .u64 (ofTo x k)) (fun _ _ i => x.size - (intOf i).toNat)
    case atStart => exact ⟨0, Nat.zero_le _, rfl, rfl⟩
    case round =>
      obtain ⟨k, hk, rfl, rfl⟩ := hrel
      have hl := ofTo_lt x k
      by_cases hlt : k < x.size
      · have hnext := Lib.hid (ofTo_succ x k hlt)
        have hc := hcell k hlt
        have hu := x[k].toNat_lt
        generalize ofTo x k = m at *
        generalize hv : x[k].toNat = v at *
        clear hcell hv
        go_wp2
        refine ⟨⟨k + 1, by omega, by go_num, ?_⟩, by simp [intOf]; omega⟩
        rw [or_step m v hu, hnext.out]
      · have hall := Lib.hid (ofTo_all x k (by omega))
        clear hcell
        go_wp2
        go_ret
        exact ⟨congrArg (fun m : Nat => Ending.returned (.int .i64 (wrap64 m))) (hall.out.trans Hx.out), hb⟩
end Go.Proofs.Ytmkngolkflihlaa.Oct
