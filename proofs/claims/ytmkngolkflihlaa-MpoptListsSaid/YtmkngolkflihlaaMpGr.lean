/- Whether options are too great: the contract of the law's own helper, with its bounds. -/
import Derived.Test.YtmkngolkflihlaaOpt2
import Derived.Test.YtmkngolkflihlaaOpt8
namespace Go.Proofs.Ytmkngolkflihlaa.Opt
open Go.ChangeShapes Go.WideShapes Go.ChangeAt Go.RowKit
set_option linter.unusedVariables false

def Small (l : List O) : Prop := l.length ≤ 60 ∧ ∀ o, o ∈ l → o.value.size ≤ 600
def GrEnd (l : List O) (w : World) (e : Ending) (w' : World) : Prop := (e = .returned (.bool true) ∨ (e = .returned (.bool false) ∧ Small l)) ∧ w' = w

set_option maxRecDepth 100000 in
set_option maxHeartbeats 800000 in
theorem Great2_any (l : List O) (hl : l.length ≤ maxLen) (a : Option Addr) (cap : Nat) (w : World) (h : OptsAt w a l) (hm : ∀ o, o ∈ l → o.value.size ≤ maxLen) :
    Calls Try.prog 11 #[.slice a l.length cap] w (GrEnd l w) := by
  have H := Lib.hid h
  clear h
  unfold maxLen at hl hm
  go_enter Try.func11, Try.ntmps11
  go_wp2_with fail
  go_loopw [3] (fun i wr => ∃ k : Nat, k ≤ l.length ∧ k ≤ 60 ∧ i = .int .i64 k ∧ (∀ j o, j < k → l[j]? = some o → o.value.size ≤ 600) ∧ wr = w) (fun i _ => 60 - (intOf i).toNat)
  case atStart => exact ⟨0, by omega, by omega, rfl, fun j o hj => by omega, rfl⟩
  case round =>
    obtain ⟨k, hk, hk60, rfl, hall, rfl⟩ := hrel
    by_cases hlt : k < l.length
    · obtain ⟨⟨p, v⟩, hi⟩ := some_at hlt
      obtain ⟨b, off, rfl, hb0, hc0, hc1⟩ := H.out.cell (Below.refl _ _) hi
      have hv := hm _ (List.mem_of_getElem? hi)
      dsimp only at hc1 hv
      clear hc0
      by_cases h6 : 60 ≤ k
      · have h6' : (60 : Int) ≤ (k : Int) := by omega
        go_wp2_with fail
        go_returns
        exact ⟨.inl rfl, rfl⟩
      · have h6' : ¬ (60 : Int) ≤ (k : Int) := by omega
        by_cases h7 : 600 < v.size
        · have h7' : (600 : Int) < (v.size : Int) := by omega
          go_wp2_with fail
          go_returns
          exact ⟨.inl rfl, rfl⟩
        · have h7' : ¬ (600 : Int) < (v.size : Int) := by omega
          have hall2 := Lib.hid (show ∀ j o, j < k + 1 → l[j]? = some o → o.value.size ≤ 600 from fun j o hj ho => by
            by_cases e : j = k
            · subst e
              rw [hi] at ho
              obtain rfl := Option.some.inj ho
              show v.size ≤ 600
              omega
            · exact hall j o (by omega) ho)
          clear hall
          go_wp2_with fail
          refine ⟨⟨k + 1, by omega, by omega, by go_num, hall2.out, trivial⟩, by simp [intOf]; omega⟩
    · obtain rfl : k = l.length := by omega
      have Hall := Lib.hid hall
      clear hall
      go_wp2_with fail
      go_returns
      refine ⟨.inr ⟨rfl, by omega, fun o ho => ?_⟩, rfl⟩
      obtain ⟨j, hj, e⟩ := List.mem_iff_getElem.1 ho
      exact Hall.out j o hj (by rw [List.getElem?_eq_getElem hj, e])
end Go.Proofs.Ytmkngolkflihlaa.Opt
