/- What is asked of options: the contracts of the program's, and of the law's own helpers. -/
import Derived.Test.YtmkngolkflihlaaOpt3
namespace Go.Proofs.Ytmkngolkflihlaa.Opt
open Go.ChangeShapes Go.WideShapes Go.ChangeAt Go.RowKit
set_option linter.unusedVariables false

/-- the bytes of the first one of a kind -/
def found (q : Int) : List O → Option ByteArray
  | [] => none
  | o :: r => if o.kind = q then some o.value else found q r
/-- one of a kind stands right behind one of Kind 1 -/
def must (q : Int) : List O → Bool
  | a :: b :: r => (decide (b.kind = q) && decide (a.kind = 1)) || must q (b :: r)
  | _ => false
theorem must_one (q : Int) (a : O) : must q [a] = false := by unfold must; rfl
theorem must_end (q : Int) (l : List O) : must q (l.drop (l.length - 1)) = false := by
  have h : (l.drop (l.length - 1)).length ≤ 1 := by rw [List.length_drop]; omega
  match l.drop (l.length - 1), h with
  | [], _ => rfl
  | [a], _ => exact must_one q a
theorem must_step {q : Int} {l : List O} {i : Nat} {a b : O} (ha : l[i]? = some a) (hb : l[i + 1]? = some b) : must q (l.drop i) = ((decide (b.kind = q) && decide (a.kind = 1)) || must q (l.drop (i + 1))) := by
  rw [drop_at ha, drop_at hb]; rfl

set_option maxRecDepth 100000 in
set_option maxHeartbeats 800000 in
theorem Great_any (l : List O) (hl : l.length ≤ maxLen) (a : Option Addr) (cap : Nat) (w : World) (h : OptsAt w a l) (hm : ∀ o, o ∈ l → o.value.size ≤ maxLen) :
    Calls Try.prog 11 #[.slice a l.length cap] w fun e w' => (e = .returned (.bool true) ∨ (e = .returned (.bool false) ∧ Fit l)) ∧ w' = w := by
  have H := Lib.hid h
  clear h
  unfold maxLen at hl hm
  go_enter Try.func11, Try.ntmps11
  go_wp2_with fail
  go_loopw [3] (fun i wr => ∃ k : Nat, k ≤ l.length ∧ k ≤ 60 ∧ i = .int .i64 k ∧ (∀ j o, j < k → l[j]? = some o → o.value.size ≤ 600) ∧ wr = w) (fun i _ => 60 - (intOf i).toNat)
  case atStart => exact ⟨0, by omega, by omega, rfl, fun j o hj => by omega, rfl⟩
  case round =>
    obtain ⟨k, hk, hk60, rfl, hall, rfl⟩ := hrel
    by_cases hlt : k < l.length
    · obtain ⟨⟨p, v⟩, hi⟩ := some_at hlt
      obtain ⟨b, off, rfl, hb0, hc0, hc1⟩ := H.out.cell (Below.refl _ _) hi
      have hv := hm _ (List.mem_of_getElem? hi)
      dsimp only at hc1 hv
      clear hc0
      by_cases h6 : 60 ≤ k
      · have h6' : (60 : Int) ≤ (k : Int) := by omega
        go_wp2_with fail
        go_returns
        exact ⟨.inl rfl, rfl⟩
      · have h6' : ¬ (60 : Int) ≤ (k : Int) := by omega
        by_cases h7 : 600 < v.size
        · have h7' : (600 : Int) < (v.size : Int) := by omega
          go_wp2_with fail
          go_returns
          exact ⟨.inl rfl, rfl⟩
        · have h7' : ¬ (600 : Int) < (v.size : Int) := by omega
          have hall2 := Lib.hid (show ∀ j o, j < k + 1 → l[j]? = some o → o.value.size ≤ 600 from fun j o hj ho => by
            by_cases e : j = k
            · subst e
              rw [hi] at ho
              obtain rfl := Option.some.inj ho
              show v.size ≤ 600
              omega
            · exact hall j o (by omega) ho)
          clear hall
          go_wp2_with fail
          refine ⟨⟨k + 1, by omega, by omega, by go_num, hall2.out, trivial⟩, by simp [intOf]; omega⟩
    · obtain rfl : k = l.length := by omega
      have Hall := Lib.hid hall
      clear hall
      go_wp2_with fail
      go_returns
      refine ⟨.inr ⟨rfl, by omega, fun o ho => ?_⟩, rfl⟩
      obtain ⟨j, hj, e⟩ := List.mem_iff_getElem.1 ho
      have := Hall.out j o hj (by rw [List.getElem?_eq_getElem hj, e])
      omega

set_option maxRecDepth 100000 in
set_option maxHeartbeats 800000 in
theorem Same_any (l : List O) (hl : l.length ≤ 3000) (a a2 : Option Addr) (cap cap2 : Nat) (w : World) (h : OptsAt w a l) (h2 : OptsAt w a2 l) :
    Calls Try.prog 18 #[.slice a l.length cap, .slice a2 l.length cap2] w fun e w' => e = .returned (.bool true) ∧ Below w.heap.size w w' := by
  have H := Lib.hid h
  have H2 := Lib.hid h2
  clear h h2
  go_enter Try.func18, Try.ntmps18
  go_wp2_with fail
  go_loopw [5] (fun i wr => ∃ k : Nat, k ≤ l.length ∧ i = .int .i64 k ∧ Below w.heap.size w wr) (fun i _ => l.length - (intOf i).toNat)
  case atStart => exact ⟨0, by omega, rfl, Below.refl _ _⟩
  case round =>
    obtain ⟨k, hk, rfl, hb⟩ := hrel
    by_cases hlt : k < l.length
    · obtain ⟨⟨p, v⟩, hi⟩ := some_at hlt
      obtain ⟨b, off, rfl, hb0, hc0, hc1⟩ := H.out.cell hb hi
      obtain ⟨b2, off2, rfl, hb20, hc20, hc21⟩ := H2.out.cell hb hi
      dsimp only at hc0 hc1 hc20 hc21
      have g1 : (0 : Int) ≤ (k : Int) := by omega
      have g2 : (k : Int) < (l.length : Int) := by omega
      have Hb := Lib.hid (fun n => below_drewN hb n)
      clear hb
      go_wp2_with fail
      go_quiet (fail)
      go_wp2_with fail
      refine ⟨⟨k + 1, by omega, by go_num, Hb.out _⟩, by simp [intOf]; omega⟩
    · obtain rfl : k = l.length := by omega
      go_wp2_with fail
      go_returns
      exact ⟨rfl, hb⟩
end Go.Proofs.Ytmkngolkflihlaa.Opt
