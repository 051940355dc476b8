/- The document's own answers: the states that runs tell, and the fewest runs; and two equal lists. -/
import Derived.Test.YtdnddhnnpplgjaaAvec6
import Derived.Test.YtdnddhnnpplgjaaLInt
namespace Go.Proofs.Ytdnddhnnpplgjaa.Avec
open Go.ChangeShapes Go.WideShapes Go.ChangeAt Go.RowKit
open Go.Proofs.Ytdnddhnnpplgjaa.LInt
set_option linter.unusedVariables false

theorem ints_push {w wr w1 : World} {base : Nat} {v v' : Value} {o : Obj} {xs : List Int} {x : Int} (hB : base ≤ wr.heap.size) (hown : Ints wr base v xs) (hb : Below base w wr)
    (hown' : w1.ownsRow base 3 1 v' (xs.length + 1) (xs.map (Value.int .i64) ++ [.int .i64 x])) (hg : (wr.alloc o).grownBy w1 v.ownBlock) :
    Ints w1 base v' (xs ++ [x]) ∧ Below base w w1 := by
  refine ⟨?_, (hb.alloc hB o).grown hg (by simp; omega) (fun j hj => (World.ownsRow.lt hown j hj).1)⟩
  unfold Ints
  rw [List.length_append, List.map_append]
  exact hown'

theorem replicate_one {q : Int} {j : Nat} (X : List Int) : X ++ List.replicate (j + 1) q = (X ++ List.replicate j q) ++ [q] := by
  rw [List.replicate_succ', List.append_assoc]
theorem states_take {l : List R} {k : Nat} {q v : Int} (h : l[k]? = some ⟨q, v⟩) : states (l.take (k + 1)) = states (l.take k) ++ List.replicate (heldN v) q := by
  rw [take_at h, states_append, states_cons]; simp [states]
theorem states_take_le (l : List R) (k : Nat) : (states (l.take k)).length ≤ 64 * l.length := by
  rw [states_length]
  have := many_le (l.take k)
  have h2 : (l.take k).length ≤ l.length := by rw [List.length_take]; omega
  omega

set_option maxRecDepth 100000 in
set_option maxHeartbeats 1000000 in
theorem refStates_any (l : List R) (hlen : l.length ≤ 5000) (a : Option Addr) (cap : Nat) (w : World) (h : RunsAt w a l) :
    Calls Try.prog 17 #[.slice a l.length cap] w fun e w' => ∃ v, e = .returned v ∧ Ints w' w.heap.size v (states l) ∧ Below w.heap.size w w' := by
  obtain ⟨i0, hi, hz0, hz1, hz2⟩ := info_parts infoInt
  have H := Lib.hid h
  clear h
  go_enter Try.func17, Try.ntmps17
  go_wp2_with fail
  go_loopw [3, 4] (fun v i wr => ∃ k : Nat, k ≤ l.length ∧ i = .int .i64 k ∧ Ints wr w.heap.size v (states (l.take k)) ∧ Below w.heap.size w wr) (fun _ i _ => l.length - (intOf i).toNat)
  case atStart => exact ⟨0, by omega, rfl, Ints.nil _ _, Below.refl _ _⟩
  case round =>
    obtain ⟨k, hk, rfl, hown, hb⟩ := hrel
    by_cases hlt : k < l.length
    · obtain ⟨⟨q, n⟩, hi2⟩ := some_at hlt
      have Ht := Lib.hid (states_take hi2)
      have hle := states_take_le l k
      have hhl := heldN_le n
      have Hh := Lib.hid (fun w => refHeld_any n w)
      generalize states (l.take k) = X at *
      generalize heldN n = hn at *
      go_wp2_with fail
      go_loopw [3, 5] (fun v j wr => ∃ m : Nat, m ≤ hn ∧ j = .int .i64 m ∧ Ints wr w.heap.size v (X ++ List.replicate m q) ∧ Below w.heap.size w wr) (fun _ j _ => hn - (intOf j).toNat)
      case atStart => exact ⟨0, by omega, rfl, by simpa using hown, hb⟩
      case round =>
        obtain ⟨m, hm, rfl, hown, hb⟩ := hrel
        have hsz := hb.size
        obtain ⟨b, off, rfl, hb0, hc0, hc1⟩ := H.out.cell (hb.mono (Nat.le_refl _)) hi2
        dsimp only at hc0 hc1
        by_cases hmt : m < hn
        · have Hs := Lib.hid (replicate_one (q := q) (j := m) X)
          have hxl : (X ++ List.replicate m q).length ≤ 320064 := by rw [List.length_append, List.length_replicate]; omega
          generalize X ++ List.replicate m q = xs at *
          go_wp2_with fail
          refine (Hh.out _).mono ?_
          rintro e w3 ⟨rfl, h3⟩
          subst h3
          go_wp2_with (at_builtin; refine wpList_append_own _ rfl _ _ 33 rfl w.heap.size 3 i0 (.int .i64 0) 1 8 Try.underlying33 hi hz0 hz1 hz2 rfl (by decide) _ _ _ rfl (World.ownsRow.alloc hown _) ⟨w3.heap.size, 0, none⟩ 1 1 [.int .i64 q] rfl rfl (cell_one_new _ _ _) (by simp [Value.oneCell']) (by unfold maxLen; omega) (by omega) (by simp; omega) ?_)
          intro v' w1 hown' hg _
          have hp := Lib.hid (ints_push hsz hown hb hown' hg)
          clear hown' hg hown hb
          go_wp2_with fail
          refine ⟨⟨m + 1, by omega, by go_num, by rw [Hs.out]; exact hp.out.1, hp.out.2⟩, by simp [intOf]; omega⟩
        · obtain rfl : m = hn := by omega
          have Hs := Lib.hid Ht.out.symm
          generalize X ++ List.replicate m q = xs at *
          go_wp2_with fail
          refine (Hh.out _).mono ?_
          rintro e w3 ⟨rfl, h3⟩
          subst h3
          go_wp2_with fail
          refine ⟨⟨k + 1, by omega, by go_num, by rw [← Hs.out]; exact hown, hb⟩, by simp [intOf]; omega⟩
    · obtain rfl : k = l.length := by omega
      rw [List.take_length] at hown
      go_wp2_with fail
      go_returns
      exact ⟨_, rfl, hown, hb⟩
end Go.Proofs.Ytdnddhnnpplgjaa.Avec
