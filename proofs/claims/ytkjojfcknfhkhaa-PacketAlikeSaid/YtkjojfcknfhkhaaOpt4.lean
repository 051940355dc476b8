/- The iterator over the options that bytes say. -/
import Derived.Test.YtkjojfcknfhkhaaOpt3
import Derived.RangeFuncNested
import Derived.RangeFuncBound
import Derived.RangeFuncCalls
import Derived.RangeFuncLeaves
import Derived.Shelf.Abstract
import Derived.Shelf.RegionOpen
import Derived.WalkKit
import Derived.OwnWalkIn
import Derived.TacticsInMore
import Derived.LoopNIn
import Derived.LoopIn
namespace Go.Proofs.Ytkjojfcknfhkhaa.Opt
open Go.ChangeShapes Go.WideShapes Go.ChangeAt Go.RowKit Go.Shelf
set_option linter.unusedVariables false

attribute [local go_sem] Oper.semAt_some

/-- what a round is handed -/
def encs (x : O × Int) : Array Value := #[.agg #[.int .i64 x.1.kind, .string x.1.value], .int .i64 x.2]
/-- how many bytes are left -/
def leftOf : Value → Nat
  | .string s => s.size
  | _ => 0

theorem not_nil {x : ByteArray} (h : 0 < x.size) : x.toList.isEmpty = false := by
  rw [ByteArray.toList_eq]
  cases hx : x.data.toList with
  | nil =>
    have h2 : x.data.toList.length = x.size := Array.length_toList
    rw [hx] at h2
    simp at h2
    omega
  | cons a r => rfl
theorem grown_of_below {w w' : World} (h : Below w.heap.size w w') : w.grownBy w' none := ⟨h.os, h.tape, h.output, h.size, fun k hk _ => h.block k hk⟩

set_option maxRecDepth 100000 in
set_option maxHeartbeats 1000000 in
theorem told1_in (n : Nat) (l Bn B : Nat) (s : ByteArray) (hs : s.size ≤ 3000) (J Jx : List (O × Int) → World → Prop) (hJ : AbidesFrom B J) (hJx : AbidesFrom B Jx)
    (hY : ∀ pre x W, J pre W → pre.length < (told s).length → YieldAt Fence.wide (n - 1) Try.prog l (encs x) W fun e W' =>
      (e = .returned (.bool true) ∧ J (pre ++ [x]) W' ∧ True) ∨ (e = .returned (.bool false) ∧ Jx (pre ++ [x]) W'))
    (W : World) (hBn : W.cell? ⟨Bn, 0, none⟩ = some (.string s)) (h0 : J [] W) :
    CallsIn Fence.wide n Try.prog 96 #[.func (.yield l) #[] #[], .pointer (some ⟨Bn, 0, none⟩)] W fun e W' => (∃ v, e = .returned v) ∧
      ((∃ ys, ys = told s ∧ J ys W') ∨ (∃ pre, pre <+: told s ∧ Jx pre W')) := by
  have hgJ : ∀ {pre : List (O × Int)} {w1 w2 : World}, J pre w1 → Below w1.heap.size w1 w2 → J pre w2 := fun h hb => hJ _ _ _ none h (grown_of_below hb) (fun r e => by cases e)
  have hgJx : ∀ {pre : List (O × Int)} {w1 w2 : World}, Jx pre w1 → Below w1.heap.size w1 w2 → Jx pre w2 := fun h hb => hJx _ _ _ none h (grown_of_below hb) (fun r e => by cases e)
  refine callsIn_of_wp Try.func96 rfl trivial ?_ rfl
  simp only [Try.ntmps96, List.size_toArray, List.length_cons, List.length_nil, Nat.reduceAdd, Nat.reduceSub, Array.replicate_succ, Array.replicate_zero, List.push_toArray, List.append_toArray, List.nil_append, List.cons_append]
  gi_wp2
  gi_loopw [3] (fun p wr => ∃ (pre : List (O × Int)) (x : ByteArray), p = .string x ∧ x.size ≤ 3000 ∧ told s = pre ++ told x ∧ J pre wr) (fun p wr => leftOf p)
  case atStart => exact ⟨[], s, rfl, hs, rfl, h0⟩
  case round =>
    obtain ⟨pre, x, rfl, hx, ht, hJs⟩ := hrel
    by_cases hz : x.size = 0
    · obtain rfl : x = ⟨#[]⟩ := by
        cases x with | mk d =>
        have : d.size = 0 := hz
        rw [Array.eq_empty_of_size_eq_zero this]
      rw [told_nil (s := ⟨#[]⟩) rfl, List.append_nil] at ht
      clear hz hx
      gi_wp2
      go_end0
      exact ⟨⟨_, rfl⟩, .inl ⟨pre, ht.symm, hJs⟩⟩
    · have hx0 : 0 < x.size := by omega
      have he := told_step hx0
      have hf := first_any x hx0 hx
      have hless := first_less hx0
      generalize first x = F at *
      obtain ⟨⟨k, v⟩, r, er⟩ := F
      dsimp only at he hf hless
      have hne := not_nil hx0
      have Hf := Lib.hid hf
      have Hl := Lib.hid hless
      clear hf hless hz
      have ha := fun (w1 : World) => (Below.refl w1.heap.size w1).alloc (Nat.le_refl _) (.cells #[.int .i64 k, .string v] 57)
      gi_wp2_with fail
      refine ⟨trivial, fun h => (by cases h), (callsIn_wide.2 (Hf.out wr)).mono ?_⟩
      rintro e w1 ⟨rfl, h1⟩
      have HJ1 := Lib.hid (hgJ (hgJ hJs h1) (ha w1))
      clear ha h1
      have hr3 : r.size ≤ 3000 := by have := Hl.out; omega
      by_cases her : er = 0
      · subst her
        rw [if_pos rfl] at he
        by_cases hk : k = 0
        · subst hk
          rw [if_pos rfl] at he
          have He := Lib.hid he
          clear he
          gi_wp2_with fail
          refine ⟨fun _ h => (by cases h), ?_⟩
          gi_wp2_with fail
          go_roundw
          case rel => exact ⟨pre, r, rfl, hr3, by rw [ht, He.out], HJ1.out⟩
          case measure => exact Hl.out
        · rw [if_neg hk] at he
          have hk1 : (k == 0) = false := by simp [hk]
          have hlen : pre.length < (told s).length := by rw [ht, he]; simp
          obtain ⟨fn, tmps, assign, body, hy, hR⟩ := hY pre (⟨k, v⟩, 0) _ HJ1.out hlen
          dsimp only [encs] at hy
          have He := Lib.hid he
          have Ht := Lib.hid ht
          clear he ht hlen
          gi_wp2_with fail
          refine ⟨fun h => (by cases h), hR.mono ?_⟩
          rintro e W3 (⟨rfl, hJ3, -⟩ | ⟨rfl, hJx3⟩)
          · gi_wp2_with fail
            go_roundw
            case rel => exact ⟨pre ++ [(⟨k, v⟩, 0)], r, rfl, hr3, by rw [Ht.out, He.out]; simp, hJ3⟩
            case measure => exact Hl.out
          · gi_wp2_with fail
            refine bodyPost_ret (results_none rfl _ _ _) rfl ?_
            exact ⟨⟨_, rfl⟩, .inr ⟨pre ++ [(⟨k, v⟩, 0)], ⟨told r, by rw [Ht.out, He.out]; simp⟩, hJx3⟩⟩
      · rw [if_neg her] at he
        have her1 : (er == 0) = false := by simp [her]
        have hlen : pre.length < (told s).length := by rw [ht, he]; simp
        obtain ⟨fn, tmps, assign, body, hy, hR⟩ := hY pre (none1, er) _ HJ1.out hlen
        dsimp only [encs, none1] at hy
        have He := Lib.hid he
        have Ht := Lib.hid ht
        clear he ht hlen
        gi_wp2_with fail
        refine ⟨fun h => (by cases h), hR.mono ?_⟩
        rintro e W3 (⟨rfl, hJ3, -⟩ | ⟨rfl, hJx3⟩)
        · gi_wp2_with fail
          refine bodyPost_ret (results_none rfl _ _ _) rfl ?_
          exact ⟨⟨_, rfl⟩, .inl ⟨pre ++ [(none1, er)], by rw [Ht.out, He.out], hJ3⟩⟩
        · gi_wp2_with fail
          refine bodyPost_ret (results_none rfl _ _ _) rfl ?_
          exact ⟨⟨_, rfl⟩, .inr ⟨pre ++ [(none1, er)], ⟨[], by rw [Ht.out, He.out]; simp⟩, hJx3⟩⟩

/-- the value that 'told' hands back: an iterator over all that the bytes say -/
theorem told_stops (n : Nat) (Bn : Nat) (s : ByteArray) (hs : s.size ≤ 3000) (w : World) (hBn : Bn < w.heap.size) (hc : w.cell? ⟨Bn, 0, none⟩ = some (.string s)) :
    SeqStopsK Fence.wide n Try.prog 96 #[.pointer (some ⟨Bn, 0, none⟩)] encs (fun _ _ => True) (fun ys => ys = told s) (fun pre => pre <+: told s) (told s).length w := fun l J Jx W hW hJ hJx hY h0 =>
  told1_in n l Bn _ s hs J Jx hJ hJx hY W ((hW.cell (p := ⟨Bn, 0, none⟩) hBn).trans hc) h0

theorem boxed_below {w w' : World} {B N : Nat} {t : TypeId} {v : Value} (h : Boxed w B t v) (hb : Below N w w') (hN : B < N) : Boxed w' B t v := (hb.block B hN).trans h

theorem told_any (s : ByteArray) (hs : s.size ≤ 3000) (w : World) :
    Calls Try.prog 91 #[.string s] w fun e w' => ∃ Bn, e = .returned (.func (.func 96) #[] #[.pointer (some ⟨Bn, 0, none⟩)]) ∧ Bn < w'.heap.size ∧ w'.cell? ⟨Bn, 0, none⟩ = some (.string s) ∧ Below w.heap.size w w' := by
  go_enter Try.func91, Try.ntmps91
  go_wp2_with fail
  refine (clone_any s _ (by omega)).mono ?_
  rintro e w1 ⟨rfl, h1⟩
  have hbx : Boxed w1 w.heap.size 9 (.string s) := boxed_below (Boxed.new w 9 (.string s)) h1 (by simp)
  have h0 := ((Below.refl w.heap.size w).alloc (Nat.le_refl _) (.cells #[.string s] 9)).trans (h1.mono (by simp))
  have hc := hbx.cell
  have hf := hbx.frozen
  have hset := Lib.hid (hbx.set (.string s))
  have hlt := hbx.lt
  clear h1 hbx
  go_wp2_with fail
  go_ret
  exact ⟨_, rfl, hset.out.lt, hset.out.cell, h0.setCell (p := ⟨w.heap.size, 0, none⟩) (Nat.le_refl _) _⟩
end Go.Proofs.Ytkjojfcknfhkhaa.Opt
