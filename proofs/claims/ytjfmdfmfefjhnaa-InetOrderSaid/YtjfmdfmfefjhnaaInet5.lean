/- Whether parts are too many; the sums of one and of two parts; the anchor. -/
import Derived.Test.YtjfmdfmfefjhnaaInet4
namespace Go.Proofs.Ytjfmdfmfefjhnaa.Inet
open Go.ChangeShapes Go.WideShapes Go.ChangeAt Go.RowKit
set_option linter.unusedVariables false

/-- what great tells -/
def GreatIs (len : Nat) (f : Nat → ByteArray) (w : World) (e : Ending) (w' : World) : Prop :=
  w = w' ∧ ∃ b, e = .returned (.bool b) ∧ (b = false → len ≤ 50 ∧ ∀ i, i < len → (f i).size ≤ 4000)

theorem tot_get (g : Nat → Nat) (n i : Nat) (h : i < n) : g i ≤ tot g n := by
  induction n with
  | zero => omega
  | succ n ih =>
    simp only [tot]
    by_cases e : i = n
    · subst e; omega
    · have := ih (by omega); omega

set_option maxHeartbeats 400000 in
theorem great_any (a : Option Addr) (len cap : Nat) (f : Nat → ByteArray) (w : World) (hl : len ≤ maxLen) (hm : ∀ i, i < len → (f i).size ≤ maxLen) (hat : StrsAt w a len f) :
    Calls Try.prog 7 #[.slice a len cap] w (GreatIs len f w) := by
  unfold maxLen at hl hm
  have Hat := Lib.hid hat
  have Hm := Lib.hid hm
  clear hat hm
  go_enter Try.func7, Try.ntmps7
  go_wp2_with fail
  go_loop [3, 4] (fun n i => ∃ k : Nat, k ≤ len ∧ k ≤ 50 ∧ tot (fun j => min (f j).size 5000) k ≤ 4000 ∧ i = .int .i64 k ∧ n = .int .i64 (tot (fun j => min (f j).size 5000) k : Nat)) (fun _ i => len - (intOf i).toNat)
  case atStart => exact ⟨0, Nat.zero_le _, by omega, by simp [tot], rfl, rfl⟩
  case round =>
    obtain ⟨k, hk, hk5, htk, rfl, rfl⟩ := hrel
    by_cases hlt : k < len
    · obtain ⟨b, off, rfl, hcell⟩ := Hat.out.cell (Below.refl _ _) k hlt
      have hnext := Lib.hid (show tot (fun j => min (f j).size 5000) (k + 1) = tot (fun j => min (f j).size 5000) k + min (f k).size 5000 from rfl)
      have hsz := Hm.out k hlt
      generalize f k = x at *
      generalize tot (fun j => min (f j).size 5000) k = m at *
      by_cases h50 : k < 50
      · by_cases h5 : 5000 < x.size
        · go_wp2_with fail
          go_ret
          exact ⟨rfl, _, rfl, fun h => by cases h⟩
        · by_cases h4 : m + x.size ≤ 4000
          · go_wp2_with fail
            refine ⟨⟨k + 1, by omega, by omega, by rw [hnext.out]; omega, by go_num, by rw [hnext.out]; go_num⟩, by simp [intOf]; omega⟩
          · go_wp2_with fail
            go_ret
            exact ⟨rfl, _, rfl, fun h => by cases h⟩
      · go_wp2_with fail
        all_goals
          go_ret
          exact ⟨rfl, _, rfl, fun h => by cases h⟩
    · obtain rfl : k = len := by omega
      have hg := Lib.hid (tot_get (fun j => min (f j).size 5000) k)
      generalize tot (fun j => min (f j).size 5000) k = m at *
      go_wp2_with fail
      go_ret
      refine ⟨rfl, _, rfl, fun _ => ⟨by omega, fun i hi => ?_⟩⟩
      have := hg.out i hi
      omega

theorem strs1 (w : World) (x : ByteArray) (t : TypeId) : StrsAt (w.alloc (.cells #[.string x] t)) (some ⟨w.heap.size, 0, none⟩) 1 (fun _ => x) :=
  .inr ⟨_, 0, rfl, by simp, fun i hi => by
    obtain rfl : i = 0 := by omega
    exact World.cell?_alloc_mark w _ t (0, 0) 0⟩
theorem strs2 (w : World) (x y : ByteArray) (t : TypeId) : StrsAt (w.alloc (.cells #[.string x, .string y] t)) (some ⟨w.heap.size, 0, none⟩) 2 (fun i => if i = 0 then x else y) :=
  .inr ⟨_, 0, rfl, by simp, fun i hi => by
    have := World.cell?_alloc_mark w #[.string x, .string y] t (0, 0) i
    rw [Nat.zero_add]
    refine this.trans ?_
    have : i = 0 ∨ i = 1 := by omega
    rcases this with rfl | rfl <;> rfl⟩

theorem sum1_any (x : ByteArray) (w : World) (hx : x.size ≤ 10000) (n : Nat) (hn : ws x = n) :
    Calls Try.prog 10 #[.slice (some ⟨w.heap.size, 0, none⟩) 1 1] (w.alloc (.cells #[.string x] 9)) fun e w' => e = .returned (.int .i64 (sumOf n)) ∧ Below w.heap.size w w' := by
  refine (sum_any _ 1 1 _ _ (by omega) (fun i hi => hx) (strs1 w x 9)).mono ?_
  rintro e w' ⟨rfl, hb⟩
  refine ⟨?_, ((Below.refl _ _).alloc (Nat.le_refl _) _).trans (hb.mono (by simp))⟩
  rw [show tot (fun _ => ws x) 1 = n by simp [tot, hn]]

theorem sum2_any (x y : ByteArray) (w : World) (hx : x.size ≤ 10000) (hy : y.size ≤ 10000) (n : Nat) (hn : ws x + ws y = n) :
    Calls Try.prog 10 #[.slice (some ⟨w.heap.size, 0, none⟩) 2 2] (w.alloc (.cells #[.string x, .string y] 9)) fun e w' => e = .returned (.int .i64 (sumOf n)) ∧ Below w.heap.size w w' := by
  refine (sum_any _ 2 2 _ _ (by omega) (fun i hi => by split <;> assumption) (strs2 w x y 9)).mono ?_
  rintro e w' ⟨rfl, hb⟩
  refine ⟨?_, ((Below.refl _ _).alloc (Nat.le_refl _) _).trans (hb.mono (by simp))⟩
  rw [show tot (fun i => ws (if i = 0 then x else y)) 2 = n by simp [tot, hn]]

theorem sum0_any (w : World) :
    Calls Try.prog 10 #[.slice none 0 0] w fun e w' => e = .returned (.int .i64 65535) ∧ Below w.heap.size w w' :=
  (sum_any none 0 0 (fun _ => ⟨#[]⟩) w (by omega) (fun i hi => by omega) (.inl rfl)).mono fun e w' h => h

theorem works_any (w : World) :
    Calls Try.prog 6 #[] w fun e w' => e = .returned (.bool true) ∧ Below w.heap.size w w' := by
  go_enter Try.func6, Try.ntmps6
  go_wp2_with fail
  refine (sum2_any ⟨#[0, 1, 242, 3]⟩ ⟨#[244, 245, 246, 247]⟩ _ (by decide) (by decide) 187888 (by decide)).mono ?_
  rintro e w1 ⟨rfl, h1⟩
  have h0 := Lib.hid h1
  clear h1
  rw [show sumOf 187888 = 8717 by decide]
  go_wp2_with fail
  refine (sum0_any _).mono ?_
  rintro e w2 ⟨rfl, h1⟩
  have h0 := Lib.hid (h0.out.trans (h1.mono h0.out.size))
  clear h1
  go_wp2_with fail
  refine (pseudo_any _ _ _ _).mono ?_
  rintro e w2 ⟨rfl, h1⟩
  have h0 := Lib.hid (h0.out.trans (h1.mono h0.out.size))
  have hz := pse_size 1 2 3
  generalize pse 1 2 3 = p at *
  clear h1
  go_wp2_with fail
  go_ret
  exact ⟨rfl, h0.out⟩
end Go.Proofs.Ytjfmdfmfefjhnaa.Inet
