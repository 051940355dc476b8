/- The numbers that have the lowest bits: the contracts of both. -/
import Derived.Test.YtnlhjnckbajpkaaStr1
import Derived.Deep.DeepCutAuto
namespace Go.Proofs.Ytnlhjnckbajpkaa.Circ
open Go.ChangeShapes Go.WideShapes Go.ChangeAt Go.RowKit
open Go.Proofs.Ytnlhjnckbajpkaa.LInt
set_option linter.unusedVariables false

/-- how many numbers are told -/
def manyNext (many : Int) : Nat := (min (max many 0) 100).toNat
/-- the numbers that are told -/
def nexts (from' short : Int) (k : Nat) : List Int := (List.range k).map (nextc from' short)
theorem nexts_length (f s : Int) (k : Nat) : (nexts f s k).length = k := by simp [nexts]
theorem nexts_succ (f s : Int) (k : Nat) : nexts f s (k + 1) = nexts f s k ++ [nextc f s k] := by simp [nexts, List.range_succ]
theorem next_zero (f s : Int) : ofc (f + shortc (s - f)) = nextc f s (0 : Nat) := by unfold nextc shortc; simp
theorem next_succ (f s : Int) (k : Nat) : ofc (nextc f s k + 16777216) = nextc f s (k + 1) := by unfold nextc ofc; push_cast; omega
theorem manyNext_le (m : Int) : manyNext m ≤ 100 := by unfold manyNext; omega

theorem ints_push {w wr w1 : World} {base : Nat} {v v' : Value} {o : Obj} {xs : List Int} {x : Int} (hB : base ≤ wr.heap.size) (hown : Ints wr base v xs) (hb : Below base w wr)
    (hown' : w1.ownsRow base 3 1 v' (xs.length + 1) (xs.map (Value.int .i64) ++ [.int .i64 x])) (hg : (wr.alloc o).grownBy w1 v.ownBlock) :
    Ints w1 base v' (xs ++ [x]) ∧ Below base w w1 := by
  refine ⟨?_, (hb.alloc hB o).grown hg (by simp; omega) (fun j hj => (World.ownsRow.lt hown j hj).1)⟩
  unfold Ints
  rw [List.length_append, List.map_append]
  exact hown'

set_option maxHeartbeats 400000 in
theorem next_any (f s many : Int) (w : World) :
    Calls Try.prog 15 #[.int .i64 f, .int .i64 s, .int .i64 many] w fun e w' =>
      ∃ v, e = .returned v ∧ Ints w' w.heap.size v (nexts f s (manyNext many)) ∧ Below w.heap.size w w' := by
  have hm : Hid (manyNext many = (min (max many 0) 100).toNat) := rfl
  obtain ⟨i0, hi, hz0, hz1, hz2⟩ := info_parts infoInt
  have h0 := Lib.hid (next_zero f s)
  go_enter Try.func15, Try.ntmps15
  go_wp2_with fail
  refine (short_any _ _).mono ?_
  rintro e w ⟨rfl, rfl⟩
  rw [shortc_wrap]
  go_wp2_with fail
  refine (add_any _ _ _).mono ?_
  rintro e w ⟨rfl, rfl⟩
  rw [h0.out]
  go_upto_region 3 with fail
  go_cut [17, 18] (fun x y wx => x = .int .i64 (manyNext many : Nat) ∧ y = .int .i64 (0 : Nat) ∧ wx = w)
  case first =>
    go_wp2_with fail
    all_goals (go_meet; refine ⟨?_, rfl, rfl⟩; have := hm.out; go_num)
  case rest =>
    obtain ⟨rfl, rfl, rfl⟩ := hcut
    have hle := manyNext_le many
    clear hm
    go_wp2_with fail
    go_loopw [7, 8, 18] (fun n v c wr => ∃ k : Nat, k ≤ manyNext many ∧ c = .int .i64 k ∧ n = .int .i64 (nextc f s k) ∧ Ints wr wc.heap.size v (nexts f s k) ∧ Below wc.heap.size wc wr) (fun _ _ c _ => manyNext many - (intOf c).toNat)
    case atStart => exact ⟨0, Nat.zero_le _, rfl, rfl, Ints.nil _ _, Below.refl _ _⟩
    case round =>
      obtain ⟨k, hk, rfl, rfl, hown, hb⟩ := hrel
      have hlen := Lib.hid (nexts_length f s k)
      have hsz := hb.size
      by_cases hlt : k < manyNext many
      · have hnx := Lib.hid (next_succ f s k)
        have hsu := Lib.hid (nexts_succ f s k)
        generalize nexts f s k = xs at *
        generalize nextc f s k = x at *
        go_wp2_with (at_builtin; refine wpList_append_own _ rfl _ _ 27 rfl wc.heap.size 3 i0 (.int .i64 0) 1 8 Try.underlying27 hi hz0 hz1 hz2 rfl (by decide) _ _ _ rfl (World.ownsRow.alloc hown _) ⟨wr.heap.size, 0, none⟩ 1 1 [.int .i64 x] rfl rfl ?c1 ?c2 ?c3 ?c4 ?c5 ?_)
        case c1 =>
          intro j u hj
          match j, hj with
          | 0, hj => simp at hj; subst hj; simp [Addr.add]
        case c2 => intro u hu; simp at hu; subst hu; rfl
        case c3 => have := hlen.out; unfold maxLen; omega
        case c4 => have := hlen.out; omega
        case c5 => simp; omega
        intro v' w1 hown' hg _
        have hp := Lib.hid (ints_push hsz hown hb hown' hg)
        clear hown' hg hown hb
        go_wp2_with fail
        refine (add_any _ _ _).mono ?_
        rintro e w ⟨rfl, rfl⟩
        rw [hnx.out]
        go_wp2_with fail
        refine ⟨⟨k + 1, by omega, by go_num, rfl, ?_, hp.out.2⟩, by simp [intOf]; omega⟩
        rw [hsu.out]; exact hp.out.1
      · obtain rfl : k = manyNext many := by omega
        have Ho := Lib.hid hown
        clear hown
        go_wp2_with fail
        go_ret
        exact ⟨_, rfl, Ho.out, hb⟩

theorem refFirst (f s : Int) : (if (ofc f / 16777216 * 16777216 + shortc s) < ofc f then ofc f / 16777216 * 16777216 + shortc s + 16777216 else ofc f / 16777216 * 16777216 + shortc s) % 281474976710656 = (f + (s - f) % 16777216) % 281474976710656 := by
  unfold ofc shortc; split <;> omega
theorem refFirst_lt (f s : Int) : 0 ≤ ofc f / 16777216 * 16777216 + shortc s ∧ ofc f / 16777216 * 16777216 + shortc s < 281474976710656 := by
  unfold ofc shortc; omega
theorem refNext (f s first : Int) (k : Nat) (h : first % 281474976710656 = (f + (s - f) % 16777216) % 281474976710656) : ofc (first + k * 16777216) = nextc f s k := by
  unfold nextc ofc; omega

/-- the first one, on its way -/
def FirstAt (f s : Int) (x : Value) : Prop := ∃ n, x = .int .i64 n ∧ 0 ≤ n ∧ n < 562949953421312 ∧ n % 281474976710656 = (f + (s - f) % 16777216) % 281474976710656

set_option maxHeartbeats 400000 in
theorem refNext_any (f s many : Int) (w : World) :
    Calls Try.prog 16 #[.int .i64 f, .int .i64 s, .int .i64 many] w fun e w' =>
      ∃ v, e = .returned v ∧ Ints w' w.heap.size v (nexts f s (manyNext many)) ∧ Below w.heap.size w w' := by
  have hm : Hid (manyNext many = (min (max many 0) 100).toNat) := rfl
  obtain ⟨i0, hi, hz0, hz1, hz2⟩ := info_parts infoInt
  have h1 := Lib.hid (refFirst f s)
  have h2 := refFirst_lt f s
  have h3 := ofc_lt f
  have h4 := shortc_lt s
  go_enter Try.func16, Try.ntmps16
  go_wp2_with fail
  refine (refOf_any _ _).mono ?_
  rintro e w ⟨rfl, rfl⟩
  go_wp2_with fail
  refine (refShort_any _ _).mono ?_
  rintro e w ⟨rfl, rfl⟩
  go_upto_if 21 with fail
  go_cut [9] (fun x wx => FirstAt f s x ∧ wx = w)
  case first =>
    by_cases hlt : ofc f / 16777216 * 16777216 + shortc s < ofc f
    · have H := h1.out
      rw [if_pos hlt] at H
      have H := Lib.hid H
      go_wp2_with fail
      go_meet
      exact ⟨⟨_, rfl, by omega, by omega, H.out⟩, rfl⟩
    · have H := h1.out
      rw [if_neg hlt] at H
      have H := Lib.hid H
      go_wp2_with fail
      go_meet
      exact ⟨⟨_, rfl, by omega, by omega, H.out⟩, rfl⟩
  case rest =>
    obtain ⟨⟨n, rfl, h5, h6, h7⟩, rfl⟩ := hcut
    have hnx := Lib.hid (fun k => refNext f s n k h7)
    clear h7 h1
    have hle := manyNext_le many
    go_wp2_with fail
    go_loopw [7, 10] (fun v c wr => ∃ k : Nat, k ≤ manyNext many ∧ c = .int .i64 k ∧ Ints wr wc.heap.size v (nexts f s k) ∧ Below wc.heap.size wc wr) (fun _ c _ => manyNext many - (intOf c).toNat)
    case atStart => exact ⟨0, Nat.zero_le _, rfl, Ints.nil _ _, Below.refl _ _⟩
    case round =>
      obtain ⟨k, hk, rfl, hown, hb⟩ := hrel
      have hlen := Lib.hid (nexts_length f s k)
      have hsz := hb.size
      by_cases hlt : k < manyNext many
      · have hk1 : (k : Int) < many := by have := hm.out; omega
        have hk2 : k < 100 := by omega
        have hsu := Lib.hid (nexts_succ f s k)
        generalize nexts f s k = xs at *
        go_wp2_with fail
        refine (refOf_any _ _).mono ?_
        rintro e wr ⟨rfl, rfl⟩
        rw [hnx.out k]
        generalize nextc f s k = x at *
        go_wp2_with (at_builtin; refine wpList_append_own _ rfl _ _ 27 rfl wc.heap.size 3 i0 (.int .i64 0) 1 8 Try.underlying27 hi hz0 hz1 hz2 rfl (by decide) _ _ _ rfl (World.ownsRow.alloc hown _) ⟨wr.heap.size, 0, none⟩ 1 1 [.int .i64 x] rfl rfl ?c1 ?c2 ?c3 ?c4 ?c5 ?_)
        case c1 =>
          intro j u hj
          match j, hj with
          | 0, hj => simp at hj; subst hj; simp [Addr.add]
        case c2 => intro u hu; simp at hu; subst hu; rfl
        case c3 => have := hlen.out; unfold maxLen; omega
        case c4 => have := hlen.out; omega
        case c5 => simp; omega
        intro v' w1 hown' hg _
        have hp := Lib.hid (ints_push hsz hown hb hown' hg)
        clear hown' hg hown hb
        go_wp2_with fail
        refine ⟨⟨k + 1, by omega, by go_num, ?_, hp.out.2⟩, by simp [intOf]; omega⟩
        rw [hsu.out]; exact hp.out.1
      · obtain rfl : k = manyNext many := by omega
        have Ho := Lib.hid hown
        clear hown
        have hmm := hm.out
        by_cases hlt2 : ((manyNext many : Nat) : Int) < many
        · have h100 : ¬ manyNext many < 100 := by omega
          clear hmm
          go_wp2_with fail
          go_ret
          exact ⟨_, rfl, Ho.out, hb⟩
        · clear hmm
          go_wp2_with fail
          go_ret
          exact ⟨_, rfl, Ho.out, hb⟩

theorem worksStr_any (w : World) :
    Calls Try.prog 7 #[] w fun e w' => e = .returned (.bool true) ∧ Below w.heap.size w w' := by
  go_enter Try.func7, Try.ntmps7
  go_wp2_with fail
  refine (long_any _ _ _).mono ?_
  rintro e w ⟨rfl, rfl⟩
  rw [show longc 16777221 16777215 = 16777215 by decide]
  go_wp2_with fail
  refine (short_any _ _).mono ?_
  rintro e w ⟨rfl, rfl⟩
  rw [show shortc 16777223 = 7 by decide]
  go_wp2_with fail
  refine (next_any _ _ _ _).mono ?_
  rintro e w1 ⟨v, rfl, hown, hb⟩
  rw [show nexts 5 3 (manyNext 2) = [16777219, 33554435] by decide] at hown
  rcases hown.at with ⟨h, _⟩ | ⟨g, cap, rfl, _⟩
  · simp at h
  · go_wp2_with fail
    go_ret
    exact ⟨rfl, hb⟩
end Go.Proofs.Ytnlhjnckbajpkaa.Circ
