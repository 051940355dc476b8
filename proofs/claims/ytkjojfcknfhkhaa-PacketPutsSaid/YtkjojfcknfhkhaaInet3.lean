/- The contracts of Sum, of the program's and of the document's; whether parts are too many. -/
import Derived.Test.YtkjojfcknfhkhaaInet2
namespace Go.Proofs.Ytkjojfcknfhkhaa.Inet
open Go.ChangeShapes Go.WideShapes Go.ChangeAt Go.RowKit
set_option linter.unusedVariables false

/-- what a slice of texts reads as -/
def StrsAt (w : World) (a : Option Addr) (len : Nat) (f : Nat → ByteArray) : Prop :=
  len = 0 ∨ ∃ b off, a = some ⟨b, off, none⟩ ∧ b < w.heap.size ∧ ∀ i, i < len → w.cell? ⟨b, off + i, none⟩ = some (.string (f i))

theorem StrsAt.below {w w' : World} {B : Nat} {a : Option Addr} {len : Nat} {f : Nat → ByteArray} (h : StrsAt w a len f) (hB : w.heap.size ≤ B) (hb : Below B w w') : StrsAt w' a len f := by
  rcases h with h | ⟨b, off, rfl, h1, h2⟩
  · exact .inl h
  · exact .inr ⟨b, off, rfl, Nat.lt_of_lt_of_le h1 hb.size, fun j hj => by rw [hb.cell (p := ⟨b, off + j, none⟩) (Nat.lt_of_lt_of_le h1 hB)]; exact h2 j hj⟩

theorem StrsAt.cell {w w' : World} {a : Option Addr} {len : Nat} {f : Nat → ByteArray} (h : StrsAt w a len f) (hb : Below w.heap.size w w') (k : Nat) (hk : k < len) :
    ∃ b off, a = some ⟨b, off, none⟩ ∧ w'.cell? ⟨b, off + k, none⟩ = some (.string (f k)) := by
  rcases h with h | ⟨b, off, rfl, h1, h2⟩
  · omega
  · exact ⟨b, off, rfl, (hb.cell (p := ⟨b, off + k, none⟩) h1).trans (h2 k hk)⟩

set_option maxHeartbeats 400000 in
theorem sum_any (a : Option Addr) (len cap : Nat) (f : Nat → ByteArray) (w : World) (hl : len ≤ 1000) (hs : ∀ i, i < len → (f i).size ≤ 10000) (hat : StrsAt w a len f) :
    Calls Try.prog 52 #[.slice a len cap] w fun e w' => e = .returned (.int .i64 (sumOf (tot (fun i => ws (f i)) len))) ∧ Below w.heap.size w w' := by
  have hws : ∀ i, i < len → ws (f i) ≤ 652800000 := fun i hi => by have := ws_le (f i); have := hs i hi; omega
  have hbd := Lib.hid (fun k hk => tot_le (fun i => ws (f i)) 652800000 len hws k hk)
  have Hat := Lib.hid hat
  have Hs := Lib.hid hs
  have Hws := Lib.hid hws
  clear hat hs hws
  go_enter Try.func52, Try.ntmps52
  go_wp2_with fail
  go_loopw [3, 5, 8] (fun n _ i wr => ∃ k : Nat, k ≤ len ∧ i = .int .i64 k ∧ n = .int .i64 (tot (fun i => ws (f i)) k : Nat) ∧ Below w.heap.size w wr) (fun _ _ i _ => len - (intOf i).toNat)
  case atStart => exact ⟨0, Nat.zero_le _, rfl, rfl, Below.refl _ _⟩
  case round =>
    obtain ⟨k, hk, rfl, rfl, hb⟩ := hrel
    have hbk := hbd.out k hk
    by_cases hlt : k < len
    · obtain ⟨b, off, rfl, hcell⟩ := Hat.out.cell hb k hlt
      have hnext := Lib.hid (show tot (fun i => ws (f i)) (k + 1) = tot (fun i => ws (f i)) k + ws (f k) from rfl)
      have hw := Hws.out k hlt
      have hsz := Hs.out k hlt
      generalize f k = x at *
      generalize tot (fun i => ws (f i)) k = m at *
      have Hb := Lib.hid hb
      clear hb
      go_wp2_with fail
      refine (numbers_any x hsz _).mono ?_
      rintro e w2 ⟨rfl, hb2⟩
      have Hb := Lib.hid (Hb.out.trans (hb2.mono Hb.out.size))
      clear hb2
      go_wp2_with fail
      refine ⟨⟨k + 1, by omega, by go_num, ?_, Hb.out⟩, by simp [intOf]; omega⟩
      rw [hnext.out]; go_num
    · obtain rfl : k = len := by omega
      generalize hm : tot (fun i => ws (f i)) k = m at *
      have Hm := Lib.hid hm
      have Hb := Lib.hid hb
      clear hb hm
      have hc := Lib.hid (carry_mod (m : Int) (by omega))
      go_wp2_with fail
      refine (carried_any _ (by omega) (by omega) _).mono ?_
      rintro e w' ⟨rfl, rfl⟩
      go_wp2_with fail
      refine (turned_any _ _).mono ?_
      rintro e w' ⟨rfl, rfl⟩
      go_wp2_with fail
      go_ret
      refine ⟨congrArg (fun x => Ending.returned (.int .i64 x)) ?_, Hb.out⟩
      rw [Hm.out]; exact hc.out

set_option maxHeartbeats 800000 in
theorem refSum_any (a : Option Addr) (len cap : Nat) (f : Nat → ByteArray) (w : World) (hl : len ≤ 1000) (hs : ∀ i, i < len → (f i).size ≤ 10000) (hat : StrsAt w a len f) :
    Calls Try.prog 54 #[.slice a len cap] w fun e w' => e = .returned (.int .i64 (sumOf (tot (fun i => ws (f i)) len))) ∧ w = w' := by
  have hws : ∀ i, i < len → ws (f i) ≤ 652800000 := fun i hi => by have := ws_le (f i); have := hs i hi; omega
  have hbd := Lib.hid (fun k hk => tot_le (fun i => ws (f i)) 652800000 len hws k hk)
  have Hat := Lib.hid hat
  have Hs := Lib.hid hs
  have Hws := Lib.hid hws
  clear hat hs hws
  go_enter Try.func54, Try.ntmps54
  go_wp2_with fail
  go_loop [3, 4, 5] (fun n i _ => ∃ k : Nat, k ≤ len ∧ i = .int .i64 k ∧ n = .int .i64 (tot (fun i => ws (f i)) k : Nat)) (fun _ i _ => len - (intOf i).toNat)
  case atStart => exact ⟨0, Nat.zero_le _, rfl, rfl⟩
  case round =>
    obtain ⟨k, hk, rfl, rfl⟩ := hrel
    have hbk := hbd.out k hk
    by_cases hlt : k < len
    · obtain ⟨b, off, rfl, hcell⟩ := Hat.out.cell (Below.refl _ _) k hlt
      have hnext := Lib.hid (show tot (fun i => ws (f i)) (k + 1) = tot (fun i => ws (f i)) k + ws (f k) from rfl)
      have hw := Hws.out k hlt
      have hsz := Hs.out k hlt
      generalize f k = x at *
      generalize tot (fun i => ws (f i)) k = m at *
      go_wp2_with fail
      go_loop [3, 5] (fun n i => ∃ j : Nat, 2 * j ≤ x.size + 1 ∧ i = .int .i64 (2 * j : Nat) ∧ n = .int .i64 (m + wsum x (2 * j) : Nat)) (fun _ i => x.size + 2 - (intOf i).toNat)
      case atStart => exact ⟨0, by omega, rfl, rfl⟩
      case round =>
        obtain ⟨j, hj, rfl, rfl⟩ := hrel
        have hbj := wsum_le x (2 * j)
        by_cases hlt2 : 2 * j < x.size
        · have hnx := Lib.hid (show wsum x (2 * (j + 1)) = wsum x (2 * j) + 256 * byteAt x (2 * j) + byteAt x (2 * j + 1) by
            rw [show 2 * (j + 1) = 2 * j + 1 + 1 by omega]
            simp only [wsum, worth]
            rw [if_pos (by omega), if_neg (by omega)])
          have hg := byteAt_get x (2 * j) hlt2
          have hb1 := byteAt_lt x (2 * j)
          have hb2 := byteAt_lt x (2 * j + 1)
          by_cases hlt3 : 2 * j + 1 < x.size
          · have hg2 := byteAt_get x (2 * j + 1) hlt3
            generalize byteAt x (2 * j) = u at *
            generalize byteAt x (2 * j + 1) = v at *
            generalize wsum x (2 * j) = q at *
            go_wp2_with fail
            refine ⟨⟨j + 1, by omega, by go_num, ?_⟩, by simp [intOf]; omega⟩
            rw [hnx.out, ← hg, ← hg2]; go_num
          · have hz := Lib.hid (byteAt_end x (2 * j + 1) (by omega))
            generalize byteAt x (2 * j) = u at *
            generalize byteAt x (2 * j + 1) = v at *
            generalize wsum x (2 * j) = q at *
            go_wp2_with fail
            refine ⟨⟨j + 1, by omega, by go_num, ?_⟩, by simp [intOf]; omega⟩
            rw [hnx.out, ← hg, hz.out]; go_num
        · have he := Lib.hid (show wsum x (2 * j) = ws x by rw [show 2 * j = x.size + (2 * j - x.size) by omega]; exact wsum_end _ _)
          generalize wsum x (2 * j) = q at *
          go_wp2_with fail
          refine ⟨⟨k + 1, by omega, by go_num, ?_⟩, by simp [intOf]; omega⟩
          rw [hnext.out, he.out]
    · obtain rfl : k = len := by omega
      generalize hm : tot (fun i => ws (f i)) k = m at *
      have Hm := Lib.hid hm
      clear hm
      go_wp2_with fail
      go_loop [3] (fun v => ∃ n : Int, 0 ≤ n ∧ n ≤ 1000000000000 ∧ carry n = carry m ∧ v = .int .i64 n) (fun v => (intOf v).toNat)
      case atStart => exact ⟨m, by omega, by omega, rfl, rfl⟩
      case round =>
        obtain ⟨n, h2, h3, h4, rfl⟩ := hrel
        have H4 := Lib.hid h4
        clear h4
        by_cases hlt : 65535 < n
        · have hs := Lib.hid (carry_step n hlt)
          go_wp2_with fail
          go_round
          case rel => exact ⟨n / 65536 + n % 65536, by omega, by omega, hs.out.trans H4.out, by go_num⟩
          case measure => simp [intOf]; omega
        · have hc := Lib.hid (carry_small n h2 (by omega))
          go_wp2_with fail
          go_ret
          refine ⟨congrArg (fun x => Ending.returned (.int .i64 x)) ?_, rfl⟩
          rw [Hm.out]; unfold sumOf; rw [← H4.out, hc.out]
end Go.Proofs.Ytkjojfcknfhkhaa.Inet
