/- Options that lie in memory; how many bytes they have, and what is wrong with them: the contracts of the program's. -/
import Derived.Test.YtmkngolkflihlaaOpt0
import Derived.Test.YtmkngolkflihlaaShelf
import Derived.Deep.DeepCutAuto
import Derived.BigQuiet
namespace Go.Proofs.Ytmkngolkflihlaa.Opt
open Go.ChangeShapes Go.WideShapes Go.ChangeAt Go.RowKit
set_option linter.unusedVariables false

/-- what a slice of options reads as -/
def OptsAt (w : World) (a : Option Addr) (l : List O) : Prop :=
  l = [] ∨ ∃ b off, a = some ⟨b, off, none⟩ ∧ b < w.heap.size ∧ ∀ i o, l[i]? = some o → w.cell? ⟨b, off + i * 2, none⟩ = some (.int .i64 o.kind) ∧ w.cell? ⟨b, off + i * 2 + 1, none⟩ = some (.string o.value)

theorem OptsAt.cell {w w' : World} {a : Option Addr} {l : List O} (h : OptsAt w a l) (hb : Below w.heap.size w w') {i : Nat} {o : O} (hi : l[i]? = some o) :
    ∃ b off, a = some ⟨b, off, none⟩ ∧ b < w.heap.size ∧ w'.cell? ⟨b, off + i * 2, none⟩ = some (.int .i64 o.kind) ∧ w'.cell? ⟨b, off + i * 2 + 1, none⟩ = some (.string o.value) := by
  rcases h with rfl | ⟨b, off, rfl, h1, h2⟩
  · simp at hi
  · exact ⟨b, off, rfl, h1, (hb.cell (p := ⟨b, off + i * 2, none⟩) h1).trans (h2 i o hi).1, (hb.cell (p := ⟨b, off + i * 2 + 1, none⟩) h1).trans (h2 i o hi).2⟩
theorem OptsAt.below {w w' : World} {a : Option Addr} {l : List O} (h : OptsAt w a l) (hb : Below w.heap.size w w') : OptsAt w' a l := by
  rcases h with h | ⟨b, off, rfl, h1, h2⟩
  · exact .inl h
  · exact .inr ⟨b, off, rfl, Nat.lt_of_lt_of_le h1 hb.size, fun i o hi => ⟨(hb.cell (p := ⟨b, off + i * 2, none⟩) h1).trans (h2 i o hi).1, (hb.cell (p := ⟨b, off + i * 2 + 1, none⟩) h1).trans (h2 i o hi).2⟩⟩

theorem below_drewN {B : Nat} {w w' : World} (h : Below B w w') (n : Nat) : Below B w (w'.drewN n) := ⟨h.os, h.tape, h.output, h.size, h.block⟩
theorem cell_alloc {w : World} {b off : Nat} {v : Value} (o : Obj) (hb : b < w.heap.size) (h : w.cell? ⟨b, off, none⟩ = some v) : (w.alloc o).cell? ⟨b, off, none⟩ = some v :=
  (((Below.refl w.heap.size w).alloc (Nat.le_refl _) o).cell (p := ⟨b, off, none⟩) hb).trans h

theorem clone_any (s : ByteArray) (w : World) (hs : s.size ≤ 100000) :
    Calls Try.prog 33 #[.string s] w fun e w' => e = .returned (.string s) ∧ Below w.heap.size w w' := by
  go_enter Try.func33, Try.ntmps33
  go_wp2_with fail
  refine (Try.stringslite_Clone _ _ (by omega)).mono ?_
  rintro e w1 ⟨rfl, h1⟩
  go_wp2_with fail
  go_ret
  exact ⟨rfl, h1⟩

theorem room_any (k : Int) (w : World) :
    Calls Try.prog 40 #[.int .i64 k] w fun e w' => e = .returned (.int .i64 (room k)) ∧ w' = w := by
  go_enter Try.func40, Try.ntmps40
  by_cases h : k ≤ 31
  · have hr : room k = 0 := if_pos h
    go_wp2_with fail
    go_ret
    exact ⟨by rw [hr]; rfl, rfl⟩
  · have hr : room k = 253 := if_neg h
    go_wp2_with fail
    go_ret
    exact ⟨rfl, rfl⟩

theorem sizeOf_any (k : Int) (v : ByteArray) (hv : v.size ≤ 3000) (w : World) :
    Calls Try.prog 44 #[.agg #[.int .i64 k, .string v]] w fun e w' => e = .returned (.int .i64 (size1 k v)) ∧ Below w.heap.size w w' := by
  have hb := (Below.refl w.heap.size w).alloc (Nat.le_refl _) (.cells #[.int .i64 k, .string v] 26)
  go_enter Try.func44, Try.ntmps44
  by_cases h : k ≤ 31
  · have hr : size1 k v = 1 := if_pos h
    go_wp2_with fail
    go_ret
    exact ⟨by rw [hr]; rfl, hb⟩
  · have hr : ((size1 k v : Nat) : Int) = 2 + (v.size : Int) := by unfold size1; rw [if_neg h]; omega
    go_wp2_with fail
    go_ret
    exact ⟨rfl, hb⟩

set_option maxHeartbeats 400000 in
theorem Size_any (l : List O) (hl : Fit l) (a : Option Addr) (cap : Nat) (w : World) (h : OptsAt w a l) :
    Calls Try.prog 41 #[.slice a l.length cap] w fun e w' => e = .returned (.int .i64 (sizes l)) ∧ Below w.heap.size w w' := by
  have hs := hl.sizes
  have hlen := hl.1
  have Hf := Lib.hid hl
  have H := Lib.hid h
  clear h hl
  go_enter Try.func41, Try.ntmps41
  go_wp2_with fail
  go_loopw [3, 8] (fun m i wr => ∃ k n : Nat, k ≤ l.length ∧ i = .int .i64 k ∧ m = .int .i64 n ∧ n + sizes (l.drop k) = sizes l ∧ Below w.heap.size w wr) (fun _ i _ => l.length - (intOf i).toNat)
  case atStart => exact ⟨0, 0, by omega, rfl, rfl, by simp, Below.refl _ _⟩
  case round =>
    obtain ⟨k, n, hk, rfl, rfl, hsum, hb⟩ := hrel
    by_cases hlt : k < l.length
    · obtain ⟨⟨q, v⟩, hi⟩ := some_at hlt
      obtain ⟨b, off, rfl, hb0, hc0, hc1⟩ := H.out.cell hb hi
      have hv := Hf.out.get hi
      have e : sizes (l.drop k) = size1 q v + sizes (l.drop (k + 1)) := by rw [drop_at hi]; rfl
      rw [e] at hsum
      dsimp only at hc0 hc1 hv
      go_wp2_with fail
      refine (sizeOf_any q v hv _).mono ?_
      rintro e1 w1 ⟨rfl, h1⟩
      have h0 := hb.trans ((((Below.refl _ wr).alloc (Nat.le_refl _) _).trans (h1.mono (by simp))).mono hb.size)
      have hs1 := size1_le q v hv
      go_wp2_with fail
      refine ⟨⟨k + 1, n + size1 q v, by omega, by go_num, by go_num, by omega, h0⟩, by simp [intOf]; omega⟩
    · obtain rfl : k = l.length := by omega
      rw [List.drop_length] at hsum
      simp only [sizes, Nat.add_zero] at hsum
      subst hsum
      go_wp2_with fail
      go_ret
      exact ⟨rfl, hb⟩
end Go.Proofs.Ytmkngolkflihlaa.Opt
