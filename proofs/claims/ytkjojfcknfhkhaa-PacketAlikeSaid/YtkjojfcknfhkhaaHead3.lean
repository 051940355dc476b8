/- The program's Check: its contract. -/
import Derived.Test.YtkjojfcknfhkhaaHead2
import Derived.Deep.RegionHeld3
namespace Go.Proofs.Ytkjojfcknfhkhaa.Head
open Go.ChangeShapes Go.WideShapes Go.ChangeAt Go.RowKit
set_option linter.unusedVariables false

set_option maxRecDepth 100000 in
set_option maxHeartbeats 4000000 in
theorem Check_any (h : B) (w : World) : Calls Try.prog 26 #[.agg #[.int .i64 h.src, .int .i64 h.dst, .int .i64 h.words, .int .i64 h.cc, .int .i64 h.cover, .int .i64 h.sum, .int .i64 h.kind, .bool h.long, .int .i64 h.seq]] w
    fun e w' => e = .returned (.int .i64 (check h)) ∧ Below w.heap.size w w' := by
  have hIn := fun w => inRange_any h w
  have hR := inRange_iff h
  have hc := Lib.hid (show check h = if knownK h.kind = false then 7 else if may h.kind h.long = false then 4 else if inRange h = false then 3 else if 4 * h.words < sizeOf h.kind h.long then 1 else 0 from rfl)
  have hW : inRange h = true → 0 ≤ h.words ∧ h.words ≤ 255 := fun e => (hR.1 e).words
  clear hR
  generalize check h = C at *
  generalize inRange h = ir at *
  obtain ⟨a, b, c, d, f, g, k, l, q⟩ := h
  dsimp only at *
  have hm := Lib.hid (show may k l = (knownK k && (l || shortK k)) from rfl)
  have hb := Lib.hid ((Below.refl w.heap.size w).alloc (Nat.le_refl _) (.cells #[.int .i64 a, .int .i64 b, .int .i64 c, .int .i64 d, .int .i64 f, .int .i64 g, .int .i64 k, .bool l, .int .i64 q] 43))
  have hS := sizeOf_mid k l
  cases hk : knownK k
  · have HC := Lib.hid (hc.out.trans (if_pos hk))
    go_enter Try.func26, Try.ntmps26
    go_wp2_with fail
    refine (known_any k _).mono ?_
    rintro e w1 ⟨rfl, rfl⟩
    go_wp2_with fail
    go_ret
    exact ⟨by rw [HC.out]; rfl, hb.out⟩
  replace hc := Lib.hid (hc.out.trans (if_neg (by simp [hk])))
  cases hml : may k l
  · have HC := Lib.hid (hc.out.trans (if_pos hml))
    have H1 := hm.out
    rw [hk, hml] at H1
    simp at H1
    obtain ⟨rfl, hsh⟩ := H1
    go_enter Try.func26, Try.ntmps26
    go_wp2_with (first
      | (go_at_call 59; refine (known_any k _).mono ?_; rintro e w1 ⟨rfl, rfl⟩)
      | (go_at_call 60; refine (short_any k _).mono ?_; rintro e w1 ⟨rfl, rfl⟩))
    go_ret
    exact ⟨by rw [HC.out]; rfl, hb.out⟩
  replace hc := Lib.hid (hc.out.trans (if_neg (by simp [hml])))
  have H1 := hm.out
  rw [hk, hml] at H1
  have hsh : l = false → shortK k = true := by rintro rfl; simpa using H1.symm
  clear H1
  have K := Lib.hid hb.out.size
  cases ir
  · have HC := Lib.hid (hc.out.trans (if_pos rfl))
    cases l
    all_goals (
      try (have hs := hsh rfl)
      clear hsh
      go_enter Try.func26, Try.ntmps26
      go_wp2_with (first
        | (go_at_call 59; refine (known_any k _).mono ?_; rintro e w1 ⟨rfl, rfl⟩)
        | (go_at_call 60; refine (short_any k _).mono ?_; rintro e w1 ⟨rfl, rfl⟩)
        | (go_at_call 61; refine (hIn _).mono ?_; rintro e w2 ⟨rfl, h2⟩))
      go_ret
      exact ⟨by rw [HC.out]; rfl, hb.out.trans (h2.mono K.out)⟩)
  replace hc := Lib.hid (hc.out.trans (if_neg (by simp)))
  have hw := hW rfl
  clear hW
  have C1 := fun w => Size_any k l w
  generalize sizeOf k l = S at *
  have hcell := fun (j : Nat) => World.cell?_alloc_mark w #[.int .i64 a, .int .i64 b, .int .i64 c, .int .i64 d, .int .i64 f, .int .i64 g, .int .i64 k, .bool l, .int .i64 q] 43 (0, 0) j
  by_cases hlt : 4 * c < S
  · have HC := Lib.hid (hc.out.trans (if_pos hlt))
    have hwr : IntKind.i64.wrap (4 * c) < S := by rw [IntKind.wrap_i64]; omega
    clear hc
    cases l
    case false =>
      have hs := hsh rfl
      clear hsh
      go_enter Try.func26, Try.ntmps26
      go_wp2_with (first
        | (go_at_call 59; refine (known_any k _).mono ?_; rintro e w1 ⟨rfl, rfl⟩)
        | (go_at_call 60; refine (short_any k _).mono ?_; rintro e w1 ⟨rfl, rfl⟩)
        | (go_at_call 61; refine (hIn _).mono ?_; rintro e w2 ⟨rfl, h2⟩))
      have c2 : w2.cell? ⟨w.heap.size, 2, none⟩ = some (.int .i64 c) := (h2.cell (p := ⟨w.heap.size, 2, none⟩) (by simp)).trans (hcell 2)
      have c6 : w2.cell? ⟨w.heap.size, 6, none⟩ = some (.int .i64 k) := (h2.cell (p := ⟨w.heap.size, 6, none⟩) (by simp)).trans (hcell 6)
      have c7 : w2.cell? ⟨w.heap.size, 7, none⟩ = some (.bool _) := (h2.cell (p := ⟨w.heap.size, 7, none⟩) (by simp)).trans (hcell 7)
      have hz : w.heap.size < w2.heap.size := by have := h2.size; simp at this; omega
      have hb2 := Lib.hid (hb.out.trans (h2.mono K.out))
      clear h2 hcell
      obtain ⟨A, hA⟩ : ∃ A, w.heap.size = A := ⟨_, rfl⟩
      rw [hA] at c2 c6 c7 hz ⊢
      go_region_held3 (fun w' => w'.cell? ⟨A, 2, none⟩ = some (.int .i64 c) ∧ w'.cell? ⟨A, 6, none⟩ = some (.int .i64 k) ∧ w'.cell? ⟨A, 7, none⟩ = some (.bool false)) (first | go_keep | exact v3) (first
        | (go_at_call 50; refine (C1 _).mono ?_; rintro e1 w3 ⟨rfl, h3⟩; have v3 := And.intro ((h3.cell (p := ⟨A, 2, none⟩) hz).trans c2) (And.intro ((h3.cell (p := ⟨A, 6, none⟩) hz).trans c6) ((h3.cell (p := ⟨A, 7, none⟩) hz).trans c7))))
      all_goals (
        go_wp2_with fail
        go_ret
        rw [← hA]
        exact ⟨by rw [HC.out]; rfl, hb2.out.drew.trans (h3.mono (by rw [hA]; exact Nat.le_of_lt hz))⟩)
    case true =>
      skip
      clear hsh
      go_enter Try.func26, Try.ntmps26
      go_wp2_with (first
        | (go_at_call 59; refine (known_any k _).mono ?_; rintro e w1 ⟨rfl, rfl⟩)
        | (go_at_call 60; refine (short_any k _).mono ?_; rintro e w1 ⟨rfl, rfl⟩)
        | (go_at_call 61; refine (hIn _).mono ?_; rintro e w2 ⟨rfl, h2⟩))
      have c2 : w2.cell? ⟨w.heap.size, 2, none⟩ = some (.int .i64 c) := (h2.cell (p := ⟨w.heap.size, 2, none⟩) (by simp)).trans (hcell 2)
      have c6 : w2.cell? ⟨w.heap.size, 6, none⟩ = some (.int .i64 k) := (h2.cell (p := ⟨w.heap.size, 6, none⟩) (by simp)).trans (hcell 6)
      have c7 : w2.cell? ⟨w.heap.size, 7, none⟩ = some (.bool _) := (h2.cell (p := ⟨w.heap.size, 7, none⟩) (by simp)).trans (hcell 7)
      have hz : w.heap.size < w2.heap.size := by have := h2.size; simp at this; omega
      have hb2 := Lib.hid (hb.out.trans (h2.mono K.out))
      clear h2 hcell
      obtain ⟨A, hA⟩ : ∃ A, w.heap.size = A := ⟨_, rfl⟩
      rw [hA] at c2 c6 c7 hz ⊢
      go_region_held3 (fun w' => w'.cell? ⟨A, 2, none⟩ = some (.int .i64 c) ∧ w'.cell? ⟨A, 6, none⟩ = some (.int .i64 k) ∧ w'.cell? ⟨A, 7, none⟩ = some (.bool true)) (first | go_keep | exact v3) (first
        | (go_at_call 50; refine (C1 _).mono ?_; rintro e1 w3 ⟨rfl, h3⟩; have v3 := And.intro ((h3.cell (p := ⟨A, 2, none⟩) hz).trans c2) (And.intro ((h3.cell (p := ⟨A, 6, none⟩) hz).trans c6) ((h3.cell (p := ⟨A, 7, none⟩) hz).trans c7))))
      all_goals (
        go_wp2_with fail
        go_ret
        rw [← hA]
        exact ⟨by rw [HC.out]; rfl, hb2.out.drew.trans (h3.mono (by rw [hA]; exact Nat.le_of_lt hz))⟩)
  · have HC := Lib.hid (hc.out.trans (if_neg hlt))
    have hwr : ¬ IntKind.i64.wrap (4 * c) < S := by rw [IntKind.wrap_i64]; omega
    clear hc
    cases l
    case false =>
      have hs := hsh rfl
      clear hsh
      go_enter Try.func26, Try.ntmps26
      go_wp2_with (first
        | (go_at_call 59; refine (known_any k _).mono ?_; rintro e w1 ⟨rfl, rfl⟩)
        | (go_at_call 60; refine (short_any k _).mono ?_; rintro e w1 ⟨rfl, rfl⟩)
        | (go_at_call 61; refine (hIn _).mono ?_; rintro e w2 ⟨rfl, h2⟩))
      have c2 : w2.cell? ⟨w.heap.size, 2, none⟩ = some (.int .i64 c) := (h2.cell (p := ⟨w.heap.size, 2, none⟩) (by simp)).trans (hcell 2)
      have c6 : w2.cell? ⟨w.heap.size, 6, none⟩ = some (.int .i64 k) := (h2.cell (p := ⟨w.heap.size, 6, none⟩) (by simp)).trans (hcell 6)
      have c7 : w2.cell? ⟨w.heap.size, 7, none⟩ = some (.bool _) := (h2.cell (p := ⟨w.heap.size, 7, none⟩) (by simp)).trans (hcell 7)
      have hz : w.heap.size < w2.heap.size := by have := h2.size; simp at this; omega
      have hb2 := Lib.hid (hb.out.trans (h2.mono K.out))
      clear h2 hcell
      obtain ⟨A, hA⟩ : ∃ A, w.heap.size = A := ⟨_, rfl⟩
      rw [hA] at c2 c6 c7 hz ⊢
      go_region_held3 (fun w' => w'.cell? ⟨A, 2, none⟩ = some (.int .i64 c) ∧ w'.cell? ⟨A, 6, none⟩ = some (.int .i64 k) ∧ w'.cell? ⟨A, 7, none⟩ = some (.bool false)) (first | go_keep | exact v3) (first
        | (go_at_call 50; refine (C1 _).mono ?_; rintro e1 w3 ⟨rfl, h3⟩; have v3 := And.intro ((h3.cell (p := ⟨A, 2, none⟩) hz).trans c2) (And.intro ((h3.cell (p := ⟨A, 6, none⟩) hz).trans c6) ((h3.cell (p := ⟨A, 7, none⟩) hz).trans c7))))
      all_goals (
        go_wp2_with fail
        go_ret
        rw [← hA]
        exact ⟨by rw [HC.out]; rfl, hb2.out.drew.trans (h3.mono (by rw [hA]; exact Nat.le_of_lt hz))⟩)
    case true =>
      skip
      clear hsh
      go_enter Try.func26, Try.ntmps26
      go_wp2_with (first
        | (go_at_call 59; refine (known_any k _).mono ?_; rintro e w1 ⟨rfl, rfl⟩)
        | (go_at_call 60; refine (short_any k _).mono ?_; rintro e w1 ⟨rfl, rfl⟩)
        | (go_at_call 61; refine (hIn _).mono ?_; rintro e w2 ⟨rfl, h2⟩))
      have c2 : w2.cell? ⟨w.heap.size, 2, none⟩ = some (.int .i64 c) := (h2.cell (p := ⟨w.heap.size, 2, none⟩) (by simp)).trans (hcell 2)
      have c6 : w2.cell? ⟨w.heap.size, 6, none⟩ = some (.int .i64 k) := (h2.cell (p := ⟨w.heap.size, 6, none⟩) (by simp)).trans (hcell 6)
      have c7 : w2.cell? ⟨w.heap.size, 7, none⟩ = some (.bool _) := (h2.cell (p := ⟨w.heap.size, 7, none⟩) (by simp)).trans (hcell 7)
      have hz : w.heap.size < w2.heap.size := by have := h2.size; simp at this; omega
      have hb2 := Lib.hid (hb.out.trans (h2.mono K.out))
      clear h2 hcell
      obtain ⟨A, hA⟩ : ∃ A, w.heap.size = A := ⟨_, rfl⟩
      rw [hA] at c2 c6 c7 hz ⊢
      go_region_held3 (fun w' => w'.cell? ⟨A, 2, none⟩ = some (.int .i64 c) ∧ w'.cell? ⟨A, 6, none⟩ = some (.int .i64 k) ∧ w'.cell? ⟨A, 7, none⟩ = some (.bool true)) (first | go_keep | exact v3) (first
        | (go_at_call 50; refine (C1 _).mono ?_; rintro e1 w3 ⟨rfl, h3⟩; have v3 := And.intro ((h3.cell (p := ⟨A, 2, none⟩) hz).trans c2) (And.intro ((h3.cell (p := ⟨A, 6, none⟩) hz).trans c6) ((h3.cell (p := ⟨A, 7, none⟩) hz).trans c7))))
      all_goals (
        go_wp2_with fail
        go_ret
        rw [← hA]
        exact ⟨by rw [HC.out]; rfl, hb2.out.drew.trans (h3.mono (by rw [hA]; exact Nat.le_of_lt hz))⟩)
end Go.Proofs.Ytkjojfcknfhkhaa.Head
