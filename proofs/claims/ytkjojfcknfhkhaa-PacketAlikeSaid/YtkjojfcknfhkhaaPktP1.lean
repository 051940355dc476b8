/- Small questions of the program's packet: their contracts. -/
import Derived.Test.YtkjojfcknfhkhaaPkt0
import Derived.Test.YtkjojfcknfhkhaaHead1
import Derived.Test.YtkjojfcknfhkhaaHead2
import Derived.Deep.QuietTactic
import Derived.Deep.RegionHeld3
import Derived.BigQuiet
import Derived.Test.YtkjojfcknfhkhaaStep
namespace Go.Proofs.Ytkjojfcknfhkhaa.Pkt
open Go.ChangeShapes Go.WideShapes Go.ChangeAt Go.RowKit
open Go.Proofs.Ytkjojfcknfhkhaa.Head (Acks_any Bears_any acks bears fits seqMost below_drewN)
set_option linter.unusedVariables false

theorem at_drewn {w w' : World} (h : Below w.drew.heap.size w.drew w') : Below w.heap.size w w' := ⟨h.os, h.tape, h.output, h.size, h.block⟩

theorem pfits_any (n m : Int) (w : World) : Calls Try.prog 62 #[.int .i64 n, .int .i64 m] w fun e w' => e = .returned (.bool (fits n m)) ∧ w' = w := by
  by_cases h0 : 0 ≤ n
  · by_cases h9 : n ≤ m
    all_goals (
      have hr : fits n m = decide (n ≤ m) := by simp [fits, h0]
      rw [hr]
      go_enter Try.func62, Try.ntmps62
      go_wp2
      go_ret
      exact ⟨by simp [h9], rfl⟩)
  · have hr : fits n m = false := by simp [fits, h0]
    rw [hr]
    go_enter Try.func62, Try.ntmps62
    go_wp2
    go_ret
    exact ⟨rfl, rfl⟩

theorem ackMost_any (l : Bool) (w : World) : Calls Try.prog 63 #[.bool l] w fun e w' => e = .returned (.int .i64 (seqMost l)) ∧ w' = w := by
  cases l
  all_goals (
    go_enter Try.func63, Try.ntmps63
    go_wp2
    go_ret
    exact ⟨rfl, rfl⟩)

def keptOf (l : Bool) : Int := if l then 2 else 1
def ackedOf (l : Bool) : Int := if l then 6 else 3
theorem ackSizes_any (l : Bool) (w : World) : Calls Try.prog 47 #[.bool l] w fun e w' => e = .returned (.tuple #[.int .i64 (keptOf l), .int .i64 (ackedOf l)]) ∧ w' = w := by
  cases l
  all_goals (
    go_enter Try.func47, Try.ntmps47
    go_wp2
    go_returns
    exact ⟨rfl, rfl⟩)

theorem serves_any (k : Int) (hk : 0 ≤ k) (w : World) : Calls Try.prog 49 #[.int .i64 k] w fun e w' => e = .returned (.bool (decide (k < 2))) ∧ w' = w := by
  by_cases h0 : k = 0
  · subst h0
    go_enter Try.func49, Try.ntmps49
    go_wp2
    go_ret
    exact ⟨rfl, rfl⟩
  by_cases h1 : k = 1
  · subst h1
    go_enter Try.func49, Try.ntmps49
    go_wp2
    go_ret
    exact ⟨rfl, rfl⟩
  have hr : decide (k < 2) = false := by simp; omega
  rw [hr]
  go_enter Try.func49, Try.ntmps49
  go_wp2
  go_ret
  exact ⟨by simp [h0, h1], rfl⟩

set_option maxRecDepth 100000 in
set_option maxHeartbeats 40000000 in
theorem inRange_any (p : K) (hk : 0 ≤ p.kind) (a : Option Addr) (cap : Nat) (w : World) :
    Calls Try.prog 27 #[.agg #[.int .i64 p.kind, .bool p.long, .int .i64 p.src, .int .i64 p.dst, .int .i64 p.cc, .int .i64 p.cover, .int .i64 p.seq, .int .i64 p.ack, .int .i64 p.service, .int .i64 p.code, .int .i64 p.detail, .slice a p.opts.length cap, .string p.data]] w fun e w' => e = .returned (.bool (ranged p)) ∧ Below w.heap.size w w' := by
  have CA := Lib.hid (fun w => Acks_any p.kind w)
  have CS := Lib.hid (fun w => serves_any p.kind hk w)
  have hS := Lib.hid (show ranged p = ((!acks p.kind || fits p.ack (seqMost p.long)) && ((!decide (p.kind < 2) || fits p.service 4294967295) && (!decide (p.kind = 7) || (fits p.code 255 && fits p.detail 16777215)))) from rfl)
  have CF := Lib.hid (fun w => pfits_any p.ack (seqMost p.long) w)
  have CF1 := Lib.hid (fun w => pfits_any p.service 4294967295 w)
  have CF2 := Lib.hid (fun w => pfits_any p.code 255 w)
  have CF3 := Lib.hid (fun w => pfits_any p.detail 16777215 w)
  have CM := Lib.hid (fun w => ackMost_any p.long w)
  obtain ⟨k, l, s, d, cc, cv, q, ak, sv, co, de, os, da⟩ := p
  dsimp only at *
  generalize ranged ⟨k, l, s, d, cc, cv, q, ak, sv, co, de, os, da⟩ = R at *
  generalize acks k = pa at *
  generalize fits ak (seqMost l) = f0 at *
  generalize seqMost l = m at *
  generalize fits sv 4294967295 = f1 at *
  generalize fits co 255 = f2 at *
  generalize fits de 16777215 = f3 at *
  generalize os.length = len at *
  have hb1 := (Below.refl w.heap.size w).alloc (Nat.le_refl _) (.cells #[.int .i64 k, .bool l, .int .i64 s, .int .i64 d, .int .i64 cc, .int .i64 cv, .int .i64 q, .int .i64 ak, .int .i64 sv, .int .i64 co, .int .i64 de, .slice a len cap, .string da] 24)
  have c0 : ∀ W, Below (w.alloc (.cells #[.int .i64 k, .bool l, .int .i64 s, .int .i64 d, .int .i64 cc, .int .i64 cv, .int .i64 q, .int .i64 ak, .int .i64 sv, .int .i64 co, .int .i64 de, .slice a len cap, .string da] 24)).heap.size (w.alloc (.cells #[.int .i64 k, .bool l, .int .i64 s, .int .i64 d, .int .i64 cc, .int .i64 cv, .int .i64 q, .int .i64 ak, .int .i64 sv, .int .i64 co, .int .i64 de, .slice a len cap, .string da] 24)) W → (W.cell? ⟨w.heap.size, 0, none⟩ = some (.int .i64 k) ∧ W.cell? ⟨w.heap.size, 1, none⟩ = some (.bool l) ∧ W.cell? ⟨w.heap.size, 7, none⟩ = some (.int .i64 ak)) ∧ W.cell? ⟨w.heap.size, 8, none⟩ = some (.int .i64 sv) ∧ W.cell? ⟨w.heap.size, 9, none⟩ = some (.int .i64 co) ∧ W.cell? ⟨w.heap.size, 10, none⟩ = some (.int .i64 de) := by
    intro W hW
    have hn := (hW.block w.heap.size (by simp)).trans (heap_alloc_new w _)
    refine ⟨⟨?_, ?_, ?_⟩, ?_, ?_, ?_⟩ <;> exact cell_of_row _ _ _ _ _ _ hn
  obtain ⟨b2, e2⟩ : ∃ b, decide (k < 2) = b := ⟨_, rfl⟩
  obtain ⟨b7, e7⟩ : ∃ b, decide (k = 7) = b := ⟨_, rfl⟩
  have e7n : (k != 7) = !b7 := by rw [← e7]; rfl
  rw [e2] at CS
  rw [e2, e7] at hS
  have C0 := Lib.hid c0
  have HB := Lib.hid hb1
  clear c0 hb1 e2
  cases pa
  · go_enter Try.func27, Try.ntmps27
    go_wp2_with fail
    refine Step.start (S := (fun w' => w'.cell? ⟨w.heap.size, 0, none⟩ = some (.int .i64 k) ∧ w'.cell? ⟨w.heap.size, 1, none⟩ = some (.bool l) ∧ w'.cell? ⟨w.heap.size, 7, none⟩ = some (.int .i64 ak))) (by kernel_rfl) (by (try dsimp only); first | go_keep | exact v1) (fun hHeld => ?_)
    refine Step.take (i := 0) rfl (by kernel_rfl) (by kernel_rfl) (by kernel_rfl) (fun _ _ _ h => h) (by rfl) (by (intro w hSw; (try dsimp only at hSw); go_simp; try (with_reducible rfl))) (by assumption) ?_
    try simp only [Act.put, List.setIfInBounds_toArray, List.set_cons_zero, List.set_cons_succ]
    refine Step.take (i := 1) rfl (by kernel_rfl) (by kernel_rfl) (by kernel_rfl) (fun _ _ _ h => h) (by rfl) (by (intro w hSw; (try dsimp only at hSw); go_simp; try (with_reducible rfl))) (by assumption) ?_
    try simp only [Act.put, List.setIfInBounds_toArray, List.set_cons_zero, List.set_cons_succ]
    refine Step.call (i := 2) rfl (by kernel_rfl) (by rfl) (fun K hK => ?_)
    go_simp
    (go_at_call 46; refine (CA.out _).mono ?_; rintro e w1 ⟨rfl, h1⟩; have v1 := (C0.out _ (at_drewn h1)).1)
    try (go_wp2_with fail)
    refine hK.out _ _ (by (try dsimp only); first | go_keep | exact v1) (fun hHeld => ?_)
    clear hK K
    try simp only [Act.put, List.setIfInBounds_toArray, List.set_cons_zero, List.set_cons_succ]
    refine Step.take (i := 3) rfl (by kernel_rfl) (by kernel_rfl) (by kernel_rfl) (fun _ _ _ h => h) (by rfl) (by (intro w hSw; (try dsimp only at hSw); go_simp; try (with_reducible rfl))) (by assumption) ?_
    try simp only [Act.put, List.setIfInBounds_toArray, List.set_cons_zero, List.set_cons_succ]
    refine Step.skip (i := 4) rfl (by kernel_rfl) (by kernel_rfl) (by kernel_rfl) (fun _ _ _ h => h) (by rfl) (by assumption) ?_
    try simp only [Act.put, List.setIfInBounds_toArray, List.set_cons_zero, List.set_cons_succ]
    refine Step.skip (i := 5) rfl (by kernel_rfl) (by kernel_rfl) (by kernel_rfl) (fun _ _ _ h => h) (by rfl) (by assumption) ?_
    try simp only [Act.put, List.setIfInBounds_toArray, List.set_cons_zero, List.set_cons_succ]
    refine Step.skip (i := 6) rfl (by kernel_rfl) (by kernel_rfl) (by kernel_rfl) (fun _ _ _ h => h) (by rfl) (by assumption) ?_
    try simp only [Act.put, List.setIfInBounds_toArray, List.set_cons_zero, List.set_cons_succ]
    refine Step.skip (i := 7) rfl (by kernel_rfl) (by kernel_rfl) (by kernel_rfl) (fun _ _ _ h => h) (by rfl) (by assumption) ?_
    try simp only [Act.put, List.setIfInBounds_toArray, List.set_cons_zero, List.set_cons_succ]
    refine Step.skip (i := 8) rfl (by kernel_rfl) (by kernel_rfl) (by kernel_rfl) (fun _ _ _ h => h) (by rfl) (by assumption) ?_
    try simp only [Act.put, List.setIfInBounds_toArray, List.set_cons_zero, List.set_cons_succ]
    refine Step.skip (i := 9) rfl (by kernel_rfl) (by kernel_rfl) (by kernel_rfl) (fun _ _ _ h => h) (by rfl) (by assumption) ?_
    try simp only [Act.put, List.setIfInBounds_toArray, List.set_cons_zero, List.set_cons_succ]
    refine Step.skip (i := 10) rfl (by kernel_rfl) (by kernel_rfl) (by kernel_rfl) (fun _ _ _ h => h) (by rfl) (by assumption) ?_
    try simp only [Act.put, List.setIfInBounds_toArray, List.set_cons_zero, List.set_cons_succ]
    refine Step.take (i := 11) rfl (by kernel_rfl) (by kernel_rfl) (by kernel_rfl) (fun _ _ _ h => h) (by rfl) (by (intro w hSw; (try dsimp only at hSw); go_simp; try (with_reducible rfl))) (by assumption) ?_
    try simp only [Act.put, List.setIfInBounds_toArray, List.set_cons_zero, List.set_cons_succ]
    refine wpAnyH_done (by kernel_rfl) ?_ _
    have hbw := Lib.hid (HB.out.trans ((at_drewn h1).mono HB.out.size))
    obtain ⟨⟨x0, -, -⟩, x8, x9, x10⟩ := C0.out _ (at_drewn h1)
    clear v1 h1 C0 HB CA CM CF
    cases b2
    · cases b7
      · go_wp2_with (first | (go_at_call 49; refine (CS.out _).mono ?_; rintro e w9 ⟨rfl, rfl⟩) | (go_at_call_of 62 sv; refine (CF1.out _).mono ?_; rintro e w9 ⟨rfl, rfl⟩) | (go_at_call_of 62 co; refine (CF2.out _).mono ?_; rintro e w9 ⟨rfl, rfl⟩) | (go_at_call_of 62 de; refine (CF3.out _).mono ?_; rintro e w9 ⟨rfl, rfl⟩))
        go_ret
        exact ⟨by rw [hS.out]; rfl, hbw.out⟩
      · cases f2
        · go_wp2_with (first | (go_at_call 49; refine (CS.out _).mono ?_; rintro e w9 ⟨rfl, rfl⟩) | (go_at_call_of 62 sv; refine (CF1.out _).mono ?_; rintro e w9 ⟨rfl, rfl⟩) | (go_at_call_of 62 co; refine (CF2.out _).mono ?_; rintro e w9 ⟨rfl, rfl⟩) | (go_at_call_of 62 de; refine (CF3.out _).mono ?_; rintro e w9 ⟨rfl, rfl⟩))
          go_ret
          exact ⟨by rw [hS.out]; rfl, hbw.out⟩
        · cases f3
          · go_wp2_with (first | (go_at_call 49; refine (CS.out _).mono ?_; rintro e w9 ⟨rfl, rfl⟩) | (go_at_call_of 62 sv; refine (CF1.out _).mono ?_; rintro e w9 ⟨rfl, rfl⟩) | (go_at_call_of 62 co; refine (CF2.out _).mono ?_; rintro e w9 ⟨rfl, rfl⟩) | (go_at_call_of 62 de; refine (CF3.out _).mono ?_; rintro e w9 ⟨rfl, rfl⟩))
            go_ret
            exact ⟨by rw [hS.out]; rfl, hbw.out⟩
          · go_wp2_with (first | (go_at_call 49; refine (CS.out _).mono ?_; rintro e w9 ⟨rfl, rfl⟩) | (go_at_call_of 62 sv; refine (CF1.out _).mono ?_; rintro e w9 ⟨rfl, rfl⟩) | (go_at_call_of 62 co; refine (CF2.out _).mono ?_; rintro e w9 ⟨rfl, rfl⟩) | (go_at_call_of 62 de; refine (CF3.out _).mono ?_; rintro e w9 ⟨rfl, rfl⟩))
            go_ret
            exact ⟨by rw [hS.out]; rfl, hbw.out⟩
    · cases f1
      · go_wp2_with (first | (go_at_call 49; refine (CS.out _).mono ?_; rintro e w9 ⟨rfl, rfl⟩) | (go_at_call_of 62 sv; refine (CF1.out _).mono ?_; rintro e w9 ⟨rfl, rfl⟩) | (go_at_call_of 62 co; refine (CF2.out _).mono ?_; rintro e w9 ⟨rfl, rfl⟩) | (go_at_call_of 62 de; refine (CF3.out _).mono ?_; rintro e w9 ⟨rfl, rfl⟩))
        go_ret
        exact ⟨by rw [hS.out]; rfl, hbw.out⟩
      · cases b7
        · go_wp2_with (first | (go_at_call 49; refine (CS.out _).mono ?_; rintro e w9 ⟨rfl, rfl⟩) | (go_at_call_of 62 sv; refine (CF1.out _).mono ?_; rintro e w9 ⟨rfl, rfl⟩) | (go_at_call_of 62 co; refine (CF2.out _).mono ?_; rintro e w9 ⟨rfl, rfl⟩) | (go_at_call_of 62 de; refine (CF3.out _).mono ?_; rintro e w9 ⟨rfl, rfl⟩))
          go_ret
          exact ⟨by rw [hS.out]; rfl, hbw.out⟩
        · cases f2
          · go_wp2_with (first | (go_at_call 49; refine (CS.out _).mono ?_; rintro e w9 ⟨rfl, rfl⟩) | (go_at_call_of 62 sv; refine (CF1.out _).mono ?_; rintro e w9 ⟨rfl, rfl⟩) | (go_at_call_of 62 co; refine (CF2.out _).mono ?_; rintro e w9 ⟨rfl, rfl⟩) | (go_at_call_of 62 de; refine (CF3.out _).mono ?_; rintro e w9 ⟨rfl, rfl⟩))
            go_ret
            exact ⟨by rw [hS.out]; rfl, hbw.out⟩
          · cases f3
            · go_wp2_with (first | (go_at_call 49; refine (CS.out _).mono ?_; rintro e w9 ⟨rfl, rfl⟩) | (go_at_call_of 62 sv; refine (CF1.out _).mono ?_; rintro e w9 ⟨rfl, rfl⟩) | (go_at_call_of 62 co; refine (CF2.out _).mono ?_; rintro e w9 ⟨rfl, rfl⟩) | (go_at_call_of 62 de; refine (CF3.out _).mono ?_; rintro e w9 ⟨rfl, rfl⟩))
              go_ret
              exact ⟨by rw [hS.out]; rfl, hbw.out⟩
            · go_wp2_with (first | (go_at_call 49; refine (CS.out _).mono ?_; rintro e w9 ⟨rfl, rfl⟩) | (go_at_call_of 62 sv; refine (CF1.out _).mono ?_; rintro e w9 ⟨rfl, rfl⟩) | (go_at_call_of 62 co; refine (CF2.out _).mono ?_; rintro e w9 ⟨rfl, rfl⟩) | (go_at_call_of 62 de; refine (CF3.out _).mono ?_; rintro e w9 ⟨rfl, rfl⟩))
              go_ret
              exact ⟨by rw [hS.out]; rfl, hbw.out⟩
  · cases f0
    · go_enter Try.func27, Try.ntmps27
      go_wp2_with fail
      refine Step.start (S := (fun w' => w'.cell? ⟨w.heap.size, 0, none⟩ = some (.int .i64 k) ∧ w'.cell? ⟨w.heap.size, 1, none⟩ = some (.bool l) ∧ w'.cell? ⟨w.heap.size, 7, none⟩ = some (.int .i64 ak))) (by kernel_rfl) (by (try dsimp only); first | go_keep | exact v1) (fun hHeld => ?_)
      refine Step.take (i := 0) rfl (by kernel_rfl) (by kernel_rfl) (by kernel_rfl) (fun _ _ _ h => h) (by rfl) (by (intro w hSw; (try dsimp only at hSw); go_simp; try (with_reducible rfl))) (by assumption) ?_
      try simp only [Act.put, List.setIfInBounds_toArray, List.set_cons_zero, List.set_cons_succ]
      refine Step.take (i := 1) rfl (by kernel_rfl) (by kernel_rfl) (by kernel_rfl) (fun _ _ _ h => h) (by rfl) (by (intro w hSw; (try dsimp only at hSw); go_simp; try (with_reducible rfl))) (by assumption) ?_
      try simp only [Act.put, List.setIfInBounds_toArray, List.set_cons_zero, List.set_cons_succ]
      refine Step.call (i := 2) rfl (by kernel_rfl) (by rfl) (fun K hK => ?_)
      go_simp
      (go_at_call 46; refine (CA.out _).mono ?_; rintro e w1 ⟨rfl, h1⟩; have v1 := (C0.out _ (at_drewn h1)).1)
      try (go_wp2_with fail)
      refine hK.out _ _ (by (try dsimp only); first | go_keep | exact v1) (fun hHeld => ?_)
      clear hK K
      try simp only [Act.put, List.setIfInBounds_toArray, List.set_cons_zero, List.set_cons_succ]
      refine Step.take (i := 3) rfl (by kernel_rfl) (by kernel_rfl) (by kernel_rfl) (fun _ _ _ h => h) (by rfl) (by (intro w hSw; (try dsimp only at hSw); go_simp; try (with_reducible rfl))) (by assumption) ?_
      try simp only [Act.put, List.setIfInBounds_toArray, List.set_cons_zero, List.set_cons_succ]
      refine Step.take (i := 4) rfl (by kernel_rfl) (by kernel_rfl) (by kernel_rfl) (fun _ _ _ h => h) (by rfl) (by (intro w hSw; (try dsimp only at hSw); go_simp; try (with_reducible rfl))) (by assumption) ?_
      try simp only [Act.put, List.setIfInBounds_toArray, List.set_cons_zero, List.set_cons_succ]
      refine Step.take (i := 5) rfl (by kernel_rfl) (by kernel_rfl) (by kernel_rfl) (fun _ _ _ h => h) (by rfl) (by (intro w hSw; (try dsimp only at hSw); go_simp; try (with_reducible rfl))) (by assumption) ?_
      try simp only [Act.put, List.setIfInBounds_toArray, List.set_cons_zero, List.set_cons_succ]
      refine Step.take (i := 6) rfl (by kernel_rfl) (by kernel_rfl) (by kernel_rfl) (fun _ _ _ h => h) (by rfl) (by (intro w hSw; (try dsimp only at hSw); go_simp; try (with_reducible rfl))) (by assumption) ?_
      try simp only [Act.put, List.setIfInBounds_toArray, List.set_cons_zero, List.set_cons_succ]
      refine Step.take (i := 7) rfl (by kernel_rfl) (by kernel_rfl) (by kernel_rfl) (fun _ _ _ h => h) (by rfl) (by (intro w hSw; (try dsimp only at hSw); go_simp; try (with_reducible rfl))) (by assumption) ?_
      try simp only [Act.put, List.setIfInBounds_toArray, List.set_cons_zero, List.set_cons_succ]
      refine Step.call (i := 8) rfl (by kernel_rfl) (by rfl) (fun K hK => ?_)
      go_simp
      (go_at_call 63; refine (CM.out _).mono ?_; rintro e w9 ⟨rfl, rfl⟩)
      try (go_wp2_with fail)
      refine hK.out _ _ (by (try dsimp only); first | go_keep | exact v1) (fun hHeld => ?_)
      clear hK K
      try simp only [Act.put, List.setIfInBounds_toArray, List.set_cons_zero, List.set_cons_succ]
      refine Step.call (i := 9) rfl (by kernel_rfl) (by rfl) (fun K hK => ?_)
      go_simp
      (go_at_call 62; refine (CF.out _).mono ?_; rintro e w9 ⟨rfl, rfl⟩)
      try (go_wp2_with fail)
      refine hK.out _ _ (by (try dsimp only); first | go_keep | exact v1) (fun hHeld => ?_)
      clear hK K
      try simp only [Act.put, List.setIfInBounds_toArray, List.set_cons_zero, List.set_cons_succ]
      refine Step.take (i := 10) rfl (by kernel_rfl) (by kernel_rfl) (by kernel_rfl) (fun _ _ _ h => h) (by rfl) (by (intro w hSw; (try dsimp only at hSw); go_simp; try (with_reducible rfl))) (by assumption) ?_
      try simp only [Act.put, List.setIfInBounds_toArray, List.set_cons_zero, List.set_cons_succ]
      refine Step.take (i := 11) rfl (by kernel_rfl) (by kernel_rfl) (by kernel_rfl) (fun _ _ _ h => h) (by rfl) (by (intro w hSw; (try dsimp only at hSw); go_simp; try (with_reducible rfl))) (by assumption) ?_
      try simp only [Act.put, List.setIfInBounds_toArray, List.set_cons_zero, List.set_cons_succ]
      refine wpAnyH_done (by kernel_rfl) ?_ _
      have hbw := Lib.hid (HB.out.trans ((at_drewn h1).mono HB.out.size))
      obtain ⟨⟨x0, -, -⟩, x8, x9, x10⟩ := C0.out _ (at_drewn h1)
      clear v1 h1 C0 HB CA CM CF
      go_wp2_with fail
      go_ret
      exact ⟨by rw [hS.out]; rfl, hbw.out⟩
    · go_enter Try.func27, Try.ntmps27
      go_wp2_with fail
      refine Step.start (S := (fun w' => w'.cell? ⟨w.heap.size, 0, none⟩ = some (.int .i64 k) ∧ w'.cell? ⟨w.heap.size, 1, none⟩ = some (.bool l) ∧ w'.cell? ⟨w.heap.size, 7, none⟩ = some (.int .i64 ak))) (by kernel_rfl) (by (try dsimp only); first | go_keep | exact v1) (fun hHeld => ?_)
      refine Step.take (i := 0) rfl (by kernel_rfl) (by kernel_rfl) (by kernel_rfl) (fun _ _ _ h => h) (by rfl) (by (intro w hSw; (try dsimp only at hSw); go_simp; try (with_reducible rfl))) (by assumption) ?_
      try simp only [Act.put, List.setIfInBounds_toArray, List.set_cons_zero, List.set_cons_succ]
      refine Step.take (i := 1) rfl (by kernel_rfl) (by kernel_rfl) (by kernel_rfl) (fun _ _ _ h => h) (by rfl) (by (intro w hSw; (try dsimp only at hSw); go_simp; try (with_reducible rfl))) (by assumption) ?_
      try simp only [Act.put, List.setIfInBounds_toArray, List.set_cons_zero, List.set_cons_succ]
      refine Step.call (i := 2) rfl (by kernel_rfl) (by rfl) (fun K hK => ?_)
      go_simp
      (go_at_call 46; refine (CA.out _).mono ?_; rintro e w1 ⟨rfl, h1⟩; have v1 := (C0.out _ (at_drewn h1)).1)
      try (go_wp2_with fail)
      refine hK.out _ _ (by (try dsimp only); first | go_keep | exact v1) (fun hHeld => ?_)
      clear hK K
      try simp only [Act.put, List.setIfInBounds_toArray, List.set_cons_zero, List.set_cons_succ]
      refine Step.take (i := 3) rfl (by kernel_rfl) (by kernel_rfl) (by kernel_rfl) (fun _ _ _ h => h) (by rfl) (by (intro w hSw; (try dsimp only at hSw); go_simp; try (with_reducible rfl))) (by assumption) ?_
      try simp only [Act.put, List.setIfInBounds_toArray, List.set_cons_zero, List.set_cons_succ]
      refine Step.take (i := 4) rfl (by kernel_rfl) (by kernel_rfl) (by kernel_rfl) (fun _ _ _ h => h) (by rfl) (by (intro w hSw; (try dsimp only at hSw); go_simp; try (with_reducible rfl))) (by assumption) ?_
      try simp only [Act.put, List.setIfInBounds_toArray, List.set_cons_zero, List.set_cons_succ]
      refine Step.take (i := 5) rfl (by kernel_rfl) (by kernel_rfl) (by kernel_rfl) (fun _ _ _ h => h) (by rfl) (by (intro w hSw; (try dsimp only at hSw); go_simp; try (with_reducible rfl))) (by assumption) ?_
      try simp only [Act.put, List.setIfInBounds_toArray, List.set_cons_zero, List.set_cons_succ]
      refine Step.take (i := 6) rfl (by kernel_rfl) (by kernel_rfl) (by kernel_rfl) (fun _ _ _ h => h) (by rfl) (by (intro w hSw; (try dsimp only at hSw); go_simp; try (with_reducible rfl))) (by assumption) ?_
      try simp only [Act.put, List.setIfInBounds_toArray, List.set_cons_zero, List.set_cons_succ]
      refine Step.take (i := 7) rfl (by kernel_rfl) (by kernel_rfl) (by kernel_rfl) (fun _ _ _ h => h) (by rfl) (by (intro w hSw; (try dsimp only at hSw); go_simp; try (with_reducible rfl))) (by assumption) ?_
      try simp only [Act.put, List.setIfInBounds_toArray, List.set_cons_zero, List.set_cons_succ]
      refine Step.call (i := 8) rfl (by kernel_rfl) (by rfl) (fun K hK => ?_)
      go_simp
      (go_at_call 63; refine (CM.out _).mono ?_; rintro e w9 ⟨rfl, rfl⟩)
      try (go_wp2_with fail)
      refine hK.out _ _ (by (try dsimp only); first | go_keep | exact v1) (fun hHeld => ?_)
      clear hK K
      try simp only [Act.put, List.setIfInBounds_toArray, List.set_cons_zero, List.set_cons_succ]
      refine Step.call (i := 9) rfl (by kernel_rfl) (by rfl) (fun K hK => ?_)
      go_simp
      (go_at_call 62; refine (CF.out _).mono ?_; rintro e w9 ⟨rfl, rfl⟩)
      try (go_wp2_with fail)
      refine hK.out _ _ (by (try dsimp only); first | go_keep | exact v1) (fun hHeld => ?_)
      clear hK K
      try simp only [Act.put, List.setIfInBounds_toArray, List.set_cons_zero, List.set_cons_succ]
      refine Step.take (i := 10) rfl (by kernel_rfl) (by kernel_rfl) (by kernel_rfl) (fun _ _ _ h => h) (by rfl) (by (intro w hSw; (try dsimp only at hSw); go_simp; try (with_reducible rfl))) (by assumption) ?_
      try simp only [Act.put, List.setIfInBounds_toArray, List.set_cons_zero, List.set_cons_succ]
      refine Step.take (i := 11) rfl (by kernel_rfl) (by kernel_rfl) (by kernel_rfl) (fun _ _ _ h => h) (by rfl) (by (intro w hSw; (try dsimp only at hSw); go_simp; try (with_reducible rfl))) (by assumption) ?_
      try simp only [Act.put, List.setIfInBounds_toArray, List.set_cons_zero, List.set_cons_succ]
      refine wpAnyH_done (by kernel_rfl) ?_ _
      have hbw := Lib.hid (HB.out.trans ((at_drewn h1).mono HB.out.size))
      obtain ⟨⟨x0, -, -⟩, x8, x9, x10⟩ := C0.out _ (at_drewn h1)
      clear v1 h1 C0 HB CA CM CF
      cases b2
      · cases b7
        · go_wp2_with (first | (go_at_call 49; refine (CS.out _).mono ?_; rintro e w9 ⟨rfl, rfl⟩) | (go_at_call_of 62 sv; refine (CF1.out _).mono ?_; rintro e w9 ⟨rfl, rfl⟩) | (go_at_call_of 62 co; refine (CF2.out _).mono ?_; rintro e w9 ⟨rfl, rfl⟩) | (go_at_call_of 62 de; refine (CF3.out _).mono ?_; rintro e w9 ⟨rfl, rfl⟩))
          go_ret
          exact ⟨by rw [hS.out]; rfl, hbw.out⟩
        · cases f2
          · go_wp2_with (first | (go_at_call 49; refine (CS.out _).mono ?_; rintro e w9 ⟨rfl, rfl⟩) | (go_at_call_of 62 sv; refine (CF1.out _).mono ?_; rintro e w9 ⟨rfl, rfl⟩) | (go_at_call_of 62 co; refine (CF2.out _).mono ?_; rintro e w9 ⟨rfl, rfl⟩) | (go_at_call_of 62 de; refine (CF3.out _).mono ?_; rintro e w9 ⟨rfl, rfl⟩))
            go_ret
            exact ⟨by rw [hS.out]; rfl, hbw.out⟩
          · cases f3
            · go_wp2_with (first | (go_at_call 49; refine (CS.out _).mono ?_; rintro e w9 ⟨rfl, rfl⟩) | (go_at_call_of 62 sv; refine (CF1.out _).mono ?_; rintro e w9 ⟨rfl, rfl⟩) | (go_at_call_of 62 co; refine (CF2.out _).mono ?_; rintro e w9 ⟨rfl, rfl⟩) | (go_at_call_of 62 de; refine (CF3.out _).mono ?_; rintro e w9 ⟨rfl, rfl⟩))
              go_ret
              exact ⟨by rw [hS.out]; rfl, hbw.out⟩
            · go_wp2_with (first | (go_at_call 49; refine (CS.out _).mono ?_; rintro e w9 ⟨rfl, rfl⟩) | (go_at_call_of 62 sv; refine (CF1.out _).mono ?_; rintro e w9 ⟨rfl, rfl⟩) | (go_at_call_of 62 co; refine (CF2.out _).mono ?_; rintro e w9 ⟨rfl, rfl⟩) | (go_at_call_of 62 de; refine (CF3.out _).mono ?_; rintro e w9 ⟨rfl, rfl⟩))
              go_ret
              exact ⟨by rw [hS.out]; rfl, hbw.out⟩
      · cases f1
        · go_wp2_with (first | (go_at_call 49; refine (CS.out _).mono ?_; rintro e w9 ⟨rfl, rfl⟩) | (go_at_call_of 62 sv; refine (CF1.out _).mono ?_; rintro e w9 ⟨rfl, rfl⟩) | (go_at_call_of 62 co; refine (CF2.out _).mono ?_; rintro e w9 ⟨rfl, rfl⟩) | (go_at_call_of 62 de; refine (CF3.out _).mono ?_; rintro e w9 ⟨rfl, rfl⟩))
          go_ret
          exact ⟨by rw [hS.out]; rfl, hbw.out⟩
        · cases b7
          · go_wp2_with (first | (go_at_call 49; refine (CS.out _).mono ?_; rintro e w9 ⟨rfl, rfl⟩) | (go_at_call_of 62 sv; refine (CF1.out _).mono ?_; rintro e w9 ⟨rfl, rfl⟩) | (go_at_call_of 62 co; refine (CF2.out _).mono ?_; rintro e w9 ⟨rfl, rfl⟩) | (go_at_call_of 62 de; refine (CF3.out _).mono ?_; rintro e w9 ⟨rfl, rfl⟩))
            go_ret
            exact ⟨by rw [hS.out]; rfl, hbw.out⟩
          · cases f2
            · go_wp2_with (first | (go_at_call 49; refine (CS.out _).mono ?_; rintro e w9 ⟨rfl, rfl⟩) | (go_at_call_of 62 sv; refine (CF1.out _).mono ?_; rintro e w9 ⟨rfl, rfl⟩) | (go_at_call_of 62 co; refine (CF2.out _).mono ?_; rintro e w9 ⟨rfl, rfl⟩) | (go_at_call_of 62 de; refine (CF3.out _).mono ?_; rintro e w9 ⟨rfl, rfl⟩))
              go_ret
              exact ⟨by rw [hS.out]; rfl, hbw.out⟩
            · cases f3
              · go_wp2_with (first | (go_at_call 49; refine (CS.out _).mono ?_; rintro e w9 ⟨rfl, rfl⟩) | (go_at_call_of 62 sv; refine (CF1.out _).mono ?_; rintro e w9 ⟨rfl, rfl⟩) | (go_at_call_of 62 co; refine (CF2.out _).mono ?_; rintro e w9 ⟨rfl, rfl⟩) | (go_at_call_of 62 de; refine (CF3.out _).mono ?_; rintro e w9 ⟨rfl, rfl⟩))
                go_ret
                exact ⟨by rw [hS.out]; rfl, hbw.out⟩
              · go_wp2_with (first | (go_at_call 49; refine (CS.out _).mono ?_; rintro e w9 ⟨rfl, rfl⟩) | (go_at_call_of 62 sv; refine (CF1.out _).mono ?_; rintro e w9 ⟨rfl, rfl⟩) | (go_at_call_of 62 co; refine (CF2.out _).mono ?_; rintro e w9 ⟨rfl, rfl⟩) | (go_at_call_of 62 de; refine (CF3.out _).mono ?_; rintro e w9 ⟨rfl, rfl⟩))
                go_ret
                exact ⟨by rw [hS.out]; rfl, hbw.out⟩

/-- what is wrong with how much data a packet has, or with what its kind has not -/
def held (p : K) : Int := if 200 < p.data.size then 11 else if spare p = true then 4 else 0

set_option maxRecDepth 100000 in
set_option maxHeartbeats 40000000 in
theorem checkHeld_any (p : K) (hk : 0 ≤ p.kind) (a : Option Addr) (cap : Nat) (w : World) :
    Calls Try.prog 29 #[.agg #[.int .i64 p.kind, .bool p.long, .int .i64 p.src, .int .i64 p.dst, .int .i64 p.cc, .int .i64 p.cover, .int .i64 p.seq, .int .i64 p.ack, .int .i64 p.service, .int .i64 p.code, .int .i64 p.detail, .slice a p.opts.length cap, .string p.data]] w fun e w' => e = .returned (.int .i64 (held p)) ∧ Below w.heap.size w w' := by
  have CA := Lib.hid (fun w => Acks_any p.kind w)
  have CB := Lib.hid (fun w => Bears_any p.kind w)
  have CS := Lib.hid (fun w => serves_any p.kind hk w)
  have hS := Lib.hid (show held p = if decide (200 < p.data.size) = true then 11 else if ((!acks p.kind && (p.ack != 0)) || ((decide (1 < p.kind) && (p.service != 0)) || (((p.kind != 7) && ((p.code != 0) || (p.detail != 0))) || (!bears p.kind && !decide (p.data.size = 0))))) = true then 4 else 0 by
    unfold held; simp only [decide_eq_true_eq]; rfl)
  obtain ⟨k, l, s, d, cc, cv, q, ak, sv, co, de, os, da⟩ := p
  dsimp only at *
  generalize held ⟨k, l, s, d, cc, cv, q, ak, sv, co, de, os, da⟩ = R at *
  generalize acks k = pa at *
  generalize bears k = pb at *
  generalize os.length = len at *
  have hb1 := (Below.refl w.heap.size w).alloc (Nat.le_refl _) (.cells #[.int .i64 k, .bool l, .int .i64 s, .int .i64 d, .int .i64 cc, .int .i64 cv, .int .i64 q, .int .i64 ak, .int .i64 sv, .int .i64 co, .int .i64 de, .slice a len cap, .string da] 24)
  have c0 : ∀ W, Below (w.alloc (.cells #[.int .i64 k, .bool l, .int .i64 s, .int .i64 d, .int .i64 cc, .int .i64 cv, .int .i64 q, .int .i64 ak, .int .i64 sv, .int .i64 co, .int .i64 de, .slice a len cap, .string da] 24)).heap.size (w.alloc (.cells #[.int .i64 k, .bool l, .int .i64 s, .int .i64 d, .int .i64 cc, .int .i64 cv, .int .i64 q, .int .i64 ak, .int .i64 sv, .int .i64 co, .int .i64 de, .slice a len cap, .string da] 24)) W → W.cell? ⟨w.heap.size, 0, none⟩ = some (.int .i64 k) ∧ W.cell? ⟨w.heap.size, 7, none⟩ = some (.int .i64 ak) ∧ W.cell? ⟨w.heap.size, 8, none⟩ = some (.int .i64 sv) ∧ W.cell? ⟨w.heap.size, 9, none⟩ = some (.int .i64 co) ∧ W.cell? ⟨w.heap.size, 10, none⟩ = some (.int .i64 de) ∧ W.cell? ⟨w.heap.size, 12, none⟩ = some (.string da) := by
    intro W hW
    have hn := (hW.block w.heap.size (by simp)).trans (heap_alloc_new w _)
    refine ⟨?_, ?_, ?_, ?_, ?_, ?_⟩ <;> exact cell_of_row _ _ _ _ _ _ hn
  have e1 : decide (1 < k) = !decide (k < 2) := by rw [← decide_not]; exact decide_eq_decide.2 (by omega)
  rw [e1] at hS
  obtain ⟨em, hem⟩ : ∃ em, em = da.toList.isEmpty := ⟨_, rfl⟩
  have hed : decide (da.size = 0) = em := by
    rw [hem]
    by_cases h0 : da.size = 0
    · rw [Oct.is_empty da h0]; simp [h0]
    · rw [Oct.not_empty da h0]; simp [h0]
  rw [hed, hem] at hS
  clear hed hem em
  obtain ⟨b0, z0⟩ : ∃ b, decide (200 < da.size) = b := ⟨_, rfl⟩
  obtain ⟨b1, z1⟩ : ∃ b, (ak != 0) = b := ⟨_, rfl⟩
  obtain ⟨b2, z2⟩ : ∃ b, decide (k < 2) = b := ⟨_, rfl⟩
  obtain ⟨b3, z3⟩ : ∃ b, (sv != 0) = b := ⟨_, rfl⟩
  obtain ⟨b4, z4⟩ : ∃ b, (k != 7) = b := ⟨_, rfl⟩
  obtain ⟨b5, z5⟩ : ∃ b, (co != 0) = b := ⟨_, rfl⟩
  obtain ⟨b6, z6⟩ : ∃ b, (de != 0) = b := ⟨_, rfl⟩
  obtain ⟨b7, z7⟩ : ∃ b, da.toList.isEmpty = b := ⟨_, rfl⟩
  rw [z0, z1, z2, z3, z4, z5, z6, z7] at hS
  rw [z2] at CS
  clear z2 e1
  have z0' : decide ((200 : Int) < da.size) = b0 := by rw [← z0]; exact decide_eq_decide.2 (by omega)
  clear z0
  have C0 := Lib.hid c0
  have HB := Lib.hid hb1
  have c1 := c0 _ (Below.refl _ _)
  obtain ⟨x0, x7, x8, x9, x10, x12⟩ := c1
  clear c0 hb1
  cases b0
  · cases pa
    · cases b1
      · cases b2
        · cases b3
          · cases b4
            · cases pb
              · cases b7
                · go_enter Try.func29, Try.ntmps29
                  go_wp2_with (first
                    | (go_at_call 46; refine (CA.out _).mono ?_; rintro e w1 ⟨rfl, h1⟩; obtain ⟨x0, x7, x8, x9, x10, x12⟩ := C0.out _ h1; have B1 := Lib.hid (HB.out.trans (h1.mono HB.out.size)); have H1 := Lib.hid h1; clear h1)
                    | (go_at_call 49; refine (CS.out _).mono ?_; rintro e w9 ⟨rfl, rfl⟩)
                    | (go_at_call 65; refine (CB.out _).mono ?_; rintro e w2 ⟨rfl, h2⟩; obtain ⟨x0, x7, x8, x9, x10, x12⟩ := C0.out _ (H1.out.trans (h2.mono H1.out.size)); have B2 := Lib.hid (B1.out.trans (h2.mono B1.out.size)); clear h2))
                  go_ret
                  exact ⟨by rw [hS.out]; rfl, B2.out⟩
                · go_enter Try.func29, Try.ntmps29
                  go_wp2_with (first
                    | (go_at_call 46; refine (CA.out _).mono ?_; rintro e w1 ⟨rfl, h1⟩; obtain ⟨x0, x7, x8, x9, x10, x12⟩ := C0.out _ h1; have B1 := Lib.hid (HB.out.trans (h1.mono HB.out.size)); have H1 := Lib.hid h1; clear h1)
                    | (go_at_call 49; refine (CS.out _).mono ?_; rintro e w9 ⟨rfl, rfl⟩)
                    | (go_at_call 65; refine (CB.out _).mono ?_; rintro e w2 ⟨rfl, h2⟩; obtain ⟨x0, x7, x8, x9, x10, x12⟩ := C0.out _ (H1.out.trans (h2.mono H1.out.size)); have B2 := Lib.hid (B1.out.trans (h2.mono B1.out.size)); clear h2))
                  go_ret
                  exact ⟨by rw [hS.out]; rfl, B2.out⟩
              · go_enter Try.func29, Try.ntmps29
                go_wp2_with (first
                  | (go_at_call 46; refine (CA.out _).mono ?_; rintro e w1 ⟨rfl, h1⟩; obtain ⟨x0, x7, x8, x9, x10, x12⟩ := C0.out _ h1; have B1 := Lib.hid (HB.out.trans (h1.mono HB.out.size)); have H1 := Lib.hid h1; clear h1)
                  | (go_at_call 49; refine (CS.out _).mono ?_; rintro e w9 ⟨rfl, rfl⟩)
                  | (go_at_call 65; refine (CB.out _).mono ?_; rintro e w2 ⟨rfl, h2⟩; obtain ⟨x0, x7, x8, x9, x10, x12⟩ := C0.out _ (H1.out.trans (h2.mono H1.out.size)); have B2 := Lib.hid (B1.out.trans (h2.mono B1.out.size)); clear h2))
                go_ret
                exact ⟨by rw [hS.out]; rfl, B2.out⟩
            · cases b5
              · cases b6
                · cases pb
                  · cases b7
                    · go_enter Try.func29, Try.ntmps29
                      go_wp2_with (first
                        | (go_at_call 46; refine (CA.out _).mono ?_; rintro e w1 ⟨rfl, h1⟩; obtain ⟨x0, x7, x8, x9, x10, x12⟩ := C0.out _ h1; have B1 := Lib.hid (HB.out.trans (h1.mono HB.out.size)); have H1 := Lib.hid h1; clear h1)
                        | (go_at_call 49; refine (CS.out _).mono ?_; rintro e w9 ⟨rfl, rfl⟩)
                        | (go_at_call 65; refine (CB.out _).mono ?_; rintro e w2 ⟨rfl, h2⟩; obtain ⟨x0, x7, x8, x9, x10, x12⟩ := C0.out _ (H1.out.trans (h2.mono H1.out.size)); have B2 := Lib.hid (B1.out.trans (h2.mono B1.out.size)); clear h2))
                      go_ret
                      exact ⟨by rw [hS.out]; rfl, B2.out⟩
                    · go_enter Try.func29, Try.ntmps29
                      go_wp2_with (first
                        | (go_at_call 46; refine (CA.out _).mono ?_; rintro e w1 ⟨rfl, h1⟩; obtain ⟨x0, x7, x8, x9, x10, x12⟩ := C0.out _ h1; have B1 := Lib.hid (HB.out.trans (h1.mono HB.out.size)); have H1 := Lib.hid h1; clear h1)
                        | (go_at_call 49; refine (CS.out _).mono ?_; rintro e w9 ⟨rfl, rfl⟩)
                        | (go_at_call 65; refine (CB.out _).mono ?_; rintro e w2 ⟨rfl, h2⟩; obtain ⟨x0, x7, x8, x9, x10, x12⟩ := C0.out _ (H1.out.trans (h2.mono H1.out.size)); have B2 := Lib.hid (B1.out.trans (h2.mono B1.out.size)); clear h2))
                      go_ret
                      exact ⟨by rw [hS.out]; rfl, B2.out⟩
                  · go_enter Try.func29, Try.ntmps29
                    go_wp2_with (first
                      | (go_at_call 46; refine (CA.out _).mono ?_; rintro e w1 ⟨rfl, h1⟩; obtain ⟨x0, x7, x8, x9, x10, x12⟩ := C0.out _ h1; have B1 := Lib.hid (HB.out.trans (h1.mono HB.out.size)); have H1 := Lib.hid h1; clear h1)
                      | (go_at_call 49; refine (CS.out _).mono ?_; rintro e w9 ⟨rfl, rfl⟩)
                      | (go_at_call 65; refine (CB.out _).mono ?_; rintro e w2 ⟨rfl, h2⟩; obtain ⟨x0, x7, x8, x9, x10, x12⟩ := C0.out _ (H1.out.trans (h2.mono H1.out.size)); have B2 := Lib.hid (B1.out.trans (h2.mono B1.out.size)); clear h2))
                    go_ret
                    exact ⟨by rw [hS.out]; rfl, B2.out⟩
                · go_enter Try.func29, Try.ntmps29
                  go_wp2_with (first
                    | (go_at_call 46; refine (CA.out _).mono ?_; rintro e w1 ⟨rfl, h1⟩; obtain ⟨x0, x7, x8, x9, x10, x12⟩ := C0.out _ h1; have B1 := Lib.hid (HB.out.trans (h1.mono HB.out.size)); have H1 := Lib.hid h1; clear h1)
                    | (go_at_call 49; refine (CS.out _).mono ?_; rintro e w9 ⟨rfl, rfl⟩)
                    | (go_at_call 65; refine (CB.out _).mono ?_; rintro e w2 ⟨rfl, h2⟩; obtain ⟨x0, x7, x8, x9, x10, x12⟩ := C0.out _ (H1.out.trans (h2.mono H1.out.size)); have B2 := Lib.hid (B1.out.trans (h2.mono B1.out.size)); clear h2))
                  go_ret
                  exact ⟨by rw [hS.out]; rfl, B1.out⟩
              · go_enter Try.func29, Try.ntmps29
                go_wp2_with (first
                  | (go_at_call 46; refine (CA.out _).mono ?_; rintro e w1 ⟨rfl, h1⟩; obtain ⟨x0, x7, x8, x9, x10, x12⟩ := C0.out _ h1; have B1 := Lib.hid (HB.out.trans (h1.mono HB.out.size)); have H1 := Lib.hid h1; clear h1)
                  | (go_at_call 49; refine (CS.out _).mono ?_; rintro e w9 ⟨rfl, rfl⟩)
                  | (go_at_call 65; refine (CB.out _).mono ?_; rintro e w2 ⟨rfl, h2⟩; obtain ⟨x0, x7, x8, x9, x10, x12⟩ := C0.out _ (H1.out.trans (h2.mono H1.out.size)); have B2 := Lib.hid (B1.out.trans (h2.mono B1.out.size)); clear h2))
                go_ret
                exact ⟨by rw [hS.out]; rfl, B1.out⟩
          · go_enter Try.func29, Try.ntmps29
            go_wp2_with (first
              | (go_at_call 46; refine (CA.out _).mono ?_; rintro e w1 ⟨rfl, h1⟩; obtain ⟨x0, x7, x8, x9, x10, x12⟩ := C0.out _ h1; have B1 := Lib.hid (HB.out.trans (h1.mono HB.out.size)); have H1 := Lib.hid h1; clear h1)
              | (go_at_call 49; refine (CS.out _).mono ?_; rintro e w9 ⟨rfl, rfl⟩)
              | (go_at_call 65; refine (CB.out _).mono ?_; rintro e w2 ⟨rfl, h2⟩; obtain ⟨x0, x7, x8, x9, x10, x12⟩ := C0.out _ (H1.out.trans (h2.mono H1.out.size)); have B2 := Lib.hid (B1.out.trans (h2.mono B1.out.size)); clear h2))
            go_ret
            exact ⟨by rw [hS.out]; rfl, B1.out⟩
        · cases b4
          · cases pb
            · cases b7
              · go_enter Try.func29, Try.ntmps29
                go_wp2_with (first
                  | (go_at_call 46; refine (CA.out _).mono ?_; rintro e w1 ⟨rfl, h1⟩; obtain ⟨x0, x7, x8, x9, x10, x12⟩ := C0.out _ h1; have B1 := Lib.hid (HB.out.trans (h1.mono HB.out.size)); have H1 := Lib.hid h1; clear h1)
                  | (go_at_call 49; refine (CS.out _).mono ?_; rintro e w9 ⟨rfl, rfl⟩)
                  | (go_at_call 65; refine (CB.out _).mono ?_; rintro e w2 ⟨rfl, h2⟩; obtain ⟨x0, x7, x8, x9, x10, x12⟩ := C0.out _ (H1.out.trans (h2.mono H1.out.size)); have B2 := Lib.hid (B1.out.trans (h2.mono B1.out.size)); clear h2))
                go_ret
                exact ⟨by rw [hS.out]; rfl, B2.out⟩
              · go_enter Try.func29, Try.ntmps29
                go_wp2_with (first
                  | (go_at_call 46; refine (CA.out _).mono ?_; rintro e w1 ⟨rfl, h1⟩; obtain ⟨x0, x7, x8, x9, x10, x12⟩ := C0.out _ h1; have B1 := Lib.hid (HB.out.trans (h1.mono HB.out.size)); have H1 := Lib.hid h1; clear h1)
                  | (go_at_call 49; refine (CS.out _).mono ?_; rintro e w9 ⟨rfl, rfl⟩)
                  | (go_at_call 65; refine (CB.out _).mono ?_; rintro e w2 ⟨rfl, h2⟩; obtain ⟨x0, x7, x8, x9, x10, x12⟩ := C0.out _ (H1.out.trans (h2.mono H1.out.size)); have B2 := Lib.hid (B1.out.trans (h2.mono B1.out.size)); clear h2))
                go_ret
                exact ⟨by rw [hS.out]; rfl, B2.out⟩
            · go_enter Try.func29, Try.ntmps29
              go_wp2_with (first
                | (go_at_call 46; refine (CA.out _).mono ?_; rintro e w1 ⟨rfl, h1⟩; obtain ⟨x0, x7, x8, x9, x10, x12⟩ := C0.out _ h1; have B1 := Lib.hid (HB.out.trans (h1.mono HB.out.size)); have H1 := Lib.hid h1; clear h1)
                | (go_at_call 49; refine (CS.out _).mono ?_; rintro e w9 ⟨rfl, rfl⟩)
                | (go_at_call 65; refine (CB.out _).mono ?_; rintro e w2 ⟨rfl, h2⟩; obtain ⟨x0, x7, x8, x9, x10, x12⟩ := C0.out _ (H1.out.trans (h2.mono H1.out.size)); have B2 := Lib.hid (B1.out.trans (h2.mono B1.out.size)); clear h2))
              go_ret
              exact ⟨by rw [hS.out]; rfl, B2.out⟩
          · cases b5
            · cases b6
              · cases pb
                · cases b7
                  · go_enter Try.func29, Try.ntmps29
                    go_wp2_with (first
                      | (go_at_call 46; refine (CA.out _).mono ?_; rintro e w1 ⟨rfl, h1⟩; obtain ⟨x0, x7, x8, x9, x10, x12⟩ := C0.out _ h1; have B1 := Lib.hid (HB.out.trans (h1.mono HB.out.size)); have H1 := Lib.hid h1; clear h1)
                      | (go_at_call 49; refine (CS.out _).mono ?_; rintro e w9 ⟨rfl, rfl⟩)
                      | (go_at_call 65; refine (CB.out _).mono ?_; rintro e w2 ⟨rfl, h2⟩; obtain ⟨x0, x7, x8, x9, x10, x12⟩ := C0.out _ (H1.out.trans (h2.mono H1.out.size)); have B2 := Lib.hid (B1.out.trans (h2.mono B1.out.size)); clear h2))
                    go_ret
                    exact ⟨by rw [hS.out]; rfl, B2.out⟩
                  · go_enter Try.func29, Try.ntmps29
                    go_wp2_with (first
                      | (go_at_call 46; refine (CA.out _).mono ?_; rintro e w1 ⟨rfl, h1⟩; obtain ⟨x0, x7, x8, x9, x10, x12⟩ := C0.out _ h1; have B1 := Lib.hid (HB.out.trans (h1.mono HB.out.size)); have H1 := Lib.hid h1; clear h1)
                      | (go_at_call 49; refine (CS.out _).mono ?_; rintro e w9 ⟨rfl, rfl⟩)
                      | (go_at_call 65; refine (CB.out _).mono ?_; rintro e w2 ⟨rfl, h2⟩; obtain ⟨x0, x7, x8, x9, x10, x12⟩ := C0.out _ (H1.out.trans (h2.mono H1.out.size)); have B2 := Lib.hid (B1.out.trans (h2.mono B1.out.size)); clear h2))
                    go_ret
                    exact ⟨by rw [hS.out]; rfl, B2.out⟩
                · go_enter Try.func29, Try.ntmps29
                  go_wp2_with (first
                    | (go_at_call 46; refine (CA.out _).mono ?_; rintro e w1 ⟨rfl, h1⟩; obtain ⟨x0, x7, x8, x9, x10, x12⟩ := C0.out _ h1; have B1 := Lib.hid (HB.out.trans (h1.mono HB.out.size)); have H1 := Lib.hid h1; clear h1)
                    | (go_at_call 49; refine (CS.out _).mono ?_; rintro e w9 ⟨rfl, rfl⟩)
                    | (go_at_call 65; refine (CB.out _).mono ?_; rintro e w2 ⟨rfl, h2⟩; obtain ⟨x0, x7, x8, x9, x10, x12⟩ := C0.out _ (H1.out.trans (h2.mono H1.out.size)); have B2 := Lib.hid (B1.out.trans (h2.mono B1.out.size)); clear h2))
                  go_ret
                  exact ⟨by rw [hS.out]; rfl, B2.out⟩
              · go_enter Try.func29, Try.ntmps29
                go_wp2_with (first
                  | (go_at_call 46; refine (CA.out _).mono ?_; rintro e w1 ⟨rfl, h1⟩; obtain ⟨x0, x7, x8, x9, x10, x12⟩ := C0.out _ h1; have B1 := Lib.hid (HB.out.trans (h1.mono HB.out.size)); have H1 := Lib.hid h1; clear h1)
                  | (go_at_call 49; refine (CS.out _).mono ?_; rintro e w9 ⟨rfl, rfl⟩)
                  | (go_at_call 65; refine (CB.out _).mono ?_; rintro e w2 ⟨rfl, h2⟩; obtain ⟨x0, x7, x8, x9, x10, x12⟩ := C0.out _ (H1.out.trans (h2.mono H1.out.size)); have B2 := Lib.hid (B1.out.trans (h2.mono B1.out.size)); clear h2))
                go_ret
                exact ⟨by rw [hS.out]; rfl, B1.out⟩
            · go_enter Try.func29, Try.ntmps29
              go_wp2_with (first
                | (go_at_call 46; refine (CA.out _).mono ?_; rintro e w1 ⟨rfl, h1⟩; obtain ⟨x0, x7, x8, x9, x10, x12⟩ := C0.out _ h1; have B1 := Lib.hid (HB.out.trans (h1.mono HB.out.size)); have H1 := Lib.hid h1; clear h1)
                | (go_at_call 49; refine (CS.out _).mono ?_; rintro e w9 ⟨rfl, rfl⟩)
                | (go_at_call 65; refine (CB.out _).mono ?_; rintro e w2 ⟨rfl, h2⟩; obtain ⟨x0, x7, x8, x9, x10, x12⟩ := C0.out _ (H1.out.trans (h2.mono H1.out.size)); have B2 := Lib.hid (B1.out.trans (h2.mono B1.out.size)); clear h2))
              go_ret
              exact ⟨by rw [hS.out]; rfl, B1.out⟩
      · go_enter Try.func29, Try.ntmps29
        go_wp2_with (first
          | (go_at_call 46; refine (CA.out _).mono ?_; rintro e w1 ⟨rfl, h1⟩; obtain ⟨x0, x7, x8, x9, x10, x12⟩ := C0.out _ h1; have B1 := Lib.hid (HB.out.trans (h1.mono HB.out.size)); have H1 := Lib.hid h1; clear h1)
          | (go_at_call 49; refine (CS.out _).mono ?_; rintro e w9 ⟨rfl, rfl⟩)
          | (go_at_call 65; refine (CB.out _).mono ?_; rintro e w2 ⟨rfl, h2⟩; obtain ⟨x0, x7, x8, x9, x10, x12⟩ := C0.out _ (H1.out.trans (h2.mono H1.out.size)); have B2 := Lib.hid (B1.out.trans (h2.mono B1.out.size)); clear h2))
        go_ret
        exact ⟨by rw [hS.out]; rfl, B1.out⟩
    · cases b2
      · cases b3
        · cases b4
          · cases pb
            · cases b7
              · go_enter Try.func29, Try.ntmps29
                go_wp2_with (first
                  | (go_at_call 46; refine (CA.out _).mono ?_; rintro e w1 ⟨rfl, h1⟩; obtain ⟨x0, x7, x8, x9, x10, x12⟩ := C0.out _ h1; have B1 := Lib.hid (HB.out.trans (h1.mono HB.out.size)); have H1 := Lib.hid h1; clear h1)
                  | (go_at_call 49; refine (CS.out _).mono ?_; rintro e w9 ⟨rfl, rfl⟩)
                  | (go_at_call 65; refine (CB.out _).mono ?_; rintro e w2 ⟨rfl, h2⟩; obtain ⟨x0, x7, x8, x9, x10, x12⟩ := C0.out _ (H1.out.trans (h2.mono H1.out.size)); have B2 := Lib.hid (B1.out.trans (h2.mono B1.out.size)); clear h2))
                go_ret
                exact ⟨by rw [hS.out]; rfl, B2.out⟩
              · go_enter Try.func29, Try.ntmps29
                go_wp2_with (first
                  | (go_at_call 46; refine (CA.out _).mono ?_; rintro e w1 ⟨rfl, h1⟩; obtain ⟨x0, x7, x8, x9, x10, x12⟩ := C0.out _ h1; have B1 := Lib.hid (HB.out.trans (h1.mono HB.out.size)); have H1 := Lib.hid h1; clear h1)
                  | (go_at_call 49; refine (CS.out _).mono ?_; rintro e w9 ⟨rfl, rfl⟩)
                  | (go_at_call 65; refine (CB.out _).mono ?_; rintro e w2 ⟨rfl, h2⟩; obtain ⟨x0, x7, x8, x9, x10, x12⟩ := C0.out _ (H1.out.trans (h2.mono H1.out.size)); have B2 := Lib.hid (B1.out.trans (h2.mono B1.out.size)); clear h2))
                go_ret
                exact ⟨by rw [hS.out]; rfl, B2.out⟩
            · go_enter Try.func29, Try.ntmps29
              go_wp2_with (first
                | (go_at_call 46; refine (CA.out _).mono ?_; rintro e w1 ⟨rfl, h1⟩; obtain ⟨x0, x7, x8, x9, x10, x12⟩ := C0.out _ h1; have B1 := Lib.hid (HB.out.trans (h1.mono HB.out.size)); have H1 := Lib.hid h1; clear h1)
                | (go_at_call 49; refine (CS.out _).mono ?_; rintro e w9 ⟨rfl, rfl⟩)
                | (go_at_call 65; refine (CB.out _).mono ?_; rintro e w2 ⟨rfl, h2⟩; obtain ⟨x0, x7, x8, x9, x10, x12⟩ := C0.out _ (H1.out.trans (h2.mono H1.out.size)); have B2 := Lib.hid (B1.out.trans (h2.mono B1.out.size)); clear h2))
              go_ret
              exact ⟨by rw [hS.out]; rfl, B2.out⟩
          · cases b5
            · cases b6
              · cases pb
                · cases b7
                  · go_enter Try.func29, Try.ntmps29
                    go_wp2_with (first
                      | (go_at_call 46; refine (CA.out _).mono ?_; rintro e w1 ⟨rfl, h1⟩; obtain ⟨x0, x7, x8, x9, x10, x12⟩ := C0.out _ h1; have B1 := Lib.hid (HB.out.trans (h1.mono HB.out.size)); have H1 := Lib.hid h1; clear h1)
                      | (go_at_call 49; refine (CS.out _).mono ?_; rintro e w9 ⟨rfl, rfl⟩)
                      | (go_at_call 65; refine (CB.out _).mono ?_; rintro e w2 ⟨rfl, h2⟩; obtain ⟨x0, x7, x8, x9, x10, x12⟩ := C0.out _ (H1.out.trans (h2.mono H1.out.size)); have B2 := Lib.hid (B1.out.trans (h2.mono B1.out.size)); clear h2))
                    go_ret
                    exact ⟨by rw [hS.out]; rfl, B2.out⟩
                  · go_enter Try.func29, Try.ntmps29
                    go_wp2_with (first
                      | (go_at_call 46; refine (CA.out _).mono ?_; rintro e w1 ⟨rfl, h1⟩; obtain ⟨x0, x7, x8, x9, x10, x12⟩ := C0.out _ h1; have B1 := Lib.hid (HB.out.trans (h1.mono HB.out.size)); have H1 := Lib.hid h1; clear h1)
                      | (go_at_call 49; refine (CS.out _).mono ?_; rintro e w9 ⟨rfl, rfl⟩)
                      | (go_at_call 65; refine (CB.out _).mono ?_; rintro e w2 ⟨rfl, h2⟩; obtain ⟨x0, x7, x8, x9, x10, x12⟩ := C0.out _ (H1.out.trans (h2.mono H1.out.size)); have B2 := Lib.hid (B1.out.trans (h2.mono B1.out.size)); clear h2))
                    go_ret
                    exact ⟨by rw [hS.out]; rfl, B2.out⟩
                · go_enter Try.func29, Try.ntmps29
                  go_wp2_with (first
                    | (go_at_call 46; refine (CA.out _).mono ?_; rintro e w1 ⟨rfl, h1⟩; obtain ⟨x0, x7, x8, x9, x10, x12⟩ := C0.out _ h1; have B1 := Lib.hid (HB.out.trans (h1.mono HB.out.size)); have H1 := Lib.hid h1; clear h1)
                    | (go_at_call 49; refine (CS.out _).mono ?_; rintro e w9 ⟨rfl, rfl⟩)
                    | (go_at_call 65; refine (CB.out _).mono ?_; rintro e w2 ⟨rfl, h2⟩; obtain ⟨x0, x7, x8, x9, x10, x12⟩ := C0.out _ (H1.out.trans (h2.mono H1.out.size)); have B2 := Lib.hid (B1.out.trans (h2.mono B1.out.size)); clear h2))
                  go_ret
                  exact ⟨by rw [hS.out]; rfl, B2.out⟩
              · go_enter Try.func29, Try.ntmps29
                go_wp2_with (first
                  | (go_at_call 46; refine (CA.out _).mono ?_; rintro e w1 ⟨rfl, h1⟩; obtain ⟨x0, x7, x8, x9, x10, x12⟩ := C0.out _ h1; have B1 := Lib.hid (HB.out.trans (h1.mono HB.out.size)); have H1 := Lib.hid h1; clear h1)
                  | (go_at_call 49; refine (CS.out _).mono ?_; rintro e w9 ⟨rfl, rfl⟩)
                  | (go_at_call 65; refine (CB.out _).mono ?_; rintro e w2 ⟨rfl, h2⟩; obtain ⟨x0, x7, x8, x9, x10, x12⟩ := C0.out _ (H1.out.trans (h2.mono H1.out.size)); have B2 := Lib.hid (B1.out.trans (h2.mono B1.out.size)); clear h2))
                go_ret
                exact ⟨by rw [hS.out]; rfl, B1.out⟩
            · go_enter Try.func29, Try.ntmps29
              go_wp2_with (first
                | (go_at_call 46; refine (CA.out _).mono ?_; rintro e w1 ⟨rfl, h1⟩; obtain ⟨x0, x7, x8, x9, x10, x12⟩ := C0.out _ h1; have B1 := Lib.hid (HB.out.trans (h1.mono HB.out.size)); have H1 := Lib.hid h1; clear h1)
                | (go_at_call 49; refine (CS.out _).mono ?_; rintro e w9 ⟨rfl, rfl⟩)
                | (go_at_call 65; refine (CB.out _).mono ?_; rintro e w2 ⟨rfl, h2⟩; obtain ⟨x0, x7, x8, x9, x10, x12⟩ := C0.out _ (H1.out.trans (h2.mono H1.out.size)); have B2 := Lib.hid (B1.out.trans (h2.mono B1.out.size)); clear h2))
              go_ret
              exact ⟨by rw [hS.out]; rfl, B1.out⟩
        · go_enter Try.func29, Try.ntmps29
          go_wp2_with (first
            | (go_at_call 46; refine (CA.out _).mono ?_; rintro e w1 ⟨rfl, h1⟩; obtain ⟨x0, x7, x8, x9, x10, x12⟩ := C0.out _ h1; have B1 := Lib.hid (HB.out.trans (h1.mono HB.out.size)); have H1 := Lib.hid h1; clear h1)
            | (go_at_call 49; refine (CS.out _).mono ?_; rintro e w9 ⟨rfl, rfl⟩)
            | (go_at_call 65; refine (CB.out _).mono ?_; rintro e w2 ⟨rfl, h2⟩; obtain ⟨x0, x7, x8, x9, x10, x12⟩ := C0.out _ (H1.out.trans (h2.mono H1.out.size)); have B2 := Lib.hid (B1.out.trans (h2.mono B1.out.size)); clear h2))
          go_ret
          exact ⟨by rw [hS.out]; rfl, B1.out⟩
      · cases b4
        · cases pb
          · cases b7
            · go_enter Try.func29, Try.ntmps29
              go_wp2_with (first
                | (go_at_call 46; refine (CA.out _).mono ?_; rintro e w1 ⟨rfl, h1⟩; obtain ⟨x0, x7, x8, x9, x10, x12⟩ := C0.out _ h1; have B1 := Lib.hid (HB.out.trans (h1.mono HB.out.size)); have H1 := Lib.hid h1; clear h1)
                | (go_at_call 49; refine (CS.out _).mono ?_; rintro e w9 ⟨rfl, rfl⟩)
                | (go_at_call 65; refine (CB.out _).mono ?_; rintro e w2 ⟨rfl, h2⟩; obtain ⟨x0, x7, x8, x9, x10, x12⟩ := C0.out _ (H1.out.trans (h2.mono H1.out.size)); have B2 := Lib.hid (B1.out.trans (h2.mono B1.out.size)); clear h2))
              go_ret
              exact ⟨by rw [hS.out]; rfl, B2.out⟩
            · go_enter Try.func29, Try.ntmps29
              go_wp2_with (first
                | (go_at_call 46; refine (CA.out _).mono ?_; rintro e w1 ⟨rfl, h1⟩; obtain ⟨x0, x7, x8, x9, x10, x12⟩ := C0.out _ h1; have B1 := Lib.hid (HB.out.trans (h1.mono HB.out.size)); have H1 := Lib.hid h1; clear h1)
                | (go_at_call 49; refine (CS.out _).mono ?_; rintro e w9 ⟨rfl, rfl⟩)
                | (go_at_call 65; refine (CB.out _).mono ?_; rintro e w2 ⟨rfl, h2⟩; obtain ⟨x0, x7, x8, x9, x10, x12⟩ := C0.out _ (H1.out.trans (h2.mono H1.out.size)); have B2 := Lib.hid (B1.out.trans (h2.mono B1.out.size)); clear h2))
              go_ret
              exact ⟨by rw [hS.out]; rfl, B2.out⟩
          · go_enter Try.func29, Try.ntmps29
            go_wp2_with (first
              | (go_at_call 46; refine (CA.out _).mono ?_; rintro e w1 ⟨rfl, h1⟩; obtain ⟨x0, x7, x8, x9, x10, x12⟩ := C0.out _ h1; have B1 := Lib.hid (HB.out.trans (h1.mono HB.out.size)); have H1 := Lib.hid h1; clear h1)
              | (go_at_call 49; refine (CS.out _).mono ?_; rintro e w9 ⟨rfl, rfl⟩)
              | (go_at_call 65; refine (CB.out _).mono ?_; rintro e w2 ⟨rfl, h2⟩; obtain ⟨x0, x7, x8, x9, x10, x12⟩ := C0.out _ (H1.out.trans (h2.mono H1.out.size)); have B2 := Lib.hid (B1.out.trans (h2.mono B1.out.size)); clear h2))
            go_ret
            exact ⟨by rw [hS.out]; rfl, B2.out⟩
        · cases b5
          · cases b6
            · cases pb
              · cases b7
                · go_enter Try.func29, Try.ntmps29
                  go_wp2_with (first
                    | (go_at_call 46; refine (CA.out _).mono ?_; rintro e w1 ⟨rfl, h1⟩; obtain ⟨x0, x7, x8, x9, x10, x12⟩ := C0.out _ h1; have B1 := Lib.hid (HB.out.trans (h1.mono HB.out.size)); have H1 := Lib.hid h1; clear h1)
                    | (go_at_call 49; refine (CS.out _).mono ?_; rintro e w9 ⟨rfl, rfl⟩)
                    | (go_at_call 65; refine (CB.out _).mono ?_; rintro e w2 ⟨rfl, h2⟩; obtain ⟨x0, x7, x8, x9, x10, x12⟩ := C0.out _ (H1.out.trans (h2.mono H1.out.size)); have B2 := Lib.hid (B1.out.trans (h2.mono B1.out.size)); clear h2))
                  go_ret
                  exact ⟨by rw [hS.out]; rfl, B2.out⟩
                · go_enter Try.func29, Try.ntmps29
                  go_wp2_with (first
                    | (go_at_call 46; refine (CA.out _).mono ?_; rintro e w1 ⟨rfl, h1⟩; obtain ⟨x0, x7, x8, x9, x10, x12⟩ := C0.out _ h1; have B1 := Lib.hid (HB.out.trans (h1.mono HB.out.size)); have H1 := Lib.hid h1; clear h1)
                    | (go_at_call 49; refine (CS.out _).mono ?_; rintro e w9 ⟨rfl, rfl⟩)
                    | (go_at_call 65; refine (CB.out _).mono ?_; rintro e w2 ⟨rfl, h2⟩; obtain ⟨x0, x7, x8, x9, x10, x12⟩ := C0.out _ (H1.out.trans (h2.mono H1.out.size)); have B2 := Lib.hid (B1.out.trans (h2.mono B1.out.size)); clear h2))
                  go_ret
                  exact ⟨by rw [hS.out]; rfl, B2.out⟩
              · go_enter Try.func29, Try.ntmps29
                go_wp2_with (first
                  | (go_at_call 46; refine (CA.out _).mono ?_; rintro e w1 ⟨rfl, h1⟩; obtain ⟨x0, x7, x8, x9, x10, x12⟩ := C0.out _ h1; have B1 := Lib.hid (HB.out.trans (h1.mono HB.out.size)); have H1 := Lib.hid h1; clear h1)
                  | (go_at_call 49; refine (CS.out _).mono ?_; rintro e w9 ⟨rfl, rfl⟩)
                  | (go_at_call 65; refine (CB.out _).mono ?_; rintro e w2 ⟨rfl, h2⟩; obtain ⟨x0, x7, x8, x9, x10, x12⟩ := C0.out _ (H1.out.trans (h2.mono H1.out.size)); have B2 := Lib.hid (B1.out.trans (h2.mono B1.out.size)); clear h2))
                go_ret
                exact ⟨by rw [hS.out]; rfl, B2.out⟩
            · go_enter Try.func29, Try.ntmps29
              go_wp2_with (first
                | (go_at_call 46; refine (CA.out _).mono ?_; rintro e w1 ⟨rfl, h1⟩; obtain ⟨x0, x7, x8, x9, x10, x12⟩ := C0.out _ h1; have B1 := Lib.hid (HB.out.trans (h1.mono HB.out.size)); have H1 := Lib.hid h1; clear h1)
                | (go_at_call 49; refine (CS.out _).mono ?_; rintro e w9 ⟨rfl, rfl⟩)
                | (go_at_call 65; refine (CB.out _).mono ?_; rintro e w2 ⟨rfl, h2⟩; obtain ⟨x0, x7, x8, x9, x10, x12⟩ := C0.out _ (H1.out.trans (h2.mono H1.out.size)); have B2 := Lib.hid (B1.out.trans (h2.mono B1.out.size)); clear h2))
              go_ret
              exact ⟨by rw [hS.out]; rfl, B1.out⟩
          · go_enter Try.func29, Try.ntmps29
            go_wp2_with (first
              | (go_at_call 46; refine (CA.out _).mono ?_; rintro e w1 ⟨rfl, h1⟩; obtain ⟨x0, x7, x8, x9, x10, x12⟩ := C0.out _ h1; have B1 := Lib.hid (HB.out.trans (h1.mono HB.out.size)); have H1 := Lib.hid h1; clear h1)
              | (go_at_call 49; refine (CS.out _).mono ?_; rintro e w9 ⟨rfl, rfl⟩)
              | (go_at_call 65; refine (CB.out _).mono ?_; rintro e w2 ⟨rfl, h2⟩; obtain ⟨x0, x7, x8, x9, x10, x12⟩ := C0.out _ (H1.out.trans (h2.mono H1.out.size)); have B2 := Lib.hid (B1.out.trans (h2.mono B1.out.size)); clear h2))
            go_ret
            exact ⟨by rw [hS.out]; rfl, B1.out⟩
  · go_enter Try.func29, Try.ntmps29
    go_wp2_with fail
    go_ret
    exact ⟨by rw [hS.out]; rfl, HB.out⟩
end Go.Proofs.Ytkjojfcknfhkhaa.Pkt
