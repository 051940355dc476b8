/- The walk of OctetsReads. -/
import Derived.Test.YtenpcdloidgckaaRefCutB
import Derived.Test.YtenpcdloidgckaaWorks1
import Derived.Deep.DeepCutAuto
import Derived.Deep.LoopGhost
import Derived.Deep.RegionHeld3
import Derived.Deep.CutBlock
namespace Go.Proofs.Ytenpcdloidgckaa.Oct
open Go.ChangeShapes Go.WideShapes Go.ChangeAt Go.RowKit
set_option linter.unusedVariables false

/-- what is known of a slice of reads: it is nil, or its cells are pairs of numbers -/
def IsOps (w : World) (a : Option Addr) (len : Nat) : Prop :=
  len = 0 ∨ ∃ lb off, a = some ⟨lb, off, none⟩ ∧ lb < w.heap.size ∧ ∀ i, i < len → ∃ k n : Int, w.cell? ⟨lb, off + i * 2, none⟩ = some (.int .i64 k) ∧ w.cell? ⟨lb, off + i * 2 + 1, none⟩ = some (.int .i64 n)

theorem RefAt.fresh (w : World) (s : ByteArray) (t : TypeId) : RefAt (w.alloc (.cells #[.string s, .int .i64 0, .int .i64 0] t)) w.heap.size s 0 0 := by
  have hz : ∀ j, (w.alloc (.cells #[.string s, .int .i64 0, .int .i64 0] t)).frozen? ⟨w.heap.size, j, none⟩ = false := fun j => by
    have := World.frozen?_alloc_mark w #[.string s, .int .i64 0, .int .i64 0] t 0 0 j
    rw [this]; simp
  have hc : ∀ j, (w.alloc (.cells #[.string s, .int .i64 0, .int .i64 0] t)).cell? ⟨w.heap.size, j, none⟩ = #[Value.string s, .int .i64 0, .int .i64 0][j]? := fun j => World.cell?_alloc_mark w _ t (0, 0) j
  exact ⟨Nat.zero_le _, hc 0, hc 1, hc 2, hz 1, hz 2⟩

/-- the two cuts stand alike -/
def Alike2 (W : World) (s : ByteArray) (B1 B2 : Nat) (w : World) : Prop :=
  ∃ (a : Nat) (f : Int), CutAt w B1 (unread s a) f ∧ RefAt w B2 s a f ∧ Below W.heap.size W w

theorem Touch.at_ {b : Nat} {w w' : World} (h : Touch b w w') {lb o : Nat} {v : Value} (hl : lb < w.heap.size) (hne : lb ≠ b) (hc : w.cell? ⟨lb, o, none⟩ = some v) : w'.cell? ⟨lb, o, none⟩ = some v :=
  (World.cell?_of_block (w := w) (h.block lb hl hne)).trans hc
theorem below_at {B : Nat} {w w' : World} (h : Below B w w') {lb o : Nat} {v : Value} (hl : lb < B) (hc : w.cell? ⟨lb, o, none⟩ = some v) : w'.cell? ⟨lb, o, none⟩ = some v :=
  (h.cell hl).trans hc

/-- both have read alike, and then a cut that is none was asked -/
theorem alike_close {W w w1 w2 w3 : World} {s : ByteArray} {B1 B2 a' : Nat} {f' : Int} {l' : ByteArray} (hW : Below W.heap.size W w) (hBW : W.heap.size ≤ B1) (hBB : B2 = B1 + 1)
    (hA : CutAt w1 B1 l' f') (hT1 : Touch B1 w w1) (hR : RefAt w2 B2 s a' f') (hE : unread s a' = l') (hT2 : Touch B2 w1 w2) (h3 : Below w2.heap.size w2 w3) : Alike2 W s B1 B2 w3 := by
  refine ⟨a', f', ?_, hR.of_block (h3.block _ hR.lt), ?_⟩
  · rw [hE]
    exact (hA.of_block (hT2.block _ hA.lt (by omega))).below h3 (Nat.lt_of_lt_of_le hA.lt hT2.size)
  · have := hW.size
    have s1 := hT1.size
    have s2 := hT2.size
    exact ((hW.trans (hT1.toBelow hBW (by omega))).trans (hT2.toBelow (by omega) (by omega))).trans (h3.mono (by omega))

theorem unread_zero (s : ByteArray) : unread s 0 = s := by
  apply ext_list; rw [unread, extract_list, List.drop_zero, Nat.sub_zero, List.take_of_length_le (by rw [size_list]; exact Nat.le_refl _)]

set_option maxRecDepth 100000 in
set_option maxHeartbeats 800000 in
theorem reads_walk (s : ByteArray) (a1 : Option Addr) (len cap : Nat) (w0 : s.size ≤ maxLen) (hlc : len ≤ maxLen) (W : World) (ho : IsOps W a1 len) :
    Calls Try.prog 4 #[.string s, .slice a1 len cap] W fun e w' => e = .returned (.bool true) ∧ Below W.heap.size W w' := by
  unfold maxLen at w0 hlc
  by_cases hs : s.size ≤ 3000
  · by_cases hl : len ≤ 200
    · have Ho := Lib.hid ho
      clear ho
      go_enter Try.func4, Try.ntmps4
      go_wp2_with fail
      refine (works_any _).mono ?_
      rintro e w1 ⟨rfl, h1⟩
      have h0 := Lib.hid h1
      clear h1
      go_wp2_with fail
      refine (new_any _ _).mono ?_
      rintro e w2 ⟨rfl, rfl⟩
      have hf := Lib.hid (CutAt.fresh w1 s 54)
      have hB1 := h0.out.size
      have h0 := Lib.hid (h0.out.alloc hB1 (.cells #[.string s, .int .i64 0] 54))
      have hz : (w1.alloc (.cells #[.string s, .int .i64 0] 54)).heap.size = w1.heap.size + 1 := by simp
      have Hz := Lib.hid hz
      clear hz
      generalize w1.alloc (.cells #[.string s, .int .i64 0] 54) = w2 at *
      go_wp2_with fail
      obtain ⟨B1, hB1e⟩ : ∃ B1, B1 = w1.heap.size := ⟨_, rfl⟩
      obtain ⟨B2, hB2e⟩ : ∃ B2, B2 = w2.heap.size := ⟨_, rfl⟩
      rw [← hB1e, ← hB2e]
      have hst : Alike2 W s B1 B2 (w2.alloc (.cells #[.string s, .int .i64 0, .int .i64 0] 38)) := by
        have hb := Below.alloc (Below.refl w2.heap.size w2) (Nat.le_refl _) (.cells #[.string s, .int .i64 0, .int .i64 0] 38)
        refine ⟨0, 0, ?_, by rw [hB2e]; exact RefAt.fresh w2 s _, h0.out.trans (hb.mono h0.out.size)⟩
        rw [unread_zero, hB1e]
        exact hf.out.below hb hf.out.lt
      have hBW : W.heap.size ≤ B1 := by rw [hB1e]; exact hB1
      have hBB : B2 = B1 + 1 := by rw [hB1e, hB2e]; exact Hz.out
      have HBB := Lib.hid hBB
      clear hBB hf h0 hB1 Hz
      generalize w2.alloc (.cells #[.string s, .int .i64 0, .int .i64 0] 38) = w3 at *
      clear hB1e hB2e
      have Hst := Lib.hid hst
      clear hst
      go_loopg [8] len (fun g i wr => ∃ k : Nat, k + g = len ∧ i = .int .i64 k ∧ Alike2 W s B1 B2 wr)
      case atStart => exact ⟨0, by omega, rfl, Hst.out⟩
      case round =>
        obtain ⟨k, hk, rfl, hst⟩ := hrel
        have Hst := Lib.hid hst
        clear hst
        by_cases hlt : k < len
        · rcases Ho.out with h0 | ⟨lb, off, ha, hlb, hcells⟩
          · omega
          subst ha
          obtain ⟨kind, n, hck, hcn⟩ := hcells k hlt
          clear hcells
          obtain ⟨a, f, hA, hR, hW⟩ := Hst.out
          have hck : wr.cell? ⟨lb, off + k * 2, none⟩ = some (.int .i64 kind) := (hW.cell hlb).trans hck
          have hcn : wr.cell? ⟨lb, off + k * 2 + 1, none⟩ = some (.int .i64 n) := (hW.cell hlb).trans hcn
          have hlB := Lib.hid (show lb < B1 by omega)
          have HA := Lib.hid hA
          have HR := Lib.hid hR
          have HW := Lib.hid hW
          clear hA hR hW Hst Ho
          have HlW := Lib.hid (show lb < wr.heap.size from Nat.lt_of_lt_of_le hlb HW.out.size)
          have HlA := Lib.hid (show lb ≠ B1 by have := hlB.out; omega)
          have HlR := Lib.hid (show lb ≠ B2 by have := hlB.out; have := HBB.out; omega)
          have HRA := Lib.hid (show B2 ≠ B1 by have := HBB.out; omega)
          have Hus := Lib.hid (show (unread s a).size ≤ 4000 by rw [unread_size]; omega)
          go_upto_block 2 with fail
          go_cut [9] (fun ok wx => ok = .bool true ∧ Alike2 W s B1 B2 wx)
          case first =>
            by_cases k0 : kind = 0
            · subst k0
              go_wp2_with fail
              go_region_held3 (fun w' => w'.cell? ⟨lb, off + k * 2 + 1, none⟩ = some (.int .i64 n))
                (first | exact hcn | exact hT1.at_ HlW.out HlA.out hcn | exact hT2.at_ (Nat.lt_of_lt_of_le HlW.out hT1.size) HlR.out (hT1.at_ HlW.out HlA.out hcn) | exact below_at h3 (Nat.lt_of_lt_of_le (Nat.lt_of_lt_of_le HlW.out hT1.size) hT2.size) (hT2.at_ (Nat.lt_of_lt_of_le HlW.out hT1.size) HlR.out (hT1.at_ HlW.out HlA.out hcn)))
                (first
                  | (go_at_call_of 16 (Value.pointer none); refine (numNil_any n _).mono ?_; rintro e w' ⟨rfl, h3⟩)
                  | (go_at_call 16; refine (num_any B1 (unread s a) f n _ Hus.out (by exact HA.out.of_block rfl)).mono ?_; rintro e w' ⟨rfl, hA2, hT1⟩)
                  | (go_at_call 17; refine (rn_any B2 s a f n _ (by omega) (by exact HR.out.of_block (hT1.block B2 HR.out.lt HRA.out))).mono ?_; rintro e w' ⟨rfl, hR2, hE, hT2⟩))
              all_goals (
                go_wp2_with fail
                go_meet
                exact ⟨rfl, alike_close HW.out.drew hBW HBB.out hA2 hT1 hR2 hE hT2 h3⟩)
            · by_cases k1 : kind = 1
              · subst k1
                go_wp2_with fail
                go_region_held3 (fun w' => w'.cell? ⟨lb, off + k * 2 + 1, none⟩ = some (.int .i64 n))
                  (first | exact hcn | exact hT1.at_ HlW.out HlA.out hcn | exact hT2.at_ (Nat.lt_of_lt_of_le HlW.out hT1.size) HlR.out (hT1.at_ HlW.out HlA.out hcn))
                  (first
                    | (go_at_call_of 18 (Value.pointer none); refine (bytes_nil n _).mono ?_; rintro e w' ⟨rfl, rfl⟩)
                    | (go_at_call 18; refine (bytes_any B1 (unread s a) f n _ Hus.out (by exact HA.out.of_block rfl)).mono ?_; rintro e w' ⟨rfl, hA2, hT1⟩)
                    | (go_at_call 19; refine (rb_any B2 s a f n _ (by omega) (by exact HR.out.of_block (hT1.block B2 HR.out.lt HRA.out))).mono ?_; rintro e w' ⟨rfl, hR2, hE, hT2⟩))
                all_goals (
                  go_wp2_with fail
                  go_meet
                  exact ⟨rfl, alike_close HW.out.drew hBW HBB.out hA2 hT1 hR2 hE hT2 (Below.refl _ _)⟩)
              · by_cases k2 : kind = 2
                · subst k2
                  have hr1 := rest_any B1 (unread s a) f _ Hus.out HA.out
                  rw [unread_size] at hr1
                  have Hr1 := Lib.hid hr1
                  clear hr1
                  go_wp2_with fail
                  refine Hr1.out.mono ?_
                  rintro e w5 ⟨rfl, hA2, hT1⟩
                  have hr2 := rr_any B2 s a f w5 (by omega) (HR.out.of_block (hT1.block B2 HR.out.lt HRA.out))
                  rw [unread_size] at hr2
                  have Hr2 := Lib.hid hr2
                  have hA2 := Lib.hid hA2
                  have hT1 := Lib.hid hT1
                  clear hr2
                  go_wp2_with fail
                  refine Hr2.out.mono ?_
                  rintro e w6 ⟨rfl, hR2, hE, hT2⟩
                  have hR2 := Lib.hid hR2
                  have hE := Lib.hid hE
                  have hT2 := Lib.hid hT2
                  go_wp2_with fail
                  refine (rest_nil _).mono ?_
                  rintro e w7 ⟨rfl, rfl⟩
                  go_wp2_with fail
                  go_meet
                  exact ⟨rfl, alike_close HW.out hBW HBB.out hA2.out hT1.out hR2.out hE.out hT2.out (Below.refl _ _)⟩
                · have k0' : (kind == 0) = false := by simpa using k0
                  have k1' : (kind == 1) = false := by simpa using k1
                  have k2' : (kind == 2) = false := by simpa using k2
                  go_wp2_with fail
                  go_meet
                  exact ⟨rfl, a, f, HA.out, HR.out, HW.out⟩
          case rest =>
            clear HA HR HW Hus
            obtain ⟨rfl, a2, f2, hA, hR, hW⟩ := hcut
            have hc0 := hR.c0
            have hc1 := hR.c1
            have hle := hR.le
            have hsub : IntKind.i64.wrap ((s.size : Int) - a2) = (s.size : Int) - a2 := IntWalk.i64_in _ (by omega)
            have hleft : ∀ w, w.heap = wc.heap → Calls Try.prog 22 #[.pointer (some ⟨B1, 0, none⟩)] w fun e w' => e = .returned (.int .i64 ((s.size : Int) - a2)) ∧ w' = w := fun w hw => by
              have h := left_any B1 (unread s a2) w (by rw [unread_size]; omega) (hA.of_block (by rw [hw])).c0
              rw [unread_size] at h
              rw [show (s.size : Int) - a2 = ((s.size - a2 : Nat) : Int) by omega]
              exact h.mono fun _ _ h => ⟨h.1, h.2.symm⟩
            have hdone : ∀ w, w.heap = wc.heap → Calls Try.prog 23 #[.pointer (some ⟨B1, 0, none⟩)] w fun e w' => e = .returned (.int .i64 (doneOf (unread s a2) f2)) ∧ w' = w := fun w hw =>
              (done_any B1 (unread s a2) f2 w (hA.of_block (by rw [hw]))).mono fun _ _ h => ⟨h.1, h.2.symm⟩
            have hdon2 : ∀ w, w.heap = wc.heap → Calls Try.prog 24 #[.pointer (some ⟨B2, 0, none⟩)] w fun e w' => e = .returned (.int .i64 (doneOf (unread s a2) f2)) ∧ ∃ k, w' = w.drewN k := fun w hw =>
              rd_any B2 s a2 f2 w (by omega) (hR.of_block (by rw [hw]))
            have Hdone := Lib.hid hdone
            have Hdon2 := Lib.hid hdon2
            clear hdone hdon2
            have Hleft := Lib.hid hleft
            have HA := Lib.hid hA
            have HR := Lib.hid hR
            have HW := Lib.hid hW
            clear hleft hA hR hW
            go_wp2_with fail
            go_quiet ((first
              | (go_at_call 22; exact Calls.quiet_of_same (Hleft.out _ (by rfl)))
              | (go_at_call 23; exact Calls.quiet_of_same (Hdone.out _ (by rfl)))
              | (go_at_call 24; exact Calls.quiet_of (Hdon2.out _ (by rfl)))))
            go_wp2_with fail
            go_roundg (gk - 1)
            case measure => omega
            case rel => exact ⟨k + 1, by omega, by go_num, a2, f2, HA.out.of_block rfl, HR.out.drewN _, below_drewN HW.out _⟩
        · obtain ⟨a2, f2, hA, hR, hW⟩ := Hst.out
          have HW := Lib.hid hW
          clear hA hR hW Hst Ho
          go_wp2_with fail
          refine (left_nil _).mono ?_
          rintro e w7 ⟨rfl, rfl⟩
          go_wp2_with fail
          refine (done_nil _).mono ?_
          rintro e w8 ⟨rfl, rfl⟩
          go_wp2_with fail
          go_ret
          exact ⟨rfl, HW.out⟩
    · have hl2 : (200 : Int) < len := by omega
      go_enter Try.func4, Try.ntmps4
      go_wp2_with fail
      refine (works_any _).mono ?_
      rintro e w1 ⟨rfl, h1⟩
      go_wp2_with fail
      go_ret
      exact ⟨rfl, h1⟩
  · go_enter Try.func4, Try.ntmps4
    go_wp2_with fail
    refine (works_any _).mono ?_
    rintro e w1 ⟨rfl, h1⟩
    go_wp2_with fail
    go_ret
    exact ⟨rfl, h1⟩
end Go.Proofs.Ytenpcdloidgckaa.Oct
