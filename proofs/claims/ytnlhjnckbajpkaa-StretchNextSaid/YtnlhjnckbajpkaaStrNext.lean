/- The walk of StretchNext. -/
import Derived.Test.YtnlhjnckbajpkaaStrTells
import Derived.Deep.QuietTactic
import Derived.BigQuiet
namespace Go.Proofs.Ytnlhjnckbajpkaa.Circ
open Go.ChangeShapes Go.WideShapes Go.ChangeAt Go.RowKit
open Go.Proofs.Ytnlhjnckbajpkaa.LInt
set_option linter.unusedVariables false

theorem next_short (f s : Int) (k : Nat) : shortc (nextc f s k) = shortc s := by unfold nextc shortc ofc; omega
theorem next_long (f s : Int) : nextc (ofc (f + -8388607)) s 0 = longc f s := by unfold nextc longc ofc; split <;> omega
theorem nexts_get (f s : Int) (h k : Nat) (hk : k < h) : (nexts f s h).getD k 0 = nextc f s k := by
  simp [nexts, List.getD, List.getElem?_map, List.getElem?_range hk]
theorem nexts_one (f s : Int) : nexts (ofc (f + -8388607)) s (manyNext 1) = [longc f s] := by
  rw [show manyNext 1 = 1 by decide]; simp [nexts, ← next_long]

/-- the same memory, behind some draws -/
def Drew (w w' : World) : Prop := ∃ n, w' = w.drewN n
theorem Drew.refl (w : World) : Drew w w := ⟨0, rfl⟩
theorem Drew.more {w w' : World} (h : Drew w w') (n : Nat) : Drew w (w'.drewN n) := by
  obtain ⟨m, rfl⟩ := h; exact ⟨m + n, World.drewN_drewN _ _ _⟩
theorem Drew.cell {w w' : World} (h : Drew w w') (a : Addr) : w'.cell? a = w.cell? a := by
  obtain ⟨m, rfl⟩ := h; simp
theorem Drew.below {w w' : World} (h : Drew w w') : Below w.heap.size w w' := by
  obtain ⟨m, rfl⟩ := h
  exact ⟨rfl, rfl, rfl, Nat.le_refl _, fun _ _ => rfl⟩

set_option maxRecDepth 100000 in
set_option maxHeartbeats 800000 in
theorem StretchNext_walk (a0 a1 a2 : Int) (w : World) (w0 : (Lit.int .i64 a0).wf = true) (w1 : (Lit.int .i64 a1).wf = true) (w2 : (Lit.int .i64 a2).wf = true) :
    Calls Try.prog 5 #[.int .i64 a0, .int .i64 a1, .int .i64 a2] w fun e w' => e = .returned (.bool true) ∧ Below w.heap.size w w' := by
  clear w0 w1 w2
  go_enter Try.func5, Try.ntmps5
  go_wp2_with fail
  refine (worksStr_any _).mono ?_
  rintro e w1 ⟨rfl, hb1⟩
  have hz1 := hb1.size
  go_wp2_with fail
  refine (next_any _ _ _ _).mono ?_
  rintro e w2 ⟨v, rfl, hv, hb2⟩
  have hz2 := hb2.size
  go_wp2_with fail
  refine (refNext_any _ _ _ _).mono ?_
  rintro e w3 ⟨u, rfl, hu, hb3⟩
  have hz3 := hb3.size
  have Hv := Lib.hid (hv.at.below (Nat.le_refl _) hb3)
  have Hu := Lib.hid hu.at
  have Hb : Hid (Below w.heap.size w w3) := (hb1.trans (hb2.mono hz1)).trans (hb3.mono (by omega))
  clear hv hu hb1 hb2 hb3
  have hn := Lib.hid (nexts_length a0 a1 (manyNext a2))
  have hg := fun k hk => nexts_get a0 a1 (manyNext a2) k hk
  have Hg := Lib.hid hg
  clear hg
  have hle := manyNext_le a2
  generalize nexts a0 a1 (manyNext a2) = xs at *
  generalize manyNext a2 = h at *
  obtain ⟨a, cap, b, cap', hve, hue, hcell⟩ : ∃ a cap b cap', v = .slice a xs.length cap ∧ u = .slice b xs.length cap' ∧ (∀ k, k < h → ∃ g g', a = some ⟨g, 0, none⟩ ∧ b = some ⟨g', 0, none⟩ ∧
      w3.cell? ⟨g, k, none⟩ = some (.int .i64 (nextc a0 a1 k)) ∧ w3.cell? ⟨g', k, none⟩ = some (.int .i64 (nextc a0 a1 k))) := by
    have h1 := Hv.out
    have h2 := Hu.out
    have h3 := hn.out
    rcases h1 with ⟨h4, rfl⟩ | ⟨g, cap, rfl, _, _, hc⟩
    · rcases h2 with ⟨h5, rfl⟩ | ⟨g', cap', rfl, _, _, hc'⟩
      · exact ⟨_, _, _, _, by rw [h4]; rfl, by rw [h4]; rfl, fun k hk => by rw [h4] at h3; simp at h3; omega⟩
      · exact ⟨_, _, _, _, by rw [h4]; rfl, rfl, fun k hk => by rw [h4] at h3; simp at h3; omega⟩
    · rcases h2 with ⟨h5, rfl⟩ | ⟨g', cap', rfl, _, _, hc'⟩
      · exact ⟨_, _, _, _, rfl, by rw [h5]; rfl, fun k hk => by rw [h5] at h3; simp at h3; omega⟩
      · exact ⟨_, _, _, _, rfl, rfl, fun k hk => ⟨g, g', rfl, rfl, by rw [hc k (by omega), Hg.out k hk], by rw [hc' k (by omega), Hg.out k hk]⟩⟩
  subst hve hue
  have Hc := Lib.hid hcell
  clear Hv Hu Hg hcell
  have h3 := hn.out
  subst h3
  clear hn
  go_wp2_with fail
  go_loopw [9] (fun i wr => ∃ k : Nat, k ≤ xs.length ∧ i = .int .i64 k ∧ Drew w3 wr) (fun i _ => xs.length - (intOf i).toNat)
  case atStart => exact ⟨0, Nat.zero_le _, rfl, Drew.refl _⟩
  case round =>
    obtain ⟨k, hk, rfl, hw⟩ := hrel
    by_cases hlt : k < xs.length
    · obtain ⟨g, g', rfl, rfl, hc1, hc2⟩ := Hc.out k hlt
      have hc1 := (hw.cell _).trans hc1
      have hc2 := (hw.cell _).trans hc2
      have hsx := next_short a0 a1 k
      have hi1 : (k : Int) < (xs.length : Int) := by omega
      have hi0 : (0 : Int) ≤ (k : Int) := by omega
      generalize nextc a0 a1 k = x at *
      go_wp2_with fail
      go_quiet ((go_at_call 8; exact Calls.quiet_of_same (short_any _ _)))
      have hw' := Lib.hid (hw.more nq)
      clear hc1 hc2 hw
      go_wp2_with fail
      refine ⟨⟨k + 1, by omega, by go_num, hw'.out⟩, by simp [intOf]; omega⟩
    · obtain rfl : k = xs.length := by omega
      have hw' := Lib.hid (hw.below)
      clear hw
      go_wp2_with fail
      refine (refAdd_any _ _ _).mono ?_
      rintro e w4 ⟨rfl, rfl⟩
      go_wp2_with fail
      refine (next_any _ _ _ _).mono ?_
      rintro e w5 ⟨v, rfl, hv, hb5⟩
      rw [nexts_one] at hv
      rcases hv.at with ⟨h, _⟩ | ⟨g, cap, rfl, _, hg, hc⟩
      · simp at h
      have hc0 := hc 0 (by simp)
      have Hb5 := Lib.hid hb5
      clear hc hv hb5
      go_wp2_with fail
      go_quiet ((go_at_call 10; exact Calls.quiet_of_same (long_any _ _ _)))
      go_wp2_with fail
      go_ret
      refine ⟨rfl, ?_⟩
      have h1 := hw'.out.size
      have h2 := Hb5.out.size
      have h3 := Hb.out.size
      exact ((Hb.out.trans (hw'.out.mono h3)).trans (Hb5.out.mono (by omega))).trans ⟨rfl, rfl, rfl, Nat.le_refl _, fun _ _ => rfl⟩
end Go.Proofs.Ytnlhjnckbajpkaa.Circ
