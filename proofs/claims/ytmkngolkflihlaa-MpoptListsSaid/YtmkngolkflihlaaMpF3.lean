/- The fields that a kind has, and all of them: contracts. -/
import Derived.Test.YtmkngolkflihlaaMpF2
import Derived.BigRegion
namespace Go.Proofs.Ytmkngolkflihlaa.Mp
open Go.ChangeShapes Go.WideShapes Go.ChangeAt Go.RowKit
set_option linter.unusedVariables false

/-- a field as a value, of what lies in block b -/
def fv (b : Nat) : Fld → Value
  | .num j z => .iface 75 (nv b j z)
  | .txt s l => .iface 78 (xv b s l)
/-- what a slice of fields reads as -/
def FldsAt (w : World) (base b : Nat) (v : Value) (l : List Fld) : Prop :=
  (l = [] ∧ v = .slice none 0 0) ∨ (l ≠ [] ∧ ∃ g cap, v = .slice (some ⟨g, 0, none⟩) l.length cap ∧ base ≤ g ∧ g < w.heap.size ∧ ∀ i f, l[i]? = some f → w.cell? ⟨g, i, none⟩ = some (fv b f))
/-- behind a call that gives them -/
def FldsEnd (b : Nat) (l : List Fld) (w : World) (e : Ending) (w' : World) : Prop := ∃ v, e = .returned v ∧ FldsAt w' w.heap.size b v l ∧ Below w.heap.size w w'

theorem fld_row {w0 w : World} {b : Nat} {l : List Fld} {cs : Array Value} (hb : Below w.heap.size w w0) (hs : w0.heap.size = w.heap.size) (hl : cs = (l.map (fv b)).toArray) (hne : l ≠ []) (n : Nat) (hn : n = l.length) :
    FldsEnd b l w (.returned (.slice (some ⟨w.heap.size, 0, none⟩) n n)) (w0.alloc (.cells cs 51)) := by
  subst hn
  refine ⟨_, rfl, .inr ⟨hne, w.heap.size, _, rfl, Nat.le_refl _, by simp [hs], fun i f hi => ?_⟩, hb.alloc (by omega) _⟩
  have e := heap_alloc_new w0 (.cells cs 51)
  rw [hs] at e
  rw [cell_of_row _ _ _ _ _ _ e, hl]
  simp [hi]

set_option maxRecDepth 100000 in
set_option maxHeartbeats 4000000 in
theorem fieldsOf_any (b : Nat) (m : M) (w : World) (h : RowM w b m) : Calls Try.prog 20 #[.pointer (some ⟨b, 0, none⟩)] w (FldsEnd b (fields m.kind) w) := by
  have c0 := (h.num 0 (by omega)).2
  change w.cell? ⟨b, 0, none⟩ = some (.int .i64 m.kind) at c0
  clear h
  obtain ⟨k, hk⟩ : ∃ k, k = m.kind := ⟨_, rfl⟩
  rw [← hk] at c0 ⊢
  clear hk
  by_cases h0 : k = 0
  · subst h0
    go_enter Try.func20, Try.ntmps20
    go_wp2_with fail
    go_region
    all_goals (
      go_wp2_with fail
      go_ret
      exact fld_row (l := fields 0) (belowN (Below.refl _ _) 1) rfl rfl (by simp [fields]) _ rfl)
  by_cases h1 : k = 1
  · subst h1
    go_enter Try.func20, Try.ntmps20
    go_wp2_with fail
    go_region
    all_goals (
      go_wp2_with fail
      go_ret
      exact fld_row (l := fields 1) (belowN (Below.refl _ _) 1) rfl rfl (by simp [fields]) _ rfl)
  by_cases h3 : k = 3
  · subst h3
    go_enter Try.func20, Try.ntmps20
    go_wp2_with fail
    go_ret
    exact fld_row (l := fields 3) (Below.refl _ _) rfl rfl (by simp [fields]) _ rfl
  by_cases h4 : k = 4
  · subst h4
    go_enter Try.func20, Try.ntmps20
    go_wp2_with fail
    go_ret
    exact fld_row (l := fields 4) (Below.refl _ _) rfl rfl (by simp [fields]) _ rfl
  by_cases h5 : k = 5
  · subst h5
    go_enter Try.func20, Try.ntmps20
    go_wp2_with fail
    go_ret
    exact fld_row (l := fields 5) (Below.refl _ _) rfl rfl (by simp [fields]) _ rfl
  by_cases h6 : k = 6
  · subst h6
    go_enter Try.func20, Try.ntmps20
    go_wp2_with fail
    go_ret
    exact fld_row (l := fields 6) (Below.refl _ _) rfl rfl (by simp [fields]) _ rfl
  by_cases h7 : k = 7
  · subst h7
    go_enter Try.func20, Try.ntmps20
    go_wp2_with fail
    go_region
    all_goals (
      go_wp2_with fail
      go_ret
      exact fld_row (l := fields 7) (belowN (Below.refl _ _) 1) rfl rfl (by simp [fields]) _ rfl)
  by_cases h8 : k = 8
  · subst h8
    go_enter Try.func20, Try.ntmps20
    go_wp2_with fail
    go_region
    all_goals (
      go_wp2_with fail
      go_ret
      exact fld_row (l := fields 8) (belowN (Below.refl _ _) 1) rfl rfl (by simp [fields]) _ rfl)
  by_cases h9 : k = 9
  · subst h9
    go_enter Try.func20, Try.ntmps20
    go_wp2_with fail
    go_region
    all_goals (
      go_wp2_with fail
      go_ret
      exact fld_row (l := fields 9) (belowN (Below.refl _ _) 1) rfl rfl (by simp [fields]) _ rfl)
  by_cases h10 : k = 10
  · subst h10
    go_enter Try.func20, Try.ntmps20
    go_wp2_with fail
    go_ret
    exact fld_row (l := fields 10) (Below.refl _ _) rfl rfl (by simp [fields]) _ rfl
  by_cases h11 : k = 11
  · subst h11
    go_enter Try.func20, Try.ntmps20
    go_wp2_with fail
    go_ret
    exact fld_row (l := fields 11) (Below.refl _ _) rfl rfl (by simp [fields]) _ rfl
  have hf : fields k = [] := fields_none (by simp [known]; omega)
  rw [hf]
  clear hf
  go_enter Try.func20, Try.ntmps20
  go_wp2_with fail
  go_ret
  exact ⟨_, rfl, .inl ⟨rfl, rfl⟩, Below.refl _ _⟩

set_option maxRecDepth 100000 in
set_option maxHeartbeats 16000000 in
theorem every_any (b : Nat) (w : World) : Calls Try.prog 26 #[.pointer (some ⟨b, 0, none⟩)] w (FldsEnd b everyF w) := by
  go_enter Try.func26, Try.ntmps26
  go_wp2_with fail
  go_still_tail 30, (by kernel_rfl)
  all_goals (
    go_wp2_with fail
    go_ret
    exact fld_row (l := everyF) (belowN (Below.refl _ _) 1) rfl rfl (by simp [everyF]) _ rfl)
end Go.Proofs.Ytmkngolkflihlaa.Mp
