/- Options of several paths: what the program finds wrong, puts and gets is what the document says, plain. -/
import Derived.Test.YtmkngolkflihlaaMp1
import Derived.Test.YtmkngolkflihlaaMpR3
import Derived.Test.YtmkngolkflihlaaRefCutP
namespace Go.Proofs.Ytmkngolkflihlaa.Mp
open Go.ChangeShapes Go.WideShapes Go.ChangeAt Go.RowKit
set_option linter.unusedVariables false

theorem bytes_zero : (⟨#[]⟩ : ByteArray) = ByteArray.empty := rfl
theorem pcheck_eq (m : M) : pcheck m = check m := by
  cases hk : known m.kind
  · simp [pcheck, check, hk]
  · obtain ⟨k, a, p, t, n, q, y⟩ := m
    dsimp only at hk
    rcases kinds k hk with rfl | rfl | rfl | rfl | rfl | rfl | rfl | rfl | rfl | rfl | rfl
    all_goals
      simp [pcheck, check, known, fields, wrongs, wrongF, zeros, empties, emptyF, zeroF, everyF, M.get, M.set, M.setB, farAny, vainAny, far, vain, za, zp, zt, zn, lo, hi, size1, bytes_zero]
      repeat' split
      all_goals first | rfl | omega | (simp_all; done) | skip

theorem check_known {m : M} (h : check m = 0) : known m.kind = true := by
  cases hk : known m.kind
  · simp [check, hk] at h
  · rfl
/-- what is put -/
theorem putOf_eq (m : M) (h : check m = 0) : putOf m = ⟨(Oct.be m.kind.toNat 1 ++ puts m (fields m.kind)).toArray⟩ := by
  have hk := check_known h
  have hy : hi m.kind = 0 → m.bytes.size = 0 := by
    intro hh
    cases hf : farAny m
    · simp only [check, hk, hf] at h
      simp at h
      split at h
      · simp at h
      · split at h
        · simp at h
        · split at h
          · simp at h
          · rename_i h3; 
            have : ¬ (hi m.kind = 0 ∧ m.bytes.size ≠ 0) := by simpa using h3
            omega
    · simp [check, hk, hf] at h
  have e : putOf m = ⟨(pre m 5 ++ m.bytes.data.toList).toArray⟩ := by
    rw [← Oct.bs_append]; rfl
  have hz : m.bytes.size = 0 → m.bytes.data.toList = [] := fun h => List.eq_nil_of_length_eq_zero (by rw [Array.length_toList]; exact h)
  rw [e]
  congr 2
  obtain ⟨k, a, p, t, n, q, y⟩ := m
  dsimp only at hk hy hz ⊢
  rcases kinds k hk with rfl | rfl | rfl | rfl | rfl | rfl | rfl | rfl | rfl | rfl | rfl
  all_goals
    simp [pre, zs, za, zp, zt, zn, fields, puts, putF, fieldAt, M.get, Oct.be] 
    try (first | exact hz (hy (by simp [hi])) | simpa using hz (hy (by simp [hi])))
end Go.Proofs.Ytmkngolkflihlaa.Mp
