/- The walk of InetPatched. -/
import Derived.Test.YtjfmdfmfefjhnaaInetPut
namespace Go.Proofs.Ytjfmdfmfefjhnaa.Inet
open Go.ChangeShapes Go.WideShapes Go.ChangeAt Go.RowKit
open Go.Proofs.Ytjfmdfmfefjhnaa.Oct (nat64 u64_lt fits_u16)
set_option linter.unusedVariables false

theorem patched_ok (s : ByteArray) (k n : Nat) (hk : k + 1 < s.size) (he : k % 2 = 0) (hn : n ≤ 65535) :
    sumOf (ws (putted s k (UInt8.ofNat (n / 256)) (UInt8.ofNat n))) = patchc (sumOf (ws s)) (256 * byteAt s k + byteAt s (k + 1) : Nat) n ∨
    (sumOf (ws (putted s k (UInt8.ofNat (n / 256)) (UInt8.ofNat n))) + patchc (sumOf (ws s)) (256 * byteAt s k + byteAt s (k + 1) : Nat) n = 65535 ∧
      (sumOf (ws (putted s k (UInt8.ofNat (n / 256)) (UInt8.ofNat n))) = 0 ∨ patchc (sumOf (ws s)) (256 * byteAt s k + byteAt s (k + 1) : Nat) n = 0)) := by
  have h1 := ws_putted s k (UInt8.ofNat (n / 256)) (UInt8.ofNat n) hk he
  have h0 := ws_putted s k 0 0 hk he
  have hu : (UInt8.ofNat (n / 256)).toNat = n / 256 := by simp; omega
  have hv : (UInt8.ofNat n).toNat = n % 256 := by simp
  rw [hu, hv] at h1
  have hz : (0 : UInt8).toNat = 0 := rfl
  rw [hz] at h0
  have b0 := byteAt_lt s k
  have b1 := byteAt_lt s (k + 1)
  have hb := sumOf_bd (ws s)
  obtain ⟨o, ho⟩ : ∃ o, 256 * byteAt s k + byteAt s (k + 1) = o := ⟨_, rfl⟩
  rw [ho] at h1 h0 ⊢
  have := patched (ws s : Nat) o n (sumOf (ws s)) (by omega) (by omega) (by omega) (by omega) (by omega) (by omega) rfl
  simp only at this
  unfold patchc
  have e1 : ((ws (putted s k (UInt8.ofNat (n / 256)) (UInt8.ofNat n)) : Nat) : Int) = (ws s : Nat) - (o : Int) + (n : Int) := by omega
  have e2 : sumOf (ws s) % 65536 = sumOf (ws s) := by omega
  have e3 : (o : Int) % 65536 = o := by omega
  have e4 : (n : Int) % 65536 = n := by omega
  rw [e2, e3, e4]
  have e5 : sumOf (ws (putted s k (UInt8.ofNat (n / 256)) (UInt8.ofNat n))) = 65535 - carry ((ws s : Nat) - (o : Int) + (n : Int)) := by unfold sumOf; rw [e1]
  rw [e5]
  exact this

theorem placed (s : ByteArray) (a : Int) (h2 : 2 ≤ s.size) : ∃ k : Nat, 2 * (nat64 a % (s.size / 2)) = k ∧ k + 1 < s.size ∧ k % 2 = 0 := by
  refine ⟨_, rfl, ?_, by omega⟩
  have := Nat.mod_lt (nat64 a) (show s.size / 2 > 0 by omega)
  omega

theorem place_is (s : ByteArray) (a : Int) (k : Nat) (hs : s.size ≤ 3000) (h2 : 2 ≤ s.size) (hk : 2 * (nat64 a % (s.size / 2)) = k) :
    wrap64 (2 * wrap64 ((IntKind.u64.wrap a).tmod (↑s.size / 2))) = (k : Int) := by
  rw [u64_wrap, show ((s.size : Int) / 2) = ((s.size / 2 : Nat) : Int) by omega, ← Int.ofNat_tmod]
  have := Nat.mod_lt (nat64 a) (show s.size / 2 > 0 by omega)
  generalize nat64 a % (s.size / 2) = m at *
  unfold wrap64
  omega

/-- the last test, decided -/
theorem last_test (a b : Int) (h : a = b ∨ (a + b = 65535 ∧ (a = 0 ∨ b = 0))) : (a == b) = true ∨ ((a == b) = false ∧ (a + b == 65535) = true ∧ ((a == 0) = true ∨ ((a == 0) = false ∧ (b == 0) = true))) := by
  by_cases h1 : a = b
  · exact .inl (by simp [h1])
  · rcases h with h | ⟨h2, h3⟩
    · exact absurd h h1
    · refine .inr ⟨by simpa using h1, by simpa using h2, ?_⟩
      by_cases h4 : a = 0
      · exact .inl (by simp [h4])
      · exact .inr ⟨by simpa using h4, by simpa using h3.resolve_left h4⟩

set_option maxRecDepth 100000 in
set_option maxHeartbeats 800000 in
theorem InetPatched_walk (s : ByteArray) (a1 a2 : Int) (w : World) (w0 : s.size ≤ maxLen) (w1 : (Lit.int .i64 a1).wf = true) (w2 : (Lit.int .u16 a2).wf = true) :
    Calls Try.prog 4 #[.string s, .int .i64 a1, .int .u16 a2] w fun e w' => e = .returned (.bool true) ∧ Below w.heap.size w w' := by
  unfold maxLen at w0
  have hwn := Lib.hid (u64_wrap a1)
  obtain ⟨n, rfl, hn⟩ : ∃ m : Nat, a2 = (m : Int) ∧ m ≤ 65535 := by
    have := fits_u16 w2
    exact ⟨a2.toNat, by omega, by omega⟩
  clear w1 w2
  by_cases h3 : 3000 < s.size
  · go_enter Try.func4, Try.ntmps4
    go_wp2_with fail
    refine (works_any _).mono ?_
    rintro e w1 ⟨rfl, h1⟩
    go_wp2_with fail
    go_ret
    exact ⟨rfl, h1⟩
  by_cases h2 : s.size < 2
  · go_enter Try.func4, Try.ntmps4
    go_wp2_with fail
    refine (works_any _).mono ?_
    rintro e w1 ⟨rfl, h1⟩
    go_wp2_with fail
    go_ret
    exact ⟨rfl, h1⟩
  have h4 : s.size ≤ 3000 := by omega
  have h5 : 2 ≤ s.size := by omega
  clear h2 h3
  go_enter Try.func4, Try.ntmps4
  go_wp2_with fail
  refine (works_any _).mono ?_
  rintro e w1 ⟨rfl, h1⟩
  have h0 := Lib.hid h1
  clear h1
  go_wp2_with fail
  obtain ⟨k, hk, hk1, hk2⟩ := placed s a1 h5
  rw [place_is s a1 k h4 h5 hk]
  clear hk
  have hpz := Lib.hid (putted_size s k (UInt8.ofNat (n / 256)) (UInt8.ofNat n))
  have hok := patched_ok s k n hk1 hk2 hn
  have hbd1 := sumOf_bd (ws (putted s k (UInt8.ofNat (n / 256)) (UInt8.ofNat n)))
  have hbd2 : 0 ≤ patchc (sumOf (ws s)) (256 * byteAt s k + byteAt s (k + 1) : Nat) n ∧ patchc (sumOf (ws s)) (256 * byteAt s k + byteAt s (k + 1) : Nat) n ≤ 65535 := by
    unfold patchc; have := carry_bd _ (patch_in (sumOf (ws s)) (256 * byteAt s k + byteAt s (k + 1) : Nat) n).1; omega
  have hlast := last_test _ _ hok
  clear hok
  refine (put_any s k n _ h4 hk1 hn).mono ?_
  rintro e w2 ⟨rfl, h1⟩
  have h0 := Lib.hid (h0.out.trans (h1.mono h0.out.size))
  clear h1
  obtain ⟨o, ho⟩ : ∃ o, 256 * byteAt s k + byteAt s (k + 1) = o := ⟨_, rfl⟩
  rw [ho] at hbd2 hlast ⊢
  clear ho
  obtain ⟨t, ht⟩ : ∃ t, putted s k (UInt8.ofNat (n / 256)) (UInt8.ofNat n) = t := ⟨_, rfl⟩
  rw [ht] at hbd1 hlast hpz ⊢
  clear ht
  go_wp2_with fail
  refine (sum1_any t _ (by rw [hpz.out]; omega) _ rfl).mono ?_
  rintro e w3 ⟨rfl, h1⟩
  have h0 := Lib.hid (h0.out.trans (h1.mono h0.out.size))
  clear h1
  obtain ⟨x, hx⟩ : ∃ x, sumOf (ws t) = x := ⟨_, rfl⟩
  rw [hx] at hbd1 hlast ⊢
  clear hx
  go_wp2_with fail
  refine (sum1_any s _ (by omega) _ rfl).mono ?_
  rintro e w3 ⟨rfl, h1⟩
  have h0 := Lib.hid (h0.out.trans (h1.mono h0.out.size))
  clear h1
  go_wp2_with fail
  refine (patch_any _ _ _ _).mono ?_
  rintro e w3 ⟨rfl, rfl⟩
  obtain ⟨y, hy⟩ : ∃ y, patchc (sumOf (ws s)) o n = y := ⟨_, rfl⟩
  rw [hy] at hbd2 hlast ⊢
  clear hy
  rcases hlast with h1 | ⟨h1, h2, h3 | ⟨h3, h4⟩⟩
  all_goals
    go_wp2_with fail
    go_ret
    exact ⟨rfl, h0.out⟩
end Go.Proofs.Ytjfmdfmfefjhnaa.Inet
