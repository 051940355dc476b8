/- Plain mathematics of sums of numbers of two bytes: nothing of any program. -/
import Derived.Laws.Strings
import Derived.Lib.Hide
namespace Go.Proofs.Ytkjojfcknfhkhaa.Inet
set_option linter.unusedVariables false

/-- the byte at a place, 0 behind the end -/
def byteAt (s : ByteArray) (k : Nat) : Nat := (s.data.toList.getD k 0).toNat
/-- what a byte at place k counts -/
def worth (k b : Nat) : Nat := if k % 2 = 0 then 256 * b else b
/-- the first k bytes as numbers of two bytes, added -/
def wsum (s : ByteArray) : Nat → Nat
  | 0 => 0
  | k + 1 => wsum s k + worth k (byteAt s k)
/-- all bytes of a text -/
def ws (s : ByteArray) : Nat := wsum s s.size
/-- the first k of parts -/
def tot (f : Nat → Nat) : Nat → Nat
  | 0 => 0
  | k + 1 => tot f k + f k
/-- carries added at the lower end -/
def carry (n : Int) : Int := if n = 0 then 0 else (n - 1) % 65535 + 1

theorem size_list (s : ByteArray) : s.data.toList.length = s.size := Array.length_toList
theorem byteAt_lt (s : ByteArray) (k : Nat) : byteAt s k ≤ 255 := by unfold byteAt; have := (s.data.toList.getD k 0).toNat_lt; omega
theorem byteAt_get (s : ByteArray) (k : Nat) (h : k < s.size) : byteAt s k = s[k].toNat := by
  unfold byteAt
  have h' : k < s.data.toList.length := by rw [size_list]; exact h
  simp only [List.getD, List.getElem?_eq_getElem h', Option.getD_some]
  rfl
theorem worth_le (k b : Nat) (h : b ≤ 255) : worth k b ≤ 65280 := by unfold worth; split <;> omega
theorem wsum_le (s : ByteArray) (k : Nat) : wsum s k ≤ 65280 * k := by
  induction k with
  | zero => simp [wsum]
  | succ k ih => have := worth_le k _ (byteAt_lt s k); simp only [wsum]; omega
theorem ws_le (s : ByteArray) : ws s ≤ 65280 * s.size := wsum_le s _
theorem tot_le (f : Nat → Nat) (B n : Nat) (h : ∀ i, i < n → f i ≤ B) (k : Nat) (hk : k ≤ n) : tot f k ≤ B * k := by
  induction k with
  | zero => simp [tot]
  | succ k ih => have := h k (by omega); have := ih (by omega); simp only [tot, Nat.mul_succ]; omega
theorem tot_congr (f g : Nat → Nat) (n : Nat) (h : ∀ i, i < n → f i = g i) : tot f n = tot g n := by
  induction n with
  | zero => rfl
  | succ n ih => simp only [tot]; rw [ih (fun i hi => h i (by omega)), h n (by omega)]
theorem tot_add (f : Nat → Nat) (a b : Nat) : tot f (a + b) = tot f a + tot (fun i => f (a + i)) b := by
  induction b with
  | zero => simp [tot]
  | succ b ih => rw [← Nat.add_assoc]; simp only [tot]; rw [ih]; omega
/-- turned round, the sum is the same -/
theorem tot_turn (f : Nat → Nat) (n k : Nat) (hk : k < n) : tot (fun i => f ((i + k) % n)) n = tot f n := by
  have h1 := tot_add (fun i => f ((i + k) % n)) (n - k) k
  rw [show n - k + k = n by omega] at h1
  have h2 := tot_add f k (n - k)
  rw [show k + (n - k) = n by omega] at h2
  rw [h1, h2]
  have h3 : tot (fun i => f ((i + k) % n)) (n - k) = tot (fun i => f (k + i)) (n - k) := tot_congr _ _ _ (fun i hi => by
    show f ((i + k) % n) = f (k + i)
    rw [Nat.mod_eq_of_lt (by omega), Nat.add_comm])
  have h4 : tot (fun i => f ((n - k + i + k) % n)) k = tot f k := tot_congr _ _ _ (fun i hi => by
    show f ((n - k + i + k) % n) = f i
    rw [show n - k + i + k = i + n by omega, Nat.add_mod_right, Nat.mod_eq_of_lt (by omega)])
  rw [h3, h4]; omega

theorem byteAt_append (a b : ByteArray) (k : Nat) : byteAt (a ++ b) k = if k < a.size then byteAt a k else byteAt b (k - a.size) := by
  unfold byteAt
  have : (a ++ b).data.toList = a.data.toList ++ b.data.toList := by rw [ByteArray.data_append]; simp
  rw [this]
  split
  · rename_i h
    simp only [List.getD]
    rw [List.getElem?_append_left (by rw [size_list]; exact h)]
  · rename_i h
    simp only [List.getD]
    rw [List.getElem?_append_right (by rw [size_list]; omega), size_list]

theorem byteAt_end (s : ByteArray) (k : Nat) (h : s.size ≤ k) : byteAt s k = 0 := by
  unfold byteAt
  simp only [List.getD]
  rw [List.getElem?_eq_none (by rw [size_list]; exact h)]; rfl
theorem wsum_end (s : ByteArray) (j : Nat) : wsum s (s.size + j) = ws s := by
  induction j with
  | zero => rfl
  | succ j ih =>
    rw [← Nat.add_assoc]; simp only [wsum]
    rw [ih, byteAt_end s _ (by omega)]; unfold worth; split <;> omega

theorem wsum_congr (a b : ByteArray) (n : Nat) (h : ∀ k, k < n → byteAt a k = byteAt b k) : wsum a n = wsum b n := by
  induction n with
  | zero => rfl
  | succ n ih => simp only [wsum]; rw [ih (fun i hi => h i (by omega)), h n (by omega)]

theorem wsum_append (a b : ByteArray) (he : a.size % 2 = 0) (k : Nat) : wsum (a ++ b) (a.size + k) = ws a + wsum b k := by
  induction k with
  | zero =>
    simp only [wsum, Nat.add_zero, ws]
    exact wsum_congr _ _ _ (fun k hk => by rw [byteAt_append, if_pos hk])
  | succ k ih =>
    rw [← Nat.add_assoc]
    simp only [wsum]
    rw [ih, byteAt_append, if_neg (by omega), show a.size + k - a.size = k by omega]
    have : worth (a.size + k) (byteAt b k) = worth k (byteAt b k) := by unfold worth; rw [show (a.size + k) % 2 = k % 2 by omega]
    rw [this]; omega

theorem ws_append (a b : ByteArray) (he : a.size % 2 = 0) : ws (a ++ b) = ws a + ws b := by
  have h := wsum_append a b he b.size
  unfold ws at *
  rw [← h, ByteArray.size_append]

theorem ws_zero (s : ByteArray) : ws (s ++ ⟨#[0]⟩) = ws s := by
  have hs : (s ++ ⟨#[0]⟩).size = s.size + 1 := by rw [ByteArray.size_append]; rfl
  unfold ws
  rw [hs]
  simp only [wsum]
  rw [byteAt_append, if_neg (by omega), show s.size - s.size = 0 by omega]
  have : worth s.size (byteAt ⟨#[0]⟩ 0) = 0 := by unfold worth; have : byteAt ⟨#[0]⟩ 0 = 0 := rfl; rw [this]; split <;> rfl
  rw [this, Nat.add_zero]
  exact wsum_congr _ _ _ (fun k hk => by rw [byteAt_append, if_pos hk])

theorem carry_small (n : Int) (h0 : 0 ≤ n) (h : n ≤ 65535) : carry n = n := by unfold carry; split <;> omega
theorem carry_step (n : Int) (h : 65535 < n) : carry (n / 65536 + n % 65536) = carry n := by
  unfold carry
  rw [if_neg (by omega), if_neg (by omega)]
  omega
theorem carry_bd (n : Int) (h : 0 ≤ n) : 0 ≤ carry n ∧ carry n ≤ 65535 := by unfold carry; split <;> omega

/-- the program's sum of numbers -/
def sumOf (n : Nat) : Int := 65535 - carry n
theorem sumOf_bd (n : Nat) : 0 ≤ sumOf n ∧ sumOf n ≤ 65535 := by unfold sumOf; have := carry_bd n (by omega); omega

/-- one change: without the rest -/
theorem patched (T o n s : Int) (hT : 0 ≤ T) (ho : 0 ≤ o) (ho2 : o ≤ 65535) (hn : 0 ≤ n) (hn2 : n ≤ 65535) (hle : o ≤ T) (hs : s = 65535 - carry T) :
    let a := 65535 - carry (T - o + n)
    let b := 65535 - carry ((65535 - s) + (65535 - o) + n)
    a = b ∨ (a + b = 65535 ∧ (a = 0 ∨ b = 0)) := by
  have h1 := carry_bd T hT
  subst hs
  simp only
  unfold carry at *
  by_cases hz : T = 0
  · subst hz; simp only [if_true] at *; split <;> split <;> omega
  · rw [if_neg hz] at *
    split <;> split <;> omega
end Go.Proofs.Ytkjojfcknfhkhaa.Inet
