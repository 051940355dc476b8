/- Runs of packets: plain mathematics, nothing of any program. -/
import Derived.Laws.Strings
namespace Go.Proofs.Ytdnddhnnpplgjaa.Avec
set_option linter.unusedVariables false

/-- a run -/
structure R where
  state : Int
  many : Int

def known (s : Int) : Bool := s == 0 || s == 1 || s == 3
/-- so many packets does a run tell -/
def heldN (n : Int) : Nat := (min (max n 0) 64).toNat
def many : List R → Nat
  | [] => 0
  | r :: l => heldN r.many + many l
def wrongs : List R → Int
  | [] => 0
  | r :: l => if known r.state = true then (if r.many < 1 ∨ 64 < r.many then 3 else wrongs l) else 7
def check (l : List R) : Int := if wrongs l = 0 then (if 128 < many l then 11 else 0) else wrongs l
def byte1 (r : R) : UInt8 := UInt8.ofNat (64 * r.state + r.many - 1).toNat
def bytesOf (l : List R) : List UInt8 := l.map byte1
def putOf (l : List R) : ByteArray := if check l = 0 then ⟨(bytesOf l).toArray⟩ else ⟨#[]⟩
def run1 (b : UInt8) : R := ⟨(b.toNat : Int) / 64, (b.toNat : Int) % 64 + 1⟩
def runsOf (s : ByteArray) : List R := s.data.toList.map run1
def getOf (s : ByteArray) : List R := if check (runsOf s) = 0 then runsOf s else []
/-- the states that runs tell -/
def states (l : List R) : List Int := l.flatMap fun r => List.replicate (heldN r.many) r.state

theorem heldN_le (n : Int) : heldN n ≤ 64 := by unfold heldN; omega
theorem held_eq (n : Int) : (heldN n : Int) = min (max n 0) 64 := by unfold heldN; omega
theorem many_le : ∀ (l : List R), many l ≤ 64 * l.length
  | [] => by simp [many]
  | r :: l => by
    have h1 := heldN_le r.many
    have h2 := many_le l
    simp only [many, List.length_cons]
    omega
theorem states_cons (r : R) (l : List R) : states (r :: l) = List.replicate (heldN r.many) r.state ++ states l := rfl
theorem states_length : ∀ (l : List R), (states l).length = many l
  | [] => rfl
  | r :: l => by rw [states_cons, List.length_append, List.length_replicate, states_length l]; rfl
theorem states_append (l m : List R) : states (l ++ m) = states l ++ states m := by simp [states]
theorem drop_at {l : List R} {i : Nat} {r : R} (h : l[i]? = some r) : l.drop i = r :: l.drop (i + 1) := by
  obtain ⟨hi, rfl⟩ := List.getElem?_eq_some_iff.1 h
  exact List.drop_eq_getElem_cons hi
theorem take_at {l : List R} {i : Nat} {r : R} (h : l[i]? = some r) : l.take (i + 1) = l.take i ++ [r] := by
  rw [List.take_add_one, h]; rfl
theorem some_at {α : Type} {l : List α} {i : Nat} (h : i < l.length) : ∃ r, l[i]? = some r := ⟨l[i], List.getElem?_eq_getElem h⟩
theorem known_iff {s : Int} : known s = true ↔ s = 0 ∨ s = 1 ∨ s = 3 := by simp [known, or_assoc]
theorem wrongs_at : ∀ {l : List R}, wrongs l = 0 → ∀ {i : Nat} {r : R}, l[i]? = some r → known r.state = true ∧ 1 ≤ r.many ∧ r.many ≤ 64
  | [], _, i, r, h => by simp at h
  | p :: l, hw, 0, r, h => by
    obtain rfl : p = r := by simpa using h
    unfold wrongs at hw
    split at hw
    · rename_i hk
      split at hw
      · cases hw
      · exact ⟨hk, by omega, by omega⟩
    · cases hw
  | p :: l, hw, i + 1, r, h => by
    unfold wrongs at hw
    split at hw
    · split at hw
      · cases hw
      · exact wrongs_at hw (by simpa using h)
    · cases hw
theorem check_wrongs {l : List R} (h : check l = 0) : wrongs l = 0 ∧ many l ≤ 128 := by
  unfold check at h
  split at h
  · rename_i h1
    split at h
    · cases h
    · exact ⟨h1, by omega⟩
  · rename_i h1; exact absurd h h1

theorem run1_byte1 {r : R} (hk : known r.state = true) (h1 : 1 ≤ r.many) (h2 : r.many ≤ 64) : run1 (byte1 r) = r := by
  obtain ⟨s, n⟩ := r
  dsimp only at hk h1 h2
  unfold run1 byte1
  dsimp only
  obtain ⟨m, rfl⟩ : ∃ m : Nat, n = (m : Int) + 1 := ⟨(n - 1).toNat, by omega⟩
  rcases known_iff.1 hk with rfl | rfl | rfl
  · rw [show (64 * 0 + ((m : Int) + 1) - 1).toNat = m by omega, UInt8.toNat_ofNat']; congr 1 <;> omega
  · rw [show (64 * 1 + ((m : Int) + 1) - 1).toNat = 64 + m by omega, UInt8.toNat_ofNat']; congr 1 <;> omega
  · rw [show (64 * 3 + ((m : Int) + 1) - 1).toNat = 192 + m by omega, UInt8.toNat_ofNat']; congr 1 <;> omega
theorem byte1_run1 (b : UInt8) : byte1 (run1 b) = b := by
  apply UInt8.toNat_inj.1
  have := b.toNat_lt
  unfold run1 byte1
  dsimp only
  rw [UInt8.toNat_ofNat']
  omega
theorem run1_ok (b : UInt8) : 0 ≤ (run1 b).state ∧ (run1 b).state ≤ 3 ∧ 1 ≤ (run1 b).many ∧ (run1 b).many ≤ 64 := by
  have := b.toNat_lt
  unfold run1
  dsimp only
  omega
theorem bytes_runs (s : ByteArray) : bytesOf (runsOf s) = s.data.toList := by
  unfold bytesOf runsOf
  rw [List.map_map]
  conv => rhs; rw [← List.map_id s.data.toList]
  exact List.map_congr_left fun b _ => byte1_run1 b
theorem runs_bytes {l : List R} (h : wrongs l = 0) : runsOf ⟨(bytesOf l).toArray⟩ = l := by
  unfold bytesOf runsOf
  dsimp only
  rw [List.map_map]
  conv => rhs; rw [← List.map_id l]
  refine List.map_congr_left fun r hr => ?_
  obtain ⟨i, hi, e⟩ := List.mem_iff_getElem.1 hr
  obtain ⟨h1, h2, h3⟩ := wrongs_at h (i := i) (r := r) (by rw [List.getElem?_eq_getElem hi, e])
  exact run1_byte1 h1 h2 h3
theorem bytesOf_length (l : List R) : (bytesOf l).length = l.length := by simp [bytesOf]
theorem runsOf_length (s : ByteArray) : (runsOf s).length = s.size := by unfold runsOf; rw [List.length_map]; exact Array.length_toList
theorem put_get {s : ByteArray} (h : check (runsOf s) = 0) : putOf (getOf s) = s := by
  unfold getOf putOf
  rw [if_pos h, if_pos h, bytes_runs]
theorem get_put {l : List R} (h : check l = 0) : getOf (putOf l) = l ∧ check (runsOf (putOf l)) = 0 := by
  have e : runsOf (putOf l) = l := by unfold putOf; rw [if_pos h]; exact runs_bytes (check_wrongs h).1
  unfold getOf
  rw [e, if_pos h]
  exact ⟨rfl, h⟩

/-! ### the fewest runs -/
def turn (s : Int) : Int := if known s = true then s else 3
/-- one more packet -/
def push (l : List R) (s : Int) : List R :=
  match l.getLast? with
  | some r => if r.state = s ∧ r.many < 64 then l.dropLast ++ [⟨r.state, r.many + 1⟩] else l ++ [⟨s, 1⟩]
  | none => l ++ [⟨s, 1⟩]
def ofRuns (xs : List Int) : List R := xs.foldl (fun l x => push l (turn x)) []
theorem push_nil (s : Int) : push [] s = [⟨s, 1⟩] := rfl
theorem push_more {p : List R} {r : R} {s : Int} (h : r.state = s ∧ r.many < 64) : push (p ++ [r]) s = p ++ [⟨r.state, r.many + 1⟩] := by
  unfold push; simp [h]
theorem push_new {p : List R} {r : R} {s : Int} (h : ¬ (r.state = s ∧ r.many < 64)) : push (p ++ [r]) s = p ++ [r] ++ [⟨s, 1⟩] := by
  unfold push; simp only [List.getLast?_append, List.getLast?_singleton, Option.some_or, if_neg h]
theorem ofRuns_snoc (xs : List Int) (x : Int) : ofRuns (xs ++ [x]) = push (ofRuns xs) (turn x) := by simp [ofRuns]
/-- what the runs are like -/
def Good (l : List R) : Prop := ∀ r, r ∈ l → 1 ≤ r.many ∧ r.many ≤ 64
theorem nil_or_snoc (l : List R) : l = [] ∨ ∃ p r, l = p ++ [r] := by
  rcases List.eq_nil_or_concat l with h | ⟨p, r, h⟩
  · exact .inl h
  · exact .inr ⟨p, r, by simpa using h⟩
theorem Good.push {l : List R} (h : Good l) (s : Int) : Good (push l s) := by
  rcases nil_or_snoc l with rfl | ⟨p, r, rfl⟩
  · intro q hq
    obtain rfl := List.mem_singleton.1 hq
    exact ⟨by show (1 : Int) ≤ 1; omega, by show (1 : Int) ≤ 64; omega⟩
  · by_cases hs : r.state = s ∧ r.many < 64
    · rw [push_more hs]
      intro q hq
      rcases List.mem_append.1 hq with h1 | h1
      · exact h q (List.mem_append_left _ h1)
      · obtain rfl := List.mem_singleton.1 h1
        have := h r (by simp)
        exact ⟨by show 1 ≤ r.many + 1; omega, by show r.many + 1 ≤ 64; omega⟩
    · rw [push_new hs]
      intro q hq
      rcases List.mem_append.1 hq with h1 | h1
      · exact h q h1
      · obtain rfl := List.mem_singleton.1 h1
        exact ⟨by show (1 : Int) ≤ 1; omega, by show (1 : Int) ≤ 64; omega⟩
theorem heldN_mid {n : Int} (h0 : 0 ≤ n) (h1 : n ≤ 64) : heldN n = n.toNat := by unfold heldN; omega
theorem states_push {l : List R} (h : Good l) (s : Int) : states (push l s) = states l ++ [s] := by
  rcases nil_or_snoc l with rfl | ⟨p, r, rfl⟩
  · rfl
  · by_cases hs : r.state = s ∧ r.many < 64
    · have hr := h r (by simp)
      rw [push_more hs, states_append, states_append, List.append_assoc]
      congr 1
      show List.replicate (heldN (r.many + 1)) r.state ++ [] = (List.replicate (heldN r.many) r.state ++ []) ++ [s]
      rw [heldN_mid (by omega) (by omega), heldN_mid (by omega) (by omega), show (r.many + 1).toNat = r.many.toNat + 1 by omega, List.replicate_succ', hs.1]
      simp
    · rw [push_new hs, states_append _ [_]]
      rfl
theorem length_push (l : List R) (s : Int) : (push l s).length ≤ l.length + 1 := by
  rcases nil_or_snoc l with rfl | ⟨p, r, rfl⟩
  · simp [push_nil]
  · by_cases hs : r.state = s ∧ r.many < 64
    · rw [push_more hs]; simp
    · rw [push_new hs]; simp
theorem ofRuns_all (xs : List Int) : Good (ofRuns xs) ∧ states (ofRuns xs) = xs.map turn ∧ (ofRuns xs).length ≤ xs.length := by
  have key : ∀ (r : List Int), Good (ofRuns r.reverse) ∧ states (ofRuns r.reverse) = r.reverse.map turn ∧ (ofRuns r.reverse).length ≤ r.reverse.length := by
    intro r
    induction r with
    | nil => exact ⟨fun r hr => absurd hr (List.not_mem_nil), rfl, Nat.le_refl _⟩
    | cons x r ih =>
      obtain ⟨h1, h2, h3⟩ := ih
      rw [List.reverse_cons, ofRuns_snoc]
      refine ⟨h1.push _, by rw [states_push h1, h2, List.map_append]; rfl, ?_⟩
      have := length_push (ofRuns r.reverse) (turn x)
      rw [List.length_append]
      simp only [List.length_singleton]
      omega
  have := key xs.reverse
  rwa [List.reverse_reverse] at this
theorem ofRuns_take {xs : List Int} {i : Nat} {x : Int} (h : xs[i]? = some x) : ofRuns (xs.take (i + 1)) = push (ofRuns (xs.take i)) (turn x) := by
  rw [← ofRuns_snoc, List.take_add_one, h]; rfl

/-! ### one by one, backwards -/
def seqOf (n : Int) : Int := n % 281474976710656
def told : Int → List Int → List (Int × Int)
  | _, [] => []
  | f, s :: r => (f, s) :: told (seqOf (f - 1)) r
theorem told_length : ∀ (f : Int) (r : List Int), (told f r).length = r.length
  | _, [] => rfl
  | f, s :: r => by rw [told, List.length_cons, told_length, List.length_cons]
theorem seqOf_step (a : Int) (k : Nat) : seqOf (seqOf (a - k) - 1) = seqOf (a - ((k + 1 : Nat) : Int)) := by unfold seqOf; push_cast; omega
/-- the state of the first of a number -/
def atOf (q : Int) : List (Int × Int) → Int
  | [] => 3
  | (n, s) :: r => if n = q then s else atOf q r
theorem atOf_skip : ∀ {q : Int} {pre : List (Int × Int)} (rest : List (Int × Int)), (∀ x, x ∈ pre → x.1 ≠ q) → atOf q (pre ++ rest) = atOf q rest
  | q, [], rest, _ => rfl
  | q, (n, s) :: pre, rest, h => by
    show (if n = q then s else atOf q (pre ++ rest)) = _
    rw [if_neg (h (n, s) (List.mem_cons_self ..)), atOf_skip rest fun x hx => h x (List.mem_cons_of_mem _ hx)]
end Go.Proofs.Ytdnddhnnpplgjaa.Avec
