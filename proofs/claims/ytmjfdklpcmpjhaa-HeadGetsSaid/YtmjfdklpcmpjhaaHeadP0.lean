/- Plain: what is put is read, and what is read, put, is what it was. -/
import Derived.Test.YtmjfdklpcmpjhaaHeadB0
import Derived.Test.YtmjfdklpcmpjhaaHead9
namespace Go.Proofs.Ytmjfdklpcmpjhaa.Head
open Go.Proofs.Ytmjfdklpcmpjhaa.Oct (be num be_length num_be num_lt be_num nat64 u64_nat size_list)
set_option linter.unusedVariables false

theorem fld_of {s : ByteArray} {A X C : List UInt8} {a n : Nat} (h : s.data.toList = A ++ (X ++ C)) (ha : A.length = a) (hn : X.length = n) : fld s a n = num X := by
  subst ha hn
  unfold fld
  rw [h, List.drop_left, List.take_left]

theorem nat64_of (v : Int) (h : 0 ≤ v ∧ v ≤ 281474976710655) : (nat64 v : Int) = v ∧ nat64 v ≤ 281474976710655 := by
  obtain ⟨n, rfl⟩ := Int.eq_ofNat_of_zero_le h.1
  rw [u64_nat n (by omega)]
  exact ⟨rfl, by omega⟩

theorem num_be_of (v : Int) (k : Nat) (h0 : 0 ≤ v) (h : v < (256 ^ k : Nat)) (hs : v ≤ 281474976710655) : (num (be (nat64 v) k) : Int) = v := by
  obtain ⟨e, -⟩ := nat64_of v ⟨h0, hs⟩
  rw [num_be, Nat.mod_eq_of_lt (by omega), e]

theorem size_of_list {s : ByteArray} {l : List UInt8} (h : s.data.toList = l) : s.size = l.length := by rw [← h, size_list]

theorem toList_put (h : B) (more : ByteArray) : (ByteArray.mk (put h).toArray ++ more).data.toList = put h ++ more.data.toList := by
  rw [ByteArray.data_append, Array.toList_append]

theorem get_put (h : B) (g : Good h) (more : ByteArray) : get (putText h ++ more) = (h, more, 0) := by
  have hc := (check_ok h).2 g
  unfold putText
  rw [if_pos hc]
  obtain ⟨s, hs⟩ : ∃ s, s = ByteArray.mk (put h).toArray ++ more := ⟨_, rfl⟩
  have hl : s.data.toList = put h ++ more.data.toList := by rw [hs, toList_put]
  have hlen := put_length h
  have hsz : s.size = nOf h.long + more.size := by rw [size_of_list hl, List.length_append, hlen, size_list]
  have hrest : s.extract (nOf h.long) s.size = more := by
    apply ext_toList
    rw [from_toList, hl, ← hlen, List.drop_left]
  rw [← hs]
  clear hs
  have hk := g.known
  have r := g.range
  have p2 : (256 : Nat) ^ 2 = 65536 := by decide
  have p1 : (256 : Nat) ^ 1 = 256 := by decide
  have p3 : (256 : Nat) ^ 3 = 16777216 := by decide
  have p6 : (256 : Nat) ^ 6 = 281474976710656 := by decide
  have r1 := r.src; have r2 := r.dst; have r3 := r.words; have r4 := r.cc; have r5 := r.cover; have r6 := r.sum; have r7 := r.seq
  have hput : put h = lead h ++ tail h := rfl
  rw [hput] at hl
  unfold lead at hl
  have e0 : (fld s 0 2 : Int) = h.src := by
    rw [fld_of (a := 0) (n := 2) (A := []) (X := be (nat64 h.src) 2) (C := be (nat64 h.dst) 2 ++ (be (nat64 h.words) 1 ++ (be (nat64 (16 * h.cc + h.cover)) 1 ++ be (nat64 h.sum) 2)) ++ (tail h ++ more.data.toList)) (by rw [hl]; simp) rfl (by simp)]
    exact num_be_of _ 2 r1.1 (by omega) (by omega)
  have e2 : (fld s 2 2 : Int) = h.dst := by
    rw [fld_of (A := be (nat64 h.src) 2) (X := be (nat64 h.dst) 2) (C := be (nat64 h.words) 1 ++ (be (nat64 (16 * h.cc + h.cover)) 1 ++ be (nat64 h.sum) 2) ++ (tail h ++ more.data.toList)) (by rw [hl]; simp) (by simp) (by simp)]
    exact num_be_of _ 2 r2.1 (by omega) (by omega)
  have e4 : (fld s 4 1 : Int) = h.words := by
    rw [fld_of (A := be (nat64 h.src) 2 ++ be (nat64 h.dst) 2) (X := be (nat64 h.words) 1) (C := be (nat64 (16 * h.cc + h.cover)) 1 ++ be (nat64 h.sum) 2 ++ (tail h ++ more.data.toList)) (by rw [hl]; simp) (by simp) (by simp)]
    exact num_be_of _ 1 r3.1 (by omega) (by omega)
  have e5 : (fld s 5 1 : Int) = 16 * h.cc + h.cover := by
    rw [fld_of (A := be (nat64 h.src) 2 ++ be (nat64 h.dst) 2 ++ be (nat64 h.words) 1) (X := be (nat64 (16 * h.cc + h.cover)) 1) (C := be (nat64 h.sum) 2 ++ (tail h ++ more.data.toList)) (by rw [hl]; simp) (by simp) (by simp)]
    exact num_be_of _ 1 (by omega) (by omega) (by omega)
  have e6 : (fld s 6 2 : Int) = h.sum := by
    rw [fld_of (A := be (nat64 h.src) 2 ++ be (nat64 h.dst) 2 ++ be (nat64 h.words) 1 ++ be (nat64 (16 * h.cc + h.cover)) 1) (X := be (nat64 h.sum) 2) (C := tail h ++ more.data.toList) (by rw [hl]; simp) (by simp) (by simp)]
    exact num_be_of _ 2 r6.1 (by omega) (by omega)
  have hl' : s.data.toList = lead h ++ (tail h ++ more.data.toList) := by rw [hl]; unfold lead; simp
  have hlead := lead_length h
  unfold tail at hl'
  unfold seqMost at r7
  cases hL : h.long
  · rw [hL, if_neg (by simp)] at hl' r7
    rw [hL] at hsz hrest
    have hsz' : s.size = 12 + more.size := hsz
    have e8 : (fld s 8 1 : Int) = 2 * h.kind := by
      rw [fld_of (A := lead h) (X := be (nat64 (2 * h.kind)) 1) (C := be (nat64 h.seq) 3 ++ more.data.toList) (by rw [hl']; simp) hlead (by simp)]
      exact num_be_of _ 1 (by omega) (by omega) (by omega)
    have e9 : (fld s 9 3 : Int) = h.seq := by
      rw [fld_of (A := lead h ++ be (nat64 (2 * h.kind)) 1) (X := be (nat64 h.seq) 3) (C := more.data.toList) (by rw [hl']; simp) (by simp [hlead]) (by simp)]
      exact num_be_of _ 3 (by omega) (by omega) (by omega)
    have hlong : isLong s = false := by unfold isLong; simp; omega
    have hsh : ¬ short s := fun x => by
      rcases x with x | ⟨x, -⟩
      · omega
      · rw [hlong] at x; cases x
    have hkept : kept s = false := by unfold kept; rw [hlong]; simp; omega
    have hpar : parse s = h := by
      unfold parse
      have hl2 : (fld s 8 1 % 2 == 1) = false := hlong
      rw [hl2, if_neg (by simp), e0, e2, e4, e6, e9, Int.natCast_ediv, Int.natCast_emod, Int.natCast_ediv, e5, e8]
      rw [show (16 * h.cc + h.cover) / (16 : Nat) = h.cc by omega, show (16 * h.cc + h.cover) % (16 : Nat) = h.cover by omega, show 2 * h.kind / (2 : Nat) = h.kind by omega, ← hL]
    rw [get_right hsh hkept (by rw [hpar]; exact hc), hpar, hlong, hrest]
  · rw [hL, if_pos rfl] at hl' r7
    rw [hL] at hsz hrest
    have hsz' : s.size = 16 + more.size := hsz
    have e8 : (fld s 8 1 : Int) = 2 * h.kind + 1 := by
      rw [fld_of (A := lead h) (X := be (nat64 (2 * h.kind + 1)) 1) (C := be 0 1 ++ be (nat64 h.seq) 6 ++ more.data.toList) (by rw [hl']; simp) hlead (by simp)]
      exact num_be_of _ 1 (by omega) (by omega) (by omega)
    have e9 : fld s 9 1 = 0 := by
      rw [fld_of (A := lead h ++ be (nat64 (2 * h.kind + 1)) 1) (X := be 0 1) (C := be (nat64 h.seq) 6 ++ more.data.toList) (by rw [hl']; simp) (by simp [hlead]) (by simp), num_be]
    have e10 : (fld s 10 6 : Int) = h.seq := by
      rw [fld_of (A := lead h ++ be (nat64 (2 * h.kind + 1)) 1 ++ be 0 1) (X := be (nat64 h.seq) 6) (C := more.data.toList) (by rw [hl']; simp) (by simp [hlead]) (by simp)]
      exact num_be_of _ 6 (by omega) (by omega) (by omega)
    have hlong : isLong s = true := by unfold isLong; simp; omega
    have hsh : ¬ short s := fun x => by
      rcases x with x | ⟨-, x⟩ <;> omega
    have hkept : kept s = false := by unfold kept; rw [hlong, e9]; simp; omega
    have hpar : parse s = h := by
      unfold parse
      have hl2 : (fld s 8 1 % 2 == 1) = true := hlong
      rw [hl2, if_pos rfl, e0, e2, e4, e6, e10, Int.natCast_ediv, Int.natCast_emod, Int.natCast_ediv, e5, e8]
      rw [show (16 * h.cc + h.cover) / (16 : Nat) = h.cc by omega, show (16 * h.cc + h.cover) % (16 : Nat) = h.cover by omega, show (2 * h.kind + 1) / (2 : Nat) = h.kind by omega, ← hL]
    rw [get_right hsh hkept (by rw [hpar]; exact hc), hpar, hlong, hrest]

theorem be_fld (s : ByteArray) (a n : Nat) (h : a + n ≤ s.size) : be (fld s a n) n = (s.data.toList.drop a).take n := by
  unfold fld
  have hl := size_list s
  have e : ((s.data.toList.drop a).take n).length = n := by rw [List.length_take, List.length_drop]; omega
  have := be_num ((s.data.toList.drop a).take n)
  rwa [e] at this

theorem take_more (l : List UInt8) (a n : Nat) : l.take (a + n) = l.take a ++ (l.drop a).take n := List.take_add

theorem lead_parse (s : ByteArray) (h : 12 ≤ s.size) : lead (parse s) = s.data.toList.take 8 := by
  have h0 := fld_lt s 0 2
  have h2 := fld_lt s 2 2
  have h4 := fld_lt s 4 1
  have h5 := fld_lt s 5 1
  have h6 := fld_lt s 6 2
  have p2 : (256 : Nat) ^ 2 = 65536 := by decide
  have p1 : (256 : Nat) ^ 1 = 256 := by decide
  have e5 : (16 * ((fld s 5 1 / 16 : Nat) : Int) + ((fld s 5 1 % 16 : Nat) : Int)) = ((fld s 5 1 : Nat) : Int) := by omega
  unfold lead parse
  dsimp only
  rw [e5, u64_nat _ (by omega), u64_nat _ (by omega), u64_nat _ (by omega), u64_nat _ (by omega), u64_nat _ (by omega)]
  rw [be_fld s 0 2 (by omega), be_fld s 2 2 (by omega), be_fld s 4 1 (by omega), be_fld s 5 1 (by omega), be_fld s 6 2 (by omega)]
  rw [show (8 : Nat) = 6 + 2 from rfl, take_more, show (6 : Nat) = 5 + 1 from rfl, take_more, show (5 : Nat) = 4 + 1 from rfl, take_more, show (4 : Nat) = 2 + 2 from rfl, take_more]
  simp [List.append_assoc]

theorem put_parse (s : ByteArray) (hs : ¬ short s) (hk : kept s = false) : put (parse s) = s.data.toList.take (nOf (isLong s)) := by
  have h12 : 12 ≤ s.size := by
    rcases Nat.lt_or_ge s.size 12 with h | h
    · exact absurd (Or.inl h) hs
    · exact h
  unfold put
  rw [lead_parse s h12]
  have h8 := fld_lt s 8 1
  have p1 : (256 : Nat) ^ 1 = 256 := by decide
  have p3 : (256 : Nat) ^ 3 = 16777216 := by decide
  have p6 : (256 : Nat) ^ 6 = 281474976710656 := by decide
  have hpl : (parse s).long = isLong s := rfl
  have hpk : (parse s).kind = ((fld s 8 1 / 2 : Nat) : Int) := rfl
  have hps : (parse s).seq = if isLong s = true then ((fld s 10 6 : Nat) : Int) else ((fld s 9 3 : Nat) : Int) := rfl
  unfold tail
  rw [hpl, hpk, hps]
  cases hL : isLong s
  · rw [if_neg (by simp), if_neg (by simp)]
    have hodd : fld s 8 1 % 2 = 0 := by unfold isLong at hL; simp at hL; omega
    have h9 := fld_lt s 9 3
    rw [show (2 * ((fld s 8 1 / 2 : Nat) : Int)) = ((fld s 8 1 : Nat) : Int) by omega, u64_nat _ (by omega), u64_nat _ (by omega), be_fld s 8 1 (by omega), be_fld s 9 3 (by omega)]
    show _ = s.data.toList.take 12
    rw [show (12 : Nat) = 9 + 3 from rfl, take_more, show (9 : Nat) = 8 + 1 from rfl, take_more]
    simp [List.append_assoc]
  · rw [if_pos rfl, if_pos rfl]
    have h16 : 16 ≤ s.size := by
      rcases Nat.lt_or_ge s.size 16 with h | h
      · exact absurd (Or.inr ⟨hL, h⟩) hs
      · exact h
    have hodd : fld s 8 1 % 2 = 1 := by unfold isLong at hL; simp at hL; omega
    have h9 : fld s 9 1 = 0 := by unfold kept at hk; rw [hL] at hk; simp at hk; exact hk.2
    have h10 := fld_lt s 10 6
    rw [show (2 * ((fld s 8 1 / 2 : Nat) : Int) + 1) = ((fld s 8 1 : Nat) : Int) by omega, u64_nat _ (by omega), u64_nat _ (by omega), ← h9, be_fld s 8 1 (by omega), be_fld s 9 1 (by omega), be_fld s 10 6 (by omega)]
    show _ = s.data.toList.take 16
    rw [show (16 : Nat) = 10 + 6 from rfl, take_more, show (10 : Nat) = 9 + 1 from rfl, take_more, show (9 : Nat) = 8 + 1 from rfl, take_more]
    simp [List.append_assoc]

/-- what is got, put, is what it was got of -/
theorem put_get (s : ByteArray) (h : (get s).2.2 = 0) : check (get s).1 = 0 ∧ putText (get s).1 ++ (get s).2.1 = s := by
  by_cases hs : short s
  · rw [get_short hs] at h; simp at h
  cases hk : kept s
  case true => rw [get_kept hs hk] at h; simp at h
  by_cases hc : check (parse s) = 0
  case neg => rw [get_wrong hs hk hc] at h; exact absurd h hc
  rw [get_right hs hk hc]
  refine ⟨hc, ?_⟩
  unfold putText
  rw [if_pos hc]
  apply ext_toList
  rw [toList_put, put_parse s hs hk, from_toList, List.take_append_drop]

/-- beside an error there is nothing -/
theorem get_none (s : ByteArray) (h : (get s).2.2 ≠ 0) : (get s).1 = B.none := by
  by_cases hs : short s
  · rw [get_short hs]
  cases hk : kept s
  case true => rw [get_kept hs hk]
  by_cases hc : check (parse s) = 0
  · rw [get_right hs hk hc] at h; exact absurd rfl h
  · rw [get_wrong hs hk hc]

theorem get_size (s : ByteArray) : (get s).2.1.size ≤ s.size := by
  by_cases hs : short s
  · rw [get_short hs]; exact Nat.zero_le _
  cases hk : kept s
  case true => rw [get_kept hs hk]; exact Nat.zero_le _
  by_cases hc : check (parse s) = 0
  · rw [get_right hs hk hc]; show (s.extract _ _).size ≤ _; rw [from_size]; omega
  · rw [get_wrong hs hk hc]; exact Nat.zero_le _

theorem put_size (h : B) : (putText h).size ≤ 16 := by
  unfold putText
  split
  · show (put h).toArray.size ≤ 16
    rw [List.size_toArray, put_length]; unfold nOf; split <;> omega
  · exact Nat.zero_le _
end Go.Proofs.Ytmjfdklpcmpjhaa.Head
