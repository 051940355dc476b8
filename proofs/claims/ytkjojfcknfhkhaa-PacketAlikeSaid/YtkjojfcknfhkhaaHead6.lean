/- A beginning as bytes: the contract of the program's. -/
import Derived.Test.YtkjojfcknfhkhaaHead3
import Derived.Test.YtkjojfcknfhkhaaPutInt
namespace Go.Proofs.Ytkjojfcknfhkhaa.Head
open Go.ChangeShapes Go.WideShapes Go.ChangeAt Go.RowKit
open Go.Proofs.Ytkjojfcknfhkhaa.Oct (be num be_length nat64 held bs_append putInt_any)
set_option linter.unusedVariables false

/-- what Put makes -/
def putText (h : B) : ByteArray := if check h = 0 then ⟨(put h).toArray⟩ else ⟨#[]⟩

/-- a block that holds a beginning -/
def Box9 (W : World) (A : Nat) (h : B) : Prop := W.heap[A]? = some (.cells #[.int .i64 h.src, .int .i64 h.dst, .int .i64 h.words, .int .i64 h.cc, .int .i64 h.cover, .int .i64 h.sum, .int .i64 h.kind, .bool h.long, .int .i64 h.seq] 43 (0, 0))
theorem Box9.lt {W : World} {A : Nat} {h : B} (k : Box9 W A h) : A < W.heap.size := (Array.getElem?_eq_some_iff.1 k).1
theorem Box9.new (W : World) (h : B) : Box9 (W.alloc (.cells #[.int .i64 h.src, .int .i64 h.dst, .int .i64 h.words, .int .i64 h.cc, .int .i64 h.cover, .int .i64 h.sum, .int .i64 h.kind, .bool h.long, .int .i64 h.seq] 43)) W.heap.size h := heap_alloc_new W _
theorem Box9.below {w w' : World} {A N : Nat} {h : B} (k : Box9 w A h) (hb : Below N w w') (hN : A < N) : Box9 w' A h := (hb.block A hN).trans k
theorem Box9.cell {W : World} {A : Nat} {h : B} (k : Box9 W A h) : W.cell? ⟨A, 0, none⟩ = some (.int .i64 h.src) ∧ W.cell? ⟨A, 1, none⟩ = some (.int .i64 h.dst) ∧ W.cell? ⟨A, 2, none⟩ = some (.int .i64 h.words) ∧
    W.cell? ⟨A, 3, none⟩ = some (.int .i64 h.cc) ∧ W.cell? ⟨A, 4, none⟩ = some (.int .i64 h.cover) ∧ W.cell? ⟨A, 5, none⟩ = some (.int .i64 h.sum) ∧ W.cell? ⟨A, 6, none⟩ = some (.int .i64 h.kind) ∧
    W.cell? ⟨A, 7, none⟩ = some (.bool h.long) ∧ W.cell? ⟨A, 8, none⟩ = some (.int .i64 h.seq) := by
  refine ⟨?_, ?_, ?_, ?_, ?_, ?_, ?_, ?_, ?_⟩ <;> exact cell_of_row _ _ _ _ _ _ k

theorem putL (l : List UInt8) (n size : Int) (k : Nat) (hk : held size = k) (hl : l.length ≤ 1000) (w : World) :
    Calls Try.prog 48 #[.string ⟨l.toArray⟩, .int .i64 n, .int .i64 size] w fun e w' => e = .returned (.string ⟨(l ++ be (nat64 n) k).toArray⟩) ∧ Below w.heap.size w w' := by
  subst hk
  refine (putInt_any ⟨l.toArray⟩ n size w (by show l.toArray.size ≤ 100000; simp; omega)).mono ?_
  rintro e w' ⟨rfl, h⟩
  exact ⟨by rw [bs_append], h⟩

set_option maxRecDepth 100000 in
set_option maxHeartbeats 4000000 in
theorem Put_any (h : B) (w : World) : Calls Try.prog 22 #[.agg #[.int .i64 h.src, .int .i64 h.dst, .int .i64 h.words, .int .i64 h.cc, .int .i64 h.cover, .int .i64 h.sum, .int .i64 h.kind, .bool h.long, .int .i64 h.seq]] w
    fun e w' => e = .returned (.tuple #[.string (putText h), .int .i64 (check h)]) ∧ Below w.heap.size w w' := by
  have hC := fun w => Check_any h w
  have hok := check_ok h
  have hT := Lib.hid (show putText h = if check h = 0 then ⟨(put h).toArray⟩ else ⟨#[]⟩ from rfl)
  have hP := Lib.hid (show put h = be (nat64 h.src) 2 ++ (be (nat64 h.dst) 2 ++ (be (nat64 h.words) 1 ++ (be (nat64 (16 * h.cc + h.cover)) 1 ++ be (nat64 h.sum) 2))) ++ (if h.long then be (nat64 (2 * h.kind + 1)) 1 ++ (be 0 1 ++ be (nat64 h.seq) 6) else be (nat64 (2 * h.kind)) 1 ++ be (nat64 h.seq) 3) from rfl)
  have hbox := Box9.new w h
  have hb := Lib.hid ((Below.refl w.heap.size w).alloc (Nat.le_refl _) (.cells #[.int .i64 h.src, .int .i64 h.dst, .int .i64 h.words, .int .i64 h.cc, .int .i64 h.cover, .int .i64 h.sum, .int .i64 h.kind, .bool h.long, .int .i64 h.seq] 43))
  have hsz : (w.alloc (.cells #[.int .i64 h.src, .int .i64 h.dst, .int .i64 h.words, .int .i64 h.cc, .int .i64 h.cover, .int .i64 h.sum, .int .i64 h.kind, .bool h.long, .int .i64 h.seq] 43)).heap.size = w.heap.size + 1 := by simp
  generalize check h = C at *
  generalize putText h = T at *
  by_cases hc : C = 0
  · subst hc
    have G := hok.1 rfl
    have HT := Lib.hid (hT.out.trans (if_pos rfl))
    clear hT hok
    have hk := G.known
    have hcc := G.range.cc
    have hcv := G.range.cover
    clear G
    obtain ⟨a, b, c, d, f, g, k, l, q⟩ := h
    dsimp only at *
    go_enter Try.func22, Try.ntmps22
    go_wp2_with fail
    refine (hC _).mono ?_
    rintro e w1 ⟨rfl, h1⟩
    have hb1 := hbox.below h1 (by rw [hsz]; exact Nat.lt_succ_self _)
    have B1 := hb.out.trans (h1.mono (by rw [hsz]; exact Nat.le_succ _))
    clear hbox hb h1 hC hsz
    obtain ⟨A, hA⟩ : ∃ A, w.heap.size = A := ⟨_, rfl⟩
    rw [hA] at hb1 B1 ⊢
    obtain ⟨c0, c1, c2, c3, c4, c5, c6, c7, c8⟩ := hb1.cell
    go_wp2_with fail
    refine (putL [] (a) 2 2 rfl (by simp) _).mono ?_
    rintro e w2 ⟨rfl, h2⟩
    have hb2 := hb1.below h2 hb1.lt
    have B2 := B1.trans (h2.mono (Nat.le_of_lt hb1.lt))
    obtain ⟨l1, hl1⟩ : ∃ l1, l1 = [] ++ be (nat64 (a)) 2 := ⟨_, rfl⟩
    rw [← hl1]
    have n1 : l1.length = 2 := by rw [hl1]; simp
    have L1 := Lib.hid hl1
    clear hl1 hb1 B1 h2 c0 c1 c2 c3 c4 c5 c6 c7 c8
    obtain ⟨c0, c1, c2, c3, c4, c5, c6, c7, c8⟩ := hb2.cell
    go_wp2_with fail
    refine (putL l1 (b) 2 2 rfl (by omega) _).mono ?_
    rintro e w3 ⟨rfl, h3⟩
    have hb3 := hb2.below h3 hb2.lt
    have B3 := B2.trans (h3.mono (Nat.le_of_lt hb2.lt))
    obtain ⟨l2, hl2⟩ : ∃ l2, l2 = l1 ++ be (nat64 (b)) 2 := ⟨_, rfl⟩
    rw [← hl2]
    have n2 : l2.length = 4 := by rw [hl2]; simp; omega
    have L2 := Lib.hid hl2
    clear hl2 hb2 B2 h3 c0 c1 c2 c3 c4 c5 c6 c7 c8
    obtain ⟨c0, c1, c2, c3, c4, c5, c6, c7, c8⟩ := hb3.cell
    go_wp2_with fail
    refine (putL l2 (c) 1 1 rfl (by omega) _).mono ?_
    rintro e w4 ⟨rfl, h4⟩
    have hb4 := hb3.below h4 hb3.lt
    have B4 := B3.trans (h4.mono (Nat.le_of_lt hb3.lt))
    obtain ⟨l3, hl3⟩ : ∃ l3, l3 = l2 ++ be (nat64 (c)) 1 := ⟨_, rfl⟩
    rw [← hl3]
    have n3 : l3.length = 5 := by rw [hl3]; simp; omega
    have L3 := Lib.hid hl3
    clear hl3 hb3 B3 h4 c0 c1 c2 c3 c4 c5 c6 c7 c8
    obtain ⟨c0, c1, c2, c3, c4, c5, c6, c7, c8⟩ := hb4.cell
    go_wp2_with fail
    refine (putL l3 (16 * d + f) 1 1 rfl (by omega) _).mono ?_
    rintro e w5 ⟨rfl, h5⟩
    have hb5 := hb4.below h5 hb4.lt
    have B5 := B4.trans (h5.mono (Nat.le_of_lt hb4.lt))
    obtain ⟨l4, hl4⟩ : ∃ l4, l4 = l3 ++ be (nat64 (16 * d + f)) 1 := ⟨_, rfl⟩
    rw [← hl4]
    have n4 : l4.length = 6 := by rw [hl4]; simp; omega
    have L4 := Lib.hid hl4
    clear hl4 hb4 B4 h5 c0 c1 c2 c3 c4 c5 c6 c7 c8
    obtain ⟨c0, c1, c2, c3, c4, c5, c6, c7, c8⟩ := hb5.cell
    go_wp2_with fail
    refine (putL l4 (g) 2 2 rfl (by omega) _).mono ?_
    rintro e w6 ⟨rfl, h6⟩
    have hb6 := hb5.below h6 hb5.lt
    have B6 := B5.trans (h6.mono (Nat.le_of_lt hb5.lt))
    obtain ⟨l5, hl5⟩ : ∃ l5, l5 = l4 ++ be (nat64 (g)) 2 := ⟨_, rfl⟩
    rw [← hl5]
    have n5 : l5.length = 8 := by rw [hl5]; simp; omega
    have L5 := Lib.hid hl5
    clear hl5 hb5 B5 h6 c0 c1 c2 c3 c4 c5 c6 c7 c8
    obtain ⟨c0, c1, c2, c3, c4, c5, c6, c7, c8⟩ := hb6.cell
    cases l
    case false =>
      go_wp2_with fail
      refine (putL l5 (2 * k) 1 1 rfl (by omega) _).mono ?_
      rintro e w7 ⟨rfl, h7⟩
      have hb7 := hb6.below h7 hb6.lt
      have B7 := B6.trans (h7.mono (Nat.le_of_lt hb6.lt))
      obtain ⟨l6, hl6⟩ : ∃ l6, l6 = l5 ++ be (nat64 (2 * k)) 1 := ⟨_, rfl⟩
      rw [← hl6]
      have n6 : l6.length = 9 := by rw [hl6]; simp; omega
      have L6 := Lib.hid hl6
      clear hl6 hb6 B6 h7 c0 c1 c2 c3 c4 c5 c6 c7 c8
      obtain ⟨c0, c1, c2, c3, c4, c5, c6, c7, c8⟩ := hb7.cell
      go_wp2_with fail
      refine (putL l6 (q) 3 3 rfl (by omega) _).mono ?_
      rintro e w8 ⟨rfl, h8⟩
      have hb8 := hb7.below h8 hb7.lt
      have B8 := B7.trans (h8.mono (Nat.le_of_lt hb7.lt))
      obtain ⟨l7, hl7⟩ : ∃ l7, l7 = l6 ++ be (nat64 (q)) 3 := ⟨_, rfl⟩
      rw [← hl7]
      have n7 : l7.length = 12 := by rw [hl7]; simp; omega
      have L7 := Lib.hid hl7
      clear hl7 hb7 B7 h8 c0 c1 c2 c3 c4 c5 c6 c7 c8
      obtain ⟨c0, c1, c2, c3, c4, c5, c6, c7, c8⟩ := hb8.cell
      go_wp2_with fail
      go_returns
      rw [hA]
      refine ⟨?_, B8⟩
      rw [HT.out, hP.out, L7.out, L6.out, L5.out, L4.out, L3.out, L2.out, L1.out]
      rfl
    case true =>
      go_wp2_with fail
      refine (putL l5 (2 * k + 1) 1 1 rfl (by omega) _).mono ?_
      rintro e w7 ⟨rfl, h7⟩
      have hb7 := hb6.below h7 hb6.lt
      have B7 := B6.trans (h7.mono (Nat.le_of_lt hb6.lt))
      obtain ⟨l6, hl6⟩ : ∃ l6, l6 = l5 ++ be (nat64 (2 * k + 1)) 1 := ⟨_, rfl⟩
      rw [← hl6]
      have n6 : l6.length = 9 := by rw [hl6]; simp; omega
      have L6 := Lib.hid hl6
      clear hl6 hb6 B6 h7 c0 c1 c2 c3 c4 c5 c6 c7 c8
      obtain ⟨c0, c1, c2, c3, c4, c5, c6, c7, c8⟩ := hb7.cell
      go_wp2_with fail
      refine (putL l6 (0) 1 1 rfl (by omega) _).mono ?_
      rintro e w8 ⟨rfl, h8⟩
      have hb8 := hb7.below h8 hb7.lt
      have B8 := B7.trans (h8.mono (Nat.le_of_lt hb7.lt))
      obtain ⟨l7, hl7⟩ : ∃ l7, l7 = l6 ++ be (nat64 (0)) 1 := ⟨_, rfl⟩
      rw [← hl7]
      have n7 : l7.length = 10 := by rw [hl7]; simp; omega
      have L7 := Lib.hid hl7
      clear hl7 hb7 B7 h8 c0 c1 c2 c3 c4 c5 c6 c7 c8
      obtain ⟨c0, c1, c2, c3, c4, c5, c6, c7, c8⟩ := hb8.cell
      go_wp2_with fail
      refine (putL l7 (q) 6 6 rfl (by omega) _).mono ?_
      rintro e w9 ⟨rfl, h9⟩
      have hb9 := hb8.below h9 hb8.lt
      have B9 := B8.trans (h9.mono (Nat.le_of_lt hb8.lt))
      obtain ⟨l8, hl8⟩ : ∃ l8, l8 = l7 ++ be (nat64 (q)) 6 := ⟨_, rfl⟩
      rw [← hl8]
      have n8 : l8.length = 16 := by rw [hl8]; simp; omega
      have L8 := Lib.hid hl8
      clear hl8 hb8 B8 h9 c0 c1 c2 c3 c4 c5 c6 c7 c8
      obtain ⟨c0, c1, c2, c3, c4, c5, c6, c7, c8⟩ := hb9.cell
      go_wp2_with fail
      go_returns
      rw [hA]
      refine ⟨?_, B9⟩
      rw [HT.out, hP.out, L8.out, L7.out, L6.out, L5.out, L4.out, L3.out, L2.out, L1.out]
      rfl
  · have HT := Lib.hid (hT.out.trans (if_neg hc))
    go_enter Try.func22, Try.ntmps22
    go_wp2_with fail
    refine (hC _).mono ?_
    rintro e w1 ⟨rfl, h1⟩
    go_wp2_with fail
    go_returns
    exact ⟨by rw [HT.out]; rfl, hb.out.trans (h1.mono (by rw [hsz]; exact Nat.le_succ _))⟩
end Go.Proofs.Ytkjojfcknfhkhaa.Head
