/- The document's answer for Of: its contract. · The document's Put: its contract. · Plain: the beginning, byte by byte. · Plain: what is put is read, and what is read, put, is what it was. · Own, of whatever program: a drawn region whose operations look at no memory, but for one that makes a block, anywhere among them, and a tail behind them all. -/
import Derived.Test.YtkjojfcknfhkhaaBase1
import Derived.Test.YtkjojfcknfhkhaaHead5
import Derived.Test.YtkjojfcknfhkhaaHead6
import Derived.Test.YtkjojfcknfhkhaaRefPut1
import Derived.Deep.RegionHeld3
import Derived.Test.YtkjojfcknfhkhaaHead7
import Derived.Test.YtkjojfcknfhkhaaHead9
import Derived.StillTail
import Derived.Tactics
namespace Go.Proofs.Ytkjojfcknfhkhaa.Oct
open Go.ChangeShapes Go.WideShapes Go.ChangeAt Go.RowKit
set_option linter.unusedVariables false

theorem of_step (m b : Nat) : IntKind.u64.wrap (IntKind.u64.wrap (256 * (m : Int)) + (b : Int)) = ((256 * m + b) % 18446744073709551616 : Nat) := by
  rw [IntKind.wrap_u64, IntKind.wrap_u64]
  omega

set_option maxHeartbeats 400000 in
theorem refOf_any (s : ByteArray) (w : World) (hs : s.size ≤ 100000) :
    Calls Try.prog 77 #[.string s] w fun e w' => e = .returned (.int .u64 (whole s : Int)) ∧ w = w' := by
  go_enter Try.func77, Try.ntmps77
  go_wp2
  go_loop [3, 4] (fun n i => ∃ k : Nat, k ≤ s.size ∧ i = .int .i64 k ∧ n = .int .u64 (ofTo s k))
    (fun _ i => s.size - (intOf i).toNat)
  case atStart => exact ⟨0, Nat.zero_le _, rfl, rfl⟩
  case round =>
    obtain ⟨k, hk, rfl, rfl⟩ := hrel
    have hl := ofTo_lt s k
    by_cases hlt : k < s.size
    · have hnext := Lib.hid (ofTo_succ s k hlt)
      have hb := s[k].toNat_lt
      generalize ofTo s k = m at *
      go_wp2
      refine ⟨⟨k + 1, by omega, by go_num, ?_⟩, by simp [intOf]; omega⟩
      rw [of_step, hnext.out]
    · have hall := Lib.hid (ofTo_all s k (by omega))
      go_wp2
      go_ret
      exact ⟨congrArg (fun x : Nat => Ending.returned (.int .u64 x)) hall.out, rfl⟩
end Go.Proofs.Ytkjojfcknfhkhaa.Oct

namespace Go.Proofs.Ytkjojfcknfhkhaa.Head
open Go.ChangeShapes Go.WideShapes Go.ChangeAt Go.RowKit
open Go.Proofs.Ytkjojfcknfhkhaa.Oct (be num be_length be_add be_mod nat64 u64_nat held bs_append refPut_any)
set_option linter.unusedVariables false

theorem refPutW (l : List UInt8) (v' v size : Int) (k : Nat) (hk : held size = k) (hv : v' = v) (h0 : 0 ≤ v ∧ v ≤ 1000000000000000000) (hl : l.length ≤ 1000) (w : World) :
    Calls Try.prog 57 #[.string ⟨l.toArray⟩, .int .u64 v', .int .i64 size] w fun e w' => e = .returned (.string ⟨(l ++ be (nat64 v) k).toArray⟩) ∧ Below w.heap.size w w' := by
  subst hk hv
  obtain ⟨n, rfl⟩ := Int.eq_ofNat_of_zero_le h0.1
  refine (refPut_any ⟨l.toArray⟩ n size w (by show l.toArray.size ≤ 100000; simp; omega) (by omega)).mono ?_
  rintro e w' ⟨rfl, h⟩
  exact ⟨by rw [bs_append, u64_nat n (by omega)], h⟩

theorem refPutN (l : List UInt8) (v' v size : Int) (k : Nat) (hk : held size = k) (hv : v' = v) (h0 : 0 ≤ v ∧ v ≤ 1000000000000000000) (hl : l.length ≤ 1000) (w : World) :
    Calls Try.prog 57 #[.string ⟨l.toArray⟩, .int .u64 v', .int .i64 size] w fun e w' => ∃ l' : List UInt8, e = .returned (.string ⟨l'.toArray⟩) ∧ RowKit.Hid (l' = l ++ be (nat64 v) k) ∧ l'.length ≤ l.length + k ∧ Below w.heap.size w w' := by
  refine (refPutW l v' v size k hk hv h0 hl w).mono ?_
  rintro e w' ⟨rfl, h⟩
  exact ⟨_, rfl, Lib.hid rfl, by simp, h⟩

/-- the four numbers of two bytes each, as bytes, so many of them -/
def acc (l : List Int) (k : Nat) : List UInt8 := (l.take k).flatMap (fun v => be (nat64 v) 2)

theorem two_ones (c x : Int) (hc : 0 ≤ c ∧ c ≤ 255) (hx : 0 ≤ x ∧ x ≤ 255) : be (nat64 (c * 256 + x)) 2 = be (nat64 c) 1 ++ be (nat64 x) 1 := by
  obtain ⟨m, rfl⟩ := Int.eq_ofNat_of_zero_le hc.1
  obtain ⟨n, rfl⟩ := Int.eq_ofNat_of_zero_le hx.1
  have e : ((m : Int) * 256 + n) = ((m * 256 + n : Nat) : Int) := by omega
  rw [e, u64_nat _ (by omega), u64_nat _ (by omega), u64_nat _ (by omega)]
  rw [show (2 : Nat) = 1 + 1 from rfl, be_add]
  have h1 : (m * 256 + n) / 256 ^ 1 = m := by omega
  have h2 : be (m * 256 + n) 1 = be n 1 := by
    rw [← be_mod (m * 256 + n) 1, ← be_mod n 1]
    congr 1; omega
  rw [h1, h2]

theorem lead_acc (h : B) (g : Good h) : acc [h.src, h.dst, h.words * 256 + h.cc * 16 + h.cover, h.sum] 4 = lead h := by
  have h1 := g.range.words
  have h2 := g.range.cc
  have h3 := g.range.cover
  unfold acc lead
  simp only [List.take_succ_cons, List.flatMap_cons, List.flatMap_nil, List.append_nil, List.take_nil]
  rw [show h.words * 256 + h.cc * 16 + h.cover = h.words * 256 + (16 * h.cc + h.cover) by omega, two_ones _ _ h1 (by omega)]
  simp

theorem seven (q : Int) (h : 0 ≤ q ∧ q ≤ 281474976710655) : be (nat64 q) 7 = be 0 1 ++ be (nat64 q) 6 := by
  obtain ⟨n, rfl⟩ := Int.eq_ofNat_of_zero_le h.1
  rw [u64_nat _ (by omega), show (7 : Nat) = 1 + 6 from rfl, be_add]
  have h6 : (256 : Nat) ^ 6 = 281474976710656 := by decide
  rw [show n / 256 ^ 6 = 0 by rw [h6]; omega]

theorem put_short (h : B) (g : Good h) (hl : h.long = false) : putText h = ⟨(acc [h.src, h.dst, h.words * 256 + h.cc * 16 + h.cover, h.sum] 4 ++ be (nat64 (2 * h.kind)) 1 ++ be (nat64 h.seq) 3).toArray⟩ := by
  unfold putText
  rw [if_pos ((check_ok h).2 g), lead_acc h g]
  unfold put tail
  rw [hl, if_neg (by simp), List.append_assoc]
theorem put_long (h : B) (g : Good h) (hl : h.long = true) : putText h = ⟨(acc [h.src, h.dst, h.words * 256 + h.cc * 16 + h.cover, h.sum] 4 ++ be (nat64 (2 * h.kind + 1)) 1 ++ be (nat64 h.seq) 7).toArray⟩ := by
  have hq := g.range.seq
  rw [hl] at hq
  unfold putText
  rw [if_pos ((check_ok h).2 g), lead_acc h g, seven _ hq]
  unfold put tail
  rw [hl, if_pos rfl, List.append_assoc]

theorem at_drew {w w' : World} (h : Below w.drew.heap.size w.drew w') : Below w.heap.size w w' := ⟨h.os, h.tape, h.output, h.size, h.block⟩

def Row4 (W : World) (S : Nat) (a b c d : Int) : Prop := W.heap[S]? = some (.cells #[.int .i64 a, .int .i64 b, .int .i64 c, .int .i64 d] 3 (0, 0))
theorem Row4.below {w w' : World} {S N : Nat} {a b c d : Int} (h : Row4 w S a b c d) (k : Below N w w') (hS : S < N) : Row4 w' S a b c d := (k.block S hS).trans h
theorem Row4.lt {w : World} {S : Nat} {a b c d : Int} (h : Row4 w S a b c d) : S < w.heap.size := (Array.getElem?_eq_some_iff.1 h).1
theorem Row4.cell {W : World} {S : Nat} {a b c d : Int} (h : Row4 W S a b c d) : W.cell? ⟨S, 0, none⟩ = some (.int .i64 a) ∧ W.cell? ⟨S, 1, none⟩ = some (.int .i64 b) ∧ W.cell? ⟨S, 2, none⟩ = some (.int .i64 c) ∧ W.cell? ⟨S, 3, none⟩ = some (.int .i64 d) :=
  ⟨cell_of_row _ _ _ _ _ _ h, cell_of_row _ _ _ _ _ _ h, cell_of_row _ _ _ _ _ _ h, cell_of_row _ _ _ _ _ _ h⟩

set_option maxRecDepth 100000 in
set_option maxHeartbeats 4000000 in
theorem refPutH_any (h : B) (w : World) : Calls Try.prog 56 #[.agg #[.int .i64 h.src, .int .i64 h.dst, .int .i64 h.words, .int .i64 h.cc, .int .i64 h.cover, .int .i64 h.sum, .int .i64 h.kind, .bool h.long, .int .i64 h.seq]] w
    fun e w' => e = .returned (.tuple #[.string (putText h), .int .i64 (check h)]) ∧ Below w.heap.size w w' := by
  have hC := fun w => refCheck_any h w
  have hok := check_ok h
  have hT := Lib.hid (show putText h = if check h = 0 then ⟨(put h).toArray⟩ else ⟨#[]⟩ from rfl)
  have hS := fun g => put_short h g
  have hL := fun g => put_long h g
  have hbox := Box9.new w h
  have hb := Lib.hid ((Below.refl w.heap.size w).alloc (Nat.le_refl _) (.cells #[.int .i64 h.src, .int .i64 h.dst, .int .i64 h.words, .int .i64 h.cc, .int .i64 h.cover, .int .i64 h.sum, .int .i64 h.kind, .bool h.long, .int .i64 h.seq] 43))
  have hsz : (w.alloc (.cells #[.int .i64 h.src, .int .i64 h.dst, .int .i64 h.words, .int .i64 h.cc, .int .i64 h.cover, .int .i64 h.sum, .int .i64 h.kind, .bool h.long, .int .i64 h.seq] 43)).heap.size = w.heap.size + 1 := by simp
  generalize check h = C at *
  generalize putText h = T at *
  by_cases hc : C = 0
  · subst hc
    have G := hok.1 rfl
    have HS := Lib.hid (hS G)
    have HL := Lib.hid (hL G)
    clear hT hok hS hL
    have hk := G.known
    have hsrc := G.range.src
    have hdst := G.range.dst
    have hsum := G.range.sum
    have hwo := G.range.words
    have hcc := G.range.cc
    have hcv := G.range.cover
    have hq : 0 ≤ h.seq ∧ h.seq ≤ 281474976710655 := by
      have := G.range.seq; unfold seqMost at this; split at this <;> omega
    clear G
    obtain ⟨a, b, c, d, f, g, k, l, q⟩ := h
    dsimp only at *
    go_enter Try.func56, Try.ntmps56
    go_wp2_with fail
    refine (hC _).mono ?_
    rintro e w1 ⟨rfl, h1⟩
    have hb1 := hbox.below h1 (by rw [hsz]; exact Nat.lt_succ_self _)
    have B1 := hb.out.trans (h1.mono (by rw [hsz]; exact Nat.le_succ _))
    clear hbox hb h1 hC hsz
    obtain ⟨A, hA⟩ : ∃ A, w.heap.size = A := ⟨_, rfl⟩
    rw [hA] at hb1 B1 ⊢
    obtain ⟨c0, c1, c2, c3, c4, c5, c6, c7, c8⟩ := hb1.cell
    go_wp2_with fail
    have r1 : Row4 (w1.alloc (.cells #[.int .i64 a, .int .i64 b, .int .i64 (c * 256 + d * 16 + f), .int .i64 g] 3)) w1.heap.size a b (c * 256 + d * 16 + f) g := heap_alloc_new w1 _
    have hb2 : Box9 (w1.alloc (.cells #[.int .i64 a, .int .i64 b, .int .i64 (c * 256 + d * 16 + f), .int .i64 g] 3)) A ⟨a, b, c, d, f, g, k, l, q⟩ := (Below.heap_alloc _ _ _ hb1.lt).trans hb1
    have B2 := B1.alloc (by rw [← hA]; exact B1.size) (.cells #[.int .i64 a, .int .i64 b, .int .i64 (c * 256 + d * 16 + f), .int .i64 g] 3)
    clear c0 c1 c2 c3 c4 c5 c6 c7 c8 hb1 B1
    obtain ⟨S, hSS⟩ : ∃ S, w1.heap.size = S := ⟨_, rfl⟩
    rw [hSS] at r1
    go_loopw [5, 7] (fun s i wr => ∃ j : Nat, j ≤ 4 ∧ i = .int .i64 j ∧ s = .string ⟨(acc [a, b, c * 256 + d * 16 + f, g] j).toArray⟩ ∧ Row4 wr S a b (c * 256 + d * 16 + f) g ∧ Box9 wr A ⟨a, b, c, d, f, g, k, l, q⟩ ∧ Below A w wr)
      (fun _ i _ => 4 - (intOf i).toNat)
    case atStart => exact ⟨0, by omega, rfl, rfl, r1, hb2, B2⟩
    case round =>
      obtain ⟨j, hj, rfl, rfl, hR, hB, hb⟩ := hrel
      have hb' := Lib.hid (show A ≤ wr.heap.size from Nat.le_of_lt hB.lt)
      obtain ⟨r0, r1, r2, r3⟩ := hR.cell
      obtain ⟨c0, c1, c2, c3, c4, c5, c6, c7, c8⟩ := hB.cell
      dsimp only at c6 c7 c8
      have hj5 : j = 0 ∨ j = 1 ∨ j = 2 ∨ j = 3 ∨ j = 4 := by omega
      rw [hSS]
      rcases hj5 with rfl | rfl | rfl | rfl | rfl
      · go_wp2_with fail
        refine (refPutW _ _ (a) 2 2 rfl rfl (by omega) (by show (acc _ _).length ≤ 1000; simp [acc]) _).mono ?_
        rintro e w2 ⟨rfl, h2⟩
        go_wp2_with fail
        refine ⟨⟨1, by omega, rfl, rfl, hR.below h2 hR.lt, hB.below h2 hB.lt, hb.trans (h2.mono hb'.out)⟩, by simp [intOf]⟩
      · go_wp2_with fail
        refine (refPutW _ _ (b) 2 2 rfl rfl (by omega) (by show (acc _ _).length ≤ 1000; simp [acc]) _).mono ?_
        rintro e w2 ⟨rfl, h2⟩
        go_wp2_with fail
        refine ⟨⟨2, by omega, rfl, rfl, hR.below h2 hR.lt, hB.below h2 hB.lt, hb.trans (h2.mono hb'.out)⟩, by simp [intOf]⟩
      · go_wp2_with fail
        refine (refPutW _ _ (c * 256 + d * 16 + f) 2 2 rfl rfl (by omega) (by show (acc _ _).length ≤ 1000; simp [acc]) _).mono ?_
        rintro e w2 ⟨rfl, h2⟩
        go_wp2_with fail
        refine ⟨⟨3, by omega, rfl, rfl, hR.below h2 hR.lt, hB.below h2 hB.lt, hb.trans (h2.mono hb'.out)⟩, by simp [intOf]⟩
      · go_wp2_with fail
        refine (refPutW _ _ (g) 2 2 rfl rfl (by omega) (by show (acc _ _).length ≤ 1000; simp [acc]) _).mono ?_
        rintro e w2 ⟨rfl, h2⟩
        go_wp2_with fail
        refine ⟨⟨4, by omega, rfl, rfl, hR.below h2 hR.lt, hB.below h2 hB.lt, hb.trans (h2.mono hb'.out)⟩, by simp [intOf]⟩
      · cases l
        · have HT := Lib.hid (HS.out rfl)
          clear HS HL r0 r1 r2 r3 c0 c1 c2 c3 c4 c5 hj hSS
          have n8 : (acc [a, b, c * 256 + d * 16 + f, g] 4).length ≤ 900 := by simp [acc]
          generalize acc [a, b, c * 256 + d * 16 + f, g] 4 = L8 at *
          go_wp2_with fail
          go_region_held3 (fun w' => w'.cell? ⟨A, 6, none⟩ = some (.int .i64 k) ∧ w'.cell? ⟨A, 8, none⟩ = some (.int .i64 q)) (first | go_keep | exact v5 | exact v6) (first
            | (go_at_call_of 57 L8; refine (refPutN L8 _ (2 * k) 1 1 rfl (by first | (simp only [IntKind.wrap_i64, IntKind.wrap_u64]; omega) | omega) (by omega) (by omega) _).mono ?_; rintro e w5 ⟨l5, rfl, e5, n5, h5⟩; have k5 := hB.below (at_drew h5) hB.lt; have v5 := And.intro k5.cell.2.2.2.2.2.2.1 k5.cell.2.2.2.2.2.2.2.2)
            | (go_at_call_of 57 l5; refine (refPutN l5 _ q 3 3 rfl (by first | (simp only [IntKind.wrap_u64]; omega) | omega) (by omega) (by omega) _).mono ?_; rintro e w6 ⟨l6, rfl, e6, n6, h6⟩; have k6 := k5.below h6 k5.lt; have v6 := And.intro k6.cell.2.2.2.2.2.2.1 k6.cell.2.2.2.2.2.2.2.2))
          all_goals (
            go_wp2_with fail
            go_returns
            rw [hA]
            exact ⟨by rw [HT.out, ← e5.out, ← e6.out]; rfl, hb.trans ((at_drew h5).mono hb'.out) |>.trans (h6.mono (Nat.le_of_lt k5.lt))⟩)
        · have HT := Lib.hid (HL.out rfl)
          clear HS HL r0 r1 r2 r3 c0 c1 c2 c3 c4 c5 hj hSS
          have n8 : (acc [a, b, c * 256 + d * 16 + f, g] 4).length ≤ 900 := by simp [acc]
          generalize acc [a, b, c * 256 + d * 16 + f, g] 4 = L8 at *
          go_wp2_with fail
          go_region_held3 (fun w' => w'.cell? ⟨A, 6, none⟩ = some (.int .i64 k) ∧ w'.cell? ⟨A, 8, none⟩ = some (.int .i64 q)) (first | go_keep | exact v5 | exact v6) (first
            | (go_at_call_of 57 L8; refine (refPutN L8 _ (2 * k + 1) 1 1 rfl (by first | (simp only [IntKind.wrap_i64, IntKind.wrap_u64]; omega) | omega) (by omega) (by omega) _).mono ?_; rintro e w5 ⟨l5, rfl, e5, n5, h5⟩; have k5 := hB.below (at_drew h5) hB.lt; have v5 := And.intro k5.cell.2.2.2.2.2.2.1 k5.cell.2.2.2.2.2.2.2.2)
            | (go_at_call_of 57 l5; refine (refPutN l5 _ q 7 7 rfl (by first | (simp only [IntKind.wrap_u64]; omega) | omega) (by omega) (by omega) _).mono ?_; rintro e w6 ⟨l6, rfl, e6, n6, h6⟩; have k6 := k5.below h6 k5.lt; have v6 := And.intro k6.cell.2.2.2.2.2.2.1 k6.cell.2.2.2.2.2.2.2.2))
          all_goals (
            go_wp2_with fail
            go_returns
            rw [hA]
            exact ⟨by rw [HT.out, ← e5.out, ← e6.out]; rfl, hb.trans ((at_drew h5).mono hb'.out) |>.trans (h6.mono (Nat.le_of_lt k5.lt))⟩)
  · have HT := Lib.hid (hT.out.trans (if_neg hc))
    go_enter Try.func56, Try.ntmps56
    go_wp2_with fail
    refine (hC _).mono ?_
    rintro e w1 ⟨rfl, h1⟩
    go_wp2_with fail
    go_returns
    exact ⟨by rw [HT.out]; rfl, hb.out.trans (h1.mono (by rw [hsz]; exact Nat.le_succ _))⟩
end Go.Proofs.Ytkjojfcknfhkhaa.Head

namespace Go.Proofs.Ytkjojfcknfhkhaa.Head
open Go.Proofs.Ytkjojfcknfhkhaa.Oct (num num_lt num_append size_list whole)
set_option linter.unusedVariables false

theorem fld_one (s : ByteArray) (a : Nat) (h : a < s.size) : fld s a 1 = s[a].toNat := by
  unfold fld
  have hl : a < s.data.toList.length := by rw [size_list]; exact h
  rw [List.drop_eq_getElem_cons hl, List.take_succ_cons, List.take_zero]
  have : s.data.toList[a] = s[a] := rfl
  rw [this]
  simp [num]

theorem fld_add (s : ByteArray) (a m n : Nat) (h : a + m + n ≤ s.size) : fld s a (m + n) = fld s a m * 256 ^ n + fld s (a + m) n := by
  unfold fld
  have hl := size_list s
  rw [List.take_add, num_append, List.drop_drop]
  congr 2
  rw [List.length_take, List.length_drop]
  rw [show min n (s.data.toList.length - (a + m)) = n by omega]

theorem fld_two (s : ByteArray) (a : Nat) (h : a + 1 < s.size) : fld s a 2 = s[a].toNat * 256 + s[a + 1].toNat := by
  rw [show (2 : Nat) = 1 + 1 from rfl, fld_add s a 1 1 (by omega), fld_one s a (by omega), fld_one s (a + 1) (by omega)]

theorem isLong_byte (s : ByteArray) (h : 12 ≤ s.size) : isLong s = (s[8].toNat % 2 == 1) := by
  unfold isLong; rw [fld_one s 8 (by omega)]
theorem kept_byte (s : ByteArray) (h : 12 ≤ s.size) : kept s = (decide (32 ≤ s[8].toNat) || ((s[8].toNat % 2 == 1) && decide (s[9].toNat ≠ 0))) := by
  unfold kept; rw [isLong_byte s h, fld_one s 8 (by omega), fld_one s 9 (by omega)]

theorem parse_byte (s : ByteArray) (h : 12 ≤ s.size) : parse s = ⟨s[0].toNat * 256 + s[1].toNat, s[2].toNat * 256 + s[3].toNat, s[4].toNat, (s[5].toNat : Int) / 16, (s[5].toNat : Int) % 16, s[6].toNat * 256 + s[7].toNat, (s[8].toNat : Int) / 2, s[8].toNat % 2 == 1,
    if s[8].toNat % 2 == 1 then fld s 10 6 else fld s 9 3⟩ := by
  unfold parse
  rw [fld_two s 0 (by omega), fld_two s 2 (by omega), fld_one s 4 (by omega), fld_one s 5 (by omega), fld_two s 6 (by omega), fld_one s 8 (by omega)]
  simp only [Int.natCast_add, Int.natCast_mul]
  rfl

theorem fld_seven (s : ByteArray) (h : 16 ≤ s.size) (h9 : s[9].toNat = 0) : fld s 9 7 = fld s 10 6 := by
  rw [show (7 : Nat) = 1 + 6 from rfl, fld_add s 9 1 6 (by omega), fld_one s 9 (by omega), h9, Nat.zero_mul, Nat.zero_add]

theorem whole_mid (s : ByteArray) (a b : Nat) (hb : b ≤ a + 7) : whole (s.extract a b) = fld s a (b - a) := by
  unfold whole
  rw [extract_toList]
  have h2 := fld_lt s a (b - a)
  unfold fld at h2 ⊢
  have h3 : 256 ^ (b - a) ≤ 256 ^ 7 := Nat.pow_le_pow_right (by omega) (by omega)
  have h4 : (256 : Nat) ^ 7 = 72057594037927936 := by decide
  omega
end Go.Proofs.Ytkjojfcknfhkhaa.Head

namespace Go.Proofs.Ytkjojfcknfhkhaa.Head
open Go.Proofs.Ytkjojfcknfhkhaa.Oct (be num be_length num_be num_lt be_num nat64 u64_nat size_list)
set_option linter.unusedVariables false

theorem fld_of {s : ByteArray} {A X C : List UInt8} {a n : Nat} (h : s.data.toList = A ++ (X ++ C)) (ha : A.length = a) (hn : X.length = n) : fld s a n = num X := by
  subst ha hn
  unfold fld
  rw [h, List.drop_left, List.take_left]

theorem nat64_of (v : Int) (h : 0 ≤ v ∧ v ≤ 281474976710655) : (nat64 v : Int) = v ∧ nat64 v ≤ 281474976710655 := by
  obtain ⟨n, rfl⟩ := Int.eq_ofNat_of_zero_le h.1
  rw [u64_nat n (by omega)]
  exact ⟨rfl, by omega⟩

theorem num_be_of (v : Int) (k : Nat) (h0 : 0 ≤ v) (h : v < (256 ^ k : Nat)) (hs : v ≤ 281474976710655) : (num (be (nat64 v) k) : Int) = v := by
  obtain ⟨e, -⟩ := nat64_of v ⟨h0, hs⟩
  rw [num_be, Nat.mod_eq_of_lt (by omega), e]

theorem size_of_list {s : ByteArray} {l : List UInt8} (h : s.data.toList = l) : s.size = l.length := by rw [← h, size_list]

theorem toList_put (h : B) (more : ByteArray) : (ByteArray.mk (put h).toArray ++ more).data.toList = put h ++ more.data.toList := by
  rw [ByteArray.data_append, Array.toList_append]

theorem get_put (h : B) (g : Good h) (more : ByteArray) : get (putText h ++ more) = (h, more, 0) := by
  have hc := (check_ok h).2 g
  unfold putText
  rw [if_pos hc]
  obtain ⟨s, hs⟩ : ∃ s, s = ByteArray.mk (put h).toArray ++ more := ⟨_, rfl⟩
  have hl : s.data.toList = put h ++ more.data.toList := by rw [hs, toList_put]
  have hlen := put_length h
  have hsz : s.size = nOf h.long + more.size := by rw [size_of_list hl, List.length_append, hlen, size_list]
  have hrest : s.extract (nOf h.long) s.size = more := by
    apply ext_toList
    rw [from_toList, hl, ← hlen, List.drop_left]
  rw [← hs]
  clear hs
  have hk := g.known
  have r := g.range
  have p2 : (256 : Nat) ^ 2 = 65536 := by decide
  have p1 : (256 : Nat) ^ 1 = 256 := by decide
  have p3 : (256 : Nat) ^ 3 = 16777216 := by decide
  have p6 : (256 : Nat) ^ 6 = 281474976710656 := by decide
  have r1 := r.src; have r2 := r.dst; have r3 := r.words; have r4 := r.cc; have r5 := r.cover; have r6 := r.sum; have r7 := r.seq
  have hput : put h = lead h ++ tail h := rfl
  rw [hput] at hl
  unfold lead at hl
  have e0 : (fld s 0 2 : Int) = h.src := by
    rw [fld_of (a := 0) (n := 2) (A := []) (X := be (nat64 h.src) 2) (C := be (nat64 h.dst) 2 ++ (be (nat64 h.words) 1 ++ (be (nat64 (16 * h.cc + h.cover)) 1 ++ be (nat64 h.sum) 2)) ++ (tail h ++ more.data.toList)) (by rw [hl]; simp) rfl (by simp)]
    exact num_be_of _ 2 r1.1 (by omega) (by omega)
  have e2 : (fld s 2 2 : Int) = h.dst := by
    rw [fld_of (A := be (nat64 h.src) 2) (X := be (nat64 h.dst) 2) (C := be (nat64 h.words) 1 ++ (be (nat64 (16 * h.cc + h.cover)) 1 ++ be (nat64 h.sum) 2) ++ (tail h ++ more.data.toList)) (by rw [hl]; simp) (by simp) (by simp)]
    exact num_be_of _ 2 r2.1 (by omega) (by omega)
  have e4 : (fld s 4 1 : Int) = h.words := by
    rw [fld_of (A := be (nat64 h.src) 2 ++ be (nat64 h.dst) 2) (X := be (nat64 h.words) 1) (C := be (nat64 (16 * h.cc + h.cover)) 1 ++ be (nat64 h.sum) 2 ++ (tail h ++ more.data.toList)) (by rw [hl]; simp) (by simp) (by simp)]
    exact num_be_of _ 1 r3.1 (by omega) (by omega)
  have e5 : (fld s 5 1 : Int) = 16 * h.cc + h.cover := by
    rw [fld_of (A := be (nat64 h.src) 2 ++ be (nat64 h.dst) 2 ++ be (nat64 h.words) 1) (X := be (nat64 (16 * h.cc + h.cover)) 1) (C := be (nat64 h.sum) 2 ++ (tail h ++ more.data.toList)) (by rw [hl]; simp) (by simp) (by simp)]
    exact num_be_of _ 1 (by omega) (by omega) (by omega)
  have e6 : (fld s 6 2 : Int) = h.sum := by
    rw [fld_of (A := be (nat64 h.src) 2 ++ be (nat64 h.dst) 2 ++ be (nat64 h.words) 1 ++ be (nat64 (16 * h.cc + h.cover)) 1) (X := be (nat64 h.sum) 2) (C := tail h ++ more.data.toList) (by rw [hl]; simp) (by simp) (by simp)]
    exact num_be_of _ 2 r6.1 (by omega) (by omega)
  have hl' : s.data.toList = lead h ++ (tail h ++ more.data.toList) := by rw [hl]; unfold lead; simp
  have hlead := lead_length h
  unfold tail at hl'
  unfold seqMost at r7
  cases hL : h.long
  · rw [hL, if_neg (by simp)] at hl' r7
    rw [hL] at hsz hrest
    have hsz' : s.size = 12 + more.size := hsz
    have e8 : (fld s 8 1 : Int) = 2 * h.kind := by
      rw [fld_of (A := lead h) (X := be (nat64 (2 * h.kind)) 1) (C := be (nat64 h.seq) 3 ++ more.data.toList) (by rw [hl']; simp) hlead (by simp)]
      exact num_be_of _ 1 (by omega) (by omega) (by omega)
    have e9 : (fld s 9 3 : Int) = h.seq := by
      rw [fld_of (A := lead h ++ be (nat64 (2 * h.kind)) 1) (X := be (nat64 h.seq) 3) (C := more.data.toList) (by rw [hl']; simp) (by simp [hlead]) (by simp)]
      exact num_be_of _ 3 (by omega) (by omega) (by omega)
    have hlong : isLong s = false := by unfold isLong; simp; omega
    have hsh : ¬ short s := fun x => by
      rcases x with x | ⟨x, -⟩
      · omega
      · rw [hlong] at x; cases x
    have hkept : kept s = false := by unfold kept; rw [hlong]; simp; omega
    have hpar : parse s = h := by
      unfold parse
      have hl2 : (fld s 8 1 % 2 == 1) = false := hlong
      rw [hl2, if_neg (by simp), e0, e2, e4, e6, e9, Int.natCast_ediv, Int.natCast_emod, Int.natCast_ediv, e5, e8]
      rw [show (16 * h.cc + h.cover) / (16 : Nat) = h.cc by omega, show (16 * h.cc + h.cover) % (16 : Nat) = h.cover by omega, show 2 * h.kind / (2 : Nat) = h.kind by omega, ← hL]
    rw [get_right hsh hkept (by rw [hpar]; exact hc), hpar, hlong, hrest]
  · rw [hL, if_pos rfl] at hl' r7
    rw [hL] at hsz hrest
    have hsz' : s.size = 16 + more.size := hsz
    have e8 : (fld s 8 1 : Int) = 2 * h.kind + 1 := by
      rw [fld_of (A := lead h) (X := be (nat64 (2 * h.kind + 1)) 1) (C := be 0 1 ++ be (nat64 h.seq) 6 ++ more.data.toList) (by rw [hl']; simp) hlead (by simp)]
      exact num_be_of _ 1 (by omega) (by omega) (by omega)
    have e9 : fld s 9 1 = 0 := by
      rw [fld_of (A := lead h ++ be (nat64 (2 * h.kind + 1)) 1) (X := be 0 1) (C := be (nat64 h.seq) 6 ++ more.data.toList) (by rw [hl']; simp) (by simp [hlead]) (by simp), num_be]
    have e10 : (fld s 10 6 : Int) = h.seq := by
      rw [fld_of (A := lead h ++ be (nat64 (2 * h.kind + 1)) 1 ++ be 0 1) (X := be (nat64 h.seq) 6) (C := more.data.toList) (by rw [hl']; simp) (by simp [hlead]) (by simp)]
      exact num_be_of _ 6 (by omega) (by omega) (by omega)
    have hlong : isLong s = true := by unfold isLong; simp; omega
    have hsh : ¬ short s := fun x => by
      rcases x with x | ⟨-, x⟩ <;> omega
    have hkept : kept s = false := by unfold kept; rw [hlong, e9]; simp; omega
    have hpar : parse s = h := by
      unfold parse
      have hl2 : (fld s 8 1 % 2 == 1) = true := hlong
      rw [hl2, if_pos rfl, e0, e2, e4, e6, e10, Int.natCast_ediv, Int.natCast_emod, Int.natCast_ediv, e5, e8]
      rw [show (16 * h.cc + h.cover) / (16 : Nat) = h.cc by omega, show (16 * h.cc + h.cover) % (16 : Nat) = h.cover by omega, show (2 * h.kind + 1) / (2 : Nat) = h.kind by omega, ← hL]
    rw [get_right hsh hkept (by rw [hpar]; exact hc), hpar, hlong, hrest]

theorem be_fld (s : ByteArray) (a n : Nat) (h : a + n ≤ s.size) : be (fld s a n) n = (s.data.toList.drop a).take n := by
  unfold fld
  have hl := size_list s
  have e : ((s.data.toList.drop a).take n).length = n := by rw [List.length_take, List.length_drop]; omega
  have := be_num ((s.data.toList.drop a).take n)
  rwa [e] at this

theorem take_more (l : List UInt8) (a n : Nat) : l.take (a + n) = l.take a ++ (l.drop a).take n := List.take_add

theorem lead_parse (s : ByteArray) (h : 12 ≤ s.size) : lead (parse s) = s.data.toList.take 8 := by
  have h0 := fld_lt s 0 2
  have h2 := fld_lt s 2 2
  have h4 := fld_lt s 4 1
  have h5 := fld_lt s 5 1
  have h6 := fld_lt s 6 2
  have p2 : (256 : Nat) ^ 2 = 65536 := by decide
  have p1 : (256 : Nat) ^ 1 = 256 := by decide
  have e5 : (16 * ((fld s 5 1 / 16 : Nat) : Int) + ((fld s 5 1 % 16 : Nat) : Int)) = ((fld s 5 1 : Nat) : Int) := by omega
  unfold lead parse
  dsimp only
  rw [e5, u64_nat _ (by omega), u64_nat _ (by omega), u64_nat _ (by omega), u64_nat _ (by omega), u64_nat _ (by omega)]
  rw [be_fld s 0 2 (by omega), be_fld s 2 2 (by omega), be_fld s 4 1 (by omega), be_fld s 5 1 (by omega), be_fld s 6 2 (by omega)]
  rw [show (8 : Nat) = 6 + 2 from rfl, take_more, show (6 : Nat) = 5 + 1 from rfl, take_more, show (5 : Nat) = 4 + 1 from rfl, take_more, show (4 : Nat) = 2 + 2 from rfl, take_more]
  simp [List.append_assoc]

theorem put_parse (s : ByteArray) (hs : ¬ short s) (hk : kept s = false) : put (parse s) = s.data.toList.take (nOf (isLong s)) := by
  have h12 : 12 ≤ s.size := by
    rcases Nat.lt_or_ge s.size 12 with h | h
    · exact absurd (Or.inl h) hs
    · exact h
  unfold put
  rw [lead_parse s h12]
  have h8 := fld_lt s 8 1
  have p1 : (256 : Nat) ^ 1 = 256 := by decide
  have p3 : (256 : Nat) ^ 3 = 16777216 := by decide
  have p6 : (256 : Nat) ^ 6 = 281474976710656 := by decide
  have hpl : (parse s).long = isLong s := rfl
  have hpk : (parse s).kind = ((fld s 8 1 / 2 : Nat) : Int) := rfl
  have hps : (parse s).seq = if isLong s = true then ((fld s 10 6 : Nat) : Int) else ((fld s 9 3 : Nat) : Int) := rfl
  unfold tail
  rw [hpl, hpk, hps]
  cases hL : isLong s
  · rw [if_neg (by simp), if_neg (by simp)]
    have hodd : fld s 8 1 % 2 = 0 := by unfold isLong at hL; simp at hL; omega
    have h9 := fld_lt s 9 3
    rw [show (2 * ((fld s 8 1 / 2 : Nat) : Int)) = ((fld s 8 1 : Nat) : Int) by omega, u64_nat _ (by omega), u64_nat _ (by omega), be_fld s 8 1 (by omega), be_fld s 9 3 (by omega)]
    show _ = s.data.toList.take 12
    rw [show (12 : Nat) = 9 + 3 from rfl, take_more, show (9 : Nat) = 8 + 1 from rfl, take_more]
    simp [List.append_assoc]
  · rw [if_pos rfl, if_pos rfl]
    have h16 : 16 ≤ s.size := by
      rcases Nat.lt_or_ge s.size 16 with h | h
      · exact absurd (Or.inr ⟨hL, h⟩) hs
      · exact h
    have hodd : fld s 8 1 % 2 = 1 := by unfold isLong at hL; simp at hL; omega
    have h9 : fld s 9 1 = 0 := by unfold kept at hk; rw [hL] at hk; simp at hk; exact hk.2
    have h10 := fld_lt s 10 6
    rw [show (2 * ((fld s 8 1 / 2 : Nat) : Int) + 1) = ((fld s 8 1 : Nat) : Int) by omega, u64_nat _ (by omega), u64_nat _ (by omega), ← h9, be_fld s 8 1 (by omega), be_fld s 9 1 (by omega), be_fld s 10 6 (by omega)]
    show _ = s.data.toList.take 16
    rw [show (16 : Nat) = 10 + 6 from rfl, take_more, show (10 : Nat) = 9 + 1 from rfl, take_more, show (9 : Nat) = 8 + 1 from rfl, take_more]
    simp [List.append_assoc]

/-- what is got, put, is what it was got of -/
theorem put_get (s : ByteArray) (h : (get s).2.2 = 0) : check (get s).1 = 0 ∧ putText (get s).1 ++ (get s).2.1 = s := by
  by_cases hs : short s
  · rw [get_short hs] at h; simp at h
  cases hk : kept s
  case true => rw [get_kept hs hk] at h; simp at h
  by_cases hc : check (parse s) = 0
  case neg => rw [get_wrong hs hk hc] at h; exact absurd h hc
  rw [get_right hs hk hc]
  refine ⟨hc, ?_⟩
  unfold putText
  rw [if_pos hc]
  apply ext_toList
  rw [toList_put, put_parse s hs hk, from_toList, List.take_append_drop]

/-- beside an error there is nothing -/
theorem get_none (s : ByteArray) (h : (get s).2.2 ≠ 0) : (get s).1 = B.none := by
  by_cases hs : short s
  · rw [get_short hs]
  cases hk : kept s
  case true => rw [get_kept hs hk]
  by_cases hc : check (parse s) = 0
  · rw [get_right hs hk hc] at h; exact absurd rfl h
  · rw [get_wrong hs hk hc]

theorem get_size (s : ByteArray) : (get s).2.1.size ≤ s.size := by
  by_cases hs : short s
  · rw [get_short hs]; exact Nat.zero_le _
  cases hk : kept s
  case true => rw [get_kept hs hk]; exact Nat.zero_le _
  by_cases hc : check (parse s) = 0
  · rw [get_right hs hk hc]; show (s.extract _ _).size ≤ _; rw [from_size]; omega
  · rw [get_wrong hs hk hc]; exact Nat.zero_le _

theorem put_size (h : B) : (putText h).size ≤ 16 := by
  unfold putText
  split
  · show (put h).toArray.size ≤ 16
    rw [List.size_toArray, put_length]; unfold nOf; split <;> omega
  · exact Nat.zero_le _
end Go.Proofs.Ytkjojfcknfhkhaa.Head

namespace Go.FloatYtkjojfcknfhkhaa
open Go
set_option linter.unusedVariables false

section
variable {P : Program} {ops : Array Oper} {md : Region.Mode} {w w' : World} {m : Nat} {pA : Value}

/-- what the i-th operation yields: the maker its pointer, any other one value, in both worlds -/
def Gives (P : Program) (ops : Array Oper) (w w' : World) (m : Nat) (pA : Value) (i : Nat) (o : Oper) (v : Value) (a : Act) : Prop :=
  (i = m ∧ v = pA) ∨ (i ≠ m ∧ YieldsAt P ops w o v a ∧ YieldsAt P ops w' o v a)

theorem Gives.of_same {i : Nat} {o : Oper} {v : Value} {a a' : Act} (h : Gives P ops w w' m pA i o v a) (he : execOp a'.eval o = execOp a.eval o)
    (hw : Region.wanted o (yielded ops a'.tmps) = Region.wanted o (yielded ops a.tmps)) : Gives P ops w w' m pA i o v a' := by
  rcases h with h | ⟨h, h1, h2⟩
  · exact .inl h
  · exact .inr ⟨h, h1.of_same he hw, h2.of_same he hw⟩

/-- the first n, in any order -/
def Any (P : Program) (md : Region.Mode) (ops : Array Oper) (w w' : World) (m : Nat) (pA : Value) (n : Nat) (L : Array Bool → Act → Prop) : Nat → Array Bool → Act → Prop
  | 0, listed, a => L listed a
  | f + 1, listed, a => Region.ready md ops listed ≠ [] ∧ ∀ i ∈ Region.ready md ops listed, i < n ∧ ∃ o v, ops[i]? = some o ∧ Gives P ops w w' m pA i o v a ∧
      Any P md ops w w' m pA n L f (listed.setIfInBounds i true) (a.put o.dst v)

theorem Any.first {n i : Nat} {oi : Oper} {v : Value} {L : Array Bool → Act → Prop} (hi : ops[i]? = some oi) (hsel : ∀ (j : Nat) (o : Oper) cs b, ops[j]? = some o → o.op ≠ .select cs b)
    (hs : Region.sinkB md ops n = true) (hc : Region.chainB md ops n = true) (hn : n < ops.size) (hin : i < n) (hdone : ∀ listed a, L listed a → ∀ j ∈ Region.ready md ops listed, n ≤ j) :
    ∀ (f : Nat) (listed : Array Bool) (a : Act), HeadInv md ops n listed →
      (∀ j oj, ops[j]? = some oj → j ≠ i → listed.getD j true = false → (∀ e ∈ oj.after, Region.binds md e = true → e.on ≠ i) → oi.apart ops oj = true) →
      i ∈ Region.ready md ops listed → Gives P ops w w' m pA i oi v a →
      Any P md ops w w' m pA n L f (listed.setIfInBounds i true) (a.put oi.dst v) → Any P md ops w w' m pA n L (f + 1) listed a := by
  intro f
  induction f with
  | zero =>
    intro listed a inv _ hr hy H
    have hun := (mem_ready.1 hr).1
    refine ⟨fun h => (by rw [h] at hr; cases hr), fun j hj => ?_⟩
    have hjn : j < n := by
      rcases Nat.lt_or_ge j n with h | h
      · exact h
      · exact absurd hj (tail_waits hs hc hn inv _ i rfl hin hun j h)
    refine ⟨hjn, ?_⟩
    by_cases hji : j = i
    · subst hji; exact ⟨oi, v, hi, hy, H⟩
    · have := hdone _ _ H j (ready_mono hj hji)
      omega
  | succ f ih =>
    intro listed a inv hfree hr hy H
    have hun := (mem_ready.1 hr).1
    refine ⟨fun h => (by rw [h] at hr; cases hr), fun j hj => ?_⟩
    have hjn : j < n := by
      rcases Nat.lt_or_ge j n with h | h
      · exact h
      · exact absurd hj (tail_waits hs hc hn inv _ i rfl hin hun j h)
    refine ⟨hjn, ?_⟩
    by_cases hji : j = i
    · subst hji; exact ⟨oi, v, hi, hy, H⟩
    · obtain ⟨-, oj, vj, hoj, hyj, Hj⟩ := H.2 j (ready_mono hj hji)
      obtain ⟨hjun, oj', hoj', hall⟩ := mem_ready.1 hj
      obtain rfl : oj = oj' := Option.some.inj (hoj.symm.trans hoj')
      have hnot : ∀ e ∈ oj.after, Region.binds md e = true → e.on ≠ i := fun e he hb heq => by
        have h1 := hall e he hb
        rw [heq, getD_both hun] at h1
        cases h1
      obtain ⟨h1, h2, h3⟩ := Oper.apart_spec (hfree j oj hoj hji hjun hnot)
      have hsi := fun cs b => hsel i oi cs b hi
      have hsj := fun cs b => hsel j oj cs b hoj
      have hyj' : Gives P ops w w' m pA j oj vj a := hyj.of_same (execOp_put oj hsj a oi.dst v h1).symm (wanted_put oj a oi.dst v h1).symm
      have hyi' : Gives P ops w w' m pA i oi v (a.put oj.dst vj) := hy.of_same (execOp_put oi hsi a oj.dst vj h3) (wanted_put oi a oj.dst vj h3)
      have hfree' : ∀ k ok, ops[k]? = some ok → k ≠ i → (listed.setIfInBounds j true).getD k true = false →
          (∀ e ∈ ok.after, Region.binds md e = true → e.on ≠ i) → oi.apart ops ok = true := fun k ok hk hki hun hno => by
        refine hfree k ok hk hki ?_ hno
        by_cases hjk : j = k
        · subst hjk; exact hjun
        · rw [getD_set_ne true hjk] at hun; exact hun
      refine ⟨oj, vj, hoj, hyj', ih _ _ (inv.set hj hjn) hfree' (ready_mono hr (Ne.symm hji)) hyi' ?_⟩
      rw [Array.setIfInBounds_comm _ _ hji, ← Act.put_comm a v vj h2]
      exact Hj

/-- one by one, in the order of the text -/
def Lex (P : Program) (ops : Array Oper) (w w' : World) (m : Nat) (pA : Value) (Lq : Act → Prop) : Nat → List Oper → Act → Prop
  | _, [], a => Lq a
  | k, o :: rest, a => ∃ v, Gives P ops w w' m pA k o v a ∧ Lex P ops w w' m pA Lq (k + 1) rest (a.put o.dst v)

def lexHead2 (md : Region.Mode) (ops : Array Oper) (m g : Nat) : Nat → Nat → Array Bool → Bool
  | 0, k, listed => Region.seqB md ops g k listed && listed.getD m false
  | f + 1, k, listed => (Region.ready md ops listed).contains k && Region.free md ops listed k && lexHead2 md ops m g f (k + 1) (listed.setIfInBounds k true)

def floatB (md : Region.Mode) (ops : Array Oper) (n m : Nat) : Bool :=
  Region.noSelect ops && decide (n < ops.size) && decide (m < n) && Region.sinkB md ops n && Region.chainB md ops n && lexHead2 md ops m (ops.size - n) n 0 (Array.replicate ops.size false)

theorem any_lex {n g : Nat} {Lq : Act → Prop} (hsel : Region.noSelect ops = true) (hs : Region.sinkB md ops n = true) (hc : Region.chainB md ops n = true) (hn : n < ops.size) :
    ∀ (l : List Oper) (k : Nat) (listed : Array Bool) (a : Act), (∀ j, j < l.length → l[j]? = ops[k + j]?) → k + l.length = n → HeadInv md ops n listed →
    lexHead2 md ops m g l.length k listed = true → Lex P ops w w' m pA Lq k l a →
    Any P md ops w w' m pA n (fun listed' a' => (Region.seqB md ops g n listed' = true ∧ listed'.getD m false = true) ∧ Lq a') l.length listed a
  | [], k, listed, a, _, hk, _, hB, h => by
    have : k = n := by simpa using hk
    subst this
    simp only [List.length_nil, lexHead2, Bool.and_eq_true] at hB
    exact ⟨hB, h⟩
  | o :: l, k, listed, a, hl, hk, inv, hB, h => by
    have h0 : ops[k]? = some o := by simpa using (hl 0 (by simp)).symm
    simp only [List.length_cons, lexHead2, Bool.and_eq_true] at hB
    obtain ⟨⟨hr, hf⟩, hB'⟩ := hB
    have hkn : k < n := by simp only [List.length_cons] at hk; omega
    have hr' : k ∈ Region.ready md ops listed := by simpa using hr
    obtain ⟨v, hy, hK⟩ := h
    exact Any.first h0 (Region.noSelect_spec hsel) hs hc hn hkn (fun listed' a' hL => seqB_ready hL.1.1) l.length listed a inv (Region.free_spec h0 hf) hr' hy
      (any_lex hsel hs hc hn l (k + 1) _ _ (fun j hj => by have := hl (j + 1) (by simp; omega); simpa [Nat.add_assoc, Nat.add_comm 1 j] using this) (by simp only [List.length_cons] at hk; omega) (inv.set hr' hkn) hB' hK)

theorem getD_set_same {listed : Array Bool} {i : Nat} (h : i < listed.size) : (listed.setIfInBounds i true).getD i false = true := by
  simp [h]

theorem any_sound {n g : Nat} {L : Array Bool → Act → Prop} {Q' : Exit → Act → World → Prop} {oA : Oper} (hm : ops[m]? = some oA) (hgA : ∀ a : Act, Region.wanted oA (yielded ops a.tmps) = true)
    (hA : ∀ a : Act, (execOp a.eval oA).run P w = .ok (.value pA) w') (hL : ∀ listed a, L listed a → listed.getD m false = true ∧ wpAny P md ops Q' g listed a w') :
    ∀ (f : Nat) (listed : Array Bool) (a : Act), listed.size = ops.size → Any P md ops w w' m pA n L f listed a →
      ∀ W, (listed.getD m false = true → W = w') → (listed.getD m false = false → W = w) → wpAny P md ops Q' (f + g) listed a W
  | 0, listed, a, hz, h, W, h1, h2 => by
    rw [Nat.zero_add]
    obtain ⟨e, k⟩ := hL _ _ h
    rw [h1 e]; exact k
  | f + 1, listed, a, hz, h, W, h1, h2 => by
    rw [show f + 1 + g = (f + g) + 1 by omega]
    refine ⟨fun h0 => absurd h0 h.1, fun i hi => ?_⟩
    obtain ⟨-, o, v, ho, hy, H⟩ := h.2 i hi
    have hun := (mem_ready.1 hi).1
    have hz' : (listed.setIfInBounds i true).size = ops.size := by simpa using hz
    rcases hy with ⟨him, hv⟩ | ⟨hne, y1, y2⟩
    · have him' := him.symm
      subst him'
      have hW := h2 (getD_both hun)
      have hoA : oA = o := Option.some.inj (hm.symm.trans ho)
      subst hoA
      have hlt : m < listed.size := by rw [hz]; exact (Array.getElem?_eq_some_iff.1 hm).1
      rw [hv] at H
      rw [hW]
      have H' := any_sound hm hgA hA hL f _ _ hz' H w' (fun _ => rfl) (fun e => by rw [getD_set_same hlt] at e; cases e)
      unfold wpOp
      simp only [ho, hgA, if_true]
      refine .inl ?_
      unfold Oper.wp
      rw [hA]
      exact H'
    · have hyW : YieldsAt P ops W o v a := by
        cases e : listed.getD m false
        · rw [h2 e]; exact y1
        · rw [h1 e]; exact y2
      have e := getD_set_ne (listed := listed) (i := i) (j := m) false hne
      have H' := any_sound hm hgA hA hL f _ _ hz' H W (fun h => h1 (by rw [← e]; exact h)) (fun h => h2 (by rw [← e]; exact h))
      exact wpOp_of_stOp (K := fun a' => wpAny P md ops Q' (f + g) (listed.setIfInBounds i true) a' W) (fun _ h => h) (hyW.stOp ho H')

theorem wp_region_float {id : Nat} {Q : Exit → Act → World → Prop} {a : Act} {w w' : World} {l : List Oper} (n m : Nat) (pA : Value) (oA : Oper) (hm : P.follows .mixedOrders = true) (hB : floatB .any l.toArray n m = true)
    (hoA : l[m]? = some oA) (hgA : ∀ a : Act, Region.wanted oA (yielded l.toArray a.tmps) = true) (hA : ∀ a : Act, (execOp a.eval oA).run P { w with drawn := w.drawn + 1 } = .ok (.value pA) w')
    (h : Lex P l.toArray { w with drawn := w.drawn + 1 } w' m pA (fun a' => wpList P l.toArray Q (l.drop n) a' w') 0 (l.take n) a) : (Code.region id l.toArray true).wp P Q a w := by
  simp only [floatB, Bool.and_eq_true, decide_eq_true_eq] at hB
  obtain ⟨⟨⟨⟨⟨hsel, hn⟩, hmn⟩, hs⟩, hc⟩, hlex⟩ := hB
  have hn' : n < l.length := by simpa using hn
  have htl : (l.take n).length = n := by simp; omega
  have hdl : (l.drop n).length = l.toArray.size - n := by simp
  have inv0 : HeadInv .any l.toArray n (Array.replicate l.toArray.size false) :=
    ⟨by simp, fun j oj _ hl => (by rw [getD_replicate_false] at hl; cases hl), fun t _ ht => getD_in (by simpa using ht) (getD_replicate_false _ _)⟩
  have H := any_lex (md := .any) (g := l.toArray.size - n) hsel hs hc hn (l.take n) 0 _ a (fun j hj => by
    have hj' : j < n := by rw [htl] at hj; exact hj
    simp [hj']) (by simpa using htl) inv0 (by rw [htl]; exact hlex) h
  refine wp_region_any hm ?_
  have := any_sound (Q' := Q) (g := l.toArray.size - n) (oA := oA) (by simpa using hoA) hgA hA (fun listed a' hL => ⟨hL.1.2, by
    have := wpAny_of_seq (md := .any) (Q' := Q) (l.drop n) n listed a' w' (fun j => by simp [List.getElem?_drop]) (by rw [hdl]; exact hL.1.1) hL.2
    rwa [hdl] at this⟩) _ _ _ (by simp) H { w with drawn := w.drawn + 1 } (fun e => by rw [getD_replicate_false] at e; cases e) (fun _ => rfl)
  rw [htl, show n + (l.toArray.size - n) = l.toArray.size by omega] at this
  exact this

/-- a slot that no later operation fills keeps its value -/
theorem kept {W : World} {F : Act} (d : Nat) : ∀ (l : List Oper) (k : Nat) (a : Act), (∀ j, j < l.length → l[j]? = ops[k + j]?) → (∀ o ∈ l, o.dst ≠ some d) →
    wpStill P ops W (fun a' => a' = F) l a → F.tmps[d]? = a.tmps[d]?
  | [], _, a, _, _, h => by cases (show a = F from h); rfl
  | o :: l, k, a, hl, hd, h => by
    have h0 : ops[k]? = some o := by simpa using (hl 0 (by simp)).symm
    have hst : stOp P ops W k (wpStill P ops W (fun a' => a' = F) l) a := by unfold stOp; simp only [h0]; exact h
    obtain ⟨v, -, hK⟩ := yieldsAt_of_stOp h0 hst
    have := kept d l (k + 1) _ (fun j hj => by have := hl (j + 1) (by simp; omega); simpa [Nat.add_assoc, Nat.add_comm 1 j] using this) (fun o ho => hd o (by simp [ho])) hK
    rw [this]
    have hdo := hd o (by simp)
    unfold Act.put
    cases e : o.dst with
    | none => rfl
    | some x =>
      have hx : x ≠ d := fun h => hdo (by rw [e, h])
      simp [Array.getElem?_setIfInBounds_ne hx]

/-- every one fills a slot of its own -/
def ownB (s : Nat) : List Oper → Bool
  | [] => true
  | o :: l => (match o.dst with | some d => decide (d < s) && l.all (fun x => x.dst != some d) | none => false) && ownB s l

theorem lex_of_still {F : Act} {Lq : Act → Prop} {rest : List Oper} : ∀ (l : List Oper) (k : Nat) (a : Act), (∀ j, j < l.length → l[j]? = ops[k + j]?) → (k + l.length ≤ m ∨ m < k) → ownB a.tmps.size l = true →
    wpStill P ops w (fun a' => a' = F) l a → wpStill P ops w' (fun a' => a' = F) l a → Lex P ops w w' m pA Lq (k + l.length) rest F → Lex P ops w w' m pA Lq k (l ++ rest) a
  | [], k, a, _, _, _, h1, _, hr => by cases (show a = F from h1); simpa using hr
  | o :: l, k, a, hl, hm, ho, h1, h2, hr => by
    have h0 : ops[k]? = some o := by simpa using (hl 0 (by simp)).symm
    have hs1 : stOp P ops w k (wpStill P ops w (fun a' => a' = F) l) a := by unfold stOp; simp only [h0]; exact h1
    have hs2 : stOp P ops w' k (wpStill P ops w' (fun a' => a' = F) l) a := by unfold stOp; simp only [h0]; exact h2
    obtain ⟨v1, y1, k1⟩ := yieldsAt_of_stOp h0 hs1
    obtain ⟨v2, y2, k2⟩ := yieldsAt_of_stOp h0 hs2
    have hl' : ∀ j, j < l.length → l[j]? = ops[(k + 1) + j]? := fun j hj => by have := hl (j + 1) (by simp; omega); simpa [Nat.add_assoc, Nat.add_comm 1 j] using this
    simp only [ownB, Bool.and_eq_true] at ho
    obtain ⟨ho1, ho2⟩ := ho
    cases e : o.dst with
    | none => rw [e] at ho1; cases ho1
    | some d =>
      rw [e] at ho1 k1 k2
      simp only [Bool.and_eq_true, decide_eq_true_eq, List.all_eq_true] at ho1
      have hne : ∀ x ∈ l, x.dst ≠ some d := fun x hx => by simpa using ho1.2 x hx
      have f1 := kept d l (k + 1) _ hl' hne k1
      have f2 := kept d l (k + 1) _ hl' hne k2
      have g1 : (a.put (some d) v1).tmps[d]? = some v1 := by simp [Act.put, ho1.1]
      have g2 : (a.put (some d) v2).tmps[d]? = some v2 := by simp [Act.put, ho1.1]
      rw [g1] at f1
      rw [g2, f1] at f2
      obtain rfl := Option.some.inj f2
      have hlen : (o :: l).length = l.length + 1 := rfl
      refine ⟨v1, .inr ⟨by omega, y1, y2⟩, ?_⟩
      rw [e]
      refine lex_of_still l (k + 1) _ hl' (by omega) (by simpa [Act.put] using ho2) k1 k2 ?_
      rw [show k + 1 + l.length = k + (o :: l).length by simp only [List.length_cons]; omega]
      exact hr

/-- the maker last of the head; then the tail -/
theorem wp_region_float1 {id : Nat} {Q : Exit → Act → World → Prop} {a F : Act} {w w' : World} {l : List Oper} (m : Nat) (pA : Value) (oA : Oper) (hm : P.follows .mixedOrders = true) (hB : floatB .any l.toArray (m + 1) m = true)
    (hoA : l[m]? = some oA) (hgA : ∀ a : Act, Region.wanted oA (yielded l.toArray a.tmps) = true) (hA : ∀ a : Act, (execOp a.eval oA).run P { w with drawn := w.drawn + 1 } = .ok (.value pA) w')
    (hst : ∀ W : World, wpStill P l.toArray W (fun a' => a' = F) (l.take m) a) (hown : ownB a.tmps.size (l.take m) = true)
    (hfin : wpList P l.toArray Q (l.drop (m + 1)) (F.put oA.dst pA) w') : (Code.region id l.toArray true).wp P Q a w := by
  refine wp_region_float (m + 1) m pA oA hm hB hoA hgA hA ?_
  have hlt : m < l.length := (List.getElem?_eq_some_iff.1 hoA).1
  have htl : (l.take m).length = m := by simp; omega
  rw [List.take_add_one, hoA]
  refine lex_of_still (l.take m) 0 a (fun j hj => ?_) (by omega) hown (hst _) (hst _) ?_
  · have hj' : j < m := by rw [htl] at hj; exact hj
    simp [hj']
  · exact ⟨pA, .inl ⟨by omega, rfl⟩, hfin⟩

theorem wp_region_float2 {id : Nat} {Q : Exit → Act → World → Prop} {a : Act} {w w' : World} {l : List Oper} (m : Nat) (pA : Value) (oA : Oper) (hm : P.follows .mixedOrders = true) (hB : floatB .any l.toArray (m + 1) m = true)
    (hoA : l[m]? = some oA) (hgA : ∀ a : Act, Region.wanted oA (yielded l.toArray a.tmps) = true) (hA : ∀ a : Act, (execOp a.eval oA).run P { w with drawn := w.drawn + 1 } = .ok (.value pA) w')
    (hown : ownB a.tmps.size (l.take m) = true)
    (h : ∃ F, (∀ W : World, wpStill P l.toArray W (fun a' => a' = F) (l.take m) a) ∧ wpList P l.toArray Q (l.drop (m + 1)) (F.put oA.dst pA) w') : (Code.region id l.toArray true).wp P Q a w := by
  obtain ⟨F, h1, h2⟩ := h
  exact wp_region_float1 m pA oA hm hB hoA hgA hA h1 hown h2
end
end Go.FloatYtkjojfcknfhkhaa
