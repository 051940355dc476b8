/- The document's Put: its contract. -/
import Derived.Test.YtmjfdklpcmpjhaaHead5
import Derived.Test.YtmjfdklpcmpjhaaHead6
import Derived.Test.YtmjfdklpcmpjhaaRefPut1
import Derived.Deep.RegionHeld3
namespace Go.Proofs.Ytmjfdklpcmpjhaa.Head
open Go.ChangeShapes Go.WideShapes Go.ChangeAt Go.RowKit
open Go.Proofs.Ytmjfdklpcmpjhaa.Oct (be num be_length be_add be_mod nat64 u64_nat held bs_append refPut_any)
set_option linter.unusedVariables false

theorem refPutW (l : List UInt8) (v' v size : Int) (k : Nat) (hk : held size = k) (hv : v' = v) (h0 : 0 ≤ v ∧ v ≤ 1000000000000000000) (hl : l.length ≤ 1000) (w : World) :
    Calls Try.prog 23 #[.string ⟨l.toArray⟩, .int .u64 v', .int .i64 size] w fun e w' => e = .returned (.string ⟨(l ++ be (nat64 v) k).toArray⟩) ∧ Below w.heap.size w w' := by
  subst hk hv
  obtain ⟨n, rfl⟩ := Int.eq_ofNat_of_zero_le h0.1
  refine (refPut_any ⟨l.toArray⟩ n size w (by show l.toArray.size ≤ 100000; simp; omega) (by omega)).mono ?_
  rintro e w' ⟨rfl, h⟩
  exact ⟨by rw [bs_append, u64_nat n (by omega)], h⟩

theorem refPutN (l : List UInt8) (v' v size : Int) (k : Nat) (hk : held size = k) (hv : v' = v) (h0 : 0 ≤ v ∧ v ≤ 1000000000000000000) (hl : l.length ≤ 1000) (w : World) :
    Calls Try.prog 23 #[.string ⟨l.toArray⟩, .int .u64 v', .int .i64 size] w fun e w' => ∃ l' : List UInt8, e = .returned (.string ⟨l'.toArray⟩) ∧ RowKit.Hid (l' = l ++ be (nat64 v) k) ∧ l'.length ≤ l.length + k ∧ Below w.heap.size w w' := by
  refine (refPutW l v' v size k hk hv h0 hl w).mono ?_
  rintro e w' ⟨rfl, h⟩
  exact ⟨_, rfl, Lib.hid rfl, by simp, h⟩

/-- the four numbers of two bytes each, as bytes, so many of them -/
def acc (l : List Int) (k : Nat) : List UInt8 := (l.take k).flatMap (fun v => be (nat64 v) 2)

theorem two_ones (c x : Int) (hc : 0 ≤ c ∧ c ≤ 255) (hx : 0 ≤ x ∧ x ≤ 255) : be (nat64 (c * 256 + x)) 2 = be (nat64 c) 1 ++ be (nat64 x) 1 := by
  obtain ⟨m, rfl⟩ := Int.eq_ofNat_of_zero_le hc.1
  obtain ⟨n, rfl⟩ := Int.eq_ofNat_of_zero_le hx.1
  have e : ((m : Int) * 256 + n) = ((m * 256 + n : Nat) : Int) := by omega
  rw [e, u64_nat _ (by omega), u64_nat _ (by omega), u64_nat _ (by omega)]
  rw [show (2 : Nat) = 1 + 1 from rfl, be_add]
  have h1 : (m * 256 + n) / 256 ^ 1 = m := by omega
  have h2 : be (m * 256 + n) 1 = be n 1 := by
    rw [← be_mod (m * 256 + n) 1, ← be_mod n 1]
    congr 1; omega
  rw [h1, h2]

theorem lead_acc (h : B) (g : Good h) : acc [h.src, h.dst, h.words * 256 + h.cc * 16 + h.cover, h.sum] 4 = lead h := by
  have h1 := g.range.words
  have h2 := g.range.cc
  have h3 := g.range.cover
  unfold acc lead
  simp only [List.take_succ_cons, List.flatMap_cons, List.flatMap_nil, List.append_nil, List.take_nil]
  rw [show h.words * 256 + h.cc * 16 + h.cover = h.words * 256 + (16 * h.cc + h.cover) by omega, two_ones _ _ h1 (by omega)]
  simp

theorem seven (q : Int) (h : 0 ≤ q ∧ q ≤ 281474976710655) : be (nat64 q) 7 = be 0 1 ++ be (nat64 q) 6 := by
  obtain ⟨n, rfl⟩ := Int.eq_ofNat_of_zero_le h.1
  rw [u64_nat _ (by omega), show (7 : Nat) = 1 + 6 from rfl, be_add]
  have h6 : (256 : Nat) ^ 6 = 281474976710656 := by decide
  rw [show n / 256 ^ 6 = 0 by rw [h6]; omega]

theorem put_short (h : B) (g : Good h) (hl : h.long = false) : putText h = ⟨(acc [h.src, h.dst, h.words * 256 + h.cc * 16 + h.cover, h.sum] 4 ++ be (nat64 (2 * h.kind)) 1 ++ be (nat64 h.seq) 3).toArray⟩ := by
  unfold putText
  rw [if_pos ((check_ok h).2 g), lead_acc h g]
  unfold put tail
  rw [hl, if_neg (by simp), List.append_assoc]
theorem put_long (h : B) (g : Good h) (hl : h.long = true) : putText h = ⟨(acc [h.src, h.dst, h.words * 256 + h.cc * 16 + h.cover, h.sum] 4 ++ be (nat64 (2 * h.kind + 1)) 1 ++ be (nat64 h.seq) 7).toArray⟩ := by
  have hq := g.range.seq
  rw [hl] at hq
  unfold putText
  rw [if_pos ((check_ok h).2 g), lead_acc h g, seven _ hq]
  unfold put tail
  rw [hl, if_pos rfl, List.append_assoc]

theorem at_drew {w w' : World} (h : Below w.drew.heap.size w.drew w') : Below w.heap.size w w' := ⟨h.os, h.tape, h.output, h.size, h.block⟩

def Row4 (W : World) (S : Nat) (a b c d : Int) : Prop := W.heap[S]? = some (.cells #[.int .i64 a, .int .i64 b, .int .i64 c, .int .i64 d] 3 (0, 0))
theorem Row4.below {w w' : World} {S N : Nat} {a b c d : Int} (h : Row4 w S a b c d) (k : Below N w w') (hS : S < N) : Row4 w' S a b c d := (k.block S hS).trans h
theorem Row4.lt {w : World} {S : Nat} {a b c d : Int} (h : Row4 w S a b c d) : S < w.heap.size := (Array.getElem?_eq_some_iff.1 h).1
theorem Row4.cell {W : World} {S : Nat} {a b c d : Int} (h : Row4 W S a b c d) : W.cell? ⟨S, 0, none⟩ = some (.int .i64 a) ∧ W.cell? ⟨S, 1, none⟩ = some (.int .i64 b) ∧ W.cell? ⟨S, 2, none⟩ = some (.int .i64 c) ∧ W.cell? ⟨S, 3, none⟩ = some (.int .i64 d) :=
  ⟨cell_of_row _ _ _ _ _ _ h, cell_of_row _ _ _ _ _ _ h, cell_of_row _ _ _ _ _ _ h, cell_of_row _ _ _ _ _ _ h⟩

set_option maxRecDepth 100000 in
set_option maxHeartbeats 4000000 in
theorem refPutH_any (h : B) (w : World) : Calls Try.prog 14 #[.agg #[.int .i64 h.src, .int .i64 h.dst, .int .i64 h.words, .int .i64 h.cc, .int .i64 h.cover, .int .i64 h.sum, .int .i64 h.kind, .bool h.long, .int .i64 h.seq]] w
    fun e w' => e = .returned (.tuple #[.string (putText h), .int .i64 (check h)]) ∧ Below w.heap.size w w' := by
  have hC := fun w => refCheck_any h w
  have hok := check_ok h
  have hT := Lib.hid (show putText h = if check h = 0 then ⟨(put h).toArray⟩ else ⟨#[]⟩ from rfl)
  have hS := fun g => put_short h g
  have hL := fun g => put_long h g
  have hbox := Box9.new w h
  have hb := Lib.hid ((Below.refl w.heap.size w).alloc (Nat.le_refl _) (.cells #[.int .i64 h.src, .int .i64 h.dst, .int .i64 h.words, .int .i64 h.cc, .int .i64 h.cover, .int .i64 h.sum, .int .i64 h.kind, .bool h.long, .int .i64 h.seq] 27))
  have hsz : (w.alloc (.cells #[.int .i64 h.src, .int .i64 h.dst, .int .i64 h.words, .int .i64 h.cc, .int .i64 h.cover, .int .i64 h.sum, .int .i64 h.kind, .bool h.long, .int .i64 h.seq] 27)).heap.size = w.heap.size + 1 := by simp
  generalize check h = C at *
  generalize putText h = T at *
  by_cases hc : C = 0
  · subst hc
    have G := hok.1 rfl
    have HS := Lib.hid (hS G)
    have HL := Lib.hid (hL G)
    clear hT hok hS hL
    have hk := G.known
    have hsrc := G.range.src
    have hdst := G.range.dst
    have hsum := G.range.sum
    have hwo := G.range.words
    have hcc := G.range.cc
    have hcv := G.range.cover
    have hq : 0 ≤ h.seq ∧ h.seq ≤ 281474976710655 := by
      have := G.range.seq; unfold seqMost at this; split at this <;> omega
    clear G
    obtain ⟨a, b, c, d, f, g, k, l, q⟩ := h
    dsimp only at *
    go_enter Try.func14, Try.ntmps14
    go_wp2_with fail
    refine (hC _).mono ?_
    rintro e w1 ⟨rfl, h1⟩
    have hb1 := hbox.below h1 (by rw [hsz]; exact Nat.lt_succ_self _)
    have B1 := hb.out.trans (h1.mono (by rw [hsz]; exact Nat.le_succ _))
    clear hbox hb h1 hC hsz
    obtain ⟨A, hA⟩ : ∃ A, w.heap.size = A := ⟨_, rfl⟩
    rw [hA] at hb1 B1 ⊢
    obtain ⟨c0, c1, c2, c3, c4, c5, c6, c7, c8⟩ := hb1.cell
    go_wp2_with fail
    have r1 : Row4 (w1.alloc (.cells #[.int .i64 a, .int .i64 b, .int .i64 (c * 256 + d * 16 + f), .int .i64 g] 3)) w1.heap.size a b (c * 256 + d * 16 + f) g := heap_alloc_new w1 _
    have hb2 : Box9 (w1.alloc (.cells #[.int .i64 a, .int .i64 b, .int .i64 (c * 256 + d * 16 + f), .int .i64 g] 3)) A ⟨a, b, c, d, f, g, k, l, q⟩ := (Below.heap_alloc _ _ _ hb1.lt).trans hb1
    have B2 := B1.alloc (by rw [← hA]; exact B1.size) (.cells #[.int .i64 a, .int .i64 b, .int .i64 (c * 256 + d * 16 + f), .int .i64 g] 3)
    clear c0 c1 c2 c3 c4 c5 c6 c7 c8 hb1 B1
    obtain ⟨S, hSS⟩ : ∃ S, w1.heap.size = S := ⟨_, rfl⟩
    rw [hSS] at r1
    go_loopw [5, 7] (fun s i wr => ∃ j : Nat, j ≤ 4 ∧ i = .int .i64 j ∧ s = .string ⟨(acc [a, b, c * 256 + d * 16 + f, g] j).toArray⟩ ∧ Row4 wr S a b (c * 256 + d * 16 + f) g ∧ Box9 wr A ⟨a, b, c, d, f, g, k, l, q⟩ ∧ Below A w wr)
      (fun _ i _ => 4 - (intOf i).toNat)
    case atStart => exact ⟨0, by omega, rfl, rfl, r1, hb2, B2⟩
    case round =>
      obtain ⟨j, hj, rfl, rfl, hR, hB, hb⟩ := hrel
      have hb' := Lib.hid (show A ≤ wr.heap.size from Nat.le_of_lt hB.lt)
      obtain ⟨r0, r1, r2, r3⟩ := hR.cell
      obtain ⟨c0, c1, c2, c3, c4, c5, c6, c7, c8⟩ := hB.cell
      dsimp only at c6 c7 c8
      have hj5 : j = 0 ∨ j = 1 ∨ j = 2 ∨ j = 3 ∨ j = 4 := by omega
      rw [hSS]
      rcases hj5 with rfl | rfl | rfl | rfl | rfl
      · go_wp2_with fail
        refine (refPutW _ _ (a) 2 2 rfl rfl (by omega) (by show (acc _ _).length ≤ 1000; simp [acc]) _).mono ?_
        rintro e w2 ⟨rfl, h2⟩
        go_wp2_with fail
        refine ⟨⟨1, by omega, rfl, rfl, hR.below h2 hR.lt, hB.below h2 hB.lt, hb.trans (h2.mono hb'.out)⟩, by simp [intOf]⟩
      · go_wp2_with fail
        refine (refPutW _ _ (b) 2 2 rfl rfl (by omega) (by show (acc _ _).length ≤ 1000; simp [acc]) _).mono ?_
        rintro e w2 ⟨rfl, h2⟩
        go_wp2_with fail
        refine ⟨⟨2, by omega, rfl, rfl, hR.below h2 hR.lt, hB.below h2 hB.lt, hb.trans (h2.mono hb'.out)⟩, by simp [intOf]⟩
      · go_wp2_with fail
        refine (refPutW _ _ (c * 256 + d * 16 + f) 2 2 rfl rfl (by omega) (by show (acc _ _).length ≤ 1000; simp [acc]) _).mono ?_
        rintro e w2 ⟨rfl, h2⟩
        go_wp2_with fail
        refine ⟨⟨3, by omega, rfl, rfl, hR.below h2 hR.lt, hB.below h2 hB.lt, hb.trans (h2.mono hb'.out)⟩, by simp [intOf]⟩
      · go_wp2_with fail
        refine (refPutW _ _ (g) 2 2 rfl rfl (by omega) (by show (acc _ _).length ≤ 1000; simp [acc]) _).mono ?_
        rintro e w2 ⟨rfl, h2⟩
        go_wp2_with fail
        refine ⟨⟨4, by omega, rfl, rfl, hR.below h2 hR.lt, hB.below h2 hB.lt, hb.trans (h2.mono hb'.out)⟩, by simp [intOf]⟩
      · cases l
        · have HT := Lib.hid (HS.out rfl)
          clear HS HL r0 r1 r2 r3 c0 c1 c2 c3 c4 c5 hj hSS
          have n8 : (acc [a, b, c * 256 + d * 16 + f, g] 4).length ≤ 900 := by simp [acc]
          generalize acc [a, b, c * 256 + d * 16 + f, g] 4 = L8 at *
          go_wp2_with fail
          go_region_held3 (fun w' => w'.cell? ⟨A, 6, none⟩ = some (.int .i64 k) ∧ w'.cell? ⟨A, 8, none⟩ = some (.int .i64 q)) (first | go_keep | exact v5 | exact v6) (first
            | (go_at_call_of 23 L8; refine (refPutN L8 _ (2 * k) 1 1 rfl (by first | (simp only [IntKind.wrap_i64, IntKind.wrap_u64]; omega) | omega) (by omega) (by omega) _).mono ?_; rintro e w5 ⟨l5, rfl, e5, n5, h5⟩; have k5 := hB.below (at_drew h5) hB.lt; have v5 := And.intro k5.cell.2.2.2.2.2.2.1 k5.cell.2.2.2.2.2.2.2.2)
            | (go_at_call_of 23 l5; refine (refPutN l5 _ q 3 3 rfl (by first | (simp only [IntKind.wrap_u64]; omega) | omega) (by omega) (by omega) _).mono ?_; rintro e w6 ⟨l6, rfl, e6, n6, h6⟩; have k6 := k5.below h6 k5.lt; have v6 := And.intro k6.cell.2.2.2.2.2.2.1 k6.cell.2.2.2.2.2.2.2.2))
          all_goals (
            go_wp2_with fail
            go_returns
            rw [hA]
            exact ⟨by rw [HT.out, ← e5.out, ← e6.out]; rfl, hb.trans ((at_drew h5).mono hb'.out) |>.trans (h6.mono (Nat.le_of_lt k5.lt))⟩)
        · have HT := Lib.hid (HL.out rfl)
          clear HS HL r0 r1 r2 r3 c0 c1 c2 c3 c4 c5 hj hSS
          have n8 : (acc [a, b, c * 256 + d * 16 + f, g] 4).length ≤ 900 := by simp [acc]
          generalize acc [a, b, c * 256 + d * 16 + f, g] 4 = L8 at *
          go_wp2_with fail
          go_region_held3 (fun w' => w'.cell? ⟨A, 6, none⟩ = some (.int .i64 k) ∧ w'.cell? ⟨A, 8, none⟩ = some (.int .i64 q)) (first | go_keep | exact v5 | exact v6) (first
            | (go_at_call_of 23 L8; refine (refPutN L8 _ (2 * k + 1) 1 1 rfl (by first | (simp only [IntKind.wrap_i64, IntKind.wrap_u64]; omega) | omega) (by omega) (by omega) _).mono ?_; rintro e w5 ⟨l5, rfl, e5, n5, h5⟩; have k5 := hB.below (at_drew h5) hB.lt; have v5 := And.intro k5.cell.2.2.2.2.2.2.1 k5.cell.2.2.2.2.2.2.2.2)
            | (go_at_call_of 23 l5; refine (refPutN l5 _ q 7 7 rfl (by first | (simp only [IntKind.wrap_u64]; omega) | omega) (by omega) (by omega) _).mono ?_; rintro e w6 ⟨l6, rfl, e6, n6, h6⟩; have k6 := k5.below h6 k5.lt; have v6 := And.intro k6.cell.2.2.2.2.2.2.1 k6.cell.2.2.2.2.2.2.2.2))
          all_goals (
            go_wp2_with fail
            go_returns
            rw [hA]
            exact ⟨by rw [HT.out, ← e5.out, ← e6.out]; rfl, hb.trans ((at_drew h5).mono hb'.out) |>.trans (h6.mono (Nat.le_of_lt k5.lt))⟩)
  · have HT := Lib.hid (hT.out.trans (if_neg hc))
    go_enter Try.func14, Try.ntmps14
    go_wp2_with fail
    refine (hC _).mono ?_
    rintro e w1 ⟨rfl, h1⟩
    go_wp2_with fail
    go_returns
    exact ⟨by rw [HT.out]; rfl, hb.out.trans (h1.mono (by rw [hsz]; exact Nat.le_succ _))⟩
end Go.Proofs.Ytmjfdklpcmpjhaa.Head
