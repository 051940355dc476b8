/- The first one of a kind: the contract of the program's Find. -/
import Derived.Test.YtmkngolkflihlaaMpL
namespace Go.Proofs.Ytmkngolkflihlaa.Mp
open Go.ChangeShapes Go.WideShapes Go.ChangeAt Go.RowKit
open Go.Proofs.Ytmkngolkflihlaa.Opt (O OptsAt)
set_option linter.unusedVariables false

def firstM : List M → Int → M × Bool
  | [], _ => (M.zero, false)
  | m :: r, k => if m.kind = k then (m, true) else firstM r k
theorem firstM_at (l : List M) (k : Int) (j : Nat) (m : M) (h : l[j]? = some m) : firstM (l.drop j) k = if m.kind = k then (m, true) else firstM (l.drop (j + 1)) k := by
  obtain ⟨hl, rfl⟩ := List.getElem?_eq_some_iff.1 h
  rw [List.drop_eq_getElem_cons hl]; rfl

set_option maxRecDepth 100000 in
set_option maxHeartbeats 4000000 in
theorem Find_any (l : List O) (hl : Few l) (kind : Int) (a : Option Addr) (cap : Nat) (w : World) (h : OptsAt w a l) :
    Calls Try.prog 13 #[.slice a l.length cap, .int .i64 kind] w
      fun e w' => e = .returned (.tuple #[.agg (rowOf (firstM (alls l) kind).1), .bool (firstM (alls l) kind).2]) ∧ Below w.heap.size w w' := by
  have b0 := (Below.refl w.heap.size w).alloc (Nat.le_refl _) (.cells (rowOf M.zero) 23)
  have n0 := heap_alloc_new w (.cells (rowOf M.zero) 23)
  have CA := Lib.hid (All_any l hl a cap _ (h.below b0))
  have ha := Nat.le_trans (alls_le l) hl.1
  have B0 := Lib.hid b0
  have N0 := Lib.hid n0
  generalize alls l = L at *
  clear b0 n0 h hl
  unfold rowOf M.zero at B0 N0 CA
  dsimp only at B0 N0 CA
  have HF := Lib.hid (show firstM L kind = firstM L kind from rfl)
  go_enter Try.func13, Try.ntmps13
  go_wp2_with fail
  refine CA.out.mono ?_
  rintro e w1 ⟨v, rfl, hM, hb⟩
  obtain ⟨g, c, rfl, hat⟩ := Ms.at hM
  have B1 := Lib.hid (B0.out.trans (hb.mono (by simp)))
  have N1 := Lib.hid ((hb.block w.heap.size (by simp)).trans N0.out)
  have z1 : w.heap.size < w1.heap.size := by have := hb.size; simp at this; omega
  have HA := Lib.hid hat
  clear hM hat hb B0 N0 CA
  go_wp2_with fail
  go_loopw [11] (fun i wr => ∃ k : Nat, k ≤ L.length ∧ i = .int .i64 k ∧ firstM (L.drop k) kind = firstM L kind ∧ Below w1.heap.size w1 wr) (fun i _ => L.length - (intOf i).toNat)
  case atStart => exact ⟨0, Nat.zero_le _, rfl, rfl, Below.refl _ _⟩
  case round =>
    obtain ⟨k, hk, rfl, hf, hb⟩ := hrel
    have HB := Lib.hid hb
    have HF := Lib.hid hf
    clear hb hf
    by_cases hlt : k < L.length
    · obtain ⟨m, hi⟩ := Opt.some_at hlt
      obtain ⟨b, off, hg, hb0, h7⟩ := HA.out.get HB.out hi
      subst hg
      have HN := Lib.hid ((firstM_at L kind k m hi).symm.trans HF.out)
      obtain ⟨mk, ma, mp, mt, mn, mq, mb⟩ := m
      obtain ⟨c0, c1, c2, c3, c4, c5, c6⟩ := h7
      dsimp only at c0 c1 c2 c3 c4 c5 c6
      clear hi
      have NV := Lib.hid (heap_alloc_new wr (.cells #[.int .i64 mk, .int .i64 ma, .int .i64 mp, .int .i64 mq, .int .i64 mt, .int .i64 mn, .string mb] 23))
      have BV := Lib.hid (HB.out.alloc HB.out.size (.cells #[.int .i64 mk, .int .i64 ma, .int .i64 mp, .int .i64 mq, .int .i64 mt, .int .i64 mn, .string mb] 23))
      have NR := Lib.hid ((BV.out.block w.heap.size z1).trans N1.out)
      by_cases hkd : mk = kind
      · have HC := Lib.hid (HN.out.symm.trans (if_pos hkd))
        have hkb : (mk == kind) = true := by simpa using hkd
        clear hkd HN
        go_wp2_with (first
          | refine wpList_load_row rfl 23 _ rfl wr.heap.size rfl _ _ _ _ NV.out Try.underlying23 rfl (hi7m _ _ _ _ _ _ _) ?_
          | refine wpList_store_row rfl 23 _ _ rfl w.heap.size _ rfl rfl 23 _ NR.out (hi7m _ _ _ _ _ _ _) rfl (hone7m _ _ _ _ _ _ _) ?_)
        refine bodyPost_ret (results_row1 Try.results13 _ _ w.heap.size 23 _ (0, 0) _ rfl (setRow_heap _ _ _ _ _ _ NR.out) Try.underlying23 rfl (hi7m _ _ _ _ _ _ _)) rfl ?_
        exact ⟨by rw [HC.out]; rfl, below_setRow (B1.out.trans (BV.out.mono (by omega))) (Nat.le_refl _) _⟩
      · have hkb : (mk == kind) = false := by simpa using hkd
        have HN' := Lib.hid (HN.out.symm.trans (if_neg hkd)).symm
        clear hkd HN
        go_wp2_with fail
        exact ⟨⟨k + 1, by omega, by go_num, HN'.out, BV.out⟩, by simp [intOf]; omega⟩
    · obtain rfl : k = L.length := by omega
      have HC := Lib.hid (show firstM L kind = (M.zero, false) by rw [← HF.out, List.drop_length]; rfl)
      have NR := Lib.hid ((HB.out.block w.heap.size z1).trans N1.out)
      go_wp2_with (refine wpList_store_row rfl 23 _ _ rfl w.heap.size _ rfl rfl 23 _ NR.out (hi7m _ _ _ _ _ _ _) rfl (hone7m _ _ _ _ _ _ _) ?_)
      refine bodyPost_ret (results_row1 Try.results13 _ _ w.heap.size 23 _ (0, 0) _ rfl (setRow_heap _ _ _ _ _ _ NR.out) Try.underlying23 rfl (hi7m _ _ _ _ _ _ _)) rfl ?_
      exact ⟨by rw [HC.out]; rfl, below_setRow (B1.out.trans (HB.out.mono (by omega))) (Nat.le_refl _) _⟩
end Go.Proofs.Ytmkngolkflihlaa.Mp
