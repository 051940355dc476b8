/- The packets told one by one to the law's own yield. -/
import Derived.Test.YtdnddhnnpplgjaaAvecG
namespace Go.Proofs.Ytdnddhnnpplgjaa.Avec
open Go.ChangeShapes Go.WideShapes Go.ChangeAt Go.RowKit
set_option linter.unusedVariables false

theorem keepsRuns_kept {A B : Nat} {w w' : World} {ta tb : TypeId} {u v : Value} (h : Kept A B w w') (hA : Boxed w A ta u) (hB : Boxed w B tb v) (na : ta ≠ 45) (nb : tb ≠ 45) : KeepsRuns w w' := fun b cs m hb => by
  refine h.block b (Array.getElem?_eq_some_iff.1 hb).1 (fun e => ?_) (fun e => ?_)
  · subst e
    rw [show w.heap[b]? = _ from hA] at hb
    cases hb
    exact na rfl
  · subst e
    rw [show w.heap[b]? = _ from hB] at hb
    cases hb
    exact nb rfl
theorem drop_head {l : List Int} {k : Nat} {x : Int} {r : List Int} (h : l.drop k = x :: r) : l[k]? = some x ∧ l.drop (k + 1) = r ∧ k < l.length := by
  have h0 : l[k]? = some x := by
    have := congrArg (fun l => l[0]?) h
    simpa using this
  refine ⟨h0, ?_, (List.getElem?_eq_some_iff.1 h0).1⟩
  have := drop_int h0
  rw [h] at this
  exact (List.cons.inj this).2.symm
theorem ofc_next (f : Int) (k : Nat) : Circ.ofc (seqOf (f - k) + -1) = seqOf (f - ((k + 1 : Nat) : Int)) := by rw [ofc_add, seqOf_step]

/-- the two variables that the yield writes, and what else lies as it lay -/
def Counted (A B : Nat) (w : World) (k : Nat) (wr : World) : Prop := Boxed wr A 4 (.bool true) ∧ Boxed wr B 3 (.int .i64 k) ∧ Kept A B w wr
/-- the next state to be told is the k-th -/
def Next (sts : List Int) (most : Int) (k : Nat) (rest : List Int) : Prop := k ≤ sts.length ∧ (k = 0 ∨ (k : Int) < most) ∧ sts.drop k = rest

set_option maxRecDepth 100000 in
set_option maxHeartbeats 2000000 in
theorem Each1_law (A B Bw Bf Bm Cf Cl : Nat) (from' most : Int) (l : List R) (hlen : l.length ≤ 5000) (aw : Option Addr) (cap : Nat) (hAB : A ≠ B) (n1 : Bw ≠ A ∧ Bw ≠ B) (n2 : Bf ≠ A ∧ Bf ≠ B) (n3 : Bm ≠ A ∧ Bm ≠ B)
    (w : World) (hr : Reads A B Bw Bf Bm from' most aw (states l) cap w) (hA : Boxed w A 4 (.bool true)) (hB : Boxed w B 3 (.int .i64 0))
    (al : Option Addr) (capl : Nat) (hcf : w.cell? ⟨Cf, 0, none⟩ = some (.int .i64 from')) (hcl : w.cell? ⟨Cl, 0, none⟩ = some (.slice al l.length capl)) (hT : RunsT w al l) :
    Calls Try.prog 29 #[.func (.func 20) #[] #[.pointer (some ⟨A, 0, none⟩), .pointer (some ⟨B, 0, none⟩), .pointer (some ⟨Bw, 0, none⟩), .pointer (some ⟨Bf, 0, none⟩), .pointer (some ⟨Bm, 0, none⟩)], .pointer (some ⟨Cf, 0, none⟩), .pointer (some ⟨Cl, 0, none⟩)] w fun e w' =>
      e = .returned (.tuple #[]) ∧ ∃ N : Nat, (N : Int) = min ((states l).length : Int) (max most 1) ∧ Counted A B w N w' := by
  have hfn := fun W => yield_not_nil (.func 20) #[] #[.pointer (some ⟨A, 0, none⟩), .pointer (some ⟨B, 0, none⟩), .pointer (some ⟨Bw, 0, none⟩), .pointer (some ⟨Bf, 0, none⟩), .pointer (some ⟨Bm, 0, none⟩)] W
  have hml : (states l).length ≤ 400000 := by
    rw [states_length]
    have := many_le l
    omega
  have Hlaw := Lib.hid (fun (wr : World) (hk : Kept A B w wr) (k : Nat) => law1_any A B Bw Bf Bm from' most aw (states l) cap hml hAB n1 n2 n3 wr (hr.kept hk n1 n2 n3) k)
  have Hkr := Lib.hid (fun (wr wr' : World) (k k' : Nat) (h : Counted A B w k wr) (h' : Kept A B wr wr') => keepsRuns_kept h' h.1 h.2.1 (by decide) (by decide))
  have Hst := Lib.hid (show Next (states l) most 0 (states (l.drop 0)) from ⟨Nat.zero_le _, .inl rfl, rfl⟩)
  have Hc0 := Lib.hid (show Counted A B w 0 w from ⟨hA, hB, Kept.refl _ _ _⟩)
  have h00 : seqOf (from' - ((0 : Nat) : Int)) = seqOf from' := by simp
  generalize hsts : states l = sts at *
  clear hsts hr hA hB
  have HT := Lib.hid hT
  clear hT
  go_enter Try.func29, Try.ntmps29
  go_wp2_with fail
  refine (Circ.of_any from' w).mono ?_
  rintro e w ⟨rfl, rfl⟩
  rw [show Circ.ofc from' = seqOf from' from rfl, ← h00]
  clear h00
  go_wp2_with fail
  go_loopw [4, 13] (fun v i wr => ∃ k i0 : Nat, v = .int .i64 (seqOf (from' - (k : Int))) ∧ i = .int .i64 i0 ∧ i0 ≤ l.length ∧ Next sts most k (states (l.drop i0)) ∧ Counted A B w k wr ∧ RunsT wr al l) (fun v i wr => l.length - (intOf i).toNat)
  case atStart => exact ⟨0, 0, congrArg (Value.int .i64) (by simp), rfl, by omega, Hst.out, Hc0.out, HT.out⟩
  case round =>
    obtain ⟨k, i, rfl, rfl, hi, hn, hc, ht⟩ := hrel
    have Hn := Lib.hid hn
    have Hc := Lib.hid hc
    have Ht := Lib.hid ht
    clear hn hc ht
    by_cases hlt : i < l.length
    · obtain ⟨⟨q, m⟩, hi2⟩ := some_at hlt
      obtain ⟨b, off, rfl, hb0, hc0, hc1⟩ := (RunsT.at Ht.out).cell (Below.refl _ _) hi2
      dsimp only at hc0 hc1
      have ha := (Below.refl wr.heap.size wr).alloc (Nat.le_refl _) (.cells #[.int .i64 q, .int .i64 m] 45)
      have hbox := Box2.new wr 45 (.int .i64 q) (.int .i64 m)
      have Hd := Lib.hid (states_drop hi2)
      have Htd := Lib.hid (fun w => told1_any q m w)
      have hm64 := heldN_le m
      generalize heldN m = hm at *
      generalize hs1 : seqOf (from' - (k : Int)) = s1
      have Hs1 := Lib.hid hs1
      clear hs1
      go_wp2_with fail
      refine (Htd.out _).mono ?_
      rintro e w1 ⟨rfl, h1⟩
      have hb1 : Below wr.heap.size wr w1 := ha.trans (h1.mono (by simp))
      have hk1 : Kept A B wr w1 := Kept.of_below hb1
      have Ht1 := Lib.hid (Ht.out.keeps (keepsRuns_below hb1))
      have hbox1 : Box2 w1 wr.heap.size 45 (.int .i64 q) (.int .i64 m) := (h1.block _ (by simp)).trans hbox
      have Hc1 := Lib.hid (show Counted A B w k w1 from ⟨boxed_below Hc.out.1 hb1 Hc.out.1.lt, boxed_below Hc.out.2.1 hb1 Hc.out.2.1.lt, Hc.out.2.2.trans hk1⟩)
      generalize wr.heap.size = Br at *
      clear ha h1 hb1 hbox Hc Htd hc0 hc1 hb0 hk1 Ht
      go_wp2_with fail
      go_loopw [4, 19] (fun v j wr => ∃ k j0 : Nat, v = .int .i64 (seqOf (from' - (k : Int))) ∧ j = .int .i64 j0 ∧ j0 ≤ hm ∧ Next sts most k (List.replicate (hm - j0) q ++ states (l.drop (i + 1))) ∧ Counted A B w k wr ∧ RunsT wr (some ⟨b, off, none⟩) l ∧ Box2 wr Br 45 (.int .i64 q) (.int .i64 m)) (fun v j wr => hm - (intOf j).toNat)
      case atStart => exact ⟨k, 0, by rw [Hs1.out], rfl, by omega, by rw [Nat.sub_zero, ← Hd.out]; exact Hn.out, Hc1.out, Ht1.out, hbox1⟩
      case round =>
        obtain ⟨k, j, rfl, rfl, hj, hn, hc, ht, hbox⟩ := hrel
        clear Hn Ht1 hbox1 Hc1 Hs1
        have Hn := Lib.hid hn
        have Hc := Lib.hid hc
        have Ht := Lib.hid ht
        have Hbox := Lib.hid hbox
        clear hn hc ht
        by_cases hjt : j < hm
        · obtain ⟨hn1, hn2, hn3⟩ := Hn.out
          rw [show hm - j = (hm - (j + 1)) + 1 by omega, List.replicate_succ, List.cons_append] at hn3
          obtain ⟨hx, hdr, hlt2⟩ := drop_head hn3
          have HL := Lib.hid (Hlaw.out wr Hc.out.2.2 k Hc.out.1 Hc.out.2.1 q hx)
          have Hnx := Lib.hid (ofc_next from' k)
          obtain ⟨cx0, cx1⟩ := hbox.cell
          clear hx hn3 hbox
          generalize hs1 : seqOf (from' - (k : Int)) = s1 at *
          clear hs1
          by_cases hmm : ((k + 1 : Nat) : Int) < most
          · have Hn2 := Lib.hid (show Next sts most (k + 1) (List.replicate (hm - (j + 1)) q ++ states (l.drop (i + 1))) from ⟨hlt2, .inr hmm, hdr⟩)
            rw [show decide (((k + 1 : Nat) : Int) < most) = true by simpa using hmm] at HL
            clear hmm hdr hlt2 Hn hn1 hn2
            go_wp2_with fail
            refine HL.out.mono ?_
            rintro e w2 ⟨rfl, hA2, hB2, hk2⟩
            have Hkr2 := Hkr.out wr w2 k (k + 1) Hc.out hk2
            have Ht2 := Lib.hid (Ht.out.keeps Hkr2)
            have Hbox2 := Lib.hid (Hbox.out.keeps Hkr2)
            have Hc2 := Lib.hid (show Counted A B w (k + 1) w2 from ⟨hA2, hB2, Hc.out.2.2.trans hk2⟩)
            clear hA2 hB2 hk2 Hkr2 Ht Hbox Hc HL cx0 cx1
            go_wp2_with fail
            refine (Circ.add_any s1 (-1) w2).mono ?_
            rintro e w3 ⟨rfl, h3⟩
            subst h3
            rw [Hnx.out]
            generalize hs2 : seqOf (from' - ((k + 1 : Nat) : Int)) = s2 at *
            have Hs2 := Lib.hid hs2
            clear hs2
            go_wp2_with fail
            refine ⟨⟨k + 1, j + 1, by rw [Hs2.out], by go_num, by omega, Hn2.out, Hc2.out, Ht2.out, Hbox2.out⟩, by simp [intOf]; omega⟩
          · have Hend := Lib.hid (show ((k + 1 : Nat) : Int) = min (sts.length : Int) (max most 1) by omega)
            rw [show decide (((k + 1 : Nat) : Int) < most) = false by simpa using hmm] at HL
            clear hmm hdr hlt2 Hn hn1 hn2
            go_wp2_with fail
            refine HL.out.mono ?_
            rintro e w2 ⟨rfl, hA2, hB2, hk2⟩
            have Hc2 := Lib.hid (show Counted A B w (k + 1) w2 from ⟨hA2, hB2, Hc.out.2.2.trans hk2⟩)
            clear hA2 hB2 hk2 HL cx0 cx1
            go_wp2_with fail
            go_returns
            exact ⟨rfl, k + 1, Hend.out, Hc2.out⟩
        · obtain rfl : j = hm := by omega
          have Hn2 := Lib.hid (show Next sts most k (states (l.drop (i + 1))) from by have := Hn.out; rwa [Nat.sub_self] at this)
          generalize hs1 : seqOf (from' - (k : Int)) = s1
          have Hs1 := Lib.hid hs1
          clear hs1 Hn
          go_wp2_with fail
          refine ⟨⟨k, i + 1, by rw [Hs1.out], by go_num, by omega, Hn2.out, Hc.out, Ht.out⟩, by simp [intOf]; omega⟩
    · obtain rfl : i = l.length := by omega
      generalize hs1 : seqOf (from' - (k : Int)) = s1
      clear hs1
      go_wp2_with fail
      go_returns
      refine ⟨rfl, k, ?_, Hc.out⟩
      obtain ⟨h1, h2, h3⟩ := Hn.out
      have h4 : sts.length ≤ k := by
        rw [List.drop_length] at h3
        exact List.drop_eq_nil_iff.1 h3
      omega
end Go.Proofs.Ytdnddhnnpplgjaa.Avec
