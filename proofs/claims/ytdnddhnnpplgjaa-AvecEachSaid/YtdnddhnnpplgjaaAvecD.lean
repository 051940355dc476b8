/- The iterator over the packets that runs tell. -/
import Derived.Test.YtdnddhnnpplgjaaAvecC
namespace Go.Proofs.Ytdnddhnnpplgjaa.Avec
open Go.ChangeShapes Go.WideShapes Go.ChangeAt Go.RowKit Go.Shelf
set_option linter.unusedVariables false

attribute [local go_sem] Oper.semAt_some

/-- what a round is handed -/
def encs (x : Int × Int) : Array Value := #[.int .i64 x.1, .int .i64 x.2]
theorem grown_of_below {w w' : World} (h : Below w.heap.size w w') : w.grownBy w' none := ⟨h.os, h.tape, h.output, h.size, fun k hk _ => h.block k hk⟩
theorem told_cons (f q : Int) (j h : Nat) (hj : j < h) (T : List Int) : told f (List.replicate (h - j) q ++ T) = (f, q) :: told (seqOf (f - 1)) (List.replicate (h - (j + 1)) q ++ T) := by
  rw [show h - j = (h - (j + 1)) + 1 by omega, List.replicate_succ, List.cons_append, told]
theorem states_drop {l : List R} {k : Nat} {q n : Int} (h : l[k]? = some ⟨q, n⟩) : states (l.drop k) = List.replicate (heldN n) q ++ states (l.drop (k + 1)) := by rw [drop_at h, states_cons]
theorem ofc_add (f : Int) : Circ.ofc (f + -1) = seqOf (f - 1) := by unfold Circ.ofc seqOf; rw [Int.sub_eq_add_neg]

set_option maxRecDepth 100000 in
set_option maxHeartbeats 2000000 in
theorem each1_in (n : Nat) (lp Bf Bl B : Nat) (from' : Int) (l : List R) (hlen : l.length ≤ 5000) (a : Option Addr) (cap : Nat) (J Jx : List (Int × Int) → World → Prop) (hJ : AbidesFrom B J) (hJx : AbidesFrom B Jx)
    (hY : ∀ pre x W, J pre W → pre.length < many l → YieldAt Fence.wide (n - 1) Try.prog lp (encs x) W fun e W' =>
      (e = .returned (.bool true) ∧ J (pre ++ [x]) W' ∧ KeepsRuns W W') ∨ (e = .returned (.bool false) ∧ Jx (pre ++ [x]) W'))
    (W : World) (hBf : W.cell? ⟨Bf, 0, none⟩ = some (.int .i64 from')) (hBl : W.cell? ⟨Bl, 0, none⟩ = some (.slice a l.length cap)) (hl : RunsT W a l) (h0 : J [] W) :
    CallsIn Fence.wide n Try.prog 29 #[.func (.yield lp) #[] #[], .pointer (some ⟨Bf, 0, none⟩), .pointer (some ⟨Bl, 0, none⟩)] W fun e W' => (∃ v, e = .returned v) ∧
      ((∃ ys, ys = told (seqOf from') (states l) ∧ J ys W') ∨ (∃ pre, pre <+: told (seqOf from') (states l) ∧ Jx pre W')) := by
  have hgJ : ∀ {pre : List (Int × Int)} {w1 w2 : World}, J pre w1 → Below w1.heap.size w1 w2 → J pre w2 := fun h hb => hJ _ _ _ none h (grown_of_below hb) (fun r e => by cases e)
  have hfn := fun W => yield_not_nil (.yield lp) #[] #[] W
  have Hall := Lib.hid (show (told (seqOf from') (states l)).length = many l by rw [told_length, states_length])
  have Hs0 := Lib.hid (show told (seqOf from') (states l) = [] ++ told (seqOf from') (states (l.drop 0)) from rfl)
  generalize told (seqOf from') (states l) = all at *
  refine callsIn_of_wp Try.func29 rfl trivial ?_ rfl
  simp only [Try.ntmps29, List.size_toArray, List.length_cons, List.length_nil, Nat.reduceAdd, Nat.reduceSub, Array.replicate_succ, Array.replicate_zero, List.push_toArray, List.append_toArray, List.nil_append, List.cons_append]
  gi_wp2_with fail
  refine ⟨trivial, fun h => (by cases h), (callsIn_wide.2 (Circ.of_any from' W)).mono ?_⟩
  rintro e W ⟨rfl, rfl⟩
  rw [show Circ.ofc from' = seqOf from' from rfl]
  generalize seqOf from' = f0 at *
  gi_wp2_with fail
  gi_loopw [4, 13] (fun v i wr => ∃ (pre : List (Int × Int)) (k : Nat) (f : Int), v = .int .i64 f ∧ i = .int .i64 k ∧ k ≤ l.length ∧ all = pre ++ told f (states (l.drop k)) ∧ J pre wr ∧ RunsT wr a l) (fun v i wr => l.length - (intOf i).toNat)
  case atStart => exact ⟨[], 0, f0, rfl, rfl, by omega, Hs0.out, h0, hl⟩
  case round =>
    obtain ⟨pre, k, f, rfl, rfl, hk, hs, hJs, hl⟩ := hrel
    have Hs := Lib.hid hs
    have Hl := Lib.hid hl
    clear hs hl
    by_cases hlt : k < l.length
    · obtain ⟨⟨q, m⟩, hi2⟩ := some_at hlt
      obtain ⟨b, off, rfl, hb0, hc0, hc1⟩ := (RunsT.at Hl.out).cell (Below.refl _ _) hi2
      dsimp only at hc0 hc1
      have ha := fun (w1 : World) => (Below.refl w1.heap.size w1).alloc (Nat.le_refl _) (.cells #[.int .i64 q, .int .i64 m] 45)
      have hbox := Box2.new wr 45 (.int .i64 q) (.int .i64 m)
      have Hd := Lib.hid (states_drop hi2)
      have Ht := Lib.hid (fun w => told1_any q m w)
      have hm64 := heldN_le m
      generalize heldN m = hm at *
      gi_wp2_with fail
      refine ⟨trivial, fun h => (by cases h), (callsIn_wide.2 (Ht.out _)).mono ?_⟩
      rintro e w1 ⟨rfl, h1⟩
      have hb1 : Below wr.heap.size wr w1 := (ha wr).trans (h1.mono (by simp))
      have HJ1 := Lib.hid (hgJ hJs hb1)
      have Hl1 := Lib.hid (Hl.out.keeps (keepsRuns_below hb1))
      have hbox1 : Box2 w1 wr.heap.size 45 (.int .i64 q) (.int .i64 m) := (h1.block _ (by simp)).trans hbox
      generalize wr.heap.size = Br at *
      clear ha h1 hb1 hbox Hl Ht hJs hc0 hc1 hb0
      gi_wp2_with fail
      gi_loopw [4, 19] (fun v i wr => ∃ (pre : List (Int × Int)) (j : Nat) (f : Int), v = .int .i64 f ∧ i = .int .i64 j ∧ j ≤ hm ∧ all = pre ++ told f (List.replicate (hm - j) q ++ states (l.drop (k + 1))) ∧ J pre wr ∧ RunsT wr (some ⟨b, off, none⟩) l ∧ Box2 wr Br 45 (.int .i64 q) (.int .i64 m)) (fun v i wr => hm - (intOf i).toNat)
      case atStart => exact ⟨pre, 0, f, rfl, rfl, by omega, by rw [Hs.out, Hd.out]; rfl, HJ1.out, Hl1.out, hbox1⟩
      case round =>
        obtain ⟨pre, j, f, rfl, rfl, hj, hs, hJs, hl, hbox⟩ := hrel
        clear Hs Hl1 hbox1 HJ1
        have Hl := Lib.hid hl
        have Hbox := Lib.hid hbox
        clear hl
        by_cases hjt : j < hm
        · rw [told_cons f q j hm hjt] at hs
          have hlen2 : pre.length < many l := by
            have := Hall.out
            rw [hs, List.length_append, List.length_cons] at this
            omega
          obtain ⟨fn, tmps, assign, body, hy, hR⟩ := hY pre (f, q) wr hJs hlen2
          dsimp only [encs] at hy
          obtain ⟨cx0, cx1⟩ := hbox.cell
          have Hs := Lib.hid hs
          clear hs hlen2 hbox
          gi_wp2_with fail
          refine ⟨fun h => (by cases h), hR.mono ?_⟩
          rintro e W3 (⟨rfl, hJ3, hk3⟩ | ⟨rfl, hJx3⟩)
          · have Hl3 := Lib.hid (Hl.out.keeps hk3)
            have Hb3 := Lib.hid (Hbox.out.keeps hk3)
            clear hk3 cx0 cx1 hy hR
            gi_wp2_with fail
            refine ⟨trivial, fun h => (by cases h), (callsIn_wide.2 (Circ.add_any f (-1) W3)).mono ?_⟩
            rintro e W4 ⟨rfl, h4⟩
            subst h4
            rw [ofc_add]
            generalize seqOf (f - 1) = f1 at *
            gi_wp2_with fail
            go_roundw
            case rel => exact ⟨pre ++ [(f, q)], j + 1, f1, rfl, by go_num, by omega, by rw [Hs.out]; simp, hJ3, Hl3.out, Hb3.out⟩
            case measure => simp [intOf]; omega
          · gi_wp2_with fail
            refine bodyPost_ret (results_none rfl _ _ _) rfl ?_
            exact ⟨⟨_, rfl⟩, .inr ⟨pre ++ [(f, q)], ⟨told (seqOf (f - 1)) (List.replicate (hm - (j + 1)) q ++ states (l.drop (k + 1))), by rw [Hs.out]; simp⟩, hJx3⟩⟩
        · obtain rfl : j = hm := by omega
          have Hs := Lib.hid (show all = pre ++ told f (states (l.drop (k + 1))) by rw [hs, Nat.sub_self]; rfl)
          clear hs
          gi_wp2_with fail
          go_roundw
          case rel => exact ⟨pre, k + 1, f, rfl, by go_num, by omega, Hs.out, hJs, Hl.out⟩
          case measure => simp [intOf]; omega
    · obtain rfl : k = l.length := by omega
      gi_wp2_with fail
      go_end0
      exact ⟨⟨_, rfl⟩, .inl ⟨pre, by rw [Hs.out, List.drop_length]; simp [states, told], hJs⟩⟩

theorem each_stops (n : Nat) (Bf Bl : Nat) (from' : Int) (l : List R) (hlen : l.length ≤ 5000) (a : Option Addr) (cap : Nat) (w : World) (hf : Bf < w.heap.size) (hl : Bl < w.heap.size)
    (hBf : w.cell? ⟨Bf, 0, none⟩ = some (.int .i64 from')) (hBl : w.cell? ⟨Bl, 0, none⟩ = some (.slice a l.length cap)) (hat : RunsT w a l) :
    SeqStopsK Fence.wide n Try.prog 29 #[.pointer (some ⟨Bf, 0, none⟩), .pointer (some ⟨Bl, 0, none⟩)] encs KeepsRuns (fun ys => ys = told (seqOf from') (states l)) (fun pre => pre <+: told (seqOf from') (states l)) (many l) w := fun lp J Jx W hW hJ hJx hY h0 =>
  each1_in n lp Bf Bl _ from' l hlen a cap J Jx hJ hJx hY W ((hW.cell (p := ⟨Bf, 0, none⟩) hf).trans hBf) ((hW.cell (p := ⟨Bl, 0, none⟩) hl).trans hBl) (hat.keeps (keepsRuns_below hW)) h0

theorem boxed_below {w w' : World} {B N : Nat} {t : TypeId} {v : Value} (h : Boxed w B t v) (hb : Below N w w') (hN : B < N) : Boxed w' B t v := (hb.block B hN).trans h

set_option maxHeartbeats 1000000 in
theorem Each_any (from' : Int) (l : List R) (hlen : l.length ≤ 5000) (a : Option Addr) (cap : Nat) (w : World) (h : RunsAt w a l) :
    Calls Try.prog 19 #[.int .i64 from', .slice a l.length cap] w fun e w' => ∃ Bf Bl a' cap', e = .returned (.func (.func 29) #[] #[.pointer (some ⟨Bf, 0, none⟩), .pointer (some ⟨Bl, 0, none⟩)]) ∧
      w.heap.size ≤ Bf ∧ w.heap.size ≤ Bl ∧ Bf < w'.heap.size ∧ Bl < w'.heap.size ∧ w'.cell? ⟨Bf, 0, none⟩ = some (.int .i64 from') ∧ w'.cell? ⟨Bl, 0, none⟩ = some (.slice a' l.length cap') ∧ RunsT w' a' l ∧ Below w.heap.size w w' := by
  have hb2 : Below w.heap.size w ((w.alloc (.cells #[.int .i64 from'] 3)).alloc (.cells #[.slice a l.length cap] 22)) := ((Below.refl _ w).alloc (Nat.le_refl _) _).alloc (by simp) _
  have hbf := (Boxed.new w 3 (.int .i64 from')).alloc (.cells #[.slice a l.length cap] 22)
  have hbl := Boxed.new (w.alloc (.cells #[.int .i64 from'] 3)) 22 (.slice a l.length cap)
  rw [World.size_alloc] at hbl
  have hcl := hbl.cell
  have Hc := Lib.hid (clone_any l hlen a cap _ (h.below hb2))
  have hsz : ((w.alloc (.cells #[.int .i64 from'] 3)).alloc (.cells #[.slice a l.length cap] 22)).heap.size = w.heap.size + 1 + 1 := by simp
  go_enter Try.func19, Try.ntmps19
  go_wp2_with fail
  refine Hc.out.mono ?_
  rintro e w1 ⟨v, rfl, hr, h1⟩
  rw [hsz] at h1
  have hbf1 := boxed_below hbf h1 (by omega)
  have hbl1 := boxed_below hbl h1 (by omega)
  obtain ⟨a', cap', rfl, hat⟩ := hr.atT
  have hc1 := hbl1.cell
  have hf1 := hbl1.frozen
  have hset := hbl1.set (.slice a' l.length cap')
  have hbf2 := hbf1.other (B' := w.heap.size + 1) (by omega) (.slice a' l.length cap')
  have hk : KeepsRuns w1 (w1.setCell ⟨w.heap.size + 1, 0, none⟩ (.slice a' l.length cap')) := fun b cs m hb => (grownBy_setCell' w1 (w.heap.size + 1) _).block b (Array.getElem?_eq_some_iff.1 hb).1 (fun e => by
    cases e
    rw [show w1.heap[w.heap.size + 1]? = _ from hbl1] at hb
    cases hb)
  have hat2 := hat.keeps hk
  have hbb : Below w.heap.size w (w1.setCell ⟨w.heap.size + 1, 0, none⟩ (.slice a' l.length cap')) := (hb2.trans (h1.mono (by omega))).setCell (p := ⟨w.heap.size + 1, 0, none⟩) (Nat.le_succ _) _
  have H := Lib.hid (show _ ∧ _ ∧ _ ∧ _ ∧ _ ∧ _ from ⟨hbf2.lt, hset.lt, hbf2.cell, hset.cell, hat2, hbb⟩)
  clear hbf hbl hcl hsz h1 hbf1 hbl1 hset hbf2 hk hat2 hbb hat hr hb2
  go_wp2_with fail
  go_ret
  obtain ⟨g1, g2, g3, g4, g5, g6⟩ := H.out
  exact ⟨_, _, a', cap', rfl, Nat.le_refl _, Nat.le_succ _, g1, g2, g3, g4, g5, g6⟩
end Go.Proofs.Ytdnddhnnpplgjaa.Avec
