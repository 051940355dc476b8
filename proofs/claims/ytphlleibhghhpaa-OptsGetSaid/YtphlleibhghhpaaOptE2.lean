/- The options told one by one: the contract of the program's, at one who collects them and stops. -/
import Derived.Test.YtphlleibhghhpaaOptE
import Derived.Test.YtphlleibhghhpaaOptF
namespace Go.Proofs.Ytphlleibhghhpaa.Opt
open Go.ChangeShapes Go.WideShapes Go.ChangeAt Go.RowKit Go.Shelf
set_option linter.unusedVariables false

attribute [local go_sem] Oper.semAt_some

theorem Each_any (s : ByteArray) (hs : s.size ≤ 3000) (w : World) :
    Calls Try.prog 10 #[.string s] w fun e w' => ∃ Bc Bn, e = .returned (.func (.func 20) #[] #[.pointer (some ⟨Bc, 0, none⟩)]) ∧ Bc < w'.heap.size ∧ w'.cell? ⟨Bc, 0, none⟩ = some (.func (.func 23) #[] #[.pointer (some ⟨Bn, 0, none⟩)]) ∧
      w.heap.size ≤ Bc ∧ Bn < w'.heap.size ∧ w'.cell? ⟨Bn, 0, none⟩ = some (.string s) ∧ Below w.heap.size w w' := by
  go_enter Try.func10, Try.ntmps10
  go_wp2_with fail
  refine (told_any s hs _).mono ?_
  rintro e w1 ⟨Bn, rfl, hBn, hcn, h1⟩
  have hbx := Boxed.new w1 41 (.func (.func 23) #[] #[.pointer (some ⟨Bn, 0, none⟩)])
  have hcn2 := cell_alloc (.cells #[.func (.func 23) #[] #[.pointer (some ⟨Bn, 0, none⟩)]] 41) hBn hcn
  have hb := h1.alloc h1.size (.cells #[.func (.func 23) #[] #[.pointer (some ⟨Bn, 0, none⟩)]] 41)
  have h1s := h1.size
  clear h1
  go_wp2_with fail
  go_ret
  exact ⟨_, Bn, rfl, hbx.lt, hbx.cell, h1s, by simp; omega, hcn2, hb⟩

theorem ownFrom_grown {β : Type} {B : Nat} {W0 : World} {T : Nat} (hB : W0.heap.size ≤ B) : OwnFrom B (fun (_ : β) W => W0.grownBy W (some T)) :=
  fun s X Y row hs hg hr => ⟨hg.os.trans hs.os, hg.tape.trans hs.tape, hg.output.trans hs.output, Nat.le_trans hs.size hg.size, fun k hk hne => by
    rw [hg.block k (Nat.lt_of_lt_of_le hk hs.size) (fun e => by
      have := (hr k e.symm).1
      omega)]
    exact hs.block k hk hne⟩

theorem taken_end {w w1 W : World} {T D : Nat} {g : List O} (ht : Taken w1 T g W) (hba : Below w.heap.size w w1) (hT : T < w.heap.size) (hD : w1.heap.size ≤ D) (hK : W.heap[D]? = some (.deferred (some []))) :
    (∃ v, Boxed (W.putObj D (.deferred none)) T 23 v ∧ Opts (W.putObj D (.deferred none)) w.heap.size v g) ∧ w.grownBy (W.putObj D (.deferred none)) (some T) := by
  obtain ⟨⟨v, hv, hr, -⟩, hg⟩ := ht
  have hs := hba.size
  have gp := grownBy_putObj' W D (.deferred none)
  refine ⟨⟨v, hv.kept gp (by simp; omega), ?_⟩, gp.os.trans (hg.os.trans hba.os), gp.tape.trans (hg.tape.trans hba.tape), gp.output.trans (hg.output.trans hba.output), Nat.le_trans hs (Nat.le_trans hg.size gp.size), fun k hk hne => ?_⟩
  · have h2 := ownsRow_putObj hr (.deferred none) hK rfl
    exact ⟨h2.1, h2.2.imp id (fun ⟨g, cap, cur, h1, h3, h4⟩ => ⟨g, cap, cur, h1, Nat.le_trans hs h3, h4⟩)⟩
  · rw [gp.block k (Nat.lt_of_lt_of_le hk (Nat.le_trans hs hg.size)) (by simp; omega), hg.block k (Nat.lt_of_lt_of_le hk hs) hne]
    exact hba.block k hk

set_option maxRecDepth 100000 in
set_option maxHeartbeats 2000000 in
theorem Each1_in (n : Nat) (hn : 3 ≤ n) (s : ByteArray) (hs : s.size ≤ 3000) (T M Bc Bn : Nat) (most : Int) (w : World) (hT : T < w.heap.size) (hM : M < w.heap.size) (hMT : M ≠ T) (hMc : w.cell? ⟨M, 0, none⟩ = some (.int .i64 most))
    (hTb : Boxed w T 23 (.slice none 0 0)) (hBc : Bc < w.heap.size) (hBcc : w.cell? ⟨Bc, 0, none⟩ = some (.func (.func 23) #[] #[.pointer (some ⟨Bn, 0, none⟩)])) (hBn : Bn < w.heap.size) (hBnc : w.cell? ⟨Bn, 0, none⟩ = some (.string s)) :
    CallsIn Fence.wide n Try.prog 20 #[.func (.func 11) #[] #[.pointer (some ⟨T, 0, none⟩), .pointer (some ⟨M, 0, none⟩)], .pointer (some ⟨Bc, 0, none⟩)] w fun e w' =>
      e = .returned (.tuple #[]) ∧ (∃ v, Boxed w' T 23 v ∧ Opts w' w.heap.size v ((goods (told s)).take (manyOf (goods (told s)).length most))) ∧ w.grownBy w' (some T) := by
  have h1 : 1 ≤ n := by omega
  have hlen := told_length s
  have hba := (Below.refl w.heap.size w).alloc (Nat.le_refl _) (.cells #[.func (.func 11) #[] #[.pointer (some ⟨T, 0, none⟩), .pointer (some ⟨M, 0, none⟩)]] 31)
  have hbox := Boxed.new w 31 (.func (.func 11) #[] #[.pointer (some ⟨T, 0, none⟩), .pointer (some ⟨M, 0, none⟩)])
  have hsz : (w.alloc (.cells #[.func (.func 11) #[] #[.pointer (some ⟨T, 0, none⟩), .pointer (some ⟨M, 0, none⟩)]] 31)).heap.size = w.heap.size + 1 := by simp
  have hMc1 := cell_alloc (.cells #[.func (.func 11) #[] #[.pointer (some ⟨T, 0, none⟩), .pointer (some ⟨M, 0, none⟩)]] 31) hM hMc
  have hBcc1 := cell_alloc (.cells #[.func (.func 11) #[] #[.pointer (some ⟨T, 0, none⟩), .pointer (some ⟨M, 0, none⟩)]] 31) hBc hBcc
  have hBnc1 := cell_alloc (.cells #[.func (.func 11) #[] #[.pointer (some ⟨T, 0, none⟩), .pointer (some ⟨M, 0, none⟩)]] 31) hBn hBnc
  have hTb1 := hTb.alloc (.cells #[.func (.func 11) #[] #[.pointer (some ⟨T, 0, none⟩), .pointer (some ⟨M, 0, none⟩)]] 31)
  have hfn := fun W => func_not_nil1 (.func 11) #[] #[.pointer (some ⟨T, 0, none⟩), .pointer (some ⟨M, 0, none⟩)] W
  have hboxc := hbox.cell
  refine callsIn_of_wp_marks Try.func20 rfl trivial ?_ rfl
  simp only [Try.ntmps20, List.size_toArray, List.length_cons, List.length_nil, Nat.reduceAdd, Nat.reduceSub, Array.replicate_succ, Array.replicate_zero, List.push_toArray, List.append_toArray, List.nil_append, List.cons_append]
  gi_wp2
  generalize w.alloc (.cells #[.func (.func 11) #[] #[.pointer (some ⟨T, 0, none⟩), .pointer (some ⟨M, 0, none⟩)]] 31) = w1 at *
  refine wpIn_rangeFunc_ownH (w := w1) rfl h1 (gf := 23) (lb := #[.pointer (some ⟨Bn, 0, none⟩)]) rfl trivial (enters_of Try.func23 (by kernel_rfl) rfl)
    (told_stops (n - 1) Bn s hs w1 (by omega) hBnc1) (fun _ _ => trivial) (fun _ _ _ _ _ _ _ _ => trivial) (Below.refl _ _) (fun _ => rfl)
    (fun pre W => (errs pre = 0 ∧ ((goods pre).length = 0 ∨ ((goods pre).length : Int) < most)) ∧ Taken w1 T (goods pre) W)
    (fun c pre W => (c = .ret ∧ ((errs pre ≠ 0 ∧ ((goods pre).length = 0 ∨ ((goods pre).length : Int) < most)) ∨ (errs pre = 0 ∧ ((goods pre).length : Int) = max most 1))) ∧ Taken w1 T (goods pre) W)
    (OwnFrom.and (ownFrom_pure _ _) (OwnFrom.and (Own.from (holdsRow_own _ _ _ _ _ _ _ (fun _ _ => True)) _) (ownFrom_grown (Nat.le_refl _))))
    (fun c => OwnFrom.and (ownFrom_pure _ _) (OwnFrom.and (Own.from (holdsRow_own _ _ _ _ _ _ _ (fun _ _ => True)) _) (ownFrom_grown (Nat.le_refl _))))
    ⟨⟨rfl, .inl rfl⟩, ⟨⟨_, hTb1, World.ownsRow_nil _ _ _ _, trivial⟩, World.grownBy.refl _ _⟩⟩
    (fun x a' W => ∃ Bx, Box2 W Bx 30 (.int .i64 x.1.kind) (.string x.1.value) ∧ a' = { tmps := #[.func (.func 11) #[] #[.pointer (some ⟨T, 0, none⟩), .pointer (some ⟨M, 0, none⟩)], .pointer (some ⟨Bc, 0, none⟩), .pointer (some ⟨w.heap.size, 0, none⟩), .pointer (some ⟨Bx, 0, none⟩), .int .i64 x.2, .func (.func 11) #[] #[.pointer (some ⟨T, 0, none⟩), .pointer (some ⟨M, 0, none⟩)], .bool false, .func (.func 23) #[] #[.pointer (some ⟨Bn, 0, none⟩)], .agg #[.int .i64 x.1.kind, .string x.1.value], .int .i64 x.2, undef, undef, undef, undef, undef, undef, undef, undef], defers := [] })
    ?hAx ?assign ?body ?done ?stop
  case hAx =>
    rintro x a' s W W' row ⟨Bx, hb2, ha⟩ hg hr
    exact ⟨Bx, Own.from (box2_own Bx _ _ _) _ s W W' row hb2 hg hr, ha⟩
  case assign =>
    rintro l pre ⟨⟨k, v0⟩, er⟩ W K ⟨hp, ht⟩ hK
    dsimp only [encs] at hK ⊢
    gi_wp2
    exact hK _ _ ((KeepsOthers.alloc _ _).from _) trivial ⟨hp, ht.alloc _⟩ ⟨W.heap.size, Box2.new _ _ _ _, rfl⟩
  case body =>
    rintro l pre ⟨⟨k, v0⟩, er⟩ a' W hl ⟨r, hr⟩ ⟨⟨he, hm⟩, ht⟩ ⟨Bx, bX, rfl⟩ hlt
    dsimp only [encs] at bX ⊢
    obtain ⟨cx0, cx1⟩ := bX.cell
    have hfc := World.grownBy.cell ht.2 hboxc (by simp; omega)
    by_cases her : er = 0
    · subst her
      have hgl := goods_length pre
      have hT1 : T < w1.heap.size := by omega
      have hM1 : M < w1.heap.size := by omega
      have hg3 : (goods pre).length ≤ 3000 := by omega
      have Hpush := Lib.hid (push_any w1 T M most (goods pre) k v0 W hT1 hM1 hMT hMc1 ht hg3)
      have Hs := Lib.hid (errs_snoc pre (⟨k, v0⟩, 0) he)
      have Hg := Lib.hid (goods_snoc pre (⟨k, v0⟩, 0) he rfl)
      have Hm := Lib.hid hm
      clear hm he
      by_cases hmm : (((goods pre).length + 1 : Nat) : Int) < most
      · have hdd : decide ((((goods pre).length + 1 : Nat) : Int) < most) = true := by simpa using hmm
        rw [hdd] at Hpush
        have Hmm := Lib.hid hmm
        clear hmm hdd
        gi_wp2_with fail
        refine ⟨trivial, fun h => (by cases h), (CallsIn.inRound l (callsIn_wide.2 Hpush.out)).mono ?_⟩
        rintro e W2 ⟨rfl, ht2, hk2⟩
        gi_wp2_with fail
        exact ⟨hk2.from _, trivial, ⟨Hs.out, .inr (by rw [Hg.out, List.length_append]; exact Hmm.out)⟩, by rw [Hg.out]; exact ht2⟩
      · have hdd : decide ((((goods pre).length + 1 : Nat) : Int) < most) = false := by simpa using hmm
        rw [hdd] at Hpush
        have Hmm := Lib.hid (show (((goods pre).length + 1 : Nat) : Int) = max most 1 by have := Hm.out; omega)
        clear hmm hdd
        gi_wp2_with fail
        refine ⟨trivial, fun h => (by cases h), (CallsIn.inRound l (callsIn_wide.2 Hpush.out)).mono ?_⟩
        rintro e W2 ⟨rfl, ht2, hk2⟩
        gi_wp2_with fail
        exact ⟨hk2.from _, ⟨rfl, .inr ⟨Hs.out, by rw [Hg.out, List.length_append]; exact Hmm.out⟩⟩, by rw [Hg.out]; exact ht2⟩
    · have her1 : (er == 0) = false := by simp [her]
      have Hs := Lib.hid (errs_snoc pre (⟨k, v0⟩, er) he)
      have Hg := Lib.hid (goods_stop pre (⟨k, v0⟩, er) he her)
      have Hm := Lib.hid hm
      clear hm he
      gi_wp2_with fail
      refine ⟨fun _ h => (by cases h), ?_⟩
      gi_wp2_with fail
      exact ⟨KeepsFrom.refl _ _, ⟨rfl, .inl ⟨by rw [Hs.out]; exact her, by rw [Hg.out]; exact Hm.out⟩⟩, by rw [Hg.out]; exact ht⟩
  case done =>
    rintro D ys W hD rfl ⟨⟨he, hm⟩, ht⟩ hK
    have hN : manyOf (goods (told s)).length most = (goods (told s)).length := by unfold manyOf; omega
    gi_wp2
    refine ⟨by simp, .inl ⟨_, _, rfl, run_takeDeferred hK, ?_⟩⟩
    exact ⟨_, results_none rfl _ _ _, rfl, by rw [hN, List.take_length]; exact (taken_end ht hba hT hD hK).1, (taken_end ht hba hT hD hK).2⟩
  case stop =>
    rintro D c pre W hD hpre ⟨⟨rfl, hm⟩, ht⟩ hK
    have hG : (goods (told s)).take (manyOf (goods (told s)).length most) = goods pre := by
      rcases hm with ⟨he, hm⟩ | ⟨he, hm⟩
      · rw [goods_same hpre he]
        have hN : manyOf (goods pre).length most = (goods pre).length := by unfold manyOf; omega
        rw [hN, List.take_length]
      · obtain ⟨t, ht⟩ := goods_prefix hpre he
        have hlt : (goods pre).length ≤ (goods (told s)).length := by rw [← ht]; simp
        have hN : manyOf (goods (told s)).length most = (goods pre).length := by unfold manyOf; omega
        rw [hN, ← ht, List.take_left']
        rfl
    gi_wp2
    refine ⟨by simp, .inl ⟨_, _, rfl, run_takeDeferred hK, ?_⟩⟩
    exact ⟨_, results_none rfl _ _ _, rfl, by rw [hG]; exact (taken_end ht hba hT hD hK).1, (taken_end ht hba hT hD hK).2⟩
end Go.Proofs.Ytphlleibhghhpaa.Opt
