/- Options, and such behind them: the walk of the law. -/
import Derived.Test.YtmkngolkflihlaaMpSay
import Derived.Test.YtmkngolkflihlaaMpSame
import Derived.Test.YtmkngolkflihlaaMpGr
import Derived.Test.YtmkngolkflihlaaMpArg2
import Derived.Test.YtmkngolkflihlaaOptR2
import Derived.Laws.OwnMore
namespace Go.Proofs.Ytmkngolkflihlaa.Mp
open Go.ChangeShapes Go.WideShapes Go.ChangeAt Go.RowKit
open Go.Proofs.Ytmkngolkflihlaa.Opt (O OptsAt Opts opts_push cell_two_new cellsOf infoOpt IsOpts isOpts_open)
set_option linter.unusedVariables false

/-- what is known of the options that came in -/
def IsOpts0 (W : World) (a : Option Addr) (len cap : Nat) : Prop := IsOpts W a len ∧ (a = none → cap = 0)
theorem MpoptLists_open0 {H : Type} {enc : TypeId × Value → H} {W : World} {a : Option Addr} {len cap : Nat} {d : DataW H} {p : List MemPlace}
    (h : DataW.Trod enc Try.prog W 0 (fun _ => true) true 34 (.slice a len cap) d p) : IsOpts0 W a len cap := by
  refine ⟨isOpts_open h, fun ha => ?_⟩
  obtain ⟨fuel, hf⟩ := h
  rcases Go.Deep.open_slice Try.underlying34 hf with ⟨hcs, _⟩ | ⟨x, l, c, m, n, D, Pl, hcs, _⟩
  · simp [Value.cells] at hcs
    exact hcs.2.2
  · simp [Value.cells] at hcs
    rw [ha] at hcs
    exact absurd hcs.1 (by simp)
theorem optcells_length (l : List O) : (cellsOf l).length = l.length * 2 := by
  induction l with
  | nil => rfl
  | cons p r ih => rw [show cellsOf (p :: r) = .int .i64 p.kind :: .string p.value :: cellsOf r from rfl, List.length_cons, List.length_cons, ih, List.length_cons]; omega
theorem optcells_one (l : List O) : ∀ u ∈ cellsOf l, u.oneCell' = true := by
  intro u hu
  simp only [cellsOf, List.mem_flatMap] at hu
  obtain ⟨o, _, ho⟩ := hu
  simp at ho
  rcases ho with rfl | rfl <;> rfl
theorem optnews {w : World} {ad : Addr} {l : List O} (h : OptsAt w (some ad) l) : ∀ j u, (cellsOf l)[j]? = some u → w.cell? (ad.add j) = some u := by
  intro j u hj
  rcases h with rfl | ⟨b, off, hab, h1, h2⟩
  · simp [cellsOf] at hj
  · obtain rfl := Option.some.inj hab
    have hjl : j < (cellsOf l).length := (List.getElem?_eq_some_iff.1 hj).1
    rw [optcells_length] at hjl
    have ha : (⟨b, off, none⟩ : Addr).add j = ⟨b, off + j, none⟩ := by unfold Addr.add; split <;> simp_all
    rw [ha]
    obtain ⟨o, ho⟩ := Opt.some_at (l := l) (i := j / 2) (by omega)
    obtain ⟨g0, g1⟩ := Opt.cellsOf_get l (j / 2) o ho
    obtain ⟨c0, c1⟩ := h2 (j / 2) o ho
    by_cases hp : j % 2 = 0
    · rw [show j = j / 2 * 2 by omega, g0] at hj
      rw [show off + j = off + j / 2 * 2 by omega, c0, Option.some.inj hj]
    · rw [show j = j / 2 * 2 + 1 by omega, g1] at hj
      rw [show off + j = off + j / 2 * 2 + 1 by omega, c1, Option.some.inj hj]
theorem MpoptLists_open2 {H : Type} {enc : TypeId × Value → H} {W : World} {a : Option Addr} {len cap : Nat} {d : DataW H} {p : List MemPlace}
    (h : DataW.Trod enc Try.prog W 0 (fun _ => true) true 35 (.slice a len cap) d p) : IsMs W a len := isMs_open h

theorem firstM_snoc (k : Int) (m : M) : ∀ (xs : List M), firstM (xs ++ [m]) k = if (firstM xs k).2 = true then firstM xs k else if m.kind = k then (m, true) else (M.zero, false)
  | [] => by simp [firstM]
  | p :: r => by
    have ih := firstM_snoc k m r
    show (if p.kind = k then (p, true) else firstM (r ++ [m]) k) = _
    by_cases h : p.kind = k
    · simp [firstM, h]
    · rw [if_neg h, ih]; simp [firstM, h]
theorem firstM_no (k : Int) : ∀ (xs : List M), (firstM xs k).2 = false → firstM xs k = (M.zero, false)
  | [], _ => rfl
  | p :: r, h => by
    by_cases e : p.kind = k
    · simp [firstM, e] at h
    · have e2 : firstM (p :: r) k = firstM r k := if_neg e
      rw [e2] at h ⊢
      exact firstM_no k r h

theorem ms_setRow {w : World} {A : Nat} {v : Value} {L : List M} (h : Ms w (A + 1) v L) (cs : Array Value) : Ms (w.setRow A cs) (A + 1) v L := by
  refine ⟨h.1, ?_⟩
  rcases h.2 with h2 | ⟨g, cap, cur, rfl, h1, h2, h3⟩
  · exact .inl h2
  · exact .inr ⟨g, cap, cur, rfl, h1, (setRow_other w A g cs (by omega)).trans h2, h3⟩
/-- how far the second loop is: all was right so far, or one was wrong -/
def Gone (l : List O) (more : List M) (base k : Nat) (v wv : Value) (wr : World) : Prop :=
  (wv = .int .i64 0 ∧ Opts wr base v (l ++ (more.take k).map optOf) ∧ wrongM (more.drop k) = wrongM more ∧ (okM (more.drop k) → okM more)) ∨
  (∃ e, e ≠ 0 ∧ wv = .int .i64 e ∧ wrongM more = e ∧ okM more)
/-- what the first loop has found -/
def Found (wr : World) (A : Nat) (v is : Value) (L : List M) (kind : Int) : Prop :=
  Ms wr (A + 1) v L ∧ is = .bool (firstM L kind).2 ∧ RowM wr A (firstM L kind).1

set_option maxRecDepth 100000 in
set_option maxHeartbeats 8000000 in
theorem MpoptLists_walk (a0 : Option Addr) (len0 cap0 : Nat) (kind : Int) (a2 : Option Addr) (len2 cap2 : Nat) (W : World) (w0 : IsOpts0 W a0 len0 cap0) (w1 : (Lit.int .i64 kind).wf = true) (w2 : IsMs W a2 len2) :
    Calls Try.prog 4 #[.slice a0 len0 cap0, .int .i64 kind, .slice a2 len2 cap2] W fun e W' => e = .returned (.bool true) ∧ Below W.heap.size W W' := by
  obtain ⟨⟨l, rfl, hat, hlm, hvm⟩, hcap⟩ := w0
  have HCAP := Lib.hid hcap
  clear hcap
  obtain ⟨more, rfl, hat2, hlm2, hvm2⟩ := w2
  obtain ⟨i0, hi, hz0, hz1, hz2⟩ := info_parts infoM
  have hmx : more.length ≤ 9223372036854775807 := by unfold maxLen at hlm2; omega
  have AT := Lib.hid hat
  have AT2 := Lib.hid hat2
  have CGR := Lib.hid (fun w (h : OptsAt w a0 l) => Opt.Great2_any l hlm a0 cap0 w h hvm)
  clear w1 hat hat2 hlm hvm hlm2 hvm2
  go_enter Try.func4, Try.ntmps4
  go_wp2_with fail
  refine (works_any _).mono ?_
  rintro e w1 ⟨rfl, h1⟩
  have AT1 := Lib.hid (AT.out.below h1)
  have B1 := Lib.hid h1
  clear h1
  go_wp2_with fail
  refine (CGR.out _ AT1.out).mono ?_
  rintro e w2 ⟨hgr, rfl⟩
  rcases hgr with rfl | ⟨rfl, hsm⟩
  · go_wp2_with fail
    go_ret
    exact ⟨rfl, B1.out⟩
  by_cases hmore : 30 < more.length
  · have hd : decide ((30 : Int) < (more.length : Int)) = true := by simp; omega
    have hd2 : decide (30 < more.length) = true := by simp; omega
    go_wp2_with fail
    go_ret
    exact ⟨rfl, B1.out⟩
  have hd : decide ((30 : Int) < (more.length : Int)) = false := by simp; omega
  have hd2 : decide (30 < more.length) = false := by simp; omega
  obtain ⟨hl60, hvl⟩ := hsm
  have HVL := Lib.hid hvl
  have FEW := Lib.hid (show Few l from ⟨by omega, fun o ho => Nat.le_trans (hvl o ho) (by omega)⟩)
  clear hvl CGR hmx
  have hm30 : more.length ≤ 30 := by omega
  clear hmore
  have z2 : W.heap.size ≤ w2.heap.size := B1.out.size
  go_wp2_with fail
  go_loopw [7, 9, 10] (fun v is i wr => ∃ k : Nat, k ≤ l.length ∧ i = .int .i64 k ∧ Found wr w2.heap.size v is (alls (l.take k)) kind ∧ Below W.heap.size W wr) (fun _ _ i _ => l.length - (intOf i).toNat)
  case atStart => exact ⟨0, Nat.zero_le _, rfl, ⟨Ms.nil _ _, rfl, RowM.new w2 M.zero⟩, B1.out.alloc z2 _⟩
  case round =>
    obtain ⟨k, hk, rfl, ⟨hown, rfl, hrow⟩, hb⟩ := hrel
    have Hown := Lib.hid hown
    have HR := Lib.hid hrow
    have HB := Lib.hid hb
    have hbs := hb.size
    have zA := hrow.lt
    clear hown hrow hb
    by_cases hlt : k < l.length
    · obtain ⟨⟨q, s⟩, hi2⟩ := Opt.some_at hlt
      obtain ⟨b, off, rfl, hb0, hc0, hc1⟩ := AT.out.cell HB.out hi2
      dsimp only at hc0 hc1
      have HN := Lib.hid (alls_next l k _ hi2)
      have hss : s.size ≤ 600 := HVL.out _ (List.mem_of_getElem? hi2)
      have hxl := alls_le (l.take k)
      rw [List.length_take] at hxl
      have CG := Lib.hid (fun w => RefGet_any ⟨q, s⟩ (by show s.size ≤ 3000; omega) w)
      unfold getV at CG
      have HG := Lib.hid (show goodM ⟨q, s⟩ = if (get ⟨q, s⟩).2 = 0 then [(get ⟨q, s⟩).1] else [] from rfl)
      have HF := Lib.hid (fun m => firstM_snoc kind m (alls (l.take k)))
      have HF0 := Lib.hid (firstM_no kind (alls (l.take k)))
      generalize alls (l.take k) = xs at *
      generalize (get ⟨q, s⟩).2 = er at *
      generalize (get ⟨q, s⟩).1 = m at *
      generalize hfi : firstM xs kind = fi at *
      have HFI := Lib.hid hfi
      clear hfi
      obtain ⟨f1, is⟩ := fi
      dsimp only at HR HF HF0
      clear hi2
      go_wp2_with fail
      refine (CG.out _).mono ?_
      rintro e w3 ⟨rfl, h3⟩
      have B3 := Lib.hid (HB.out.trans (h3.mono hbs))
      have O3 := Lib.hid (Ms.below Hown.out (Nat.le_refl _) h3)
      have R3 := Lib.hid (HR.out.below h3 zA)
      have z3 := h3.size
      clear h3 Hown HR HB CG
      obtain ⟨mk, ma, mp, mt, mn, mq, mb⟩ := m
      unfold vOf
      dsimp only
      by_cases he : er = 0
      · subst he
        have HN' := Lib.hid (show alls (l.take (k + 1)) = xs ++ [⟨mk, ma, mp, mt, mn, mq, mb⟩] by rw [HN.out, HG.out, if_pos rfl])
        have LO := Lib.hid (World.ownsRow.lt O3.out)
        clear HN HG
        go_wp2_with (at_builtin; refine wpList_append_own _ rfl _ _ 35 rfl (w2.heap.size + 1) 23 i0 (.agg #[.int .i64 0, .int .i64 0, .int .i64 0, .int .i64 0, .int .i64 0, .int .i64 0, .string ⟨#[]⟩]) 7 64 Try.underlying35 hi hz0 hz1 hz2 rfl (by decide) _ _ _ rfl (World.ownsRow.alloc (World.ownsRow.alloc O3.out _) _) ⟨w3.heap.size + 1, 0, none⟩ 1 1 (cells1 ⟨mk, ma, mp, mt, mn, mq, mb⟩) rfl rfl ?c1 ?c2 ?c3 ?c4 ?c5 ?_)
        case c1 =>
          have := news7 (w3.alloc (.cells (rowOf ⟨mk, ma, mp, mt, mn, mq, mb⟩) 23)) ⟨mk, ma, mp, mt, mn, mq, mb⟩
          rwa [World.size_alloc] at this
        case c2 => exact one7 _
        case c3 => unfold maxLen; omega
        case c4 => omega
        case c5 => simp; omega
        intro v' w4 hown' hg _
        have hA : Below (w2.heap.size + 1) w3 w4 := (ms_push (w := w3) (by simp; omega) (World.ownsRow.alloc O3.out _) (((Below.refl _ w3).alloc (by omega) _)) hown' hg).2
        have M4 := Lib.hid (ms_push (w := w3) (by simp; omega) (World.ownsRow.alloc O3.out _) (((Below.refl _ w3).alloc (by omega) _)) hown' hg).1
        have R4 := Lib.hid (R3.out.below hA (by omega))
        have B4 := Lib.hid (B3.out.trans (hA.mono (by omega)))
        have V4 := Lib.hid (show RowM w4 w3.heap.size ⟨mk, ma, mp, mt, mn, mq, mb⟩ from (hg.block w3.heap.size (by simp; omega) (fun e => by have := (LO.out _ e.symm).2; omega)).trans ((Below.heap_alloc _ _ _ (by simp)).trans (heap_alloc_new w3 _)))
        clear hown' hg hA O3 R3 B3 LO
        have c4 : w4.cell? ⟨w3.heap.size, 0, none⟩ = some (.int .i64 mk) := (V4.out.num 0 (by omega)).2
        have HFm := Lib.hid (HF.out ⟨mk, ma, mp, mt, mn, mq, mb⟩)
        have hbs4 := B4.out.size
        clear HF
        cases is with
        | true =>
          have HFn := Lib.hid (show firstM (xs ++ [⟨mk, ma, mp, mt, mn, mq, mb⟩]) kind = (f1, true) from HFm.out.trans (if_pos rfl))
          clear HFm HF0
          cases hkd : (mk == kind)
          · go_wp2_with fail
            exact ⟨⟨k + 1, by omega, by go_num, by rw [HN'.out]; exact ⟨M4.out, by rw [HFn.out], by rw [HFn.out]; exact R4.out⟩, B4.out⟩, by simp [intOf]; omega⟩
          · go_wp2_with fail
            exact ⟨⟨k + 1, by omega, by go_num, by rw [HN'.out]; exact ⟨M4.out, by rw [HFn.out], by rw [HFn.out]; exact R4.out⟩, B4.out⟩, by simp [intOf]; omega⟩
        | false =>
          have hf1 := HF0.out rfl
          simp only [Prod.mk.injEq, and_true] at hf1
          subst hf1
          clear HF0
          cases hkd : (mk == kind)
          · have hkn : ¬ mk = kind := by simpa using hkd
            have HFn := Lib.hid (show firstM (xs ++ [⟨mk, ma, mp, mt, mn, mq, mb⟩]) kind = (M.zero, false) from (HFm.out.trans (if_neg (by simp))).trans (if_neg hkn))
            clear HFm hkn
            go_wp2_with fail
            exact ⟨⟨k + 1, by omega, by go_num, by rw [HN'.out]; exact ⟨M4.out, by rw [HFn.out], by rw [HFn.out]; exact R4.out⟩, B4.out⟩, by simp [intOf]; omega⟩
          · have hkn : mk = kind := by simpa using hkd
            have HFn := Lib.hid (show firstM (xs ++ [⟨mk, ma, mp, mt, mn, mq, mb⟩]) kind = (⟨mk, ma, mp, mt, mn, mq, mb⟩, true) from (HFm.out.trans (if_neg (by simp))).trans (if_pos hkn))
            clear HFm hkn
            have R4' := Lib.hid R4.out
            unfold RowM rowOf M.zero at R4'
            have V4' := Lib.hid V4.out
            unfold RowM rowOf at V4'
            dsimp only at R4' V4'
            go_wp2_with (first
              | refine wpList_load_row rfl 23 _ rfl w3.heap.size rfl _ _ _ _ V4'.out Try.underlying23 rfl (hi7m _ _ _ _ _ _ _) ?_
              | refine wpList_store_row rfl 23 _ _ rfl w2.heap.size _ rfl rfl 23 _ R4'.out (hi7m _ _ _ _ _ _ _) rfl (hone7m _ _ _ _ _ _ _) ?_)
            exact ⟨⟨k + 1, by omega, by go_num, by rw [HN'.out]; exact ⟨ms_setRow M4.out _, by rw [HFn.out], by rw [HFn.out]; exact setRow_heap _ _ _ _ _ _ R4'.out⟩, below_setRow B4.out z2 _⟩, by simp [intOf]; omega⟩
      · have her : (er != 0) = true := by simpa using he
        have HN' := Lib.hid (show alls (l.take (k + 1)) = xs by rw [HN.out, HG.out, if_neg he, List.append_nil])
        clear HN HG he HF0
        go_wp2_with fail
        exact ⟨⟨k + 1, by omega, by go_num, by rw [HN'.out]; exact ⟨World.ownsRow.alloc O3.out _, by rw [HFI.out], by rw [HFI.out]; exact R3.out.of_block (Below.heap_alloc _ _ _ (by omega))⟩, B3.out.alloc (by omega) _⟩, by simp [intOf]; omega⟩
    · obtain rfl : k = l.length := by omega
      rw [List.take_length] at Hown HR ⊢
      have CF := Lib.hid (fun w h => Find_any l FEW.out kind a0 cap0 w h)
      have CA := Lib.hid (fun w h => All_any l FEW.out a0 cap0 w h)
      have hLl := Nat.le_trans (alls_le l) hl60
      obtain ⟨ag, cg, rfl, hatw⟩ := Ms.at Hown.out
      have HW := Lib.hid hatw
      generalize alls l = L at *
      generalize firstM L kind = fi at *
      obtain ⟨⟨gk, ga, gp, gt, gn, gq, gb⟩, is⟩ := fi
      unfold rowOf at CF
      dsimp only at CF HR
      have hii : (is != is) = false := by simp
      clear hatw Hown hlt hk
      go_wp2_with fail
      refine (CF.out _ (AT.out.below HB.out)).mono ?_
      rintro e w3 ⟨rfl, h3⟩
      have B3 := Lib.hid (HB.out.trans (h3.mono hbs))
      have R3 := Lib.hid ((HR.out.below h3 zA).of_block (Below.heap_alloc w3 (.cells (rowOf ⟨gk, ga, gp, gt, gn, gq, gb⟩) 23) _ (by have := h3.size; omega)))
      have S3 := Lib.hid (RowM.new w3 ⟨gk, ga, gp, gt, gn, gq, gb⟩)
      have W3 := Lib.hid ((HW.out.below h3).below ((Below.refl w3.heap.size w3).alloc (Nat.le_refl _) (.cells (rowOf ⟨gk, ga, gp, gt, gn, gq, gb⟩) 23)))
      have z3 := h3.size
      have B3' := Lib.hid (B3.out.alloc (by omega) (.cells (rowOf ⟨gk, ga, gp, gt, gn, gq, gb⟩) 23))
      clear h3 HR HW HB CF
      go_wp2_with fail
      refine (CA.out _ (by exact AT.out.below B3'.out)).mono ?_
      rintro e w4 ⟨v2, rfl, hm4, h4⟩
      obtain ⟨a4, c4, rfl, hat4⟩ := Ms.at hm4
      have B4 := Lib.hid (B3'.out.trans (h4.mono (by simp; omega)))
      have R4 := Lib.hid (R3.out.below h4 (by simp; omega))
      have S4 := Lib.hid (S3.out.below h4 (by simp))
      have W4 := Lib.hid (W3.out.below h4)
      have A4 := Lib.hid hat4
      have z4 : w3.heap.size + 1 ≤ w4.heap.size := by have := h4.size; simpa using this
      clear h4 hm4 hat4 R3 S3 W3 B3 B3' CA
      go_wp2_with fail
      refine (SameM_any L (by omega) a4 ag c4 cg w4 A4.out W4.out).mono ?_
      rintro e w5 ⟨rfl, h5⟩
      have B5 := Lib.hid (B4.out.trans (h5.mono (by omega)))
      have r5 := R4.out.below h5 (by omega)
      have s5 := S4.out.below h5 (by omega)
      obtain ⟨d0, d1, d2, d3, d4, d5, d6⟩ := cells7 r5
      obtain ⟨e0, e1, e2, e3, e4, e5, e6⟩ := cells7 s5
      have qn := fun w => neqM_same ⟨gk, ga, gp, gt, gn, gq, gb⟩ w
      unfold rowOf at qn
      dsimp only at qn d0 d1 d2 d3 d4 d5 d6 e0 e1 e2 e3 e4 e5 e6
      have z5 := h5.size
      clear h5 r5 s5 R4 S4 W4 A4 B4
      go_upto_region 19 with fail
      go_cut [15] (fun v wx => (Opts wx w5.heap.size v l ∧ w5.heap.size ≤ wx.heap.size) ∧ Below W.heap.size W wx)
      case first =>
        clear d0 d1 d2 d3 d4 d5 d6 e0 e1 e2 e3 e4 e5 e6 qn
        obtain ⟨j0, hj, hy0, hy1, hy2⟩ := info_parts infoOpt
        have O5 := Lib.hid (World.ownsRow_made w5 #[] 0 (Nat.le_refl _) (Nat.zero_le _) (by simp) (e := 26) (size := 2))
        have B6 := Lib.hid (B5.out.alloc (by omega) (.cells #[] 26))
        cases a0 with
        | none =>
          obtain rfl : cap0 = 0 := HCAP.out rfl
          have hl0 : l = [] := by
            rcases AT.out with h | ⟨b, off, h, -⟩
            · exact h
            · cases h
          subst hl0
          have hap : ∀ ty, (Builtin.append_ #[34, 34] ty #[.slice (some ⟨w5.heap.size, 0, none⟩) 0 0, .slice none 0 0]).run Try.prog (w5.alloc (.cells #[] 26)) = .ok (.slice (some ⟨w5.heap.size, 0, none⟩) 0 0) (w5.alloc (.cells #[] 26)) := fun ty =>
            run_append_owned_none (w5.alloc (.cells #[] 26)) w5.heap.size 34 ty 26 j0 2 Try.underlying34 hj _ 0 [] O5.out
          go_wp2_with fail
          go_meet
          exact ⟨⟨O5.out, by simp⟩, B6.out⟩
        | some ad =>
          have ON := Lib.hid (fun w (h : OptsAt w (some ad) l) => optnews h)
          go_wp2_with (at_builtin; refine wpList_append_own _ rfl _ _ 34 rfl w5.heap.size 26 j0 (.agg #[.int .i64 0, .string ⟨#[]⟩]) 2 24 Try.underlying34 hj hy0 hy1 hy2 rfl (by decide) _ _ _ rfl (World.ownsRow_made w5 #[] 0 (Nat.le_refl _) (Nat.zero_le _) (by simp)) ad l.length cap0 (cellsOf l) rfl (optcells_length l) ?q2 (optcells_one l) ?q4 ?q5 (by simp) ?_)
          case q2 => exact ON.out _ (AT.out.below B6.out)
          case q4 => unfold maxLen; omega
          case q5 => omega
          intro v' w6 hown hgrow _
          have hb6 := B5.out.trans ((((Below.refl w5.heap.size w5).alloc (Nat.le_refl _) _).grown hgrow (by simp) (by intro k hk; simp [Value.ownBlock] at hk; omega)).mono (by omega))
          have hz6 : w5.heap.size ≤ w6.heap.size := by have := hgrow.size; simp at this; omega
          have hO6 : Opts w6 w5.heap.size v' l := by
            unfold Opts
            simpa using hown
          clear hown hgrow
          go_wp2_with fail
          go_meet
          exact ⟨⟨hO6, hz6⟩, hb6⟩
      case rest =>
        obtain ⟨⟨hO6, hz6⟩, hb6⟩ := hcut
        have O6 := Lib.hid hO6
        have B6 := Lib.hid hb6
        have zW : W.heap.size ≤ w5.heap.size := B5.out.size
        clear hO6 hb6 B5 d0 d1 d2 d3 d4 d5 d6 e0 e1 e2 e3 e4 e5 e6 qn hii z4 z3 zA hbs
        obtain ⟨j0, hj, hy0, hy1, hy2⟩ := info_parts infoOpt
        have HW := Lib.hid (show sayErr l more = if wrongM more ≠ 0 then wrongM more else Opt.check (l ++ more.map optOf) from rfl)
        have HO := Lib.hid (show sayOpts l more = if sayErr l more = 0 then l ++ more.map optOf else [] from rfl)
        go_wp2_with fail
        go_loopw [15, 16, 17] (fun v wv i wr => ∃ k : Nat, k ≤ more.length ∧ i = .int .i64 k ∧ (Gone l more w5.heap.size k v wv wr ∧ w5.heap.size ≤ wr.heap.size) ∧ Below W.heap.size W wr) (fun _ _ i _ => more.length - (intOf i).toNat)
        case atStart => exact ⟨0, Nat.zero_le _, rfl, ⟨.inl ⟨rfl, by simpa using O6.out, rfl, fun h => h⟩, hz6⟩, B6.out⟩
        case round =>
          clear O6 B6
          obtain ⟨k, hk, rfl, ⟨hgone, hz5⟩, hb⟩ := hrel
          have HB := Lib.hid hb
          have hbs := hb.size
          clear hb
          rcases hgone with ⟨rfl, hown, hwr, hok⟩ | ⟨er, hne, rfl, hwr, hok⟩
          · have Hown := Lib.hid hown
            have HR := Lib.hid hwr
            have HK := Lib.hid hok
            clear hown hwr hok
            by_cases hlt : k < more.length
            · obtain ⟨m, hi2⟩ := Opt.some_at hlt
              obtain ⟨b1, off, hg, hb0, h7⟩ := AT2.out.get HB.out hi2
              subst hg
              have hk30 : (k : Int) < (more.length : Int) := by omega
              by_cases hbig : 600 < m.bytes.size
              · have c6 := h7.c6
                have hd3 : decide ((600 : Int) < (m.bytes.size : Int)) = true := by simp; omega
                have hd4 : decide (600 < m.bytes.size) = true := by simp; omega
                clear h7 hi2
                go_wp2_with fail
                go_ret
                exact ⟨rfl, HB.out⟩
              · have hd3 : decide ((600 : Int) < (m.bytes.size : Int)) = false := by simp; omega
                have hd4 : decide (600 < m.bytes.size) = false := by simp; omega
                have HN := Lib.hid (show l ++ (more.take (k + 1)).map optOf = (l ++ (more.take k).map optOf) ++ [optOf m] by rw [Opt.take_at hi2]; simp)
                have HQ := Lib.hid ((wrongM_at more k m hi2).symm.trans HR.out)
                have HOM := Lib.hid (okM_at hi2)
                have CP := Lib.hid (fun w => RefPut_any m (by omega) w)
                have HPS := Lib.hid (putOf_size m)
                have HV := Lib.hid (show putV m = if check m = 0 then .tuple #[.agg #[.int .i64 46, .string (putOf m)], .int .i64 0] else .tuple #[.agg #[.int .i64 0, .string ⟨#[]⟩], .int .i64 (check m)] from rfl)
                have HOO := Lib.hid (show optOf m = ⟨46, putOf m⟩ from rfl)
                have hxl : (l ++ (more.take k).map optOf).length ≤ 1100 := by rw [List.length_append, List.length_map, List.length_take]; omega
                generalize l ++ (more.take k).map optOf = xs at *
                generalize putV m = pv at *
                generalize check m = cm at *
                generalize putOf m = po at *
                generalize optOf m = oo at *
                obtain ⟨mk, ma, mp, mt, mn, mq, mb⟩ := m
                obtain ⟨c0, c1, c2, c3, c4, c5, c6⟩ := h7
                dsimp only at c0 c1 c2 c3 c4 c5 c6 hd3 hd4 hbig HOM
                unfold vOf at CP
                dsimp only at CP
                clear hi2
                obtain ⟨po', cm', hpv, hcc⟩ : ∃ (o : O) (c : Int), pv = .tuple #[.agg #[.int .i64 o.kind, .string o.value], .int .i64 c] ∧ c = cm ∧ (cm = 0 → o = oo) := by
                  by_cases hc : cm = 0
                  · exact ⟨oo, 0, by rw [HV.out, if_pos hc, HOO.out], hc.symm, fun _ => rfl⟩
                  · exact ⟨⟨0, ⟨#[]⟩⟩, cm, HV.out.trans (if_neg hc), rfl, fun h => absurd h hc⟩
                obtain ⟨rfl, hoo⟩ := hcc
                subst hpv
                have HOO2 := Lib.hid hoo
                clear hoo HV HOO
                obtain ⟨pk, ps⟩ := po'
                dsimp only at CP
                go_wp2_with fail
                refine (CP.out _).mono ?_
                rintro e w7 ⟨rfl, h7⟩
                have B7 := Lib.hid (HB.out.trans (h7.mono hbs))
                have O7 := Lib.hid (Opts.below Hown.out (Nat.le_refl _) h7)
                have z7 : wr.heap.size ≤ w7.heap.size := h7.size
                clear h7 HB CP
                go_wp2_with (at_builtin; refine wpList_append_own _ rfl _ _ 34 rfl w5.heap.size 26 j0 (.agg #[.int .i64 0, .string ⟨#[]⟩]) 2 24 Try.underlying34 hj hy0 hy1 hy2 rfl (by decide) _ _ _ rfl (World.ownsRow.alloc (World.ownsRow.alloc O7.out _) _) ⟨w7.heap.size + 1, 0, none⟩ 1 1 [.int .i64 pk, .string ps] rfl rfl ?d1 ?d2 ?d3 ?d4 ?d5 ?_)
                case d1 =>
                  have := cell_two_new (w7.alloc (.cells #[.int .i64 pk, .string ps] 26)) (.int .i64 pk) (.string ps) 26
                  rwa [World.size_alloc] at this
                case d2 => simp [Value.oneCell']
                case d3 => unfold maxLen; omega
                case d4 => omega
                case d5 => simp; omega
                intro v' w8 hown' hgr _
                have hp := Lib.hid (opts_push (w := w7) (by simp; omega) (World.ownsRow.alloc O7.out _) ((Below.refl w5.heap.size w7).alloc (by omega) _) hown' hgr)
                have B8 := Lib.hid (B7.out.trans (hp.out.2.mono zW))
                have hz8 : w5.heap.size ≤ w8.heap.size := Nat.le_trans (Nat.le_trans hz5 z7) hp.out.2.size
                clear hown' hgr
                have HG := Lib.hid (show Gone l more w5.heap.size (k + 1) v' (.int .i64 cm') w8 by
                  by_cases hc : cm' = 0
                  · refine .inl ⟨by rw [hc], ?_, ?_, fun h => HK.out (HOM.out.2 ⟨by omega, fun _ => h⟩)⟩
                    · rw [HN.out, ← HOO2.out hc]; exact hp.out.1
                    · exact (HQ.out.symm.trans (if_neg (by simp [hc]))).symm
                  · exact .inr ⟨cm', hc, rfl, HQ.out.symm.trans (if_pos hc), HK.out (HOM.out.2 ⟨by omega, fun h => absurd h hc⟩)⟩)
                clear HQ HOM HOO2 HN
                go_wp2_with fail
                exact ⟨⟨k + 1, by omega, by go_num, ⟨HG.out, hz8⟩, B8.out⟩, by simp [intOf]; omega⟩
            · obtain rfl : k = more.length := by omega
              have hw0 : wrongM more = 0 := by rw [← HR.out, List.drop_length]; rfl
              have HKM := Lib.hid (show okM more from HK.out (by rw [List.drop_length]; trivial))
              have HE := Lib.hid (show sayErr l more = Opt.check (l ++ more.map optOf) by rw [HW.out, if_neg (by simp [hw0])])
              rw [List.take_length] at Hown
              have FT := Lib.hid (show Opt.Fit (l ++ more.map optOf) from ⟨by rw [List.length_append, List.length_map]; omega, fun o ho => by
                rcases List.mem_append.1 ho with h | h
                · exact Nat.le_trans (HVL.out o h) (by omega)
                · obtain ⟨m, hm, rfl⟩ := List.mem_map.1 h
                  have h1 := okM_all HKM.out hw0 m hm
                  have h2 := putOf_size m
                  show (putOf m).size ≤ 3000
                  omega⟩)
              have hL1 : (l ++ more.map optOf).length ≤ 1100 := by rw [List.length_append, List.length_map]; omega
              have CS := Lib.hid (fun w h h2 => Say_any l FEW.out more (by omega) HKM.out a0 a2 cap0 cap2 w h h2)
              unfold SayEnd at CS
              obtain ⟨L2, hL2⟩ : ∃ L, L = l ++ more.map optOf := ⟨_, rfl⟩
              rw [← hL2] at Hown FT HE HO hL1
              clear hL2 hw0 HR HK HW
              obtain ⟨a3, cap3, rfl, hat3⟩ := Opts.at Hown.out
              have A3 := Lib.hid hat3
              have CK := Lib.hid (Opt.RefCheck_any L2 FT.out a3 cap3 wr hat3)
              generalize hcc : Opt.check L2 = cc at *
              have HE0 := Lib.hid HE.out
              clear hat3 Hown hcc HE FT
              go_wp2_with fail
              refine CK.out.mono ?_
              rintro e w7 ⟨rfl, h7⟩
              have B7 := Lib.hid (HB.out.trans (h7.mono hbs))
              have A7 := Lib.hid (A3.out.below h7)
              clear h7 HB A3
              by_cases hc : cc = 0
              · rw [show sayErr l more = 0 by rw [HE0.out, hc], show sayOpts l more = L2 by rw [HO.out, if_pos (by rw [HE0.out, hc])]] at CS
                subst hc
                go_wp2_with fail
                refine (CS.out _ (AT.out.below B7.out) (AT2.out.below B7.out)).mono ?_
                rintro e w8 ⟨a8, c8, rfl, hat8, h8⟩
                have A8 := Lib.hid hat8
                have A8' := Lib.hid (A7.out.below h8)
                have B8 := Lib.hid (B7.out.trans (h8.mono B7.out.size))
                clear hat8 h8
                go_wp2_with fail
                refine (Opt.Same_any L2 (by omega) a8 a3 c8 cap3 w8 A8.out A8'.out).mono ?_
                rintro e w9 ⟨rfl, h9⟩
                have B9 := Lib.hid (B8.out.trans (h9.mono B8.out.size))
                clear h9
                go_wp2_with fail
                go_ret
                exact ⟨rfl, B9.out⟩
              · have hcb : (cc == 0) = false := by simpa using hc
                have hcb2 : (cc != 0) = true := by simpa using hc
                have hcb3 : (cc == cc) = true := by simp
                rw [show sayErr l more = cc from HE0.out, show sayOpts l more = [] by rw [HO.out, if_neg (by rw [HE0.out]; exact hc)]] at CS
                clear hc HO HE0
                go_wp2_with fail
                refine (CS.out _ (AT.out.below B7.out) (AT2.out.below B7.out)).mono ?_
                rintro e w8 ⟨a8, c8, rfl, -, h8⟩
                have B8 := Lib.hid (B7.out.trans (h8.mono B7.out.size))
                clear h8
                go_wp2_with fail
                go_ret
                exact ⟨rfl, B8.out⟩
          · have HKM := Lib.hid hok
            have HE0 := Lib.hid (show sayErr l more = er by rw [HW.out, hwr, if_pos hne])
            have CS := Lib.hid (fun w h h2 => Say_any l FEW.out more (by omega) HKM.out a0 a2 cap0 cap2 w h h2)
            unfold SayEnd at CS
            rw [show sayErr l more = er from HE0.out, show sayOpts l more = [] by rw [HO.out, if_neg (by rw [HE0.out]; exact hne)]] at CS
            have hcb : (er == 0) = false := by simpa using hne
            have hcb2 : (er != 0) = true := by simpa using hne
            have hcb3 : (er == er) = true := by simp
            clear hne hwr hok HO HE0 HW
            by_cases hlt : k < more.length
            all_goals (
              go_wp2_with fail
              refine (CS.out _ (AT.out.below HB.out) (AT2.out.below HB.out)).mono ?_
              rintro e w8 ⟨a8, c8, rfl, -, h8⟩
              have B8 := Lib.hid (HB.out.trans (h8.mono hbs))
              clear h8
              go_wp2_with fail
              go_ret
              exact ⟨rfl, B8.out⟩)
end Go.Proofs.Ytmkngolkflihlaa.Mp
