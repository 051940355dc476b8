/- Whether two packets are the same: the contract of the document's. -/
import Derived.Test.YtkjojfcknfhkhaaPktS1
import Derived.Test.YtkjojfcknfhkhaaWalk
namespace Go.Proofs.Ytkjojfcknfhkhaa.Pkt
open Go.ChangeShapes Go.WideShapes Go.ChangeAt Go.RowKit
open Go.Proofs.Ytkjojfcknfhkhaa.Opt (O OptsAt)
set_option linter.unusedVariables false

theorem BoxK.all2 {W : World} {A : Nat} {k s d cc cv q ak sv co de : Int} {l : Bool} {os : List O} {da : ByteArray} {a : Option Addr} {cap : Nat} (h : BoxK W A ⟨k, l, s, d, cc, cv, q, ak, sv, co, de, os, da⟩ a cap) :
    W.cell? ⟨A, 0, none⟩ = some (.int .i64 k) ∧ W.cell? ⟨A, 1, none⟩ = some (.bool l) ∧ W.cell? ⟨A, 2, none⟩ = some (.int .i64 s) ∧ W.cell? ⟨A, 3, none⟩ = some (.int .i64 d) ∧ W.cell? ⟨A, 4, none⟩ = some (.int .i64 cc) ∧ W.cell? ⟨A, 5, none⟩ = some (.int .i64 cv) ∧ W.cell? ⟨A, 6, none⟩ = some (.int .i64 q) ∧ W.cell? ⟨A, 7, none⟩ = some (.int .i64 ak) ∧ W.cell? ⟨A, 8, none⟩ = some (.int .i64 sv) ∧ W.cell? ⟨A, 9, none⟩ = some (.int .i64 co) ∧ W.cell? ⟨A, 10, none⟩ = some (.int .i64 de) ∧ W.cell? ⟨A, 11, none⟩ = some (.slice a os.length cap) ∧ W.cell? ⟨A, 12, none⟩ = some (.string da) := h.cell

set_option maxRecDepth 100000 in
set_option maxHeartbeats 40000000 in
theorem refSame_any (p p2 : K) (hl : p.opts.length ≤ 3000) (hm : p2.opts.length ≤ 3000) (a b : Option Addr) (cap cap2 : Nat) (w : World) (h : OptsAt w a p.opts) (h2 : OptsAt w b p2.opts) :
    Calls Try.prog 13 #[.agg #[.int .i64 p.kind, .bool p.long, .int .i64 p.src, .int .i64 p.dst, .int .i64 p.cc, .int .i64 p.cover, .int .i64 p.seq, .int .i64 p.ack, .int .i64 p.service, .int .i64 p.code, .int .i64 p.detail, .slice a p.opts.length cap, .string p.data], .agg #[.int .i64 p2.kind, .bool p2.long, .int .i64 p2.src, .int .i64 p2.dst, .int .i64 p2.cc, .int .i64 p2.cover, .int .i64 p2.seq, .int .i64 p2.ack, .int .i64 p2.service, .int .i64 p2.code, .int .i64 p2.detail, .slice b p2.opts.length cap2, .string p2.data]] w fun e w' => e = .returned (.bool (same p p2)) ∧ Below w.heap.size w w' := by
  have hlen1 := hl
  have hlen2 := hm
  have hT := Lib.hid (@same_true p p2)
  have hF := Lib.hid (@same_false p p2)
  generalize same p p2 = R at *
  obtain ⟨k, l, s, d, cc, cv, q, ak, sv, co, de, os, da⟩ := p
  obtain ⟨k2, l2, s2, d2, cc2, cv2, q2, ak2, sv2, co2, de2, os2, da2⟩ := p2
  dsimp only at *
  obtain ⟨W, hW⟩ : ∃ W, (w.alloc (.cells #[.int .i64 k, .bool l, .int .i64 s, .int .i64 d, .int .i64 cc, .int .i64 cv, .int .i64 q, .int .i64 ak, .int .i64 sv, .int .i64 co, .int .i64 de, .slice a os.length cap, .string da] 24)).alloc (.cells #[.int .i64 k2, .bool l2, .int .i64 s2, .int .i64 d2, .int .i64 cc2, .int .i64 cv2, .int .i64 q2, .int .i64 ak2, .int .i64 sv2, .int .i64 co2, .int .i64 de2, .slice b os2.length cap2, .string da2] 24) = W := ⟨_, rfl⟩
  have hb := ((Below.refl w.heap.size w).alloc (Nat.le_refl _) (.cells #[.int .i64 k, .bool l, .int .i64 s, .int .i64 d, .int .i64 cc, .int .i64 cv, .int .i64 q, .int .i64 ak, .int .i64 sv, .int .i64 co, .int .i64 de, .slice a os.length cap, .string da] 24)).alloc (by simp) (.cells #[.int .i64 k2, .bool l2, .int .i64 s2, .int .i64 d2, .int .i64 cc2, .int .i64 cv2, .int .i64 q2, .int .i64 ak2, .int .i64 sv2, .int .i64 co2, .int .i64 de2, .slice b os2.length cap2, .string da2] 24)
  rw [hW] at hb
  have HB := Lib.hid hb
  have BX : BoxK W w.heap.size ⟨k, l, s, d, cc, cv, q, ak, sv, co, de, os, da⟩ a cap := by
    rw [← hW]; exact (Below.heap_alloc _ _ _ (by simp)).trans (heap_alloc_new w _)
  have BZ : BoxK W (w.heap.size + 1) ⟨k2, l2, s2, d2, cc2, cv2, q2, ak2, sv2, co2, de2, os2, da2⟩ b cap2 := by
    rw [← hW]
    have := heap_alloc_new (w.alloc (.cells #[.int .i64 k, .bool l, .int .i64 s, .int .i64 d, .int .i64 cc, .int .i64 cv, .int .i64 q, .int .i64 ak, .int .i64 sv, .int .i64 co, .int .i64 de, .slice a os.length cap, .string da] 24)) (.cells #[.int .i64 k2, .bool l2, .int .i64 s2, .int .i64 d2, .int .i64 cc2, .int .i64 cv2, .int .i64 q2, .int .i64 ak2, .int .i64 sv2, .int .i64 co2, .int .i64 de2, .slice b os2.length cap2, .string da2] 24)
    rwa [show (w.alloc (.cells #[.int .i64 k, .bool l, .int .i64 s, .int .i64 d, .int .i64 cc, .int .i64 cv, .int .i64 q, .int .i64 ak, .int .i64 sv, .int .i64 co, .int .i64 de, .slice a os.length cap, .string da] 24)).heap.size = w.heap.size + 1 by simp] at this
  have HO := Lib.hid (show ∀ V, Below w.heap.size w V → OptsAt V a os ∧ OptsAt V b os2 from fun V hV => ⟨h.below hV, h2.below hV⟩)
  have hBw : w.heap.size ≤ W.heap.size := hb.size
  clear h h2 hb
  obtain ⟨x0, x1, x2, x3, x4, x5, x6, x7, x8, x9, x10, x11, x12⟩ := BX.all2
  obtain ⟨z0, z1, z2, z3, z4, z5, z6, z7, z8, z9, z10, z11, z12⟩ := BZ.all2
  clear x0 x1 x2 x3 x4 x5 x6 x7 x8 x9 x10 x12 z0 z1 z2 z3 z4 z5 z6 z7 z8 z9 z10 z12
  by_cases hlen : os.length = os2.length
  case neg =>
    have hlb : ((os.length : Int) != (os2.length : Int)) = true := by simp; omega
    have HR := Lib.hid (hF.out (fun e => hlen (by rw [(K.mk.inj e).2.2.2.2.2.2.2.2.2.2.2.1])))
    go_enter Try.func13, Try.ntmps13
    go_wp2_with fail
    go_returns
    exact ⟨by rw [HR.out]; rfl, HB.out⟩
  have hlb : ((os.length : Int) != (os2.length : Int)) = false := by simp; omega
  have Hlen := Lib.hid hlen
  clear hlen
  go_enter Try.func13, Try.ntmps13
  go_wp2_with fail
  go_loopw [5] (fun i wr => ∃ k : Nat, k ≤ os.length ∧ i = .int .i64 k ∧ (os.drop k = os2.drop k ↔ os = os2) ∧ Below W.heap.size W wr) (fun i _ => os.length - (intOf i).toNat)
  case atStart => exact ⟨0, by omega, rfl, by simp, Below.refl _ _⟩
  case round =>
    obtain ⟨j, hj, rfl, hd, hB⟩ := hrel
    clear x11 z11
    have x11 := (BX.below hB BX.lt).all2.2.2.2.2.2.2.2.2.2.2.2.1
    have z11 := (BZ.below hB BZ.lt).all2.2.2.2.2.2.2.2.2.2.2.2.1
    by_cases hlt : j < os.length
    · obtain ⟨x, hi⟩ := Opt.some_at hlt
      obtain ⟨y, hi2⟩ := Opt.some_at (show j < os2.length by have := Hlen.out; omega)
      have hB' := HB.out.trans (hB.mono hBw)
      obtain ⟨o1', o2'⟩ := HO.out _ hB'
      obtain ⟨ba, off, rfl, hb0, hc0, hc1⟩ := o1'.cell (Below.refl _ _) hi
      obtain ⟨bb, off2, rfl, hb20, hc20, hc21⟩ := o2'.cell (Below.refl _ _) hi2
      have e1 := Opt.drop_at hi
      have e2 := Opt.drop_at hi2
      rw [e1, e2] at hd
      have g1 : (0 : Int) ≤ (j : Int) := by omega
      have g2 : (j : Int) < (os.length : Int) := by omega
      have g3 : (j : Int) < (os2.length : Int) := by have := Hlen.out; omega
      have Hb := Lib.hid (fun n => Opt.below_drewN hB n)
      clear hB e1 e2 o1' o2' hB'
      by_cases hxy : x.kind = y.kind ∧ x.value = y.value
      · have hq := fun w => neq_opt x y w false (if_pos hxy)
        have hx : x = y := by cases x; cases y; simp at hxy; rw [hxy.1, hxy.2]
        have hd2 := Lib.hid (show os.drop (j + 1) = os2.drop (j + 1) ↔ os = os2 by rw [← hd, hx]; simp)
        clear hd hxy hx
        go_wp2_with fail
        go_quiet (fail)
        go_wp2_with fail
        exact ⟨⟨j + 1, by omega, by go_num, hd2.out, Hb.out _⟩, by simp [intOf]; omega⟩
      · have hq := fun w => neq_opt x y w true (if_neg hxy)
        have hne : ¬ os = os2 := fun e => hxy (by have := hd.2 e; simp at this; rw [this.1]; exact ⟨rfl, rfl⟩)
        have HR := Lib.hid (hF.out (fun e => hne (K.mk.inj e).2.2.2.2.2.2.2.2.2.2.2.1))
        clear hd hxy hne
        go_wp2_with fail
        go_quiet (fail)
        go_wp2_with fail
        go_returns
        exact ⟨by rw [HR.out]; rfl, HB.out.trans ((Hb.out _).mono hBw)⟩
    · obtain rfl : j = os.length := by omega
      have ho : os = os2 := hd.1 (by rw [List.drop_length, Hlen.out, List.drop_length])
      have BX' := BX.below hB BX.lt
      have BZ' := BZ.below hB BZ.lt
      have HBw := Lib.hid (HB.out.trans (hB.mono hBw))
      clear hd x11 z11 BX BZ hB HO
      obtain ⟨x0, x1, x2, x3, x4, x5, x6, x7, x8, x9, x10, x11, x12⟩ := BX'.all2
      obtain ⟨z0, z1, z2, z3, z4, z5, z6, z7, z8, z9, z10, z11, z12⟩ := BZ'.all2
      clear BX' BZ'
      go_upto_region 8 with fail
      clear x11 z11
      refine wp_region_list ?_
      repeat (first | (refine Walk.off (by rfl) ?_; try simp only [Act.put, List.setIfInBounds_toArray, List.set_cons_zero, List.set_cons_succ]) | (refine Walk.on (by rfl) (fun K hK => ?_); go_simp; refine hK.out _ _ ?_; clear hK K; try simp only [Act.put, List.setIfInBounds_toArray, List.set_cons_zero, List.set_cons_succ]))
      by_cases hk : k = k2
      case neg =>
        have hbk : (k == k2) = false := by simpa using hk
        have HR := Lib.hid (hF.out (fun e => hk (K.mk.inj e).1))
        rw [hbk]
        clear x0 x1 x2 x3 x4 x5 x6 x7 x8 x9 x10 x12 z0 z1 z2 z3 z4 z5 z6 z7 z8 z9 z10 z12
        repeat (first | (refine Walk.off (by rfl) ?_; try simp only [Act.put, List.setIfInBounds_toArray, List.set_cons_zero, List.set_cons_succ]) | (refine Walk.on (by rfl) (fun K hK => ?_); go_simp; refine hK.out _ _ ?_; clear hK K; try simp only [Act.put, List.setIfInBounds_toArray, List.set_cons_zero, List.set_cons_succ]))
        refine wpList_nil ?_
        go_wp2_with fail
        go_returns
        exact ⟨by rw [HR.out]; rfl, HBw.out⟩
      subst hk
      rw [show (k == k) = true by simp]
      repeat (first | (refine Walk.off (by rfl) ?_; try simp only [Act.put, List.setIfInBounds_toArray, List.set_cons_zero, List.set_cons_succ]) | (refine Walk.on (by rfl) (fun K hK => ?_); go_simp; refine hK.out _ _ ?_; clear hK K; try simp only [Act.put, List.setIfInBounds_toArray, List.set_cons_zero, List.set_cons_succ]))
      by_cases hl : l = l2
      case neg =>
        have hbl : (l == l2) = false := by simpa using hl
        have HR := Lib.hid (hF.out (fun e => hl (K.mk.inj e).2.1))
        rw [hbl]
        clear x0 x1 x2 x3 x4 x5 x6 x7 x8 x9 x10 x12 z0 z1 z2 z3 z4 z5 z6 z7 z8 z9 z10 z12
        repeat (first | (refine Walk.off (by rfl) ?_; try simp only [Act.put, List.setIfInBounds_toArray, List.set_cons_zero, List.set_cons_succ]) | (refine Walk.on (by rfl) (fun K hK => ?_); go_simp; refine hK.out _ _ ?_; clear hK K; try simp only [Act.put, List.setIfInBounds_toArray, List.set_cons_zero, List.set_cons_succ]))
        refine wpList_nil ?_
        go_wp2_with fail
        go_returns
        exact ⟨by rw [HR.out]; rfl, HBw.out⟩
      subst hl
      rw [show (l == l) = true by simp]
      repeat (first | (refine Walk.off (by rfl) ?_; try simp only [Act.put, List.setIfInBounds_toArray, List.set_cons_zero, List.set_cons_succ]) | (refine Walk.on (by rfl) (fun K hK => ?_); go_simp; refine hK.out _ _ ?_; clear hK K; try simp only [Act.put, List.setIfInBounds_toArray, List.set_cons_zero, List.set_cons_succ]))
      by_cases hs : s = s2
      case neg =>
        have hbs : (s == s2) = false := by simpa using hs
        have HR := Lib.hid (hF.out (fun e => hs (K.mk.inj e).2.2.1))
        rw [hbs]
        clear x0 x1 x2 x3 x4 x5 x6 x7 x8 x9 x10 x12 z0 z1 z2 z3 z4 z5 z6 z7 z8 z9 z10 z12
        repeat (first | (refine Walk.off (by rfl) ?_; try simp only [Act.put, List.setIfInBounds_toArray, List.set_cons_zero, List.set_cons_succ]) | (refine Walk.on (by rfl) (fun K hK => ?_); go_simp; refine hK.out _ _ ?_; clear hK K; try simp only [Act.put, List.setIfInBounds_toArray, List.set_cons_zero, List.set_cons_succ]))
        refine wpList_nil ?_
        go_wp2_with fail
        go_returns
        exact ⟨by rw [HR.out]; rfl, HBw.out⟩
      subst hs
      rw [show (s == s) = true by simp]
      repeat (first | (refine Walk.off (by rfl) ?_; try simp only [Act.put, List.setIfInBounds_toArray, List.set_cons_zero, List.set_cons_succ]) | (refine Walk.on (by rfl) (fun K hK => ?_); go_simp; refine hK.out _ _ ?_; clear hK K; try simp only [Act.put, List.setIfInBounds_toArray, List.set_cons_zero, List.set_cons_succ]))
      by_cases hd : d = d2
      case neg =>
        have hbd : (d == d2) = false := by simpa using hd
        have HR := Lib.hid (hF.out (fun e => hd (K.mk.inj e).2.2.2.1))
        rw [hbd]
        clear x0 x1 x2 x3 x4 x5 x6 x7 x8 x9 x10 x12 z0 z1 z2 z3 z4 z5 z6 z7 z8 z9 z10 z12
        repeat (first | (refine Walk.off (by rfl) ?_; try simp only [Act.put, List.setIfInBounds_toArray, List.set_cons_zero, List.set_cons_succ]) | (refine Walk.on (by rfl) (fun K hK => ?_); go_simp; refine hK.out _ _ ?_; clear hK K; try simp only [Act.put, List.setIfInBounds_toArray, List.set_cons_zero, List.set_cons_succ]))
        refine wpList_nil ?_
        go_wp2_with fail
        go_returns
        exact ⟨by rw [HR.out]; rfl, HBw.out⟩
      subst hd
      rw [show (d == d) = true by simp]
      repeat (first | (refine Walk.off (by rfl) ?_; try simp only [Act.put, List.setIfInBounds_toArray, List.set_cons_zero, List.set_cons_succ]) | (refine Walk.on (by rfl) (fun K hK => ?_); go_simp; refine hK.out _ _ ?_; clear hK K; try simp only [Act.put, List.setIfInBounds_toArray, List.set_cons_zero, List.set_cons_succ]))
      by_cases hcc : cc = cc2
      case neg =>
        have hbcc : (cc == cc2) = false := by simpa using hcc
        have HR := Lib.hid (hF.out (fun e => hcc (K.mk.inj e).2.2.2.2.1))
        rw [hbcc]
        clear x0 x1 x2 x3 x4 x5 x6 x7 x8 x9 x10 x12 z0 z1 z2 z3 z4 z5 z6 z7 z8 z9 z10 z12
        repeat (first | (refine Walk.off (by rfl) ?_; try simp only [Act.put, List.setIfInBounds_toArray, List.set_cons_zero, List.set_cons_succ]) | (refine Walk.on (by rfl) (fun K hK => ?_); go_simp; refine hK.out _ _ ?_; clear hK K; try simp only [Act.put, List.setIfInBounds_toArray, List.set_cons_zero, List.set_cons_succ]))
        refine wpList_nil ?_
        go_wp2_with fail
        go_returns
        exact ⟨by rw [HR.out]; rfl, HBw.out⟩
      subst hcc
      rw [show (cc == cc) = true by simp]
      repeat (first | (refine Walk.off (by rfl) ?_; try simp only [Act.put, List.setIfInBounds_toArray, List.set_cons_zero, List.set_cons_succ]) | (refine Walk.on (by rfl) (fun K hK => ?_); go_simp; refine hK.out _ _ ?_; clear hK K; try simp only [Act.put, List.setIfInBounds_toArray, List.set_cons_zero, List.set_cons_succ]))
      by_cases hcv : cv = cv2
      case neg =>
        have hbcv : (cv == cv2) = false := by simpa using hcv
        have HR := Lib.hid (hF.out (fun e => hcv (K.mk.inj e).2.2.2.2.2.1))
        rw [hbcv]
        clear x0 x1 x2 x3 x4 x5 x6 x7 x8 x9 x10 x12 z0 z1 z2 z3 z4 z5 z6 z7 z8 z9 z10 z12
        repeat (first | (refine Walk.off (by rfl) ?_; try simp only [Act.put, List.setIfInBounds_toArray, List.set_cons_zero, List.set_cons_succ]) | (refine Walk.on (by rfl) (fun K hK => ?_); go_simp; refine hK.out _ _ ?_; clear hK K; try simp only [Act.put, List.setIfInBounds_toArray, List.set_cons_zero, List.set_cons_succ]))
        refine wpList_nil ?_
        go_wp2_with fail
        go_returns
        exact ⟨by rw [HR.out]; rfl, HBw.out⟩
      subst hcv
      rw [show (cv == cv) = true by simp]
      repeat (first | (refine Walk.off (by rfl) ?_; try simp only [Act.put, List.setIfInBounds_toArray, List.set_cons_zero, List.set_cons_succ]) | (refine Walk.on (by rfl) (fun K hK => ?_); go_simp; refine hK.out _ _ ?_; clear hK K; try simp only [Act.put, List.setIfInBounds_toArray, List.set_cons_zero, List.set_cons_succ]))
      by_cases hq : q = q2
      case neg =>
        have hbq : (q == q2) = false := by simpa using hq
        have HR := Lib.hid (hF.out (fun e => hq (K.mk.inj e).2.2.2.2.2.2.1))
        rw [hbq]
        clear x0 x1 x2 x3 x4 x5 x6 x7 x8 x9 x10 x12 z0 z1 z2 z3 z4 z5 z6 z7 z8 z9 z10 z12
        repeat (first | (refine Walk.off (by rfl) ?_; try simp only [Act.put, List.setIfInBounds_toArray, List.set_cons_zero, List.set_cons_succ]) | (refine Walk.on (by rfl) (fun K hK => ?_); go_simp; refine hK.out _ _ ?_; clear hK K; try simp only [Act.put, List.setIfInBounds_toArray, List.set_cons_zero, List.set_cons_succ]))
        refine wpList_nil ?_
        go_wp2_with fail
        go_returns
        exact ⟨by rw [HR.out]; rfl, HBw.out⟩
      subst hq
      rw [show (q == q) = true by simp]
      repeat (first | (refine Walk.off (by rfl) ?_; try simp only [Act.put, List.setIfInBounds_toArray, List.set_cons_zero, List.set_cons_succ]) | (refine Walk.on (by rfl) (fun K hK => ?_); go_simp; refine hK.out _ _ ?_; clear hK K; try simp only [Act.put, List.setIfInBounds_toArray, List.set_cons_zero, List.set_cons_succ]))
      by_cases hak : ak = ak2
      case neg =>
        have hbak : (ak == ak2) = false := by simpa using hak
        have HR := Lib.hid (hF.out (fun e => hak (K.mk.inj e).2.2.2.2.2.2.2.1))
        rw [hbak]
        clear x0 x1 x2 x3 x4 x5 x6 x7 x8 x9 x10 x12 z0 z1 z2 z3 z4 z5 z6 z7 z8 z9 z10 z12
        repeat (first | (refine Walk.off (by rfl) ?_; try simp only [Act.put, List.setIfInBounds_toArray, List.set_cons_zero, List.set_cons_succ]) | (refine Walk.on (by rfl) (fun K hK => ?_); go_simp; refine hK.out _ _ ?_; clear hK K; try simp only [Act.put, List.setIfInBounds_toArray, List.set_cons_zero, List.set_cons_succ]))
        refine wpList_nil ?_
        go_wp2_with fail
        go_returns
        exact ⟨by rw [HR.out]; rfl, HBw.out⟩
      subst hak
      rw [show (ak == ak) = true by simp]
      repeat (first | (refine Walk.off (by rfl) ?_; try simp only [Act.put, List.setIfInBounds_toArray, List.set_cons_zero, List.set_cons_succ]) | (refine Walk.on (by rfl) (fun K hK => ?_); go_simp; refine hK.out _ _ ?_; clear hK K; try simp only [Act.put, List.setIfInBounds_toArray, List.set_cons_zero, List.set_cons_succ]))
      by_cases hsv : sv = sv2
      case neg =>
        have hbsv : (sv == sv2) = false := by simpa using hsv
        have HR := Lib.hid (hF.out (fun e => hsv (K.mk.inj e).2.2.2.2.2.2.2.2.1))
        rw [hbsv]
        clear x0 x1 x2 x3 x4 x5 x6 x7 x8 x9 x10 x12 z0 z1 z2 z3 z4 z5 z6 z7 z8 z9 z10 z12
        repeat (first | (refine Walk.off (by rfl) ?_; try simp only [Act.put, List.setIfInBounds_toArray, List.set_cons_zero, List.set_cons_succ]) | (refine Walk.on (by rfl) (fun K hK => ?_); go_simp; refine hK.out _ _ ?_; clear hK K; try simp only [Act.put, List.setIfInBounds_toArray, List.set_cons_zero, List.set_cons_succ]))
        refine wpList_nil ?_
        go_wp2_with fail
        go_returns
        exact ⟨by rw [HR.out]; rfl, HBw.out⟩
      subst hsv
      rw [show (sv == sv) = true by simp]
      repeat (first | (refine Walk.off (by rfl) ?_; try simp only [Act.put, List.setIfInBounds_toArray, List.set_cons_zero, List.set_cons_succ]) | (refine Walk.on (by rfl) (fun K hK => ?_); go_simp; refine hK.out _ _ ?_; clear hK K; try simp only [Act.put, List.setIfInBounds_toArray, List.set_cons_zero, List.set_cons_succ]))
      by_cases hco : co = co2
      case neg =>
        have hbco : (co == co2) = false := by simpa using hco
        have HR := Lib.hid (hF.out (fun e => hco (K.mk.inj e).2.2.2.2.2.2.2.2.2.1))
        rw [hbco]
        clear x0 x1 x2 x3 x4 x5 x6 x7 x8 x9 x10 x12 z0 z1 z2 z3 z4 z5 z6 z7 z8 z9 z10 z12
        repeat (first | (refine Walk.off (by rfl) ?_; try simp only [Act.put, List.setIfInBounds_toArray, List.set_cons_zero, List.set_cons_succ]) | (refine Walk.on (by rfl) (fun K hK => ?_); go_simp; refine hK.out _ _ ?_; clear hK K; try simp only [Act.put, List.setIfInBounds_toArray, List.set_cons_zero, List.set_cons_succ]))
        refine wpList_nil ?_
        go_wp2_with fail
        go_returns
        exact ⟨by rw [HR.out]; rfl, HBw.out⟩
      subst hco
      rw [show (co == co) = true by simp]
      repeat (first | (refine Walk.off (by rfl) ?_; try simp only [Act.put, List.setIfInBounds_toArray, List.set_cons_zero, List.set_cons_succ]) | (refine Walk.on (by rfl) (fun K hK => ?_); go_simp; refine hK.out _ _ ?_; clear hK K; try simp only [Act.put, List.setIfInBounds_toArray, List.set_cons_zero, List.set_cons_succ]))
      by_cases hde : de = de2
      case neg =>
        have hbde : (de == de2) = false := by simpa using hde
        have HR := Lib.hid (hF.out (fun e => hde (K.mk.inj e).2.2.2.2.2.2.2.2.2.2.1))
        rw [hbde]
        clear x0 x1 x2 x3 x4 x5 x6 x7 x8 x9 x10 x12 z0 z1 z2 z3 z4 z5 z6 z7 z8 z9 z10 z12
        repeat (first | (refine Walk.off (by rfl) ?_; try simp only [Act.put, List.setIfInBounds_toArray, List.set_cons_zero, List.set_cons_succ]) | (refine Walk.on (by rfl) (fun K hK => ?_); go_simp; refine hK.out _ _ ?_; clear hK K; try simp only [Act.put, List.setIfInBounds_toArray, List.set_cons_zero, List.set_cons_succ]))
        refine wpList_nil ?_
        go_wp2_with fail
        go_returns
        exact ⟨by rw [HR.out]; rfl, HBw.out⟩
      subst hde
      rw [show (de == de) = true by simp]
      repeat (first | (refine Walk.off (by rfl) ?_; try simp only [Act.put, List.setIfInBounds_toArray, List.set_cons_zero, List.set_cons_succ]) | (refine Walk.on (by rfl) (fun K hK => ?_); go_simp; refine hK.out _ _ ?_; clear hK K; try simp only [Act.put, List.setIfInBounds_toArray, List.set_cons_zero, List.set_cons_succ]))
      clear x0 x1 x2 x3 x4 x5 x6 x7 x8 x9 x10 x12 z0 z1 z2 z3 z4 z5 z6 z7 z8 z9 z10 z12
      by_cases hd : da = da2
      case neg =>
        have HR := Lib.hid (hF.out (fun e => hd (K.mk.inj e).2.2.2.2.2.2.2.2.2.2.2.2))
        have hbd := bytes_ne hd
        go_wp2_with fail
        go_returns
        exact ⟨by rw [HR.out, ← hbd]; rfl, HBw.out⟩
      have HR := Lib.hid (hT.out (by rw [ho, hd]))
      have hbd : (da.toList == da2.toList) = true := by rw [hd]; simp
      go_wp2_with fail
      go_returns
      exact ⟨by rw [HR.out, ← hbd]; rfl, HBw.out⟩
end Go.Proofs.Ytkjojfcknfhkhaa.Pkt
