/- Whether two packets are the same: the contract of the program's. -/
import Derived.Test.YtkjojfcknfhkhaaPktS1
import Derived.Test.YtkjojfcknfhkhaaWalk
namespace Go.Proofs.Ytkjojfcknfhkhaa.Pkt
open Go.ChangeShapes Go.WideShapes Go.ChangeAt Go.RowKit
open Go.Proofs.Ytkjojfcknfhkhaa.Opt (O OptsAt)
set_option linter.unusedVariables false

theorem BoxK.all {W : World} {A : Nat} {k s d cc cv q ak sv co de : Int} {l : Bool} {os : List O} {da : ByteArray} {a : Option Addr} {cap : Nat} (h : BoxK W A ⟨k, l, s, d, cc, cv, q, ak, sv, co, de, os, da⟩ a cap) :
    W.cell? ⟨A, 0, none⟩ = some (.int .i64 k) ∧ W.cell? ⟨A, 1, none⟩ = some (.bool l) ∧ W.cell? ⟨A, 2, none⟩ = some (.int .i64 s) ∧ W.cell? ⟨A, 3, none⟩ = some (.int .i64 d) ∧ W.cell? ⟨A, 4, none⟩ = some (.int .i64 cc) ∧ W.cell? ⟨A, 5, none⟩ = some (.int .i64 cv) ∧ W.cell? ⟨A, 6, none⟩ = some (.int .i64 q) ∧ W.cell? ⟨A, 7, none⟩ = some (.int .i64 ak) ∧ W.cell? ⟨A, 8, none⟩ = some (.int .i64 sv) ∧ W.cell? ⟨A, 9, none⟩ = some (.int .i64 co) ∧ W.cell? ⟨A, 10, none⟩ = some (.int .i64 de) ∧ W.cell? ⟨A, 11, none⟩ = some (.slice a os.length cap) ∧ W.cell? ⟨A, 12, none⟩ = some (.string da) := h.cell

set_option maxRecDepth 100000 in
set_option maxHeartbeats 40000000 in
theorem Same_any (p p2 : K) (hl : p.opts.length ≤ 3000) (hm : p2.opts.length ≤ 3000) (a b : Option Addr) (cap cap2 : Nat) (w : World) (h : OptsAt w a p.opts) (h2 : OptsAt w b p2.opts) :
    Calls Try.prog 12 #[.agg #[.int .i64 p.kind, .bool p.long, .int .i64 p.src, .int .i64 p.dst, .int .i64 p.cc, .int .i64 p.cover, .int .i64 p.seq, .int .i64 p.ack, .int .i64 p.service, .int .i64 p.code, .int .i64 p.detail, .slice a p.opts.length cap, .string p.data], .agg #[.int .i64 p2.kind, .bool p2.long, .int .i64 p2.src, .int .i64 p2.dst, .int .i64 p2.cc, .int .i64 p2.cover, .int .i64 p2.seq, .int .i64 p2.ack, .int .i64 p2.service, .int .i64 p2.code, .int .i64 p2.detail, .slice b p2.opts.length cap2, .string p2.data]] w fun e w' => e = .returned (.bool (same p p2)) ∧ Below w.heap.size w w' := by
  have hT := Lib.hid (@same_true p p2)
  have hF := Lib.hid (@same_false p p2)
  generalize same p p2 = R at *
  obtain ⟨k, l, s, d, cc, cv, q, ak, sv, co, de, os, da⟩ := p
  obtain ⟨k2, l2, s2, d2, cc2, cv2, q2, ak2, sv2, co2, de2, os2, da2⟩ := p2
  dsimp only at *
  obtain ⟨W, hW⟩ : ∃ W, (w.alloc (.cells #[.int .i64 k, .bool l, .int .i64 s, .int .i64 d, .int .i64 cc, .int .i64 cv, .int .i64 q, .int .i64 ak, .int .i64 sv, .int .i64 co, .int .i64 de, .slice a os.length cap, .string da] 24)).alloc (.cells #[.int .i64 k2, .bool l2, .int .i64 s2, .int .i64 d2, .int .i64 cc2, .int .i64 cv2, .int .i64 q2, .int .i64 ak2, .int .i64 sv2, .int .i64 co2, .int .i64 de2, .slice b os2.length cap2, .string da2] 24) = W := ⟨_, rfl⟩
  have hb := ((Below.refl w.heap.size w).alloc (Nat.le_refl _) (.cells #[.int .i64 k, .bool l, .int .i64 s, .int .i64 d, .int .i64 cc, .int .i64 cv, .int .i64 q, .int .i64 ak, .int .i64 sv, .int .i64 co, .int .i64 de, .slice a os.length cap, .string da] 24)).alloc (by simp) (.cells #[.int .i64 k2, .bool l2, .int .i64 s2, .int .i64 d2, .int .i64 cc2, .int .i64 cv2, .int .i64 q2, .int .i64 ak2, .int .i64 sv2, .int .i64 co2, .int .i64 de2, .slice b os2.length cap2, .string da2] 24)
  rw [hW] at hb
  have HB := Lib.hid hb
  have BX : BoxK W w.heap.size ⟨k, l, s, d, cc, cv, q, ak, sv, co, de, os, da⟩ a cap := by
    rw [← hW]; exact (Below.heap_alloc _ _ _ (by simp)).trans (heap_alloc_new w _)
  have BZ : BoxK W (w.heap.size + 1) ⟨k2, l2, s2, d2, cc2, cv2, q2, ak2, sv2, co2, de2, os2, da2⟩ b cap2 := by
    rw [← hW]
    have := heap_alloc_new (w.alloc (.cells #[.int .i64 k, .bool l, .int .i64 s, .int .i64 d, .int .i64 cc, .int .i64 cv, .int .i64 q, .int .i64 ak, .int .i64 sv, .int .i64 co, .int .i64 de, .slice a os.length cap, .string da] 24)) (.cells #[.int .i64 k2, .bool l2, .int .i64 s2, .int .i64 d2, .int .i64 cc2, .int .i64 cv2, .int .i64 q2, .int .i64 ak2, .int .i64 sv2, .int .i64 co2, .int .i64 de2, .slice b os2.length cap2, .string da2] 24)
    rwa [show (w.alloc (.cells #[.int .i64 k, .bool l, .int .i64 s, .int .i64 d, .int .i64 cc, .int .i64 cv, .int .i64 q, .int .i64 ak, .int .i64 sv, .int .i64 co, .int .i64 de, .slice a os.length cap, .string da] 24)).heap.size = w.heap.size + 1 by simp] at this
  have CE := Lib.hid (fun V (hV : Below w.heap.size w V) => equal_any os os2 hl hm a b cap cap2 V (h.below hV) (h2.below hV))
  clear h h2 hl hm hb
  obtain ⟨x0, x1, x2, x3, x4, x5, x6, x7, x8, x9, x10, x11, x12⟩ := BX.all
  obtain ⟨z0, z1, z2, z3, z4, z5, z6, z7, z8, z9, z10, z11, z12⟩ := BZ.all
  go_enter Try.func12, Try.ntmps12
  go_upto_region 1 with fail
  refine wp_region_list ?_
  repeat (first | (refine Walk.off (by rfl) ?_; try simp only [Act.put, List.setIfInBounds_toArray, List.set_cons_zero, List.set_cons_succ]) | (refine Walk.on (by rfl) (fun K hK => ?_); go_simp; refine hK.out _ _ ?_; clear hK K; try simp only [Act.put, List.setIfInBounds_toArray, List.set_cons_zero, List.set_cons_succ]))
  by_cases hk : k = k2
  case neg =>
    have hbk : (k == k2) = false := by simpa using hk
    have HR := Lib.hid (hF.out (fun e => hk (K.mk.inj e).1))
    rw [hbk]
    clear x0 x1 x2 x3 x4 x5 x6 x7 x8 x9 x10 x11 x12 z0 z1 z2 z3 z4 z5 z6 z7 z8 z9 z10 z11 z12
    repeat (first | (refine Walk.off (by rfl) ?_; try simp only [Act.put, List.setIfInBounds_toArray, List.set_cons_zero, List.set_cons_succ]) | (refine Walk.on (by rfl) (fun K hK => ?_); go_simp; refine hK.out _ _ ?_; clear hK K; try simp only [Act.put, List.setIfInBounds_toArray, List.set_cons_zero, List.set_cons_succ]))
    refine wpList_nil ?_
    go_wp2_with fail
    go_ret
    exact ⟨by rw [HR.out]; rfl, HB.out⟩
  subst hk
  rw [show (k == k) = true by simp]
  repeat (first | (refine Walk.off (by rfl) ?_; try simp only [Act.put, List.setIfInBounds_toArray, List.set_cons_zero, List.set_cons_succ]) | (refine Walk.on (by rfl) (fun K hK => ?_); go_simp; refine hK.out _ _ ?_; clear hK K; try simp only [Act.put, List.setIfInBounds_toArray, List.set_cons_zero, List.set_cons_succ]))
  by_cases hl : l = l2
  case neg =>
    have hbl : (l == l2) = false := by simpa using hl
    have HR := Lib.hid (hF.out (fun e => hl (K.mk.inj e).2.1))
    rw [hbl]
    clear x0 x1 x2 x3 x4 x5 x6 x7 x8 x9 x10 x11 x12 z0 z1 z2 z3 z4 z5 z6 z7 z8 z9 z10 z11 z12
    repeat (first | (refine Walk.off (by rfl) ?_; try simp only [Act.put, List.setIfInBounds_toArray, List.set_cons_zero, List.set_cons_succ]) | (refine Walk.on (by rfl) (fun K hK => ?_); go_simp; refine hK.out _ _ ?_; clear hK K; try simp only [Act.put, List.setIfInBounds_toArray, List.set_cons_zero, List.set_cons_succ]))
    refine wpList_nil ?_
    go_wp2_with fail
    go_ret
    exact ⟨by rw [HR.out]; rfl, HB.out⟩
  subst hl
  rw [show (l == l) = true by simp]
  repeat (first | (refine Walk.off (by rfl) ?_; try simp only [Act.put, List.setIfInBounds_toArray, List.set_cons_zero, List.set_cons_succ]) | (refine Walk.on (by rfl) (fun K hK => ?_); go_simp; refine hK.out _ _ ?_; clear hK K; try simp only [Act.put, List.setIfInBounds_toArray, List.set_cons_zero, List.set_cons_succ]))
  by_cases hs : s = s2
  case neg =>
    have hbs : (s == s2) = false := by simpa using hs
    have HR := Lib.hid (hF.out (fun e => hs (K.mk.inj e).2.2.1))
    rw [hbs]
    clear x0 x1 x2 x3 x4 x5 x6 x7 x8 x9 x10 x11 x12 z0 z1 z2 z3 z4 z5 z6 z7 z8 z9 z10 z11 z12
    repeat (first | (refine Walk.off (by rfl) ?_; try simp only [Act.put, List.setIfInBounds_toArray, List.set_cons_zero, List.set_cons_succ]) | (refine Walk.on (by rfl) (fun K hK => ?_); go_simp; refine hK.out _ _ ?_; clear hK K; try simp only [Act.put, List.setIfInBounds_toArray, List.set_cons_zero, List.set_cons_succ]))
    refine wpList_nil ?_
    go_wp2_with fail
    go_ret
    exact ⟨by rw [HR.out]; rfl, HB.out⟩
  subst hs
  rw [show (s == s) = true by simp]
  repeat (first | (refine Walk.off (by rfl) ?_; try simp only [Act.put, List.setIfInBounds_toArray, List.set_cons_zero, List.set_cons_succ]) | (refine Walk.on (by rfl) (fun K hK => ?_); go_simp; refine hK.out _ _ ?_; clear hK K; try simp only [Act.put, List.setIfInBounds_toArray, List.set_cons_zero, List.set_cons_succ]))
  by_cases hd : d = d2
  case neg =>
    have hbd : (d == d2) = false := by simpa using hd
    have HR := Lib.hid (hF.out (fun e => hd (K.mk.inj e).2.2.2.1))
    rw [hbd]
    clear x0 x1 x2 x3 x4 x5 x6 x7 x8 x9 x10 x11 x12 z0 z1 z2 z3 z4 z5 z6 z7 z8 z9 z10 z11 z12
    repeat (first | (refine Walk.off (by rfl) ?_; try simp only [Act.put, List.setIfInBounds_toArray, List.set_cons_zero, List.set_cons_succ]) | (refine Walk.on (by rfl) (fun K hK => ?_); go_simp; refine hK.out _ _ ?_; clear hK K; try simp only [Act.put, List.setIfInBounds_toArray, List.set_cons_zero, List.set_cons_succ]))
    refine wpList_nil ?_
    go_wp2_with fail
    go_ret
    exact ⟨by rw [HR.out]; rfl, HB.out⟩
  subst hd
  rw [show (d == d) = true by simp]
  repeat (first | (refine Walk.off (by rfl) ?_; try simp only [Act.put, List.setIfInBounds_toArray, List.set_cons_zero, List.set_cons_succ]) | (refine Walk.on (by rfl) (fun K hK => ?_); go_simp; refine hK.out _ _ ?_; clear hK K; try simp only [Act.put, List.setIfInBounds_toArray, List.set_cons_zero, List.set_cons_succ]))
  by_cases hcc : cc = cc2
  case neg =>
    have hbcc : (cc == cc2) = false := by simpa using hcc
    have HR := Lib.hid (hF.out (fun e => hcc (K.mk.inj e).2.2.2.2.1))
    rw [hbcc]
    clear x0 x1 x2 x3 x4 x5 x6 x7 x8 x9 x10 x11 x12 z0 z1 z2 z3 z4 z5 z6 z7 z8 z9 z10 z11 z12
    repeat (first | (refine Walk.off (by rfl) ?_; try simp only [Act.put, List.setIfInBounds_toArray, List.set_cons_zero, List.set_cons_succ]) | (refine Walk.on (by rfl) (fun K hK => ?_); go_simp; refine hK.out _ _ ?_; clear hK K; try simp only [Act.put, List.setIfInBounds_toArray, List.set_cons_zero, List.set_cons_succ]))
    refine wpList_nil ?_
    go_wp2_with fail
    go_ret
    exact ⟨by rw [HR.out]; rfl, HB.out⟩
  subst hcc
  rw [show (cc == cc) = true by simp]
  repeat (first | (refine Walk.off (by rfl) ?_; try simp only [Act.put, List.setIfInBounds_toArray, List.set_cons_zero, List.set_cons_succ]) | (refine Walk.on (by rfl) (fun K hK => ?_); go_simp; refine hK.out _ _ ?_; clear hK K; try simp only [Act.put, List.setIfInBounds_toArray, List.set_cons_zero, List.set_cons_succ]))
  by_cases hcv : cv = cv2
  case neg =>
    have hbcv : (cv == cv2) = false := by simpa using hcv
    have HR := Lib.hid (hF.out (fun e => hcv (K.mk.inj e).2.2.2.2.2.1))
    rw [hbcv]
    clear x0 x1 x2 x3 x4 x5 x6 x7 x8 x9 x10 x11 x12 z0 z1 z2 z3 z4 z5 z6 z7 z8 z9 z10 z11 z12
    repeat (first | (refine Walk.off (by rfl) ?_; try simp only [Act.put, List.setIfInBounds_toArray, List.set_cons_zero, List.set_cons_succ]) | (refine Walk.on (by rfl) (fun K hK => ?_); go_simp; refine hK.out _ _ ?_; clear hK K; try simp only [Act.put, List.setIfInBounds_toArray, List.set_cons_zero, List.set_cons_succ]))
    refine wpList_nil ?_
    go_wp2_with fail
    go_ret
    exact ⟨by rw [HR.out]; rfl, HB.out⟩
  subst hcv
  rw [show (cv == cv) = true by simp]
  repeat (first | (refine Walk.off (by rfl) ?_; try simp only [Act.put, List.setIfInBounds_toArray, List.set_cons_zero, List.set_cons_succ]) | (refine Walk.on (by rfl) (fun K hK => ?_); go_simp; refine hK.out _ _ ?_; clear hK K; try simp only [Act.put, List.setIfInBounds_toArray, List.set_cons_zero, List.set_cons_succ]))
  by_cases hq : q = q2
  case neg =>
    have hbq : (q == q2) = false := by simpa using hq
    have HR := Lib.hid (hF.out (fun e => hq (K.mk.inj e).2.2.2.2.2.2.1))
    rw [hbq]
    clear x0 x1 x2 x3 x4 x5 x6 x7 x8 x9 x10 x11 x12 z0 z1 z2 z3 z4 z5 z6 z7 z8 z9 z10 z11 z12
    repeat (first | (refine Walk.off (by rfl) ?_; try simp only [Act.put, List.setIfInBounds_toArray, List.set_cons_zero, List.set_cons_succ]) | (refine Walk.on (by rfl) (fun K hK => ?_); go_simp; refine hK.out _ _ ?_; clear hK K; try simp only [Act.put, List.setIfInBounds_toArray, List.set_cons_zero, List.set_cons_succ]))
    refine wpList_nil ?_
    go_wp2_with fail
    go_ret
    exact ⟨by rw [HR.out]; rfl, HB.out⟩
  subst hq
  rw [show (q == q) = true by simp]
  repeat (first | (refine Walk.off (by rfl) ?_; try simp only [Act.put, List.setIfInBounds_toArray, List.set_cons_zero, List.set_cons_succ]) | (refine Walk.on (by rfl) (fun K hK => ?_); go_simp; refine hK.out _ _ ?_; clear hK K; try simp only [Act.put, List.setIfInBounds_toArray, List.set_cons_zero, List.set_cons_succ]))
  by_cases hak : ak = ak2
  case neg =>
    have hbak : (ak == ak2) = false := by simpa using hak
    have HR := Lib.hid (hF.out (fun e => hak (K.mk.inj e).2.2.2.2.2.2.2.1))
    rw [hbak]
    clear x0 x1 x2 x3 x4 x5 x6 x7 x8 x9 x10 x11 x12 z0 z1 z2 z3 z4 z5 z6 z7 z8 z9 z10 z11 z12
    repeat (first | (refine Walk.off (by rfl) ?_; try simp only [Act.put, List.setIfInBounds_toArray, List.set_cons_zero, List.set_cons_succ]) | (refine Walk.on (by rfl) (fun K hK => ?_); go_simp; refine hK.out _ _ ?_; clear hK K; try simp only [Act.put, List.setIfInBounds_toArray, List.set_cons_zero, List.set_cons_succ]))
    refine wpList_nil ?_
    go_wp2_with fail
    go_ret
    exact ⟨by rw [HR.out]; rfl, HB.out⟩
  subst hak
  rw [show (ak == ak) = true by simp]
  repeat (first | (refine Walk.off (by rfl) ?_; try simp only [Act.put, List.setIfInBounds_toArray, List.set_cons_zero, List.set_cons_succ]) | (refine Walk.on (by rfl) (fun K hK => ?_); go_simp; refine hK.out _ _ ?_; clear hK K; try simp only [Act.put, List.setIfInBounds_toArray, List.set_cons_zero, List.set_cons_succ]))
  by_cases hsv : sv = sv2
  case neg =>
    have hbsv : (sv == sv2) = false := by simpa using hsv
    have HR := Lib.hid (hF.out (fun e => hsv (K.mk.inj e).2.2.2.2.2.2.2.2.1))
    rw [hbsv]
    clear x0 x1 x2 x3 x4 x5 x6 x7 x8 x9 x10 x11 x12 z0 z1 z2 z3 z4 z5 z6 z7 z8 z9 z10 z11 z12
    repeat (first | (refine Walk.off (by rfl) ?_; try simp only [Act.put, List.setIfInBounds_toArray, List.set_cons_zero, List.set_cons_succ]) | (refine Walk.on (by rfl) (fun K hK => ?_); go_simp; refine hK.out _ _ ?_; clear hK K; try simp only [Act.put, List.setIfInBounds_toArray, List.set_cons_zero, List.set_cons_succ]))
    refine wpList_nil ?_
    go_wp2_with fail
    go_ret
    exact ⟨by rw [HR.out]; rfl, HB.out⟩
  subst hsv
  rw [show (sv == sv) = true by simp]
  repeat (first | (refine Walk.off (by rfl) ?_; try simp only [Act.put, List.setIfInBounds_toArray, List.set_cons_zero, List.set_cons_succ]) | (refine Walk.on (by rfl) (fun K hK => ?_); go_simp; refine hK.out _ _ ?_; clear hK K; try simp only [Act.put, List.setIfInBounds_toArray, List.set_cons_zero, List.set_cons_succ]))
  by_cases hco : co = co2
  case neg =>
    have hbco : (co == co2) = false := by simpa using hco
    have HR := Lib.hid (hF.out (fun e => hco (K.mk.inj e).2.2.2.2.2.2.2.2.2.1))
    rw [hbco]
    clear x0 x1 x2 x3 x4 x5 x6 x7 x8 x9 x10 x11 x12 z0 z1 z2 z3 z4 z5 z6 z7 z8 z9 z10 z11 z12
    repeat (first | (refine Walk.off (by rfl) ?_; try simp only [Act.put, List.setIfInBounds_toArray, List.set_cons_zero, List.set_cons_succ]) | (refine Walk.on (by rfl) (fun K hK => ?_); go_simp; refine hK.out _ _ ?_; clear hK K; try simp only [Act.put, List.setIfInBounds_toArray, List.set_cons_zero, List.set_cons_succ]))
    refine wpList_nil ?_
    go_wp2_with fail
    go_ret
    exact ⟨by rw [HR.out]; rfl, HB.out⟩
  subst hco
  rw [show (co == co) = true by simp]
  repeat (first | (refine Walk.off (by rfl) ?_; try simp only [Act.put, List.setIfInBounds_toArray, List.set_cons_zero, List.set_cons_succ]) | (refine Walk.on (by rfl) (fun K hK => ?_); go_simp; refine hK.out _ _ ?_; clear hK K; try simp only [Act.put, List.setIfInBounds_toArray, List.set_cons_zero, List.set_cons_succ]))
  by_cases hde : de = de2
  case neg =>
    have hbde : (de == de2) = false := by simpa using hde
    have HR := Lib.hid (hF.out (fun e => hde (K.mk.inj e).2.2.2.2.2.2.2.2.2.2.1))
    rw [hbde]
    clear x0 x1 x2 x3 x4 x5 x6 x7 x8 x9 x10 x11 x12 z0 z1 z2 z3 z4 z5 z6 z7 z8 z9 z10 z11 z12
    repeat (first | (refine Walk.off (by rfl) ?_; try simp only [Act.put, List.setIfInBounds_toArray, List.set_cons_zero, List.set_cons_succ]) | (refine Walk.on (by rfl) (fun K hK => ?_); go_simp; refine hK.out _ _ ?_; clear hK K; try simp only [Act.put, List.setIfInBounds_toArray, List.set_cons_zero, List.set_cons_succ]))
    refine wpList_nil ?_
    go_wp2_with fail
    go_ret
    exact ⟨by rw [HR.out]; rfl, HB.out⟩
  subst hde
  rw [show (de == de) = true by simp]
  repeat (first | (refine Walk.off (by rfl) ?_; try simp only [Act.put, List.setIfInBounds_toArray, List.set_cons_zero, List.set_cons_succ]) | (refine Walk.on (by rfl) (fun K hK => ?_); go_simp; refine hK.out _ _ ?_; clear hK K; try simp only [Act.put, List.setIfInBounds_toArray, List.set_cons_zero, List.set_cons_succ]))
  refine Walk.on (by rfl) (fun K hK => ?_)
  go_simp
  refine (CE.out _ HB.out).mono ?_
  rintro e w1 ⟨⟨r, rfl, hr⟩, h1⟩
  have y12 := (BX.below h1 BX.lt).all.2.2.2.2.2.2.2.2.2.2.2.2
  have v12 := (BZ.below h1 BZ.lt).all.2.2.2.2.2.2.2.2.2.2.2.2
  clear x0 x1 x2 x3 x4 x5 x6 x7 x8 x9 x10 x11 x12 z0 z1 z2 z3 z4 z5 z6 z7 z8 z9 z10 z11 z12
  refine hK.out _ _ ?_
  clear hK K
  try simp only [Act.put, List.setIfInBounds_toArray, List.set_cons_zero, List.set_cons_succ]
  cases r
  case false =>
    have ho : ¬ os = os2 := fun e => by have := hr.2 e; cases this
    have HR := Lib.hid (hF.out (fun e => ho (K.mk.inj e).2.2.2.2.2.2.2.2.2.2.2.1))
    repeat (first | (refine Walk.off (by rfl) ?_; try simp only [Act.put, List.setIfInBounds_toArray, List.set_cons_zero, List.set_cons_succ]) | (refine Walk.on (by rfl) (fun K hK => ?_); go_simp; refine hK.out _ _ ?_; clear hK K; try simp only [Act.put, List.setIfInBounds_toArray, List.set_cons_zero, List.set_cons_succ]))
    refine wpList_nil ?_
    go_wp2_with fail
    go_ret
    exact ⟨by rw [HR.out]; rfl, HB.out.trans (h1.mono HB.out.size)⟩
  have ho : os = os2 := hr.1 rfl
  repeat (first | (refine Walk.off (by rfl) ?_; try simp only [Act.put, List.setIfInBounds_toArray, List.set_cons_zero, List.set_cons_succ]) | (refine Walk.on (by rfl) (fun K hK => ?_); go_simp; refine hK.out _ _ ?_; clear hK K; try simp only [Act.put, List.setIfInBounds_toArray, List.set_cons_zero, List.set_cons_succ]))
  by_cases hd : da = da2
  case neg =>
    have HR := Lib.hid (hF.out (fun e => hd (K.mk.inj e).2.2.2.2.2.2.2.2.2.2.2.2))
    have hbd := bytes_ne hd
    clear y12 v12
    go_wp2_with fail
    go_ret
    exact ⟨by rw [HR.out, ← hbd]; rfl, HB.out.trans (h1.mono HB.out.size)⟩
  have HR := Lib.hid (hT.out (by rw [ho, hd]))
  have hbd : (da.toList == da2.toList) = true := by rw [hd]; simp
  go_wp2_with fail
  go_ret
  exact ⟨by rw [HR.out, ← hbd]; rfl, HB.out.trans (h1.mono HB.out.size)⟩
end Go.Proofs.Ytkjojfcknfhkhaa.Pkt
