/- The law PacketAlike: the walk. -/
import Derived.Test.YtkjojfcknfhkhaaMPktW
namespace Go.Proofs.Ytkjojfcknfhkhaa.Pkt
open Go.ChangeShapes Go.WideShapes Go.ChangeAt Go.RowKit
open Go.Proofs.Ytkjojfcknfhkhaa.Opt (O OptsAt Fit)
set_option linter.unusedVariables false

theorem same_self (p : K) : same p p = true := same_true rfl
theorem same_back (p q : K) : same p q = same q p := by
  by_cases h : p = q
  · rw [h]
  · rw [same_false h, same_false (fun e => h e.symm)]
theorem same_is {p q : K} (h : same p q = true) : p = q := by
  by_cases e : p = q
  · exact e
  · rw [same_false e] at h; cases h

set_option maxRecDepth 100000 in
set_option maxHeartbeats 8000000 in
theorem PacketAlike_walk (v0 v1 v2 : Value) (W : World) (w0 : IsK W v0) (w1 : IsK W v1) (w2 : IsK W v2) :
    Calls Try.prog 5 #[v0, v1, v2] W fun e w' => e = .returned (.bool true) ∧ Below W.heap.size W w' := by
  obtain ⟨P, a, cap, rfl, hP, hPl, hPm, hPd⟩ := w0
  obtain ⟨Q, b, cap2, rfl, hQ, hQl, hQm, hQd⟩ := w1
  obtain ⟨R, c, cap3, rfl, hR, hRl, hRm, hRd⟩ := w2
  obtain ⟨V, hV⟩ : ∃ V, ((W.alloc (.cells #[.int .i64 P.kind, .bool P.long, .int .i64 P.src, .int .i64 P.dst, .int .i64 P.cc, .int .i64 P.cover, .int .i64 P.seq, .int .i64 P.ack, .int .i64 P.service, .int .i64 P.code, .int .i64 P.detail, .slice a P.opts.length cap, .string P.data] 24)).alloc (.cells #[.int .i64 Q.kind, .bool Q.long, .int .i64 Q.src, .int .i64 Q.dst, .int .i64 Q.cc, .int .i64 Q.cover, .int .i64 Q.seq, .int .i64 Q.ack, .int .i64 Q.service, .int .i64 Q.code, .int .i64 Q.detail, .slice b Q.opts.length cap2, .string Q.data] 24)).alloc (.cells #[.int .i64 R.kind, .bool R.long, .int .i64 R.src, .int .i64 R.dst, .int .i64 R.cc, .int .i64 R.cover, .int .i64 R.seq, .int .i64 R.ack, .int .i64 R.service, .int .i64 R.code, .int .i64 R.detail, .slice c R.opts.length cap3, .string R.data] 24) = V := ⟨_, rfl⟩
  have hb : Below W.heap.size W V := by rw [← hV]; exact (((Below.refl W.heap.size W).alloc (Nat.le_refl _) _).alloc (by simp) _).alloc (by simp; omega) _
  have BA : BoxK V W.heap.size P a cap := by
    rw [← hV]; exact (Below.heap_alloc _ _ _ (by simp; omega)).trans ((Below.heap_alloc _ _ _ (by simp)).trans (heap_alloc_new W _))
  have BB : BoxK V (W.heap.size + 1) Q b cap2 := by
    rw [← hV]
    have := heap_alloc_new (W.alloc (.cells #[.int .i64 P.kind, .bool P.long, .int .i64 P.src, .int .i64 P.dst, .int .i64 P.cc, .int .i64 P.cover, .int .i64 P.seq, .int .i64 P.ack, .int .i64 P.service, .int .i64 P.code, .int .i64 P.detail, .slice a P.opts.length cap, .string P.data] 24)) (.cells #[.int .i64 Q.kind, .bool Q.long, .int .i64 Q.src, .int .i64 Q.dst, .int .i64 Q.cc, .int .i64 Q.cover, .int .i64 Q.seq, .int .i64 Q.ack, .int .i64 Q.service, .int .i64 Q.code, .int .i64 Q.detail, .slice b Q.opts.length cap2, .string Q.data] 24)
    rw [show (W.alloc (.cells #[.int .i64 P.kind, .bool P.long, .int .i64 P.src, .int .i64 P.dst, .int .i64 P.cc, .int .i64 P.cover, .int .i64 P.seq, .int .i64 P.ack, .int .i64 P.service, .int .i64 P.code, .int .i64 P.detail, .slice a P.opts.length cap, .string P.data] 24)).heap.size = W.heap.size + 1 by simp] at this
    exact (Below.heap_alloc _ _ _ (by simp)).trans this
  have BC : BoxK V (W.heap.size + 2) R c cap3 := by
    rw [← hV]
    have := heap_alloc_new ((W.alloc (.cells #[.int .i64 P.kind, .bool P.long, .int .i64 P.src, .int .i64 P.dst, .int .i64 P.cc, .int .i64 P.cover, .int .i64 P.seq, .int .i64 P.ack, .int .i64 P.service, .int .i64 P.code, .int .i64 P.detail, .slice a P.opts.length cap, .string P.data] 24)).alloc (.cells #[.int .i64 Q.kind, .bool Q.long, .int .i64 Q.src, .int .i64 Q.dst, .int .i64 Q.cc, .int .i64 Q.cover, .int .i64 Q.seq, .int .i64 Q.ack, .int .i64 Q.service, .int .i64 Q.code, .int .i64 Q.detail, .slice b Q.opts.length cap2, .string Q.data] 24)) (.cells #[.int .i64 R.kind, .bool R.long, .int .i64 R.src, .int .i64 R.dst, .int .i64 R.cc, .int .i64 R.cover, .int .i64 R.seq, .int .i64 R.ack, .int .i64 R.service, .int .i64 R.code, .int .i64 R.detail, .slice c R.opts.length cap3, .string R.data] 24)
    rwa [show ((W.alloc (.cells #[.int .i64 P.kind, .bool P.long, .int .i64 P.src, .int .i64 P.dst, .int .i64 P.cc, .int .i64 P.cover, .int .i64 P.seq, .int .i64 P.ack, .int .i64 P.service, .int .i64 P.code, .int .i64 P.detail, .slice a P.opts.length cap, .string P.data] 24)).alloc (.cells #[.int .i64 Q.kind, .bool Q.long, .int .i64 Q.src, .int .i64 Q.dst, .int .i64 Q.cc, .int .i64 Q.cover, .int .i64 Q.seq, .int .i64 Q.ack, .int .i64 Q.service, .int .i64 Q.code, .int .i64 Q.detail, .slice b Q.opts.length cap2, .string Q.data] 24)).heap.size = W.heap.size + 2 by simp] at this
  have HB := Lib.hid hb
  have KP := Lib.hid (show ∀ V', Below V.heap.size V V' → (V'.heap[W.heap.size]? = some (.cells #[.int .i64 P.kind, .bool P.long, .int .i64 P.src, .int .i64 P.dst, .int .i64 P.cc, .int .i64 P.cover, .int .i64 P.seq, .int .i64 P.ack, .int .i64 P.service, .int .i64 P.code, .int .i64 P.detail, .slice a P.opts.length cap, .string P.data] 24 (0, 0)) ∧ V'.heap[W.heap.size + 1]? = some (.cells #[.int .i64 Q.kind, .bool Q.long, .int .i64 Q.src, .int .i64 Q.dst, .int .i64 Q.cc, .int .i64 Q.cover, .int .i64 Q.seq, .int .i64 Q.ack, .int .i64 Q.service, .int .i64 Q.code, .int .i64 Q.detail, .slice b Q.opts.length cap2, .string Q.data] 24 (0, 0)) ∧ V'.heap[W.heap.size + 2]? = some (.cells #[.int .i64 R.kind, .bool R.long, .int .i64 R.src, .int .i64 R.dst, .int .i64 R.cc, .int .i64 R.cover, .int .i64 R.seq, .int .i64 R.ack, .int .i64 R.service, .int .i64 R.code, .int .i64 R.detail, .slice c R.opts.length cap3, .string R.data] 24 (0, 0))) ∧ OptsAt V' a P.opts ∧ OptsAt V' b Q.opts ∧ OptsAt V' c R.opts from fun V' h' => ⟨⟨BA.below h' BA.lt, BB.below h' BB.lt, BC.below h' BC.lt⟩, hP.below (HB.out.trans (h'.mono HB.out.size)), hQ.below (HB.out.trans (h'.mono HB.out.size)), hR.below (HB.out.trans (h'.mono HB.out.size))⟩)
  have CGP := Lib.hid (fun w h => Great10_any P a cap w h hPl hPm hPd)
  have CGQ := Lib.hid (fun w h => Great10_any Q b cap2 w h hQl hQm hQd)
  have CGR := Lib.hid (fun w h => Great10_any R c cap3 w h hRl hRm hRd)
  clear hP hQ hR hPl hPm hPd hQl hQm hQd hRl hRm hRd hb BA BB BC
  go_enter Try.func5, Try.ntmps5
  go_wp2_with fail
  refine (works_any _).mono ?_
  rintro e w1 ⟨rfl, h1⟩
  have H1 := Lib.hid h1
  obtain ⟨⟨A1, B1, P1⟩, OA1, OB1⟩ := KP.out _ H1.out
  clear h1
  go_wp2_with (refine wpList_load_row rfl 24 _ rfl W.heap.size rfl 24 _ _ _ A1 Try.underlying24 rfl (hi13 _ _ _ _ _ _ _ _ _ _ _ _ _) ?_)
  refine (CGP.out _ OA1).mono ?_
  rintro e w2 ⟨⟨g, rfl, hg⟩, h2⟩
  have H2 := Lib.hid (H1.out.trans (h2.mono H1.out.size))
  clear h2 A1 B1 P1 OA1 OB1
  cases g
  case true =>
    go_wp2_with fail
    go_returns
    exact ⟨rfl, HB.out.trans (H2.out.mono HB.out.size)⟩
  obtain ⟨fP, dP⟩ := hg rfl
  obtain ⟨⟨A2, B2, P2⟩, OA2, OB2, OC2⟩ := KP.out _ H2.out
  have hBB : BoxK w2 (W.heap.size + 1) Q b cap2 := B2
  obtain ⟨y0, y1, y2, y3, y4, y5, y6, y7, y8, y9, y10, y11, y12⟩ := hBB.cell
  clear hBB
  go_wp2_with fail
  refine (CGQ.out _ OB2).mono ?_
  rintro e w3 ⟨⟨g, rfl, hg⟩, h3⟩
  have H3 := Lib.hid (H2.out.trans (h3.mono H2.out.size))
  clear h3 A2 B2 P2 OA2 OB2 OC2 y0 y1 y2 y3 y4 y5 y6 y7 y8 y9 y10 y11 y12
  cases g
  case true =>
    go_wp2_with fail
    go_returns
    exact ⟨rfl, HB.out.trans (H3.out.mono HB.out.size)⟩
  obtain ⟨fQ, dQ⟩ := hg rfl
  obtain ⟨⟨A3, B3, P3⟩, OA3, OB3, OC3⟩ := KP.out _ H3.out
  have hBB : BoxK w3 (W.heap.size + 2) R c cap3 := P3
  obtain ⟨y0, y1, y2, y3, y4, y5, y6, y7, y8, y9, y10, y11, y12⟩ := hBB.cell
  clear hBB
  go_wp2_with fail
  refine (CGR.out _ OC3).mono ?_
  rintro e w4 ⟨⟨g, rfl, hg⟩, h4⟩
  have H4 := Lib.hid (H3.out.trans (h4.mono H3.out.size))
  clear h4 A3 B3 P3 OA3 OB3 OC3 y0 y1 y2 y3 y4 y5 y6 y7 y8 y9 y10 y11 y12
  cases g
  case true =>
    go_wp2_with fail
    go_returns
    exact ⟨rfl, HB.out.trans (H4.out.mono HB.out.size)⟩
  obtain ⟨fR, dR⟩ := hg rfl
  have CPP := Lib.hid (fun w h h2 => Same_any P P fP.1 fP.1 a a cap cap w h h2)
  have CPQ := Lib.hid (fun w h h2 => Same_any P Q fP.1 fQ.1 a b cap cap2 w h h2)
  have CQP := Lib.hid (fun w h h2 => Same_any Q P fQ.1 fP.1 b a cap2 cap w h h2)
  have CPR := Lib.hid (fun w h h2 => Same_any P R fP.1 fR.1 a c cap cap3 w h h2)
  have CQR := Lib.hid (fun w h h2 => Same_any Q R fQ.1 fR.1 b c cap2 cap3 w h h2)
  have CCP := Lib.hid (fun w h => PCheck_any P fP (by omega) a cap w h)
  have CCQ := Lib.hid (fun w h => PCheck_any Q fQ (by omega) b cap2 w h)
  have hsi := Lib.hid (@same_is P Q)
  rw [same_self] at CPP
  rw [← same_back P Q] at CQP
  clear fP fQ fR dP dQ dR hg CGP CGQ CGR
  have v4 := (KP.out _ H4.out).1
  generalize same P Q = sb at *
  have hbb : (sb != sb) = false := by simp
  go_wp2_with fail
  refine Step.start (S := (fun w' => w'.heap[W.heap.size]? = some (.cells #[.int .i64 P.kind, .bool P.long, .int .i64 P.src, .int .i64 P.dst, .int .i64 P.cc, .int .i64 P.cover, .int .i64 P.seq, .int .i64 P.ack, .int .i64 P.service, .int .i64 P.code, .int .i64 P.detail, .slice a P.opts.length cap, .string P.data] 24 (0, 0)) ∧ w'.heap[W.heap.size + 1]? = some (.cells #[.int .i64 Q.kind, .bool Q.long, .int .i64 Q.src, .int .i64 Q.dst, .int .i64 Q.cc, .int .i64 Q.cover, .int .i64 Q.seq, .int .i64 Q.ack, .int .i64 Q.service, .int .i64 Q.code, .int .i64 Q.detail, .slice b Q.opts.length cap2, .string Q.data] 24 (0, 0)) ∧ w'.heap[W.heap.size + 2]? = some (.cells #[.int .i64 R.kind, .bool R.long, .int .i64 R.src, .int .i64 R.dst, .int .i64 R.cc, .int .i64 R.cover, .int .i64 R.seq, .int .i64 R.ack, .int .i64 R.service, .int .i64 R.code, .int .i64 R.detail, .slice c R.opts.length cap3, .string R.data] 24 (0, 0)))) (by kernel_rfl) (by (try dsimp only); first | exact v4 | exact v6 | exact v7 | exact v8) (fun hHeld => ?_)
  refine Step.load (i := 0) rfl (by kernel_rfl) (by kernel_rfl) (by kernel_rfl) W.heap.size #[.int .i64 P.kind, .bool P.long, .int .i64 P.src, .int .i64 P.dst, .int .i64 P.cc, .int .i64 P.cover, .int .i64 P.seq, .int .i64 P.ack, .int .i64 P.service, .int .i64 P.code, .int .i64 P.detail, .slice a P.opts.length cap, .string P.data] 24 (0, 0) _ (fun w hSw => hSw.1) Try.underlying24 rfl (hi13 _ _ _ _ _ _ _ _ _ _ _ _ _) (fun _ _ _ h => h) (by rfl) rfl (by assumption) ?_
  try simp only [Act.put, List.setIfInBounds_toArray, List.set_cons_zero, List.set_cons_succ]
  refine Step.load (i := 1) rfl (by kernel_rfl) (by kernel_rfl) (by kernel_rfl) W.heap.size #[.int .i64 P.kind, .bool P.long, .int .i64 P.src, .int .i64 P.dst, .int .i64 P.cc, .int .i64 P.cover, .int .i64 P.seq, .int .i64 P.ack, .int .i64 P.service, .int .i64 P.code, .int .i64 P.detail, .slice a P.opts.length cap, .string P.data] 24 (0, 0) _ (fun w hSw => hSw.1) Try.underlying24 rfl (hi13 _ _ _ _ _ _ _ _ _ _ _ _ _) (fun _ _ _ h => h) (by rfl) rfl (by assumption) ?_
  try simp only [Act.put, List.setIfInBounds_toArray, List.set_cons_zero, List.set_cons_succ]
  refine Step.call (i := 2) rfl (by kernel_rfl) (by rfl) (fun K hK => ?_)
  go_simp
  (go_at_call 12; refine (CPP.out _ (by exact (KP.out _ (H4.out.trans ((at_drewm (Below.refl _ _)).mono H4.out.size))).2.1) (by exact (KP.out _ (H4.out.trans ((at_drewm (Below.refl _ _)).mono H4.out.size))).2.1)).mono ?_; rintro e w6 ⟨rfl, h6⟩; have H6 := Lib.hid (H4.out.trans ((at_drewm h6).mono H4.out.size)); have v6 := (KP.out _ H6.out).1; clear h6)
  try (go_wp2_with fail)
  refine hK.out _ _ (by (try dsimp only); first | exact v4 | exact v6 | exact v7 | exact v8) (fun hHeld => ?_)
  clear hK K
  try simp only [Act.put, List.setIfInBounds_toArray, List.set_cons_zero, List.set_cons_succ]
  refine Step.take (i := 3) rfl (by kernel_rfl) (by kernel_rfl) (by kernel_rfl) (fun _ _ _ h => h) (by rfl) (by (intro w hSw; (try dsimp only at hSw); go_simp; try (with_reducible rfl))) (by assumption) ?_
  try simp only [Act.put, List.setIfInBounds_toArray, List.set_cons_zero, List.set_cons_succ]
  refine Step.take (i := 4) rfl (by kernel_rfl) (by kernel_rfl) (by kernel_rfl) (fun _ _ _ h => h) (by rfl) (by (intro w hSw; (try dsimp only at hSw); go_simp; try (with_reducible rfl))) (by assumption) ?_
  try simp only [Act.put, List.setIfInBounds_toArray, List.set_cons_zero, List.set_cons_succ]
  refine Step.load (i := 5) rfl (by kernel_rfl) (by kernel_rfl) (by kernel_rfl) W.heap.size #[.int .i64 P.kind, .bool P.long, .int .i64 P.src, .int .i64 P.dst, .int .i64 P.cc, .int .i64 P.cover, .int .i64 P.seq, .int .i64 P.ack, .int .i64 P.service, .int .i64 P.code, .int .i64 P.detail, .slice a P.opts.length cap, .string P.data] 24 (0, 0) _ (fun w hSw => hSw.1) Try.underlying24 rfl (hi13 _ _ _ _ _ _ _ _ _ _ _ _ _) (fun _ _ _ h => h) (by rfl) rfl (by assumption) ?_
  try simp only [Act.put, List.setIfInBounds_toArray, List.set_cons_zero, List.set_cons_succ]
  refine Step.load (i := 6) rfl (by kernel_rfl) (by kernel_rfl) (by kernel_rfl) (W.heap.size + 1) #[.int .i64 Q.kind, .bool Q.long, .int .i64 Q.src, .int .i64 Q.dst, .int .i64 Q.cc, .int .i64 Q.cover, .int .i64 Q.seq, .int .i64 Q.ack, .int .i64 Q.service, .int .i64 Q.code, .int .i64 Q.detail, .slice b Q.opts.length cap2, .string Q.data] 24 (0, 0) _ (fun w hSw => hSw.2.1) Try.underlying24 rfl (hi13 _ _ _ _ _ _ _ _ _ _ _ _ _) (fun _ _ _ h => h) (by rfl) rfl (by assumption) ?_
  try simp only [Act.put, List.setIfInBounds_toArray, List.set_cons_zero, List.set_cons_succ]
  refine Step.load (i := 8) rfl (by kernel_rfl) (by kernel_rfl) (by kernel_rfl) (W.heap.size + 1) #[.int .i64 Q.kind, .bool Q.long, .int .i64 Q.src, .int .i64 Q.dst, .int .i64 Q.cc, .int .i64 Q.cover, .int .i64 Q.seq, .int .i64 Q.ack, .int .i64 Q.service, .int .i64 Q.code, .int .i64 Q.detail, .slice b Q.opts.length cap2, .string Q.data] 24 (0, 0) _ (fun w hSw => hSw.2.1) Try.underlying24 rfl (hi13 _ _ _ _ _ _ _ _ _ _ _ _ _) (fun _ _ _ h => h) (by rfl) rfl (by assumption) ?_
  try simp only [Act.put, List.setIfInBounds_toArray, List.set_cons_zero, List.set_cons_succ]
  refine Step.load (i := 9) rfl (by kernel_rfl) (by kernel_rfl) (by kernel_rfl) W.heap.size #[.int .i64 P.kind, .bool P.long, .int .i64 P.src, .int .i64 P.dst, .int .i64 P.cc, .int .i64 P.cover, .int .i64 P.seq, .int .i64 P.ack, .int .i64 P.service, .int .i64 P.code, .int .i64 P.detail, .slice a P.opts.length cap, .string P.data] 24 (0, 0) _ (fun w hSw => hSw.1) Try.underlying24 rfl (hi13 _ _ _ _ _ _ _ _ _ _ _ _ _) (fun _ _ _ h => h) (by rfl) rfl (by assumption) ?_
  try simp only [Act.put, List.setIfInBounds_toArray, List.set_cons_zero, List.set_cons_succ]
  refine Step.call (i := 7) rfl (by kernel_rfl) (by rfl) (fun K hK => ?_)
  go_simp
  (go_at_call 12; refine (CPQ.out _ (by exact (KP.out _ H6.out).2.1) (by exact (KP.out _ H6.out).2.2.1)).mono ?_; rintro e w7 ⟨rfl, h7⟩; have H7 := Lib.hid (H6.out.trans (h7.mono H6.out.size)); have v7 := (KP.out _ H7.out).1; clear h7)
  try (go_wp2_with fail)
  refine hK.out _ _ (by (try dsimp only); first | exact v4 | exact v6 | exact v7 | exact v8) (fun hHeld => ?_)
  clear hK K
  try simp only [Act.put, List.setIfInBounds_toArray, List.set_cons_zero, List.set_cons_succ]
  refine Step.call (i := 10) rfl (by kernel_rfl) (by rfl) (fun K hK => ?_)
  go_simp
  (go_at_call 12; refine (CQP.out _ (by exact (KP.out _ H7.out).2.2.1) (by exact (KP.out _ H7.out).2.1)).mono ?_; rintro e w8 ⟨rfl, h8⟩; have H8 := Lib.hid (H7.out.trans (h8.mono H7.out.size)); have v8 := (KP.out _ H8.out).1; clear h8)
  try (go_wp2_with fail)
  refine hK.out _ _ (by (try dsimp only); first | exact v4 | exact v6 | exact v7 | exact v8) (fun hHeld => ?_)
  clear hK K
  try simp only [Act.put, List.setIfInBounds_toArray, List.set_cons_zero, List.set_cons_succ]
  refine Step.take (i := 11) rfl (by kernel_rfl) (by kernel_rfl) (by kernel_rfl) (fun _ _ _ h => h) (by rfl) (by (intro w hSw; (try dsimp only at hSw); go_simp; try (with_reducible rfl))) (by assumption) ?_
  try simp only [Act.put, List.setIfInBounds_toArray, List.set_cons_zero, List.set_cons_succ]
  refine Step.take (i := 12) rfl (by kernel_rfl) (by kernel_rfl) (by kernel_rfl) (fun _ _ _ h => h) (by rfl) (by (intro w hSw; (try dsimp only at hSw); go_simp; try (with_reducible rfl))) (by assumption) ?_
  try simp only [Act.put, List.setIfInBounds_toArray, List.set_cons_zero, List.set_cons_succ]
  refine wpAnyH_done (by kernel_rfl) ?_ _
  have v8 := (KP.out _ H8.out).1
  cases sb
  case false =>
    go_wp2_with fail
    refine Step.start (S := (fun w' => w'.heap[W.heap.size]? = some (.cells #[.int .i64 P.kind, .bool P.long, .int .i64 P.src, .int .i64 P.dst, .int .i64 P.cc, .int .i64 P.cover, .int .i64 P.seq, .int .i64 P.ack, .int .i64 P.service, .int .i64 P.code, .int .i64 P.detail, .slice a P.opts.length cap, .string P.data] 24 (0, 0)) ∧ w'.heap[W.heap.size + 1]? = some (.cells #[.int .i64 Q.kind, .bool Q.long, .int .i64 Q.src, .int .i64 Q.dst, .int .i64 Q.cc, .int .i64 Q.cover, .int .i64 Q.seq, .int .i64 Q.ack, .int .i64 Q.service, .int .i64 Q.code, .int .i64 Q.detail, .slice b Q.opts.length cap2, .string Q.data] 24 (0, 0)) ∧ w'.heap[W.heap.size + 2]? = some (.cells #[.int .i64 R.kind, .bool R.long, .int .i64 R.src, .int .i64 R.dst, .int .i64 R.cc, .int .i64 R.cover, .int .i64 R.seq, .int .i64 R.ack, .int .i64 R.service, .int .i64 R.code, .int .i64 R.detail, .slice c R.opts.length cap3, .string R.data] 24 (0, 0)))) (by kernel_rfl) (by (try dsimp only); first | exact v8 | exact v9) (fun hHeld => ?_)
    refine Step.load (i := 0) rfl (by kernel_rfl) (by kernel_rfl) (by kernel_rfl) W.heap.size #[.int .i64 P.kind, .bool P.long, .int .i64 P.src, .int .i64 P.dst, .int .i64 P.cc, .int .i64 P.cover, .int .i64 P.seq, .int .i64 P.ack, .int .i64 P.service, .int .i64 P.code, .int .i64 P.detail, .slice a P.opts.length cap, .string P.data] 24 (0, 0) _ (fun w hSw => hSw.1) Try.underlying24 rfl (hi13 _ _ _ _ _ _ _ _ _ _ _ _ _) (fun _ _ _ h => h) (by rfl) rfl (by assumption) ?_
    try simp only [Act.put, List.setIfInBounds_toArray, List.set_cons_zero, List.set_cons_succ]
    refine Step.load (i := 1) rfl (by kernel_rfl) (by kernel_rfl) (by kernel_rfl) (W.heap.size + 1) #[.int .i64 Q.kind, .bool Q.long, .int .i64 Q.src, .int .i64 Q.dst, .int .i64 Q.cc, .int .i64 Q.cover, .int .i64 Q.seq, .int .i64 Q.ack, .int .i64 Q.service, .int .i64 Q.code, .int .i64 Q.detail, .slice b Q.opts.length cap2, .string Q.data] 24 (0, 0) _ (fun w hSw => hSw.2.1) Try.underlying24 rfl (hi13 _ _ _ _ _ _ _ _ _ _ _ _ _) (fun _ _ _ h => h) (by rfl) rfl (by assumption) ?_
    try simp only [Act.put, List.setIfInBounds_toArray, List.set_cons_zero, List.set_cons_succ]
    refine Step.call (i := 2) rfl (by kernel_rfl) (by rfl) (fun K hK => ?_)
    go_simp
    (go_at_call 12; refine (CPQ.out _ (by exact (KP.out _ (H8.out.trans ((at_drewm (Below.refl _ _)).mono H8.out.size))).2.1) (by exact (KP.out _ (H8.out.trans ((at_drewm (Below.refl _ _)).mono H8.out.size))).2.2.1)).mono ?_; rintro e w9 ⟨rfl, h9⟩; have H9 := Lib.hid (H8.out.trans ((at_drewm h9).mono H8.out.size)); have v9 := (KP.out _ H9.out).1; clear h9)
    try (go_wp2_with fail)
    refine hK.out _ _ (by (try dsimp only); first | exact v8 | exact v9) (fun hHeld => ?_)
    clear hK K
    try simp only [Act.put, List.setIfInBounds_toArray, List.set_cons_zero, List.set_cons_succ]
    refine Step.take (i := 3) rfl (by kernel_rfl) (by kernel_rfl) (by kernel_rfl) (fun _ _ _ h => h) (by rfl) (by (intro w hSw; (try dsimp only at hSw); go_simp; try (with_reducible rfl))) (by assumption) ?_
    try simp only [Act.put, List.setIfInBounds_toArray, List.set_cons_zero, List.set_cons_succ]
    refine Step.take (i := 4) rfl (by kernel_rfl) (by kernel_rfl) (by kernel_rfl) (fun _ _ _ h => h) (by rfl) (by (intro w hSw; (try dsimp only at hSw); go_simp; try (with_reducible rfl))) (by assumption) ?_
    try simp only [Act.put, List.setIfInBounds_toArray, List.set_cons_zero, List.set_cons_succ]
    refine Step.skip (i := 5) rfl (by kernel_rfl) (by kernel_rfl) (by kernel_rfl) (fun _ _ _ h => h) (by rfl) (by assumption) ?_
    try simp only [Act.put, List.setIfInBounds_toArray, List.set_cons_zero, List.set_cons_succ]
    refine Step.skip (i := 6) rfl (by kernel_rfl) (by kernel_rfl) (by kernel_rfl) (fun _ _ _ h => h) (by rfl) (by assumption) ?_
    try simp only [Act.put, List.setIfInBounds_toArray, List.set_cons_zero, List.set_cons_succ]
    refine Step.skip (i := 7) rfl (by kernel_rfl) (by kernel_rfl) (by kernel_rfl) (fun _ _ _ h => h) (by rfl) (by assumption) ?_
    try simp only [Act.put, List.setIfInBounds_toArray, List.set_cons_zero, List.set_cons_succ]
    refine Step.skip (i := 8) rfl (by kernel_rfl) (by kernel_rfl) (by kernel_rfl) (fun _ _ _ h => h) (by rfl) (by assumption) ?_
    try simp only [Act.put, List.setIfInBounds_toArray, List.set_cons_zero, List.set_cons_succ]
    refine Step.skip (i := 9) rfl (by kernel_rfl) (by kernel_rfl) (by kernel_rfl) (fun _ _ _ h => h) (by rfl) (by assumption) ?_
    try simp only [Act.put, List.setIfInBounds_toArray, List.set_cons_zero, List.set_cons_succ]
    refine Step.skip (i := 10) rfl (by kernel_rfl) (by kernel_rfl) (by kernel_rfl) (fun _ _ _ h => h) (by rfl) (by assumption) ?_
    try simp only [Act.put, List.setIfInBounds_toArray, List.set_cons_zero, List.set_cons_succ]
    refine Step.skip (i := 11) rfl (by kernel_rfl) (by kernel_rfl) (by kernel_rfl) (fun _ _ _ h => h) (by rfl) (by assumption) ?_
    try simp only [Act.put, List.setIfInBounds_toArray, List.set_cons_zero, List.set_cons_succ]
    refine Step.skip (i := 12) rfl (by kernel_rfl) (by kernel_rfl) (by kernel_rfl) (fun _ _ _ h => h) (by rfl) (by assumption) ?_
    try simp only [Act.put, List.setIfInBounds_toArray, List.set_cons_zero, List.set_cons_succ]
    refine Step.skip (i := 13) rfl (by kernel_rfl) (by kernel_rfl) (by kernel_rfl) (fun _ _ _ h => h) (by rfl) (by assumption) ?_
    try simp only [Act.put, List.setIfInBounds_toArray, List.set_cons_zero, List.set_cons_succ]
    refine Step.skip (i := 14) rfl (by kernel_rfl) (by kernel_rfl) (by kernel_rfl) (fun _ _ _ h => h) (by rfl) (by assumption) ?_
    try simp only [Act.put, List.setIfInBounds_toArray, List.set_cons_zero, List.set_cons_succ]
    refine Step.skip (i := 15) rfl (by kernel_rfl) (by kernel_rfl) (by kernel_rfl) (fun _ _ _ h => h) (by rfl) (by assumption) ?_
    try simp only [Act.put, List.setIfInBounds_toArray, List.set_cons_zero, List.set_cons_succ]
    refine Step.skip (i := 16) rfl (by kernel_rfl) (by kernel_rfl) (by kernel_rfl) (fun _ _ _ h => h) (by rfl) (by assumption) ?_
    try simp only [Act.put, List.setIfInBounds_toArray, List.set_cons_zero, List.set_cons_succ]
    refine Step.skip (i := 17) rfl (by kernel_rfl) (by kernel_rfl) (by kernel_rfl) (fun _ _ _ h => h) (by rfl) (by assumption) ?_
    try simp only [Act.put, List.setIfInBounds_toArray, List.set_cons_zero, List.set_cons_succ]
    refine Step.skip (i := 18) rfl (by kernel_rfl) (by kernel_rfl) (by kernel_rfl) (fun _ _ _ h => h) (by rfl) (by assumption) ?_
    try simp only [Act.put, List.setIfInBounds_toArray, List.set_cons_zero, List.set_cons_succ]
    refine Step.take (i := 19) rfl (by kernel_rfl) (by kernel_rfl) (by kernel_rfl) (fun _ _ _ h => h) (by rfl) (by (intro w hSw; (try dsimp only at hSw); go_simp; try (with_reducible rfl))) (by assumption) ?_
    try simp only [Act.put, List.setIfInBounds_toArray, List.set_cons_zero, List.set_cons_succ]
    refine Step.take (i := 20) rfl (by kernel_rfl) (by kernel_rfl) (by kernel_rfl) (fun _ _ _ h => h) (by rfl) (by (intro w hSw; (try dsimp only at hSw); go_simp; try (with_reducible rfl))) (by assumption) ?_
    try simp only [Act.put, List.setIfInBounds_toArray, List.set_cons_zero, List.set_cons_succ]
    refine wpAnyH_done (by kernel_rfl) ?_ _
    go_wp2_with fail
    go_returns
    exact ⟨rfl, HB.out.trans (H9.out.mono HB.out.size)⟩
  have hPQ := hsi.out rfl
  have hsr : same P R = same Q R := by rw [hPQ]
  have hck : check P = check Q := by rw [hPQ]
  rw [hsr] at CPR
  rw [hck] at CCP
  generalize same Q R = sr at *
  generalize check Q = ck at *
  clear hPQ hsr hck hsi
  have hss : (sr == sr) = true := by simp
  have hcc : (ck == ck) = true := by simp
  go_wp2_with fail
  refine Step.start (S := (fun w' => w'.heap[W.heap.size]? = some (.cells #[.int .i64 P.kind, .bool P.long, .int .i64 P.src, .int .i64 P.dst, .int .i64 P.cc, .int .i64 P.cover, .int .i64 P.seq, .int .i64 P.ack, .int .i64 P.service, .int .i64 P.code, .int .i64 P.detail, .slice a P.opts.length cap, .string P.data] 24 (0, 0)) ∧ w'.heap[W.heap.size + 1]? = some (.cells #[.int .i64 Q.kind, .bool Q.long, .int .i64 Q.src, .int .i64 Q.dst, .int .i64 Q.cc, .int .i64 Q.cover, .int .i64 Q.seq, .int .i64 Q.ack, .int .i64 Q.service, .int .i64 Q.code, .int .i64 Q.detail, .slice b Q.opts.length cap2, .string Q.data] 24 (0, 0)) ∧ w'.heap[W.heap.size + 2]? = some (.cells #[.int .i64 R.kind, .bool R.long, .int .i64 R.src, .int .i64 R.dst, .int .i64 R.cc, .int .i64 R.cover, .int .i64 R.seq, .int .i64 R.ack, .int .i64 R.service, .int .i64 R.code, .int .i64 R.detail, .slice c R.opts.length cap3, .string R.data] 24 (0, 0)))) (by kernel_rfl) (by (try dsimp only); first | exact v8 | exact v9 | exact v10 | exact v11 | exact v12 | exact v13) (fun hHeld => ?_)
  refine Step.load (i := 0) rfl (by kernel_rfl) (by kernel_rfl) (by kernel_rfl) W.heap.size #[.int .i64 P.kind, .bool P.long, .int .i64 P.src, .int .i64 P.dst, .int .i64 P.cc, .int .i64 P.cover, .int .i64 P.seq, .int .i64 P.ack, .int .i64 P.service, .int .i64 P.code, .int .i64 P.detail, .slice a P.opts.length cap, .string P.data] 24 (0, 0) _ (fun w hSw => hSw.1) Try.underlying24 rfl (hi13 _ _ _ _ _ _ _ _ _ _ _ _ _) (fun _ _ _ h => h) (by rfl) rfl (by assumption) ?_
  try simp only [Act.put, List.setIfInBounds_toArray, List.set_cons_zero, List.set_cons_succ]
  refine Step.load (i := 1) rfl (by kernel_rfl) (by kernel_rfl) (by kernel_rfl) (W.heap.size + 1) #[.int .i64 Q.kind, .bool Q.long, .int .i64 Q.src, .int .i64 Q.dst, .int .i64 Q.cc, .int .i64 Q.cover, .int .i64 Q.seq, .int .i64 Q.ack, .int .i64 Q.service, .int .i64 Q.code, .int .i64 Q.detail, .slice b Q.opts.length cap2, .string Q.data] 24 (0, 0) _ (fun w hSw => hSw.2.1) Try.underlying24 rfl (hi13 _ _ _ _ _ _ _ _ _ _ _ _ _) (fun _ _ _ h => h) (by rfl) rfl (by assumption) ?_
  try simp only [Act.put, List.setIfInBounds_toArray, List.set_cons_zero, List.set_cons_succ]
  refine Step.call (i := 2) rfl (by kernel_rfl) (by rfl) (fun K hK => ?_)
  go_simp
  (go_at_call 12; refine (CPQ.out _ (by exact (KP.out _ (H8.out.trans ((at_drewm (Below.refl _ _)).mono H8.out.size))).2.1) (by exact (KP.out _ (H8.out.trans ((at_drewm (Below.refl _ _)).mono H8.out.size))).2.2.1)).mono ?_; rintro e w9 ⟨rfl, h9⟩; have H9 := Lib.hid (H8.out.trans ((at_drewm h9).mono H8.out.size)); have v9 := (KP.out _ H9.out).1; clear h9)
  try (go_wp2_with fail)
  refine hK.out _ _ (by (try dsimp only); first | exact v8 | exact v9 | exact v10 | exact v11 | exact v12 | exact v13) (fun hHeld => ?_)
  clear hK K
  try simp only [Act.put, List.setIfInBounds_toArray, List.set_cons_zero, List.set_cons_succ]
  refine Step.take (i := 3) rfl (by kernel_rfl) (by kernel_rfl) (by kernel_rfl) (fun _ _ _ h => h) (by rfl) (by (intro w hSw; (try dsimp only at hSw); go_simp; try (with_reducible rfl))) (by assumption) ?_
  try simp only [Act.put, List.setIfInBounds_toArray, List.set_cons_zero, List.set_cons_succ]
  refine Step.take (i := 4) rfl (by kernel_rfl) (by kernel_rfl) (by kernel_rfl) (fun _ _ _ h => h) (by rfl) (by (intro w hSw; (try dsimp only at hSw); go_simp; try (with_reducible rfl))) (by assumption) ?_
  try simp only [Act.put, List.setIfInBounds_toArray, List.set_cons_zero, List.set_cons_succ]
  refine Step.load (i := 5) rfl (by kernel_rfl) (by kernel_rfl) (by kernel_rfl) W.heap.size #[.int .i64 P.kind, .bool P.long, .int .i64 P.src, .int .i64 P.dst, .int .i64 P.cc, .int .i64 P.cover, .int .i64 P.seq, .int .i64 P.ack, .int .i64 P.service, .int .i64 P.code, .int .i64 P.detail, .slice a P.opts.length cap, .string P.data] 24 (0, 0) _ (fun w hSw => hSw.1) Try.underlying24 rfl (hi13 _ _ _ _ _ _ _ _ _ _ _ _ _) (fun _ _ _ h => h) (by rfl) rfl (by assumption) ?_
  try simp only [Act.put, List.setIfInBounds_toArray, List.set_cons_zero, List.set_cons_succ]
  refine Step.load (i := 6) rfl (by kernel_rfl) (by kernel_rfl) (by kernel_rfl) (W.heap.size + 2) #[.int .i64 R.kind, .bool R.long, .int .i64 R.src, .int .i64 R.dst, .int .i64 R.cc, .int .i64 R.cover, .int .i64 R.seq, .int .i64 R.ack, .int .i64 R.service, .int .i64 R.code, .int .i64 R.detail, .slice c R.opts.length cap3, .string R.data] 24 (0, 0) _ (fun w hSw => hSw.2.2) Try.underlying24 rfl (hi13 _ _ _ _ _ _ _ _ _ _ _ _ _) (fun _ _ _ h => h) (by rfl) rfl (by assumption) ?_
  try simp only [Act.put, List.setIfInBounds_toArray, List.set_cons_zero, List.set_cons_succ]
  refine Step.load (i := 8) rfl (by kernel_rfl) (by kernel_rfl) (by kernel_rfl) (W.heap.size + 1) #[.int .i64 Q.kind, .bool Q.long, .int .i64 Q.src, .int .i64 Q.dst, .int .i64 Q.cc, .int .i64 Q.cover, .int .i64 Q.seq, .int .i64 Q.ack, .int .i64 Q.service, .int .i64 Q.code, .int .i64 Q.detail, .slice b Q.opts.length cap2, .string Q.data] 24 (0, 0) _ (fun w hSw => hSw.2.1) Try.underlying24 rfl (hi13 _ _ _ _ _ _ _ _ _ _ _ _ _) (fun _ _ _ h => h) (by rfl) rfl (by assumption) ?_
  try simp only [Act.put, List.setIfInBounds_toArray, List.set_cons_zero, List.set_cons_succ]
  refine Step.load (i := 9) rfl (by kernel_rfl) (by kernel_rfl) (by kernel_rfl) (W.heap.size + 2) #[.int .i64 R.kind, .bool R.long, .int .i64 R.src, .int .i64 R.dst, .int .i64 R.cc, .int .i64 R.cover, .int .i64 R.seq, .int .i64 R.ack, .int .i64 R.service, .int .i64 R.code, .int .i64 R.detail, .slice c R.opts.length cap3, .string R.data] 24 (0, 0) _ (fun w hSw => hSw.2.2) Try.underlying24 rfl (hi13 _ _ _ _ _ _ _ _ _ _ _ _ _) (fun _ _ _ h => h) (by rfl) rfl (by assumption) ?_
  try simp only [Act.put, List.setIfInBounds_toArray, List.set_cons_zero, List.set_cons_succ]
  refine Step.call (i := 7) rfl (by kernel_rfl) (by rfl) (fun K hK => ?_)
  go_simp
  (go_at_call 12; refine (CPR.out _ (by exact (KP.out _ H9.out).2.1) (by exact (KP.out _ H9.out).2.2.2)).mono ?_; rintro e w10 ⟨rfl, h10⟩; have H10 := Lib.hid (H9.out.trans (h10.mono H9.out.size)); have v10 := (KP.out _ H10.out).1; clear h10)
  try (go_wp2_with fail)
  refine hK.out _ _ (by (try dsimp only); first | exact v8 | exact v9 | exact v10 | exact v11 | exact v12 | exact v13) (fun hHeld => ?_)
  clear hK K
  try simp only [Act.put, List.setIfInBounds_toArray, List.set_cons_zero, List.set_cons_succ]
  refine Step.call (i := 10) rfl (by kernel_rfl) (by rfl) (fun K hK => ?_)
  go_simp
  (go_at_call 12; refine (CQR.out _ (by exact (KP.out _ H10.out).2.2.1) (by exact (KP.out _ H10.out).2.2.2)).mono ?_; rintro e w11 ⟨rfl, h11⟩; have H11 := Lib.hid (H10.out.trans (h11.mono H10.out.size)); have v11 := (KP.out _ H11.out).1; clear h11)
  try (go_wp2_with fail)
  refine hK.out _ _ (by (try dsimp only); first | exact v8 | exact v9 | exact v10 | exact v11 | exact v12 | exact v13) (fun hHeld => ?_)
  clear hK K
  try simp only [Act.put, List.setIfInBounds_toArray, List.set_cons_zero, List.set_cons_succ]
  refine Step.take (i := 11) rfl (by kernel_rfl) (by kernel_rfl) (by kernel_rfl) (fun _ _ _ h => h) (by rfl) (by (intro w hSw; (try dsimp only at hSw); go_simp; try (with_reducible rfl))) (by assumption) ?_
  try simp only [Act.put, List.setIfInBounds_toArray, List.set_cons_zero, List.set_cons_succ]
  refine Step.take (i := 12) rfl (by kernel_rfl) (by kernel_rfl) (by kernel_rfl) (fun _ _ _ h => h) (by rfl) (by (intro w hSw; (try dsimp only at hSw); go_simp; try (with_reducible rfl))) (by assumption) ?_
  try simp only [Act.put, List.setIfInBounds_toArray, List.set_cons_zero, List.set_cons_succ]
  refine Step.load (i := 13) rfl (by kernel_rfl) (by kernel_rfl) (by kernel_rfl) W.heap.size #[.int .i64 P.kind, .bool P.long, .int .i64 P.src, .int .i64 P.dst, .int .i64 P.cc, .int .i64 P.cover, .int .i64 P.seq, .int .i64 P.ack, .int .i64 P.service, .int .i64 P.code, .int .i64 P.detail, .slice a P.opts.length cap, .string P.data] 24 (0, 0) _ (fun w hSw => hSw.1) Try.underlying24 rfl (hi13 _ _ _ _ _ _ _ _ _ _ _ _ _) (fun _ _ _ h => h) (by rfl) rfl (by assumption) ?_
  try simp only [Act.put, List.setIfInBounds_toArray, List.set_cons_zero, List.set_cons_succ]
  refine Step.load (i := 15) rfl (by kernel_rfl) (by kernel_rfl) (by kernel_rfl) (W.heap.size + 1) #[.int .i64 Q.kind, .bool Q.long, .int .i64 Q.src, .int .i64 Q.dst, .int .i64 Q.cc, .int .i64 Q.cover, .int .i64 Q.seq, .int .i64 Q.ack, .int .i64 Q.service, .int .i64 Q.code, .int .i64 Q.detail, .slice b Q.opts.length cap2, .string Q.data] 24 (0, 0) _ (fun w hSw => hSw.2.1) Try.underlying24 rfl (hi13 _ _ _ _ _ _ _ _ _ _ _ _ _) (fun _ _ _ h => h) (by rfl) rfl (by assumption) ?_
  try simp only [Act.put, List.setIfInBounds_toArray, List.set_cons_zero, List.set_cons_succ]
  refine Step.call (i := 14) rfl (by kernel_rfl) (by rfl) (fun K hK => ?_)
  go_simp
  (go_at_call 10; refine (CCP.out _ (by exact (KP.out _ H11.out).2.1)).mono ?_; rintro e w12 ⟨rfl, h12⟩; have H12 := Lib.hid (H11.out.trans (h12.mono H11.out.size)); have v12 := (KP.out _ H12.out).1; clear h12)
  try (go_wp2_with fail)
  refine hK.out _ _ (by (try dsimp only); first | exact v8 | exact v9 | exact v10 | exact v11 | exact v12 | exact v13) (fun hHeld => ?_)
  clear hK K
  try simp only [Act.put, List.setIfInBounds_toArray, List.set_cons_zero, List.set_cons_succ]
  refine Step.call (i := 16) rfl (by kernel_rfl) (by rfl) (fun K hK => ?_)
  go_simp
  (go_at_call 10; refine (CCQ.out _ (by exact (KP.out _ H12.out).2.2.1)).mono ?_; rintro e w13 ⟨rfl, h13⟩; have H13 := Lib.hid (H12.out.trans (h13.mono H12.out.size)); have v13 := (KP.out _ H13.out).1; clear h13)
  try (go_wp2_with fail)
  refine hK.out _ _ (by (try dsimp only); first | exact v8 | exact v9 | exact v10 | exact v11 | exact v12 | exact v13) (fun hHeld => ?_)
  clear hK K
  try simp only [Act.put, List.setIfInBounds_toArray, List.set_cons_zero, List.set_cons_succ]
  refine Step.take (i := 17) rfl (by kernel_rfl) (by kernel_rfl) (by kernel_rfl) (fun _ _ _ h => h) (by rfl) (by (intro w hSw; (try dsimp only at hSw); go_simp; try (with_reducible rfl))) (by assumption) ?_
  try simp only [Act.put, List.setIfInBounds_toArray, List.set_cons_zero, List.set_cons_succ]
  refine Step.take (i := 18) rfl (by kernel_rfl) (by kernel_rfl) (by kernel_rfl) (fun _ _ _ h => h) (by rfl) (by (intro w hSw; (try dsimp only at hSw); go_simp; try (with_reducible rfl))) (by assumption) ?_
  try simp only [Act.put, List.setIfInBounds_toArray, List.set_cons_zero, List.set_cons_succ]
  refine Step.take (i := 19) rfl (by kernel_rfl) (by kernel_rfl) (by kernel_rfl) (fun _ _ _ h => h) (by rfl) (by (intro w hSw; (try dsimp only at hSw); go_simp; try (with_reducible rfl))) (by assumption) ?_
  try simp only [Act.put, List.setIfInBounds_toArray, List.set_cons_zero, List.set_cons_succ]
  refine Step.take (i := 20) rfl (by kernel_rfl) (by kernel_rfl) (by kernel_rfl) (fun _ _ _ h => h) (by rfl) (by (intro w hSw; (try dsimp only at hSw); go_simp; try (with_reducible rfl))) (by assumption) ?_
  try simp only [Act.put, List.setIfInBounds_toArray, List.set_cons_zero, List.set_cons_succ]
  refine wpAnyH_done (by kernel_rfl) ?_ _
  go_wp2_with fail
  go_returns
  exact ⟨rfl, HB.out.trans (H13.out.mono HB.out.size)⟩
set_option maxRecDepth 100000 in
theorem PacketAlike_open0 {H : Type} {enc : TypeId × Value → H} {W w0 : World} {b0 : Nat} {r : Reach} {v : Value} {d : DataW H} {p : List MemPlace}
    (hv : Value.okWide Try.prog w0 r b0 24 v) (h : DataW.Trod enc Try.prog W 0 (fun _ => true) true 24 v d p) : IsK W v := isK_open hv h
set_option maxRecDepth 100000 in
theorem PacketAlike_open1 {H : Type} {enc : TypeId × Value → H} {W w0 : World} {b0 : Nat} {r : Reach} {v : Value} {d : DataW H} {p : List MemPlace}
    (hv : Value.okWide Try.prog w0 r b0 24 v) (h : DataW.Trod enc Try.prog W 0 (fun _ => true) true 24 v d p) : IsK W v := isK_open hv h
set_option maxRecDepth 100000 in
theorem PacketAlike_open2 {H : Type} {enc : TypeId × Value → H} {W w0 : World} {b0 : Nat} {r : Reach} {v : Value} {d : DataW H} {p : List MemPlace}
    (hv : Value.okWide Try.prog w0 r b0 24 v) (h : DataW.Trod enc Try.prog W 0 (fun _ => true) true 24 v d p) : IsK W v := isK_open hv h
end Go.Proofs.Ytkjojfcknfhkhaa.Pkt
