/- The law PacketPuts: the walk. -/
import Derived.Test.YtkjojfcknfhkhaaMPktW
namespace Go.Proofs.Ytkjojfcknfhkhaa.Pkt
open Go.ChangeShapes Go.WideShapes Go.ChangeAt Go.RowKit
open Go.Proofs.Ytkjojfcknfhkhaa.Opt (O OptsAt Fit)
set_option linter.unusedVariables false

set_option maxRecDepth 100000 in
set_option maxHeartbeats 4000000 in
theorem PacketPuts_walk (v0 v1 v2 : Value) (W : World) (w0 : IsK W v0) (w1 : IsK W v1) (w2 : ∃ f t : Int, v2 = .agg #[.int .i64 f, .int .i64 t]) :
    Calls Try.prog 3 #[v0, v1, v2] W fun e w' => e = .returned (.bool true) ∧ Below W.heap.size W w' := by
  obtain ⟨P, a, cap, rfl, hP, hPl, hPm, hPd⟩ := w0
  obtain ⟨Q, b, cap2, rfl, hQ, hQl, hQm, hQd⟩ := w1
  obtain ⟨f, t, rfl⟩ := w2
  obtain ⟨V, hV⟩ : ∃ V, ((W.alloc (.cells #[.int .i64 P.kind, .bool P.long, .int .i64 P.src, .int .i64 P.dst, .int .i64 P.cc, .int .i64 P.cover, .int .i64 P.seq, .int .i64 P.ack, .int .i64 P.service, .int .i64 P.code, .int .i64 P.detail, .slice a P.opts.length cap, .string P.data] 24)).alloc (.cells #[.int .i64 Q.kind, .bool Q.long, .int .i64 Q.src, .int .i64 Q.dst, .int .i64 Q.cc, .int .i64 Q.cover, .int .i64 Q.seq, .int .i64 Q.ack, .int .i64 Q.service, .int .i64 Q.code, .int .i64 Q.detail, .slice b Q.opts.length cap2, .string Q.data] 24)).alloc (.cells #[.int .i64 f, .int .i64 t] 26) = V := ⟨_, rfl⟩
  have hb : Below W.heap.size W V := by rw [← hV]; exact (((Below.refl W.heap.size W).alloc (Nat.le_refl _) _).alloc (by simp) _).alloc (by simp; omega) _
  have BA : BoxK V W.heap.size P a cap := by
    rw [← hV]; exact (Below.heap_alloc _ _ _ (by simp; omega)).trans ((Below.heap_alloc _ _ _ (by simp)).trans (heap_alloc_new W _))
  have BB : BoxK V (W.heap.size + 1) Q b cap2 := by
    rw [← hV]
    have := heap_alloc_new (W.alloc (.cells #[.int .i64 P.kind, .bool P.long, .int .i64 P.src, .int .i64 P.dst, .int .i64 P.cc, .int .i64 P.cover, .int .i64 P.seq, .int .i64 P.ack, .int .i64 P.service, .int .i64 P.code, .int .i64 P.detail, .slice a P.opts.length cap, .string P.data] 24)) (.cells #[.int .i64 Q.kind, .bool Q.long, .int .i64 Q.src, .int .i64 Q.dst, .int .i64 Q.cc, .int .i64 Q.cover, .int .i64 Q.seq, .int .i64 Q.ack, .int .i64 Q.service, .int .i64 Q.code, .int .i64 Q.detail, .slice b Q.opts.length cap2, .string Q.data] 24)
    rw [show (W.alloc (.cells #[.int .i64 P.kind, .bool P.long, .int .i64 P.src, .int .i64 P.dst, .int .i64 P.cc, .int .i64 P.cover, .int .i64 P.seq, .int .i64 P.ack, .int .i64 P.service, .int .i64 P.code, .int .i64 P.detail, .slice a P.opts.length cap, .string P.data] 24)).heap.size = W.heap.size + 1 by simp] at this
    exact (Below.heap_alloc _ _ _ (by simp)).trans this
  have BP : V.heap[W.heap.size + 2]? = some (.cells #[.int .i64 f, .int .i64 t] 26 (0, 0)) := by
    rw [← hV]
    have := heap_alloc_new ((W.alloc (.cells #[.int .i64 P.kind, .bool P.long, .int .i64 P.src, .int .i64 P.dst, .int .i64 P.cc, .int .i64 P.cover, .int .i64 P.seq, .int .i64 P.ack, .int .i64 P.service, .int .i64 P.code, .int .i64 P.detail, .slice a P.opts.length cap, .string P.data] 24)).alloc (.cells #[.int .i64 Q.kind, .bool Q.long, .int .i64 Q.src, .int .i64 Q.dst, .int .i64 Q.cc, .int .i64 Q.cover, .int .i64 Q.seq, .int .i64 Q.ack, .int .i64 Q.service, .int .i64 Q.code, .int .i64 Q.detail, .slice b Q.opts.length cap2, .string Q.data] 24)) (.cells #[.int .i64 f, .int .i64 t] 26)
    rwa [show ((W.alloc (.cells #[.int .i64 P.kind, .bool P.long, .int .i64 P.src, .int .i64 P.dst, .int .i64 P.cc, .int .i64 P.cover, .int .i64 P.seq, .int .i64 P.ack, .int .i64 P.service, .int .i64 P.code, .int .i64 P.detail, .slice a P.opts.length cap, .string P.data] 24)).alloc (.cells #[.int .i64 Q.kind, .bool Q.long, .int .i64 Q.src, .int .i64 Q.dst, .int .i64 Q.cc, .int .i64 Q.cover, .int .i64 Q.seq, .int .i64 Q.ack, .int .i64 Q.service, .int .i64 Q.code, .int .i64 Q.detail, .slice b Q.opts.length cap2, .string Q.data] 24)).heap.size = W.heap.size + 2 by simp] at this
  have HB := Lib.hid hb
  have KP := Lib.hid (show ∀ V', Below V.heap.size V V' → (V'.heap[W.heap.size]? = some (.cells #[.int .i64 P.kind, .bool P.long, .int .i64 P.src, .int .i64 P.dst, .int .i64 P.cc, .int .i64 P.cover, .int .i64 P.seq, .int .i64 P.ack, .int .i64 P.service, .int .i64 P.code, .int .i64 P.detail, .slice a P.opts.length cap, .string P.data] 24 (0, 0)) ∧ V'.heap[W.heap.size + 1]? = some (.cells #[.int .i64 Q.kind, .bool Q.long, .int .i64 Q.src, .int .i64 Q.dst, .int .i64 Q.cc, .int .i64 Q.cover, .int .i64 Q.seq, .int .i64 Q.ack, .int .i64 Q.service, .int .i64 Q.code, .int .i64 Q.detail, .slice b Q.opts.length cap2, .string Q.data] 24 (0, 0)) ∧ V'.heap[W.heap.size + 2]? = some (.cells #[.int .i64 f, .int .i64 t] 26 (0, 0))) ∧ OptsAt V' a P.opts ∧ OptsAt V' b Q.opts from fun V' h' => ⟨⟨BA.below h' BA.lt, BB.below h' BB.lt, (h'.block _ (Array.getElem?_eq_some_iff.1 BP).1).trans BP⟩, hP.below (HB.out.trans (h'.mono HB.out.size)), hQ.below (HB.out.trans (h'.mono HB.out.size))⟩)
  have CGP := Lib.hid (fun w h => Great10_any P a cap w h hPl hPm hPd)
  have CGQ := Lib.hid (fun w h => Great10_any Q b cap2 w h hQl hQm hQd)
  clear hP hQ hPl hPm hPd hQl hQm hQd hb BA BB BP
  go_enter Try.func3, Try.ntmps3
  go_wp2_with fail
  refine (works_any _).mono ?_
  rintro e w1 ⟨rfl, h1⟩
  have H1 := Lib.hid h1
  obtain ⟨⟨A1, B1, P1⟩, OA1, OB1⟩ := KP.out _ H1.out
  clear h1
  go_wp2_with (refine wpList_load_row rfl 24 _ rfl W.heap.size rfl 24 _ _ _ A1 Try.underlying24 rfl (hi13 _ _ _ _ _ _ _ _ _ _ _ _ _) ?_)
  refine (CGP.out _ OA1).mono ?_
  rintro e w2 ⟨⟨g, rfl, hg⟩, h2⟩
  have H2 := Lib.hid (H1.out.trans (h2.mono H1.out.size))
  clear h2 A1 B1 P1 OA1 OB1
  cases g
  case true =>
    go_wp2_with fail
    go_returns
    exact ⟨rfl, HB.out.trans (H2.out.mono HB.out.size)⟩
  obtain ⟨fP, dP⟩ := hg rfl
  obtain ⟨⟨A2, B2, P2⟩, OA2, OB2⟩ := KP.out _ H2.out
  have hBB : BoxK w2 (W.heap.size + 1) Q b cap2 := B2
  obtain ⟨y0, y1, y2, y3, y4, y5, y6, y7, y8, y9, y10, y11, y12⟩ := hBB.cell
  clear hBB
  go_wp2_with fail
  refine (CGQ.out _ OB2).mono ?_
  rintro e w3 ⟨⟨g, rfl, hg⟩, h3⟩
  have H3 := Lib.hid (H2.out.trans (h3.mono H2.out.size))
  clear h3 A2 B2 P2 OA2 OB2 y0 y1 y2 y3 y4 y5 y6 y7 y8 y9 y10 y11 y12
  cases g
  case true =>
    go_wp2_with fail
    go_returns
    exact ⟨rfl, HB.out.trans (H3.out.mono HB.out.size)⟩
  obtain ⟨fQ, dQ⟩ := hg rfl
  have CP := Lib.hid (fun w h => PPut_any P fP (by omega) f t a cap w h)
  have RP := Lib.hid (fun w h => refPut10_any P fP (by omega) f t a cap w h)
  have CC := Lib.hid (fun w h => PCheck_any P fP (by omega) a cap w h)
  have RC := Lib.hid (fun w h => Check_any P fP (by omega) a cap w h)
  have CS := Lib.hid (fun w h h2 => Same_any P Q fP.1 fQ.1 a b cap cap2 w h h2)
  have RS := Lib.hid (fun w h h2 => refSame_any P Q fP.1 fQ.1 a b cap cap2 w h h2)
  clear fP fQ dP dQ hg CGP CGQ
  obtain ⟨⟨A3, B3, P3⟩, OA3, OB3⟩ := KP.out _ H3.out
  generalize (put P f t).1 = T1 at *
  generalize (put P f t).2 = E1 at *
  generalize check P = C1 at *
  generalize same P Q = sb at *
  go_wp2_with (first | (refine wpList_load_row rfl 24 _ rfl W.heap.size rfl 24 _ _ _ A3 Try.underlying24 rfl (hi13 _ _ _ _ _ _ _ _ _ _ _ _ _) ?_) | (refine wpList_load_row rfl 26 _ rfl (W.heap.size + 2) rfl 26 _ _ _ P3 Try.underlying26 rfl (hi2 _ _) ?_))
  refine (CP.out _ OA3).mono ?_
  rintro e w4 ⟨rfl, h4⟩
  have H4 := Lib.hid (H3.out.trans (h4.mono H3.out.size))
  clear h4 A3 B3 P3 OA3 OB3
  obtain ⟨⟨A4, B4, P4⟩, OA4, OB4⟩ := KP.out _ H4.out
  go_wp2_with (first | (refine wpList_load_row rfl 24 _ rfl W.heap.size rfl 24 _ _ _ A4 Try.underlying24 rfl (hi13 _ _ _ _ _ _ _ _ _ _ _ _ _) ?_) | (refine wpList_load_row rfl 26 _ rfl (W.heap.size + 2) rfl 26 _ _ _ P4 Try.underlying26 rfl (hi2 _ _) ?_))
  refine (RP.out _ OA4).mono ?_
  rintro e w5 ⟨rfl, h5⟩
  have H5 := Lib.hid (H4.out.trans (h5.mono H4.out.size))
  clear h5 A4 B4 P4 OA4 OB4 CP RP
  have v5 := (KP.out _ H5.out).1
  go_wp2_with fail
  refine Step.start (S := (fun w' => w'.heap[W.heap.size]? = some (.cells #[.int .i64 P.kind, .bool P.long, .int .i64 P.src, .int .i64 P.dst, .int .i64 P.cc, .int .i64 P.cover, .int .i64 P.seq, .int .i64 P.ack, .int .i64 P.service, .int .i64 P.code, .int .i64 P.detail, .slice a P.opts.length cap, .string P.data] 24 (0, 0)) ∧ w'.heap[W.heap.size + 1]? = some (.cells #[.int .i64 Q.kind, .bool Q.long, .int .i64 Q.src, .int .i64 Q.dst, .int .i64 Q.cc, .int .i64 Q.cover, .int .i64 Q.seq, .int .i64 Q.ack, .int .i64 Q.service, .int .i64 Q.code, .int .i64 Q.detail, .slice b Q.opts.length cap2, .string Q.data] 24 (0, 0)) ∧ w'.heap[W.heap.size + 2]? = some (.cells #[.int .i64 f, .int .i64 t] 26 (0, 0)))) (by kernel_rfl) (by (try dsimp only); first | exact v5 | exact v6 | exact v7 | exact v8 | exact v9) (fun hHeld => ?_)
  refine Step.take (i := 0) rfl (by kernel_rfl) (by kernel_rfl) (by kernel_rfl) (fun _ _ _ h => h) (by rfl) (by (intro w hSw; (try dsimp only at hSw); go_simp; try (with_reducible rfl))) (by assumption) ?_
  try simp only [Act.put, List.setIfInBounds_toArray, List.set_cons_zero, List.set_cons_succ]
  refine Step.take (i := 1) rfl (by kernel_rfl) (by kernel_rfl) (by kernel_rfl) (fun _ _ _ h => h) (by rfl) (by (intro w hSw; (try dsimp only at hSw); go_simp; try (with_reducible rfl))) (by assumption) ?_
  try simp only [Act.put, List.setIfInBounds_toArray, List.set_cons_zero, List.set_cons_succ]
  refine Step.take (i := 2) rfl (by kernel_rfl) (by kernel_rfl) (by kernel_rfl) (fun _ _ _ h => h) (by rfl) (by (intro w hSw; (try dsimp only at hSw); go_simp; try (with_reducible rfl))) (by assumption) ?_
  try simp only [Act.put, List.setIfInBounds_toArray, List.set_cons_zero, List.set_cons_succ]
  refine Step.take (i := 3) rfl (by kernel_rfl) (by kernel_rfl) (by kernel_rfl) (fun _ _ _ h => h) (by rfl) (by (intro w hSw; (try dsimp only at hSw); go_simp; try (with_reducible rfl))) (by assumption) ?_
  try simp only [Act.put, List.setIfInBounds_toArray, List.set_cons_zero, List.set_cons_succ]
  refine Step.take (i := 4) rfl (by kernel_rfl) (by kernel_rfl) (by kernel_rfl) (fun _ _ _ h => h) (by rfl) (by (intro w hSw; (try dsimp only at hSw); go_simp; try (with_reducible rfl))) (by assumption) ?_
  try simp only [Act.put, List.setIfInBounds_toArray, List.set_cons_zero, List.set_cons_succ]
  refine Step.take (i := 5) rfl (by kernel_rfl) (by kernel_rfl) (by kernel_rfl) (fun _ _ _ h => h) (by rfl) (by (intro w hSw; (try dsimp only at hSw); go_simp; try (with_reducible rfl))) (by assumption) ?_
  try simp only [Act.put, List.setIfInBounds_toArray, List.set_cons_zero, List.set_cons_succ]
  refine Step.take (i := 6) rfl (by kernel_rfl) (by kernel_rfl) (by kernel_rfl) (fun _ _ _ h => h) (by rfl) (by (intro w hSw; (try dsimp only at hSw); go_simp; try (with_reducible rfl))) (by assumption) ?_
  try simp only [Act.put, List.setIfInBounds_toArray, List.set_cons_zero, List.set_cons_succ]
  refine Step.take (i := 7) rfl (by kernel_rfl) (by kernel_rfl) (by kernel_rfl) (fun _ _ _ h => h) (by rfl) (by (intro w hSw; (try dsimp only at hSw); go_simp; try (with_reducible rfl))) (by assumption) ?_
  try simp only [Act.put, List.setIfInBounds_toArray, List.set_cons_zero, List.set_cons_succ]
  refine Step.take (i := 8) rfl (by kernel_rfl) (by kernel_rfl) (by kernel_rfl) (fun _ _ _ h => h) (by rfl) (by (intro w hSw; (try dsimp only at hSw); go_simp; try (with_reducible rfl))) (by assumption) ?_
  try simp only [Act.put, List.setIfInBounds_toArray, List.set_cons_zero, List.set_cons_succ]
  refine Step.load (i := 9) rfl (by kernel_rfl) (by kernel_rfl) (by kernel_rfl) W.heap.size #[.int .i64 P.kind, .bool P.long, .int .i64 P.src, .int .i64 P.dst, .int .i64 P.cc, .int .i64 P.cover, .int .i64 P.seq, .int .i64 P.ack, .int .i64 P.service, .int .i64 P.code, .int .i64 P.detail, .slice a P.opts.length cap, .string P.data] 24 (0, 0) _ (fun w hSw => hSw.1) Try.underlying24 rfl (hi13 _ _ _ _ _ _ _ _ _ _ _ _ _) (fun _ _ _ h => h) (by rfl) rfl (by assumption) ?_
  try simp only [Act.put, List.setIfInBounds_toArray, List.set_cons_zero, List.set_cons_succ]
  refine Step.load (i := 11) rfl (by kernel_rfl) (by kernel_rfl) (by kernel_rfl) W.heap.size #[.int .i64 P.kind, .bool P.long, .int .i64 P.src, .int .i64 P.dst, .int .i64 P.cc, .int .i64 P.cover, .int .i64 P.seq, .int .i64 P.ack, .int .i64 P.service, .int .i64 P.code, .int .i64 P.detail, .slice a P.opts.length cap, .string P.data] 24 (0, 0) _ (fun w hSw => hSw.1) Try.underlying24 rfl (hi13 _ _ _ _ _ _ _ _ _ _ _ _ _) (fun _ _ _ h => h) (by rfl) rfl (by assumption) ?_
  try simp only [Act.put, List.setIfInBounds_toArray, List.set_cons_zero, List.set_cons_succ]
  refine Step.call (i := 10) rfl (by kernel_rfl) (by rfl) (fun K hK => ?_)
  go_simp
  (go_at_call 10; refine (CC.out _ (by exact (KP.out _ (H5.out.trans ((at_drewm (Below.refl _ _)).mono H5.out.size))).2.1)).mono ?_; rintro e w6 ⟨rfl, h6⟩; have H6 := Lib.hid (H5.out.trans ((at_drewm h6).mono H5.out.size)); have v6 := (KP.out _ H6.out).1; clear h6)
  try (go_wp2_with fail)
  refine hK.out _ _ (by (try dsimp only); first | exact v5 | exact v6 | exact v7 | exact v8 | exact v9) (fun hHeld => ?_)
  clear hK K
  try simp only [Act.put, List.setIfInBounds_toArray, List.set_cons_zero, List.set_cons_succ]
  refine Step.call (i := 12) rfl (by kernel_rfl) (by rfl) (fun K hK => ?_)
  go_simp
  (go_at_call 11; refine (RC.out _ (by exact (KP.out _ H6.out).2.1)).mono ?_; rintro e w7 ⟨rfl, h7⟩; have H7 := Lib.hid (H6.out.trans (h7.mono H6.out.size)); have v7 := (KP.out _ H7.out).1; clear h7)
  try (go_wp2_with fail)
  refine hK.out _ _ (by (try dsimp only); first | exact v5 | exact v6 | exact v7 | exact v8 | exact v9) (fun hHeld => ?_)
  clear hK K
  try simp only [Act.put, List.setIfInBounds_toArray, List.set_cons_zero, List.set_cons_succ]
  refine Step.take (i := 13) rfl (by kernel_rfl) (by kernel_rfl) (by kernel_rfl) (fun _ _ _ h => h) (by rfl) (by (intro w hSw; (try dsimp only at hSw); go_simp; try (with_reducible rfl))) (by assumption) ?_
  try simp only [Act.put, List.setIfInBounds_toArray, List.set_cons_zero, List.set_cons_succ]
  refine Step.take (i := 14) rfl (by kernel_rfl) (by kernel_rfl) (by kernel_rfl) (fun _ _ _ h => h) (by rfl) (by (intro w hSw; (try dsimp only at hSw); go_simp; try (with_reducible rfl))) (by assumption) ?_
  try simp only [Act.put, List.setIfInBounds_toArray, List.set_cons_zero, List.set_cons_succ]
  refine Step.take (i := 15) rfl (by kernel_rfl) (by kernel_rfl) (by kernel_rfl) (fun _ _ _ h => h) (by rfl) (by (intro w hSw; (try dsimp only at hSw); go_simp; try (with_reducible rfl))) (by assumption) ?_
  try simp only [Act.put, List.setIfInBounds_toArray, List.set_cons_zero, List.set_cons_succ]
  refine Step.load (i := 16) rfl (by kernel_rfl) (by kernel_rfl) (by kernel_rfl) W.heap.size #[.int .i64 P.kind, .bool P.long, .int .i64 P.src, .int .i64 P.dst, .int .i64 P.cc, .int .i64 P.cover, .int .i64 P.seq, .int .i64 P.ack, .int .i64 P.service, .int .i64 P.code, .int .i64 P.detail, .slice a P.opts.length cap, .string P.data] 24 (0, 0) _ (fun w hSw => hSw.1) Try.underlying24 rfl (hi13 _ _ _ _ _ _ _ _ _ _ _ _ _) (fun _ _ _ h => h) (by rfl) rfl (by assumption) ?_
  try simp only [Act.put, List.setIfInBounds_toArray, List.set_cons_zero, List.set_cons_succ]
  refine Step.load (i := 17) rfl (by kernel_rfl) (by kernel_rfl) (by kernel_rfl) (W.heap.size + 1) #[.int .i64 Q.kind, .bool Q.long, .int .i64 Q.src, .int .i64 Q.dst, .int .i64 Q.cc, .int .i64 Q.cover, .int .i64 Q.seq, .int .i64 Q.ack, .int .i64 Q.service, .int .i64 Q.code, .int .i64 Q.detail, .slice b Q.opts.length cap2, .string Q.data] 24 (0, 0) _ (fun w hSw => hSw.2.1) Try.underlying24 rfl (hi13 _ _ _ _ _ _ _ _ _ _ _ _ _) (fun _ _ _ h => h) (by rfl) rfl (by assumption) ?_
  try simp only [Act.put, List.setIfInBounds_toArray, List.set_cons_zero, List.set_cons_succ]
  refine Step.load (i := 19) rfl (by kernel_rfl) (by kernel_rfl) (by kernel_rfl) W.heap.size #[.int .i64 P.kind, .bool P.long, .int .i64 P.src, .int .i64 P.dst, .int .i64 P.cc, .int .i64 P.cover, .int .i64 P.seq, .int .i64 P.ack, .int .i64 P.service, .int .i64 P.code, .int .i64 P.detail, .slice a P.opts.length cap, .string P.data] 24 (0, 0) _ (fun w hSw => hSw.1) Try.underlying24 rfl (hi13 _ _ _ _ _ _ _ _ _ _ _ _ _) (fun _ _ _ h => h) (by rfl) rfl (by assumption) ?_
  try simp only [Act.put, List.setIfInBounds_toArray, List.set_cons_zero, List.set_cons_succ]
  refine Step.load (i := 20) rfl (by kernel_rfl) (by kernel_rfl) (by kernel_rfl) (W.heap.size + 1) #[.int .i64 Q.kind, .bool Q.long, .int .i64 Q.src, .int .i64 Q.dst, .int .i64 Q.cc, .int .i64 Q.cover, .int .i64 Q.seq, .int .i64 Q.ack, .int .i64 Q.service, .int .i64 Q.code, .int .i64 Q.detail, .slice b Q.opts.length cap2, .string Q.data] 24 (0, 0) _ (fun w hSw => hSw.2.1) Try.underlying24 rfl (hi13 _ _ _ _ _ _ _ _ _ _ _ _ _) (fun _ _ _ h => h) (by rfl) rfl (by assumption) ?_
  try simp only [Act.put, List.setIfInBounds_toArray, List.set_cons_zero, List.set_cons_succ]
  refine Step.call (i := 18) rfl (by kernel_rfl) (by rfl) (fun K hK => ?_)
  go_simp
  (go_at_call 12; refine (CS.out _ (by exact (KP.out _ H7.out).2.1) (by exact (KP.out _ H7.out).2.2)).mono ?_; rintro e w8 ⟨rfl, h8⟩; have H8 := Lib.hid (H7.out.trans (h8.mono H7.out.size)); have v8 := (KP.out _ H8.out).1; clear h8)
  try (go_wp2_with fail)
  refine hK.out _ _ (by (try dsimp only); first | exact v5 | exact v6 | exact v7 | exact v8 | exact v9) (fun hHeld => ?_)
  clear hK K
  try simp only [Act.put, List.setIfInBounds_toArray, List.set_cons_zero, List.set_cons_succ]
  refine Step.call (i := 21) rfl (by kernel_rfl) (by rfl) (fun K hK => ?_)
  go_simp
  (go_at_call 13; refine (RS.out _ (by exact (KP.out _ H8.out).2.1) (by exact (KP.out _ H8.out).2.2)).mono ?_; rintro e w9 ⟨rfl, h9⟩; have H9 := Lib.hid (H8.out.trans (h9.mono H8.out.size)); have v9 := (KP.out _ H9.out).1; clear h9)
  try (go_wp2_with fail)
  refine hK.out _ _ (by (try dsimp only); first | exact v5 | exact v6 | exact v7 | exact v8 | exact v9) (fun hHeld => ?_)
  clear hK K
  try simp only [Act.put, List.setIfInBounds_toArray, List.set_cons_zero, List.set_cons_succ]
  refine Step.take (i := 22) rfl (by kernel_rfl) (by kernel_rfl) (by kernel_rfl) (fun _ _ _ h => h) (by rfl) (by (intro w hSw; (try dsimp only at hSw); go_simp; try (with_reducible rfl))) (by assumption) ?_
  try simp only [Act.put, List.setIfInBounds_toArray, List.set_cons_zero, List.set_cons_succ]
  refine Step.take (i := 23) rfl (by kernel_rfl) (by kernel_rfl) (by kernel_rfl) (fun _ _ _ h => h) (by rfl) (by (intro w hSw; (try dsimp only at hSw); go_simp; try (with_reducible rfl))) (by assumption) ?_
  try simp only [Act.put, List.setIfInBounds_toArray, List.set_cons_zero, List.set_cons_succ]
  refine Step.take (i := 24) rfl (by kernel_rfl) (by kernel_rfl) (by kernel_rfl) (fun _ _ _ h => h) (by rfl) (by (intro w hSw; (try dsimp only at hSw); go_simp; try (with_reducible rfl))) (by assumption) ?_
  try simp only [Act.put, List.setIfInBounds_toArray, List.set_cons_zero, List.set_cons_succ]
  refine wpAnyH_done (by kernel_rfl) ?_ _
  go_wp2_with fail
  go_returns
  exact ⟨rfl, HB.out.trans (H9.out.mono HB.out.size)⟩
set_option maxRecDepth 100000 in
theorem PacketPuts_open0 {H : Type} {enc : TypeId × Value → H} {W w0 : World} {b0 : Nat} {r : Reach} {v : Value} {d : DataW H} {p : List MemPlace}
    (hv : Value.okWide Try.prog w0 r b0 24 v) (h : DataW.Trod enc Try.prog W 0 (fun _ => true) true 24 v d p) : IsK W v := isK_open hv h
set_option maxRecDepth 100000 in
theorem PacketPuts_open1 {H : Type} {enc : TypeId × Value → H} {W w0 : World} {b0 : Nat} {r : Reach} {v : Value} {d : DataW H} {p : List MemPlace}
    (hv : Value.okWide Try.prog w0 r b0 24 v) (h : DataW.Trod enc Try.prog W 0 (fun _ => true) true 24 v d p) : IsK W v := isK_open hv h
set_option maxRecDepth 100000 in
theorem PacketPuts_open2 {H : Type} {enc : TypeId × Value → H} {W w0 : World} {b0 : Nat} {r : Reach} {v : Value} {d : DataW H} {p : List MemPlace}
    (hv : Value.okWide Try.prog w0 r b0 26 v) (h : DataW.Trod enc Try.prog W 0 (fun _ => true) true 26 v d p) : ∃ f t : Int, v = .agg #[.int .i64 f, .int .i64 t] := isP_open hv h
end Go.Proofs.Ytkjojfcknfhkhaa.Pkt
