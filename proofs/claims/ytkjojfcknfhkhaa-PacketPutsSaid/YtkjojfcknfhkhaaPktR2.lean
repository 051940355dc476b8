/- The document's beginning of a packet: its contract. -/
import Derived.Test.YtkjojfcknfhkhaaPktR1
import Derived.Test.YtkjojfcknfhkhaaHead5
import Derived.Test.YtkjojfcknfhkhaaHead9
import Derived.Deep.QuietTactic
import Derived.BigQuiet
namespace Go.Proofs.Ytkjojfcknfhkhaa.Pkt
open Go.ChangeShapes Go.WideShapes Go.ChangeAt Go.RowKit
open Go.Proofs.Ytkjojfcknfhkhaa.Opt (O OptsAt Fit RefSize_any)
open Go.Proofs.Ytkjojfcknfhkhaa.Head (refSize_any refAcks_any refBears_any below_drewN rowOf sizeOf_mid)
set_option linter.unusedVariables false

/-- a packet as a value, its options a slice at a place -/
abbrev rowK (p : K) (a : Option Addr) (cap : Nat) : Array Value :=
  #[.int .i64 p.kind, .bool p.long, .int .i64 p.src, .int .i64 p.dst, .int .i64 p.cc, .int .i64 p.cover, .int .i64 p.seq, .int .i64 p.ack, .int .i64 p.service, .int .i64 p.code, .int .i64 p.detail, .slice a p.opts.length cap, .string p.data]

theorem need_of (z n : Nat) (m : Nat) (h : m + (4 - m % 4) % 4 = z + n + (4 - (z + n) % 4) % 4) (h4 : m % 4 = 0) : ((m : Int) / 4) = ((z : Int) + (n : Int) + 3) / 4 := by omega

set_option maxRecDepth 100000 in
set_option maxHeartbeats 4000000 in
theorem begin_any (p : K) (hl : Fit p.opts) (a : Option Addr) (cap : Nat) (w : World) (h : OptsAt w a p.opts) :
    Calls Try.prog 32 #[.agg #[.int .i64 p.kind, .bool p.long, .int .i64 p.src, .int .i64 p.dst, .int .i64 p.cc, .int .i64 p.cover, .int .i64 p.seq, .int .i64 p.ack, .int .i64 p.service, .int .i64 p.code, .int .i64 p.detail, .slice a p.opts.length cap, .string p.data]] w
      fun e w' => e = .returned (.agg (rowOf (begins p 0))) ∧ Below w.heap.size w w' := by
  have hs := hl.sizes
  have hz := sizeOf_mid p.kind p.long
  have hB := Lib.hid (show rowOf (begins p 0) = #[.int .i64 p.src, .int .i64 p.dst, .int .i64 (min ((Head.sizeOf p.kind p.long + (Opt.sizes p.opts : Int) + 3) / 4) 255), .int .i64 p.cc, .int .i64 p.cover, .int .i64 0, .int .i64 p.kind, .bool p.long, .int .i64 p.seq] from rfl)
  have H := Lib.hid h
  have CS := Lib.hid (fun w (h : OptsAt w a p.opts) => RefSize_any p.opts hl a cap w h)
  have CZ := Lib.hid (fun w => refSize_any p.kind p.long w)
  clear h hl
  obtain ⟨k, l, s, d, cc, cv, q, ak, sv, co, de, os, da⟩ := p
  dsimp only at *
  generalize rowOf (begins ⟨k, l, s, d, cc, cv, q, ak, sv, co, de, os, da⟩ 0) = R at *
  obtain ⟨z, hz'⟩ := Int.eq_ofNat_of_zero_le hz.1
  generalize Head.sizeOf k l = Z at *
  subst hz'
  generalize Opt.sizes os = n at *
  generalize os.length = len at *
  have hb1 := (Below.refl w.heap.size w).alloc (Nat.le_refl _) (.cells #[.int .i64 k, .bool l, .int .i64 s, .int .i64 d, .int .i64 cc, .int .i64 cv, .int .i64 q, .int .i64 ak, .int .i64 sv, .int .i64 co, .int .i64 de, .slice a len cap, .string da] 24)
  have hb2 := Lib.hid (hb1.alloc hb1.size (.cells #[.int .i64 0, .int .i64 0, .int .i64 0, .int .i64 0, .int .i64 0, .int .i64 0, .int .i64 0, .bool false, .int .i64 0] 43))
  have zb : Head.Box9 ((w.alloc (.cells #[.int .i64 k, .bool l, .int .i64 s, .int .i64 d, .int .i64 cc, .int .i64 cv, .int .i64 q, .int .i64 ak, .int .i64 sv, .int .i64 co, .int .i64 de, .slice a len cap, .string da] 24)).alloc (.cells #[.int .i64 0, .int .i64 0, .int .i64 0, .int .i64 0, .int .i64 0, .int .i64 0, .int .i64 0, .bool false, .int .i64 0] 43)) (w.heap.size + 1) Head.B.none := by
    have := Head.Box9.new (w.alloc (.cells #[.int .i64 k, .bool l, .int .i64 s, .int .i64 d, .int .i64 cc, .int .i64 cv, .int .i64 q, .int .i64 ak, .int .i64 sv, .int .i64 co, .int .i64 de, .slice a len cap, .string da] 24)) Head.B.none
    rwa [show (w.alloc (.cells #[.int .i64 k, .bool l, .int .i64 s, .int .i64 d, .int .i64 cc, .int .i64 cv, .int .i64 q, .int .i64 ak, .int .i64 sv, .int .i64 co, .int .i64 de, .slice a len cap, .string da] 24)).heap.size = w.heap.size + 1 by simp] at this
  go_enter Try.func32, Try.ntmps32
  go_wp2_with fail
  go_quiet ((first
    | (go_at_call 66; exact Calls.quiet_of_same (CZ.out _))
    | (go_at_call 68; exact Calls.quiet_of_same (CS.out _ (H.out.below (below_drewN hb2.out _))))))
  go_wp2_with fail
  go_loop [3] (fun v => ∃ m : Nat, v = .int .i64 m ∧ m + (4 - m % 4) % 4 = z + n + (4 - (z + n) % 4) % 4) (fun v => (4 - (intOf v).toNat % 4) % 4)
  case atStart => exact ⟨z + n, by go_num, rfl⟩
  case round =>
    obtain ⟨m, rfl, hm⟩ := hrel
    have hm9 : m ≤ 9100000 := by omega
    by_cases h4 : m % 4 = 0
    · have h4' : ((m : Int) % 4 == 0) = true := by simp; omega
      have hq4 := need_of z n m hm h4
      go_wp2_with (refine wpList_store_row rfl 43 _ _ rfl (w.heap.size + 1) _ rfl rfl 43 _ zb (Head.hi9 _ _ _ _ _ _ _ _ _) rfl (Head.hone9 _ _ _ _ _ _ _ _ _) ?_)
      refine bodyPost_ret (results_cell_row Try.results32 _ _ (w.heap.size + 1) 43 _ (0, 0) _ rfl (setRow_heap _ _ _ _ _ _ zb) Try.underlying43 rfl (Head.hi9 _ _ _ _ _ _ _ _ _)) rfl ?_
      exact ⟨by rw [hB.out], Head.below_row (below_drewN hb2.out _) _ _ (Nat.le_succ _)⟩
    · have h4' : ((m : Int) % 4 == 0) = false := by simp; omega
      go_wp2_with fail
      refine ⟨⟨m + 1, by go_num, by omega⟩, by simp [intOf]; omega⟩
end Go.Proofs.Ytkjojfcknfhkhaa.Pkt
