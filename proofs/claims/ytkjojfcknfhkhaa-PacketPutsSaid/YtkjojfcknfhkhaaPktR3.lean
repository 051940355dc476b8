/- The document's spare fields, and Check of a packet: their contracts. -/
import Derived.Test.YtkjojfcknfhkhaaPktR2
import Derived.Test.YtkjojfcknfhkhaaHead5
namespace Go.Proofs.Ytkjojfcknfhkhaa.Pkt
open Go.ChangeShapes Go.WideShapes Go.ChangeAt Go.RowKit
open Go.Proofs.Ytkjojfcknfhkhaa.Opt (O OptsAt Fit RefSize_any)
open Go.Proofs.Ytkjojfcknfhkhaa.Head (refSize_any refAcks_any refBears_any below_drewN rowOf sizeOf_mid acks bears)
set_option linter.unusedVariables false

set_option maxRecDepth 100000 in
set_option maxHeartbeats 40000000 in
theorem spare_any (p : K) (a : Option Addr) (cap : Nat) (w : World) :
    Calls Try.prog 37 #[.agg #[.int .i64 p.kind, .bool p.long, .int .i64 p.src, .int .i64 p.dst, .int .i64 p.cc, .int .i64 p.cover, .int .i64 p.seq, .int .i64 p.ack, .int .i64 p.service, .int .i64 p.code, .int .i64 p.detail, .slice a p.opts.length cap, .string p.data]] w
      fun e w' => e = .returned (.bool (spare p)) ∧ Below w.heap.size w w' := by
  have CA := Lib.hid (fun w => refAcks_any p.kind w)
  have CB := Lib.hid (fun w => refBears_any p.kind w)
  have hS := Lib.hid (show spare p = ((!acks p.kind && (p.ack != 0)) || ((decide (1 < p.kind) && (p.service != 0)) || (((p.kind != 7) && ((p.code != 0) || (p.detail != 0))) || (!bears p.kind && !decide (p.data.size = 0))))) from rfl)
  obtain ⟨k, l, s, d, cc, cv, q, ak, sv, co, de, os, da⟩ := p
  dsimp only at *
  generalize spare ⟨k, l, s, d, cc, cv, q, ak, sv, co, de, os, da⟩ = R at *
  generalize acks k = pa at *
  generalize bears k = pb at *
  generalize os.length = len at *
  have hb1 := Lib.hid ((Below.refl w.heap.size w).alloc (Nat.le_refl _) (.cells #[.int .i64 k, .bool l, .int .i64 s, .int .i64 d, .int .i64 cc, .int .i64 cv, .int .i64 q, .int .i64 ak, .int .i64 sv, .int .i64 co, .int .i64 de, .slice a len cap, .string da] 24))
  obtain ⟨em, hem⟩ : ∃ em, em = da.toList.isEmpty := ⟨_, rfl⟩
  have hed : decide (da.size = 0) = em := by
    rw [hem]
    by_cases h0 : da.size = 0
    · rw [Oct.is_empty da h0]; simp [h0]
    · rw [Oct.not_empty da h0]; simp [h0]
  rw [hed] at hS
  rw [hem] at hS
  clear hed hem em
  obtain ⟨b1, e1⟩ : ∃ b, (ak != 0) = b := ⟨_, rfl⟩
  obtain ⟨b2, e2⟩ : ∃ b, decide (1 < k) = b := ⟨_, rfl⟩
  obtain ⟨b3, e3⟩ : ∃ b, (sv != 0) = b := ⟨_, rfl⟩
  obtain ⟨b4, e4⟩ : ∃ b, (k != 7) = b := ⟨_, rfl⟩
  obtain ⟨b5, e5⟩ : ∃ b, (co != 0) = b := ⟨_, rfl⟩
  obtain ⟨b6, e6⟩ : ∃ b, (de != 0) = b := ⟨_, rfl⟩
  obtain ⟨b7, e7⟩ : ∃ b, da.toList.isEmpty = b := ⟨_, rfl⟩
  rw [e1, e2, e3, e4, e5, e6, e7] at hS
  cases pa
  · cases b1
    · cases b2
      · cases b4
        · cases pb
          · cases b7
            · go_enter Try.func37, Try.ntmps37
              go_wp2_with (first
                | (go_at_call 33; refine (CA.out _).mono ?_; rintro e w1 ⟨rfl, rfl⟩)
                | (go_at_call 69; refine (CB.out _).mono ?_; rintro e w1 ⟨rfl, rfl⟩))
              go_ret
              exact ⟨by rw [hS.out]; rfl, hb1.out⟩
            · go_enter Try.func37, Try.ntmps37
              go_wp2_with (first
                | (go_at_call 33; refine (CA.out _).mono ?_; rintro e w1 ⟨rfl, rfl⟩)
                | (go_at_call 69; refine (CB.out _).mono ?_; rintro e w1 ⟨rfl, rfl⟩))
              go_ret
              exact ⟨by rw [hS.out]; rfl, hb1.out⟩
          · go_enter Try.func37, Try.ntmps37
            go_wp2_with (first
              | (go_at_call 33; refine (CA.out _).mono ?_; rintro e w1 ⟨rfl, rfl⟩)
              | (go_at_call 69; refine (CB.out _).mono ?_; rintro e w1 ⟨rfl, rfl⟩))
            go_ret
            exact ⟨by rw [hS.out]; rfl, hb1.out⟩
        · cases b5
          · cases b6
            · cases pb
              · cases b7
                · go_enter Try.func37, Try.ntmps37
                  go_wp2_with (first
                    | (go_at_call 33; refine (CA.out _).mono ?_; rintro e w1 ⟨rfl, rfl⟩)
                    | (go_at_call 69; refine (CB.out _).mono ?_; rintro e w1 ⟨rfl, rfl⟩))
                  go_ret
                  exact ⟨by rw [hS.out]; rfl, hb1.out⟩
                · go_enter Try.func37, Try.ntmps37
                  go_wp2_with (first
                    | (go_at_call 33; refine (CA.out _).mono ?_; rintro e w1 ⟨rfl, rfl⟩)
                    | (go_at_call 69; refine (CB.out _).mono ?_; rintro e w1 ⟨rfl, rfl⟩))
                  go_ret
                  exact ⟨by rw [hS.out]; rfl, hb1.out⟩
              · go_enter Try.func37, Try.ntmps37
                go_wp2_with (first
                  | (go_at_call 33; refine (CA.out _).mono ?_; rintro e w1 ⟨rfl, rfl⟩)
                  | (go_at_call 69; refine (CB.out _).mono ?_; rintro e w1 ⟨rfl, rfl⟩))
                go_ret
                exact ⟨by rw [hS.out]; rfl, hb1.out⟩
            · go_enter Try.func37, Try.ntmps37
              go_wp2_with (first
                | (go_at_call 33; refine (CA.out _).mono ?_; rintro e w1 ⟨rfl, rfl⟩)
                | (go_at_call 69; refine (CB.out _).mono ?_; rintro e w1 ⟨rfl, rfl⟩))
              go_ret
              exact ⟨by rw [hS.out]; rfl, hb1.out⟩
          · go_enter Try.func37, Try.ntmps37
            go_wp2_with (first
              | (go_at_call 33; refine (CA.out _).mono ?_; rintro e w1 ⟨rfl, rfl⟩)
              | (go_at_call 69; refine (CB.out _).mono ?_; rintro e w1 ⟨rfl, rfl⟩))
            go_ret
            exact ⟨by rw [hS.out]; rfl, hb1.out⟩
      · cases b3
        · cases b4
          · cases pb
            · cases b7
              · go_enter Try.func37, Try.ntmps37
                go_wp2_with (first
                  | (go_at_call 33; refine (CA.out _).mono ?_; rintro e w1 ⟨rfl, rfl⟩)
                  | (go_at_call 69; refine (CB.out _).mono ?_; rintro e w1 ⟨rfl, rfl⟩))
                go_ret
                exact ⟨by rw [hS.out]; rfl, hb1.out⟩
              · go_enter Try.func37, Try.ntmps37
                go_wp2_with (first
                  | (go_at_call 33; refine (CA.out _).mono ?_; rintro e w1 ⟨rfl, rfl⟩)
                  | (go_at_call 69; refine (CB.out _).mono ?_; rintro e w1 ⟨rfl, rfl⟩))
                go_ret
                exact ⟨by rw [hS.out]; rfl, hb1.out⟩
            · go_enter Try.func37, Try.ntmps37
              go_wp2_with (first
                | (go_at_call 33; refine (CA.out _).mono ?_; rintro e w1 ⟨rfl, rfl⟩)
                | (go_at_call 69; refine (CB.out _).mono ?_; rintro e w1 ⟨rfl, rfl⟩))
              go_ret
              exact ⟨by rw [hS.out]; rfl, hb1.out⟩
          · cases b5
            · cases b6
              · cases pb
                · cases b7
                  · go_enter Try.func37, Try.ntmps37
                    go_wp2_with (first
                      | (go_at_call 33; refine (CA.out _).mono ?_; rintro e w1 ⟨rfl, rfl⟩)
                      | (go_at_call 69; refine (CB.out _).mono ?_; rintro e w1 ⟨rfl, rfl⟩))
                    go_ret
                    exact ⟨by rw [hS.out]; rfl, hb1.out⟩
                  · go_enter Try.func37, Try.ntmps37
                    go_wp2_with (first
                      | (go_at_call 33; refine (CA.out _).mono ?_; rintro e w1 ⟨rfl, rfl⟩)
                      | (go_at_call 69; refine (CB.out _).mono ?_; rintro e w1 ⟨rfl, rfl⟩))
                    go_ret
                    exact ⟨by rw [hS.out]; rfl, hb1.out⟩
                · go_enter Try.func37, Try.ntmps37
                  go_wp2_with (first
                    | (go_at_call 33; refine (CA.out _).mono ?_; rintro e w1 ⟨rfl, rfl⟩)
                    | (go_at_call 69; refine (CB.out _).mono ?_; rintro e w1 ⟨rfl, rfl⟩))
                  go_ret
                  exact ⟨by rw [hS.out]; rfl, hb1.out⟩
              · go_enter Try.func37, Try.ntmps37
                go_wp2_with (first
                  | (go_at_call 33; refine (CA.out _).mono ?_; rintro e w1 ⟨rfl, rfl⟩)
                  | (go_at_call 69; refine (CB.out _).mono ?_; rintro e w1 ⟨rfl, rfl⟩))
                go_ret
                exact ⟨by rw [hS.out]; rfl, hb1.out⟩
            · go_enter Try.func37, Try.ntmps37
              go_wp2_with (first
                | (go_at_call 33; refine (CA.out _).mono ?_; rintro e w1 ⟨rfl, rfl⟩)
                | (go_at_call 69; refine (CB.out _).mono ?_; rintro e w1 ⟨rfl, rfl⟩))
              go_ret
              exact ⟨by rw [hS.out]; rfl, hb1.out⟩
        · go_enter Try.func37, Try.ntmps37
          go_wp2_with (first
            | (go_at_call 33; refine (CA.out _).mono ?_; rintro e w1 ⟨rfl, rfl⟩)
            | (go_at_call 69; refine (CB.out _).mono ?_; rintro e w1 ⟨rfl, rfl⟩))
          go_ret
          exact ⟨by rw [hS.out]; rfl, hb1.out⟩
    · go_enter Try.func37, Try.ntmps37
      go_wp2_with (first
        | (go_at_call 33; refine (CA.out _).mono ?_; rintro e w1 ⟨rfl, rfl⟩)
        | (go_at_call 69; refine (CB.out _).mono ?_; rintro e w1 ⟨rfl, rfl⟩))
      go_ret
      exact ⟨by rw [hS.out]; rfl, hb1.out⟩
  · cases b2
    · cases b4
      · cases pb
        · cases b7
          · go_enter Try.func37, Try.ntmps37
            go_wp2_with (first
              | (go_at_call 33; refine (CA.out _).mono ?_; rintro e w1 ⟨rfl, rfl⟩)
              | (go_at_call 69; refine (CB.out _).mono ?_; rintro e w1 ⟨rfl, rfl⟩))
            go_ret
            exact ⟨by rw [hS.out]; rfl, hb1.out⟩
          · go_enter Try.func37, Try.ntmps37
            go_wp2_with (first
              | (go_at_call 33; refine (CA.out _).mono ?_; rintro e w1 ⟨rfl, rfl⟩)
              | (go_at_call 69; refine (CB.out _).mono ?_; rintro e w1 ⟨rfl, rfl⟩))
            go_ret
            exact ⟨by rw [hS.out]; rfl, hb1.out⟩
        · go_enter Try.func37, Try.ntmps37
          go_wp2_with (first
            | (go_at_call 33; refine (CA.out _).mono ?_; rintro e w1 ⟨rfl, rfl⟩)
            | (go_at_call 69; refine (CB.out _).mono ?_; rintro e w1 ⟨rfl, rfl⟩))
          go_ret
          exact ⟨by rw [hS.out]; rfl, hb1.out⟩
      · cases b5
        · cases b6
          · cases pb
            · cases b7
              · go_enter Try.func37, Try.ntmps37
                go_wp2_with (first
                  | (go_at_call 33; refine (CA.out _).mono ?_; rintro e w1 ⟨rfl, rfl⟩)
                  | (go_at_call 69; refine (CB.out _).mono ?_; rintro e w1 ⟨rfl, rfl⟩))
                go_ret
                exact ⟨by rw [hS.out]; rfl, hb1.out⟩
              · go_enter Try.func37, Try.ntmps37
                go_wp2_with (first
                  | (go_at_call 33; refine (CA.out _).mono ?_; rintro e w1 ⟨rfl, rfl⟩)
                  | (go_at_call 69; refine (CB.out _).mono ?_; rintro e w1 ⟨rfl, rfl⟩))
                go_ret
                exact ⟨by rw [hS.out]; rfl, hb1.out⟩
            · go_enter Try.func37, Try.ntmps37
              go_wp2_with (first
                | (go_at_call 33; refine (CA.out _).mono ?_; rintro e w1 ⟨rfl, rfl⟩)
                | (go_at_call 69; refine (CB.out _).mono ?_; rintro e w1 ⟨rfl, rfl⟩))
              go_ret
              exact ⟨by rw [hS.out]; rfl, hb1.out⟩
          · go_enter Try.func37, Try.ntmps37
            go_wp2_with (first
              | (go_at_call 33; refine (CA.out _).mono ?_; rintro e w1 ⟨rfl, rfl⟩)
              | (go_at_call 69; refine (CB.out _).mono ?_; rintro e w1 ⟨rfl, rfl⟩))
            go_ret
            exact ⟨by rw [hS.out]; rfl, hb1.out⟩
        · go_enter Try.func37, Try.ntmps37
          go_wp2_with (first
            | (go_at_call 33; refine (CA.out _).mono ?_; rintro e w1 ⟨rfl, rfl⟩)
            | (go_at_call 69; refine (CB.out _).mono ?_; rintro e w1 ⟨rfl, rfl⟩))
          go_ret
          exact ⟨by rw [hS.out]; rfl, hb1.out⟩
    · cases b3
      · cases b4
        · cases pb
          · cases b7
            · go_enter Try.func37, Try.ntmps37
              go_wp2_with (first
                | (go_at_call 33; refine (CA.out _).mono ?_; rintro e w1 ⟨rfl, rfl⟩)
                | (go_at_call 69; refine (CB.out _).mono ?_; rintro e w1 ⟨rfl, rfl⟩))
              go_ret
              exact ⟨by rw [hS.out]; rfl, hb1.out⟩
            · go_enter Try.func37, Try.ntmps37
              go_wp2_with (first
                | (go_at_call 33; refine (CA.out _).mono ?_; rintro e w1 ⟨rfl, rfl⟩)
                | (go_at_call 69; refine (CB.out _).mono ?_; rintro e w1 ⟨rfl, rfl⟩))
              go_ret
              exact ⟨by rw [hS.out]; rfl, hb1.out⟩
          · go_enter Try.func37, Try.ntmps37
            go_wp2_with (first
              | (go_at_call 33; refine (CA.out _).mono ?_; rintro e w1 ⟨rfl, rfl⟩)
              | (go_at_call 69; refine (CB.out _).mono ?_; rintro e w1 ⟨rfl, rfl⟩))
            go_ret
            exact ⟨by rw [hS.out]; rfl, hb1.out⟩
        · cases b5
          · cases b6
            · cases pb
              · cases b7
                · go_enter Try.func37, Try.ntmps37
                  go_wp2_with (first
                    | (go_at_call 33; refine (CA.out _).mono ?_; rintro e w1 ⟨rfl, rfl⟩)
                    | (go_at_call 69; refine (CB.out _).mono ?_; rintro e w1 ⟨rfl, rfl⟩))
                  go_ret
                  exact ⟨by rw [hS.out]; rfl, hb1.out⟩
                · go_enter Try.func37, Try.ntmps37
                  go_wp2_with (first
                    | (go_at_call 33; refine (CA.out _).mono ?_; rintro e w1 ⟨rfl, rfl⟩)
                    | (go_at_call 69; refine (CB.out _).mono ?_; rintro e w1 ⟨rfl, rfl⟩))
                  go_ret
                  exact ⟨by rw [hS.out]; rfl, hb1.out⟩
              · go_enter Try.func37, Try.ntmps37
                go_wp2_with (first
                  | (go_at_call 33; refine (CA.out _).mono ?_; rintro e w1 ⟨rfl, rfl⟩)
                  | (go_at_call 69; refine (CB.out _).mono ?_; rintro e w1 ⟨rfl, rfl⟩))
                go_ret
                exact ⟨by rw [hS.out]; rfl, hb1.out⟩
            · go_enter Try.func37, Try.ntmps37
              go_wp2_with (first
                | (go_at_call 33; refine (CA.out _).mono ?_; rintro e w1 ⟨rfl, rfl⟩)
                | (go_at_call 69; refine (CB.out _).mono ?_; rintro e w1 ⟨rfl, rfl⟩))
              go_ret
              exact ⟨by rw [hS.out]; rfl, hb1.out⟩
          · go_enter Try.func37, Try.ntmps37
            go_wp2_with (first
              | (go_at_call 33; refine (CA.out _).mono ?_; rintro e w1 ⟨rfl, rfl⟩)
              | (go_at_call 69; refine (CB.out _).mono ?_; rintro e w1 ⟨rfl, rfl⟩))
            go_ret
            exact ⟨by rw [hS.out]; rfl, hb1.out⟩
      · go_enter Try.func37, Try.ntmps37
        go_wp2_with (first
          | (go_at_call 33; refine (CA.out _).mono ?_; rintro e w1 ⟨rfl, rfl⟩)
          | (go_at_call 69; refine (CB.out _).mono ?_; rintro e w1 ⟨rfl, rfl⟩))
        go_ret
        exact ⟨by rw [hS.out]; rfl, hb1.out⟩
end Go.Proofs.Ytkjojfcknfhkhaa.Pkt
