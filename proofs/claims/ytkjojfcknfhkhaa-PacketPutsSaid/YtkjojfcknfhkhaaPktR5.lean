/- The document's Check of a packet: its contract. -/
import Derived.Test.YtkjojfcknfhkhaaPktR4
namespace Go.Proofs.Ytkjojfcknfhkhaa.Pkt
open Go.ChangeShapes Go.WideShapes Go.ChangeAt Go.RowKit
open Go.Proofs.Ytkjojfcknfhkhaa.Opt (O OptsAt Fit RefSize_any RefCheck_any)
open Go.Proofs.Ytkjojfcknfhkhaa.Head (refSize_any refAcks_any refBears_any below_drewN rowOf sizeOf_mid acks bears refCheck_any isOff isOff_fits)
set_option linter.unusedVariables false

theorem cov_second (d : ByteArray) (c : Int) : (Inet.covc ⟨#[]⟩ d c).2 = covers d.size c := by
  unfold Inet.covc covers
  by_cases h1 : c < 0 ∨ 15 < c
  · rw [if_pos h1]
    have : ¬ (0 ≤ c ∧ c ≤ 15) := by omega
    simp [this]
  · rw [if_neg h1]
    have h2 : 0 ≤ c ∧ c ≤ 15 := by omega
    by_cases h3 : c = 0
    · rw [if_pos h3]; simp [h3]
    · rw [if_neg h3]
      by_cases h4 : (d.size : Int) < 4 * (c - 1)
      · rw [if_pos h4]; simp [h2, h3]; omega
      · rw [if_neg h4]; simp [h2, h3]; omega

set_option maxRecDepth 100000 in
set_option maxHeartbeats 40000000 in
theorem Check_any (p : K) (hl : Fit p.opts) (hd : p.data.size ≤ 4000) (a : Option Addr) (cap : Nat) (w : World) (h : OptsAt w a p.opts) :
    Calls Try.prog 11 #[.agg #[.int .i64 p.kind, .bool p.long, .int .i64 p.src, .int .i64 p.dst, .int .i64 p.cc, .int .i64 p.cover, .int .i64 p.seq, .int .i64 p.ack, .int .i64 p.service, .int .i64 p.code, .int .i64 p.detail, .slice a p.opts.length cap, .string p.data]] w fun e w' => e = .returned (.int .i64 (check p)) ∧ Below w.heap.size w w' := by
  have hc := Lib.hid (show check p = if Head.check (begins p 0) ≠ 0 then Head.check (begins p 0) else if ranged p = false then 3 else if Opt.check p.opts ≠ 0 then Opt.check p.opts else if 200 < p.data.size then 11 else if spare p = true then 4 else if covers p.data.size p.cover = false then 3 else 0 from rfl)
  rw [ranged_off] at hc
  have hU := Lib.hid (show unranged p = ((acks p.kind && ((p.long && isOff p.ack 281474976710656) || (!p.long && isOff p.ack 16777216))) || ((decide (p.kind < 2) && isOff p.service 4294967296) || ((p.kind == 7) && (isOff p.code 256 || isOff p.detail 16777216)))) from rfl)
  have hbox := BoxK.new w p a cap
  have hb1 := (Below.refl w.heap.size w).alloc (Nat.le_refl _) (.cells #[.int .i64 p.kind, .bool p.long, .int .i64 p.src, .int .i64 p.dst, .int .i64 p.cc, .int .i64 p.cover, .int .i64 p.seq, .int .i64 p.ack, .int .i64 p.service, .int .i64 p.code, .int .i64 p.detail, .slice a p.opts.length cap, .string p.data] 24)
  have HO := Lib.hid (h.below hb1)
  have CB := Lib.hid (begin_any p hl a cap _ HO.out)
  have CH := Lib.hid (fun w => refCheck_any (begins p 0) w)
  have CO := Lib.hid (fun w (h : OptsAt w a p.opts) => RefCheck_any p.opts hl a cap w h)
  have CS := Lib.hid (fun w => spare_any p a cap w)
  have CC := Lib.hid (fun w => Inet.refCovered_any ⟨#[]⟩ p.data p.cover w (by decide) hd)
  unfold Inet.covVal at CC
  rw [cov_second] at CC
  have CA := Lib.hid (fun w => refAcks_any p.kind w)
  have hsz : (w.alloc (.cells #[.int .i64 p.kind, .bool p.long, .int .i64 p.src, .int .i64 p.dst, .int .i64 p.cc, .int .i64 p.cover, .int .i64 p.seq, .int .i64 p.ack, .int .i64 p.service, .int .i64 p.code, .int .i64 p.detail, .slice a p.opts.length cap, .string p.data] 24)).heap.size = w.heap.size + 1 := by simp
  generalize check p = C at *
  generalize Head.check (begins p 0) = c0 at *
  generalize Opt.check p.opts = c1 at *
  generalize spare p = sp at *
  generalize covers p.data.size p.cover = cov at *
  generalize (Inet.covc ⟨#[]⟩ p.data p.cover).1 = ct at *
  obtain ⟨un, hun⟩ : ∃ un, unranged p = un := ⟨_, rfl⟩
  rw [hun] at hc hU
  have HB1 := Lib.hid hb1
  have H0 := Lib.hid h
  clear hb1 hl h hun
  go_enter Try.func11, Try.ntmps11
  go_wp2_with fail
  refine CB.out.mono ?_
  rintro e w1 ⟨rfl, h1⟩
  have k1 := hbox.below h1 (by rw [hsz]; exact Nat.lt_succ_self _)
  have b1 := HB1.out.trans (h1.mono HB1.out.size)
  clear hbox h1 hsz CB HO HB1
  go_wp2_with fail
  refine (CH.out _).mono ?_
  rintro e w2 ⟨rfl, h2⟩
  have k2 := k1.below h2 k1.lt
  have b2' := b1.trans (h2.mono b1.size)
  clear k1 b1 h2 CH
  obtain ⟨A, hA⟩ : ∃ A, w.heap.size = A := ⟨_, rfl⟩
  by_cases hc0 : c0 = 0
  case neg =>
    have hcb : (c0 == 0) = false := by simpa using hc0
    have HC := Lib.hid (hc.out.trans (if_pos hc0))
    go_wp2_with fail
    go_ret
    exact ⟨by rw [HC.out]; rfl, b2'⟩
  subst hc0
  replace hc := Lib.hid (hc.out.trans (if_neg (fun h => h rfl)))
  have hcb : ((0 : Int) != 0) = false := rfl
  rw [hA] at k2
  go_upto_region 4 with fail
  go_cut [59] (fun c wx => c = .bool un ∧ wx = w2)
  case first =>
    clear CO CS CC hc H0
    obtain ⟨y0, y1, y2, y3, y4, y5, y6, y7, y8, y9, y10, y11, y12⟩ := k2.cell
    obtain ⟨k, l, s, d, cc, cv, q, ak, sv, co, de, os, da⟩ := p
    dsimp only at *
    obtain ⟨pa, ep⟩ : ∃ b, acks k = b := ⟨_, rfl⟩
    obtain ⟨o0, e0⟩ : ∃ b, isOff ak 16777216 = b := ⟨_, rfl⟩
    obtain ⟨o1, e1⟩ : ∃ b, isOff ak 281474976710656 = b := ⟨_, rfl⟩
    obtain ⟨b2, e2⟩ : ∃ b, decide (k < 2) = b := ⟨_, rfl⟩
    obtain ⟨o2, e3⟩ : ∃ b, isOff sv 4294967296 = b := ⟨_, rfl⟩
    obtain ⟨b7, e4⟩ : ∃ b, (k == 7) = b := ⟨_, rfl⟩
    obtain ⟨o3, e5⟩ : ∃ b, isOff co 256 = b := ⟨_, rfl⟩
    obtain ⟨o4, e6⟩ : ∃ b, isOff de 16777216 = b := ⟨_, rfl⟩
    rw [ep, e0, e1, e2, e3, e4, e5, e6] at hU
    rw [ep] at CA
    cases pa
    · cases b2
      · cases b7
        · go_wp2_with (first
            | (go_at_call 33; refine (CA.out _).mono ?_; rintro e w9 ⟨rfl, rfl⟩)
            | (go_at_call 34; refine (off10_is _ _ _).mono ?_; rintro e w9 ⟨rfl, rfl⟩))
          go_meet
          exact ⟨by rw [hU.out]; rfl, rfl⟩
        · cases o3
          · cases o4
            · go_wp2_with (first
                | (go_at_call 33; refine (CA.out _).mono ?_; rintro e w9 ⟨rfl, rfl⟩)
                | (go_at_call 34; refine (off10_is _ _ _).mono ?_; rintro e w9 ⟨rfl, rfl⟩))
              go_meet
              exact ⟨by rw [hU.out]; rfl, rfl⟩
            · go_wp2_with (first
                | (go_at_call 33; refine (CA.out _).mono ?_; rintro e w9 ⟨rfl, rfl⟩)
                | (go_at_call 34; refine (off10_is _ _ _).mono ?_; rintro e w9 ⟨rfl, rfl⟩))
              go_meet
              exact ⟨by rw [hU.out]; rfl, rfl⟩
          · go_wp2_with (first
              | (go_at_call 33; refine (CA.out _).mono ?_; rintro e w9 ⟨rfl, rfl⟩)
              | (go_at_call 34; refine (off10_is _ _ _).mono ?_; rintro e w9 ⟨rfl, rfl⟩))
            go_meet
            exact ⟨by rw [hU.out]; rfl, rfl⟩
      · cases o2
        · cases b7
          · go_wp2_with (first
              | (go_at_call 33; refine (CA.out _).mono ?_; rintro e w9 ⟨rfl, rfl⟩)
              | (go_at_call 34; refine (off10_is _ _ _).mono ?_; rintro e w9 ⟨rfl, rfl⟩))
            go_meet
            exact ⟨by rw [hU.out]; rfl, rfl⟩
          · cases o3
            · cases o4
              · go_wp2_with (first
                  | (go_at_call 33; refine (CA.out _).mono ?_; rintro e w9 ⟨rfl, rfl⟩)
                  | (go_at_call 34; refine (off10_is _ _ _).mono ?_; rintro e w9 ⟨rfl, rfl⟩))
                go_meet
                exact ⟨by rw [hU.out]; rfl, rfl⟩
              · go_wp2_with (first
                  | (go_at_call 33; refine (CA.out _).mono ?_; rintro e w9 ⟨rfl, rfl⟩)
                  | (go_at_call 34; refine (off10_is _ _ _).mono ?_; rintro e w9 ⟨rfl, rfl⟩))
                go_meet
                exact ⟨by rw [hU.out]; rfl, rfl⟩
            · go_wp2_with (first
                | (go_at_call 33; refine (CA.out _).mono ?_; rintro e w9 ⟨rfl, rfl⟩)
                | (go_at_call 34; refine (off10_is _ _ _).mono ?_; rintro e w9 ⟨rfl, rfl⟩))
              go_meet
              exact ⟨by rw [hU.out]; rfl, rfl⟩
        · go_wp2_with (first
            | (go_at_call 33; refine (CA.out _).mono ?_; rintro e w9 ⟨rfl, rfl⟩)
            | (go_at_call 34; refine (off10_is _ _ _).mono ?_; rintro e w9 ⟨rfl, rfl⟩))
          go_meet
          exact ⟨by rw [hU.out]; rfl, rfl⟩
    · cases l
      · cases o0
        · cases b2
          · cases b7
            · go_wp2_with (first
                | (go_at_call 33; refine (CA.out _).mono ?_; rintro e w9 ⟨rfl, rfl⟩)
                | (go_at_call 34; refine (off10_is _ _ _).mono ?_; rintro e w9 ⟨rfl, rfl⟩))
              go_meet
              exact ⟨by rw [hU.out]; rfl, rfl⟩
            · cases o3
              · cases o4
                · go_wp2_with (first
                    | (go_at_call 33; refine (CA.out _).mono ?_; rintro e w9 ⟨rfl, rfl⟩)
                    | (go_at_call 34; refine (off10_is _ _ _).mono ?_; rintro e w9 ⟨rfl, rfl⟩))
                  go_meet
                  exact ⟨by rw [hU.out]; rfl, rfl⟩
                · go_wp2_with (first
                    | (go_at_call 33; refine (CA.out _).mono ?_; rintro e w9 ⟨rfl, rfl⟩)
                    | (go_at_call 34; refine (off10_is _ _ _).mono ?_; rintro e w9 ⟨rfl, rfl⟩))
                  go_meet
                  exact ⟨by rw [hU.out]; rfl, rfl⟩
              · go_wp2_with (first
                  | (go_at_call 33; refine (CA.out _).mono ?_; rintro e w9 ⟨rfl, rfl⟩)
                  | (go_at_call 34; refine (off10_is _ _ _).mono ?_; rintro e w9 ⟨rfl, rfl⟩))
                go_meet
                exact ⟨by rw [hU.out]; rfl, rfl⟩
          · cases o2
            · cases b7
              · go_wp2_with (first
                  | (go_at_call 33; refine (CA.out _).mono ?_; rintro e w9 ⟨rfl, rfl⟩)
                  | (go_at_call 34; refine (off10_is _ _ _).mono ?_; rintro e w9 ⟨rfl, rfl⟩))
                go_meet
                exact ⟨by rw [hU.out]; rfl, rfl⟩
              · cases o3
                · cases o4
                  · go_wp2_with (first
                      | (go_at_call 33; refine (CA.out _).mono ?_; rintro e w9 ⟨rfl, rfl⟩)
                      | (go_at_call 34; refine (off10_is _ _ _).mono ?_; rintro e w9 ⟨rfl, rfl⟩))
                    go_meet
                    exact ⟨by rw [hU.out]; rfl, rfl⟩
                  · go_wp2_with (first
                      | (go_at_call 33; refine (CA.out _).mono ?_; rintro e w9 ⟨rfl, rfl⟩)
                      | (go_at_call 34; refine (off10_is _ _ _).mono ?_; rintro e w9 ⟨rfl, rfl⟩))
                    go_meet
                    exact ⟨by rw [hU.out]; rfl, rfl⟩
                · go_wp2_with (first
                    | (go_at_call 33; refine (CA.out _).mono ?_; rintro e w9 ⟨rfl, rfl⟩)
                    | (go_at_call 34; refine (off10_is _ _ _).mono ?_; rintro e w9 ⟨rfl, rfl⟩))
                  go_meet
                  exact ⟨by rw [hU.out]; rfl, rfl⟩
            · go_wp2_with (first
                | (go_at_call 33; refine (CA.out _).mono ?_; rintro e w9 ⟨rfl, rfl⟩)
                | (go_at_call 34; refine (off10_is _ _ _).mono ?_; rintro e w9 ⟨rfl, rfl⟩))
              go_meet
              exact ⟨by rw [hU.out]; rfl, rfl⟩
        · go_wp2_with (first
            | (go_at_call 33; refine (CA.out _).mono ?_; rintro e w9 ⟨rfl, rfl⟩)
            | (go_at_call 34; refine (off10_is _ _ _).mono ?_; rintro e w9 ⟨rfl, rfl⟩))
          go_meet
          exact ⟨by rw [hU.out]; rfl, rfl⟩
      · cases o1
        · cases b2
          · cases b7
            · go_wp2_with (first
                | (go_at_call 33; refine (CA.out _).mono ?_; rintro e w9 ⟨rfl, rfl⟩)
                | (go_at_call 34; refine (off10_is _ _ _).mono ?_; rintro e w9 ⟨rfl, rfl⟩))
              go_meet
              exact ⟨by rw [hU.out]; rfl, rfl⟩
            · cases o3
              · cases o4
                · go_wp2_with (first
                    | (go_at_call 33; refine (CA.out _).mono ?_; rintro e w9 ⟨rfl, rfl⟩)
                    | (go_at_call 34; refine (off10_is _ _ _).mono ?_; rintro e w9 ⟨rfl, rfl⟩))
                  go_meet
                  exact ⟨by rw [hU.out]; rfl, rfl⟩
                · go_wp2_with (first
                    | (go_at_call 33; refine (CA.out _).mono ?_; rintro e w9 ⟨rfl, rfl⟩)
                    | (go_at_call 34; refine (off10_is _ _ _).mono ?_; rintro e w9 ⟨rfl, rfl⟩))
                  go_meet
                  exact ⟨by rw [hU.out]; rfl, rfl⟩
              · go_wp2_with (first
                  | (go_at_call 33; refine (CA.out _).mono ?_; rintro e w9 ⟨rfl, rfl⟩)
                  | (go_at_call 34; refine (off10_is _ _ _).mono ?_; rintro e w9 ⟨rfl, rfl⟩))
                go_meet
                exact ⟨by rw [hU.out]; rfl, rfl⟩
          · cases o2
            · cases b7
              · go_wp2_with (first
                  | (go_at_call 33; refine (CA.out _).mono ?_; rintro e w9 ⟨rfl, rfl⟩)
                  | (go_at_call 34; refine (off10_is _ _ _).mono ?_; rintro e w9 ⟨rfl, rfl⟩))
                go_meet
                exact ⟨by rw [hU.out]; rfl, rfl⟩
              · cases o3
                · cases o4
                  · go_wp2_with (first
                      | (go_at_call 33; refine (CA.out _).mono ?_; rintro e w9 ⟨rfl, rfl⟩)
                      | (go_at_call 34; refine (off10_is _ _ _).mono ?_; rintro e w9 ⟨rfl, rfl⟩))
                    go_meet
                    exact ⟨by rw [hU.out]; rfl, rfl⟩
                  · go_wp2_with (first
                      | (go_at_call 33; refine (CA.out _).mono ?_; rintro e w9 ⟨rfl, rfl⟩)
                      | (go_at_call 34; refine (off10_is _ _ _).mono ?_; rintro e w9 ⟨rfl, rfl⟩))
                    go_meet
                    exact ⟨by rw [hU.out]; rfl, rfl⟩
                · go_wp2_with (first
                    | (go_at_call 33; refine (CA.out _).mono ?_; rintro e w9 ⟨rfl, rfl⟩)
                    | (go_at_call 34; refine (off10_is _ _ _).mono ?_; rintro e w9 ⟨rfl, rfl⟩))
                  go_meet
                  exact ⟨by rw [hU.out]; rfl, rfl⟩
            · go_wp2_with (first
                | (go_at_call 33; refine (CA.out _).mono ?_; rintro e w9 ⟨rfl, rfl⟩)
                | (go_at_call 34; refine (off10_is _ _ _).mono ?_; rintro e w9 ⟨rfl, rfl⟩))
              go_meet
              exact ⟨by rw [hU.out]; rfl, rfl⟩
        · go_wp2_with (first
            | (go_at_call 33; refine (CA.out _).mono ?_; rintro e w9 ⟨rfl, rfl⟩)
            | (go_at_call 34; refine (off10_is _ _ _).mono ?_; rintro e w9 ⟨rfl, rfl⟩))
          go_meet
          exact ⟨by rw [hU.out]; rfl, rfl⟩
  case rest =>
    obtain ⟨rfl, rfl⟩ := hcut
    clear CA hU
    cases un
    case true =>
      have HC := Lib.hid (hc.out.trans (if_pos rfl))
      go_wp2_with fail
      go_ret
      exact ⟨by rw [HC.out]; rfl, b2'⟩
    replace hc := Lib.hid (hc.out.trans (if_neg (by decide)))
    obtain ⟨y0, y1, y2, y3, y4, y5, y6, y7, y8, y9, y10, y11, y12⟩ := k2.cell
    go_wp2_with fail
    refine (CO.out _ (H0.out.below b2')).mono ?_
    rintro e w3 ⟨rfl, h3⟩
    have k3 := k2.below h3 k2.lt
    have b3 := b2'.trans (h3.mono b2'.size)
    clear y0 y1 y2 y3 y4 y5 y6 y7 y8 y9 y10 y11 y12 k2 b2' h3 CO H0
    by_cases hc1 : c1 = 0
    case neg =>
      have hcb1 : (c1 == 0) = false := by simpa using hc1
      have HC := Lib.hid (hc.out.trans (if_pos hc1))
      go_wp2_with fail
      go_ret
      exact ⟨by rw [HC.out]; rfl, b3⟩
    subst hc1
    replace hc := Lib.hid (hc.out.trans (if_neg (fun h => h rfl)))
    obtain ⟨y0, y1, y2, y3, y4, y5, y6, y7, y8, y9, y10, y11, y12⟩ := k3.cell
    by_cases h200 : 200 < p.data.size
    · have HC := Lib.hid (hc.out.trans (if_pos h200))
      have h200' : (200 : Int) < p.data.size := by omega
      go_wp2_with fail
      refine (CC.out _).mono ?_
      rintro e w4 ⟨rfl, h4⟩
      subst h4
      go_wp2_with fail
      go_ret
      exact ⟨by rw [HC.out]; rfl, b3⟩
    replace hc := Lib.hid (hc.out.trans (if_neg h200))
    have h200' : ¬ (200 : Int) < p.data.size := by omega
    go_wp2_with fail
    refine (CC.out _).mono ?_
    rintro e w4 ⟨rfl, h4⟩
    subst h4
    go_wp2_with (refine wpList_load_row rfl 24 _ rfl A rfl 24 _ _ _ k3 Try.underlying24 rfl (hi13 _ _ _ _ _ _ _ _ _ _ _ _ _) ?_)
    refine (CS.out _).mono ?_
    rintro e w5 ⟨rfl, h5⟩
    have b5 := b3.trans (h5.mono b3.size)
    cases sp
    case true =>
      have HC := Lib.hid (hc.out.trans (if_pos rfl))
      go_wp2_with fail
      go_ret
      exact ⟨by rw [HC.out]; rfl, b5⟩
    replace hc := Lib.hid (hc.out.trans (if_neg (by decide)))
    cases cov
    case false =>
      have HC := Lib.hid (hc.out.trans (if_pos rfl))
      go_wp2_with fail
      go_ret
      exact ⟨by rw [HC.out]; rfl, b5⟩
    have HC := Lib.hid (hc.out.trans (if_neg (by decide)))
    go_wp2_with fail
    go_ret
    exact ⟨by rw [HC.out]; rfl, b5⟩
end Go.Proofs.Ytkjojfcknfhkhaa.Pkt
