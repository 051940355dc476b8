/- The walk of OptsFinds. -/
import Derived.Test.YtphlleibhghhpaaOptW1
import Derived.Test.YtphlleibhghhpaaOptArg
namespace Go.Proofs.Ytphlleibhghhpaa.Opt
open Go.ChangeShapes Go.WideShapes Go.ChangeAt Go.RowKit
set_option linter.unusedVariables false

theorem OptsFinds_open0 {H : Type} {enc : TypeId × Value → H} {W : World} {a : Option Addr} {len cap : Nat} {d : DataW H} {p : List MemPlace}
    (h : DataW.Trod enc Try.prog W 0 (fun _ => true) true 23 (.slice a len cap) d p) : IsOpts W a len := isOpts_open h

/-- what has been found, as far as was looked -/
def FoundAt (q : Int) (l : List O) (k : Nat) (x s : Value) : Prop :=
  ∃ (v : ByteArray) (b : Bool), x = .string v ∧ s = .bool b ∧ ((b = false ∧ v = ⟨#[]⟩ ∧ found q (l.drop k) = found q l) ∨ (b = true ∧ found q l = some v))
def MustAt (q : Int) (l : List O) (k : Nat) (m : Value) : Prop := ∃ b : Bool, m = .bool b ∧ (b || must q (l.drop (k - 1))) = must q l

set_option maxRecDepth 100000 in
set_option maxHeartbeats 1000000 in
theorem OptsFinds_walk (a1 : Option Addr) (len cap : Nat) (q : Int) (W : World) (h : IsOpts W a1 len) (w1 : (Lit.int .i64 q).wf = true) :
    Calls Try.prog 4 #[.slice a1 len cap, .int .i64 q] W fun e w' => e = .returned (.bool true) ∧ Below W.heap.size W w' := by
  obtain ⟨l, rfl, hat, hlm, hvm⟩ := h
  clear w1
  go_enter Try.func4, Try.ntmps4
  go_wp2_with fail
  refine (works_any _).mono ?_
  rintro e w1 ⟨rfl, h1⟩
  have hat1 := hat.below h1
  clear hat
  go_wp2_with fail
  refine (Great_any l hlm a1 cap w1 hat1 hvm).mono ?_
  rintro e w2 ⟨rfl | ⟨rfl, hfit⟩, rfl⟩
  · go_wp2_with fail
    go_returns
    exact ⟨rfl, h1⟩
  · clear hlm hvm
    have Hat := Lib.hid hat1
    have Hfit := Lib.hid hfit
    have hlen := hfit.1
    clear hat1 hfit
    go_wp2_with fail
    refine (Find_any l Hfit.out q a1 cap w2 Hat.out).mono ?_
    rintro e w3 ⟨rfl, h3⟩
    have hb := h1.trans (h3.mono h1.size)
    have Hat3 := Lib.hid (Hat.out.below h3)
    clear h1 h3 Hat
    obtain ⟨fv, hfv⟩ : ∃ fv, (found q l).getD ⟨#[]⟩ = fv := ⟨_, rfl⟩
    obtain ⟨fb, hfb⟩ : ∃ fb, (found q l).isSome = fb := ⟨_, rfl⟩
    rw [hfv, hfb]
    have Hfv := Lib.hid hfv
    have Hfb := Lib.hid hfb
    clear hfv hfb
    go_wp2_with fail
    go_loopw [7, 8, 9, 10] (fun x s m i wr => ∃ k : Nat, k ≤ l.length ∧ i = .int .i64 k ∧ FoundAt q l k x s ∧ MustAt q l k m ∧ wr = w3) (fun _ _ _ i _ => l.length - (intOf i).toNat)
    case atStart => exact ⟨0, by omega, rfl, ⟨_, _, rfl, rfl, .inl ⟨rfl, rfl, by simp⟩⟩, ⟨_, rfl, by simp⟩, rfl⟩
    case round =>
      obtain ⟨k, hk, rfl, ⟨v0, b0, rfl, rfl, hf⟩, ⟨m0, rfl, hm⟩, rfl⟩ := hrel
      have Hf := Lib.hid hf
      have Hm := Lib.hid hm
      clear hf hm
      by_cases hlt : k < l.length
      · obtain ⟨⟨p, v⟩, hi⟩ := some_at hlt
        obtain ⟨b, off, rfl, hb0, hc0, hc1⟩ := Hat3.out.cell (Below.refl _ _) hi
        dsimp only at hc0 hc1
        have Hdr := Lib.hid (show found q (l.drop k) = if p = q then some v else found q (l.drop (k + 1)) by rw [drop_at hi]; rfl)
        by_cases hq : p = q
        · subst hq
          have Hnew : ∃ x : ByteArray, (if b0 = true then v0 else v) = x ∧ found p l = some x := by
            rcases Hf.out with ⟨h1, h2, h3⟩ | ⟨h1, h2⟩
            · subst h1
              exact ⟨v, rfl, by rw [← h3, Hdr.out, if_pos rfl]⟩
            · subst h1
              exact ⟨v0, rfl, h2⟩
          obtain ⟨x, hx, hxf⟩ := Hnew
          have Hxf := Lib.hid hxf
          clear hxf Hdr Hf
          cases m0 with
          | true =>
            have Hm1 := Lib.hid (show (true || must p (l.drop (k + 1 - 1))) = must p l by rw [← Hm.out]; rfl)
            cases b0 with
            | false =>
              obtain rfl : v = x := hx
              go_wp2_with fail
              refine ⟨⟨k + 1, by omega, by go_num, ⟨_, _, rfl, rfl, .inr ⟨rfl, Hxf.out⟩⟩, ⟨_, rfl, Hm1.out⟩, trivial⟩, by simp [intOf]; omega⟩
            | true =>
              obtain rfl : v0 = x := hx
              go_wp2_with fail
              refine ⟨⟨k + 1, by omega, by go_num, ⟨_, _, rfl, rfl, .inr ⟨rfl, Hxf.out⟩⟩, ⟨_, rfl, Hm1.out⟩, trivial⟩, by simp [intOf]; omega⟩
          | false =>
            by_cases h0 : k = 0
            · subst h0
              simp only [Nat.zero_mul, Nat.add_zero] at hc0 hc1
              have Hm1 := Lib.hid (show (false || must p (l.drop (0 + 1 - 1))) = must p l from Hm.out)
              cases b0 with
              | false =>
                obtain rfl : v = x := hx
                go_wp2_with fail
                refine ⟨⟨1, by omega, by go_num, ⟨_, _, rfl, rfl, .inr ⟨rfl, Hxf.out⟩⟩, ⟨_, rfl, Hm1.out⟩, trivial⟩, by simp [intOf]; omega⟩
              | true =>
                obtain rfl : v0 = x := hx
                go_wp2_with fail
                refine ⟨⟨1, by omega, by go_num, ⟨_, _, rfl, rfl, .inr ⟨rfl, Hxf.out⟩⟩, ⟨_, rfl, Hm1.out⟩, trivial⟩, by simp [intOf]; omega⟩
            · obtain ⟨j, rfl⟩ : ∃ j, k = j + 1 := ⟨k - 1, by omega⟩
              obtain ⟨⟨p2, v2⟩, hi2⟩ := some_at (show j < l.length by omega)
              obtain ⟨b2, off2, hab, hb20, hc20, hc21⟩ := Hat3.out.cell (Below.refl _ _) hi2
              obtain ⟨rfl, rfl⟩ : b = b2 ∧ off = off2 := by simpa using hab
              dsimp only at hc20
              have hst := must_step (q := p) hi2 hi
              dsimp only at hst
              have Hm1 := Lib.hid (show (decide (p2 = 1) || must p (l.drop (j + 1 + 1 - 1))) = must p l by
                rw [← Hm.out]
                show _ = (false || must p (l.drop j))
                rw [hst]; simp)
              clear hst hab hc21
              by_cases h2 : p2 = 1
              · subst h2
                cases b0 with
                | false =>
                  obtain rfl : v = x := hx
                  go_wp2_with fail
                  refine ⟨⟨j + 1 + 1, by omega, by go_num, ⟨_, _, rfl, rfl, .inr ⟨rfl, Hxf.out⟩⟩, ⟨_, rfl, Hm1.out⟩, trivial⟩, by simp [intOf]; omega⟩
                | true =>
                  obtain rfl : v0 = x := hx
                  go_wp2_with fail
                  refine ⟨⟨j + 1 + 1, by omega, by go_num, ⟨_, _, rfl, rfl, .inr ⟨rfl, Hxf.out⟩⟩, ⟨_, rfl, Hm1.out⟩, trivial⟩, by simp [intOf]; omega⟩
              · have h2' : (p2 == 1) = false := by simp [h2]
                have Hm3 := Lib.hid (show (false || must p (l.drop (j + 1 + 1 - 1))) = must p l by rw [← Hm1.out]; simp [h2])
                cases b0 with
                | false =>
                  obtain rfl : v = x := hx
                  go_wp2_with fail
                  refine ⟨⟨j + 1 + 1, by omega, by go_num, ⟨_, _, rfl, rfl, .inr ⟨rfl, Hxf.out⟩⟩, ⟨_, rfl, Hm3.out⟩, trivial⟩, by simp [intOf]; omega⟩
                | true =>
                  obtain rfl : v0 = x := hx
                  go_wp2_with fail
                  refine ⟨⟨j + 1 + 1, by omega, by go_num, ⟨_, _, rfl, rfl, .inr ⟨rfl, Hxf.out⟩⟩, ⟨_, rfl, Hm3.out⟩, trivial⟩, by simp [intOf]; omega⟩
        · have hq1 : (p == q) = false := by simp [hq]
          have hF : FoundAt q l (k + 1) (.string v0) (.bool b0) := by
            refine ⟨v0, b0, rfl, rfl, ?_⟩
            rcases Hf.out with ⟨h1, h2, h3⟩ | h1
            · exact .inl ⟨h1, h2, by rw [← h3, Hdr.out, if_neg hq]⟩
            · exact .inr h1
          have hM : MustAt q l (k + 1) (.bool m0) := by
            refine ⟨m0, rfl, ?_⟩
            rw [← Hm.out]
            by_cases h0 : k = 0
            · subst h0; rfl
            · obtain ⟨j, rfl⟩ : ∃ j, k = j + 1 := ⟨k - 1, by omega⟩
              obtain ⟨⟨p2, v2⟩, hi2⟩ := some_at (show j < l.length by omega)
              have hst := must_step (q := q) hi2 hi
              show (m0 || must q (l.drop (j + 1))) = (m0 || must q (l.drop j))
              rw [hst]; simp [hq]
          go_wp2_with fail
          refine ⟨⟨k + 1, by omega, by go_num, hF, hM, trivial⟩, by simp [intOf]; omega⟩
      · obtain rfl : k = l.length := by omega
        have Hm2 := Lib.hid (show must q l = m0 by rw [← Hm.out, must_end]; simp)
        have hv : v0 = fv := (by
          rcases Hf.out with ⟨_, h2, h3⟩ | ⟨_, h2⟩
          · rw [List.drop_length] at h3
            rw [h2, ← Hfv.out, ← h3]; rfl
          · rw [← Hfv.out, h2]; rfl)
        have hbb : b0 = fb := (by
          rcases Hf.out with ⟨h1, _, h3⟩ | ⟨h1, h2⟩
          · rw [List.drop_length] at h3
            rw [h1, ← Hfb.out, ← h3]; rfl
          · rw [h1, ← Hfb.out, h2]; rfl)
        subst hv
        subst hbb
        have he : (b0 == b0) = true := by simp
        go_wp2_with fail
        refine (Must_any l hlen q a1 cap _ Hat3.out).mono ?_
        rintro e w4 ⟨rfl, rfl⟩
        rw [Hm2.out]
        have hmm : (m0 == m0) = true := by simp
        go_wp2_with fail
        go_returns
        exact ⟨rfl, hb⟩
end Go.Proofs.Ytphlleibhghhpaa.Opt
