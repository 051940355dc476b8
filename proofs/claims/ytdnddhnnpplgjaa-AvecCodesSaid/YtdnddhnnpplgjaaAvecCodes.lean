/- The walk of AvecCodes. -/
import Derived.Test.YtdnddhnnpplgjaaAvecArg
namespace Go.Proofs.Ytdnddhnnpplgjaa.Avec
open Go.ChangeShapes Go.WideShapes Go.ChangeAt Go.RowKit
set_option linter.unusedVariables false

theorem AvecCodes_open0 {H : Type} {enc : TypeId × Value → H} {W : World} {a : Option Addr} {len cap : Nat} {d : DataW H} {p : List MemPlace}
    (h : DataW.Trod enc Try.prog W 0 (fun _ => true) true 22 (.slice a len cap) d p) : IsRuns W a len := isRuns_open h

theorem putOf_size (l : List R) : (putOf l).size ≤ l.length := by
  unfold putOf
  split
  · show (bytesOf l).toArray.size ≤ _
    rw [List.size_toArray, bytesOf_length]; exact Nat.le_refl _
  · exact Nat.zero_le _
theorem getOf_length (s : ByteArray) : (getOf s).length ≤ s.size := by
  unfold getOf
  split
  · rw [runsOf_length]; exact Nat.le_refl _
  · exact Nat.zero_le _
theorem check_getOf {s : ByteArray} (h : check (runsOf s) = 0) : check (getOf s) = 0 := by
  unfold getOf; rw [if_pos h]; exact h

set_option maxRecDepth 100000 in
set_option maxHeartbeats 2000000 in
theorem AvecCodes_walk (a1 : Option Addr) (len cap : Nat) (s : ByteArray) (W : World) (h : IsRuns W a1 len) (w1 : s.size ≤ maxLen) :
    Calls Try.prog 3 #[.slice a1 len cap, .string s] W fun e w' => e = .returned (.bool true) ∧ Below W.heap.size W w' := by
  obtain ⟨l, rfl, hat, hlm⟩ := h
  unfold maxLen at w1 hlm
  go_enter Try.func3, Try.ntmps3
  go_wp2_with fail
  refine (works_any _).mono ?_
  rintro e w1 ⟨rfl, h1⟩
  have Hat := Lib.hid (hat.below h1)
  have Hb := Lib.hid h1
  clear hat h1
  by_cases hlen : 200 < l.length
  · go_wp2_with fail
    go_returns
    exact ⟨rfl, Hb.out⟩
  by_cases hsl : 500 < s.size
  · go_wp2_with fail
    go_returns
    exact ⟨rfl, Hb.out⟩
  have hps := putOf_size l
  have hgl := getOf_length s
  have HP := Lib.hid (Put_any l (by omega) a1 cap)
  have HRP := Lib.hid (refPut_any l (by omega) a1 cap)
  have HG := Lib.hid (Get_any s (by omega))
  have HRG := Lib.hid (refGet_any s (by omega))
  have HO := Lib.hid (Get_any (putOf l) (by omega))
  have HQ := Lib.hid (Put_any (getOf s) (by omega))
  have HC := Lib.hid (Check_any l (by omega) a1 cap)
  have HRC := Lib.hid (refCheck_any l (by omega) a1 cap)
  have HM := Lib.hid (Many_any l (by omega) a1 cap)
  have HRM := Lib.hid (refMany_any l (by omega) a1 cap)
  have HS1 := Lib.hid (SameD_any (getOf s) (getOf s).length rfl (by omega))
  have HS2 := Lib.hid (SameD_any l l.length rfl (by omega))
  have Hc := Lib.hid (@get_put l)
  have Hg := Lib.hid (fun h : check (runsOf s) = 0 => And.intro (check_getOf h) (put_get h))
  unfold GetPost at HG HRG HO
  generalize check (runsOf (putOf l)) = i at *
  generalize getOf (putOf l) = O at *
  generalize putOf l = P at *
  generalize check l = c at *
  generalize check (getOf s) = j at *
  generalize putOf (getOf s) = Q at *
  generalize check (runsOf s) = g at *
  generalize getOf s = G at *
  have hml := many_le l
  generalize many l = M at *
  go_wp2_with fail
  refine (HP.out _ Hat.out).mono ?_
  rintro e w2 ⟨rfl, h2⟩
  have Hat := Lib.hid (Hat.out.below h2)
  have Hb := Lib.hid (Hb.out.trans (h2.mono Hb.out.size))
  clear h2 HP
  go_wp2_with fail
  refine (HRP.out _ Hat.out).mono ?_
  rintro e w3 ⟨rfl, h3⟩
  have Hat := Lib.hid (Hat.out.below h3)
  have Hb := Lib.hid (Hb.out.trans (h3.mono Hb.out.size))
  clear h3 HRP
  go_wp2_with fail
  refine (HG.out _).mono ?_
  rintro e w4 ⟨aG, capG, rfl, hG, h4⟩
  have HGat := Lib.hid hG
  have Hat := Lib.hid (Hat.out.below h4)
  have Hb := Lib.hid (Hb.out.trans (h4.mono Hb.out.size))
  clear h4 HG hG
  go_wp2_with fail
  refine (HRG.out _).mono ?_
  rintro e w5 ⟨aR, capR, rfl, hR, h5⟩
  have HRat := Lib.hid hR
  have HGat := Lib.hid (HGat.out.below h5)
  have Hat := Lib.hid (Hat.out.below h5)
  have Hb := Lib.hid (Hb.out.trans (h5.mono Hb.out.size))
  clear h5 HRG hR
  go_wp2_with fail
  refine (HO.out _).mono ?_
  rintro e w6 ⟨aO, capO, rfl, hO, h6⟩
  have HOat := Lib.hid hO
  have HRat := Lib.hid (HRat.out.below h6)
  have HGat := Lib.hid (HGat.out.below h6)
  have Hat := Lib.hid (Hat.out.below h6)
  have Hb := Lib.hid (Hb.out.trans (h6.mono Hb.out.size))
  clear h6 HO hO
  go_wp2_with fail
  refine (HQ.out _ _ _ HGat.out).mono ?_
  rintro e w7 ⟨rfl, h7⟩
  have HOat := Lib.hid (HOat.out.below h7)
  have HRat := Lib.hid (HRat.out.below h7)
  have HGat := Lib.hid (HGat.out.below h7)
  have Hat := Lib.hid (Hat.out.below h7)
  have Hb := Lib.hid (Hb.out.trans (h7.mono Hb.out.size))
  clear h7 HQ
  go_wp2_with fail
  refine (HS1.out _ _ _ _ _ HGat.out HRat.out).mono ?_
  rintro e w8 ⟨rfl, n8, h8⟩
  have h8b : Below w7.heap.size w7 w8 := by rw [h8]; exact below_drewN (Below.refl _ _) _
  have HOat := Lib.hid (HOat.out.below h8b)
  have Hat := Lib.hid (Hat.out.below h8b)
  have Hb := Lib.hid (Hb.out.trans (h8b.mono Hb.out.size))
  clear h8 h8b HS1 HGat HRat
  go_wp2_with fail
  refine (HC.out _ Hat.out).mono ?_
  rintro e w9 ⟨rfl, h9⟩
  have HOat := Lib.hid (HOat.out.below h9)
  have Hat := Lib.hid (Hat.out.below h9)
  have Hb := Lib.hid (Hb.out.trans (h9.mono Hb.out.size))
  clear h9 HC
  go_wp2_with fail
  refine (HRC.out _ Hat.out).mono ?_
  rintro e w10 ⟨rfl, h10⟩
  subst h10
  clear HRC
  go_wp2_with fail
  refine (HM.out _ Hat.out).mono ?_
  rintro e w11 ⟨rfl, h11⟩
  have HOat := Lib.hid (HOat.out.below h11)
  have Hat := Lib.hid (Hat.out.below h11)
  have Hb := Lib.hid (Hb.out.trans (h11.mono Hb.out.size))
  clear h11 HM
  go_wp2_with fail
  refine (HRM.out _ Hat.out).mono ?_
  rintro e w12 ⟨rfl, h12⟩
  subst h12
  clear HRM
  by_cases hc : c = 0
  · subst hc
    obtain ⟨hO, hi⟩ := Hc.out rfl
    subst hO
    subst hi
    clear Hc
    go_wp2_with fail
    refine (HS2.out _ _ _ _ _ Hat.out HOat.out).mono ?_
    rintro e w13 ⟨rfl, n13, h13⟩
    have h13b : Below w12.heap.size w12 w13 := by rw [h13]; exact below_drewN (Below.refl _ _) _
    have Hb := Lib.hid (Hb.out.trans (h13b.mono Hb.out.size))
    clear h13 h13b HS2 Hat HOat
    by_cases hg : g = 0
    · subst hg
      obtain ⟨hj, hQ⟩ := Hg.out rfl
      subst hj
      subst hQ
      clear Hg
      go_wp2_with fail
      go_returns
      exact ⟨rfl, Hb.out⟩
    · have hgn : (g != 0) = true := by simp [hg]
      clear Hg
      go_wp2_with fail
      go_returns
      exact ⟨rfl, Hb.out⟩
  · have hcn : (c != 0) = true := by simp [hc]
    clear Hc HS2 HOat
    by_cases hg : g = 0
    · subst hg
      obtain ⟨hj, hQ⟩ := Hg.out rfl
      subst hj
      subst hQ
      clear Hg
      go_wp2_with fail
      go_returns
      exact ⟨rfl, Hb.out⟩
    · have hgn : (g != 0) = true := by simp [hg]
      clear Hg
      go_wp2_with fail
      go_returns
      exact ⟨rfl, Hb.out⟩
end Go.Proofs.Ytdnddhnnpplgjaa.Avec
