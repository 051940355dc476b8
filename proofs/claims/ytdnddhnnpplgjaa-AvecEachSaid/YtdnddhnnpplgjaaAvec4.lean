/- Runs that bytes say: the contract of the program's. -/
import Derived.Test.YtdnddhnnpplgjaaAvec3
namespace Go.Proofs.Ytdnddhnnpplgjaa.Avec
open Go.ChangeShapes Go.WideShapes Go.ChangeAt Go.RowKit
set_option linter.unusedVariables false

theorem runsOf_snoc {s : ByteArray} {k : Nat} {b : UInt8} (h : s.data.toList[k]? = some b) : (runsOf s).take (k + 1) = (runsOf s).take k ++ [run1 b] := by
  have : (runsOf s)[k]? = some (run1 b) := by unfold runsOf; rw [List.getElem?_map, h]; rfl
  exact take_at this

/-- what Get answers -/
def GetPost (s : ByteArray) (w : World) (e : Ending) (w' : World) : Prop :=
  ∃ a cap, e = .returned (.tuple #[.slice a (getOf s).length cap, .int .i64 (check (runsOf s))]) ∧ RunsAt w' a (getOf s) ∧ Below w.heap.size w w'

set_option maxRecDepth 100000 in
set_option maxHeartbeats 1000000 in
theorem Get_any (s : ByteArray) (hs : s.size ≤ 5000) (w : World) :
    Calls Try.prog 9 #[.string s] w (GetPost s w) := by
  obtain ⟨i0, hi, hz0, hz1, hz2⟩ := info_parts infoRun
  have Hrl := Lib.hid (runsOf_length s)
  go_enter Try.func9, Try.ntmps9
  go_wp2_with fail
  go_loopw [4, 10] (fun v i wr => ∃ k : Nat, k ≤ s.size ∧ i = .int .i64 k ∧ Runs wr w.heap.size v ((runsOf s).take k) ∧ Below w.heap.size w wr) (fun _ i _ => s.size - (intOf i).toNat)
  case atStart => exact ⟨0, by omega, rfl, Runs.nil _ _, Below.refl _ _⟩
  case round =>
    obtain ⟨k, hk, rfl, hown, hb⟩ := hrel
    have hsz := hb.size
    by_cases hlt : k < s.size
    · have hg : s.data.toList[k]? = some s[k] := by rw [List.getElem?_eq_getElem (by rw [Array.length_toList]; exact hlt)]; rfl
      have Ht := Lib.hid (runsOf_snoc hg)
      have hbl := s[k].toNat_lt
      have hxl : ((runsOf s).take k).length ≤ 5000 := by have := Hrl.out; rw [List.length_take]; omega
      generalize (runsOf s).take k = xs at *
      clear hg
      go_wp2_with (at_builtin; refine wpList_append_own _ rfl _ _ 22 rfl w.heap.size 45 i0 (.agg #[.int .i64 0, .int .i64 0]) 2 16 Try.underlying22 hi hz0 hz1 hz2 rfl (by decide) _ _ _ rfl (World.ownsRow.alloc hown _) ⟨wr.heap.size, 0, none⟩ 1 1 [.int .i64 (run1 s[k]).state, .int .i64 (run1 s[k]).many] rfl rfl ?c1 ?c2 ?c3 ?c4 ?c5 ?_)
      case c1 => exact cell_two_new wr (.int .i64 ((s[k].toNat : Int) / 64)) (.int .i64 ((s[k].toNat : Int) % 64 + 1)) 45
      case c2 => intro u hu; simp at hu; rcases hu with rfl | rfl <;> rfl
      case c3 => unfold maxLen; omega
      case c4 => omega
      case c5 => simp; omega
      intro v' w2 hown' hgr _
      have hp := Lib.hid (runs_push hsz hown hb hown' hgr)
      clear hown' hgr hown hb
      go_wp2_with fail
      refine ⟨⟨k + 1, by omega, by go_num, by rw [Ht.out]; exact hp.out.1, hp.out.2⟩, by simp [intOf]; omega⟩
    · obtain rfl : k = s.size := by omega
      rw [List.take_of_length_le (by have := Hrl.out; omega)] at hown
      obtain ⟨a, cap, rfl, hat⟩ := hown.at
      have Hg := Lib.hid (show getOf s = if check (runsOf s) = 0 then runsOf s else [] from rfl)
      have Hck := Lib.hid (Check_any (runsOf s) (by have := Hrl.out; omega) a cap wr hat)
      have Hat := Lib.hid (fun (w2 : World) (h : Below wr.heap.size wr w2) => hat.below h)
      have HP := Lib.hid (show ∀ a cap w', RunsAt w' a (getOf s) → Below w.heap.size w w' → GetPost s w (.returned (.tuple #[.slice a (getOf s).length cap, .int .i64 (check (runsOf s))])) w' from fun a cap w' h1 h2 => ⟨a, cap, rfl, h1, h2⟩)
      generalize check (runsOf s) = c at *
      generalize getOf s = G at *
      clear hown hat
      go_wp2_with fail
      refine Hck.out.mono ?_
      rintro e w1 ⟨rfl, h1⟩
      have h0 := Lib.hid (hb.trans (h1.mono hb.size))
      have H1 := Lib.hid h1
      clear h1
      by_cases hc : c = 0
      · subst hc
        have Hg := Lib.hid (show G = runsOf s by rw [Hg.out]; rfl)
        go_wp2_with fail
        go_returns
        have := HP.out a cap w1 (by rw [Hg.out]; exact Hat.out _ H1.out) h0.out
        rw [Hg.out] at this
        exact this
      · have hc1 : (c == 0) = false := by simp [hc]
        have Hg := Lib.hid (show G = [] by rw [Hg.out, if_neg hc])
        go_wp2_with fail
        go_returns
        have := HP.out none 0 w1 (.inl Hg.out) h0.out
        rw [Hg.out] at this
        exact this
end Go.Proofs.Ytdnddhnnpplgjaa.Avec
