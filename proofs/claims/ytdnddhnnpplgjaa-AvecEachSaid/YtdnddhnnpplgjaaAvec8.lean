/- The document's own answer: the fewest runs of states. -/
import Derived.Test.YtdnddhnnpplgjaaAvec7
namespace Go.Proofs.Ytdnddhnnpplgjaa.Avec
open Go.ChangeShapes Go.WideShapes Go.ChangeAt Go.RowKit
set_option linter.unusedVariables false

theorem refKnown_is (s : Int) (b : Bool) (h : known s = b) (w : World) :
    Calls Try.prog 25 #[.int .i64 s] w fun e w' => e = .returned (.bool b) ∧ w' = w := by
  subst h; exact refKnown_any s w

theorem acc_cases (x s : Int) :
    (x = s ∧ turn x = turn s) ∨
    ((x == s) = false ∧ known x = false ∧ s = 3 ∧ turn x = turn s) ∨
    ((x == s) = false ∧ known x = false ∧ (s == 3) = false ∧ known s = false ∧ turn x = turn s) ∨
    ((x == s) = false ∧ known x = false ∧ (s == 3) = false ∧ known s = true ∧ (x == 3) = false ∧ turn x ≠ turn s) ∨
    ((x == s) = false ∧ known x = true ∧ x = 3 ∧ known s = false ∧ turn x = turn s) ∨
    ((x == s) = false ∧ known x = true ∧ x = 3 ∧ known s = true ∧ turn x ≠ turn s) ∨
    ((x == s) = false ∧ known x = true ∧ (x == 3) = false ∧ turn x ≠ turn s) := by
  by_cases h : x = s
  · exact .inl ⟨h, by rw [h]⟩
  have hf : (x == s) = false := by simp [h]
  by_cases hx : known x = true
  · by_cases h3 : x = 3
    · by_cases hs : known s = true
      · exact .inr (.inr (.inr (.inr (.inr (.inl ⟨hf, hx, h3, hs, by rw [turn_known hx, turn_known hs]; exact h⟩)))))
      · have hs' : known s = false := by simpa using hs
        exact .inr (.inr (.inr (.inr (.inl ⟨hf, hx, h3, hs', by rw [turn_known hx, turn_other hs', h3]⟩))))
    · refine .inr (.inr (.inr (.inr (.inr (.inr ⟨hf, hx, by simp [h3], ?_⟩)))))
      rw [turn_known hx]
      by_cases hs : known s = true
      · rw [turn_known hs]; exact h
      · rw [turn_other (by simpa using hs)]; exact h3
  · have hx' : known x = false := by simpa using hx
    by_cases h3 : s = 3
    · refine .inr (.inl ⟨hf, hx', h3, ?_⟩)
      rw [turn_other hx', h3]; rfl
    · by_cases hs : known s = true
      · refine .inr (.inr (.inr (.inl ⟨hf, hx', by simp [h3], hs, ?_, ?_⟩)))
        · have : x ≠ 3 := fun e => by subst e; cases hx'
          simp [this]
        · rw [turn_other hx', turn_known hs]; exact fun e => h3 e.symm
      · have hs' : known s = false := by simpa using hs
        exact .inr (.inr (.inl ⟨hf, hx', by simp [h3], hs', by rw [turn_other hx', turn_other hs']⟩))

/-- does a run take one more packet? -/
def takes (xs : List Int) (i n : Nat) (s : Int) : Bool := decide (i < xs.length) && (decide (n < 64) && decide (turn (xs.getD i 0) = turn s))

set_option maxRecDepth 100000 in
set_option maxHeartbeats 2000000 in
theorem refOf_any (xs : List Int) (hlen : xs.length ≤ 5000) (a : Option Addr) (cap : Nat) (w : World) (h : IntsIn w a xs) :
    Calls Try.prog 18 #[.slice a xs.length cap] w fun e w' => ∃ v, e = .returned v ∧ Runs w' w.heap.size v (ofRuns xs) ∧ Below w.heap.size w w' := by
  obtain ⟨i0, hi, hz0, hz1, hz2⟩ := info_parts infoRun
  have H := Lib.hid h
  clear h
  go_enter Try.func18, Try.ntmps18
  go_wp2_with fail
  go_loopw [3, 4] (fun v i wr => ∃ k : Nat, k ≤ xs.length ∧ i = .int .i64 k ∧ Runs wr w.heap.size v (ofRuns (xs.take k)) ∧ Below w.heap.size w wr ∧ ∀ x, xs[k]? = some x → push (ofRuns (xs.take k)) (turn x) = ofRuns (xs.take k) ++ [⟨turn x, 1⟩]) (fun _ i _ => xs.length - (intOf i).toNat)
  case atStart => exact ⟨0, by omega, rfl, Runs.nil _ _, Below.refl _ _, fun x _ => push_nil _⟩
  case round =>
    obtain ⟨k, hk, rfl, hown, hb, hnew⟩ := hrel
    have hsz := hb.size
    by_cases hlt : k < xs.length
    · obtain ⟨s, hi2⟩ := some_at hlt
      obtain ⟨b, off, rfl, hb0, hc0⟩ := H.out.cell hb hi2
      have Hn := Lib.hid (hnew s hi2)
      have hxl : (ofRuns (xs.take k)).length ≤ 5000 := by have := (ofRuns_all (xs.take k)).2.2; rw [List.length_take] at this; omega
      have Hl := Lib.hid (show ofRuns (xs.take k) = ofRuns (xs.take k) from rfl)
      generalize hL : ofRuns (xs.take k) = L at *
      have HL := Lib.hid hL
      clear hnew Hl hL
      go_wp2_with fail
      go_loopw [6, 4] (fun n i wr' => wr' = wr ∧ ∃ j m : Nat, k ≤ j ∧ j ≤ xs.length ∧ m ≤ 64 ∧ i = .int .i64 j ∧ n = .int .i64 m ∧ ((m = 0 ∧ j = k) ∨ (k < j ∧ ofRuns (xs.take j) = L ++ [⟨turn s, (m : Int)⟩]))) (fun _ i _ => xs.length - (intOf i).toNat)
      case atStart => exact ⟨rfl, k, 0, by omega, by omega, by omega, rfl, rfl, .inl ⟨rfl, rfl⟩⟩
      case round =>
        obtain ⟨rfl, j, m, hkj, hj, hm, rfl, rfl, hrow⟩ := hrel
        have Hrow := Lib.hid hrow
        clear hrow
        go_upto_region 6 with fail
        go_cut [59] (fun c wx => c = .bool (takes xs j m s) ∧ wx = wr)
        case first =>
          by_cases hjt : j < xs.length
          · obtain ⟨x, hi3⟩ := some_at hjt
            obtain ⟨b', off', hab, hb0', hc0'⟩ := H.out.cell hb hi3
            obtain ⟨rfl, rfl⟩ : b = b' ∧ off = off' := by simpa using hab
            by_cases hm64 : m < 64
            · have hT : takes xs j m s = decide (turn x = turn s) := by unfold takes; rw [List.getD_eq_getElem?_getD, hi3]; simp [hjt, hm64]
              rcases acc_cases x s with ⟨rfl, ht⟩ | ⟨h0, hkx, rfl, ht⟩ | ⟨h0, hkx, h3, hks, ht⟩ | ⟨h0, hkx, h3, hks, hx3, ht⟩ | ⟨h0, hkx, rfl, hks, ht⟩ | ⟨h0, hkx, rfl, hks, ht⟩ | ⟨h0, hkx, hx3, ht⟩
              · have HT := Lib.hid (show takes xs j m x = true by rw [hT]; simp)
                clear hT ht
                go_wp2_with fail
                go_meet
                exact ⟨by rw [HT.out], rfl⟩
              · have HT := Lib.hid (show takes xs j m 3 = true by rw [hT]; simpa using ht)
                clear hT ht
                go_wp2_with fail
                refine (refKnown_is x false hkx _).mono ?_
                rintro e w4 ⟨rfl, h4⟩
                subst h4
                go_wp2_with fail
                go_meet
                exact ⟨by rw [HT.out], rfl⟩
              · have HT := Lib.hid (show takes xs j m s = true by rw [hT]; simpa using ht)
                clear hT ht
                go_wp2_with fail
                refine (refKnown_is x false hkx _).mono ?_
                rintro e w4 ⟨rfl, h4⟩
                subst h4
                go_wp2_with fail
                refine (refKnown_is s false hks _).mono ?_
                rintro e w5 ⟨rfl, h5⟩
                subst h5
                go_wp2_with fail
                go_meet
                exact ⟨by rw [HT.out], rfl⟩
              · have HT := Lib.hid (show takes xs j m s = false by rw [hT]; simpa using ht)
                clear hT ht
                go_wp2_with fail
                refine (refKnown_is x false hkx _).mono ?_
                rintro e w4 ⟨rfl, h4⟩
                subst h4
                go_wp2_with fail
                refine (refKnown_is s true hks _).mono ?_
                rintro e w5 ⟨rfl, h5⟩
                subst h5
                go_wp2_with fail
                go_meet
                exact ⟨by rw [HT.out], rfl⟩
              · have HT := Lib.hid (show takes xs j m s = true by rw [hT]; simpa using ht)
                clear hT ht
                go_wp2_with fail
                refine (refKnown_is 3 true hkx _).mono ?_
                rintro e w4 ⟨rfl, h4⟩
                subst h4
                go_wp2_with fail
                refine (refKnown_is s false hks _).mono ?_
                rintro e w5 ⟨rfl, h5⟩
                subst h5
                go_wp2_with fail
                go_meet
                exact ⟨by rw [HT.out], rfl⟩
              · have HT := Lib.hid (show takes xs j m s = false by rw [hT]; simpa using ht)
                clear hT ht
                go_wp2_with fail
                refine (refKnown_is 3 true hkx _).mono ?_
                rintro e w4 ⟨rfl, h4⟩
                subst h4
                go_wp2_with fail
                refine (refKnown_is s true hks _).mono ?_
                rintro e w5 ⟨rfl, h5⟩
                subst h5
                go_wp2_with fail
                go_meet
                exact ⟨by rw [HT.out], rfl⟩
              · have HT := Lib.hid (show takes xs j m s = false by rw [hT]; simpa using ht)
                clear hT ht
                go_wp2_with fail
                refine (refKnown_is x true hkx _).mono ?_
                rintro e w4 ⟨rfl, h4⟩
                subst h4
                go_wp2_with fail
                go_meet
                exact ⟨by rw [HT.out], rfl⟩
            · have hT : takes xs j m s = false := by unfold takes; simp [hm64]
              have HT := Lib.hid hT
              clear hT
              go_wp2_with fail
              go_meet
              exact ⟨by rw [HT.out], rfl⟩
          · have hT : takes xs j m s = false := by unfold takes; simp [hjt]
            have HT := Lib.hid hT
            clear hT
            go_wp2_with fail
            go_meet
            exact ⟨by rw [HT.out], rfl⟩
        case rest =>
          obtain ⟨rfl, rfl⟩ := hcut
          by_cases hT : takes xs j m s = true
          · have hT2 := hT
            simp only [takes, Bool.and_eq_true, decide_eq_true_eq] at hT2
            obtain ⟨hjt, hm64, hts⟩ := hT2
            obtain ⟨x, hi3⟩ := some_at hjt
            rw [List.getD_eq_getElem?_getD, hi3, Option.getD_some] at hts
            have Hnx := Lib.hid (show ofRuns (xs.take (j + 1)) = L ++ [⟨turn s, ((m + 1 : Nat) : Int)⟩] by
              rw [ofRuns_take hi3, hts]
              rcases Hrow.out with ⟨rfl, rfl⟩ | ⟨hkj', he⟩
              · rw [HL.out]; exact Hn.out
              · rw [he, push_more ⟨rfl, by show ((m : Nat) : Int) < 64; omega⟩]
                simp)
            rw [hT]
            clear hT hts hi3
            go_wp2_with fail
            refine ⟨⟨trivial, j + 1, m + 1, by omega, by omega, by omega, by go_num, by go_num, .inr ⟨by omega, Hnx.out⟩⟩, by simp [intOf]; omega⟩
          · have hTf : takes xs j m s = false := by simpa using hT
            have hm0 : k < j ∧ ofRuns (xs.take j) = L ++ [⟨turn s, (m : Int)⟩] := by
              rcases Hrow.out with ⟨rfl, rfl⟩ | h
              · exact absurd (show takes xs j 0 s = true by unfold takes; rw [List.getD_eq_getElem?_getD, hi2]; simp [hlt]) hT
              · exact h
            have Hnx := Lib.hid hm0.2
            have hkj2 := hm0.1
            have Hsep := Lib.hid (show ∀ x, xs[j]? = some x → push (ofRuns (xs.take j)) (turn x) = ofRuns (xs.take j) ++ [⟨turn x, 1⟩] by
              intro x hx
              rw [hm0.2]
              refine push_new fun ⟨h1, h2⟩ => hT ?_
              have hjt : j < xs.length := (List.getElem?_eq_some_iff.1 hx).1
              have h2' : m < 64 := by have : (m : Int) < 64 := h2; omega
              unfold takes
              rw [List.getD_eq_getElem?_getD, hx]
              have h3 : turn x = turn s := h1.symm
              simp [hjt, h2', h3])
            have Hk := Lib.hid (fun w => refKnown_any s w)
            have Hkt := Lib.hid (@turn_known s)
            have Hko := Lib.hid (@turn_other s)
            generalize known s = ks at *
            rw [hTf]
            clear hT hTf hm0 Hrow
            go_wp2_with fail
            refine (Hk.out _).mono ?_
            rintro e w4 ⟨rfl, h4⟩
            subst h4
            go_upto_if 66 with fail
            go_cut [5] (fun v wx => v = .int .i64 (turn s) ∧ wx = w4)
            case first =>
              cases ks
              · go_wp2_with fail
                go_meet
                exact ⟨by rw [Hko.out trivial], rfl⟩
              · go_wp2_with fail
                go_meet
                exact ⟨by rw [Hkt.out trivial], rfl⟩
            case rest =>
              obtain ⟨rfl, rfl⟩ := hcut
              clear Hkt Hko Hk
              generalize turn s = T at *
              go_wp2_with (at_builtin; refine wpList_append_own _ rfl _ _ 22 rfl w.heap.size 45 i0 (.agg #[.int .i64 0, .int .i64 0]) 2 16 Try.underlying22 hi hz0 hz1 hz2 rfl (by decide) _ _ _ rfl (World.ownsRow.alloc hown _) ⟨wc.heap.size, 0, none⟩ 1 1 [.int .i64 T, .int .i64 m] rfl rfl (cell_two_new _ _ _ _) (one2 _ _) (by unfold maxLen; omega) (by omega) (by simp; omega) ?_)
              intro v' w2 hown' hgr _
              have hp := Lib.hid (runs_push hsz hown hb hown' hgr)
              clear hown' hgr hown hb
              go_wp2_with fail
              refine ⟨⟨j, by omega, by go_num, by rw [Hnx.out]; exact hp.out.1, hp.out.2, Hsep.out⟩, by simp [intOf]; omega⟩
    · obtain rfl : k = xs.length := by omega
      rw [List.take_length] at hown
      go_wp2_with fail
      go_returns
      exact ⟨_, rfl, hown, hb⟩
end Go.Proofs.Ytdnddhnnpplgjaa.Avec
