/- The fewest runs of states: the contract of the program's. -/
import Derived.Test.YtdnddhnnpplgjaaAvec4
namespace Go.Proofs.Ytdnddhnnpplgjaa.Avec
open Go.ChangeShapes Go.WideShapes Go.ChangeAt Go.RowKit
set_option linter.unusedVariables false

/-- what a slice of ints reads as -/
def IntsIn (w : World) (a : Option Addr) (xs : List Int) : Prop :=
  xs = [] ∨ ∃ b off, a = some ⟨b, off, none⟩ ∧ b < w.heap.size ∧ ∀ i x, xs[i]? = some x → w.cell? ⟨b, off + i, none⟩ = some (.int .i64 x)
theorem IntsIn.cell {w w' : World} {a : Option Addr} {l : List Int} (h : IntsIn w a l) (hb : Below w.heap.size w w') {i : Nat} {o : Int} (hi : l[i]? = some o) :
    ∃ b off, a = some ⟨b, off, none⟩ ∧ b < w.heap.size ∧ w'.cell? ⟨b, off + i, none⟩ = some (.int .i64 o) := by
  rcases h with rfl | ⟨b, off, rfl, h1, h2⟩
  · simp at hi
  · exact ⟨b, off, rfl, h1, (hb.cell (p := ⟨b, off + i, none⟩) h1).trans (h2 i o hi)⟩
theorem IntsIn.below {w w' : World} {a : Option Addr} {l : List Int} (h : IntsIn w a l) (hb : Below w.heap.size w w') : IntsIn w' a l := by
  rcases h with h | ⟨b, off, rfl, h1, h2⟩
  · exact .inl h
  · exact .inr ⟨b, off, rfl, Nat.lt_of_lt_of_le h1 hb.size, fun i o hi => (hb.cell (p := ⟨b, off + i, none⟩) h1).trans (h2 i o hi)⟩

theorem turn_known {x : Int} (h : known x = true) : turn x = x := if_pos h
theorem turn_other {x : Int} (h : known x = false) : turn x = 3 := by unfold turn; rw [h]; rfl

/-- the last run of a slice of the call's own: its two cells, and what becomes of the slice when the second one is written -/
theorem runs_last {w : World} {base : Nat} {v : Value} {p : List R} {r : R} (h : Runs w base v (p ++ [r])) :
    ∃ g cap, v = .slice (some ⟨g, 0, none⟩) (p.length + 1) cap ∧ base ≤ g ∧ g < w.heap.size ∧ w.cell? ⟨g, p.length * 2, none⟩ = some (.int .i64 r.state) ∧ w.cell? ⟨g, p.length * 2 + 1, none⟩ = some (.int .i64 r.many) ∧ w.frozen? ⟨g, p.length * 2 + 1, none⟩ = false ∧
      ∀ n : Int, Runs (w.setCell ⟨g, p.length * 2 + 1, none⟩ (.int .i64 n)) base v (p ++ [⟨r.state, n⟩]) := by
  have hl := World.ownsRow.lt h
  have hc := fun g hg => World.ownsRow.cells (g := g) h hg
  have hlen : (p ++ [r]).length = p.length + 1 := by simp
  have hget := cellsOf_get (p ++ [r]) p.length r (by simp)
  rcases h.2 with ⟨rfl, hn⟩ | ⟨g, cap, cur, rfl, hb, hg, hcap, hmax, hcur, htake⟩
  · simp at hn
  · have c0 := hc g rfl _ _ hget.1
    have c1 := hc g rfl _ _ hget.2
    rw [add_at, Nat.zero_add] at c0 c1
    refine ⟨g, cap, by rw [hlen], hb, (hl g rfl).2, c0, c1, ?_, fun n => ⟨by rw [cellsOf_length], .inr ⟨g, cap, cur.setIfInBounds (p.length * 2 + 1) (.int .i64 n), by simp, hb, heap_setCell_same _ _ _ _ _ _ hg, by simpa using hcap, hmax, by simpa using hcur, ?_⟩⟩⟩
    · simp [World.frozen?, hg]
    · rw [Array.toList_setIfInBounds, List.take_set]
      rw [hlen] at htake
      rw [show (p ++ [(⟨r.state, n⟩ : R)]).length = p.length + 1 by simp, htake, cellsOf_snoc, cellsOf_snoc]
      rw [List.set_append_right _ _ (by rw [cellsOf_length]; omega), cellsOf_length]
      rw [show p.length * 2 + 1 - p.length * 2 = 1 by omega]
      rfl

set_option maxRecDepth 100000 in
set_option maxHeartbeats 1000000 in
theorem Of_any (xs : List Int) (hlen : xs.length ≤ 5000) (a : Option Addr) (cap : Nat) (w : World) (h : IntsIn w a xs) :
    Calls Try.prog 16 #[.slice a xs.length cap] w fun e w' => ∃ v, e = .returned v ∧ Runs w' w.heap.size v (ofRuns xs) ∧ Below w.heap.size w w' := by
  obtain ⟨i0, hi, hz0, hz1, hz2⟩ := info_parts infoRun
  have H := Lib.hid h
  clear h
  go_enter Try.func16, Try.ntmps16
  go_wp2_with fail
  go_loopw [3, 9] (fun v i wr => ∃ k : Nat, k ≤ xs.length ∧ i = .int .i64 k ∧ Runs wr w.heap.size v (ofRuns (xs.take k)) ∧ Below w.heap.size w wr) (fun _ i _ => xs.length - (intOf i).toNat)
  case atStart => exact ⟨0, by omega, rfl, Runs.nil _ _, Below.refl _ _⟩
  case round =>
    obtain ⟨k, hk, rfl, hown, hb⟩ := hrel
    have hsz := hb.size
    by_cases hlt : k < xs.length
    · obtain ⟨x, hi2⟩ := some_at hlt
      obtain ⟨b, off, rfl, hb0, hc0⟩ := H.out.cell hb hi2
      have Ht := Lib.hid (ofRuns_take hi2)
      have hxl : (ofRuns (xs.take k)).length ≤ 5000 := by have := (ofRuns_all (xs.take k)).2.2; rw [List.length_take] at this; omega
      have hgd := (ofRuns_all (xs.take k)).1
      generalize ofRuns (xs.take k) = l at *
      have Hk := Lib.hid (fun w => known_any x w)
      have Hkt := Lib.hid (@turn_known x)
      have Hko := Lib.hid (@turn_other x)
      generalize known x = kx at *
      go_wp2_with fail
      refine (Hk.out _).mono ?_
      rintro e wr ⟨rfl, rfl⟩
      go_upto_if 15 with fail
      go_cut [5] (fun s wx => s = .int .i64 (turn x) ∧ wx = wr)
      case first =>
        cases kx
        · go_wp2_with fail
          go_meet
          exact ⟨by rw [Hko.out trivial], rfl⟩
        · go_wp2_with fail
          go_meet
          exact ⟨by rw [Hkt.out trivial], rfl⟩
      case rest =>
        obtain ⟨rfl, rfl⟩ := hcut
        have Hpush := Lib.hid (fun (q : List R) (h : push l (turn x) = q) => Ht.out.trans h)
        generalize turn x = t at *
        clear Hkt Hko Hk Ht hc0
        rcases nil_or_snoc l with rfl | ⟨p, ⟨rs, rm⟩, rfl⟩
        · obtain ⟨a2, cap2, rfl, -⟩ := hown.at
          have hn0 : ([] : List R).length = 0 := rfl
          go_wp2_with (at_builtin; refine wpList_append_own _ rfl _ _ 22 rfl w.heap.size 45 i0 (.agg #[.int .i64 0, .int .i64 0]) 2 16 Try.underlying22 hi hz0 hz1 hz2 rfl (by decide) _ _ _ rfl (World.ownsRow.alloc hown _) ⟨wc.heap.size, 0, none⟩ 1 1 [.int .i64 t, .int .i64 1] rfl rfl ?c1 ?c2 ?c3 ?c4 ?c5 ?_)
          case c1 => exact cell_two_new wc _ _ 45
          case c2 => intro u hu; simp at hu; rcases hu with rfl | rfl <;> rfl
          case c3 => unfold maxLen; omega
          case c4 => omega
          case c5 => simp; omega
          intro v' w2 hown' hgr _
          have hp := Lib.hid (runs_push hsz hown hb hown' hgr)
          have Hq := Lib.hid (Hpush.out _ (push_nil t))
          clear hown' hgr hown hb
          go_wp2_with fail
          refine ⟨⟨k + 1, by omega, by go_num, by rw [Hq.out]; exact hp.out.1, hp.out.2⟩, by simp [intOf]; omega⟩
        · obtain ⟨g, cap2, rfl, hg0, hg1, d0, d1, fz, hset⟩ := runs_last hown
          obtain ⟨hrm1, hrm2⟩ : 1 ≤ rm ∧ rm ≤ 64 := hgd ⟨rs, rm⟩ (by simp)
          clear hgd
          have hn1 : (p ++ [(⟨rs, rm⟩ : R)]).length = p.length + 1 := by simp
          dsimp only at d0 d1 hset
          by_cases hst : rs = t ∧ rm < 64
          · obtain ⟨rfl, hrm⟩ := hst
            have Hq := Lib.hid (Hpush.out _ (push_more (p := p) (r := ⟨rs, rm⟩) (s := rs) ⟨rfl, hrm⟩))
            have Hr := Lib.hid (hset (rm + 1))
            have Hb := Lib.hid (hb.setCell (p := ⟨g, p.length * 2 + 1, none⟩) hg0 (.int .i64 (rm + 1)))
            clear hset hown hb
            go_wp2_with fail
            refine ⟨⟨k + 1, by omega, by go_num, by rw [Hq.out]; exact Hr.out, Hb.out⟩, by simp [intOf]; omega⟩
          · have Hq := Lib.hid (Hpush.out _ (push_new (p := p) (r := ⟨rs, rm⟩) (s := t) hst))
            clear hset
            by_cases hs1 : rs = t
            · subst hs1
              have hrm : ¬ rm < 64 := fun h => hst ⟨rfl, h⟩
              clear hst
              go_wp2_with (at_builtin; refine wpList_append_own _ rfl _ _ 22 rfl w.heap.size 45 i0 (.agg #[.int .i64 0, .int .i64 0]) 2 16 Try.underlying22 hi hz0 hz1 hz2 rfl (by decide) _ _ _ rfl (World.ownsRow.alloc hown _) ⟨wc.heap.size, 0, none⟩ 1 1 [.int .i64 rs, .int .i64 1] rfl rfl ?e1 ?e2 ?e3 ?e4 ?e5 ?_)
              case e2 => exact ⟨rfl, rfl⟩
              case e3 => unfold maxLen; omega
              case e4 => omega
              case e5 => omega
              intro v' w2 hown' hgr _
              have hp := Lib.hid (runs_push hsz hown hb (by rw [hn1]; exact hown') hgr)
              clear hown' hgr hown hb
              go_wp2_with fail
              refine ⟨⟨k + 1, by omega, by go_num, by rw [Hq.out]; exact hp.out.1, hp.out.2⟩, by simp [intOf]; omega⟩
            · have hs2 : (rs == t) = false := by simp [hs1]
              clear hst
              go_wp2_with (at_builtin; refine wpList_append_own _ rfl _ _ 22 rfl w.heap.size 45 i0 (.agg #[.int .i64 0, .int .i64 0]) 2 16 Try.underlying22 hi hz0 hz1 hz2 rfl (by decide) _ _ _ rfl (World.ownsRow.alloc hown _) ⟨wc.heap.size, 0, none⟩ 1 1 [.int .i64 t, .int .i64 1] rfl rfl ?f1 ?f2 ?f3 ?f4 ?f5 ?_)
              case f1 => exact cell_two_new wc _ _ 45
              case f2 => intro u hu; simp at hu; rcases hu with rfl | rfl <;> rfl
              case f3 => unfold maxLen; omega
              case f4 => omega
              case f5 => simp; omega
              intro v' w2 hown' hgr _
              have hp := Lib.hid (runs_push hsz hown hb (by rw [hn1]; exact hown') hgr)
              clear hown' hgr hown hb
              go_wp2_with fail
              refine ⟨⟨k + 1, by omega, by go_num, by rw [Hq.out]; exact hp.out.1, hp.out.2⟩, by simp [intOf]; omega⟩
    · obtain rfl : k = xs.length := by omega
      rw [List.take_length] at hown
      go_wp2_with fail
      go_returns
      exact ⟨_, rfl, hown, hb⟩
end Go.Proofs.Ytdnddhnnpplgjaa.Avec
