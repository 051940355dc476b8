/- The document's own answers: what bytes say. -/
import Derived.Test.YtkjojfcknfhkhaaOpt5
import Derived.Test.YtkjojfcknfhkhaaOptR0
import Derived.Laws.AppendOwn
namespace Go.Proofs.Ytkjojfcknfhkhaa.Opt
open Go.ChangeShapes Go.WideShapes Go.ChangeAt Go.RowKit
set_option linter.unusedVariables false

theorem opts_push {w wr w1 : World} {base : Nat} {v v' : Value} {o : Obj} {xs : List O} {k : Int} {x : ByteArray} (hB : base ≤ wr.heap.size) (hown : Opts wr base v xs) (hb : Below base w wr)
    (hown' : w1.ownsRow base 57 2 v' (xs.length + 1) (cellsOf xs ++ [.int .i64 k, .string x])) (hg : (wr.alloc o).grownBy w1 v.ownBlock) :
    Opts w1 base v' (xs ++ [⟨k, x⟩]) ∧ Below base w w1 := by
  refine ⟨?_, (hb.alloc hB o).grown hg (by simp; omega) (fun j hj => (World.ownsRow.lt hown j hj).1)⟩
  unfold Opts
  rw [List.length_append, cellsOf_snoc]
  exact hown'

theorem Opts.at2 {w : World} {base : Nat} {v : Value} {l : List O} (h : Opts w base v l) : ∃ a cap, v = .slice a l.length cap ∧ OptsAt w a l ∧ l.length ≤ cap ∧ cap ≤ maxLen := by
  obtain ⟨a, cap, e, hat⟩ := h.at
  refine ⟨a, cap, e, hat, ?_⟩
  rcases h.2 with ⟨h1, hn⟩ | ⟨g, c, cur, h1, h2, h3, h4, h5, _⟩
  · have e2 : cap = 0 := (Value.slice.inj (e.symm.trans h1)).2.2
    rw [hn, e2]; exact ⟨Nat.le_refl _, by decide⟩
  · have e2 : cap = c := (Value.slice.inj (e.symm.trans h1)).2.2
    rw [e2]; exact ⟨h4, h5⟩

/-- how far it was read -/
def ReadAt (s : ByteArray) (base : Nat) (k : Nat) (v : Value) (w : World) : Prop :=
  ∃ xs : List O, Opts w base v xs ∧ xs.length ≤ k ∧ goods (told s) = xs ++ goods (from_ s k) ∧ errs (told s) = errs (from_ s k)

/-- what Read says -/
def ReadPost (s : ByteArray) (w : World) (e : Ending) (w' : World) : Prop :=
  ∃ a cap, e = .returned (.tuple #[.slice a (goods (told s)).length cap, .int .i64 (errs (told s))]) ∧ OptsAt w' a (goods (told s)) ∧ Below w.heap.size w w' ∧ (goods (told s)).length ≤ cap ∧ cap ≤ maxLen

set_option maxRecDepth 100000 in
set_option maxHeartbeats 1600000 in
theorem Read_any (s : ByteArray) (hs : s.size ≤ 3000) (w : World) :
    Calls Try.prog 79 #[.string s] w (ReadPost s w) := by
  obtain ⟨i0, hi, hz0, hz1, hz2⟩ := info_parts infoOpt
  go_enter Try.func79, Try.ntmps79
  go_wp2_with fail
  go_loopw [4, 5] (fun v i wr => ∃ k : Nat, k ≤ s.size ∧ i = .int .i64 k ∧ ReadAt s w.heap.size k v wr ∧ Below w.heap.size w wr) (fun _ i _ => s.size - (intOf i).toNat)
  case atStart => exact ⟨0, by omega, rfl, ⟨[], World.ownsRow_nil _ _ _ _, by simp, by rw [from_zero]; rfl, by rw [from_zero]⟩, Below.refl _ _⟩
  case round =>
    obtain ⟨k, hk, rfl, ⟨xs, hown, hxl, hg, he⟩, hb⟩ := hrel
    have Hown := Lib.hid hown
    by_cases hlt : k < s.size
    · have hst := from_step hlt
      have hb0 := byte_eq hlt
      have hu0 : s[k].toNat < 256 := UInt8.toNat_lt _
      rw [hb0] at hst
      have hkk : (k : Int) < (s.size : Int) := by omega
      have hbs := hb.size
      by_cases h31 : s[k].toNat ≤ 31
      · rw [if_pos h31] at hst
        have h31' : (s[k].toNat : Int) < 32 := by omega
        by_cases h0 : s[k].toNat = 0
        · rw [if_pos h0] at hst
          have h0' : ¬ (0 : Int) < (s[k].toNat : Int) := by omega
          have Hg := Lib.hid (hg.trans (by rw [hst]))
          have He := Lib.hid (he.trans (by rw [hst]))
          clear hg he hst hown hb0 h0
          go_wp2_with fail
          exact ⟨⟨k + 1, by omega, by go_num, ⟨xs, Hown.out, by omega, Hg.out, He.out⟩, hb⟩, by simp [intOf]; omega⟩
        · rw [if_neg h0] at hst
          have h0' : (0 : Int) < (s[k].toNat : Int) := by omega
          have Hg := Lib.hid (show goods (told s) = (xs ++ [⟨s[k].toNat, ⟨#[]⟩⟩]) ++ goods (from_ s (k + 1)) by rw [hg, hst]; simp [goods])
          have He := Lib.hid (show errs (told s) = errs (from_ s (k + 1)) by rw [he, hst]; simp [errs])
          clear hg he hst hb0 h0
          go_wp2_with (at_builtin; refine wpList_append_own _ rfl _ _ 22 rfl w.heap.size 57 i0 (.agg #[.int .i64 0, .string ⟨#[]⟩]) 2 24 Try.underlying22 hi hz0 hz1 hz2 rfl (by decide) _ _ _ rfl (World.ownsRow.alloc hown _) ⟨wr.heap.size, 0, none⟩ 1 1 [.int .i64 s[k].toNat, .string ⟨#[]⟩] rfl rfl (cell_two_new _ _ _ _) (by simp [Value.oneCell']) (by unfold maxLen; omega) (by omega) (by simp; omega) ?_)
          intro v' w1' hown' hgr _
          have hp := Lib.hid (opts_push hbs Hown.out hb hown' hgr)
          clear hown' hgr hown hb
          go_wp2_with fail
          exact ⟨⟨k + 1, by omega, by go_num, ⟨_, hp.out.1, by simp; omega, Hg.out, He.out⟩, hp.out.2⟩, by simp [intOf]; omega⟩
      · rw [if_neg h31] at hst
        have h31' : ¬ (s[k].toNat : Int) < 32 := by omega
        by_cases h2 : s.size ≤ k + 1
        · rw [if_pos h2] at hst
          have h2' : (s.size : Int) ≤ (k : Int) + 1 := by omega
          have hg2 : xs = goods (told s) := by rw [hg, hst]; simp [goods]
          subst hg2
          obtain ⟨a, cap, rfl, hat, hcl⟩ := hown.at2
          have He := Lib.hid (show errs (told s) = 1 by rw [he, hst]; rfl)
          clear hg he hown hst hb0
          go_wp2_with fail
          go_returns
          exact ⟨a, cap, by rw [He.out]; rfl, hat, hb, hcl⟩
        · rw [if_neg h2] at hst
          have h2' : ¬ (s.size : Int) ≤ (k : Int) + 1 := by omega
          have h2'' : (k : Int) + 1 < (s.size : Int) := by omega
          have hl1 : k + 1 < s.size := by omega
          have hb1 := byte_eq hl1
          have hu1 : s[k + 1].toNat < 256 := UInt8.toNat_lt _
          rw [hb1] at hst
          by_cases h3 : s[k + 1].toNat < 2
          · rw [if_pos h3] at hst
            have h3' : (s[k + 1].toNat : Int) < 2 := by omega
            have hg2 : xs = goods (told s) := by rw [hg, hst]; simp [goods]
            subst hg2
            obtain ⟨a, cap, rfl, hat, hcl⟩ := hown.at2
            have He := Lib.hid (show errs (told s) = 4 by rw [he, hst]; rfl)
            clear hg he hown hst hb0 hb1
            go_wp2_with fail
            go_returns
            exact ⟨a, cap, by rw [He.out]; rfl, hat, hb, hcl⟩
          · rw [if_neg h3] at hst
            have h3' : ¬ (s[k + 1].toNat : Int) < 2 := by omega
            by_cases h4 : s.size < k + s[k + 1].toNat
            · rw [if_pos h4] at hst
              have h4' : (s.size : Int) < (k : Int) + (s[k + 1].toNat : Int) := by omega
              have hg2 : xs = goods (told s) := by rw [hg, hst]; simp [goods]
              subst hg2
              obtain ⟨a, cap, rfl, hat, hcl⟩ := hown.at2
              have He := Lib.hid (show errs (told s) = 1 by rw [he, hst]; rfl)
              clear hg he hown hst hb0 hb1
              go_wp2_with fail
              go_returns
              exact ⟨a, cap, by rw [He.out]; rfl, hat, hb, hcl⟩
            · rw [if_neg h4] at hst
              have h4' : ¬ (s.size : Int) < (k : Int) + (s[k + 1].toNat : Int) := by omega
              have h5 : (k : Int) + (s[k + 1].toNat : Int) ≤ (s.size : Int) := by omega
              have h60 : (0 : Int) ≤ (k : Int) + 2 := by omega
              have h61 : (2 : Int) ≤ (s[k + 1].toNat : Int) := by omega
              have h6 : (k : Int) + 2 ≤ (k : Int) + (s[k + 1].toNat : Int) := by omega
              have n1 : ((k : Int) + 2).toNat = k + 2 := by omega
              have n2 : ((k : Int) + (s[k + 1].toNat : Int)).toNat = k + s[k + 1].toNat := by omega
              have Hg := Lib.hid (show goods (told s) = (xs ++ [⟨s[k].toNat, s.extract (k + 2) (k + s[k + 1].toNat)⟩]) ++ goods (from_ s (k + s[k + 1].toNat)) by rw [hg, hst]; simp [goods])
              have He := Lib.hid (show errs (told s) = errs (from_ s (k + s[k + 1].toNat)) by rw [he, hst]; simp [errs])
              clear hg he hst hb0 hb1
              go_wp2_with (at_builtin; refine wpList_append_own _ rfl _ _ 22 rfl w.heap.size 57 i0 (.agg #[.int .i64 0, .string ⟨#[]⟩]) 2 24 Try.underlying22 hi hz0 hz1 hz2 rfl (by decide) _ _ _ rfl (World.ownsRow.alloc hown _) ⟨wr.heap.size, 0, none⟩ 1 1 [.int .i64 s[k].toNat, .string (s.extract (k + 2) (k + s[k + 1].toNat))] rfl rfl (cell_two_new _ _ _ _) (by simp [Value.oneCell']) (by unfold maxLen; omega) (by omega) (by simp; omega) ?_)
              intro v' w1' hown' hgr _
              have hp := Lib.hid (opts_push hbs Hown.out hb hown' hgr)
              clear hown' hgr hown hb
              go_wp2_with fail
              exact ⟨⟨k + s[k + 1].toNat, by omega, by go_num, ⟨_, hp.out.1, by simp; omega, Hg.out, He.out⟩, hp.out.2⟩, by simp [intOf]; omega⟩
    · obtain rfl : k = s.size := by omega
      rw [from_end (Nat.le_refl _)] at hg he
      have hg2 : xs = goods (told s) := by rw [hg]; simp [goods]
      subst hg2
      obtain ⟨a, cap, rfl, hat, hcl⟩ := hown.at2
      have He := Lib.hid (show errs (told s) = 0 from he)
      clear hg he hown
      go_wp2_with fail
      go_returns
      exact ⟨a, cap, by rw [He.out]; rfl, hat, hb, hcl⟩
end Go.Proofs.Ytkjojfcknfhkhaa.Opt
