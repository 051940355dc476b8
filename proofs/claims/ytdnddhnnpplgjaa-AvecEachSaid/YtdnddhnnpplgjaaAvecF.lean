/- The document's own answer: the state of a packet. -/
import Derived.Test.YtdnddhnnpplgjaaAvecE
namespace Go.Proofs.Ytdnddhnnpplgjaa.Avec
open Go.ChangeShapes Go.WideShapes Go.ChangeAt Go.RowKit
open Go.Proofs.Ytdnddhnnpplgjaa.LInt
set_option linter.unusedVariables false

theorem ints_in {w : World} {base : Nat} {v : Value} {xs : List Int} (h : Ints w base v xs) : ∃ a cap, v = .slice a xs.length cap ∧ IntsIn w a xs := by
  rcases h.at with ⟨rfl, rfl⟩ | ⟨g, cap, rfl, h1, h2, h3⟩
  · exact ⟨none, 0, rfl, .inl rfl⟩
  · refine ⟨_, cap, rfl, .inr ⟨g, 0, rfl, h2, fun i x hi => ?_⟩⟩
    have hlt : i < xs.length := (List.getElem?_eq_some_iff.1 hi).1
    rw [Nat.zero_add, h3 i hlt, List.getD_eq_getElem?_getD, hi]
    rfl
theorem drop_int {l : List Int} {i : Nat} {r : Int} (h : l[i]? = some r) : l.drop i = r :: l.drop (i + 1) := by
  obtain ⟨hi, rfl⟩ := List.getElem?_eq_some_iff.1 h
  exact List.drop_eq_getElem_cons hi
theorem ofc_from (f : Int) (k : Nat) : Circ.ofc (wrap64 (Circ.ofc f - k)) = seqOf (f - k) := by rw [Circ.ofc_wrap]; unfold Circ.ofc seqOf; omega
theorem ofc_ofc_from (f : Int) (k : Nat) : Circ.ofc (Circ.ofc f - k) = seqOf (f - k) := by unfold Circ.ofc seqOf; omega

set_option maxRecDepth 100000 in
set_option maxHeartbeats 1000000 in
theorem refAt_any (from' seq : Int) (l : List R) (hlen : l.length ≤ 5000) (a : Option Addr) (cap : Nat) (w : World) (h : RunsAt w a l) :
    Calls Try.prog 23 #[.int .i64 from', .slice a l.length cap, .int .i64 seq] w fun e w' => e = .returned (.int .i64 (atOf (seqOf seq) (told (seqOf from') (states l)))) ∧ Below w.heap.size w w' := by
  have hml := many_le l
  have hsl := states_length l
  have Hst := Lib.hid (refStates_any l hlen a cap w h)
  obtain ⟨A, hA⟩ : ∃ A, A = atOf (seqOf seq) (told (seqOf from') (states l)) := ⟨_, rfl⟩
  have HA := Lib.hid hA
  rw [← hA]
  clear hA h
  generalize states l = xs at *
  go_enter Try.func23, Try.ntmps23
  go_wp2_with fail
  refine Hst.out.mono ?_
  rintro e w1 ⟨v, rfl, hin, hb⟩
  obtain ⟨a1, cap1, rfl, hin2⟩ := ints_in hin
  have Hin := Lib.hid hin2
  clear hin hin2
  go_wp2_with fail
  go_loopw [8] (fun i wr => wr = w1 ∧ ∃ k : Nat, k ≤ xs.length ∧ i = .int .i64 k ∧ atOf (seqOf seq) (told (seqOf (from' - k)) (xs.drop k)) = A) (fun i _ => xs.length - (intOf i).toNat)
  case atStart => exact ⟨rfl, 0, by omega, rfl, by rw [HA.out]; simp⟩
  case round =>
    obtain ⟨rfl, k, hk, rfl, ha⟩ := hrel
    by_cases hlt : k < xs.length
    · obtain ⟨x, hi⟩ := some_at hlt
      obtain ⟨b, off, rfl, hb0, hc0⟩ := Hin.out.cell (Below.refl _ _) hi
      have hf := Circ.ofc_lt from'
      rw [drop_int hi] at ha
      have Ha := Lib.hid (show (if seqOf (from' - k) = seqOf seq then x else atOf (seqOf seq) (told (seqOf (from' - ((k + 1 : Nat) : Int))) (xs.drop (k + 1)))) = A by
        rw [← ha, ← seqOf_step from' k]; rfl)
      have Ho := Lib.hid (ofc_ofc_from from' k)
      clear ha
      go_wp2_with fail
      refine (Circ.refOf_any from' _).mono ?_
      rintro e w2 ⟨rfl, h2⟩
      subst h2
      go_wp2_with fail
      refine (Circ.refOf_any _ _).mono ?_
      rintro e w3 ⟨rfl, h3⟩
      subst h3
      rw [Ho.out]
      go_wp2_with fail
      refine (Circ.refOf_any seq _).mono ?_
      rintro e w4 ⟨rfl, h4⟩
      subst h4
      rw [show Circ.ofc seq = seqOf seq from rfl]
      by_cases he : seqOf (from' - k) = seqOf seq
      · have Hx := Lib.hid (show x = A by rw [← Ha.out, if_pos he])
        clear Ha Ho
        generalize seqOf (from' - k) = s1 at *
        subst he
        go_wp2_with fail
        go_returns
        exact ⟨by rw [← Hx.out]; rfl, hb⟩
      · have Hx := Lib.hid (show atOf (seqOf seq) (told (seqOf (from' - ((k + 1 : Nat) : Int))) (xs.drop (k + 1))) = A by rw [← Ha.out, if_neg he])
        have he1 : (seqOf (from' - k) == seqOf seq) = false := by simp [he]
        clear Ha Ho he
        generalize seqOf (from' - k) = s1 at *
        obtain ⟨q, hq⟩ : ∃ q, q = seqOf seq := ⟨_, rfl⟩
        rw [← hq] at he1 ⊢
        have Hq := Lib.hid hq
        clear hq
        go_wp2_with fail
        refine ⟨⟨trivial, k + 1, by omega, by go_num, Hx.out⟩, by simp [intOf]; omega⟩
    · obtain rfl : k = xs.length := by omega
      rw [List.drop_length] at ha
      have Hx := Lib.hid (show 3 = A from ha)
      clear ha
      go_wp2_with fail
      go_returns
      exact ⟨by rw [← Hx.out]; rfl, hb⟩
end Go.Proofs.Ytdnddhnnpplgjaa.Avec
