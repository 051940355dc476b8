/- The law's own first look at options. -/
import Derived.Test.YtphlleibhghhpaaOpt5
import Derived.Test.YtphlleibhghhpaaOpt7
import Derived.Test.YtphlleibhghhpaaOpt8
namespace Go.Proofs.Ytphlleibhghhpaa.Opt
open Go.ChangeShapes Go.WideShapes Go.ChangeAt Go.RowKit
set_option linter.unusedVariables false

def ab : ByteArray := ⟨#[97, 98]⟩
theorem at_one (w : World) (t : TypeId) (k : Int) (v : ByteArray) : OptsAt (w.alloc (.cells #[.int .i64 k, .string v] t)) (some ⟨w.heap.size, 0, none⟩) [⟨k, v⟩] := by
  refine .inr ⟨w.heap.size, 0, rfl, by simp, fun i o hi => ?_⟩
  have hb := Box2.new w t (.int .i64 k) (.string v)
  match i, hi with
  | 0, hi =>
    obtain rfl : (⟨k, v⟩ : O) = o := by simpa using hi
    exact hb.cell
  | i + 1, hi => simp at hi
theorem at_two (w : World) (t : TypeId) (k k2 : Int) (v v2 : ByteArray) : OptsAt (w.alloc (.cells #[.int .i64 k, .string v, .int .i64 k2, .string v2] t)) (some ⟨w.heap.size, 0, none⟩) [⟨k, v⟩, ⟨k2, v2⟩] := by
  refine .inr ⟨w.heap.size, 0, rfl, by simp, fun i o hi => ?_⟩
  have hc := fun j => World.cell?_alloc_mark w #[.int .i64 k, .string v, .int .i64 k2, .string v2] t (0, 0) j
  match i, hi with
  | 0, hi =>
    obtain rfl : (⟨k, v⟩ : O) = o := by simpa using hi
    exact ⟨hc 0, hc 1⟩
  | 1, hi =>
    obtain rfl : (⟨k2, v2⟩ : O) = o := by simpa using hi
    exact ⟨hc 2, hc 3⟩
  | i + 2, hi => simp at hi

theorem works_get : getErr ⟨#[2, 38, 4, 97, 98, 0]⟩ = 0 ∧ getOpts ⟨#[2, 38, 4, 97, 98, 0]⟩ = [⟨2, ⟨#[]⟩⟩, ⟨38, ⟨#[97, 98]⟩⟩] :=
  get_put (l := [⟨2, ⟨#[]⟩⟩, ⟨38, ⟨#[97, 98]⟩⟩]) (by decide) 1
theorem fit_one : Fit [⟨38, ⟨#[97, 98]⟩⟩] := ⟨by decide, fun o ho => by
  obtain rfl := List.mem_singleton.1 ho
  decide⟩

set_option maxRecDepth 100000 in
set_option maxHeartbeats 1000000 in
theorem works_any (w : World) :
    Calls Try.prog 6 #[] w fun e w' => e = .returned (.bool true) ∧ Below w.heap.size w w' := by
  have hb0 := (Below.refl w.heap.size w).alloc (Nat.le_refl _) (.cells #[.int .i64 38, .string ⟨#[97, 98]⟩] 30)
  have hat := at_one w 30 38 ⟨#[97, 98]⟩
  go_enter Try.func6, Try.ntmps6
  go_wp2_with fail
  refine (Put_any [⟨38, ⟨#[97, 98]⟩⟩] fit_one _ 1 _ hat).mono ?_
  rintro e w1 ⟨⟨hc, -⟩ | ⟨-, j, rfl, hj, hj3⟩, h1⟩
  · exact absurd (show check [⟨38, ⟨#[97, 98]⟩⟩] = 0 by decide) hc
  · obtain rfl : j = 0 := by
      rw [ByteArray.size_append, zeros_size] at hj
      have : (bytesOf [⟨38, ⟨#[97, 98]⟩⟩]).size = 4 := by decide
      omega
    rw [show bytesOf [⟨38, ⟨#[97, 98]⟩⟩] ++ zeros 0 = ⟨#[38, 4, 97, 98]⟩ from rfl]
    have h2 := hb0.trans (h1.mono (by simp))
    clear h1 hat hb0 hj
    go_wp2_with fail
    refine (Get_any ⟨#[2, 38, 4, 97, 98, 0]⟩ (by decide) w1).mono ?_
    rintro e w2 ⟨a, cap, rfl, hat, h3⟩
    rw [works_get.1, works_get.2]
    rw [works_get.2] at hat
    have h4 := h2.trans (h3.mono h2.size)
    clear h2 h3
    go_wp2_with fail
    have hb5 := (Below.refl w2.heap.size w2).alloc (Nat.le_refl _) (.cells #[.int .i64 2, .string ⟨#[]⟩, .int .i64 38, .string ⟨#[97, 98]⟩] 30)
    refine (Same_any [⟨2, ⟨#[]⟩⟩, ⟨38, ⟨#[97, 98]⟩⟩] (by decide) a _ cap 2 _ (hat.below hb5) (at_two w2 30 2 38 ⟨#[]⟩ ⟨#[97, 98]⟩)).mono ?_
    rintro e w3 ⟨rfl, h5⟩
    have h6 := (h4.trans (hb5.mono h4.size)).trans (h5.mono (by have := h4.size; simp; omega))
    go_wp2_with fail
    go_returns
    exact ⟨rfl, h6⟩
end Go.Proofs.Ytphlleibhghhpaa.Opt
