/- The anchor of layer 1: it answers true. -/
import Derived.Test.YtenpcdloidgckaaCutC
import Derived.Test.YtenpcdloidgckaaPutInt
namespace Go.Proofs.Ytenpcdloidgckaa.Oct
open Go.ChangeShapes Go.WideShapes Go.ChangeAt Go.RowKit
set_option linter.unusedVariables false

theorem put_a (w : World) : Calls Try.prog 8 #[.string ⟨#[97]⟩, .int .i64 258, .int .i64 2] w fun e w' => e = .returned (.string ⟨#[97, 1, 2]⟩) ∧ Below w.heap.size w w' := by
  refine (putInt_any ⟨#[97]⟩ 258 2 w (by decide)).mono ?_
  rintro e w' ⟨rfl, hb⟩
  exact ⟨congrArg (fun s => Ending.returned (.string s)) (bs_append [97] [1, 2]), hb⟩

theorem w258 : wrap64 ((whole ⟨#[1, 2]⟩ : Nat) : Int) = 258 := by
  rw [show whole ⟨#[1, 2]⟩ = 258 from rfl]; unfold wrap64; omega

theorem of_12 (w : World) : Calls Try.prog 11 #[.string ⟨#[1, 2]⟩] w fun e w' => e = .returned (.int .i64 258) ∧ Below w.heap.size w w' := by
  refine (ofInt_any ⟨#[1, 2]⟩ w (by decide)).mono ?_
  rintro e w' ⟨rfl, hb⟩
  exact ⟨congrArg (fun n => Ending.returned (.int .i64 n)) w258, hb⟩

def TextIs (b : Nat) (w : World) (t : ByteArray) (left : ByteArray) (e : Ending) (w' : World) : Prop :=
  e = .returned (.string t) ∧ CutAt w' b left 0 ∧ Touch b w w'

theorem num_2 (b : Nat) (w : World) (hc : CutAt w b ⟨#[1, 2, 97]⟩ 0) :
    Calls Try.prog 16 #[.pointer (some ⟨b, 0, none⟩), .int .i64 2] w fun e w' => e = .returned (.int .i64 258) ∧ CutAt w' b ⟨#[97]⟩ 0 ∧ Touch b w w' := by
  refine (num_any b ⟨#[1, 2, 97]⟩ 0 2 w (by decide) hc).mono ?_
  rintro e w' ⟨rfl, h1, h2⟩
  exact ⟨congrArg (fun n => Ending.returned (.int .i64 n)) w258, h1, h2⟩

theorem rest_a (b : Nat) (w : World) (hc : CutAt w b ⟨#[97]⟩ 0) :
    Calls Try.prog 20 #[.pointer (some ⟨b, 0, none⟩)] w fun e w' => e = .returned (.string ⟨#[97]⟩) ∧ CutAt w' b ⟨#[]⟩ 0 ∧ Touch b w w' := by
  refine (rest_any b ⟨#[97]⟩ 0 w (by decide) hc).mono ?_
  rintro e w' ⟨rfl, h1, h2⟩
  exact ⟨rfl, h1, h2⟩

theorem CutAt.fresh (w : World) (s : ByteArray) (t : TypeId) : CutAt (w.alloc (.cells #[.string s, .int .i64 0] t)) w.heap.size s 0 := by
  have hz : ∀ j, (w.alloc (.cells #[.string s, .int .i64 0] t)).frozen? ⟨w.heap.size, j, none⟩ = false := fun j => by
    have := World.frozen?_alloc_mark w #[.string s, .int .i64 0] t 0 0 j
    rw [this]; simp
  have hc : ∀ j, (w.alloc (.cells #[.string s, .int .i64 0] t)).cell? ⟨w.heap.size, j, none⟩ = #[Value.string s, .int .i64 0][j]? := fun j => World.cell?_alloc_mark w _ t (0, 0) j
  exact ⟨hc 0, hc 1, hz 0, hz 1⟩

set_option maxHeartbeats 400000 in
theorem works_any (w : World) : Calls Try.prog 7 #[] w fun e w' => e = .returned (.bool true) ∧ Below w.heap.size w w' := by
  go_enter Try.func7, Try.ntmps7
  go_wp2_with fail
  refine (new_any _ _).mono ?_
  rintro e w1 ⟨rfl, rfl⟩
  have hf := Lib.hid (CutAt.fresh w ⟨#[1, 2, 97]⟩ 54)
  have h0 := Lib.hid ((Below.refl w.heap.size w).alloc (Nat.le_refl _) (.cells #[.string ⟨#[1, 2, 97]⟩, .int .i64 0] 54))
  generalize w.alloc (.cells #[.string ⟨#[1, 2, 97]⟩, .int .i64 0] 54) = w1 at *
  go_wp2_with fail
  refine (put_a _).mono ?_
  rintro e w2 ⟨rfl, h2⟩
  have hf := Lib.hid (hf.out.below h2 hf.out.lt)
  have h0 := Lib.hid (h0.out.trans (h2.mono h0.out.size))
  clear h2
  go_wp2_with fail
  refine (of_12 _).mono ?_
  rintro e w3 ⟨rfl, h2⟩
  have hf := Lib.hid (hf.out.below h2 hf.out.lt)
  have h0 := Lib.hid (h0.out.trans (h2.mono h0.out.size))
  clear h2
  go_wp2_with fail
  refine (num_2 _ _ hf.out).mono ?_
  rintro e w4 ⟨rfl, hf2, h2⟩
  have hf := Lib.hid hf2
  have h0 := Lib.hid (h0.out.trans (h2.toBelow (Nat.le_refl _) h0.out.size))
  clear hf2 h2
  go_wp2_with fail
  refine (left_any _ ⟨#[97]⟩ _ (by decide) hf.out.c0).mono ?_
  rintro e w5 ⟨rfl, rfl⟩
  go_wp2_with fail
  refine (rest_a _ _ hf.out).mono ?_
  rintro e w5 ⟨rfl, hf2, h2⟩
  have hf := Lib.hid hf2
  have h0 := Lib.hid (h0.out.trans (h2.toBelow (Nat.le_refl _) h0.out.size))
  clear hf2 h2
  go_wp2_with fail
  refine (done_any _ ⟨#[]⟩ 0 _ hf.out).mono ?_
  rintro e w6 ⟨rfl, rfl⟩
  have hd : doneOf ⟨#[]⟩ 0 = 0 := by decide
  rw [hd]
  clear hd
  go_wp2_with fail
  go_ret
  exact ⟨rfl, h0.out⟩
end Go.Proofs.Ytenpcdloidgckaa.Oct
