/- The document's cut: its reads' contracts, case by case. -/
import Derived.Test.YtmkngolkflihlaaCutC
import Derived.Test.YtmkngolkflihlaaRefOf1
import Derived.Deep.QuietTactic
import Derived.BigQuiet
import Derived.Outline
namespace Go.Proofs.Ytmkngolkflihlaa.Oct
open Go.ChangeShapes Go.WideShapes Go.ChangeAt Go.RowKit
set_option linter.unusedVariables false

theorem rb_fell (b : Nat) (n fell : Int) (w : World) (h2 : w.cell? ⟨b, 2, none⟩ = some (.int .i64 fell)) (hf : fell ≠ 0) :
    Calls Try.prog 30 #[.pointer (some ⟨b, 0, none⟩), .int .i64 n] w fun e w' => e = .returned (.string ⟨#[]⟩) ∧ w = w' := by
  have hf1 : (fell != 0) = true := by simpa using hf
  go_enter Try.func30, Try.ntmps30
  go_wp2
  go_ret
  exact ⟨rfl, rfl⟩

theorem rb_neg (b : Nat) (n : Int) (w : World) (hn : n < 0) (h2 : w.cell? ⟨b, 2, none⟩ = some (.int .i64 0)) (hz : w.frozen? ⟨b, 2, none⟩ = false) :
    Calls Try.prog 30 #[.pointer (some ⟨b, 0, none⟩), .int .i64 n] w fun e w' => e = .returned (.string ⟨#[]⟩) ∧ w' = w.setCell ⟨b, 2, none⟩ (.int .i64 3) := by
  go_enter Try.func30, Try.ntmps30
  go_wp2
  go_ret
  exact ⟨rfl, rfl⟩

theorem rb_short (b : Nat) (n : Int) (S : ByteArray) (a : Nat) (w : World) (hl : S.size ≤ 4000) (ha : a ≤ S.size) (hn0 : 0 ≤ n) (hn : (S.size : Int) - a < n) (h0 : w.cell? ⟨b, 0, none⟩ = some (.string S)) (h1 : w.cell? ⟨b, 1, none⟩ = some (.int .i64 a))
    (h2 : w.cell? ⟨b, 2, none⟩ = some (.int .i64 0)) (hz : w.frozen? ⟨b, 2, none⟩ = false) :
    Calls Try.prog 30 #[.pointer (some ⟨b, 0, none⟩), .int .i64 n] w fun e w' => e = .returned (.string ⟨#[]⟩) ∧ ∃ k, w' = (w.drewN k).setCell ⟨b, 2, none⟩ (.int .i64 1) := by
  have hs : IntKind.i64.wrap ((S.size : Int) - a) = (S.size : Int) - a := IntWalk.i64_in _ (by omega)
  have hd : decide ((S.size : Int) - a < n) = true := by simpa using hn
  go_enter Try.func30, Try.ntmps30
  go_wp2_with fail
  go_quiet (fail)
  go_wp2_with fail
  go_ret
  exact ⟨rfl, _, rfl⟩

def RbOk (b n : Nat) (S : ByteArray) (a : Nat) (w : World) (e : Ending) (w' : World) : Prop :=
  e = .returned (.string (S.extract a (a + n))) ∧ ∃ k j, w' = ((w.drewN k).setCell ⟨b, 1, none⟩ (.int .i64 ((a : Int) + n))).drewN j

theorem rb_ok (b : Nat) (n : Nat) (S : ByteArray) (a : Nat) (w : World) (hl : S.size ≤ 4000) (hn : a + n ≤ S.size) (h0 : w.cell? ⟨b, 0, none⟩ = some (.string S)) (h1 : w.cell? ⟨b, 1, none⟩ = some (.int .i64 a))
    (h2 : w.cell? ⟨b, 2, none⟩ = some (.int .i64 0)) (hz : w.frozen? ⟨b, 1, none⟩ = false) :
    Calls Try.prog 30 #[.pointer (some ⟨b, 0, none⟩), .int .i64 n] w (RbOk b n S a w) := by
  have hs : IntKind.i64.wrap ((S.size : Int) - a) = (S.size : Int) - a := IntWalk.i64_in _ (by omega)
  have hd : decide ((S.size : Int) - a < n) = false := by simp; omega
  go_enter Try.func30, Try.ntmps30
  go_wp2_with fail
  go_quiet (fail)
  go_wp2_with fail
  have g1 : ((w.drewN nq).setCell ⟨b, 1, none⟩ (.int .i64 ((a : Int) + n))).cell? ⟨b, 1, none⟩ = some (.int .i64 ((a : Int) + n)) := World.cell?_setCell_same _ _ _ h1
  have g0 : ((w.drewN nq).setCell ⟨b, 1, none⟩ (.int .i64 ((a : Int) + n))).cell? ⟨b, 0, none⟩ = some (.string S) := by
    rw [World.cell?_setCell_other _ _ _ _ (by simp)]; exact h0
  generalize hW : (w.drewN nq).setCell ⟨b, 1, none⟩ (.int .i64 ((a : Int) + n)) = W2 at g0 g1 ⊢
  have HW := Lib.hid (Exists.intro (p := fun k => (w.drewN k).setCell ⟨b, 1, none⟩ (.int .i64 ((a : Int) + n)) = W2) nq hW)
  clear hW
  have i1 : (a : Int) + n - n = a := by omega
  have i2 : IntKind.i64.wrap (a : Int) = a := IntWalk.i64_in _ (by omega)
  have i3 : (0 : Int) ≤ a := by omega
  have i4 : (a : Int) ≤ (a : Int) + n := by omega
  have i5 : (a : Int) + n ≤ (S.size : Int) := by omega
  have i6 : ((a : Int) + n).toNat = a + n := by omega
  have i7 : ((a : Int)).toNat = a := by omega
  go_quiet (fail)
  go_wp2_with fail
  go_ret
  obtain ⟨k1, hk1⟩ := HW.out
  exact ⟨rfl, k1, _, by rw [hk1]⟩
end Go.Proofs.Ytmkngolkflihlaa.Oct
