/- The program's cut: its reads' contracts, case by case. -/
import Derived.Test.YtmkngolkflihlaaCutA
import Derived.Test.YtmkngolkflihlaaOfInt
namespace Go.Proofs.Ytmkngolkflihlaa.Oct
open Go.ChangeShapes Go.WideShapes Go.ChangeAt Go.RowKit
set_option linter.unusedVariables false

theorem bytes_ok (b n : Nat) (left : ByteArray) (w : World) (hl : left.size ≤ 4000) (hn : n ≤ left.size) (h0 : w.cell? ⟨b, 0, none⟩ = some (.string left)) (hz : w.frozen? ⟨b, 0, none⟩ = false)
    (h1 : w.cell? ⟨b, 1, none⟩ = some (.int .i64 0)) :
    Calls Try.prog 37 #[.pointer (some ⟨b, 0, none⟩), .int .i64 n] w fun e w' => e = .returned (.string (left.extract 0 n)) ∧ w' = w.setCell ⟨b, 0, none⟩ (.string (left.extract n left.size)) := by
  go_enter Try.func37, Try.ntmps37
  go_wp2_with (first
    | (go_at_call 43; refine (left_any b left _ hl h0).mono ?_; rintro e w' ⟨rfl, rfl⟩)
    | (go_at_call 42; refine (stopped_no b _ h1).mono ?_; rintro e w' ⟨rfl, rfl⟩))
  go_ret
  exact ⟨rfl, rfl⟩

theorem bytes_neg (b : Nat) (n : Int) (w : World) (hn : n < 0) (h1 : w.cell? ⟨b, 1, none⟩ = some (.int .i64 0)) (hz : w.frozen? ⟨b, 1, none⟩ = false) :
    Calls Try.prog 37 #[.pointer (some ⟨b, 0, none⟩), .int .i64 n] w fun e w' => e = .returned (.string ⟨#[]⟩) ∧ w' = w.setCell ⟨b, 1, none⟩ (.int .i64 3) := by
  have h1' : (w.setCell ⟨b, 1, none⟩ (.int .i64 3)).cell? ⟨b, 1, none⟩ = some (.int .i64 3) := World.cell?_setCell_same _ _ _ h1
  go_enter Try.func37, Try.ntmps37
  go_wp2_with (first
    | (go_at_call 35; refine (stop_no b 3 _ h1 hz).mono ?_; rintro e w' ⟨rfl, rfl⟩)
    | (go_at_call 42; refine (stopped_yes b 3 _ h1' (by decide)).mono ?_; rintro e w' ⟨rfl, rfl⟩))
  go_ret
  exact ⟨rfl, rfl⟩

theorem bytes_short (b : Nat) (n : Int) (left : ByteArray) (w : World) (hl : left.size ≤ 4000) (hn : (left.size : Int) < n) (h0 : w.cell? ⟨b, 0, none⟩ = some (.string left))
    (h1 : w.cell? ⟨b, 1, none⟩ = some (.int .i64 0)) (hz : w.frozen? ⟨b, 1, none⟩ = false) :
    Calls Try.prog 37 #[.pointer (some ⟨b, 0, none⟩), .int .i64 n] w fun e w' => e = .returned (.string ⟨#[]⟩) ∧ w' = w.setCell ⟨b, 1, none⟩ (.int .i64 1) := by
  have h1' : (w.setCell ⟨b, 1, none⟩ (.int .i64 1)).cell? ⟨b, 1, none⟩ = some (.int .i64 1) := World.cell?_setCell_same _ _ _ h1
  have hn0 : 0 ≤ n := by omega
  go_enter Try.func37, Try.ntmps37
  go_wp2_with (first
    | (go_at_call 43; refine (left_any b left _ hl h0).mono ?_; rintro e w' ⟨rfl, rfl⟩)
    | (go_at_call 35; refine (stop_no b 1 _ h1 hz).mono ?_; rintro e w' ⟨rfl, rfl⟩)
    | (go_at_call 42; refine (stopped_yes b 1 _ h1' (by decide)).mono ?_; rintro e w' ⟨rfl, rfl⟩))
  go_ret
  exact ⟨rfl, rfl⟩

theorem bytes_fell (b : Nat) (n fail : Int) (left : ByteArray) (w : World) (hl : left.size ≤ 4000) (h0 : w.cell? ⟨b, 0, none⟩ = some (.string left)) (h1 : w.cell? ⟨b, 1, none⟩ = some (.int .i64 fail)) (hf : fail ≠ 0) :
    Calls Try.prog 37 #[.pointer (some ⟨b, 0, none⟩), .int .i64 n] w fun e w' => e = .returned (.string ⟨#[]⟩) ∧ w = w' := by
  by_cases hn : n < 0
  · go_enter Try.func37, Try.ntmps37
    go_wp2_with (first
      | (go_at_call 35; refine (stop_yes b fail 3 _ h1 hf).mono ?_; rintro e w' ⟨rfl, rfl⟩)
      | (go_at_call 42; refine (stopped_yes b fail _ h1 hf).mono ?_; rintro e w' ⟨rfl, rfl⟩))
    go_ret
    exact ⟨rfl, rfl⟩
  · by_cases hs : (left.size : Int) < n
    all_goals (
      go_enter Try.func37, Try.ntmps37
      go_wp2_with (first
        | (go_at_call 43; refine (left_any b left _ hl h0).mono ?_; rintro e w' ⟨rfl, rfl⟩)
        | (go_at_call 35; refine (stop_yes b fail 1 _ h1 hf).mono ?_; rintro e w' ⟨rfl, rfl⟩)
        | (go_at_call 42; refine (stopped_yes b fail _ h1 hf).mono ?_; rintro e w' ⟨rfl, rfl⟩))
      go_ret
      exact ⟨rfl, rfl⟩)

theorem bytes_nil (n : Int) (w : World) :
    Calls Try.prog 37 #[.pointer none, .int .i64 n] w fun e w' => e = .returned (.string ⟨#[]⟩) ∧ w = w' := by
  by_cases hn : n < 0
  · go_enter Try.func37, Try.ntmps37
    go_wp2_with (first
      | (go_at_call 35; refine (stop_nil 3 _).mono ?_; rintro e w' ⟨rfl, rfl⟩)
      | (go_at_call 42; refine (stopped_nil _).mono ?_; rintro e w' ⟨rfl, rfl⟩))
    go_ret
    exact ⟨rfl, rfl⟩
  · by_cases hs : 0 < n
    all_goals (
      go_enter Try.func37, Try.ntmps37
      go_wp2_with (first
        | (go_at_call 43; refine (left_nil _).mono ?_; rintro e w' ⟨rfl, rfl⟩)
        | (go_at_call 35; refine (stop_nil 1 _).mono ?_; rintro e w' ⟨rfl, rfl⟩)
        | (go_at_call 42; refine (stopped_nil _).mono ?_; rintro e w' ⟨rfl, rfl⟩))
      go_ret
      exact ⟨rfl, rfl⟩)

theorem new_any (s : ByteArray) (w : World) :
    Calls Try.prog 23 #[.string s] w fun e w' => e = .returned (.pointer (some ⟨w.heap.size, 0, none⟩)) ∧ w' = w.alloc (.cells #[.string s, .int .i64 0] 80) := by
  go_enter Try.func23, Try.ntmps23
  go_wp2
  go_ret
  exact ⟨rfl, rfl⟩

theorem done_fell (b : Nat) (fail : Int) (w : World) (h1 : w.cell? ⟨b, 1, none⟩ = some (.int .i64 fail)) (hf : fail ≠ 0) :
    Calls Try.prog 25 #[.pointer (some ⟨b, 0, none⟩)] w fun e w' => e = .returned (.int .i64 fail) ∧ w = w' := by
  have hf1 : (fail == 0) = false := by simpa using hf
  go_enter Try.func25, Try.ntmps25
  go_wp2
  go_ret
  exact ⟨rfl, rfl⟩

theorem done_more (b : Nat) (left : ByteArray) (w : World) (h0 : w.cell? ⟨b, 0, none⟩ = some (.string left)) (h1 : w.cell? ⟨b, 1, none⟩ = some (.int .i64 0)) (hl : left.size ≠ 0) :
    Calls Try.prog 25 #[.pointer (some ⟨b, 0, none⟩)] w fun e w' => e = .returned (.int .i64 2) ∧ w = w' := by
  have hb := not_empty left hl
  clear hl
  go_enter Try.func25, Try.ntmps25
  go_wp2
  go_ret
  exact ⟨rfl, rfl⟩

theorem done_ok (b : Nat) (left : ByteArray) (w : World) (h0 : w.cell? ⟨b, 0, none⟩ = some (.string left)) (h1 : w.cell? ⟨b, 1, none⟩ = some (.int .i64 0)) (hl : left.size = 0) :
    Calls Try.prog 25 #[.pointer (some ⟨b, 0, none⟩)] w fun e w' => e = .returned (.int .i64 0) ∧ w = w' := by
  have hb := is_empty left hl
  clear hl
  go_enter Try.func25, Try.ntmps25
  go_wp2
  go_ret
  exact ⟨rfl, rfl⟩

theorem done_nil (w : World) :
    Calls Try.prog 25 #[.pointer none] w fun e w' => e = .returned (.int .i64 10) ∧ w = w' := by
  go_enter Try.func25, Try.ntmps25
  go_wp2
  go_ret
  exact ⟨rfl, rfl⟩
end Go.Proofs.Ytmkngolkflihlaa.Oct
