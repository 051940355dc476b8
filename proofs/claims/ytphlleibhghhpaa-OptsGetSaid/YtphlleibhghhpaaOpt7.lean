/- Options as bytes: the contracts of the program's. -/
import Derived.Test.YtphlleibhghhpaaOpt3
import Derived.Test.YtphlleibhghhpaaOpt6
import Derived.Test.YtphlleibhghhpaaBase1
import Derived.Deep.RegionHeld3
namespace Go.Proofs.Ytphlleibhghhpaa.Opt
open Go.ChangeShapes Go.WideShapes Go.ChangeAt Go.RowKit
open Go.Proofs.Ytphlleibhghhpaa.Oct (run_one_byte)
set_option linter.unusedVariables false

theorem run_two_bytes (u v : Int) (w : World) (B : Nat) (h0 : w.cell? ⟨B, 0, none⟩ = some (.int .u8 u)) (h1 : w.cell? ⟨B, 1, none⟩ = some (.int .u8 v)) :
    (convert 51 9 (.slice (some ⟨B, 0, none⟩) 2 2)).run Try.prog w = .ok (.string ⟨#[UInt8.ofNat u.toNat, UInt8.ofNat v.toNat]⟩) w := by
  rw [run_convert_bytes_arg w 51 5 Try.underlying51 Try.underlying5 B 0 2 2 [u, v] rfl (fun i hi => by
    have : i = 0 ∨ i = 1 := by omega
    rcases this with rfl | rfl
    · exact h0
    · exact h1) 9 Try.underlying9]
  rfl

theorem run_two_new (u v : Int) (w : World) : (convert 51 9 (.slice (some ⟨w.heap.size, 0, none⟩) 2 2)).run Try.prog (w.alloc (.cells #[.int .u8 u, .int .u8 v] 5)) = .ok (.string ⟨#[UInt8.ofNat u.toNat, UInt8.ofNat v.toNat]⟩) (w.alloc (.cells #[.int .u8 u, .int .u8 v] 5)) :=
  run_two_bytes u v _ _ (World.cell?_alloc_mark w #[.int .u8 u, .int .u8 v] 5 (0, 0) 0) (World.cell?_alloc_mark w #[.int .u8 u, .int .u8 v] 5 (0, 0) 1)
theorem u8_in {k : Int} (h0 : 0 ≤ k) (h1 : k ≤ 255) : IntKind.u8.wrap k = k := by
  rw [IntKind.wrap_u8']; omega

set_option maxRecDepth 100000 in
set_option maxHeartbeats 800000 in
theorem head_any (k : Int) (v : ByteArray) (h : wrong1 k v = 0) (w : World) :
    Calls Try.prog 22 #[.agg #[.int .i64 k, .string v]] w fun e w' => e = .returned (.string (headOf k v.size)) ∧ Below w.heap.size w w' := by
  obtain ⟨hk1, hk2, hk3⟩ := right1 h
  have h253 := right1_long h
  have hb := (Below.refl w.heap.size w).alloc (Nat.le_refl _) (.cells #[.int .i64 k, .string v] 30)
  go_enter Try.func22, Try.ntmps22
  by_cases h31 : k ≤ 31
  · have hr : headOf k v.size = ⟨#[UInt8.ofNat k.toNat]⟩ := if_pos h31
    have hone := run_one_byte k (w.alloc (.cells #[.int .i64 k, .string v] 30))
    rw [World.size_alloc] at hone
    have hu := u8_in (k := k) (by omega) (by omega)
    go_wp2_with fail
    go_ret
    exact ⟨by rw [hr]; rfl, hb.alloc (by simp) _⟩
  · have hr : headOf k v.size = ⟨#[UInt8.ofNat k.toNat, UInt8.ofNat (2 + v.size)]⟩ := if_neg h31
    have htwo := fun u u' w1 => run_two_new u u' w1
    have hu := u8_in (k := k) (by omega) (by omega)
    have hz1 : size1 k v = 2 + v.size := if_neg h31
    have hu2 := u8_in (k := (size1 k v : Int)) (by omega) (by omega)
    rw [← hz1] at hr
    have Hr := Lib.hid hr
    clear hr hz1
    go_wp2_with fail
    have hc0 : (w.alloc (.cells #[.int .i64 k, .string v] 30)).cell? ⟨w.heap.size, 0, none⟩ = some (.int .i64 k) := World.cell?_alloc_mark w #[.int .i64 k, .string v] 30 (0, 0) 0
    have hc1 : (w.alloc (.cells #[.int .i64 k, .string v] 30)).cell? ⟨w.heap.size, 1, none⟩ = some (.string v) := World.cell?_alloc_mark w #[.int .i64 k, .string v] 30 (0, 0) 1
    go_region_with (go_at_call 29; refine (sizeOf_any k v (by omega) _).mono ?_; rintro e1 w1 ⟨rfl, h1⟩; have hd0 := (h1.cell (p := ⟨w.heap.size, 0, none⟩) (by simp)).trans hc0; have hd1 := (h1.cell (p := ⟨w.heap.size, 1, none⟩) (by simp)).trans hc1)
    all_goals (
      go_wp2_with fail
      go_ret
      refine ⟨by rw [Hr.out]; rfl, ?_⟩
      have hs : w.heap.size ≤ (w.alloc (.cells #[.int .i64 k, .string v] 30)).heap.size := by simp
      have h2 : Below w.heap.size w w1 := hb.drew.trans (h1.mono hs)
      exact h2.alloc h2.size _)

def strLen : Value → Nat
  | .string s => s.size
  | _ => 0
set_option maxRecDepth 100000 in
set_option maxHeartbeats 1000000 in
theorem Put_any (l : List O) (hl : Fit l) (a : Option Addr) (cap : Nat) (w : World) (h : OptsAt w a l) :
    Calls Try.prog 16 #[.slice a l.length cap] w fun e w' =>
      ((check l ≠ 0 ∧ e = .returned (.tuple #[.string ⟨#[]⟩, .int .i64 (check l)])) ∨
        (check l = 0 ∧ ∃ j, e = .returned (.tuple #[.string (bytesOf l ++ zeros j), .int .i64 0]) ∧ (bytesOf l ++ zeros j).size % 4 = 0 ∧ j ≤ 3)) ∧ Below w.heap.size w w' := by
  have hlen := hl.1
  have Hf := Lib.hid hl
  have H := Lib.hid h
  have Hcw := Lib.hid (@check_wrongs l)
  have Hck := Lib.hid (Check_any l hl a cap w h)
  generalize check l = c at *
  clear h hl
  by_cases hc : c = 0
  · subst hc
    obtain ⟨hw, hs⟩ := Hcw.out rfl
    have Hw := Lib.hid hw
    have Hbs := Lib.hid (bytesOf_size hw)
    clear hw
    have hc1 : ((0 : Int) != 0) = false := rfl
    go_enter Try.func16, Try.ntmps16
    go_wp2_with fail
    refine Hck.out.mono ?_
    rintro e w1 ⟨rfl, h1⟩
    go_wp2_with fail
    go_loopw [5, 15] (fun s i wr => ∃ (k : Nat) (x : ByteArray), k ≤ l.length ∧ i = .int .i64 k ∧ s = .string x ∧ x.size ≤ 400 ∧ x ++ bytesOf (l.drop k) = bytesOf l ∧ Below w.heap.size w wr) (fun _ i _ => l.length - (intOf i).toNat)
    case atStart => exact ⟨0, ⟨#[]⟩, by omega, rfl, rfl, by decide, by apply ext_l; rw [list_append]; rfl, h1⟩
    case round =>
      obtain ⟨k, x, hk, rfl, rfl, hx4, hx, hb⟩ := hrel
      by_cases hlt : k < l.length
      · obtain ⟨⟨q, v⟩, hi⟩ := some_at hlt
        obtain ⟨b, off, rfl, hb0, hc0, hc1⟩ := H.out.cell hb hi
        have hr := wrongs_at Hw.out hi
        dsimp only at hc0 hc1 hr
        have hv := right1_long hr
        have e : bytesOf (l.drop k) = (headOf q v.size ++ v) ++ bytesOf (l.drop (k + 1)) := by rw [drop_at hi]; rfl
        rw [e] at hx
        have hhd : (headOf q v.size).size ≤ 2 := by rw [headOf_size]; split <;> omega
        have Hh := Lib.hid (fun w2 => head_any q v hr w2)
        generalize headOf q v.size = hd at *
        have hx2 : (x ++ (hd ++ v)) ++ bytesOf (l.drop (k + 1)) = bytesOf l := by rw [← hx]; apply ext_l; simp only [list_append, List.append_assoc]
        have hx3 : (x ++ (hd ++ v)).size ≤ 400 := by
          have := congrArg ByteArray.size hx2
          rw [ByteArray.size_append, Hbs.out] at this
          omega
        have Hx2 := Lib.hid hx2
        have Hx3 := Lib.hid hx3
        clear hx2 hx e hx3
        have ha0 : (wr.alloc (.cells #[.int .i64 q, .string v] 30)).cell? ⟨wr.heap.size, 0, none⟩ = some (.int .i64 q) := World.cell?_alloc_mark wr #[.int .i64 q, .string v] 30 (0, 0) 0
        have ha1 : (wr.alloc (.cells #[.int .i64 q, .string v] 30)).cell? ⟨wr.heap.size, 1, none⟩ = some (.string v) := World.cell?_alloc_mark wr #[.int .i64 q, .string v] 30 (0, 0) 1
        go_wp2_with fail
        go_region_with (go_at_call 22; refine (Hh.out _).mono ?_; rintro e1 w2 ⟨rfl, h2⟩; have hd0 := (h2.cell (p := ⟨wr.heap.size, 0, none⟩) (by simp)).trans ha0; have hd1 := (h2.cell (p := ⟨wr.heap.size, 1, none⟩) (by simp)).trans ha1)
        all_goals (
          have hs2 : w.heap.size ≤ (wr.alloc (.cells #[.int .i64 q, .string v] 30)).heap.size := by have := hb.size; simp; omega
          have h3 : Below w.heap.size w w2 := (hb.alloc hb.size (.cells #[.int .i64 q, .string v] 30)).drew.trans (h2.mono hs2)
          go_wp2_with fail
          refine ⟨⟨k + 1, _, by omega, by go_num, rfl, Hx3.out, Hx2.out, h3⟩, by simp [intOf]; omega⟩)
      · obtain rfl : k = l.length := by omega
        rw [List.drop_length] at hx
        have hx2 : x = bytesOf l := by rw [← hx]; apply ext_l; rw [list_append]; simp [bytesOf]
        have Hx := Lib.hid hx2
        clear hx hx2
        go_wp2_with fail
        go_loopw [5] (fun s wr => ∃ (j : Nat) (x : ByteArray), s = .string x ∧ bytesOf l ++ zeros j = x ∧ x.size = sizes l + j ∧ j + (4 - x.size % 4) % 4 ≤ 3 ∧ Below w.heap.size w wr) (fun s _ => (4 - strLen s % 4) % 4)
        case atStart => exact ⟨0, x, rfl, by rw [Hx.out]; apply ext_l; rw [list_append]; simp [zeros], by rw [Hx.out, Hbs.out]; rfl, by omega, hb⟩
        case round =>
          obtain ⟨j, y, rfl, hy, hyz, hj, hb⟩ := hrel
          have Hy := Lib.hid hy
          clear hy
          by_cases h4 : y.size % 4 = 0
          · have h4' : ((y.size : Int) % 4 == 0) = true := by simp; omega
            go_wp2_with fail
            go_returns
            refine ⟨.inr ⟨trivial, j, by rw [Hy.out]; rfl, by rw [Hy.out]; exact h4, by omega⟩, hb⟩
          · have h4' : ((y.size : Int) % 4 == 0) = false := by simp; omega
            have hone : (⟨#[0]⟩ : ByteArray).size ≤ 1 := by decide
            go_wp2_with fail
            refine ⟨⟨j + 1, _, rfl, ?_, ?_, ?_, hb⟩, ?_⟩
            · rw [← Hy.out]; apply ext_l; simp only [list_append, zeros_list, List.append_assoc]; rw [List.replicate_succ']
            · rw [ByteArray.size_append]; show _ + 1 = _; omega
            · rw [ByteArray.size_append]; show _ + (4 - (_ + 1) % 4) % 4 ≤ 3; omega
            · simp only [strLen]; rw [ByteArray.size_append]; show (4 - (_ + 1) % 4) % 4 < _; omega
  · have hc1 : (c == 0) = false := by simp [hc]
    go_enter Try.func16, Try.ntmps16
    go_wp2_with fail
    refine Hck.out.mono ?_
    rintro e w1 ⟨rfl, h1⟩
    go_wp2_with fail
    go_returns
    exact ⟨.inl ⟨hc, rfl⟩, h1⟩
end Go.Proofs.Ytphlleibhghhpaa.Opt
