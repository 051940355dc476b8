/- The document's Put of options: its contract. -/
import Derived.Test.YtkjojfcknfhkhaaOptR2
import Derived.Test.YtkjojfcknfhkhaaOpt6
import Derived.Test.YtkjojfcknfhkhaaBase1
import Derived.Test.YtkjojfcknfhkhaaPkt0
import Derived.BigRegion
import Derived.Handy
namespace Go.Proofs.Ytkjojfcknfhkhaa.Opt
open Go.ChangeShapes Go.WideShapes Go.ChangeAt Go.RowKit
open Go.Proofs.Ytkjojfcknfhkhaa.Oct (run_one_byte)
set_option linter.unusedVariables false

theorem run_one_drew (v : Int) (w : World) : (convert 92 9 (.slice (some ⟨w.heap.size, 0, none⟩) 1 1)).run Try.prog (w.alloc (.cells #[.int .u8 v] 5)).drew =
    .ok (.string ⟨#[UInt8.ofNat v.toNat]⟩) (w.alloc (.cells #[.int .u8 v] 5)).drew := by
  rw [run_convert_bytes_arg (w.alloc (.cells #[.int .u8 v] 5)).drew 92 5 Try.underlying92 Try.underlying5 w.heap.size 0 1 1 [v] rfl (fun i hi => by
    obtain rfl : i = 0 := by omega
    show (w.alloc (.cells #[.int .u8 v] 5)).cell? _ = _
    rw [World.cell?_alloc_mark]; rfl) 9 Try.underlying9]
  rfl

theorem u8in {k : Int} (h0 : 0 ≤ k) (h1 : k ≤ 255) : IntKind.u8.wrap k = k := by rw [IntKind.wrap_u8]; omega
def strLenR : Value → Nat
  | .string s => s.size
  | _ => 0

set_option maxRecDepth 100000 in
set_option maxHeartbeats 4000000 in
theorem RefPut_any (l : List O) (hl : Fit l) (a : Option Addr) (cap : Nat) (w : World) (h : OptsAt w a l) :
    Calls Try.prog 58 #[.slice a l.length cap] w fun e w' => e = .returned (.tuple #[.string (Pkt.optText l), .int .i64 (check l)]) ∧ Below w.heap.size w w' := by
  have hlen := hl.1
  have Hf := Lib.hid hl
  have H := Lib.hid h
  have Hcw := Lib.hid (@check_wrongs l)
  have Hck := Lib.hid (RefCheck_any l hl a cap w h)
  have HT := Lib.hid (show Pkt.optText l = if check l = 0 then bytesOf l ++ zeros (Pkt.pad l) else ⟨#[]⟩ from rfl)
  generalize Pkt.optText l = T at *
  generalize check l = c at *
  clear h hl
  by_cases hc : c = 0
  · subst hc
    obtain ⟨hw, hs⟩ := Hcw.out rfl
    have Hw := Lib.hid hw
    have Hbs := Lib.hid (bytesOf_size hw)
    clear hw
    have hc1 : ((0 : Int) != 0) = false := rfl
    go_enter Try.func58, Try.ntmps58
    go_wp2_with fail
    refine Hck.out.mono ?_
    rintro e w1 ⟨rfl, h1⟩
    go_wp2_with fail
    go_loopw [5, 6] (fun s i wr => ∃ (k : Nat) (x : ByteArray), k ≤ l.length ∧ i = .int .i64 k ∧ s = .string x ∧ x.size ≤ 400 ∧ x ++ bytesOf (l.drop k) = bytesOf l ∧ Below w.heap.size w wr) (fun _ i _ => l.length - (intOf i).toNat)
    case atStart => exact ⟨0, ⟨#[]⟩, by omega, rfl, rfl, by decide, by apply ext_l; rw [list_append]; rfl, h1⟩
    case round =>
      obtain ⟨k, x, hk, rfl, rfl, hx4, hx, hb⟩ := hrel
      by_cases hlt : k < l.length
      · obtain ⟨⟨q, v⟩, hi⟩ := some_at hlt
        obtain ⟨b, off, rfl, hb0, hc0, hc1⟩ := H.out.cell hb hi
        have hr := wrongs_at Hw.out hi
        dsimp only at hc0 hc1 hr
        have hv := right1_long hr
        obtain ⟨hq1, hq2, -⟩ := right1 hr
        have e : bytesOf (l.drop k) = (headOf q v.size ++ v) ++ bytesOf (l.drop (k + 1)) := by rw [drop_at hi]; rfl
        rw [e] at hx
        have hx2 : (x ++ (headOf q v.size ++ v)) ++ bytesOf (l.drop (k + 1)) = bytesOf l := by rw [← hx]; apply ext_l; simp only [list_append, List.append_assoc]
        have hx3 : (x ++ (headOf q v.size ++ v)).size ≤ 400 := by
          have := congrArg ByteArray.size hx2
          rw [ByteArray.size_append, Hbs.out] at this
          omega
        have Hx2 := Lib.hid hx2
        have Hx3 := Lib.hid hx3
        clear hx2 hx e hx3
        have hone := run_one_byte q wr
        have hu := u8in (k := q) (by omega) (by omega)
        have hbW := hb.alloc hb.size (.cells #[.int .u8 q] 5)
        have hd0 := cell_alloc (.cells #[.int .u8 q] 5) (Nat.lt_of_lt_of_le hb0 hb.size) hc0
        have hd1 := cell_alloc (.cells #[.int .u8 q] 5) (Nat.lt_of_lt_of_le hb0 hb.size) hc1
        by_cases h31 : q ≤ 31
        · have hq : ¬ (31 : Int) < q := by omega
          have hvn := right1_short hr h31
          have hh : x ++ (headOf q v.size ++ v) = x ++ ⟨#[UInt8.ofNat q.toNat]⟩ := by
            rw [show headOf q v.size = ⟨#[UInt8.ofNat q.toNat]⟩ from if_pos h31, hvn]; apply ext_l; simp only [list_append]; simp
          rw [hh] at Hx2 Hx3
          clear hh
          go_wp2_with fail
          exact ⟨⟨k + 1, _, by omega, by go_num, rfl, Hx3.out, Hx2.out, hbW⟩, by simp [intOf]; omega⟩
        · have hq : (31 : Int) < q := by omega
          have hh : x ++ (headOf q v.size ++ v) = ((x ++ ⟨#[UInt8.ofNat q.toNat]⟩) ++ ⟨#[UInt8.ofNat ((v.size : Int) + 2).toNat]⟩) ++ v := by
            rw [show headOf q v.size = ⟨#[UInt8.ofNat q.toNat, UInt8.ofNat (2 + v.size)]⟩ from if_neg h31]
            rw [show ((v.size : Int) + 2).toNat = 2 + v.size by omega]
            apply ext_l; simp only [list_append]; simp
          rw [hh] at Hx2 Hx3
          clear hh
          have hone2 := run_one_drew ((v.size : Int) + 2) (wr.alloc (.cells #[.int .u8 q] 5))
          rw [World.size_alloc] at hone2
          obtain ⟨u8, hu8⟩ : ∃ u8, UInt8.ofNat ((v.size : Int) + 2).toNat = u8 := ⟨_, rfl⟩
          rw [hu8] at hone2 Hx2 Hx3
          clear hu8
          have hu2 := u8in (k := (v.size : Int) + 2) (by omega) (by omega)
          have hlt2 : b < (wr.alloc (.cells #[.int .u8 q] 5)).heap.size := by have := hb.size; simp; omega
          have hb2 := hbW.alloc hbW.size (.cells #[.int .u8 ((v.size : Int) + 2)] 5)
          have he1 := cell_alloc (.cells #[.int .u8 ((v.size : Int) + 2)] 5) hlt2 hd1
          go_wp2_with fail
          go_region
          all_goals (
            go_wp2_with fail
            exact ⟨⟨k + 1, _, by omega, by go_num, rfl, Hx3.out, Hx2.out, hb2.drew⟩, by simp [intOf]; omega⟩)
      · obtain rfl : k = l.length := by omega
        rw [List.drop_length] at hx
        have hx2 : x = bytesOf l := by rw [← hx]; apply ext_l; rw [list_append]; simp [bytesOf]
        have Hx := Lib.hid hx2
        clear hx hx2
        have hpad := Lib.hid (show Pkt.pad l = (4 - sizes l % 4) % 4 from rfl)
        have HT2 := Lib.hid (show T = bytesOf l ++ zeros (Pkt.pad l) by simpa using HT.out)
        generalize Pkt.pad l = pd at *
        go_wp2_with fail
        go_loopw [5] (fun s wr => ∃ (j : Nat) (x : ByteArray), s = .string x ∧ bytesOf l ++ zeros j = x ∧ x.size = sizes l + j ∧ j + (4 - x.size % 4) % 4 = pd ∧ Below w.heap.size w wr) (fun s _ => (4 - strLenR s % 4) % 4)
        case atStart => exact ⟨0, x, rfl, by rw [Hx.out]; apply ext_l; rw [list_append]; simp [zeros], by rw [Hx.out, Hbs.out]; rfl, by rw [hpad.out, Hx.out, Hbs.out]; omega, hb⟩
        case round =>
          obtain ⟨j, y, rfl, hy, hyz, hj, hb⟩ := hrel
          have Hy := Lib.hid hy
          clear hy
          by_cases h4 : y.size % 4 = 0
          · have h4' : ((y.size : Int) % 4 == 0) = true := by simp; omega
            have hjp : j = pd := by omega
            go_wp2_with fail
            go_returns
            exact ⟨by rw [HT2.out, ← hjp, Hy.out]; rfl, hb⟩
          · have h4' : ((y.size : Int) % 4 == 0) = false := by simp; omega
            have hp3 : pd ≤ 3 := by rw [hpad.out]; omega
            have hone : (⟨#[0]⟩ : ByteArray).size ≤ 1 := by decide
            go_wp2_with fail
            refine ⟨⟨j + 1, _, rfl, ?_, ?_, ?_, hb⟩, ?_⟩
            · rw [← Hy.out]; apply ext_l; simp only [list_append, zeros_list, List.append_assoc]; rw [List.replicate_succ']
            · rw [ByteArray.size_append]; show _ + 1 = _; omega
            · rw [ByteArray.size_append]; show _ + (4 - (_ + 1) % 4) % 4 = _; omega
            · simp only [strLenR]; rw [ByteArray.size_append]; show (4 - (_ + 1) % 4) % 4 < _; omega
  · have HT2 := Lib.hid (HT.out.trans (if_neg hc))
    have hcb : (c == 0) = false := by simpa using hc
    go_enter Try.func58, Try.ntmps58
    go_wp2_with fail
    refine Hck.out.mono ?_
    rintro e w1 ⟨rfl, h1⟩
    go_wp2_with fail
    go_returns
    exact ⟨by rw [HT2.out]; rfl, h1⟩
end Go.Proofs.Ytkjojfcknfhkhaa.Opt
