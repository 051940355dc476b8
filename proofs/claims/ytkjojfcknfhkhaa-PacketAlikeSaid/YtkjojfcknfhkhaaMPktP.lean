/- Options as bytes: the contracts of the program's. · The program's beginning of a packet, its Check, and the sum of its bytes: their contracts. · What the program puts behind a packet's beginning: its contract. · The program's Put of a packet: its contract. -/
import Derived.Test.YtkjojfcknfhkhaaOpt3
import Derived.Test.YtkjojfcknfhkhaaOpt6
import Derived.Test.YtkjojfcknfhkhaaBase1
import Derived.Deep.RegionHeld3
import Derived.Test.YtkjojfcknfhkhaaPktP1
import Derived.Test.YtkjojfcknfhkhaaMPktR
import Derived.Test.YtkjojfcknfhkhaaHead3
import Derived.Test.YtkjojfcknfhkhaaHead9
import Derived.Test.YtkjojfcknfhkhaaPutInt
namespace Go.Proofs.Ytkjojfcknfhkhaa.Opt
open Go.ChangeShapes Go.WideShapes Go.ChangeAt Go.RowKit
open Go.Proofs.Ytkjojfcknfhkhaa.Oct (run_one_byte)
set_option linter.unusedVariables false

theorem run_two_bytes (u v : Int) (w : World) (B : Nat) (h0 : w.cell? ⟨B, 0, none⟩ = some (.int .u8 u)) (h1 : w.cell? ⟨B, 1, none⟩ = some (.int .u8 v)) :
    (convert 92 9 (.slice (some ⟨B, 0, none⟩) 2 2)).run Try.prog w = .ok (.string ⟨#[UInt8.ofNat u.toNat, UInt8.ofNat v.toNat]⟩) w := by
  rw [run_convert_bytes_arg w 92 5 Try.underlying92 Try.underlying5 B 0 2 2 [u, v] rfl (fun i hi => by
    have : i = 0 ∨ i = 1 := by omega
    rcases this with rfl | rfl
    · exact h0
    · exact h1) 9 Try.underlying9]
  rfl

theorem run_two_new (u v : Int) (w : World) : (convert 92 9 (.slice (some ⟨w.heap.size, 0, none⟩) 2 2)).run Try.prog (w.alloc (.cells #[.int .u8 u, .int .u8 v] 5)) = .ok (.string ⟨#[UInt8.ofNat u.toNat, UInt8.ofNat v.toNat]⟩) (w.alloc (.cells #[.int .u8 u, .int .u8 v] 5)) :=
  run_two_bytes u v _ _ (World.cell?_alloc_mark w #[.int .u8 u, .int .u8 v] 5 (0, 0) 0) (World.cell?_alloc_mark w #[.int .u8 u, .int .u8 v] 5 (0, 0) 1)
theorem u8_in {k : Int} (h0 : 0 ≤ k) (h1 : k ≤ 255) : IntKind.u8.wrap k = k := by
  rw [IntKind.wrap_u8']; omega

set_option maxRecDepth 100000 in
set_option maxHeartbeats 800000 in
theorem head_any (k : Int) (v : ByteArray) (h : wrong1 k v = 0) (w : World) :
    Calls Try.prog 45 #[.agg #[.int .i64 k, .string v]] w fun e w' => e = .returned (.string (headOf k v.size)) ∧ Below w.heap.size w w' := by
  obtain ⟨hk1, hk2, hk3⟩ := right1 h
  have h253 := right1_long h
  have hb := (Below.refl w.heap.size w).alloc (Nat.le_refl _) (.cells #[.int .i64 k, .string v] 57)
  go_enter Try.func45, Try.ntmps45
  by_cases h31 : k ≤ 31
  · have hr : headOf k v.size = ⟨#[UInt8.ofNat k.toNat]⟩ := if_pos h31
    have hone := run_one_byte k (w.alloc (.cells #[.int .i64 k, .string v] 57))
    rw [World.size_alloc] at hone
    have hu := u8_in (k := k) (by omega) (by omega)
    go_wp2_with fail
    go_ret
    exact ⟨by rw [hr]; rfl, hb.alloc (by simp) _⟩
  · have hr : headOf k v.size = ⟨#[UInt8.ofNat k.toNat, UInt8.ofNat (2 + v.size)]⟩ := if_neg h31
    have htwo := fun u u' w1 => run_two_new u u' w1
    have hu := u8_in (k := k) (by omega) (by omega)
    have hz1 : size1 k v = 2 + v.size := if_neg h31
    have hu2 := u8_in (k := (size1 k v : Int)) (by omega) (by omega)
    rw [← hz1] at hr
    have Hr := Lib.hid hr
    clear hr hz1
    go_wp2_with fail
    have hc0 : (w.alloc (.cells #[.int .i64 k, .string v] 57)).cell? ⟨w.heap.size, 0, none⟩ = some (.int .i64 k) := World.cell?_alloc_mark w #[.int .i64 k, .string v] 57 (0, 0) 0
    have hc1 : (w.alloc (.cells #[.int .i64 k, .string v] 57)).cell? ⟨w.heap.size, 1, none⟩ = some (.string v) := World.cell?_alloc_mark w #[.int .i64 k, .string v] 57 (0, 0) 1
    go_region_with (go_at_call 80; refine (sizeOf_any k v (by omega) _).mono ?_; rintro e1 w1 ⟨rfl, h1⟩; have hd0 := (h1.cell (p := ⟨w.heap.size, 0, none⟩) (by simp)).trans hc0; have hd1 := (h1.cell (p := ⟨w.heap.size, 1, none⟩) (by simp)).trans hc1)
    all_goals (
      go_wp2_with fail
      go_ret
      refine ⟨by rw [Hr.out]; rfl, ?_⟩
      have hs : w.heap.size ≤ (w.alloc (.cells #[.int .i64 k, .string v] 57)).heap.size := by simp
      have h2 : Below w.heap.size w w1 := hb.drew.trans (h1.mono hs)
      exact h2.alloc h2.size _)

def strLen : Value → Nat
  | .string s => s.size
  | _ => 0
set_option maxRecDepth 100000 in
set_option maxHeartbeats 1000000 in
theorem Put_any (l : List O) (hl : Fit l) (a : Option Addr) (cap : Nat) (w : World) (h : OptsAt w a l) :
    Calls Try.prog 19 #[.slice a l.length cap] w fun e w' =>
      ((check l ≠ 0 ∧ e = .returned (.tuple #[.string ⟨#[]⟩, .int .i64 (check l)])) ∨
        (check l = 0 ∧ ∃ j, e = .returned (.tuple #[.string (bytesOf l ++ zeros j), .int .i64 0]) ∧ (bytesOf l ++ zeros j).size % 4 = 0 ∧ j ≤ 3)) ∧ Below w.heap.size w w' := by
  have hlen := hl.1
  have Hf := Lib.hid hl
  have H := Lib.hid h
  have Hcw := Lib.hid (@check_wrongs l)
  have Hck := Lib.hid (Check_any l hl a cap w h)
  generalize check l = c at *
  clear h hl
  by_cases hc : c = 0
  · subst hc
    obtain ⟨hw, hs⟩ := Hcw.out rfl
    have Hw := Lib.hid hw
    have Hbs := Lib.hid (bytesOf_size hw)
    clear hw
    have hc1 : ((0 : Int) != 0) = false := rfl
    go_enter Try.func19, Try.ntmps19
    go_wp2_with fail
    refine Hck.out.mono ?_
    rintro e w1 ⟨rfl, h1⟩
    go_wp2_with fail
    go_loopw [5, 15] (fun s i wr => ∃ (k : Nat) (x : ByteArray), k ≤ l.length ∧ i = .int .i64 k ∧ s = .string x ∧ x.size ≤ 400 ∧ x ++ bytesOf (l.drop k) = bytesOf l ∧ Below w.heap.size w wr) (fun _ i _ => l.length - (intOf i).toNat)
    case atStart => exact ⟨0, ⟨#[]⟩, by omega, rfl, rfl, by decide, by apply ext_l; rw [list_append]; rfl, h1⟩
    case round =>
      obtain ⟨k, x, hk, rfl, rfl, hx4, hx, hb⟩ := hrel
      by_cases hlt : k < l.length
      · obtain ⟨⟨q, v⟩, hi⟩ := some_at hlt
        obtain ⟨b, off, rfl, hb0, hc0, hc1⟩ := H.out.cell hb hi
        have hr := wrongs_at Hw.out hi
        dsimp only at hc0 hc1 hr
        have hv := right1_long hr
        have e : bytesOf (l.drop k) = (headOf q v.size ++ v) ++ bytesOf (l.drop (k + 1)) := by rw [drop_at hi]; rfl
        rw [e] at hx
        have hhd : (headOf q v.size).size ≤ 2 := by rw [headOf_size]; split <;> omega
        have Hh := Lib.hid (fun w2 => head_any q v hr w2)
        generalize headOf q v.size = hd at *
        have hx2 : (x ++ (hd ++ v)) ++ bytesOf (l.drop (k + 1)) = bytesOf l := by rw [← hx]; apply ext_l; simp only [list_append, List.append_assoc]
        have hx3 : (x ++ (hd ++ v)).size ≤ 400 := by
          have := congrArg ByteArray.size hx2
          rw [ByteArray.size_append, Hbs.out] at this
          omega
        have Hx2 := Lib.hid hx2
        have Hx3 := Lib.hid hx3
        clear hx2 hx e hx3
        have ha0 : (wr.alloc (.cells #[.int .i64 q, .string v] 57)).cell? ⟨wr.heap.size, 0, none⟩ = some (.int .i64 q) := World.cell?_alloc_mark wr #[.int .i64 q, .string v] 57 (0, 0) 0
        have ha1 : (wr.alloc (.cells #[.int .i64 q, .string v] 57)).cell? ⟨wr.heap.size, 1, none⟩ = some (.string v) := World.cell?_alloc_mark wr #[.int .i64 q, .string v] 57 (0, 0) 1
        go_wp2_with fail
        go_region_with (go_at_call 45; refine (Hh.out _).mono ?_; rintro e1 w2 ⟨rfl, h2⟩; have hd0 := (h2.cell (p := ⟨wr.heap.size, 0, none⟩) (by simp)).trans ha0; have hd1 := (h2.cell (p := ⟨wr.heap.size, 1, none⟩) (by simp)).trans ha1)
        all_goals (
          have hs2 : w.heap.size ≤ (wr.alloc (.cells #[.int .i64 q, .string v] 57)).heap.size := by have := hb.size; simp; omega
          have h3 : Below w.heap.size w w2 := (hb.alloc hb.size (.cells #[.int .i64 q, .string v] 57)).drew.trans (h2.mono hs2)
          go_wp2_with fail
          refine ⟨⟨k + 1, _, by omega, by go_num, rfl, Hx3.out, Hx2.out, h3⟩, by simp [intOf]; omega⟩)
      · obtain rfl : k = l.length := by omega
        rw [List.drop_length] at hx
        have hx2 : x = bytesOf l := by rw [← hx]; apply ext_l; rw [list_append]; simp [bytesOf]
        have Hx := Lib.hid hx2
        clear hx hx2
        go_wp2_with fail
        go_loopw [5] (fun s wr => ∃ (j : Nat) (x : ByteArray), s = .string x ∧ bytesOf l ++ zeros j = x ∧ x.size = sizes l + j ∧ j + (4 - x.size % 4) % 4 ≤ 3 ∧ Below w.heap.size w wr) (fun s _ => (4 - strLen s % 4) % 4)
        case atStart => exact ⟨0, x, rfl, by rw [Hx.out]; apply ext_l; rw [list_append]; simp [zeros], by rw [Hx.out, Hbs.out]; rfl, by omega, hb⟩
        case round =>
          obtain ⟨j, y, rfl, hy, hyz, hj, hb⟩ := hrel
          have Hy := Lib.hid hy
          clear hy
          by_cases h4 : y.size % 4 = 0
          · have h4' : ((y.size : Int) % 4 == 0) = true := by simp; omega
            go_wp2_with fail
            go_returns
            refine ⟨.inr ⟨trivial, j, by rw [Hy.out]; rfl, by rw [Hy.out]; exact h4, by omega⟩, hb⟩
          · have h4' : ((y.size : Int) % 4 == 0) = false := by simp; omega
            have hone : (⟨#[0]⟩ : ByteArray).size ≤ 1 := by decide
            go_wp2_with fail
            refine ⟨⟨j + 1, _, rfl, ?_, ?_, ?_, hb⟩, ?_⟩
            · rw [← Hy.out]; apply ext_l; simp only [list_append, zeros_list, List.append_assoc]; rw [List.replicate_succ']
            · rw [ByteArray.size_append]; show _ + 1 = _; omega
            · rw [ByteArray.size_append]; show _ + (4 - (_ + 1) % 4) % 4 ≤ 3; omega
            · simp only [strLen]; rw [ByteArray.size_append]; show (4 - (_ + 1) % 4) % 4 < _; omega
  · have hc1 : (c == 0) = false := by simp [hc]
    go_enter Try.func19, Try.ntmps19
    go_wp2_with fail
    refine Hck.out.mono ?_
    rintro e w1 ⟨rfl, h1⟩
    go_wp2_with fail
    go_returns
    exact ⟨.inl ⟨hc, rfl⟩, h1⟩
end Go.Proofs.Ytkjojfcknfhkhaa.Opt

namespace Go.Proofs.Ytkjojfcknfhkhaa.Pkt
open Go.ChangeShapes Go.WideShapes Go.ChangeAt Go.RowKit
open Go.Proofs.Ytkjojfcknfhkhaa.Opt (O OptsAt Fit)
open Go.Proofs.Ytkjojfcknfhkhaa.Head (rowOf sizeOf_mid acks bears)
set_option linter.unusedVariables false

theorem sizeOf_four (k : Int) (l : Bool) : Head.sizeOf k l % 4 = 0 := by
  unfold Head.sizeOf Head.plainSize
  cases Head.may k l <;> cases l <;> cases acks k <;> cases Head.own k <;> decide

theorem need_sum (p : K) (z n : Nat) (hz : Head.sizeOf p.kind p.long = z) (hn : Opt.sizes p.opts = n) : need p = (z : Int) / 4 + ((n : Int) + 3) / 4 := by
  have h4 := sizeOf_four p.kind p.long
  unfold need
  rw [hz] at h4 ⊢
  rw [hn]
  omega

theorem words_calc (z n : Nat) (hz : z ≤ 28) (hn : n ≤ 9006000) :
    IntKind.i64.wrap (IntKind.i64.wrap ((z : Int) / 4) + IntKind.i64.wrap ((IntKind.i64.wrap (IntKind.i64.wrap ((n : Int) + 4) - 1)).tdiv 4)) = (z : Int) / 4 + ((n : Int) + 3) / 4 := by
  have i64 : ∀ m : Int, 0 ≤ m → m ≤ 10000000 → IntKind.i64.wrap m = m := fun m h0 h1 => by rw [IntKind.wrap_i64]; omega
  rw [i64 ((z : Int) / 4) (by omega) (by omega), i64 ((n : Int) + 4) (by omega) (by omega), show (n : Int) + 4 - 1 = (n : Int) + 3 by omega, i64 ((n : Int) + 3) (by omega) (by omega), Int.tdiv_eq_ediv_of_nonneg (by omega)]
  rw [i64 (((n : Int) + 3) / 4) (by omega) (by omega)]
  exact i64 _ (by omega) (by omega)

set_option maxRecDepth 100000 in
set_option maxHeartbeats 4000000 in
theorem beginning_any (p : K) (hl : Fit p.opts) (a : Option Addr) (cap : Nat) (w : World) (h : OptsAt w a p.opts) :
    Calls Try.prog 21 #[.agg #[.int .i64 p.kind, .bool p.long, .int .i64 p.src, .int .i64 p.dst, .int .i64 p.cc, .int .i64 p.cover, .int .i64 p.seq, .int .i64 p.ack, .int .i64 p.service, .int .i64 p.code, .int .i64 p.detail, .slice a p.opts.length cap, .string p.data]] w fun e w' => e = .returned (.agg (rowOf (begins p 0))) ∧ Below w.heap.size w w' := by
  have hs := hl.sizes
  have hz := sizeOf_mid p.kind p.long
  have H := Lib.hid h
  have CS := Lib.hid (fun w (h : OptsAt w a p.opts) => Opt.Size_any p.opts hl a cap w h)
  have CZ := Lib.hid (fun w => Head.Size_any p.kind p.long w)
  have hN := fun z n e f => need_sum p z n e f
  have hB := Lib.hid (show rowOf (begins p 0) = #[.int .i64 p.src, .int .i64 p.dst, .int .i64 (min (need p) 255), .int .i64 p.cc, .int .i64 p.cover, .int .i64 0, .int .i64 p.kind, .bool p.long, .int .i64 p.seq] from rfl)
  clear h hl
  obtain ⟨k, l, s, d, cc, cv, q, ak, sv, co, de, os, da⟩ := p
  dsimp only at *
  generalize rowOf (begins ⟨k, l, s, d, cc, cv, q, ak, sv, co, de, os, da⟩ 0) = R at *
  generalize need ⟨k, l, s, d, cc, cv, q, ak, sv, co, de, os, da⟩ = N at *
  obtain ⟨z, hz'⟩ := Int.eq_ofNat_of_zero_le hz.1
  replace hN := hN z _ hz' rfl
  generalize Head.sizeOf k l = Z at *
  subst hz'
  generalize Opt.sizes os = n at *
  generalize os.length = len at *
  have hN' := Lib.hid hN
  clear hN
  have hb0 := (Below.refl w.heap.size w).alloc (Nat.le_refl _) (.cells #[.int .i64 k, .bool l, .int .i64 s, .int .i64 d, .int .i64 cc, .int .i64 cv, .int .i64 q, .int .i64 ak, .int .i64 sv, .int .i64 co, .int .i64 de, .slice a len cap, .string da] 24)
  have hb1 := hb0.alloc (by simp) (.cells #[.int .i64 0, .int .i64 0, .int .i64 0, .int .i64 0, .int .i64 0, .int .i64 0, .int .i64 0, .bool false, .int .i64 0] 43)
  obtain ⟨W, hW⟩ : ∃ W, (w.alloc (.cells #[.int .i64 k, .bool l, .int .i64 s, .int .i64 d, .int .i64 cc, .int .i64 cv, .int .i64 q, .int .i64 ak, .int .i64 sv, .int .i64 co, .int .i64 de, .slice a len cap, .string da] 24)).alloc (.cells #[.int .i64 0, .int .i64 0, .int .i64 0, .int .i64 0, .int .i64 0, .int .i64 0, .int .i64 0, .bool false, .int .i64 0] 43) = W := ⟨_, rfl⟩
  have hsz : W.heap.size = w.heap.size + 2 := by rw [← hW]; simp
  have hA : W.heap[w.heap.size]? = some (.cells #[.int .i64 k, .bool l, .int .i64 s, .int .i64 d, .int .i64 cc, .int .i64 cv, .int .i64 q, .int .i64 ak, .int .i64 sv, .int .i64 co, .int .i64 de, .slice a len cap, .string da] 24 (0, 0)) := by
    rw [← hW]
    exact (Below.heap_alloc _ _ _ (by simp)).trans (heap_alloc_new w _)
  have hZ : Head.Box9 W (w.heap.size + 1) Head.B.none := by
    rw [← hW]
    have := Head.Box9.new (w.alloc (.cells #[.int .i64 k, .bool l, .int .i64 s, .int .i64 d, .int .i64 cc, .int .i64 cv, .int .i64 q, .int .i64 ak, .int .i64 sv, .int .i64 co, .int .i64 de, .slice a len cap, .string da] 24)) Head.B.none
    rwa [show (w.alloc (.cells #[.int .i64 k, .bool l, .int .i64 s, .int .i64 d, .int .i64 cc, .int .i64 cv, .int .i64 q, .int .i64 ak, .int .i64 sv, .int .i64 co, .int .i64 de, .slice a len cap, .string da] 24)).heap.size = w.heap.size + 1 by simp] at this
  have HB := Lib.hid (show Below w.heap.size w W by rw [← hW]; exact hb1)
  clear hb0 hb1
  have keep : ∀ W', Below W.heap.size W W' → (W'.cell? ⟨w.heap.size, 0, none⟩ = some (.int .i64 k) ∧ W'.cell? ⟨w.heap.size, 1, none⟩ = some (.bool l) ∧ W'.cell? ⟨w.heap.size, 11, none⟩ = some (.slice a len cap)) ∧ W'.heap[w.heap.size]? = some (.cells #[.int .i64 k, .bool l, .int .i64 s, .int .i64 d, .int .i64 cc, .int .i64 cv, .int .i64 q, .int .i64 ak, .int .i64 sv, .int .i64 co, .int .i64 de, .slice a len cap, .string da] 24 (0, 0)) ∧ Head.Box9 W' (w.heap.size + 1) Head.B.none := by
    intro W' h'
    have hn := (h'.block w.heap.size (by rw [hsz]; omega)).trans hA
    exact ⟨⟨cell_of_row _ _ _ _ _ _ hn, cell_of_row _ _ _ _ _ _ hn, cell_of_row _ _ _ _ _ _ hn⟩, hn, hZ.below h' (by rw [hsz]; omega)⟩
  have KP := Lib.hid keep
  have v0 := (keep W (Below.refl _ _)).1
  clear keep hA hZ
  go_enter Try.func21, Try.ntmps21
  go_wp2_with fail
  refine Step.start (S := (fun w' => w'.cell? ⟨w.heap.size, 0, none⟩ = some (.int .i64 k) ∧ w'.cell? ⟨w.heap.size, 1, none⟩ = some (.bool l) ∧ w'.cell? ⟨w.heap.size, 11, none⟩ = some (.slice a len cap))) (by kernel_rfl) (by (try dsimp only); first | go_keep | exact v0 | exact v1 | exact v2) (fun hHeld => ?_)
  refine Step.take (i := 0) rfl (by kernel_rfl) (by kernel_rfl) (by kernel_rfl) (fun _ _ _ h => h) (by rfl) (by (intro w hSw; (try dsimp only at hSw); go_simp; try (with_reducible rfl))) (by assumption) ?_
  try simp only [Act.put, List.setIfInBounds_toArray, List.set_cons_zero, List.set_cons_succ]
  refine Step.take (i := 1) rfl (by kernel_rfl) (by kernel_rfl) (by kernel_rfl) (fun _ _ _ h => h) (by rfl) (by (intro w hSw; (try dsimp only at hSw); go_simp; try (with_reducible rfl))) (by assumption) ?_
  try simp only [Act.put, List.setIfInBounds_toArray, List.set_cons_zero, List.set_cons_succ]
  refine Step.take (i := 2) rfl (by kernel_rfl) (by kernel_rfl) (by kernel_rfl) (fun _ _ _ h => h) (by rfl) (by (intro w hSw; (try dsimp only at hSw); go_simp; try (with_reducible rfl))) (by assumption) ?_
  try simp only [Act.put, List.setIfInBounds_toArray, List.set_cons_zero, List.set_cons_succ]
  refine Step.take (i := 3) rfl (by kernel_rfl) (by kernel_rfl) (by kernel_rfl) (fun _ _ _ h => h) (by rfl) (by (intro w hSw; (try dsimp only at hSw); go_simp; try (with_reducible rfl))) (by assumption) ?_
  try simp only [Act.put, List.setIfInBounds_toArray, List.set_cons_zero, List.set_cons_succ]
  refine Step.take (i := 6) rfl (by kernel_rfl) (by kernel_rfl) (by kernel_rfl) (fun _ _ _ h => h) (by rfl) (by (intro w hSw; (try dsimp only at hSw); go_simp; try (with_reducible rfl))) (by assumption) ?_
  try simp only [Act.put, List.setIfInBounds_toArray, List.set_cons_zero, List.set_cons_succ]
  refine Step.take (i := 7) rfl (by kernel_rfl) (by kernel_rfl) (by kernel_rfl) (fun _ _ _ h => h) (by rfl) (by (intro w hSw; (try dsimp only at hSw); go_simp; try (with_reducible rfl))) (by assumption) ?_
  try simp only [Act.put, List.setIfInBounds_toArray, List.set_cons_zero, List.set_cons_succ]
  refine Step.call (i := 4) rfl (by kernel_rfl) (by rfl) (fun K hK => ?_)
  go_simp
  (go_at_call 50; refine (CZ.out _).mono ?_; rintro e w1 ⟨rfl, h1⟩; have h1 := at_drewn h1; have v1 := (KP.out _ h1).1)
  try (go_wp2_with fail)
  refine hK.out _ _ (by (try dsimp only); first | go_keep | exact v0 | exact v1 | exact v2) (fun hHeld => ?_)
  clear hK K
  try simp only [Act.put, List.setIfInBounds_toArray, List.set_cons_zero, List.set_cons_succ]
  refine Step.take (i := 5) rfl (by kernel_rfl) (by kernel_rfl) (by kernel_rfl) (fun _ _ _ h => h) (by rfl) (by (intro w hSw; (try dsimp only at hSw); go_simp; try (with_reducible rfl))) (by assumption) ?_
  try simp only [Act.put, List.setIfInBounds_toArray, List.set_cons_zero, List.set_cons_succ]
  refine Step.call (i := 8) rfl (by kernel_rfl) (by rfl) (fun K hK => ?_)
  go_simp
  (go_at_call 51; refine (CS.out _ (H.out.below (HB.out.trans (h1.mono HB.out.size)))).mono ?_; rintro e w2 ⟨rfl, h2⟩; have h2 := h1.trans (h2.mono h1.size); have v2 := (KP.out _ h2).1)
  try (go_wp2_with fail)
  refine hK.out _ _ (by (try dsimp only); first | go_keep | exact v0 | exact v1 | exact v2) (fun hHeld => ?_)
  clear hK K
  try simp only [Act.put, List.setIfInBounds_toArray, List.set_cons_zero, List.set_cons_succ]
  refine Step.take (i := 9) rfl (by kernel_rfl) (by kernel_rfl) (by kernel_rfl) (fun _ _ _ h => h) (by rfl) (by (intro w hSw; (try dsimp only at hSw); go_simp; try (with_reducible rfl))) (by assumption) ?_
  try simp only [Act.put, List.setIfInBounds_toArray, List.set_cons_zero, List.set_cons_succ]
  refine Step.take (i := 10) rfl (by kernel_rfl) (by kernel_rfl) (by kernel_rfl) (fun _ _ _ h => h) (by rfl) (by (intro w hSw; (try dsimp only at hSw); go_simp; try (with_reducible rfl))) (by assumption) ?_
  try simp only [Act.put, List.setIfInBounds_toArray, List.set_cons_zero, List.set_cons_succ]
  refine Step.take (i := 11) rfl (by kernel_rfl) (by kernel_rfl) (by kernel_rfl) (fun _ _ _ h => h) (by rfl) (by (intro w hSw; (try dsimp only at hSw); go_simp; try (with_reducible rfl))) (by assumption) ?_
  try simp only [Act.put, List.setIfInBounds_toArray, List.set_cons_zero, List.set_cons_succ]
  refine Step.take (i := 12) rfl (by kernel_rfl) (by kernel_rfl) (by kernel_rfl) (fun _ _ _ h => h) (by rfl) (by (intro w hSw; (try dsimp only at hSw); go_simp; try (with_reducible rfl))) (by assumption) ?_
  try simp only [Act.put, List.setIfInBounds_toArray, List.set_cons_zero, List.set_cons_succ]
  refine Step.take (i := 13) rfl (by kernel_rfl) (by kernel_rfl) (by kernel_rfl) (fun _ _ _ h => h) (by rfl) (by (intro w hSw; (try dsimp only at hSw); go_simp; try (with_reducible rfl))) (by assumption) ?_
  try simp only [Act.put, List.setIfInBounds_toArray, List.set_cons_zero, List.set_cons_succ]
  refine wpAnyH_done (by kernel_rfl) ?_ _
  rw [(words_calc z n (by omega) hs).trans hN'.out.symm]
  have hbw := Lib.hid (HB.out.trans (h2.mono HB.out.size))
  obtain ⟨-, k2, z2⟩ := KP.out _ h2
  obtain ⟨y0, y1, y2, y3, y4, y5, y6⟩ : w2.cell? ⟨w.heap.size, 0, none⟩ = some (.int .i64 k) ∧ w2.cell? ⟨w.heap.size, 1, none⟩ = some (.bool l) ∧ w2.cell? ⟨w.heap.size, 2, none⟩ = some (.int .i64 s) ∧ w2.cell? ⟨w.heap.size, 3, none⟩ = some (.int .i64 d) ∧ w2.cell? ⟨w.heap.size, 4, none⟩ = some (.int .i64 cc) ∧ w2.cell? ⟨w.heap.size, 5, none⟩ = some (.int .i64 cv) ∧ w2.cell? ⟨w.heap.size, 6, none⟩ = some (.int .i64 q) := by
    refine ⟨?_, ?_, ?_, ?_, ?_, ?_, ?_⟩ <;> exact cell_of_row _ _ _ _ _ _ k2
  clear h1 h2 v1 v2 v0 KP HB
  go_wp2_with (refine wpList_store_row rfl 43 _ _ rfl (w.heap.size + 1) _ rfl rfl 43 _ z2 (Head.hi9 _ _ _ _ _ _ _ _ _) rfl (Head.hone9 _ _ _ _ _ _ _ _ _) ?_)
  refine bodyPost_ret (results_cell_row Try.results21 _ _ (w.heap.size + 1) 43 _ (0, 0) _ rfl (setRow_heap _ _ _ _ _ _ z2) Try.underlying43 rfl (Head.hi9 _ _ _ _ _ _ _ _ _)) rfl ?_
  exact ⟨by rw [hB.out], Head.below_row hbw.out _ _ (Nat.le_succ _)⟩

theorem check_held (p : K) : check p = if Head.check (begins p 0) ≠ 0 then Head.check (begins p 0) else if ranged p = false then 3 else if Opt.check p.opts ≠ 0 then Opt.check p.opts else if held p ≠ 0 then held p else if covers p.data.size p.cover = false then 3 else 0 := by
  unfold check held
  by_cases h1 : 200 < p.data.size
  · simp [h1]
  · by_cases h2 : spare p = true
    · simp [h1, h2]
    · simp [h1, h2]

set_option maxRecDepth 100000 in
set_option maxHeartbeats 4000000 in
theorem PCheck_any (p : K) (hl : Fit p.opts) (hd : p.data.size ≤ 4000) (a : Option Addr) (cap : Nat) (w : World) (h : OptsAt w a p.opts) :
    Calls Try.prog 10 #[.agg #[.int .i64 p.kind, .bool p.long, .int .i64 p.src, .int .i64 p.dst, .int .i64 p.cc, .int .i64 p.cover, .int .i64 p.seq, .int .i64 p.ack, .int .i64 p.service, .int .i64 p.code, .int .i64 p.detail, .slice a p.opts.length cap, .string p.data]] w fun e w' => e = .returned (.int .i64 (check p)) ∧ Below w.heap.size w w' := by
  have hc := Lib.hid (check_held p)
  have hbox := BoxK.new w p a cap
  have hb1 := (Below.refl w.heap.size w).alloc (Nat.le_refl _) (.cells #[.int .i64 p.kind, .bool p.long, .int .i64 p.src, .int .i64 p.dst, .int .i64 p.cc, .int .i64 p.cover, .int .i64 p.seq, .int .i64 p.ack, .int .i64 p.service, .int .i64 p.code, .int .i64 p.detail, .slice a p.opts.length cap, .string p.data] 24)
  have HO := Lib.hid (h.below hb1)
  have CB := Lib.hid (beginning_any p hl a cap _ HO.out)
  have CH := Lib.hid (fun w => Head.Check_any (begins p 0) w)
  have CR := Lib.hid (fun w hk => inRange_any p hk a cap w)
  have CO := Lib.hid (fun w (h : OptsAt w a p.opts) => Opt.Check_any p.opts hl a cap w h)
  have CL := Lib.hid (fun w hk => checkHeld_any p hk a cap w)
  have CC := Lib.hid (fun w => Inet.covered_any ⟨#[]⟩ p.data p.cover w (by decide) hd)
  unfold Inet.covVal at CC
  rw [cov_second] at CC
  have hkind := Lib.hid (show Head.check (begins p 0) = 0 → 0 ≤ p.kind from fun e => ((Head.check_ok _).1 e).known.1)
  have hsz : (w.alloc (.cells #[.int .i64 p.kind, .bool p.long, .int .i64 p.src, .int .i64 p.dst, .int .i64 p.cc, .int .i64 p.cover, .int .i64 p.seq, .int .i64 p.ack, .int .i64 p.service, .int .i64 p.code, .int .i64 p.detail, .slice a p.opts.length cap, .string p.data] 24)).heap.size = w.heap.size + 1 := by simp
  generalize check p = C at *
  generalize Head.check (begins p 0) = c0 at *
  generalize Opt.check p.opts = c1 at *
  generalize ranged p = rg at *
  generalize held p = hp at *
  generalize covers p.data.size p.cover = cov at *
  generalize (Inet.covc ⟨#[]⟩ p.data p.cover).1 = ct at *
  have HB1 := Lib.hid hb1
  have H0 := Lib.hid h
  clear hb1 hl h
  go_enter Try.func10, Try.ntmps10
  go_wp2_with fail
  refine CB.out.mono ?_
  rintro e w1 ⟨rfl, h1⟩
  have k1 := hbox.below h1 (by rw [hsz]; exact Nat.lt_succ_self _)
  have b1 := HB1.out.trans (h1.mono HB1.out.size)
  clear hbox h1 hsz CB HO HB1
  go_wp2_with fail
  refine (CH.out _).mono ?_
  rintro e w2 ⟨rfl, h2⟩
  have k2 := k1.below h2 k1.lt
  have b2' := b1.trans (h2.mono b1.size)
  clear k1 b1 h2 CH
  obtain ⟨A, hA⟩ : ∃ A, w.heap.size = A := ⟨_, rfl⟩
  by_cases hc0 : c0 = 0
  case neg =>
    have hcb : (c0 != 0) = true := by simpa using hc0
    have HC := Lib.hid (hc.out.trans (if_pos hc0))
    go_wp2_with fail
    go_ret
    exact ⟨by rw [HC.out]; rfl, b2'⟩
  subst hc0
  have hk0 := hkind.out rfl
  replace hc := Lib.hid (hc.out.trans (if_neg (fun h => h rfl)))
  have hcb : ((0 : Int) != 0) = false := rfl
  rw [hA] at k2
  go_wp2_with (refine wpList_load_row rfl 24 _ rfl A rfl 24 _ _ _ k2 Try.underlying24 rfl (hi13 _ _ _ _ _ _ _ _ _ _ _ _ _) ?_)
  refine (CR.out _ hk0).mono ?_
  rintro e w3 ⟨rfl, h3⟩
  have k3 := k2.below h3 k2.lt
  have b3 := b2'.trans (h3.mono b2'.size)
  clear k2 b2' h3 CR
  cases rg
  case false =>
    have HC := Lib.hid (hc.out.trans (if_pos rfl))
    go_wp2_with fail
    go_ret
    exact ⟨by rw [HC.out]; rfl, b3⟩
  replace hc := Lib.hid (hc.out.trans (if_neg (by decide)))
  obtain ⟨y0, y1, y2, y3, y4, y5, y6, y7, y8, y9, y10, y11, y12⟩ := k3.cell
  go_wp2_with fail
  refine (CO.out _ (H0.out.below b3)).mono ?_
  rintro e w4 ⟨rfl, h4⟩
  have k4 := k3.below h4 k3.lt
  have b4 := b3.trans (h4.mono b3.size)
  clear y0 y1 y2 y3 y4 y5 y6 y7 y8 y9 y10 y11 y12 k3 b3 h4 CO H0
  by_cases hc1 : c1 = 0
  case neg =>
    have hcb1 : (c1 != 0) = true := by simpa using hc1
    have HC := Lib.hid (hc.out.trans (if_pos hc1))
    go_wp2_with fail
    go_ret
    exact ⟨by rw [HC.out]; rfl, b4⟩
  subst hc1
  replace hc := Lib.hid (hc.out.trans (if_neg (fun h => h rfl)))
  go_wp2_with (refine wpList_load_row rfl 24 _ rfl A rfl 24 _ _ _ k4 Try.underlying24 rfl (hi13 _ _ _ _ _ _ _ _ _ _ _ _ _) ?_)
  refine (CL.out _ hk0).mono ?_
  rintro e w5 ⟨rfl, h5⟩
  have k5 := k4.below h5 k4.lt
  have b5 := b4.trans (h5.mono b4.size)
  clear k4 b4 h5 CL
  by_cases hc2 : hp = 0
  case neg =>
    have hcb1 : (hp != 0) = true := by simpa using hc2
    have HC := Lib.hid (hc.out.trans (if_pos hc2))
    go_wp2_with fail
    go_ret
    exact ⟨by rw [HC.out]; rfl, b5⟩
  subst hc2
  replace hc := Lib.hid (hc.out.trans (if_neg (fun h => h rfl)))
  obtain ⟨y0, y1, y2, y3, y4, y5, y6, y7, y8, y9, y10, y11, y12⟩ := k5.cell
  go_wp2_with fail
  refine (CC.out _).mono ?_
  rintro e w6 ⟨rfl, h6⟩
  subst h6
  cases cov
  case false =>
    have HC := Lib.hid (hc.out.trans (if_pos rfl))
    go_wp2_with fail
    go_ret
    exact ⟨by rw [HC.out]; rfl, b5⟩
  have HC := Lib.hid (hc.out.trans (if_neg (by decide)))
  go_wp2_with fail
  go_ret
  exact ⟨by rw [HC.out]; rfl, b5⟩

theorem summed_path (x d : ByteArray) (c f t : Int) : summed x d c f t = Inet.sumOf (Inet.ws (Inet.pse f t ((x.size : Int) + (d.size : Int))) + Inet.ws (Inet.covc x d c).1) := rfl

set_option maxRecDepth 100000 in
set_option maxHeartbeats 4000000 in
theorem psum_any (x d : ByteArray) (c f t : Int) (hx : x.size ≤ 4000) (hd : d.size ≤ 4000) (w : World) :
    Calls Try.prog 23 #[.string x, .string d, .int .i64 c, .agg #[.int .i64 f, .int .i64 t]] w fun e w' => e = .returned (.tuple #[.int .i64 (if (Inet.covc x d c).2 = true then summed x d c f t else 0), .bool (Inet.covc x d c).2]) ∧ Below w.heap.size w w' := by
  have hS := Lib.hid (summed_path x d c f t)
  have CC := Lib.hid (fun w => Inet.covered_any x d c w hx hd)
  unfold Inet.covVal at CC
  have hcs := covc_size x d c
  have CP := Lib.hid (fun w => Inet.pseudo_any f t ((x.size : Int) + (d.size : Int)) w)
  have hps := Inet.pse_size f t ((x.size : Int) + (d.size : Int))
  have hb0 := (Below.refl w.heap.size w).alloc (Nat.le_refl _) (.cells #[.int .i64 f, .int .i64 t] 26)
  have hc0 : (w.alloc (.cells #[.int .i64 f, .int .i64 t] 26)).cell? ⟨w.heap.size, 0, none⟩ = some (.int .i64 f) := World.cell?_alloc_mark w _ _ (0, 0) 0
  have hc1 : (w.alloc (.cells #[.int .i64 f, .int .i64 t] 26)).cell? ⟨w.heap.size, 1, none⟩ = some (.int .i64 t) := World.cell?_alloc_mark w _ _ (0, 0) 1
  have HB0 := Lib.hid hb0
  clear hb0
  generalize summed x d c f t = S at *
  generalize Inet.pse f t ((x.size : Int) + (d.size : Int)) = ps at *
  generalize (Inet.covc x d c).1 = cv at *
  generalize (Inet.covc x d c).2 = ok at *
  cases ok
  case false =>
    go_enter Try.func23, Try.ntmps23
    go_wp2_with fail
    refine (CC.out _).mono ?_
    rintro e w1 ⟨rfl, h1⟩
    subst h1
    go_wp2_with fail
    go_returns
    exact ⟨rfl, HB0.out⟩
  go_enter Try.func23, Try.ntmps23
  go_wp2_with fail
  refine (CC.out _).mono ?_
  rintro e w1 ⟨rfl, h1⟩
  subst h1
  go_wp2_with fail
  refine (CP.out _).mono ?_
  rintro e w2 ⟨rfl, h2⟩
  have b2 := HB0.out.trans (h2.mono HB0.out.size)
  have b3 := b2.alloc b2.size (.cells #[.string ps, .string cv] 9)
  have hat : Inet.StrsAt (w2.alloc (.cells #[.string ps, .string cv] 9)) (some ⟨w2.heap.size, 0, none⟩) 2 (fun i => if i = 0 then ps else cv) := by
    refine .inr ⟨w2.heap.size, 0, rfl, by simp, fun i hi => ?_⟩
    have hc := World.cell?_alloc_mark w2 #[.string ps, .string cv] 9 (0, 0) i
    have : i = 0 ∨ i = 1 := by omega
    rcases this with rfl | rfl <;> exact hc
  have CS := Inet.sum_any (some ⟨w2.heap.size, 0, none⟩) 2 2 (fun i => if i = 0 then ps else cv) _ (by omega) (fun i hi => by split <;> omega) hat
  rw [show Inet.tot (fun i => Inet.ws ((fun i => if i = 0 then ps else cv) i)) 2 = Inet.ws ps + Inet.ws cv by simp [Inet.tot]] at CS
  have CS2 := Lib.hid CS
  clear CS hat h2 CC CP
  go_wp2_with fail
  refine CS2.out.mono ?_
  rintro e w3 ⟨rfl, h3⟩
  go_wp2_with fail
  go_returns
  exact ⟨by rw [hS.out]; rfl, b3.trans (h3.mono b3.size)⟩
end Go.Proofs.Ytkjojfcknfhkhaa.Pkt

namespace Go.Proofs.Ytkjojfcknfhkhaa.Pkt
open Go.ChangeShapes Go.WideShapes Go.ChangeAt Go.RowKit
open Go.Proofs.Ytkjojfcknfhkhaa.Opt (O OptsAt Fit)
open Go.Proofs.Ytkjojfcknfhkhaa.Oct (be nat64 held be_length be_add putInt_any)
open Go.Proofs.Ytkjojfcknfhkhaa.Head (Acks_any acks)
set_option linter.unusedVariables false

theorem nil_ba (x : ByteArray) : (⟨#[]⟩ : ByteArray) ++ x = x := by apply Opt.ext_l; rw [Opt.list_append]; simp
theorem two_ba (l m : List UInt8) : (⟨(l ++ m).toArray⟩ : ByteArray) = ⟨l.toArray⟩ ++ ⟨m.toArray⟩ := by apply Opt.ext_l; rw [Opt.list_append]
theorem nat_of (v : Int) (h0 : 0 ≤ v) (h1 : v ≤ 281474976710655) : ∃ n : Nat, v = n ∧ nat64 v = n := by
  obtain ⟨n, rfl⟩ := Int.eq_ofNat_of_zero_le h0
  exact ⟨n, rfl, Oct.u64_nat n (by omega)⟩
theorem be_eight (v : Int) (h0 : 0 ≤ v) (h1 : v ≤ 281474976710655) : (⟨(be (nat64 v) 8).toArray⟩ : ByteArray) = ⟨(be (nat64 0) 2).toArray⟩ ++ ⟨(be (nat64 v) 6).toArray⟩ := by
  obtain ⟨n, rfl, e⟩ := nat_of v h0 h1
  rw [← two_ba, e, show (8 : Nat) = 2 + 6 from rfl, be_add, show (n : Nat) / 256 ^ 6 = 0 by rw [show (256 : Nat) ^ 6 = 281474976710656 by decide]; omega]
  rfl
theorem be_four (v : Int) (h0 : 0 ≤ v) (h1 : v ≤ 16777215) : (⟨(be (nat64 v) 4).toArray⟩ : ByteArray) = ⟨(be (nat64 0) 1).toArray⟩ ++ ⟨(be (nat64 v) 3).toArray⟩ := by
  obtain ⟨n, rfl, e⟩ := nat_of v h0 (by omega)
  rw [← two_ba, e, show (4 : Nat) = 1 + 3 from rfl, be_add, show (n : Nat) / 256 ^ 3 = 0 by rw [show (256 : Nat) ^ 3 = 16777216 by decide]; omega]
  rfl
theorem be_reset (c d : Int) (h0 : 0 ≤ c) (h1 : c ≤ 255) (h2 : 0 ≤ d) (h3 : d ≤ 16777215) : (⟨(be (nat64 (c * 16777216 + d)) 4).toArray⟩ : ByteArray) = ⟨(be (nat64 c) 1).toArray⟩ ++ ⟨(be (nat64 d) 3).toArray⟩ := by
  obtain ⟨n, rfl, e⟩ := nat_of c h0 (by omega)
  obtain ⟨m, rfl, f⟩ := nat_of d h2 (by omega)
  obtain ⟨r, g, hr⟩ := nat_of ((n : Int) * 16777216 + m) (by omega) (by omega)
  have hr2 : r = n * 16777216 + m := by omega
  rw [← two_ba, e, f, hr, hr2, show (4 : Nat) = 1 + 3 from rfl, be_add, show (256 : Nat) ^ 3 = 16777216 by decide, show (n * 16777216 + m) / 16777216 = n by omega]
  congr 3
  rw [← Oct.be_mod, show (256 : Nat) ^ 3 = 16777216 by decide, show (n * 16777216 + m) % 16777216 = m by omega]

theorem putS (s : ByteArray) (v size : Int) (k : Nat) (hk : Oct.held size = k) (hs : s.size ≤ 3000) (w : World) :
    Calls Try.prog 48 #[.string s, .int .i64 v, .int .i64 size] w fun e w' => e = .returned (.string (s ++ ⟨(be (nat64 v) k).toArray⟩)) ∧ Below w.heap.size w w' := by
  subst hk
  exact putInt_any s v size w (by omega)

set_option maxRecDepth 100000 in
set_option maxHeartbeats 40000000 in
theorem putOwn_any (p : K) (hk : 0 ≤ p.kind) (hr : ranged p = true) (a : Option Addr) (cap : Nat) (w : World) :
    Calls Try.prog 20 #[.agg #[.int .i64 p.kind, .bool p.long, .int .i64 p.src, .int .i64 p.dst, .int .i64 p.cc, .int .i64 p.cover, .int .i64 p.seq, .int .i64 p.ack, .int .i64 p.service, .int .i64 p.code, .int .i64 p.detail, .slice a p.opts.length cap, .string p.data]] w fun e w' => e = .returned (.string (extra p)) ∧ Below w.heap.size w w' := by
  have hE := extra_two p
  have CA := Lib.hid (fun w => Acks_any p.kind w)
  have CS := Lib.hid (fun w => serves_any p.kind hk w)
  have CZ := Lib.hid (fun w => ackSizes_any p.long w)
  unfold extra1 extra2 at hE
  unfold ranged acked served told at hr
  simp only [Bool.and_eq_true, Bool.or_eq_true, Bool.not_eq_true', Head.fits_iff, Head.seqMost] at hr
  obtain ⟨ha, -, h7⟩ := hr
  obtain ⟨k, l, s, d, cc, cv, q, ak, sv, co, de, os, da⟩ := p
  dsimp only at *
  generalize extra ⟨k, l, s, d, cc, cv, q, ak, sv, co, de, os, da⟩ = X at *
  generalize acks k = pa at *
  generalize os.length = len at *
  obtain ⟨b2, e2⟩ : ∃ b, decide (k < 2) = b := ⟨_, rfl⟩
  obtain ⟨b7, e7⟩ : ∃ b, (k == 7) = b := ⟨_, rfl⟩
  have e7' : decide (k = 7) = b7 := e7
  have EX := Lib.hid (show X = (if pa = true then (if l = true then (⟨(be (nat64 ak) 8).toArray⟩ : ByteArray) else ⟨(be (nat64 ak) 4).toArray⟩) else ⟨#[]⟩) ++ (if b2 = true then ⟨(be (nat64 sv) 4).toArray⟩ else if b7 = true then ⟨(be (nat64 (co * 16777216 + de)) 4).toArray⟩ else ⟨#[]⟩) by
    rw [hE, ← e2, ← e7]; simp only [decide_eq_true_eq, beq_iff_eq])
  have F8 := Lib.hid (show pa = true → l = true → (⟨(be (nat64 ak) 8).toArray⟩ : ByteArray) = ⟨(be (nat64 0) 2).toArray⟩ ++ ⟨(be (nat64 ak) 6).toArray⟩ from fun h1 h2 => by
    rw [h1, h2] at ha; simp at ha; exact be_eight ak ha.1 ha.2)
  have F4 := Lib.hid (show pa = true → l = false → (⟨(be (nat64 ak) 4).toArray⟩ : ByteArray) = ⟨(be (nat64 0) 1).toArray⟩ ++ ⟨(be (nat64 ak) 3).toArray⟩ from fun h1 h2 => by
    rw [h1, h2] at ha; simp at ha; exact be_four ak ha.1 ha.2)
  have F7 := Lib.hid (show b7 = true → (⟨(be (nat64 (co * 16777216 + de)) 4).toArray⟩ : ByteArray) = ⟨(be (nat64 co) 1).toArray⟩ ++ ⟨(be (nat64 de) 3).toArray⟩ from fun h1 => by
    rw [e7', h1] at h7; simp at h7; exact be_reset co de h7.1.1 h7.1.2 h7.2.1 h7.2.2)
  rw [e2] at CS
  have h27 := Lib.hid (show b2 = true → b7 = false from fun h => by rw [← e2] at h; rw [← e7]; simp at h; simp; omega)
  clear hE ha h7 e2 e7'
  have hb1 := (Below.refl w.heap.size w).alloc (Nat.le_refl _) (.cells #[.int .i64 k, .bool l, .int .i64 s, .int .i64 d, .int .i64 cc, .int .i64 cv, .int .i64 q, .int .i64 ak, .int .i64 sv, .int .i64 co, .int .i64 de, .slice a len cap, .string da] 24)
  obtain ⟨W, hW⟩ : ∃ W, w.alloc (.cells #[.int .i64 k, .bool l, .int .i64 s, .int .i64 d, .int .i64 cc, .int .i64 cv, .int .i64 q, .int .i64 ak, .int .i64 sv, .int .i64 co, .int .i64 de, .slice a len cap, .string da] 24) = W := ⟨_, rfl⟩
  have hsz : w.heap.size < W.heap.size := by rw [← hW]; simp
  have hA : W.heap[w.heap.size]? = some (.cells #[.int .i64 k, .bool l, .int .i64 s, .int .i64 d, .int .i64 cc, .int .i64 cv, .int .i64 q, .int .i64 ak, .int .i64 sv, .int .i64 co, .int .i64 de, .slice a len cap, .string da] 24 (0, 0)) := by rw [← hW]; exact heap_alloc_new w _
  have HB := Lib.hid (show Below w.heap.size w W by rw [← hW]; exact hb1)
  clear hb1
  have keep : ∀ W', Below W.heap.size W W' → W'.cell? ⟨w.heap.size, 0, none⟩ = some (.int .i64 k) ∧ W'.cell? ⟨w.heap.size, 1, none⟩ = some (.bool l) ∧ W'.cell? ⟨w.heap.size, 7, none⟩ = some (.int .i64 ak) ∧ W'.cell? ⟨w.heap.size, 8, none⟩ = some (.int .i64 sv) ∧ W'.cell? ⟨w.heap.size, 9, none⟩ = some (.int .i64 co) ∧ W'.cell? ⟨w.heap.size, 10, none⟩ = some (.int .i64 de) := by
    intro W' h'
    have hn := (h'.block w.heap.size hsz).trans hA
    refine ⟨?_, ?_, ?_, ?_, ?_, ?_⟩ <;> exact cell_of_row _ _ _ _ _ _ hn
  have KP := Lib.hid keep
  obtain ⟨x0, x1, x7, x8, x9, x10⟩ := keep W (Below.refl _ _)
  clear keep hA
  cases pa
  · cases b2
    · cases b7
      · go_enter Try.func20, Try.ntmps20
        go_wp2_with fail
        refine (CA.out _).mono ?_
        rintro e w1 ⟨rfl, h1⟩
        obtain ⟨x0, x1, x7, x8, x9, x10⟩ := KP.out _ h1
        have H1 := Lib.hid h1
        clear h1
        go_wp2_with (go_at_call 49; refine (CS.out _).mono ?_; rintro e w9 ⟨rfl, rfl⟩)
        go_ret
        refine ⟨?_, HB.out.trans (H1.out.mono HB.out.size)⟩
        refine congrArg (fun x => Ending.returned (.string x)) ?_
        rw [EX.out]
        show _ = (⟨#[]⟩ : ByteArray) ++ ⟨#[]⟩
        rw [nil_ba]
      · go_enter Try.func20, Try.ntmps20
        go_wp2_with fail
        refine (CA.out _).mono ?_
        rintro e w1 ⟨rfl, h1⟩
        obtain ⟨x0, x1, x7, x8, x9, x10⟩ := KP.out _ h1
        have H1 := Lib.hid h1
        clear h1
        go_wp2_with (go_at_call 49; refine (CS.out _).mono ?_; rintro e w9 ⟨rfl, rfl⟩)
        have C3 := fun w => putS ⟨#[]⟩ co 1 1 rfl (by first | omega | decide) w
        obtain ⟨t3, ht3⟩ : ∃ t, (⟨#[]⟩ : ByteArray) ++ ⟨(be (nat64 co) 1).toArray⟩ = t := ⟨_, rfl⟩
        rw [ht3] at C3
        have st3 : t3.size ≤ 20 := by rw [← ht3, put_sz, be_length]; first | omega | decide
        have C4 := fun w => putS t3 de 3 3 rfl (by omega) w
        obtain ⟨t4, ht4⟩ : ∃ t, t3 ++ ⟨(be (nat64 de) 3).toArray⟩ = t := ⟨_, rfl⟩
        rw [ht4] at C4
        have D3 := Lib.hid C3
        have D4 := Lib.hid C4
        have G3 := Lib.hid ht3
        have G4 := Lib.hid ht4
        clear C3 C4 ht3 ht4
        refine Step.start (S := (fun w' => w'.cell? ⟨w.heap.size, 9, none⟩ = some (.int .i64 co) ∧ w'.cell? ⟨w.heap.size, 10, none⟩ = some (.int .i64 de))) (by kernel_rfl) (by (try dsimp only); first | go_keep | exact v9) (fun hHeld => ?_)
        refine Step.take (i := 0) rfl (by kernel_rfl) (by kernel_rfl) (by kernel_rfl) (fun _ _ _ h => h) (by rfl) (by (intro w hSw; (try dsimp only at hSw); go_simp; try (with_reducible rfl))) (by assumption) ?_
        try simp only [Act.put, List.setIfInBounds_toArray, List.set_cons_zero, List.set_cons_succ]
        refine Step.take (i := 1) rfl (by kernel_rfl) (by kernel_rfl) (by kernel_rfl) (fun _ _ _ h => h) (by rfl) (by (intro w hSw; (try dsimp only at hSw); go_simp; try (with_reducible rfl))) (by assumption) ?_
        try simp only [Act.put, List.setIfInBounds_toArray, List.set_cons_zero, List.set_cons_succ]
        refine Step.take (i := 2) rfl (by kernel_rfl) (by kernel_rfl) (by kernel_rfl) (fun _ _ _ h => h) (by rfl) (by (intro w hSw; (try dsimp only at hSw); go_simp; try (with_reducible rfl))) (by assumption) ?_
        try simp only [Act.put, List.setIfInBounds_toArray, List.set_cons_zero, List.set_cons_succ]
        refine Step.take (i := 4) rfl (by kernel_rfl) (by kernel_rfl) (by kernel_rfl) (fun _ _ _ h => h) (by rfl) (by (intro w hSw; (try dsimp only at hSw); go_simp; try (with_reducible rfl))) (by assumption) ?_
        try simp only [Act.put, List.setIfInBounds_toArray, List.set_cons_zero, List.set_cons_succ]
        refine Step.take (i := 5) rfl (by kernel_rfl) (by kernel_rfl) (by kernel_rfl) (fun _ _ _ h => h) (by rfl) (by (intro w hSw; (try dsimp only at hSw); go_simp; try (with_reducible rfl))) (by assumption) ?_
        try simp only [Act.put, List.setIfInBounds_toArray, List.set_cons_zero, List.set_cons_succ]
        refine Step.call (i := 3) rfl (by kernel_rfl) (by rfl) (fun K hK => ?_)
        go_simp
        (go_at_call 48; refine (D3.out _).mono ?_; rintro e w6 ⟨rfl, h6⟩; have H6 := Lib.hid (H1.out.trans ((at_drewn h6).mono H1.out.size)); have v9 := (KP.out _ H6.out).2.2.2.2; clear h6)
        try (go_wp2_with fail)
        refine hK.out _ _ (by (try dsimp only); first | go_keep | exact v9) (fun hHeld => ?_)
        clear hK K
        try simp only [Act.put, List.setIfInBounds_toArray, List.set_cons_zero, List.set_cons_succ]
        refine Step.call (i := 6) rfl (by kernel_rfl) (by rfl) (fun K hK => ?_)
        go_simp
        (go_at_call 48; refine (D4.out _).mono ?_; rintro e w7 ⟨rfl, h7⟩; have H7 := Lib.hid (H6.out.trans (h7.mono H6.out.size)); have v9 := (KP.out _ H7.out).2.2.2.2; clear h7)
        try (go_wp2_with fail)
        refine hK.out _ _ (by (try dsimp only); first | go_keep | exact v9) (fun hHeld => ?_)
        clear hK K
        try simp only [Act.put, List.setIfInBounds_toArray, List.set_cons_zero, List.set_cons_succ]
        refine Step.take (i := 7) rfl (by kernel_rfl) (by kernel_rfl) (by kernel_rfl) (fun _ _ _ h => h) (by rfl) (by (intro w hSw; (try dsimp only at hSw); go_simp; try (with_reducible rfl))) (by assumption) ?_
        try simp only [Act.put, List.setIfInBounds_toArray, List.set_cons_zero, List.set_cons_succ]
        refine wpAnyH_done (by kernel_rfl) ?_ _
        go_wp2_with fail
        go_ret
        refine ⟨?_, HB.out.trans (H7.out.mono HB.out.size)⟩
        refine congrArg (fun x => Ending.returned (.string x)) ?_
        rw [EX.out, ← G4.out, ← G3.out]
        show _ = (⟨#[]⟩ : ByteArray) ++ ⟨(be (nat64 (co * 16777216 + de)) 4).toArray⟩
        rw [F7.out (by trivial), ba_assoc]
    · have z7' := h27.out rfl; subst z7'
      go_enter Try.func20, Try.ntmps20
      go_wp2_with fail
      refine (CA.out _).mono ?_
      rintro e w1 ⟨rfl, h1⟩
      obtain ⟨x0, x1, x7, x8, x9, x10⟩ := KP.out _ h1
      have H1 := Lib.hid h1
      clear h1
      go_wp2_with (go_at_call 49; refine (CS.out _).mono ?_; rintro e w9 ⟨rfl, rfl⟩)
      have C3 := fun w => putS ⟨#[]⟩ sv 4 4 rfl (by first | omega | decide) w
      refine (C3 _).mono ?_
      rintro e w5 ⟨rfl, h5⟩
      have H5 := Lib.hid (H1.out.trans (h5.mono H1.out.size))
      obtain ⟨x0, x1, x7, x8, x9, x10⟩ := KP.out _ H5.out
      clear h5 C3
      go_wp2_with fail
      go_ret
      refine ⟨?_, HB.out.trans (H5.out.mono HB.out.size)⟩
      refine congrArg (fun x => Ending.returned (.string x)) ?_
      rw [EX.out]
      show _ = (⟨#[]⟩ : ByteArray) ++ ⟨(be (nat64 sv) 4).toArray⟩
      rfl
  · cases l
    · cases b2
      · cases b7
        · go_enter Try.func20, Try.ntmps20
          go_wp2_with fail
          refine (CA.out _).mono ?_
          rintro e w1 ⟨rfl, h1⟩
          obtain ⟨x0, x1, x7, x8, x9, x10⟩ := KP.out _ h1
          have H1 := Lib.hid h1
          clear h1
          go_wp2_with fail
          refine (CZ.out _).mono ?_
          rintro e w9 ⟨rfl, rfl⟩
          go_wp2_with fail
          have C1 := fun w => putS ⟨#[]⟩ 0 1 1 rfl (by decide) w
          obtain ⟨t1, ht1⟩ : ∃ t, (⟨#[]⟩ : ByteArray) ++ ⟨(be (nat64 0) 1).toArray⟩ = t := ⟨_, rfl⟩
          rw [ht1] at C1
          have st1 : t1.size ≤ 8 := by rw [← ht1, nil_ba]; show (be _ _).toArray.size ≤ 8; simp
          have C2 := fun w => putS t1 ak 3 3 rfl (by omega) w
          obtain ⟨t2, ht2⟩ : ∃ t, t1 ++ ⟨(be (nat64 ak) 3).toArray⟩ = t := ⟨_, rfl⟩
          rw [ht2] at C2
          have st2 : t2.size ≤ 16 := by rw [← ht2, put_sz, be_length]; omega
          have D1 := Lib.hid C1
          have D2 := Lib.hid C2
          have G1 := Lib.hid ht1
          have G2 := Lib.hid ht2
          clear C1 C2 ht1 ht2
          refine Step.start (S := (fun w' => w'.cell? ⟨w.heap.size, 7, none⟩ = some (.int .i64 ak))) (by kernel_rfl) (by (try dsimp only); first | go_keep | exact v7) (fun hHeld => ?_)
          refine Step.take (i := 0) rfl (by kernel_rfl) (by kernel_rfl) (by kernel_rfl) (fun _ _ _ h => h) (by rfl) (by (intro w hSw; (try dsimp only at hSw); go_simp; try (with_reducible rfl))) (by assumption) ?_
          try simp only [Act.put, List.setIfInBounds_toArray, List.set_cons_zero, List.set_cons_succ]
          refine Step.take (i := 1) rfl (by kernel_rfl) (by kernel_rfl) (by kernel_rfl) (fun _ _ _ h => h) (by rfl) (by (intro w hSw; (try dsimp only at hSw); go_simp; try (with_reducible rfl))) (by assumption) ?_
          try simp only [Act.put, List.setIfInBounds_toArray, List.set_cons_zero, List.set_cons_succ]
          refine Step.take (i := 3) rfl (by kernel_rfl) (by kernel_rfl) (by kernel_rfl) (fun _ _ _ h => h) (by rfl) (by (intro w hSw; (try dsimp only at hSw); go_simp; try (with_reducible rfl))) (by assumption) ?_
          try simp only [Act.put, List.setIfInBounds_toArray, List.set_cons_zero, List.set_cons_succ]
          refine Step.take (i := 4) rfl (by kernel_rfl) (by kernel_rfl) (by kernel_rfl) (fun _ _ _ h => h) (by rfl) (by (intro w hSw; (try dsimp only at hSw); go_simp; try (with_reducible rfl))) (by assumption) ?_
          try simp only [Act.put, List.setIfInBounds_toArray, List.set_cons_zero, List.set_cons_succ]
          refine Step.take (i := 5) rfl (by kernel_rfl) (by kernel_rfl) (by kernel_rfl) (fun _ _ _ h => h) (by rfl) (by (intro w hSw; (try dsimp only at hSw); go_simp; try (with_reducible rfl))) (by assumption) ?_
          try simp only [Act.put, List.setIfInBounds_toArray, List.set_cons_zero, List.set_cons_succ]
          refine Step.call (i := 2) rfl (by kernel_rfl) (by rfl) (fun K hK => ?_)
          go_simp
          (go_at_call 48; refine (D1.out _).mono ?_; rintro e w2 ⟨rfl, h2⟩; have H2 := Lib.hid (H1.out.trans ((at_drewn h2).mono H1.out.size)); have v7 := (KP.out _ H2.out).2.2.1; clear h2)
          try (go_wp2_with fail)
          refine hK.out _ _ (by (try dsimp only); first | go_keep | exact v7) (fun hHeld => ?_)
          clear hK K
          try simp only [Act.put, List.setIfInBounds_toArray, List.set_cons_zero, List.set_cons_succ]
          refine Step.call (i := 6) rfl (by kernel_rfl) (by rfl) (fun K hK => ?_)
          go_simp
          (go_at_call 48; refine (D2.out _).mono ?_; rintro e w3 ⟨rfl, h3⟩; have H3 := Lib.hid (H2.out.trans (h3.mono H2.out.size)); have v7 := (KP.out _ H3.out).2.2.1; clear h3)
          try (go_wp2_with fail)
          refine hK.out _ _ (by (try dsimp only); first | go_keep | exact v7) (fun hHeld => ?_)
          clear hK K
          try simp only [Act.put, List.setIfInBounds_toArray, List.set_cons_zero, List.set_cons_succ]
          refine Step.take (i := 7) rfl (by kernel_rfl) (by kernel_rfl) (by kernel_rfl) (fun _ _ _ h => h) (by rfl) (by (intro w hSw; (try dsimp only at hSw); go_simp; try (with_reducible rfl))) (by assumption) ?_
          try simp only [Act.put, List.setIfInBounds_toArray, List.set_cons_zero, List.set_cons_succ]
          refine wpAnyH_done (by kernel_rfl) ?_ _
          obtain ⟨x0, x1, x7, x8, x9, x10⟩ := KP.out _ H3.out
          clear v7
          go_wp2_with (go_at_call 49; refine (CS.out _).mono ?_; rintro e w9 ⟨rfl, rfl⟩)
          go_ret
          refine ⟨?_, HB.out.trans (H3.out.mono HB.out.size)⟩
          refine congrArg (fun x => Ending.returned (.string x)) ?_
          rw [EX.out, ← G2.out, ← G1.out]
          show _ = (⟨(be (nat64 ak) 4).toArray⟩ : ByteArray) ++ ⟨#[]⟩
          rw [F4.out (by trivial) (by trivial), ba_nil, nil_ba]
        · go_enter Try.func20, Try.ntmps20
          go_wp2_with fail
          refine (CA.out _).mono ?_
          rintro e w1 ⟨rfl, h1⟩
          obtain ⟨x0, x1, x7, x8, x9, x10⟩ := KP.out _ h1
          have H1 := Lib.hid h1
          clear h1
          go_wp2_with fail
          refine (CZ.out _).mono ?_
          rintro e w9 ⟨rfl, rfl⟩
          go_wp2_with fail
          have C1 := fun w => putS ⟨#[]⟩ 0 1 1 rfl (by decide) w
          obtain ⟨t1, ht1⟩ : ∃ t, (⟨#[]⟩ : ByteArray) ++ ⟨(be (nat64 0) 1).toArray⟩ = t := ⟨_, rfl⟩
          rw [ht1] at C1
          have st1 : t1.size ≤ 8 := by rw [← ht1, nil_ba]; show (be _ _).toArray.size ≤ 8; simp
          have C2 := fun w => putS t1 ak 3 3 rfl (by omega) w
          obtain ⟨t2, ht2⟩ : ∃ t, t1 ++ ⟨(be (nat64 ak) 3).toArray⟩ = t := ⟨_, rfl⟩
          rw [ht2] at C2
          have st2 : t2.size ≤ 16 := by rw [← ht2, put_sz, be_length]; omega
          have D1 := Lib.hid C1
          have D2 := Lib.hid C2
          have G1 := Lib.hid ht1
          have G2 := Lib.hid ht2
          clear C1 C2 ht1 ht2
          refine Step.start (S := (fun w' => w'.cell? ⟨w.heap.size, 7, none⟩ = some (.int .i64 ak))) (by kernel_rfl) (by (try dsimp only); first | go_keep | exact v7) (fun hHeld => ?_)
          refine Step.take (i := 0) rfl (by kernel_rfl) (by kernel_rfl) (by kernel_rfl) (fun _ _ _ h => h) (by rfl) (by (intro w hSw; (try dsimp only at hSw); go_simp; try (with_reducible rfl))) (by assumption) ?_
          try simp only [Act.put, List.setIfInBounds_toArray, List.set_cons_zero, List.set_cons_succ]
          refine Step.take (i := 1) rfl (by kernel_rfl) (by kernel_rfl) (by kernel_rfl) (fun _ _ _ h => h) (by rfl) (by (intro w hSw; (try dsimp only at hSw); go_simp; try (with_reducible rfl))) (by assumption) ?_
          try simp only [Act.put, List.setIfInBounds_toArray, List.set_cons_zero, List.set_cons_succ]
          refine Step.take (i := 3) rfl (by kernel_rfl) (by kernel_rfl) (by kernel_rfl) (fun _ _ _ h => h) (by rfl) (by (intro w hSw; (try dsimp only at hSw); go_simp; try (with_reducible rfl))) (by assumption) ?_
          try simp only [Act.put, List.setIfInBounds_toArray, List.set_cons_zero, List.set_cons_succ]
          refine Step.take (i := 4) rfl (by kernel_rfl) (by kernel_rfl) (by kernel_rfl) (fun _ _ _ h => h) (by rfl) (by (intro w hSw; (try dsimp only at hSw); go_simp; try (with_reducible rfl))) (by assumption) ?_
          try simp only [Act.put, List.setIfInBounds_toArray, List.set_cons_zero, List.set_cons_succ]
          refine Step.take (i := 5) rfl (by kernel_rfl) (by kernel_rfl) (by kernel_rfl) (fun _ _ _ h => h) (by rfl) (by (intro w hSw; (try dsimp only at hSw); go_simp; try (with_reducible rfl))) (by assumption) ?_
          try simp only [Act.put, List.setIfInBounds_toArray, List.set_cons_zero, List.set_cons_succ]
          refine Step.call (i := 2) rfl (by kernel_rfl) (by rfl) (fun K hK => ?_)
          go_simp
          (go_at_call 48; refine (D1.out _).mono ?_; rintro e w2 ⟨rfl, h2⟩; have H2 := Lib.hid (H1.out.trans ((at_drewn h2).mono H1.out.size)); have v7 := (KP.out _ H2.out).2.2.1; clear h2)
          try (go_wp2_with fail)
          refine hK.out _ _ (by (try dsimp only); first | go_keep | exact v7) (fun hHeld => ?_)
          clear hK K
          try simp only [Act.put, List.setIfInBounds_toArray, List.set_cons_zero, List.set_cons_succ]
          refine Step.call (i := 6) rfl (by kernel_rfl) (by rfl) (fun K hK => ?_)
          go_simp
          (go_at_call 48; refine (D2.out _).mono ?_; rintro e w3 ⟨rfl, h3⟩; have H3 := Lib.hid (H2.out.trans (h3.mono H2.out.size)); have v7 := (KP.out _ H3.out).2.2.1; clear h3)
          try (go_wp2_with fail)
          refine hK.out _ _ (by (try dsimp only); first | go_keep | exact v7) (fun hHeld => ?_)
          clear hK K
          try simp only [Act.put, List.setIfInBounds_toArray, List.set_cons_zero, List.set_cons_succ]
          refine Step.take (i := 7) rfl (by kernel_rfl) (by kernel_rfl) (by kernel_rfl) (fun _ _ _ h => h) (by rfl) (by (intro w hSw; (try dsimp only at hSw); go_simp; try (with_reducible rfl))) (by assumption) ?_
          try simp only [Act.put, List.setIfInBounds_toArray, List.set_cons_zero, List.set_cons_succ]
          refine wpAnyH_done (by kernel_rfl) ?_ _
          obtain ⟨x0, x1, x7, x8, x9, x10⟩ := KP.out _ H3.out
          clear v7
          go_wp2_with (go_at_call 49; refine (CS.out _).mono ?_; rintro e w9 ⟨rfl, rfl⟩)
          have C3 := fun w => putS t2 co 1 1 rfl (by first | omega | decide) w
          obtain ⟨t3, ht3⟩ : ∃ t, t2 ++ ⟨(be (nat64 co) 1).toArray⟩ = t := ⟨_, rfl⟩
          rw [ht3] at C3
          have st3 : t3.size ≤ 20 := by rw [← ht3, put_sz, be_length]; first | omega | decide
          have C4 := fun w => putS t3 de 3 3 rfl (by omega) w
          obtain ⟨t4, ht4⟩ : ∃ t, t3 ++ ⟨(be (nat64 de) 3).toArray⟩ = t := ⟨_, rfl⟩
          rw [ht4] at C4
          have D3 := Lib.hid C3
          have D4 := Lib.hid C4
          have G3 := Lib.hid ht3
          have G4 := Lib.hid ht4
          clear C3 C4 ht3 ht4
          refine Step.start (S := (fun w' => w'.cell? ⟨w.heap.size, 9, none⟩ = some (.int .i64 co) ∧ w'.cell? ⟨w.heap.size, 10, none⟩ = some (.int .i64 de))) (by kernel_rfl) (by (try dsimp only); first | go_keep | exact v9) (fun hHeld => ?_)
          refine Step.take (i := 0) rfl (by kernel_rfl) (by kernel_rfl) (by kernel_rfl) (fun _ _ _ h => h) (by rfl) (by (intro w hSw; (try dsimp only at hSw); go_simp; try (with_reducible rfl))) (by assumption) ?_
          try simp only [Act.put, List.setIfInBounds_toArray, List.set_cons_zero, List.set_cons_succ]
          refine Step.take (i := 1) rfl (by kernel_rfl) (by kernel_rfl) (by kernel_rfl) (fun _ _ _ h => h) (by rfl) (by (intro w hSw; (try dsimp only at hSw); go_simp; try (with_reducible rfl))) (by assumption) ?_
          try simp only [Act.put, List.setIfInBounds_toArray, List.set_cons_zero, List.set_cons_succ]
          refine Step.take (i := 2) rfl (by kernel_rfl) (by kernel_rfl) (by kernel_rfl) (fun _ _ _ h => h) (by rfl) (by (intro w hSw; (try dsimp only at hSw); go_simp; try (with_reducible rfl))) (by assumption) ?_
          try simp only [Act.put, List.setIfInBounds_toArray, List.set_cons_zero, List.set_cons_succ]
          refine Step.take (i := 4) rfl (by kernel_rfl) (by kernel_rfl) (by kernel_rfl) (fun _ _ _ h => h) (by rfl) (by (intro w hSw; (try dsimp only at hSw); go_simp; try (with_reducible rfl))) (by assumption) ?_
          try simp only [Act.put, List.setIfInBounds_toArray, List.set_cons_zero, List.set_cons_succ]
          refine Step.take (i := 5) rfl (by kernel_rfl) (by kernel_rfl) (by kernel_rfl) (fun _ _ _ h => h) (by rfl) (by (intro w hSw; (try dsimp only at hSw); go_simp; try (with_reducible rfl))) (by assumption) ?_
          try simp only [Act.put, List.setIfInBounds_toArray, List.set_cons_zero, List.set_cons_succ]
          refine Step.call (i := 3) rfl (by kernel_rfl) (by rfl) (fun K hK => ?_)
          go_simp
          (go_at_call 48; refine (D3.out _).mono ?_; rintro e w6 ⟨rfl, h6⟩; have H6 := Lib.hid (H3.out.trans ((at_drewn h6).mono H3.out.size)); have v9 := (KP.out _ H6.out).2.2.2.2; clear h6)
          try (go_wp2_with fail)
          refine hK.out _ _ (by (try dsimp only); first | go_keep | exact v9) (fun hHeld => ?_)
          clear hK K
          try simp only [Act.put, List.setIfInBounds_toArray, List.set_cons_zero, List.set_cons_succ]
          refine Step.call (i := 6) rfl (by kernel_rfl) (by rfl) (fun K hK => ?_)
          go_simp
          (go_at_call 48; refine (D4.out _).mono ?_; rintro e w7 ⟨rfl, h7⟩; have H7 := Lib.hid (H6.out.trans (h7.mono H6.out.size)); have v9 := (KP.out _ H7.out).2.2.2.2; clear h7)
          try (go_wp2_with fail)
          refine hK.out _ _ (by (try dsimp only); first | go_keep | exact v9) (fun hHeld => ?_)
          clear hK K
          try simp only [Act.put, List.setIfInBounds_toArray, List.set_cons_zero, List.set_cons_succ]
          refine Step.take (i := 7) rfl (by kernel_rfl) (by kernel_rfl) (by kernel_rfl) (fun _ _ _ h => h) (by rfl) (by (intro w hSw; (try dsimp only at hSw); go_simp; try (with_reducible rfl))) (by assumption) ?_
          try simp only [Act.put, List.setIfInBounds_toArray, List.set_cons_zero, List.set_cons_succ]
          refine wpAnyH_done (by kernel_rfl) ?_ _
          go_wp2_with fail
          go_ret
          refine ⟨?_, HB.out.trans (H7.out.mono HB.out.size)⟩
          refine congrArg (fun x => Ending.returned (.string x)) ?_
          rw [EX.out, ← G4.out, ← G3.out, ← G2.out, ← G1.out]
          show _ = (⟨(be (nat64 ak) 4).toArray⟩ : ByteArray) ++ ⟨(be (nat64 (co * 16777216 + de)) 4).toArray⟩
          rw [F4.out (by trivial) (by trivial), F7.out (by trivial), nil_ba, ba_assoc]
      · have z7' := h27.out rfl; subst z7'
        go_enter Try.func20, Try.ntmps20
        go_wp2_with fail
        refine (CA.out _).mono ?_
        rintro e w1 ⟨rfl, h1⟩
        obtain ⟨x0, x1, x7, x8, x9, x10⟩ := KP.out _ h1
        have H1 := Lib.hid h1
        clear h1
        go_wp2_with fail
        refine (CZ.out _).mono ?_
        rintro e w9 ⟨rfl, rfl⟩
        go_wp2_with fail
        have C1 := fun w => putS ⟨#[]⟩ 0 1 1 rfl (by decide) w
        obtain ⟨t1, ht1⟩ : ∃ t, (⟨#[]⟩ : ByteArray) ++ ⟨(be (nat64 0) 1).toArray⟩ = t := ⟨_, rfl⟩
        rw [ht1] at C1
        have st1 : t1.size ≤ 8 := by rw [← ht1, nil_ba]; show (be _ _).toArray.size ≤ 8; simp
        have C2 := fun w => putS t1 ak 3 3 rfl (by omega) w
        obtain ⟨t2, ht2⟩ : ∃ t, t1 ++ ⟨(be (nat64 ak) 3).toArray⟩ = t := ⟨_, rfl⟩
        rw [ht2] at C2
        have st2 : t2.size ≤ 16 := by rw [← ht2, put_sz, be_length]; omega
        have D1 := Lib.hid C1
        have D2 := Lib.hid C2
        have G1 := Lib.hid ht1
        have G2 := Lib.hid ht2
        clear C1 C2 ht1 ht2
        refine Step.start (S := (fun w' => w'.cell? ⟨w.heap.size, 7, none⟩ = some (.int .i64 ak))) (by kernel_rfl) (by (try dsimp only); first | go_keep | exact v7) (fun hHeld => ?_)
        refine Step.take (i := 0) rfl (by kernel_rfl) (by kernel_rfl) (by kernel_rfl) (fun _ _ _ h => h) (by rfl) (by (intro w hSw; (try dsimp only at hSw); go_simp; try (with_reducible rfl))) (by assumption) ?_
        try simp only [Act.put, List.setIfInBounds_toArray, List.set_cons_zero, List.set_cons_succ]
        refine Step.take (i := 1) rfl (by kernel_rfl) (by kernel_rfl) (by kernel_rfl) (fun _ _ _ h => h) (by rfl) (by (intro w hSw; (try dsimp only at hSw); go_simp; try (with_reducible rfl))) (by assumption) ?_
        try simp only [Act.put, List.setIfInBounds_toArray, List.set_cons_zero, List.set_cons_succ]
        refine Step.take (i := 3) rfl (by kernel_rfl) (by kernel_rfl) (by kernel_rfl) (fun _ _ _ h => h) (by rfl) (by (intro w hSw; (try dsimp only at hSw); go_simp; try (with_reducible rfl))) (by assumption) ?_
        try simp only [Act.put, List.setIfInBounds_toArray, List.set_cons_zero, List.set_cons_succ]
        refine Step.take (i := 4) rfl (by kernel_rfl) (by kernel_rfl) (by kernel_rfl) (fun _ _ _ h => h) (by rfl) (by (intro w hSw; (try dsimp only at hSw); go_simp; try (with_reducible rfl))) (by assumption) ?_
        try simp only [Act.put, List.setIfInBounds_toArray, List.set_cons_zero, List.set_cons_succ]
        refine Step.take (i := 5) rfl (by kernel_rfl) (by kernel_rfl) (by kernel_rfl) (fun _ _ _ h => h) (by rfl) (by (intro w hSw; (try dsimp only at hSw); go_simp; try (with_reducible rfl))) (by assumption) ?_
        try simp only [Act.put, List.setIfInBounds_toArray, List.set_cons_zero, List.set_cons_succ]
        refine Step.call (i := 2) rfl (by kernel_rfl) (by rfl) (fun K hK => ?_)
        go_simp
        (go_at_call 48; refine (D1.out _).mono ?_; rintro e w2 ⟨rfl, h2⟩; have H2 := Lib.hid (H1.out.trans ((at_drewn h2).mono H1.out.size)); have v7 := (KP.out _ H2.out).2.2.1; clear h2)
        try (go_wp2_with fail)
        refine hK.out _ _ (by (try dsimp only); first | go_keep | exact v7) (fun hHeld => ?_)
        clear hK K
        try simp only [Act.put, List.setIfInBounds_toArray, List.set_cons_zero, List.set_cons_succ]
        refine Step.call (i := 6) rfl (by kernel_rfl) (by rfl) (fun K hK => ?_)
        go_simp
        (go_at_call 48; refine (D2.out _).mono ?_; rintro e w3 ⟨rfl, h3⟩; have H3 := Lib.hid (H2.out.trans (h3.mono H2.out.size)); have v7 := (KP.out _ H3.out).2.2.1; clear h3)
        try (go_wp2_with fail)
        refine hK.out _ _ (by (try dsimp only); first | go_keep | exact v7) (fun hHeld => ?_)
        clear hK K
        try simp only [Act.put, List.setIfInBounds_toArray, List.set_cons_zero, List.set_cons_succ]
        refine Step.take (i := 7) rfl (by kernel_rfl) (by kernel_rfl) (by kernel_rfl) (fun _ _ _ h => h) (by rfl) (by (intro w hSw; (try dsimp only at hSw); go_simp; try (with_reducible rfl))) (by assumption) ?_
        try simp only [Act.put, List.setIfInBounds_toArray, List.set_cons_zero, List.set_cons_succ]
        refine wpAnyH_done (by kernel_rfl) ?_ _
        obtain ⟨x0, x1, x7, x8, x9, x10⟩ := KP.out _ H3.out
        clear v7
        go_wp2_with (go_at_call 49; refine (CS.out _).mono ?_; rintro e w9 ⟨rfl, rfl⟩)
        have C3 := fun w => putS t2 sv 4 4 rfl (by first | omega | decide) w
        refine (C3 _).mono ?_
        rintro e w5 ⟨rfl, h5⟩
        have H5 := Lib.hid (H3.out.trans (h5.mono H3.out.size))
        obtain ⟨x0, x1, x7, x8, x9, x10⟩ := KP.out _ H5.out
        clear h5 C3
        go_wp2_with fail
        go_ret
        refine ⟨?_, HB.out.trans (H5.out.mono HB.out.size)⟩
        refine congrArg (fun x => Ending.returned (.string x)) ?_
        rw [EX.out, ← G2.out, ← G1.out]
        show _ = (⟨(be (nat64 ak) 4).toArray⟩ : ByteArray) ++ ⟨(be (nat64 sv) 4).toArray⟩
        rw [F4.out (by trivial) (by trivial), nil_ba]
    · cases b2
      · cases b7
        · go_enter Try.func20, Try.ntmps20
          go_wp2_with fail
          refine (CA.out _).mono ?_
          rintro e w1 ⟨rfl, h1⟩
          obtain ⟨x0, x1, x7, x8, x9, x10⟩ := KP.out _ h1
          have H1 := Lib.hid h1
          clear h1
          go_wp2_with fail
          refine (CZ.out _).mono ?_
          rintro e w9 ⟨rfl, rfl⟩
          go_wp2_with fail
          have C1 := fun w => putS ⟨#[]⟩ 0 2 2 rfl (by decide) w
          obtain ⟨t1, ht1⟩ : ∃ t, (⟨#[]⟩ : ByteArray) ++ ⟨(be (nat64 0) 2).toArray⟩ = t := ⟨_, rfl⟩
          rw [ht1] at C1
          have st1 : t1.size ≤ 8 := by rw [← ht1, nil_ba]; show (be _ _).toArray.size ≤ 8; simp
          have C2 := fun w => putS t1 ak 6 6 rfl (by omega) w
          obtain ⟨t2, ht2⟩ : ∃ t, t1 ++ ⟨(be (nat64 ak) 6).toArray⟩ = t := ⟨_, rfl⟩
          rw [ht2] at C2
          have st2 : t2.size ≤ 16 := by rw [← ht2, put_sz, be_length]; omega
          have D1 := Lib.hid C1
          have D2 := Lib.hid C2
          have G1 := Lib.hid ht1
          have G2 := Lib.hid ht2
          clear C1 C2 ht1 ht2
          refine Step.start (S := (fun w' => w'.cell? ⟨w.heap.size, 7, none⟩ = some (.int .i64 ak))) (by kernel_rfl) (by (try dsimp only); first | go_keep | exact v7) (fun hHeld => ?_)
          refine Step.take (i := 0) rfl (by kernel_rfl) (by kernel_rfl) (by kernel_rfl) (fun _ _ _ h => h) (by rfl) (by (intro w hSw; (try dsimp only at hSw); go_simp; try (with_reducible rfl))) (by assumption) ?_
          try simp only [Act.put, List.setIfInBounds_toArray, List.set_cons_zero, List.set_cons_succ]
          refine Step.take (i := 1) rfl (by kernel_rfl) (by kernel_rfl) (by kernel_rfl) (fun _ _ _ h => h) (by rfl) (by (intro w hSw; (try dsimp only at hSw); go_simp; try (with_reducible rfl))) (by assumption) ?_
          try simp only [Act.put, List.setIfInBounds_toArray, List.set_cons_zero, List.set_cons_succ]
          refine Step.take (i := 3) rfl (by kernel_rfl) (by kernel_rfl) (by kernel_rfl) (fun _ _ _ h => h) (by rfl) (by (intro w hSw; (try dsimp only at hSw); go_simp; try (with_reducible rfl))) (by assumption) ?_
          try simp only [Act.put, List.setIfInBounds_toArray, List.set_cons_zero, List.set_cons_succ]
          refine Step.take (i := 4) rfl (by kernel_rfl) (by kernel_rfl) (by kernel_rfl) (fun _ _ _ h => h) (by rfl) (by (intro w hSw; (try dsimp only at hSw); go_simp; try (with_reducible rfl))) (by assumption) ?_
          try simp only [Act.put, List.setIfInBounds_toArray, List.set_cons_zero, List.set_cons_succ]
          refine Step.take (i := 5) rfl (by kernel_rfl) (by kernel_rfl) (by kernel_rfl) (fun _ _ _ h => h) (by rfl) (by (intro w hSw; (try dsimp only at hSw); go_simp; try (with_reducible rfl))) (by assumption) ?_
          try simp only [Act.put, List.setIfInBounds_toArray, List.set_cons_zero, List.set_cons_succ]
          refine Step.call (i := 2) rfl (by kernel_rfl) (by rfl) (fun K hK => ?_)
          go_simp
          (go_at_call 48; refine (D1.out _).mono ?_; rintro e w2 ⟨rfl, h2⟩; have H2 := Lib.hid (H1.out.trans ((at_drewn h2).mono H1.out.size)); have v7 := (KP.out _ H2.out).2.2.1; clear h2)
          try (go_wp2_with fail)
          refine hK.out _ _ (by (try dsimp only); first | go_keep | exact v7) (fun hHeld => ?_)
          clear hK K
          try simp only [Act.put, List.setIfInBounds_toArray, List.set_cons_zero, List.set_cons_succ]
          refine Step.call (i := 6) rfl (by kernel_rfl) (by rfl) (fun K hK => ?_)
          go_simp
          (go_at_call 48; refine (D2.out _).mono ?_; rintro e w3 ⟨rfl, h3⟩; have H3 := Lib.hid (H2.out.trans (h3.mono H2.out.size)); have v7 := (KP.out _ H3.out).2.2.1; clear h3)
          try (go_wp2_with fail)
          refine hK.out _ _ (by (try dsimp only); first | go_keep | exact v7) (fun hHeld => ?_)
          clear hK K
          try simp only [Act.put, List.setIfInBounds_toArray, List.set_cons_zero, List.set_cons_succ]
          refine Step.take (i := 7) rfl (by kernel_rfl) (by kernel_rfl) (by kernel_rfl) (fun _ _ _ h => h) (by rfl) (by (intro w hSw; (try dsimp only at hSw); go_simp; try (with_reducible rfl))) (by assumption) ?_
          try simp only [Act.put, List.setIfInBounds_toArray, List.set_cons_zero, List.set_cons_succ]
          refine wpAnyH_done (by kernel_rfl) ?_ _
          obtain ⟨x0, x1, x7, x8, x9, x10⟩ := KP.out _ H3.out
          clear v7
          go_wp2_with (go_at_call 49; refine (CS.out _).mono ?_; rintro e w9 ⟨rfl, rfl⟩)
          go_ret
          refine ⟨?_, HB.out.trans (H3.out.mono HB.out.size)⟩
          refine congrArg (fun x => Ending.returned (.string x)) ?_
          rw [EX.out, ← G2.out, ← G1.out]
          show _ = (⟨(be (nat64 ak) 8).toArray⟩ : ByteArray) ++ ⟨#[]⟩
          rw [F8.out (by trivial) (by trivial), ba_nil, nil_ba]
        · go_enter Try.func20, Try.ntmps20
          go_wp2_with fail
          refine (CA.out _).mono ?_
          rintro e w1 ⟨rfl, h1⟩
          obtain ⟨x0, x1, x7, x8, x9, x10⟩ := KP.out _ h1
          have H1 := Lib.hid h1
          clear h1
          go_wp2_with fail
          refine (CZ.out _).mono ?_
          rintro e w9 ⟨rfl, rfl⟩
          go_wp2_with fail
          have C1 := fun w => putS ⟨#[]⟩ 0 2 2 rfl (by decide) w
          obtain ⟨t1, ht1⟩ : ∃ t, (⟨#[]⟩ : ByteArray) ++ ⟨(be (nat64 0) 2).toArray⟩ = t := ⟨_, rfl⟩
          rw [ht1] at C1
          have st1 : t1.size ≤ 8 := by rw [← ht1, nil_ba]; show (be _ _).toArray.size ≤ 8; simp
          have C2 := fun w => putS t1 ak 6 6 rfl (by omega) w
          obtain ⟨t2, ht2⟩ : ∃ t, t1 ++ ⟨(be (nat64 ak) 6).toArray⟩ = t := ⟨_, rfl⟩
          rw [ht2] at C2
          have st2 : t2.size ≤ 16 := by rw [← ht2, put_sz, be_length]; omega
          have D1 := Lib.hid C1
          have D2 := Lib.hid C2
          have G1 := Lib.hid ht1
          have G2 := Lib.hid ht2
          clear C1 C2 ht1 ht2
          refine Step.start (S := (fun w' => w'.cell? ⟨w.heap.size, 7, none⟩ = some (.int .i64 ak))) (by kernel_rfl) (by (try dsimp only); first | go_keep | exact v7) (fun hHeld => ?_)
          refine Step.take (i := 0) rfl (by kernel_rfl) (by kernel_rfl) (by kernel_rfl) (fun _ _ _ h => h) (by rfl) (by (intro w hSw; (try dsimp only at hSw); go_simp; try (with_reducible rfl))) (by assumption) ?_
          try simp only [Act.put, List.setIfInBounds_toArray, List.set_cons_zero, List.set_cons_succ]
          refine Step.take (i := 1) rfl (by kernel_rfl) (by kernel_rfl) (by kernel_rfl) (fun _ _ _ h => h) (by rfl) (by (intro w hSw; (try dsimp only at hSw); go_simp; try (with_reducible rfl))) (by assumption) ?_
          try simp only [Act.put, List.setIfInBounds_toArray, List.set_cons_zero, List.set_cons_succ]
          refine Step.take (i := 3) rfl (by kernel_rfl) (by kernel_rfl) (by kernel_rfl) (fun _ _ _ h => h) (by rfl) (by (intro w hSw; (try dsimp only at hSw); go_simp; try (with_reducible rfl))) (by assumption) ?_
          try simp only [Act.put, List.setIfInBounds_toArray, List.set_cons_zero, List.set_cons_succ]
          refine Step.take (i := 4) rfl (by kernel_rfl) (by kernel_rfl) (by kernel_rfl) (fun _ _ _ h => h) (by rfl) (by (intro w hSw; (try dsimp only at hSw); go_simp; try (with_reducible rfl))) (by assumption) ?_
          try simp only [Act.put, List.setIfInBounds_toArray, List.set_cons_zero, List.set_cons_succ]
          refine Step.take (i := 5) rfl (by kernel_rfl) (by kernel_rfl) (by kernel_rfl) (fun _ _ _ h => h) (by rfl) (by (intro w hSw; (try dsimp only at hSw); go_simp; try (with_reducible rfl))) (by assumption) ?_
          try simp only [Act.put, List.setIfInBounds_toArray, List.set_cons_zero, List.set_cons_succ]
          refine Step.call (i := 2) rfl (by kernel_rfl) (by rfl) (fun K hK => ?_)
          go_simp
          (go_at_call 48; refine (D1.out _).mono ?_; rintro e w2 ⟨rfl, h2⟩; have H2 := Lib.hid (H1.out.trans ((at_drewn h2).mono H1.out.size)); have v7 := (KP.out _ H2.out).2.2.1; clear h2)
          try (go_wp2_with fail)
          refine hK.out _ _ (by (try dsimp only); first | go_keep | exact v7) (fun hHeld => ?_)
          clear hK K
          try simp only [Act.put, List.setIfInBounds_toArray, List.set_cons_zero, List.set_cons_succ]
          refine Step.call (i := 6) rfl (by kernel_rfl) (by rfl) (fun K hK => ?_)
          go_simp
          (go_at_call 48; refine (D2.out _).mono ?_; rintro e w3 ⟨rfl, h3⟩; have H3 := Lib.hid (H2.out.trans (h3.mono H2.out.size)); have v7 := (KP.out _ H3.out).2.2.1; clear h3)
          try (go_wp2_with fail)
          refine hK.out _ _ (by (try dsimp only); first | go_keep | exact v7) (fun hHeld => ?_)
          clear hK K
          try simp only [Act.put, List.setIfInBounds_toArray, List.set_cons_zero, List.set_cons_succ]
          refine Step.take (i := 7) rfl (by kernel_rfl) (by kernel_rfl) (by kernel_rfl) (fun _ _ _ h => h) (by rfl) (by (intro w hSw; (try dsimp only at hSw); go_simp; try (with_reducible rfl))) (by assumption) ?_
          try simp only [Act.put, List.setIfInBounds_toArray, List.set_cons_zero, List.set_cons_succ]
          refine wpAnyH_done (by kernel_rfl) ?_ _
          obtain ⟨x0, x1, x7, x8, x9, x10⟩ := KP.out _ H3.out
          clear v7
          go_wp2_with (go_at_call 49; refine (CS.out _).mono ?_; rintro e w9 ⟨rfl, rfl⟩)
          have C3 := fun w => putS t2 co 1 1 rfl (by first | omega | decide) w
          obtain ⟨t3, ht3⟩ : ∃ t, t2 ++ ⟨(be (nat64 co) 1).toArray⟩ = t := ⟨_, rfl⟩
          rw [ht3] at C3
          have st3 : t3.size ≤ 20 := by rw [← ht3, put_sz, be_length]; first | omega | decide
          have C4 := fun w => putS t3 de 3 3 rfl (by omega) w
          obtain ⟨t4, ht4⟩ : ∃ t, t3 ++ ⟨(be (nat64 de) 3).toArray⟩ = t := ⟨_, rfl⟩
          rw [ht4] at C4
          have D3 := Lib.hid C3
          have D4 := Lib.hid C4
          have G3 := Lib.hid ht3
          have G4 := Lib.hid ht4
          clear C3 C4 ht3 ht4
          refine Step.start (S := (fun w' => w'.cell? ⟨w.heap.size, 9, none⟩ = some (.int .i64 co) ∧ w'.cell? ⟨w.heap.size, 10, none⟩ = some (.int .i64 de))) (by kernel_rfl) (by (try dsimp only); first | go_keep | exact v9) (fun hHeld => ?_)
          refine Step.take (i := 0) rfl (by kernel_rfl) (by kernel_rfl) (by kernel_rfl) (fun _ _ _ h => h) (by rfl) (by (intro w hSw; (try dsimp only at hSw); go_simp; try (with_reducible rfl))) (by assumption) ?_
          try simp only [Act.put, List.setIfInBounds_toArray, List.set_cons_zero, List.set_cons_succ]
          refine Step.take (i := 1) rfl (by kernel_rfl) (by kernel_rfl) (by kernel_rfl) (fun _ _ _ h => h) (by rfl) (by (intro w hSw; (try dsimp only at hSw); go_simp; try (with_reducible rfl))) (by assumption) ?_
          try simp only [Act.put, List.setIfInBounds_toArray, List.set_cons_zero, List.set_cons_succ]
          refine Step.take (i := 2) rfl (by kernel_rfl) (by kernel_rfl) (by kernel_rfl) (fun _ _ _ h => h) (by rfl) (by (intro w hSw; (try dsimp only at hSw); go_simp; try (with_reducible rfl))) (by assumption) ?_
          try simp only [Act.put, List.setIfInBounds_toArray, List.set_cons_zero, List.set_cons_succ]
          refine Step.take (i := 4) rfl (by kernel_rfl) (by kernel_rfl) (by kernel_rfl) (fun _ _ _ h => h) (by rfl) (by (intro w hSw; (try dsimp only at hSw); go_simp; try (with_reducible rfl))) (by assumption) ?_
          try simp only [Act.put, List.setIfInBounds_toArray, List.set_cons_zero, List.set_cons_succ]
          refine Step.take (i := 5) rfl (by kernel_rfl) (by kernel_rfl) (by kernel_rfl) (fun _ _ _ h => h) (by rfl) (by (intro w hSw; (try dsimp only at hSw); go_simp; try (with_reducible rfl))) (by assumption) ?_
          try simp only [Act.put, List.setIfInBounds_toArray, List.set_cons_zero, List.set_cons_succ]
          refine Step.call (i := 3) rfl (by kernel_rfl) (by rfl) (fun K hK => ?_)
          go_simp
          (go_at_call 48; refine (D3.out _).mono ?_; rintro e w6 ⟨rfl, h6⟩; have H6 := Lib.hid (H3.out.trans ((at_drewn h6).mono H3.out.size)); have v9 := (KP.out _ H6.out).2.2.2.2; clear h6)
          try (go_wp2_with fail)
          refine hK.out _ _ (by (try dsimp only); first | go_keep | exact v9) (fun hHeld => ?_)
          clear hK K
          try simp only [Act.put, List.setIfInBounds_toArray, List.set_cons_zero, List.set_cons_succ]
          refine Step.call (i := 6) rfl (by kernel_rfl) (by rfl) (fun K hK => ?_)
          go_simp
          (go_at_call 48; refine (D4.out _).mono ?_; rintro e w7 ⟨rfl, h7⟩; have H7 := Lib.hid (H6.out.trans (h7.mono H6.out.size)); have v9 := (KP.out _ H7.out).2.2.2.2; clear h7)
          try (go_wp2_with fail)
          refine hK.out _ _ (by (try dsimp only); first | go_keep | exact v9) (fun hHeld => ?_)
          clear hK K
          try simp only [Act.put, List.setIfInBounds_toArray, List.set_cons_zero, List.set_cons_succ]
          refine Step.take (i := 7) rfl (by kernel_rfl) (by kernel_rfl) (by kernel_rfl) (fun _ _ _ h => h) (by rfl) (by (intro w hSw; (try dsimp only at hSw); go_simp; try (with_reducible rfl))) (by assumption) ?_
          try simp only [Act.put, List.setIfInBounds_toArray, List.set_cons_zero, List.set_cons_succ]
          refine wpAnyH_done (by kernel_rfl) ?_ _
          go_wp2_with fail
          go_ret
          refine ⟨?_, HB.out.trans (H7.out.mono HB.out.size)⟩
          refine congrArg (fun x => Ending.returned (.string x)) ?_
          rw [EX.out, ← G4.out, ← G3.out, ← G2.out, ← G1.out]
          show _ = (⟨(be (nat64 ak) 8).toArray⟩ : ByteArray) ++ ⟨(be (nat64 (co * 16777216 + de)) 4).toArray⟩
          rw [F8.out (by trivial) (by trivial), F7.out (by trivial), nil_ba, ba_assoc]
      · have z7' := h27.out rfl; subst z7'
        go_enter Try.func20, Try.ntmps20
        go_wp2_with fail
        refine (CA.out _).mono ?_
        rintro e w1 ⟨rfl, h1⟩
        obtain ⟨x0, x1, x7, x8, x9, x10⟩ := KP.out _ h1
        have H1 := Lib.hid h1
        clear h1
        go_wp2_with fail
        refine (CZ.out _).mono ?_
        rintro e w9 ⟨rfl, rfl⟩
        go_wp2_with fail
        have C1 := fun w => putS ⟨#[]⟩ 0 2 2 rfl (by decide) w
        obtain ⟨t1, ht1⟩ : ∃ t, (⟨#[]⟩ : ByteArray) ++ ⟨(be (nat64 0) 2).toArray⟩ = t := ⟨_, rfl⟩
        rw [ht1] at C1
        have st1 : t1.size ≤ 8 := by rw [← ht1, nil_ba]; show (be _ _).toArray.size ≤ 8; simp
        have C2 := fun w => putS t1 ak 6 6 rfl (by omega) w
        obtain ⟨t2, ht2⟩ : ∃ t, t1 ++ ⟨(be (nat64 ak) 6).toArray⟩ = t := ⟨_, rfl⟩
        rw [ht2] at C2
        have st2 : t2.size ≤ 16 := by rw [← ht2, put_sz, be_length]; omega
        have D1 := Lib.hid C1
        have D2 := Lib.hid C2
        have G1 := Lib.hid ht1
        have G2 := Lib.hid ht2
        clear C1 C2 ht1 ht2
        refine Step.start (S := (fun w' => w'.cell? ⟨w.heap.size, 7, none⟩ = some (.int .i64 ak))) (by kernel_rfl) (by (try dsimp only); first | go_keep | exact v7) (fun hHeld => ?_)
        refine Step.take (i := 0) rfl (by kernel_rfl) (by kernel_rfl) (by kernel_rfl) (fun _ _ _ h => h) (by rfl) (by (intro w hSw; (try dsimp only at hSw); go_simp; try (with_reducible rfl))) (by assumption) ?_
        try simp only [Act.put, List.setIfInBounds_toArray, List.set_cons_zero, List.set_cons_succ]
        refine Step.take (i := 1) rfl (by kernel_rfl) (by kernel_rfl) (by kernel_rfl) (fun _ _ _ h => h) (by rfl) (by (intro w hSw; (try dsimp only at hSw); go_simp; try (with_reducible rfl))) (by assumption) ?_
        try simp only [Act.put, List.setIfInBounds_toArray, List.set_cons_zero, List.set_cons_succ]
        refine Step.take (i := 3) rfl (by kernel_rfl) (by kernel_rfl) (by kernel_rfl) (fun _ _ _ h => h) (by rfl) (by (intro w hSw; (try dsimp only at hSw); go_simp; try (with_reducible rfl))) (by assumption) ?_
        try simp only [Act.put, List.setIfInBounds_toArray, List.set_cons_zero, List.set_cons_succ]
        refine Step.take (i := 4) rfl (by kernel_rfl) (by kernel_rfl) (by kernel_rfl) (fun _ _ _ h => h) (by rfl) (by (intro w hSw; (try dsimp only at hSw); go_simp; try (with_reducible rfl))) (by assumption) ?_
        try simp only [Act.put, List.setIfInBounds_toArray, List.set_cons_zero, List.set_cons_succ]
        refine Step.take (i := 5) rfl (by kernel_rfl) (by kernel_rfl) (by kernel_rfl) (fun _ _ _ h => h) (by rfl) (by (intro w hSw; (try dsimp only at hSw); go_simp; try (with_reducible rfl))) (by assumption) ?_
        try simp only [Act.put, List.setIfInBounds_toArray, List.set_cons_zero, List.set_cons_succ]
        refine Step.call (i := 2) rfl (by kernel_rfl) (by rfl) (fun K hK => ?_)
        go_simp
        (go_at_call 48; refine (D1.out _).mono ?_; rintro e w2 ⟨rfl, h2⟩; have H2 := Lib.hid (H1.out.trans ((at_drewn h2).mono H1.out.size)); have v7 := (KP.out _ H2.out).2.2.1; clear h2)
        try (go_wp2_with fail)
        refine hK.out _ _ (by (try dsimp only); first | go_keep | exact v7) (fun hHeld => ?_)
        clear hK K
        try simp only [Act.put, List.setIfInBounds_toArray, List.set_cons_zero, List.set_cons_succ]
        refine Step.call (i := 6) rfl (by kernel_rfl) (by rfl) (fun K hK => ?_)
        go_simp
        (go_at_call 48; refine (D2.out _).mono ?_; rintro e w3 ⟨rfl, h3⟩; have H3 := Lib.hid (H2.out.trans (h3.mono H2.out.size)); have v7 := (KP.out _ H3.out).2.2.1; clear h3)
        try (go_wp2_with fail)
        refine hK.out _ _ (by (try dsimp only); first | go_keep | exact v7) (fun hHeld => ?_)
        clear hK K
        try simp only [Act.put, List.setIfInBounds_toArray, List.set_cons_zero, List.set_cons_succ]
        refine Step.take (i := 7) rfl (by kernel_rfl) (by kernel_rfl) (by kernel_rfl) (fun _ _ _ h => h) (by rfl) (by (intro w hSw; (try dsimp only at hSw); go_simp; try (with_reducible rfl))) (by assumption) ?_
        try simp only [Act.put, List.setIfInBounds_toArray, List.set_cons_zero, List.set_cons_succ]
        refine wpAnyH_done (by kernel_rfl) ?_ _
        obtain ⟨x0, x1, x7, x8, x9, x10⟩ := KP.out _ H3.out
        clear v7
        go_wp2_with (go_at_call 49; refine (CS.out _).mono ?_; rintro e w9 ⟨rfl, rfl⟩)
        have C3 := fun w => putS t2 sv 4 4 rfl (by first | omega | decide) w
        refine (C3 _).mono ?_
        rintro e w5 ⟨rfl, h5⟩
        have H5 := Lib.hid (H3.out.trans (h5.mono H3.out.size))
        obtain ⟨x0, x1, x7, x8, x9, x10⟩ := KP.out _ H5.out
        clear h5 C3
        go_wp2_with fail
        go_ret
        refine ⟨?_, HB.out.trans (H5.out.mono HB.out.size)⟩
        refine congrArg (fun x => Ending.returned (.string x)) ?_
        rw [EX.out, ← G2.out, ← G1.out]
        show _ = (⟨(be (nat64 ak) 8).toArray⟩ : ByteArray) ++ ⟨(be (nat64 sv) 4).toArray⟩
        rw [F8.out (by trivial) (by trivial), nil_ba]
end Go.Proofs.Ytkjojfcknfhkhaa.Pkt

namespace Go.Proofs.Ytkjojfcknfhkhaa.Pkt
open Go.ChangeShapes Go.WideShapes Go.ChangeAt Go.RowKit
open Go.Proofs.Ytkjojfcknfhkhaa.Opt (O OptsAt Fit)
set_option linter.unusedVariables false

theorem covc_snd (x d : ByteArray) (c : Int) : (Inet.covc x d c).2 = covers d.size c := by
  rw [← cov_second]
  unfold Inet.covc
  split
  · rfl
  · split
    · rfl
    · split <;> rfl

theorem putOpts_any (l : List O) (hl : Fit l) (hc : Opt.check l = 0) (a : Option Addr) (cap : Nat) (w : World) (h : OptsAt w a l) :
    Calls Try.prog 19 #[.slice a l.length cap] w fun e w' => e = .returned (.tuple #[.string (optText l), .int .i64 0]) ∧ Below w.heap.size w w' := by
  refine (Opt.Put_any l hl a cap w h).mono ?_
  rintro e w1 ⟨⟨h1, -⟩ | ⟨-, j, rfl, hm, hj⟩, h2⟩
  · exact absurd hc h1
  · refine ⟨?_, h2⟩
    obtain ⟨hw, -⟩ := Opt.check_wrongs hc
    rw [ByteArray.size_append, Opt.bytesOf_size hw, Opt.zeros_size] at hm
    have hp : pad l = j := by unfold pad; omega
    unfold optText
    rw [if_pos hc, hp]

theorem begins_sum (p : K) (s : Int) : begins p s = { begins p 0 with sum := s } := rfl

set_option maxRecDepth 100000 in
set_option maxHeartbeats 4000000 in
theorem PPut_any (p : K) (hl : Fit p.opts) (hd : p.data.size ≤ 4000) (f t : Int) (a : Option Addr) (cap : Nat) (w : World) (h : OptsAt w a p.opts) :
    Calls Try.prog 8 #[.agg #[.int .i64 p.kind, .bool p.long, .int .i64 p.src, .int .i64 p.dst, .int .i64 p.cc, .int .i64 p.cover, .int .i64 p.seq, .int .i64 p.ack, .int .i64 p.service, .int .i64 p.code, .int .i64 p.detail, .slice a p.opts.length cap, .string p.data], .agg #[.int .i64 f, .int .i64 t]] w
      fun e w' => e = .returned (.tuple #[.string (put p f t).1, .int .i64 (put p f t).2]) ∧ Below w.heap.size w w' := by
  have hP := Lib.hid (show put p f t = if check p ≠ 0 then (⟨#[]⟩, check p) else (aheadText p (summed (aheadText p 0) p.data p.cover f t) ++ p.data, 0) from rfl)
  have hz := Lib.hid (@check_zero p)
  have CC := Lib.hid (fun w (h : OptsAt w a p.opts) => PCheck_any p hl hd a cap w h)
  have CO := Lib.hid (fun w hc (h : OptsAt w a p.opts) => putOpts_any p.opts hl hc a cap w h)
  have CW := Lib.hid (fun w hk hr => putOwn_any p hk hr a cap w)
  have CB := Lib.hid (fun w (h : OptsAt w a p.opts) => beginning_any p hl a cap w h)
  have CT := Lib.hid (fun s w => Head.Put_any (begins p s) w)
  have hT := fun s => (show aheadText p s = Head.putText (begins p s) ++ extra p ++ optText p.opts from rfl)
  have s0 := ahead_size p 0
  have sx := extra_size p
  have so := optText_size p.opts
  have st := fun s => Head.put_size (begins p s)
  have CS := Lib.hid (fun x (hx : x.size ≤ 4000) w => psum_any x p.data p.cover f t hx hd w)
  have hcv := Lib.hid (fun x => covc_snd x p.data p.cover)
  have hb1 := ((Below.refl w.heap.size w).alloc (Nat.le_refl _) (.cells #[.int .i64 p.kind, .bool p.long, .int .i64 p.src, .int .i64 p.dst, .int .i64 p.cc, .int .i64 p.cover, .int .i64 p.seq, .int .i64 p.ack, .int .i64 p.service, .int .i64 p.code, .int .i64 p.detail, .slice a p.opts.length cap, .string p.data] 24)).alloc (by simp) (.cells #[.int .i64 f, .int .i64 t] 26)
  obtain ⟨W, hW⟩ : ∃ W, (w.alloc (.cells #[.int .i64 p.kind, .bool p.long, .int .i64 p.src, .int .i64 p.dst, .int .i64 p.cc, .int .i64 p.cover, .int .i64 p.seq, .int .i64 p.ack, .int .i64 p.service, .int .i64 p.code, .int .i64 p.detail, .slice a p.opts.length cap, .string p.data] 24)).alloc (.cells #[.int .i64 f, .int .i64 t] 26) = W := ⟨_, rfl⟩
  have hsz : W.heap.size = w.heap.size + 2 := by rw [← hW]; simp
  have hA : BoxK W w.heap.size p a cap := by
    rw [← hW]
    exact (Below.heap_alloc _ _ _ (by simp)).trans (heap_alloc_new w _)
  have hZ : W.heap[w.heap.size + 1]? = some (.cells #[.int .i64 f, .int .i64 t] 26 (0, 0)) := by
    rw [← hW]
    have := heap_alloc_new (w.alloc (.cells #[.int .i64 p.kind, .bool p.long, .int .i64 p.src, .int .i64 p.dst, .int .i64 p.cc, .int .i64 p.cover, .int .i64 p.seq, .int .i64 p.ack, .int .i64 p.service, .int .i64 p.code, .int .i64 p.detail, .slice a p.opts.length cap, .string p.data] 24)) (.cells #[.int .i64 f, .int .i64 t] 26)
    rwa [show (w.alloc (.cells #[.int .i64 p.kind, .bool p.long, .int .i64 p.src, .int .i64 p.dst, .int .i64 p.cc, .int .i64 p.cover, .int .i64 p.seq, .int .i64 p.ack, .int .i64 p.service, .int .i64 p.code, .int .i64 p.detail, .slice a p.opts.length cap, .string p.data] 24)).heap.size = w.heap.size + 1 by simp] at this
  have HB := Lib.hid (show Below w.heap.size w W by rw [← hW]; exact hb1)
  have keep : ∀ W', Below W.heap.size W W' → BoxK W' w.heap.size p a cap ∧ W'.heap[w.heap.size + 1]? = some (.cells #[.int .i64 f, .int .i64 t] 26 (0, 0)) ∧ OptsAt W' a p.opts := by
    intro W' h'
    exact ⟨hA.below h' (by rw [hsz]; omega), (h'.block _ (by rw [hsz]; omega)).trans hZ, h.below (HB.out.trans (h'.mono HB.out.size))⟩
  have KP := Lib.hid keep
  have O0 := Lib.hid (keep W (Below.refl _ _)).2.2
  have A0 := hA
  clear keep hA hZ hb1 h hl
  generalize put p f t = R at *
  generalize check p = C at *
  go_enter Try.func8, Try.ntmps8
  go_wp2_with (refine wpList_load_row rfl 24 _ rfl w.heap.size rfl 24 _ _ _ A0 Try.underlying24 rfl (hi13 _ _ _ _ _ _ _ _ _ _ _ _ _) ?_)
  refine (CC.out _ O0.out).mono ?_
  rintro e w1 ⟨rfl, h1⟩
  have H1 := Lib.hid h1
  clear h1
  by_cases hc0 : C = 0
  case neg =>
    have hcb : (C != 0) = true := by simpa using hc0
    have HC := Lib.hid (hP.out.trans (if_pos hc0))
    go_wp2_with fail
    go_returns
    exact ⟨by rw [HC.out]; rfl, HB.out.trans (H1.out.mono HB.out.size)⟩
  subst hc0
  have hcb : ((0 : Int) != 0) = false := rfl
  obtain ⟨hh, hrg, hoc, hd2, -, hcc⟩ := hz.out rfl
  have hk := ((Head.check_ok _).1 hh).known.1
  have HC := Lib.hid (hP.out.trans (if_neg (fun h => h rfl)))
  obtain ⟨B1, -, O1⟩ := KP.out _ H1.out
  obtain ⟨y0, y1, y2, y3, y4, y5, y6, y7, y8, y9, y10, y11, y12⟩ := B1.cell
  clear hP hz
  go_wp2_with fail
  refine (CO.out _ hoc O1).mono ?_
  rintro e w2 ⟨rfl, h2⟩
  have H2 := Lib.hid (H1.out.trans (h2.mono H1.out.size))
  clear h2 B1 O1 y0 y1 y2 y3 y4 y5 y6 y7 y8 y9 y10 y11 y12
  obtain ⟨B2, -, O2⟩ := KP.out _ H2.out
  go_wp2_with (refine wpList_load_row rfl 24 _ rfl w.heap.size rfl 24 _ _ _ B2 Try.underlying24 rfl (hi13 _ _ _ _ _ _ _ _ _ _ _ _ _) ?_)
  refine (CW.out _ hk hrg).mono ?_
  rintro e w3 ⟨rfl, h3⟩
  have H3 := Lib.hid (H2.out.trans (h3.mono H2.out.size))
  clear h3 B2 O2
  obtain ⟨B3, -, O3⟩ := KP.out _ H3.out
  have CB3 := Lib.hid (CB.out _ O3)
  obtain ⟨XL, hXL⟩ : ∃ XL, extra p ++ optText p.opts = XL := ⟨_, rfl⟩
  have sXL : XL.size ≤ 415 := by rw [← hXL, ByteArray.size_append]; omega
  replace hT := fun s => (show aheadText p s = Head.putText (begins p s) ++ XL by rw [hT, ba_assoc, hXL])
  go_wp2_with (refine wpList_load_row rfl 24 _ rfl w.heap.size rfl 24 _ _ _ B3 Try.underlying24 rfl (hi13 _ _ _ _ _ _ _ _ _ _ _ _ _) ?_)
  refine CB3.out.mono ?_
  rintro e w4 ⟨rfl, h4⟩
  have H4 := Lib.hid (H3.out.trans (h4.mono H3.out.size))
  clear h4 B3 O3 CB3 CB CW CO CC
  have n4 := Head.Box9.new w4 (begins p 0)
  have h5 := (Below.refl w4.heap.size w4).alloc (Nat.le_refl _) (.cells (Head.rowOf (begins p 0)) 43)
  obtain ⟨V, hV⟩ : ∃ V, w4.alloc (.cells (Head.rowOf (begins p 0)) 43) = V := ⟨_, rfl⟩
  have H5 := Lib.hid (show Below W.heap.size W V by rw [← hV]; exact H4.out.trans (h5.mono H4.out.size))
  have hBV : w4.heap.size < V.heap.size := by rw [← hV]; simp
  have nV : Head.Box9 V w4.heap.size (begins p 0) := by rw [← hV]; exact n4
  have hWB : W.heap.size ≤ w4.heap.size := H4.out.size
  clear n4 h5
  obtain ⟨B, hB⟩ : ∃ B, w4.heap.size = B := ⟨_, rfl⟩
  rw [hB] at nV hBV hWB
  obtain ⟨T0, hT0⟩ : ∃ T0, Head.putText (begins p 0) ++ XL = T0 := ⟨_, rfl⟩
  have eT0 := (hT 0).trans hT0
  obtain ⟨N, hN⟩ : ∃ N, summed (aheadText p 0) p.data p.cover f t = N := ⟨_, rfl⟩
  rw [hN] at HC
  rw [eT0] at hN s0
  have CS8 := CS.out T0 (by omega)
  rw [hcv.out, hcc, if_pos rfl, hN] at CS8
  replace CS8 := Lib.hid CS8
  obtain ⟨TN, hTN⟩ : ∃ TN, Head.putText (begins p N) ++ XL = TN := ⟨_, rfl⟩
  rw [(hT N).trans hTN] at HC
  have t0 := st 0
  have tN := st N
  have sN := ahead_size p N
  rw [(hT N).trans hTN] at sN
  have hfin : begins p N = { begins p 0 with sum := N } := rfl
  clear hN eT0 hcc hcv CS hT st hXL
  go_wp2_with (refine wpList_load_row rfl 43 _ rfl B rfl 43 _ _ _ nV Try.underlying43 rfl (Head.hi9 _ _ _ _ _ _ _ _ _) ?_)
  refine (CT.out 0 _).mono ?_
  rintro e w6 ⟨rfl, h6⟩
  have n6 := nV.below h6 hBV
  have H6 := Lib.hid (H5.out.trans (h6.mono H5.out.size))
  clear nV h6 H5 hBV hV
  obtain ⟨B6, Z6, -⟩ := KP.out _ H6.out
  obtain ⟨y0, y1, y2, y3, y4, y5, y6, y7, y8, y9, y10, y11, y12⟩ := B6.cell
  clear y0 y1 y2 y3 y4 y6 y7 y8 y9 y10 y11
  go_wp2_with (refine wpList_load_row rfl 26 _ rfl (w.heap.size + 1) rfl 26 _ _ _ Z6 Try.underlying26 rfl (hi2 _ _) ?_)
  refine (CS8.out _).mono ?_
  rintro e w7 ⟨rfl, h7⟩
  have n7 := n6.below h7 n6.lt
  have H7 := Lib.hid (H6.out.trans (h7.mono H6.out.size))
  clear n6 h7 H6 B6 Z6 y5 y12
  have c5 := n7.cell.2.2.2.2.2.1
  have f5 := n7.free 5
  have n8 := n7.set5 N
  rw [← hfin] at n8
  have H8 := Lib.hid (H7.out.setCell (p := ⟨B, 5, none⟩) hWB (.int .i64 N))
  have B8 := (KP.out _ H8.out).1
  obtain ⟨y0, y1, y2, y3, y4, y5, y6, y7, y8, y9, y10, y11, y12⟩ := B8.cell
  clear y0 y1 y2 y3 y4 y6 y7 y8 y9 y10 y11 y5 y12 hfin
  go_wp2_with (refine wpList_load_row rfl 43 _ rfl B rfl 43 _ _ _ n8 Try.underlying43 rfl (Head.hi9 _ _ _ _ _ _ _ _ _) ?_)
  refine (CT.out N _).mono ?_
  rintro e w9 ⟨rfl, h9⟩
  have H9 := Lib.hid (H8.out.trans (h9.mono H8.out.size))
  have B9 := (KP.out _ H9.out).1
  obtain ⟨y0, y1, y2, y3, y4, y5, y6, y7, y8, y9, y10, y11, y12⟩ := B9.cell
  clear y0 y1 y2 y3 y4 y6 y7 y8 y9 y10 y11 y5
  go_wp2_with fail
  go_returns
  exact ⟨by rw [HC.out]; rfl, HB.out.trans (H9.out.mono HB.out.size)⟩
end Go.Proofs.Ytkjojfcknfhkhaa.Pkt
