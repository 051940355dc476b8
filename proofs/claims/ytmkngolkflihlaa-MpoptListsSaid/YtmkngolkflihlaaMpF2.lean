/- The fields' own methods that put, empty and read: their contracts. -/
import Derived.Test.YtmkngolkflihlaaMpF1
import Derived.Deep.RegionWith
import Derived.Deep.RegionHeld3
import Derived.StillTailTactics
import Derived.Test.YtmkngolkflihlaaOpt1
namespace Go.Proofs.Ytmkngolkflihlaa.Mp
open Go.ChangeShapes Go.WideShapes Go.ChangeAt Go.RowKit
set_option linter.unusedVariables false

/-- the number that a place holds -/
def Holds (w : World) (b j : Nat) (v : Value) : Prop := b < w.heap.size ∧ w.cell? ⟨b, j, none⟩ = some v
theorem Holds.below {w w' : World} {b j : Nat} {v : Value} (h : Holds w b j v) (hb : Below w.heap.size w w') : Holds w' b j v :=
  ⟨Nat.lt_of_lt_of_le h.1 hb.size, (hb.cell (p := ⟨b, j, none⟩) h.1).trans h.2⟩

theorem tsize_any (b s l there : Nat) (w : World) (hl : l ≤ 100) (hs : s ≤ 100) :
    Calls Try.prog 70 #[xv b s l, .int .i64 (there : Nat)] w fun e w' => e = .returned (.int .i64 (size1 s l there : Nat)) ∧ Below w.heap.size w w' := by
  have hB := Lib.hid ((Below.refl w.heap.size w).alloc (Nat.le_refl _) (.cells #[.pointer (some ⟨b, 6, none⟩), .int .i64 (s : Nat), .int .i64 (l : Nat)] 78))
  by_cases h : there < l
  · have hr := Lib.hid (show size1 s l there = s from if_pos h)
    rw [hr.out]
    have hd : decide ((there : Int) < (l : Int)) = true := by simp; omega
    have hd' : decide (there < l) = true := by simp; omega
    go_enter Try.func70, Try.ntmps70
    go_wp2_with fail
    go_ret
    exact ⟨rfl, hB.out⟩
  · have hr := Lib.hid (show size1 s l there = l from if_neg h)
    rw [hr.out]
    have hd : decide ((there : Int) < (l : Int)) = false := by simp; omega
    have hd' : decide (there < l) = false := by simp; omega
    go_enter Try.func70, Try.ntmps70
    go_wp2_with fail
    go_ret
    exact ⟨rfl, hB.out⟩

/-- Of what was there, blocks b and c alone may have turned. -/
structure Touch2 (b c : Nat) (w w' : World) : Prop where
  os : w'.os = w.os
  tape : w'.tape = w.tape
  output : w'.output = w.output
  size : w.heap.size ≤ w'.heap.size
  block : ∀ k, k < w.heap.size → k ≠ b → k ≠ c → w'.heap[k]? = w.heap[k]?
theorem Touch2.refl (b c : Nat) (w : World) : Touch2 b c w w := ⟨rfl, rfl, rfl, Nat.le_refl _, fun _ _ _ _ => rfl⟩
theorem Touch2.trans {b c : Nat} {x y z : World} (h : Touch2 b c x y) (k : Touch2 b c y z) : Touch2 b c x z :=
  ⟨k.os.trans h.os, k.tape.trans h.tape, k.output.trans h.output, Nat.le_trans h.size k.size, fun i hi hb hc => (k.block i (Nat.lt_of_lt_of_le hi h.size) hb hc).trans (h.block i hi hb hc)⟩
theorem Touch2.right {b c : Nat} {w w' : World} (h : Oct.Touch c w w') : Touch2 b c w w' := ⟨h.os, h.tape, h.output, h.size, fun k hk _ hc => h.block k hk hc⟩
theorem Touch2.left {b c : Nat} {w w' : World} (h : Oct.Touch b w w') : Touch2 b c w w' := ⟨h.os, h.tape, h.output, h.size, fun k hk hb _ => h.block k hk hb⟩
theorem Touch2.below {b c : Nat} {w w' : World} (h : Below w.heap.size w w') : Touch2 b c w w' := ⟨h.os, h.tape, h.output, h.size, fun k hk _ _ => h.block k hk⟩
theorem Touch2.toBelow {b c B : Nat} {w w' : World} (h : Touch2 b c w w') (hb : B ≤ b) (hc : B ≤ c) (hB : B ≤ w.heap.size) : Below B w w' :=
  ⟨h.os, h.tape, h.output, h.size, fun k hk => h.block k (by omega) (by omega) (by omega)⟩

theorem hi3t (v0 v1 v2 : Value) : (Try.prog.info? 78).map (·.size) = some (#[v0, v1, v2] : Array Value).size := by
  show _ = some 3
  kernel_rfl
theorem hone3t (b j s l : Nat) : (#[.pointer (some ⟨b, j, none⟩), .int .i64 (s : Nat), .int .i64 (l : Nat)] : Array Value).all (·.oneCell') = true := by
  simp [Value.oneCell']

theorem twrong_any (b s l : Nat) (y : ByteArray) (w : World) (hl : l ≤ 100) (hs : s ≤ 100) (hy : y.size ≤ 4000) (h : Holds w b 6 (.string y)) :
    Calls Try.prog 69 #[xv b s l] w fun e w' => e = .returned (.int .i64 (if y.size = size1 s l y.size then 0 else 11)) ∧ Below w.heap.size w w' := by
  have hB := Lib.hid ((Below.refl w.heap.size w).alloc (Nat.le_refl _) (.cells #[.pointer (some ⟨b, 6, none⟩), .int .i64 (s : Nat), .int .i64 (l : Nat)] 78))
  have hc' : ((w.alloc (.cells #[.pointer (some ⟨b, 6, none⟩), .int .i64 (s : Nat), .int .i64 (l : Nat)] 78))).cell? ⟨b, 6, none⟩ = some (.string y) := (hB.out.cell (p := ⟨b, 6, none⟩) h.1).trans h.2
  have CS := Lib.hid (fun w => tsize_any b s l y.size w hl hs)
  clear h
  by_cases h : y.size = size1 s l y.size
  · have hr := Lib.hid (show (if y.size = size1 s l y.size then (0 : Int) else 11) = 0 from if_pos h)
    rw [hr.out]
    rw [← h] at CS
    clear h
    go_enter Try.func69, Try.ntmps69
    go_wp2_with (go_at_call 70; refine (CS.out _).mono ?_; rintro e w1 ⟨rfl, h1⟩)
    go_ret
    exact ⟨rfl, hB.out.trans (h1.mono (by simp))⟩
  · have hr := Lib.hid (show (if y.size = size1 s l y.size then (0 : Int) else 11) = 11 from if_neg h)
    rw [hr.out]
    have hn : ((y.size : Int) != ((size1 s l y.size : Nat) : Int)) = true := by simpa using (by omega : ¬ (y.size : Int) = (size1 s l y.size : Nat))
    generalize size1 s l y.size = q at *
    go_enter Try.func69, Try.ntmps69
    go_wp2_with (go_at_call 70; refine (CS.out _).mono ?_; rintro e w1 ⟨rfl, h1⟩)
    go_ret
    exact ⟨rfl, hB.out.trans (h1.mono (by simp))⟩

/-- what such an option says lies in block b -/
def RowM (w : World) (b : Nat) (m : M) : Prop := w.heap[b]? = some (.cells (rowOf m) 23 (0, 0))
theorem RowM.lt {w : World} {b : Nat} {m : M} (h : RowM w b m) : b < w.heap.size := (Array.getElem?_eq_some_iff.1 h).1
theorem RowM.of_block {w w' : World} {b : Nat} {m : M} (h : RowM w b m) (e : w'.heap[b]? = w.heap[b]?) : RowM w' b m := e.trans h
theorem RowM.below {w w' : World} {b B : Nat} {m : M} (h : RowM w b m) (hb : Below B w w') (hB : b < B) : RowM w' b m := h.of_block (hb.block b hB)
theorem RowM.new (w : World) (m : M) : RowM (w.alloc (.cells (rowOf m) 23)) w.heap.size m := heap_alloc_new w _
theorem RowM.num {w : World} {b : Nat} {m : M} (h : RowM w b m) (j : Nat) (hj : j ≤ 5) : Holds w b j (.int .i64 (m.get j)) := by
  refine ⟨h.lt, ?_⟩
  obtain ⟨c0, c1, c2, c3, c4, c5, -⟩ := cells7 h
  rcases (by omega : j = 0 ∨ j = 1 ∨ j = 2 ∨ j = 3 ∨ j = 4 ∨ j = 5) with rfl | rfl | rfl | rfl | rfl | rfl
  · exact c0
  · exact c1
  · exact c2
  · exact c3
  · exact c4
  · exact c5
theorem RowM.txt {w : World} {b : Nat} {m : M} (h : RowM w b m) : Holds w b 6 (.string m.bytes) := ⟨h.lt, (cells7 h).2.2.2.2.2.2⟩
theorem RowM.free {w : World} {b : Nat} {m : M} (h : RowM w b m) (j : Nat) : w.frozen? ⟨b, j, none⟩ = false := frozen_of_row _ _ _ _ _ h
theorem RowM.set {w : World} {b : Nat} {m : M} (h : RowM w b m) (j : Nat) (hj : j ≤ 5) (v : Int) : RowM (w.setCell ⟨b, j, none⟩ (.int .i64 v)) b (m.set j v) := by
  unfold RowM
  rw [heap_setCell_same _ _ _ _ _ _ h]
  rcases (by omega : j = 0 ∨ j = 1 ∨ j = 2 ∨ j = 3 ∨ j = 4 ∨ j = 5) with rfl | rfl | rfl | rfl | rfl | rfl <;> rfl
theorem RowM.setB {w : World} {b : Nat} {m : M} (h : RowM w b m) (s : ByteArray) : RowM (w.setCell ⟨b, 6, none⟩ (.string s)) b (m.setB s) := by
  unfold RowM
  rw [heap_setCell_same _ _ _ _ _ _ h]; rfl

theorem dropDrew {B : Nat} {w w' : World} (h : Below B w.drew w') : Below B w w' := ⟨h.os, h.tape, h.output, h.size, h.block⟩

theorem nempty_any (b j z : Nat) (m : M) (hj : j ≤ 5) (w : World) (h : RowM w b m) :
    Calls Try.prog 62 #[nv b j z] w fun e w' => e = .returned (.tuple #[]) ∧ RowM w' b (m.set j 0) ∧ Oct.Touch b w w' := by
  have hB := (Below.refl w.heap.size w).alloc (Nat.le_refl _) (.cells #[.pointer (some ⟨b, j, none⟩), .int .i64 (z : Nat)] 75)
  have h' := h.below hB h.lt
  have hc := (h'.num j hj).2
  have hf := h'.free j
  have HS := Lib.hid (h'.set j hj 0)
  have HB := Lib.hid hB
  clear hB h h'
  go_enter Try.func62, Try.ntmps62
  go_wp2_with fail
  go_end0
  exact ⟨rfl, HS.out, (Oct.Touch.below HB.out).trans (Oct.Touch.set _ _ _ _)⟩

theorem tempty_any (b s l : Nat) (m : M) (w : World) (h : RowM w b m) :
    Calls Try.prog 66 #[xv b s l] w fun e w' => e = .returned (.tuple #[]) ∧ RowM w' b (m.setB ⟨#[]⟩) ∧ Oct.Touch b w w' := by
  have hB := (Below.refl w.heap.size w).alloc (Nat.le_refl _) (.cells #[.pointer (some ⟨b, 6, none⟩), .int .i64 (s : Nat), .int .i64 (l : Nat)] 78)
  have h' := h.below hB h.lt
  have hc := h'.txt.2
  have hf := h'.free 6
  have HS := Lib.hid (h'.setB ⟨#[]⟩)
  have HB := Lib.hid hB
  clear hB h h'
  go_enter Try.func66, Try.ntmps66
  go_wp2_with fail
  go_end0
  exact ⟨rfl, HS.out, (Oct.Touch.below HB.out).trans (Oct.Touch.set _ _ _ _)⟩

theorem tput_any (b s l : Nat) (m : M) (y : ByteArray) (w : World) (h : RowM w b m) (hs : m.bytes.size ≤ 4000) (hy : y.size ≤ 4000) :
    Calls Try.prog 67 #[xv b s l, .string y] w fun e w' => e = .returned (.string (y ++ m.bytes)) ∧ Below w.heap.size w w' := by
  have hB := (Below.refl w.heap.size w).alloc (Nat.le_refl _) (.cells #[.pointer (some ⟨b, 6, none⟩), .int .i64 (s : Nat), .int .i64 (l : Nat)] 78)
  have h' := h.below hB h.lt
  have hc := h'.txt.2
  have HB := Lib.hid hB
  clear hB h h'
  go_enter Try.func67, Try.ntmps67
  go_wp2_with fail
  go_ret
  exact ⟨rfl, HB.out⟩

theorem nput_any (b j z : Nat) (m : M) (y : ByteArray) (hj : j ≤ 5) (hz : z ≤ 8) (w : World) (h : RowM w b m) (hy : y.size ≤ 4000) :
    Calls Try.prog 63 #[nv b j z, .string y] w fun e w' => e = .returned (.string (y ++ ⟨(Oct.be (Oct.nat64 (m.get j)) z).toArray⟩)) ∧ Below w.heap.size w w' := by
  have hB := (Below.refl w.heap.size w).alloc (Nat.le_refl _) (.cells #[.pointer (some ⟨b, j, none⟩), .int .i64 (z : Nat)] 75)
  have h' := h.below hB h.lt
  have hc := (h'.num j hj).2
  have HB := Lib.hid hB
  have CP := Lib.hid (fun w => Oct.putInt_any y (m.get j) z w (by omega))
  rw [show Oct.held (z : Nat) = z by unfold Oct.held; omega] at CP
  clear hB h h'
  go_enter Try.func63, Try.ntmps63
  go_wp2_with fail
  go_region_with (go_at_call 19; refine (CP.out _).mono ?_; rintro e w1 ⟨rfl, h1⟩)
  all_goals (
    go_wp2_with fail
    go_ret
    exact ⟨rfl, HB.out.trans (dropDrew (h1.mono (by simp)))⟩)

theorem hi2n (v0 v1 : Value) : (Try.prog.info? 75).map (·.size) = some (#[v0, v1] : Array Value).size := by
  show _ = some 2
  kernel_rfl
/-- behind a read -/
def RdEnd (b cb : Nat) (m : M) (left : ByteArray) (fail : Int) (w : World) (e : Ending) (w' : World) : Prop :=
  e = .returned (.tuple #[]) ∧ RowM w' b m ∧ Oct.CutAt w' cb left fail ∧ Touch2 b cb w w'

set_option maxHeartbeats 2000000 in
theorem nread_any (b j z cb : Nat) (m : M) (left : ByteArray) (fail : Int) (hj : j ≤ 5) (hz : z ≤ 8) (w : World) (h : RowM w b m) (hl : left.size ≤ 4000) (hc : Oct.CutAt w cb left fail) (hne : b ≠ cb) :
    Calls Try.prog 64 #[nv b j z, .pointer (some ⟨cb, 0, none⟩)] w
      (RdEnd b cb (m.set j (wrap64 (Oct.whole (Oct.gotOf left (Oct.fell1 fail z) z)))) (Oct.stayOf left (Oct.fell1 fail z) z) (Oct.fellOf left (Oct.fell1 fail z) z) w) := by
  have hB := (Below.refl w.heap.size w).alloc (Nat.le_refl _) (.cells #[.pointer (some ⟨b, j, none⟩), .int .i64 (z : Nat)] 75)
  have h' := h.below hB h.lt
  have hC' := hc.below hB hc.lt
  have HB := Lib.hid hB
  have HR := Lib.hid h'
  have HC := Lib.hid hC'
  have LT := Lib.hid h.lt
  have LC := Lib.hid hc.lt
  have NB := Lib.hid (show (w.alloc (.cells #[.pointer (some ⟨b, j, none⟩), .int .i64 (z : Nat)] 75)).cell? ⟨w.heap.size, 0, none⟩ = some (.pointer (some ⟨b, j, none⟩)) from (cell_of_row _ _ _ _ _ _ (heap_alloc_new w _)).trans rfl)
  clear hB h h' hc hC'
  go_enter Try.func64, Try.ntmps64
  go_wp2_with fail
  go_region_with (go_at_call 24; refine (Oct.num_any cb left fail z _ hl (by exact HC.out.of_block rfl)).mono ?_; rintro e w1 ⟨rfl, h1, h2⟩; have r1 : RowM w1 b m := HR.out.of_block (h2.block b (by have := LT.out; simp; omega) hne); have f1 := r1.free j; have c1 := (r1.num j hj).2; have c0 : w1.cell? ⟨w.heap.size, 0, none⟩ = some (.pointer (some ⟨b, j, none⟩)) := (World.cell?_of_block (w := w.alloc (.cells #[.pointer (some ⟨b, j, none⟩), .int .i64 (z : Nat)] 75)) (h2.block w.heap.size (by simp) (by have := LC.out; omega))).trans NB.out)
  all_goals (
    go_end0
    exact ⟨rfl, r1.set j hj _, h1.of_block (Below.heap_setCell _ _ _ _ (fun e => hne e.symm)), (Touch2.below (Lib.hid (belowN HB.out 1)).out).trans ((Touch2.right h2).trans (Touch2.left (Oct.Touch.set _ _ _ _)))⟩)

set_option maxHeartbeats 2000000 in
theorem tread_any (b s l cb : Nat) (m : M) (left : ByteArray) (fail : Int) (hl1 : l ≤ 100) (hs1 : s ≤ 100) (w : World) (h : RowM w b m) (hl : left.size ≤ 4000) (hc : Oct.CutAt w cb left fail) (hne : b ≠ cb) :
    Calls Try.prog 68 #[xv b s l, .pointer (some ⟨cb, 0, none⟩)] w
      (RdEnd b cb (m.setB (Oct.gotOf left fail (size1 s l left.size : Nat))) (Oct.stayOf left fail (size1 s l left.size : Nat)) (Oct.fellOf left fail (size1 s l left.size : Nat)) w) := by
  have hB := (Below.refl w.heap.size w).alloc (Nat.le_refl _) (.cells #[.pointer (some ⟨b, 6, none⟩), .int .i64 (s : Nat), .int .i64 (l : Nat)] 78)
  have h' := h.below hB h.lt
  have hC' := hc.below hB hc.lt
  have HB := Lib.hid hB
  have HR := Lib.hid h'
  have HC := Lib.hid hC'
  have LT := Lib.hid h.lt
  have LC := Lib.hid hc.lt
  have KB := Lib.hid (heap_alloc_new w (.cells #[.pointer (some ⟨b, 6, none⟩), .int .i64 (s : Nat), .int .i64 (l : Nat)] 78))
  have CS := Lib.hid (fun w => tsize_any b s l left.size w hl1 hs1)
  have GS := Lib.hid (show (Oct.gotOf left fail (size1 s l left.size : Nat)).size ≤ 100000 from Nat.le_trans (Oct.got_size _ _ _) (by omega))
  clear hB h h' hc hC'
  go_enter Try.func68, Try.ntmps68
  go_wp2_with fail
  go_region_with (first
    | (go_at_call 43; refine (Oct.left_any cb left _ hl (by exact (HC.out.of_block rfl).c0)).mono ?_; rintro e w1 ⟨rfl, rfl⟩)
    | (go_at_call 70; refine (CS.out _).mono ?_; rintro e w2 ⟨rfl, h2⟩; have B2 := Lib.hid h2; have x2 : w2.cell? ⟨w.heap.size, 0, none⟩ = some (.pointer (some ⟨b, 6, none⟩)) := (cell_of_row _ _ _ _ _ _ ((h2.block w.heap.size (by simp)).trans KB.out)).trans rfl; clear h2)
    | (go_at_call 37; refine (Oct.bytes_any cb left fail _ _ hl (by exact HC.out.of_block (B2.out.block cb (by have := LC.out; simp; omega)))).mono ?_; rintro e w3 ⟨rfl, h3, t3⟩; have C3 := Lib.hid h3; have T3 := Lib.hid t3; have x3 : w3.cell? ⟨w.heap.size, 0, none⟩ = some (.pointer (some ⟨b, 6, none⟩)) := (World.cell?_of_block (w := w2) (T3.out.block w.heap.size (by have := B2.out.size; simp at this; omega) (by have := LC.out; omega))).trans x2; clear h3 t3)
    | (go_at_call 33; refine (Opt.clone_any _ _ GS.out).mono ?_; rintro e w4 ⟨rfl, h4⟩; have r4 : RowM w4 b m := HR.out.of_block (((h4.block b (by have := T3.out.size; have := B2.out.size; have := LT.out; simp at *; omega)).trans (T3.out.block b (by have := B2.out.size; have := LT.out; simp at *; omega) hne)).trans (B2.out.block b (by have := LT.out; simp; omega))); have f4 := r4.free 6; have c4 := r4.txt.2; have x4 : w4.cell? ⟨w.heap.size, 0, none⟩ = some (.pointer (some ⟨b, 6, none⟩)) := (h4.cell (p := ⟨w.heap.size, 0, none⟩) (by have := T3.out.size; have := B2.out.size; simp at *; omega)).trans x3))
  all_goals (
    go_end0
    exact ⟨rfl, r4.setB _, (C3.out.below h4 C3.out.lt).of_block (Below.heap_setCell _ _ _ _ (fun e => hne e.symm)), (Touch2.below (Lib.hid (belowN HB.out 1)).out).trans ((Touch2.below (B2.out)).trans ((Touch2.right T3.out).trans ((Touch2.below h4).trans (Touch2.left (Oct.Touch.set _ _ _ _)))))⟩)
end Go.Proofs.Ytmkngolkflihlaa.Mp
