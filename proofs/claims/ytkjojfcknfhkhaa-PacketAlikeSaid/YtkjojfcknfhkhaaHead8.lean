/- The program's read: its contract. -/
import Derived.Test.YtkjojfcknfhkhaaHead7
namespace Go.Proofs.Ytkjojfcknfhkhaa.Head
open Go.ChangeShapes Go.WideShapes Go.ChangeAt Go.RowKit
open Go.Proofs.Ytkjojfcknfhkhaa.Oct (num num_lt size_list whole CutAt gotOf stayOf fellOf fell1 doneOf NumEnd ReadEnd num_any rest_any done_any)
set_option linter.unusedVariables false

theorem Box9.free {W : World} {A : Nat} {h : B} (k : Box9 W A h) (j : Nat) : W.frozen? ⟨A, j, none⟩ = false := frozen_of_row _ _ _ _ _ k
theorem Box9.set0 {W : World} {A : Nat} {h : B} (k : Box9 W A h) (v : Int) : Box9 (W.setCell ⟨A, 0, none⟩ (.int .i64 v)) A { h with src := v } := by
  unfold Box9; rw [heap_setCell_same _ _ _ _ _ _ k]; rfl
theorem Box9.set1 {W : World} {A : Nat} {h : B} (k : Box9 W A h) (v : Int) : Box9 (W.setCell ⟨A, 1, none⟩ (.int .i64 v)) A { h with dst := v } := by
  unfold Box9; rw [heap_setCell_same _ _ _ _ _ _ k]; rfl
theorem Box9.set2 {W : World} {A : Nat} {h : B} (k : Box9 W A h) (v : Int) : Box9 (W.setCell ⟨A, 2, none⟩ (.int .i64 v)) A { h with words := v } := by
  unfold Box9; rw [heap_setCell_same _ _ _ _ _ _ k]; rfl
theorem Box9.set3 {W : World} {A : Nat} {h : B} (k : Box9 W A h) (v : Int) : Box9 (W.setCell ⟨A, 3, none⟩ (.int .i64 v)) A { h with cc := v } := by
  unfold Box9; rw [heap_setCell_same _ _ _ _ _ _ k]; rfl
theorem Box9.set4 {W : World} {A : Nat} {h : B} (k : Box9 W A h) (v : Int) : Box9 (W.setCell ⟨A, 4, none⟩ (.int .i64 v)) A { h with cover := v } := by
  unfold Box9; rw [heap_setCell_same _ _ _ _ _ _ k]; rfl
theorem Box9.set5 {W : World} {A : Nat} {h : B} (k : Box9 W A h) (v : Int) : Box9 (W.setCell ⟨A, 5, none⟩ (.int .i64 v)) A { h with sum := v } := by
  unfold Box9; rw [heap_setCell_same _ _ _ _ _ _ k]; rfl
theorem Box9.set6 {W : World} {A : Nat} {h : B} (k : Box9 W A h) (v : Int) : Box9 (W.setCell ⟨A, 6, none⟩ (.int .i64 v)) A { h with kind := v } := by
  unfold Box9; rw [heap_setCell_same _ _ _ _ _ _ k]; rfl
theorem Box9.set7 {W : World} {A : Nat} {h : B} (k : Box9 W A h) (v : Bool) : Box9 (W.setCell ⟨A, 7, none⟩ (.bool v)) A { h with long := v } := by
  unfold Box9; rw [heap_setCell_same _ _ _ _ _ _ k]; rfl
theorem Box9.set8 {W : World} {A : Nat} {h : B} (k : Box9 W A h) (v : Int) : Box9 (W.setCell ⟨A, 8, none⟩ (.int .i64 v)) A { h with seq := v } := by
  unfold Box9; rw [heap_setCell_same _ _ _ _ _ _ k]; rfl

/-- where the reads stand -/
structure RS (w : World) (b : Nat) (s : ByteArray) (a : Nat) (f : Int) (h : B) (W : World) : Prop where
  cut : At W b s a f
  box : Box9 W (w.heap.size + 1) h
  res : Box9 W w.heap.size B.none
  touch : Oct.Touch b w W
  lt : b < w.heap.size

theorem At.of_block {w w' : World} {b a : Nat} {s : ByteArray} {f : Int} (h : At w b s a f) (e : w'.heap[b]? = w.heap[b]?) : At w' b s a f := ⟨h.cut.of_block e, h.le, h.bit⟩

theorem RS.start {w : World} {b : Nat} {s : ByteArray} (h : At w b s 0 0) :
    RS w b s 0 0 B.none ((w.alloc (.cells #[.int .i64 0, .int .i64 0, .int .i64 0, .int .i64 0, .int .i64 0, .int .i64 0, .int .i64 0, .bool false, .int .i64 0] 43)).alloc (.cells #[.int .i64 0, .int .i64 0, .int .i64 0, .int .i64 0, .int .i64 0, .int .i64 0, .int .i64 0, .bool false, .int .i64 0] 43)) := by
  have hl := h.cut.lt
  have b1 := Box9.new w B.none
  have e : ((w.alloc (.cells #[.int .i64 0, .int .i64 0, .int .i64 0, .int .i64 0, .int .i64 0, .int .i64 0, .int .i64 0, .bool false, .int .i64 0] 43)).heap.size) = w.heap.size + 1 := by simp
  have hB := ((Below.refl w.heap.size w).alloc (Nat.le_refl _) (.cells #[.int .i64 0, .int .i64 0, .int .i64 0, .int .i64 0, .int .i64 0, .int .i64 0, .int .i64 0, .bool false, .int .i64 0] 43)).alloc (by simp) (.cells #[.int .i64 0, .int .i64 0, .int .i64 0, .int .i64 0, .int .i64 0, .int .i64 0, .int .i64 0, .bool false, .int .i64 0] 43)
  refine ⟨h.of_block (hB.block b hl), ?_, ?_, Oct.Touch.below hB, hl⟩
  · have b2 := Box9.new (w.alloc (.cells #[.int .i64 0, .int .i64 0, .int .i64 0, .int .i64 0, .int .i64 0, .int .i64 0, .int .i64 0, .bool false, .int .i64 0] 43)) B.none
    rw [e] at b2
    exact b2
  · exact (Below.heap_alloc _ _ _ (by rw [e]; exact Nat.lt_succ_self _)).trans b1

theorem RS.num {w : World} {b : Nat} {s : ByteArray} {a a' : Nat} {f f' : Int} {h : B} {W W' : World} (r : RS w b s a f h W) (k : At W' b s a' f') (t : Oct.Touch b W W') : RS w b s a' f' h W' :=
  ⟨k, (t.block _ r.box.lt (by have := r.lt; omega)).trans r.box, (t.block _ r.res.lt (by have := r.lt; omega)).trans r.res, r.touch.trans t, r.lt⟩

theorem RS.touch_set {w : World} {b : Nat} {s : ByteArray} {a : Nat} {f : Int} {h : B} {W : World} (r : RS w b s a f h W) (j : Nat) (v : Value) : Oct.Touch b w (W.setCell ⟨w.heap.size + 1, j, none⟩ v) :=
  ⟨r.touch.os, r.touch.tape, r.touch.output, by simpa [World.setCell] using r.touch.size, fun k hk hb => (heap_setCell_other _ _ _ _ (by show k ≠ w.heap.size + 1; omega)).trans (r.touch.block k hk hb)⟩
theorem RS.set0 {w : World} {b : Nat} {s : ByteArray} {a : Nat} {f : Int} {h : B} {W : World} (r : RS w b s a f h W) (v : Int) : RS w b s a f { h with src := v } (W.setCell ⟨w.heap.size + 1, 0, none⟩ (.int .i64 v)) :=
  ⟨r.cut.of_block (heap_setCell_other _ _ _ _ (by show b ≠ w.heap.size + 1; have := r.lt; omega)), r.box.set0 v, (heap_setCell_other _ _ _ _ (by show w.heap.size ≠ w.heap.size + 1; omega)).trans r.res, r.touch_set _ _, r.lt⟩
theorem RS.set1 {w : World} {b : Nat} {s : ByteArray} {a : Nat} {f : Int} {h : B} {W : World} (r : RS w b s a f h W) (v : Int) : RS w b s a f { h with dst := v } (W.setCell ⟨w.heap.size + 1, 1, none⟩ (.int .i64 v)) :=
  ⟨r.cut.of_block (heap_setCell_other _ _ _ _ (by show b ≠ w.heap.size + 1; have := r.lt; omega)), r.box.set1 v, (heap_setCell_other _ _ _ _ (by show w.heap.size ≠ w.heap.size + 1; omega)).trans r.res, r.touch_set _ _, r.lt⟩
theorem RS.set2 {w : World} {b : Nat} {s : ByteArray} {a : Nat} {f : Int} {h : B} {W : World} (r : RS w b s a f h W) (v : Int) : RS w b s a f { h with words := v } (W.setCell ⟨w.heap.size + 1, 2, none⟩ (.int .i64 v)) :=
  ⟨r.cut.of_block (heap_setCell_other _ _ _ _ (by show b ≠ w.heap.size + 1; have := r.lt; omega)), r.box.set2 v, (heap_setCell_other _ _ _ _ (by show w.heap.size ≠ w.heap.size + 1; omega)).trans r.res, r.touch_set _ _, r.lt⟩
theorem RS.set3 {w : World} {b : Nat} {s : ByteArray} {a : Nat} {f : Int} {h : B} {W : World} (r : RS w b s a f h W) (v : Int) : RS w b s a f { h with cc := v } (W.setCell ⟨w.heap.size + 1, 3, none⟩ (.int .i64 v)) :=
  ⟨r.cut.of_block (heap_setCell_other _ _ _ _ (by show b ≠ w.heap.size + 1; have := r.lt; omega)), r.box.set3 v, (heap_setCell_other _ _ _ _ (by show w.heap.size ≠ w.heap.size + 1; omega)).trans r.res, r.touch_set _ _, r.lt⟩
theorem RS.set4 {w : World} {b : Nat} {s : ByteArray} {a : Nat} {f : Int} {h : B} {W : World} (r : RS w b s a f h W) (v : Int) : RS w b s a f { h with cover := v } (W.setCell ⟨w.heap.size + 1, 4, none⟩ (.int .i64 v)) :=
  ⟨r.cut.of_block (heap_setCell_other _ _ _ _ (by show b ≠ w.heap.size + 1; have := r.lt; omega)), r.box.set4 v, (heap_setCell_other _ _ _ _ (by show w.heap.size ≠ w.heap.size + 1; omega)).trans r.res, r.touch_set _ _, r.lt⟩
theorem RS.set5 {w : World} {b : Nat} {s : ByteArray} {a : Nat} {f : Int} {h : B} {W : World} (r : RS w b s a f h W) (v : Int) : RS w b s a f { h with sum := v } (W.setCell ⟨w.heap.size + 1, 5, none⟩ (.int .i64 v)) :=
  ⟨r.cut.of_block (heap_setCell_other _ _ _ _ (by show b ≠ w.heap.size + 1; have := r.lt; omega)), r.box.set5 v, (heap_setCell_other _ _ _ _ (by show w.heap.size ≠ w.heap.size + 1; omega)).trans r.res, r.touch_set _ _, r.lt⟩
theorem RS.set6 {w : World} {b : Nat} {s : ByteArray} {a : Nat} {f : Int} {h : B} {W : World} (r : RS w b s a f h W) (v : Int) : RS w b s a f { h with kind := v } (W.setCell ⟨w.heap.size + 1, 6, none⟩ (.int .i64 v)) :=
  ⟨r.cut.of_block (heap_setCell_other _ _ _ _ (by show b ≠ w.heap.size + 1; have := r.lt; omega)), r.box.set6 v, (heap_setCell_other _ _ _ _ (by show w.heap.size ≠ w.heap.size + 1; omega)).trans r.res, r.touch_set _ _, r.lt⟩
theorem RS.set7 {w : World} {b : Nat} {s : ByteArray} {a : Nat} {f : Int} {h : B} {W : World} (r : RS w b s a f h W) (v : Bool) : RS w b s a f { h with long := v } (W.setCell ⟨w.heap.size + 1, 7, none⟩ (.bool v)) :=
  ⟨r.cut.of_block (heap_setCell_other _ _ _ _ (by show b ≠ w.heap.size + 1; have := r.lt; omega)), r.box.set7 v, (heap_setCell_other _ _ _ _ (by show w.heap.size ≠ w.heap.size + 1; omega)).trans r.res, r.touch_set _ _, r.lt⟩
theorem RS.set8 {w : World} {b : Nat} {s : ByteArray} {a : Nat} {f : Int} {h : B} {W : World} (r : RS w b s a f h W) (v : Int) : RS w b s a f { h with seq := v } (W.setCell ⟨w.heap.size + 1, 8, none⟩ (.int .i64 v)) :=
  ⟨r.cut.of_block (heap_setCell_other _ _ _ _ (by show b ≠ w.heap.size + 1; have := r.lt; omega)), r.box.set8 v, (heap_setCell_other _ _ _ _ (by show w.heap.size ≠ w.heap.size + 1; omega)).trans r.res, r.touch_set _ _, r.lt⟩

theorem hi9 (v0 v1 v2 v3 v4 v5 v6 v7 v8 : Value) : (Try.prog.info? 43).map (·.size) = some (#[v0, v1, v2, v3, v4, v5, v6, v7, v8] : Array Value).size := by
  show _ = some 9
  kernel_rfl

theorem hone9 (a b c d f g k : Int) (l : Bool) (q : Int) : (#[.int .i64 a, .int .i64 b, .int .i64 c, .int .i64 d, .int .i64 f, .int .i64 g, .int .i64 k, .bool l, .int .i64 q] : Array Value).all (·.oneCell') = true := by
  simp [Value.oneCell']

/-- a result of several cells, and others in slots -/
theorem results_row1 {P : Program} {fn : Func} {p u : Tmp} {ty : TypeId} (h : fn.results = #[.cell p ty, .tmp u]) (tmps : Array Value) (w : World) (g : Nat) (t : TypeId) (cs : Array Value) (fr : Nat × Nat) (d : TypeDesc)
    (hp : tmps.getD p undef = .pointer (some ⟨g, 0, none⟩)) (hg : w.heap[g]? = some (.cells cs t fr))
    (hu : P.underlying ty = some d) (hd : (match d with | .struct _ | .array _ _ => true | _ => false) = true) (hi : (P.info? ty).map (·.size) = some cs.size) :
    (results fn tmps).run P w = .ok (.tuple #[.agg cs, tmps.getD u undef]) w := by
  have hp' : tmps[p]?.getD undef = .pointer (some ⟨g, 0, none⟩) := by simpa using hp
  simp [results, h, hp', asAddr, run_loadVar_row w g t ty cs fr d hg hu hd hi]
theorem results_row2 {P : Program} {fn : Func} {p u v : Tmp} {ty : TypeId} (h : fn.results = #[.cell p ty, .tmp u, .tmp v]) (tmps : Array Value) (w : World) (g : Nat) (t : TypeId) (cs : Array Value) (fr : Nat × Nat) (d : TypeDesc)
    (hp : tmps.getD p undef = .pointer (some ⟨g, 0, none⟩)) (hg : w.heap[g]? = some (.cells cs t fr))
    (hu : P.underlying ty = some d) (hd : (match d with | .struct _ | .array _ _ => true | _ => false) = true) (hi : (P.info? ty).map (·.size) = some cs.size) :
    (results fn tmps).run P w = .ok (.tuple #[.agg cs, tmps.getD u undef, tmps.getD v undef]) w := by
  have hp' : tmps[p]?.getD undef = .pointer (some ⟨g, 0, none⟩) := by simpa using hp
  simp [results, h, hp', asAddr, run_loadVar_row w g t ty cs fr d hg hu hd hi]

theorem RS.fin {w : World} {b : Nat} {s : ByteArray} {a : Nat} {f : Int} {h : B} {W : World} (r : RS w b s a f h W) (cs : Array Value) : At (W.setRow w.heap.size cs) b s a f ∧ Oct.Touch b w (W.setRow w.heap.size cs) :=
  ⟨r.cut.of_block (setRow_other _ _ _ _ (by have := r.lt; omega)), r.touch.os, r.touch.tape, r.touch.output, by simpa using r.touch.size, fun k hk hb => (setRow_other _ _ _ _ (by omega)).trans (r.touch.block k hk hb)⟩

/-- what is known behind read -/
def HeadEnd (b : Nat) (s : ByteArray) (w : World) (e : Ending) (w' : World) : Prop :=
  ∃ (h : B) (k : Bool) (a : Nat) (f : Int), e = .returned (.tuple #[.agg #[.int .i64 h.src, .int .i64 h.dst, .int .i64 h.words, .int .i64 h.cc, .int .i64 h.cover, .int .i64 h.sum, .int .i64 h.kind, .bool h.long, .int .i64 h.seq], .bool k]) ∧ ReadOk s h k a f ∧ At w' b s a f ∧ Oct.Touch b w w'

set_option maxRecDepth 100000 in
set_option maxHeartbeats 4000000 in
theorem read_any (b : Nat) (s : ByteArray) (hs : s.size ≤ 4000) (w : World) (hc : At w b s 0 0) :
    Calls Try.prog 71 #[.pointer (some ⟨b, 0, none⟩)] w (HeadEnd b s w) := by
  have R0 := RS.start hc
  clear hc
  go_enter Try.func71, Try.ntmps71
  go_wp2_with fail
  refine (num_stp b s 0 2 0 2 rfl (by decide) hs _ R0.cut).mono ?_
  rintro e w1 ⟨a1, f1, v1, rfl, s1, q1, t1⟩
  have R1 := R0.num q1 t1
  have m1 := s1.lt
  simp only [Nat.reducePow] at m1
  clear R0 q1 t1
  obtain ⟨c0, c1, c2, c3, c4, c5, c6, c7, c8⟩ := R1.box.cell
  have z0 := R1.box.free 0; have z1 := R1.box.free 1; have z2 := R1.box.free 2; have z3 := R1.box.free 3; have z4 := R1.box.free 4; have z5 := R1.box.free 5; have z6 := R1.box.free 6; have z7 := R1.box.free 7; have z8 := R1.box.free 8
  dsimp only [B.none] at c0 c1 c2 c3 c4 c5 c6 c7 c8
  go_wp2_with fail
  clear c0 c1 c2 c3 c4 c5 c6 c7 c8 z0 z1 z2 z3 z4 z5 z6 z7 z8
  have R2 := R1.set0 v1
  clear R1
  refine (num_stp b s a1 2 f1 2 rfl (by decide) hs _ R2.cut).mono ?_
  rintro e w2 ⟨a2, f2, v2, rfl, s2, q2, t2⟩
  have R3 := R2.num q2 t2
  have m2 := s2.lt
  simp only [Nat.reducePow] at m2
  clear R2 q2 t2
  obtain ⟨c0, c1, c2, c3, c4, c5, c6, c7, c8⟩ := R3.box.cell
  have z0 := R3.box.free 0; have z1 := R3.box.free 1; have z2 := R3.box.free 2; have z3 := R3.box.free 3; have z4 := R3.box.free 4; have z5 := R3.box.free 5; have z6 := R3.box.free 6; have z7 := R3.box.free 7; have z8 := R3.box.free 8
  dsimp only [B.none] at c0 c1 c2 c3 c4 c5 c6 c7 c8
  go_wp2_with fail
  clear c0 c1 c2 c3 c4 c5 c6 c7 c8 z0 z1 z2 z3 z4 z5 z6 z7 z8
  have R4 := R3.set1 v2
  clear R3
  refine (num_stp b s a2 1 f2 1 rfl (by decide) hs _ R4.cut).mono ?_
  rintro e w3 ⟨a3, f3, v3, rfl, s3, q3, t3⟩
  have R5 := R4.num q3 t3
  have m3 := s3.lt
  simp only [Nat.reducePow] at m3
  clear R4 q3 t3
  obtain ⟨c0, c1, c2, c3, c4, c5, c6, c7, c8⟩ := R5.box.cell
  have z0 := R5.box.free 0; have z1 := R5.box.free 1; have z2 := R5.box.free 2; have z3 := R5.box.free 3; have z4 := R5.box.free 4; have z5 := R5.box.free 5; have z6 := R5.box.free 6; have z7 := R5.box.free 7; have z8 := R5.box.free 8
  dsimp only [B.none] at c0 c1 c2 c3 c4 c5 c6 c7 c8
  go_wp2_with fail
  clear c0 c1 c2 c3 c4 c5 c6 c7 c8 z0 z1 z2 z3 z4 z5 z6 z7 z8
  have R6 := R5.set2 v3
  clear R5
  refine (num_stp b s a3 1 f3 1 rfl (by decide) hs _ R6.cut).mono ?_
  rintro e w4 ⟨a4, f4, v4, rfl, s4, q4, t4⟩
  have R7 := R6.num q4 t4
  have m4 := s4.lt
  simp only [Nat.reducePow] at m4
  clear R6 q4 t4
  obtain ⟨c0, c1, c2, c3, c4, c5, c6, c7, c8⟩ := R7.box.cell
  have z0 := R7.box.free 0; have z1 := R7.box.free 1; have z2 := R7.box.free 2; have z3 := R7.box.free 3; have z4 := R7.box.free 4; have z5 := R7.box.free 5; have z6 := R7.box.free 6; have z7 := R7.box.free 7; have z8 := R7.box.free 8
  dsimp only [B.none] at c0 c1 c2 c3 c4 c5 c6 c7 c8
  go_wp2_with fail
  clear c0 c1 c2 c3 c4 c5 c6 c7 c8 z0 z1 z2 z3 z4 z5 z6 z7 z8
  have R8 := (R7.set3 (v4 / 16)).set4 (v4 % 16)
  clear R7
  refine (num_stp b s a4 2 f4 2 rfl (by decide) hs _ R8.cut).mono ?_
  rintro e w5 ⟨a5, f5, v5, rfl, s5, q5, t5⟩
  have R9 := R8.num q5 t5
  have m5 := s5.lt
  simp only [Nat.reducePow] at m5
  clear R8 q5 t5
  obtain ⟨c0, c1, c2, c3, c4, c5, c6, c7, c8⟩ := R9.box.cell
  have z0 := R9.box.free 0; have z1 := R9.box.free 1; have z2 := R9.box.free 2; have z3 := R9.box.free 3; have z4 := R9.box.free 4; have z5 := R9.box.free 5; have z6 := R9.box.free 6; have z7 := R9.box.free 7; have z8 := R9.box.free 8
  dsimp only [B.none] at c0 c1 c2 c3 c4 c5 c6 c7 c8
  go_wp2_with fail
  clear c0 c1 c2 c3 c4 c5 c6 c7 c8 z0 z1 z2 z3 z4 z5 z6 z7 z8
  have R10 := R9.set5 v5
  clear R9
  refine (num_stp b s a5 1 f5 1 rfl (by decide) hs _ R10.cut).mono ?_
  rintro e w6 ⟨a6, f6, v6, rfl, s6, q6, t6⟩
  have R11 := R10.num q6 t6
  have m6 := s6.lt
  simp only [Nat.reducePow] at m6
  clear R10 q6 t6
  obtain ⟨c0, c1, c2, c3, c4, c5, c6, c7, c8⟩ := R11.box.cell
  have z0 := R11.box.free 0; have z1 := R11.box.free 1; have z2 := R11.box.free 2; have z3 := R11.box.free 3; have z4 := R11.box.free 4; have z5 := R11.box.free 5; have z6 := R11.box.free 6; have z7 := R11.box.free 7; have z8 := R11.box.free 8
  dsimp only [B.none] at c0 c1 c2 c3 c4 c5 c6 c7 c8
  by_cases hl : v6 % 2 = 1
  · have hlb : (v6 % 2 == 1) = true := by simpa using hl
    have Hl := Lib.hid hl
    clear hl
    go_wp2_with fail
    clear c0 c1 c2 c3 c4 c5 c6 c7 c8 z0 z1 z2 z3 z4 z5 z6 z7 z8
    have R12 := (R11.set6 (v6 / 2)).set7 true
    clear R11
    refine (num_stp b s a6 1 f6 1 rfl (by decide) hs _ R12.cut).mono ?_
    rintro e w7 ⟨a7, f7, v7, rfl, s7, q7, t7⟩
    have R13 := R12.num q7 t7
    have m7 := s7.lt
    simp only [Nat.reducePow] at m7
    clear R12 q7 t7
    obtain ⟨c0, c1, c2, c3, c4, c5, c6, c7, c8⟩ := R13.box.cell
    have z0 := R13.box.free 0; have z1 := R13.box.free 1; have z2 := R13.box.free 2; have z3 := R13.box.free 3; have z4 := R13.box.free 4; have z5 := R13.box.free 5; have z6 := R13.box.free 6; have z7 := R13.box.free 7; have z8 := R13.box.free 8
    dsimp only [B.none] at c0 c1 c2 c3 c4 c5 c6 c7 c8
    go_wp2_with fail
    clear c0 c1 c2 c3 c4 c5 c6 c7 c8 z0 z1 z2 z3 z4 z5 z6 z7 z8
    refine (num_stp b s a7 6 f7 6 rfl (by decide) hs _ R13.cut).mono ?_
    rintro e w8 ⟨a8, f8, v8, rfl, s8, q8, t8⟩
    have R14 := R13.num q8 t8
    have m8 := s8.lt
    simp only [Nat.reducePow] at m8
    clear R13 q8 t8
    obtain ⟨c0, c1, c2, c3, c4, c5, c6, c7, c8⟩ := R14.box.cell
    have z0 := R14.box.free 0; have z1 := R14.box.free 1; have z2 := R14.box.free 2; have z3 := R14.box.free 3; have z4 := R14.box.free 4; have z5 := R14.box.free 5; have z6 := R14.box.free 6; have z7 := R14.box.free 7; have z8 := R14.box.free 8
    dsimp only [B.none] at c0 c1 c2 c3 c4 c5 c6 c7 c8
    have L := Lib.hid (read_long s1 s2 s3 s4 s5 s6 Hl.out s7 s8)
    have R15 := R14.set8 v8
    by_cases h32 : v6 < 32
    · go_wp2_with (first
        | refine wpList_load_row rfl 43 _ rfl (w.heap.size + 1) rfl 43 _ _ _ R15.box Try.underlying43 rfl (hi9 _ _ _ _ _ _ _ _ _) ?_
        | refine wpList_store_row rfl 43 _ _ rfl w.heap.size _ rfl rfl 43 _ R15.res (hi9 _ _ _ _ _ _ _ _ _) rfl (hone9 _ _ _ _ _ _ _ _ _) ?_)
      (try simp only [Exit.inBlock, Exit.then])
      refine bodyPost_ret (results_row1 Try.results71 _ _ w.heap.size 43 _ (0, 0) _ rfl (setRow_heap _ _ _ _ _ _ R15.res) Try.underlying43 rfl (hi9 _ _ _ _ _ _ _ _ _)) rfl ?_
      exact ⟨_, _, _, _, by rw [show decide (v6 < 32) = true from decide_eq_true h32, Bool.true_and]; rfl, L.out, (R15.fin _).1, (R15.fin _).2⟩
    · go_wp2_with (first
        | refine wpList_load_row rfl 43 _ rfl (w.heap.size + 1) rfl 43 _ _ _ R15.box Try.underlying43 rfl (hi9 _ _ _ _ _ _ _ _ _) ?_
        | refine wpList_store_row rfl 43 _ _ rfl w.heap.size _ rfl rfl 43 _ R15.res (hi9 _ _ _ _ _ _ _ _ _) rfl (hone9 _ _ _ _ _ _ _ _ _) ?_)
      (try simp only [Exit.inBlock, Exit.then])
      refine bodyPost_ret (results_row1 Try.results71 _ _ w.heap.size 43 _ (0, 0) _ rfl (setRow_heap _ _ _ _ _ _ R15.res) Try.underlying43 rfl (hi9 _ _ _ _ _ _ _ _ _)) rfl ?_
      exact ⟨_, _, _, _, by rw [show decide (v6 < 32) = false from decide_eq_false (by omega), Bool.false_and]; rfl, L.out, (R15.fin _).1, (R15.fin _).2⟩
  · have hlb : (v6 % 2 == 1) = false := by simpa using hl
    have Hl := Lib.hid hl
    clear hl
    go_wp2_with fail
    clear c0 c1 c2 c3 c4 c5 c6 c7 c8 z0 z1 z2 z3 z4 z5 z6 z7 z8
    have R12 := (R11.set6 (v6 / 2)).set7 false
    clear R11
    refine (num_stp b s a6 3 f6 3 rfl (by decide) hs _ R12.cut).mono ?_
    rintro e w7 ⟨a7, f7, v7, rfl, s7, q7, t7⟩
    have R13 := R12.num q7 t7
    have m7 := s7.lt
    simp only [Nat.reducePow] at m7
    clear R12 q7 t7
    obtain ⟨c0, c1, c2, c3, c4, c5, c6, c7, c8⟩ := R13.box.cell
    have z0 := R13.box.free 0; have z1 := R13.box.free 1; have z2 := R13.box.free 2; have z3 := R13.box.free 3; have z4 := R13.box.free 4; have z5 := R13.box.free 5; have z6 := R13.box.free 6; have z7 := R13.box.free 7; have z8 := R13.box.free 8
    dsimp only [B.none] at c0 c1 c2 c3 c4 c5 c6 c7 c8
    have L := Lib.hid (read_short s1 s2 s3 s4 s5 s6 Hl.out s7)
    have R14 := R13.set8 v7
    by_cases h32 : v6 < 32
    · go_wp2_with (first
        | refine wpList_load_row rfl 43 _ rfl (w.heap.size + 1) rfl 43 _ _ _ R14.box Try.underlying43 rfl (hi9 _ _ _ _ _ _ _ _ _) ?_
        | refine wpList_store_row rfl 43 _ _ rfl w.heap.size _ rfl rfl 43 _ R14.res (hi9 _ _ _ _ _ _ _ _ _) rfl (hone9 _ _ _ _ _ _ _ _ _) ?_)
      (try simp only [Exit.inBlock, Exit.then])
      refine bodyPost_ret (results_row1 Try.results71 _ _ w.heap.size 43 _ (0, 0) _ rfl (setRow_heap _ _ _ _ _ _ R14.res) Try.underlying43 rfl (hi9 _ _ _ _ _ _ _ _ _)) rfl ?_
      exact ⟨_, _, _, _, by rw [show decide (v6 < 32) = true from decide_eq_true h32]; rfl, L.out, (R14.fin _).1, (R14.fin _).2⟩
    · go_wp2_with (first
        | refine wpList_load_row rfl 43 _ rfl (w.heap.size + 1) rfl 43 _ _ _ R14.box Try.underlying43 rfl (hi9 _ _ _ _ _ _ _ _ _) ?_
        | refine wpList_store_row rfl 43 _ _ rfl w.heap.size _ rfl rfl 43 _ R14.res (hi9 _ _ _ _ _ _ _ _ _) rfl (hone9 _ _ _ _ _ _ _ _ _) ?_)
      (try simp only [Exit.inBlock, Exit.then])
      refine bodyPost_ret (results_row1 Try.results71 _ _ w.heap.size 43 _ (0, 0) _ rfl (setRow_heap _ _ _ _ _ _ R14.res) Try.underlying43 rfl (hi9 _ _ _ _ _ _ _ _ _)) rfl ?_
      exact ⟨_, _, _, _, by rw [show decide (v6 < 32) = false from decide_eq_false (by omega)]; rfl, L.out, (R14.fin _).1, (R14.fin _).2⟩
end Go.Proofs.Ytkjojfcknfhkhaa.Head
