/- The law's own yield, which counts, and looks at what it is told. -/
import Derived.Test.YtdnddhnnpplgjaaAvecArg
import Derived.StillTailTactics
namespace Go.Proofs.Ytdnddhnnpplgjaa.Avec
open Go.ChangeShapes Go.WideShapes Go.ChangeAt Go.RowKit
set_option linter.unusedVariables false

/-- whatever lay, but for two variables, lies as it lay -/
structure Kept (A B : Nat) (w w' : World) : Prop where
  os : w'.os = w.os
  tape : w'.tape = w.tape
  output : w'.output = w.output
  size : w.heap.size ≤ w'.heap.size
  block : ∀ k, k < w.heap.size → k ≠ A → k ≠ B → w'.heap[k]? = w.heap[k]?
theorem Kept.refl (A B : Nat) (w : World) : Kept A B w w := ⟨rfl, rfl, rfl, Nat.le_refl _, fun _ _ _ _ => rfl⟩
theorem Kept.trans {A B : Nat} {w w1 w2 : World} (h : Kept A B w w1) (k : Kept A B w1 w2) : Kept A B w w2 :=
  ⟨k.os.trans h.os, k.tape.trans h.tape, k.output.trans h.output, Nat.le_trans h.size k.size, fun j hj hA hB => (k.block j (Nat.lt_of_lt_of_le hj h.size) hA hB).trans (h.block j hj hA hB)⟩
theorem Kept.of_below {A B : Nat} {w w' : World} (h : Below w.heap.size w w') : Kept A B w w' := ⟨h.os, h.tape, h.output, h.size, fun k hk _ _ => h.block k hk⟩
theorem Kept.setA (A B : Nat) (w : World) (v : Value) : Kept A B w (w.setCell ⟨A, 0, none⟩ v) := by
  have h := grownBy_setCell' w A v
  exact ⟨h.os, h.tape, h.output, h.size, fun k hk hA _ => h.block k hk (fun e => hA (by cases e; rfl))⟩
theorem Kept.setB (A B : Nat) (w : World) (v : Value) : Kept A B w (w.setCell ⟨B, 0, none⟩ v) := by
  have h := grownBy_setCell' w B v
  exact ⟨h.os, h.tape, h.output, h.size, fun k hk _ hB => h.block k hk (fun e => hB (by cases e; rfl))⟩
theorem Kept.cell {A B : Nat} {w w' : World} (h : Kept A B w w') {k off : Nat} {v : Value} (hk : k < w.heap.size) (hA : k ≠ A) (hB : k ≠ B) (hc : w.cell? ⟨k, off, none⟩ = some v) : w'.cell? ⟨k, off, none⟩ = some v :=
  (World.cell?_of_block (a := ⟨k, off, none⟩) (h.block k hk hA hB)).trans hc

/-- what the yield reads -/
structure Reads (A B Bw Bf Bm : Nat) (from' most : Int) (aw : Option Addr) (sts : List Int) (cap : Nat) (w : World) : Prop where
  lw : Bw < w.heap.size
  lf : Bf < w.heap.size
  lm : Bm < w.heap.size
  cw : w.cell? ⟨Bw, 0, none⟩ = some (.slice aw sts.length cap)
  cf : w.cell? ⟨Bf, 0, none⟩ = some (.int .i64 from')
  cm : w.cell? ⟨Bm, 0, none⟩ = some (.int .i64 most)
  row : IntsIn w aw sts
  apart : ∀ b off, aw = some ⟨b, off, none⟩ → b ≠ A ∧ b ≠ B
theorem Reads.kept {A B Bw Bf Bm : Nat} {from' most : Int} {aw : Option Addr} {sts : List Int} {cap : Nat} {w w' : World} (h : Reads A B Bw Bf Bm from' most aw sts cap w) (k : Kept A B w w')
    (n1 : Bw ≠ A ∧ Bw ≠ B) (n2 : Bf ≠ A ∧ Bf ≠ B) (n3 : Bm ≠ A ∧ Bm ≠ B) : Reads A B Bw Bf Bm from' most aw sts cap w' := by
  refine ⟨Nat.lt_of_lt_of_le h.lw k.size, Nat.lt_of_lt_of_le h.lf k.size, Nat.lt_of_lt_of_le h.lm k.size, k.cell h.lw n1.1 n1.2 h.cw, k.cell h.lf n2.1 n2.2 h.cf, k.cell h.lm n3.1 n3.2 h.cm, ?_, h.apart⟩
  rcases h.row with e | ⟨b, off, rfl, h1, h2⟩
  · exact .inl e
  · obtain ⟨hA, hB⟩ := h.apart b off rfl
    exact .inr ⟨b, off, rfl, Nat.lt_of_lt_of_le h1 k.size, fun i x hi => k.cell h1 hA hB (h2 i x hi)⟩

theorem wrap_eq (x : Int) : IntKind.i64.wrap x = wrap64 x := by rw [IntKind.wrap_i64]; unfold wrap64; omega

/-- a drawn region whose operations but for the last ones only read: the world under a name -/
theorem still_tail {P : Program} {id : Nat} {Q : Exit → Act → World → Prop} {a : Act} {w : World} {l : List Oper} (n : Nat) (hm : P.follows .mixedOrders = true) (hB : Region.lexTailB .any l.toArray n = true)
    (h : ∀ w2, Below w.heap.size w w2 → wpStill P l.toArray w2 (fun a' => wpList P l.toArray Q (l.drop n) a' w2) (l.take n) a) : (Code.region id l.toArray true).wp P Q a w :=
  wp_region_still_tail n hm hB (h w.drew (Below.refl _ _).drew)

set_option maxRecDepth 100000 in
set_option maxHeartbeats 1000000 in
theorem law1_any (A B Bw Bf Bm : Nat) (from' most : Int) (aw : Option Addr) (sts : List Int) (cap : Nat) (hsl : sts.length ≤ 400000) (hAB : A ≠ B) (n1 : Bw ≠ A ∧ Bw ≠ B) (n2 : Bf ≠ A ∧ Bf ≠ B) (n3 : Bm ≠ A ∧ Bm ≠ B)
    (w : World) (hr : Reads A B Bw Bf Bm from' most aw sts cap w) (k : Nat) (hA : Boxed w A 4 (.bool true)) (hB : Boxed w B 3 (.int .i64 k)) (x : Int) (hx : sts[k]? = some x) :
    Calls Try.prog 20 #[.int .i64 (seqOf (from' - k)), .int .i64 x, .pointer (some ⟨A, 0, none⟩), .pointer (some ⟨B, 0, none⟩), .pointer (some ⟨Bw, 0, none⟩), .pointer (some ⟨Bf, 0, none⟩), .pointer (some ⟨Bm, 0, none⟩)] w fun e w' =>
      e = .returned (.bool (decide (((k + 1 : Nat) : Int) < most))) ∧ Boxed w' A 4 (.bool true) ∧ Boxed w' B 3 (.int .i64 ((k + 1 : Nat) : Int)) ∧ Kept A B w w' := by
  have hk : k < sts.length := (List.getElem?_eq_some_iff.1 hx).1
  obtain ⟨b, off, rfl, hb0, hc0⟩ := hr.row.cell (Below.refl _ _) hx
  have Hr := Lib.hid hr
  have cA := hA.cell
  have fA := hA.frozen
  have cB := hB.cell
  have cw := hr.cw
  have cf := hr.cf
  have cm := hr.cm
  have Hs2 := Lib.hid (fun w => Circ.refOf_any (wrap64 (Circ.ofc from' - k)) w)
  rw [ofc_from] at Hs2
  have Hs3 := Lib.hid (fun w => Circ.refOf_any (IntKind.i64.wrap (Circ.ofc from' - k)) w)
  rw [show Circ.ofc (IntKind.i64.wrap (Circ.ofc from' - k)) = seqOf (from' - k) by rw [wrap_eq, ofc_from]] at Hs3
  have Hs1 := Lib.hid (fun w => Circ.refOf_any from' w)
  generalize seqOf (from' - k) = s at *
  generalize Circ.ofc from' = F at *
  have HA := Lib.hid hA
  have HB := Lib.hid hB
  clear hr hA hB
  go_enter Try.func20, Try.ntmps20
  go_wp2_with fail
  refine still_tail 24 (by kernel_rfl) (by kernel_rfl) (fun w2 hD => ?_)
  have HA := Lib.hid (boxed_below HA.out hD HA.out.lt)
  have HB := Lib.hid (boxed_below HB.out hD HB.out.lt)
  have Hr := Lib.hid (Hr.out.kept (Kept.of_below hD) n1 n2 n3)
  have HD := Lib.hid hD
  clear cA fA cB cw cf cm hc0
  have cA := HA.out.cell
  have fA := HA.out.frozen
  have cB := HB.out.cell
  have cw := Hr.out.cw
  have cf := Hr.out.cf
  have cm := Hr.out.cm
  have hc0 : w2.cell? ⟨b, off + k, none⟩ = some (.int .i64 x) := by
    obtain ⟨b', off', e, -, hc⟩ := Hr.out.row.cell (Below.refl _ _) hx
    cases e
    exact hc
  clear hD
  simp only [List.take_succ_cons, List.take_zero, List.drop_succ_cons, List.drop_zero]
  repeat still_step
  still_call (Hs1.out _)
  repeat still_step
  first | still_call (Hs3.out _) | still_call (Hs2.out _)
  repeat still_step
  try refine wpStill_nil ?_
  have bB1 := HB.out.other (B' := A) (fun e => hAB e.symm) (.bool true)
  have bA1 := HA.out.set (.bool true)
  have k1 := Kept.setA A B w2 (.bool true)
  have Hr1 := Hr.out.kept k1 n1 n2 n3
  have bB2 := bB1.set (.int .i64 ((k : Int) + 1))
  have bA2 := bA1.other (B' := B) hAB (.int .i64 ((k : Int) + 1))
  have k2 := Kept.setB A B (w2.setCell ⟨A, 0, none⟩ (.bool true)) (.int .i64 ((k : Int) + 1))
  have Hr2 := Hr1.kept k2 n1 n2 n3
  have HE := Lib.hid (And.intro bA2 (And.intro bB2 (((Kept.of_below HD.out).trans k1).trans k2)))
  have cB1 := bB1.cell
  have fB1 := bB1.frozen
  have cB2 := bB2.cell
  have cm2 := Hr2.cm
  have hk1 : (k : Int) < (sts.length : Int) := by omega
  clear bB1 bA1 k1 Hr1 bB2 bA2 k2 Hr2 Hr
  go_wp2_with fail
  go_returns
  exact ⟨rfl, HE.out⟩
end Go.Proofs.Ytdnddhnnpplgjaa.Avec
