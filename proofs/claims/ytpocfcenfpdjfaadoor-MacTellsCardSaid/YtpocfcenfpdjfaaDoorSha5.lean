/- A State that takes bytes more: the contract of the program's Add. -/
import Derived.Test.YtpocfcenfpdjfaaDoorSha4
import Derived.Deep.DeepCutAuto
import Derived.Deep.RegionWith
namespace Go.Proofs.YtpocfcenfpdjfaaDoor.Sha
open Go.ChangeShapes Go.WideShapes Go.ChangeAt Go.RowKit
set_option linter.unusedVariables false

/-- all blocks but one are as they were -/
def Turned (b : Nat) (w w' : World) : Prop := Below 0 w w' ∧ ∀ k, k < w.heap.size → k ≠ b → w'.heap[k]? = w.heap[k]?
theorem Turned.refl (b : Nat) (w : World) : Turned b w w := ⟨Below.refl _ _, fun _ _ _ => rfl⟩
theorem Turned.trans {b : Nat} {u v w : World} (h : Turned b u v) (h' : Turned b v w) : Turned b u w :=
  ⟨h.1.trans h'.1, fun k hk hb => (h'.2 k (Nat.lt_of_lt_of_le hk h.1.size) hb).trans (h.2 k hk hb)⟩
theorem Turned.of_below {b : Nat} {w w' : World} (h : Below w.heap.size w w') : Turned b w w' := ⟨h.mono (Nat.zero_le _), fun k hk _ => h.block k hk⟩
theorem Turned.below {b n : Nat} {w w' : World} (h : Turned b w w') (hb : n ≤ b) (hn : n ≤ w.heap.size) : Below n w w' :=
  ⟨h.1.os, h.1.tape, h.1.output, h.1.size, fun k hk => h.2 k (by omega) (by omega)⟩
theorem Turned.setCell {b : Nat} {u w : World} (h : Turned b u w) (o : Nat) (v : Value) : Turned b u (w.setCell ⟨b, o, none⟩ v) :=
  ⟨h.1.setCell (Nat.zero_le _) v, fun k hk hb => (heap_setCell_other _ _ _ _ hb).trans (h.2 k hk hb)⟩

/-- the cells of a State -/
def stateRow (s : St) (rest : ByteArray) (n : Int) : Array Value := #[.int .u32 s.a, .int .u32 s.b, .int .u32 s.c, .int .u32 s.d, .int .u32 s.e, .int .u32 s.f, .int .u32 s.g, .int .u32 s.h, .string rest, .int .i64 n]
def Holds (w : World) (b : Nat) (s : St) (rest : ByteArray) (n : Int) : Prop := w.heap[b]? = some (.cells (stateRow s rest n) 50 (0, 0))
/-- a State that has taken these bytes -/
def StateAt (w : World) (b : Nat) (m : List UInt8) : Prop := ∃ s : St, (m ≠ [] → s = blocks (m.length / 64) hs m) ∧ Holds w b s ⟨(m.drop (64 * (m.length / 64))).toArray⟩ m.length

theorem Holds.cells {w : World} {b : Nat} {s : St} {rest : ByteArray} {n : Int} (h : Holds w b s rest n) :
    w.cell? ⟨b, 0, none⟩ = some (.int .u32 s.a) ∧ w.cell? ⟨b, 1, none⟩ = some (.int .u32 s.b) ∧ w.cell? ⟨b, 2, none⟩ = some (.int .u32 s.c) ∧ w.cell? ⟨b, 3, none⟩ = some (.int .u32 s.d) ∧
    w.cell? ⟨b, 4, none⟩ = some (.int .u32 s.e) ∧ w.cell? ⟨b, 5, none⟩ = some (.int .u32 s.f) ∧ w.cell? ⟨b, 6, none⟩ = some (.int .u32 s.g) ∧ w.cell? ⟨b, 7, none⟩ = some (.int .u32 s.h) ∧
    w.cell? ⟨b, 8, none⟩ = some (.string rest) ∧ w.cell? ⟨b, 9, none⟩ = some (.int .i64 n) := by
  refine ⟨?_, ?_, ?_, ?_, ?_, ?_, ?_, ?_, ?_, ?_⟩ <;> (rw [cell_of_row _ _ _ _ _ _ h]; rfl)
theorem Holds.froz {w : World} {b : Nat} {s : St} {rest : ByteArray} {n : Int} (h : Holds w b s rest n) (j : Nat) : w.frozen? ⟨b, j, none⟩ = false := frozen_of_row _ _ _ _ _ h
theorem Holds.eight {w : World} {b : Nat} {s : St} {rest : ByteArray} {n : Int} (h : Holds w b s rest n) :
    w.cell? ⟨b, 0, none⟩ = some (.int .u32 s.a) ∧ w.cell? ⟨b, 1, none⟩ = some (.int .u32 s.b) ∧ w.cell? ⟨b, 2, none⟩ = some (.int .u32 s.c) ∧ w.cell? ⟨b, 3, none⟩ = some (.int .u32 s.d) ∧
    w.cell? ⟨b, 4, none⟩ = some (.int .u32 s.e) ∧ w.cell? ⟨b, 5, none⟩ = some (.int .u32 s.f) ∧ w.cell? ⟨b, 6, none⟩ = some (.int .u32 s.g) ∧ w.cell? ⟨b, 7, none⟩ = some (.int .u32 s.h) ∧ w.frozen? ⟨b, 0, none⟩ = false ∧ w.frozen? ⟨b, 1, none⟩ = false ∧ w.frozen? ⟨b, 2, none⟩ = false ∧ w.frozen? ⟨b, 3, none⟩ = false ∧ w.frozen? ⟨b, 4, none⟩ = false ∧ w.frozen? ⟨b, 5, none⟩ = false ∧ w.frozen? ⟨b, 6, none⟩ = false ∧ w.frozen? ⟨b, 7, none⟩ = false := by
  obtain ⟨c0, c1, c2, c3, c4, c5, c6, c7, -, -⟩ := h.cells
  exact ⟨c0, c1, c2, c3, c4, c5, c6, c7, h.froz 0, h.froz 1, h.froz 2, h.froz 3, h.froz 4, h.froz 5, h.froz 6, h.froz 7⟩
theorem Holds.lt {w : World} {b : Nat} {s : St} {rest : ByteArray} {n : Int} (h : Holds w b s rest n) : b < w.heap.size := (Array.getElem?_eq_some_iff.1 h).1
theorem Holds.below {w w' : World} {b k : Nat} {s : St} {rest : ByteArray} {n : Int} (h : Holds w b s rest n) (hb : Below k w w') (hk : b < k) : Holds w' b s rest n := (hb.block b hk).trans h
theorem Holds.size {w : World} {b : Nat} {s : St} {rest : ByteArray} {n : Int} (h : Holds w b s rest n) (n' : Int) : Holds (w.setCell ⟨b, 9, none⟩ (.int .i64 n')) b s rest n' := heap_setCell_same _ _ _ _ _ _ h
theorem Holds.rest {w : World} {b : Nat} {s : St} {rest : ByteArray} {n : Int} (h : Holds w b s rest n) (r' : ByteArray) : Holds (w.setCell ⟨b, 8, none⟩ (.string r')) b s r' n := heap_setCell_same _ _ _ _ _ _ h
theorem Holds.sums {w : World} {b : Nat} {s : St} {rest : ByteArray} {n : Int} (h : Holds w b s rest n) (s' : St) :
    Holds ((((((((w.setCell ⟨b, 0, none⟩ (.int .u32 s'.a)).setCell ⟨b, 1, none⟩ (.int .u32 s'.b)).setCell ⟨b, 2, none⟩ (.int .u32 s'.c)).setCell ⟨b, 3, none⟩ (.int .u32 s'.d)).setCell ⟨b, 4, none⟩ (.int .u32 s'.e)).setCell ⟨b, 5, none⟩ (.int .u32 s'.f)).setCell ⟨b, 6, none⟩ (.int .u32 s'.g)).setCell ⟨b, 7, none⟩ (.int .u32 s'.h)) b s' rest n :=
  by
  have h0 := heap_setCell_same _ _ 0 _ _ (.int .u32 s'.a) h
  have h1 := heap_setCell_same _ _ 1 _ _ (.int .u32 s'.b) h0
  have h2 := heap_setCell_same _ _ 2 _ _ (.int .u32 s'.c) h1
  have h3 := heap_setCell_same _ _ 3 _ _ (.int .u32 s'.d) h2
  have h4 := heap_setCell_same _ _ 4 _ _ (.int .u32 s'.e) h3
  have h5 := heap_setCell_same _ _ 5 _ _ (.int .u32 s'.f) h4
  have h6 := heap_setCell_same _ _ 6 _ _ (.int .u32 s'.g) h5
  have h7 := heap_setCell_same _ _ 7 _ _ (.int .u32 s'.h) h6
  unfold Holds
  rw [h7]
  simp [stateRow]
theorem Turned.sums {b : Nat} {u w : World} (h : Turned b u w) (v0 v1 v2 v3 v4 v5 v6 v7 : Value) :
    Turned b u ((((((((w.setCell ⟨b, 0, none⟩ v0).setCell ⟨b, 1, none⟩ v1).setCell ⟨b, 2, none⟩ v2).setCell ⟨b, 3, none⟩ v3).setCell ⟨b, 4, none⟩ v4).setCell ⟨b, 5, none⟩ v5).setCell ⟨b, 6, none⟩ v6).setCell ⟨b, 7, none⟩ v7) :=
  (((((((h.setCell 0 v0).setCell 1 v1).setCell 2 v2).setCell 3 v3).setCell 4 v4).setCell 5 v5).setCell 6 v6).setCell 7 v7

theorem add_nil (x : ByteArray) (w : World) :
    Calls Tryd.prog 16 #[.pointer none, .string x] w fun e w' => e = .returned (.tuple #[]) ∧ w' = w := by
  go_enter Tryd.func16, Tryd.ntmps16
  go_wp2_with fail
  exact bodyPost_ret (v := .tuple #[]) (results_none Tryd.results16 _ _ _) rfl ⟨rfl, rfl⟩

theorem stirred_cells (s s' : St) (x : ByteArray) (w : World) (h' : s' = stir s x.data.toList) (hx : x.size = 64) (hT : Tabs w) :
    Calls Tryd.prog 28 #[.agg #[.int .u32 s.a, .int .u32 s.b, .int .u32 s.c, .int .u32 s.d, .int .u32 s.e, .int .u32 s.f, .int .u32 s.g, .int .u32 s.h], .string x] w
      fun e w' => e = .returned (.agg #[.int .u32 s'.a, .int .u32 s'.b, .int .u32 s'.c, .int .u32 s'.d, .int .u32 s'.e, .int .u32 s'.f, .int .u32 s'.g, .int .u32 s'.h]) ∧ Below w.heap.size w w' := by
  subst h'
  exact stirred_any s x w hx hT
theorem ext_take (x : ByteArray) (k : Nat) : (x.extract 0 k).data.toList = x.data.toList.take k := by
  rw [ByteArray.data_extract]; simp
theorem ext_drop (x : ByteArray) (k : Nat) : (x.extract k x.size).data.toList = x.data.toList.drop k := by
  rw [ByteArray.data_extract]; simp
  rw [List.take_of_length_le (by simp)]
theorem left_start (m : List UInt8) (x rest : ByteArray) (h : rest = ⟨(m.drop (64 * (m.length / 64))).toArray⟩) : (rest ++ x).data.toList = (m ++ x.data.toList).drop (64 * (m.length / 64)) := by
  subst h
  rw [ByteArray.data_append, List.drop_append_of_le_length (by omega)]
  simp

set_option maxRecDepth 100000 in
set_option maxHeartbeats 1000000 in
theorem add_any (m : List UInt8) (x : ByteArray) (b : Nat) (w : World) (hS : StateAt w b m) (hT : Tabs w) (hb : 2 ≤ b) (hm : m.length + x.size ≤ 40000) :
    Calls Tryd.prog 16 #[.pointer (some ⟨b, 0, none⟩), .string x] w fun e w' => e = .returned (.tuple #[]) ∧ Turned b w w' ∧ StateAt w' b (m ++ x.data.toList) := by
  obtain ⟨s, hs1, hH⟩ := hS
  obtain ⟨rest, hre⟩ : ∃ rest, rest = ByteArray.mk (m.drop (64 * (m.length / 64))).toArray := ⟨_, rfl⟩
  have Hr := Lib.hid hre
  rw [← hre] at hH
  have hrs : rest.size ≤ 64 := by rw [hre]; show (m.drop _).toArray.size ≤ 64; simp; omega
  clear hre
  obtain ⟨c0, c1, c2, c3, c4, c5, c6, c7, c8, c9⟩ := hH.cells
  have f0 := hH.froz 0
  have f1 := hH.froz 1
  have f2 := hH.froz 2
  have f3 := hH.froz 3
  have f4 := hH.froz 4
  have f5 := hH.froz 5
  have f6 := hH.froz 6
  have f7 := hH.froz 7
  obtain ⟨⟨tt, tf, hT0⟩, -⟩ := id hT
  have hx0 : x.size ≤ 40000 := by omega
  go_enter Tryd.func16, Tryd.ntmps16
  go_upto_if 11 with fail
  go_cut [] (fun wx => Turned b w wx ∧ Holds wx b (blocks (m.length / 64) hs m) rest m.length)
  case first =>
    by_cases hm0 : m = []
    · have hl0 : m.length = 0 := by rw [hm0]; rfl
      have hg : ((m.length : Int) == 0) = true := by rw [hl0]; rfl
      have hw := hH.sums hs
      have ht := (Turned.refl b w).sums (.int .u32 hs.a) (.int .u32 hs.b) (.int .u32 hs.c) (.int .u32 hs.d) (.int .u32 hs.e) (.int .u32 hs.f) (.int .u32 hs.g) (.int .u32 hs.h)
      have hT1 : w.heap[0]? = some (.cells #[.int .u32 hs.a, .int .u32 hs.b, .int .u32 hs.c, .int .u32 hs.d, .int .u32 hs.e, .int .u32 hs.f, .int .u32 hs.g, .int .u32 hs.h] tt tf) := hT0
      have hi8 : (Tryd.prog.info? 48).map (·.size) = some (#[Value.int .u32 hs.a, .int .u32 hs.b, .int .u32 hs.c, .int .u32 hs.d, .int .u32 hs.e, .int .u32 hs.f, .int .u32 hs.g, .int .u32 hs.h] : Array Value).size := by kernel_rfl
      have hbk : blocks (m.length / 64) hs m = hs := by rw [hl0]; rfl
      have hw2 := (congrArg (fun z => Holds _ b z rest (m.length : Int)) hbk.symm).mp hw
      have Hw := Lib.hid (show _ ∧ _ from ⟨ht, hw2⟩)
      clear hs1 hH hT0 hT ht hw hbk hw2
      generalize hs = s0 at *
      go_wp2_with (refine wpList_load_row rfl 48 _ rfl 0 rfl tt _ tf _ hT1 Tryd.underlying48 rfl hi8 ?_)
      all_goals (go_meet; exact Hw.out)
    · have hg : ((m.length : Int) == 0) = false := by simpa using hm0
      have e := hs1 hm0
      subst e
      go_wp2_with fail
      all_goals (go_meet; exact ⟨Turned.refl _ _, hH⟩)
  case rest =>
    obtain ⟨ht, hH⟩ := hcut
    have hT := hT.below (ht.below hb hT.size) (by omega)
    have hstart := left_start m x rest Hr.out
    have hfront := blocks_front (m.length / 64) hs m x.data.toList (by omega)
    rw [← hfront] at hH
    have hM : (m ++ x.data.toList).length = m.length + x.size := by rw [List.length_append]; rfl
    have hMk : 64 * (m.length / 64) ≤ (m ++ x.data.toList).length := by omega
    obtain ⟨M, hMM⟩ : ∃ M, M = m ++ x.data.toList := ⟨_, rfl⟩
    rw [← hMM] at hstart hH hM hMk
    have HM := Lib.hid hMM
    clear hfront hMM Hr hs1 hT0 c0 c1 c2 c3 c4 c5 c6 c7 c8 c9 f0 f1 f2 f3 f4 f5 f6 f7
    obtain ⟨-, -, -, -, -, -, -, -, c8, c9⟩ := hH.cells
    have f9 := hH.froz 9
    have Hn := Lib.hid (show ((m.length : Int) + (x.size : Int)) = (M.length : Int) by omega)
    have hml : m.length ≤ 40000 := by omega
    have HMl := Lib.hid hM
    clear hM
    have hT' := hT
    have hHs := hH.size ((m.length : Int) + (x.size : Int))
    have hTs := ht.setCell 9 (.int .i64 ((m.length : Int) + (x.size : Int)))
    have ht9 := (Turned.refl b wc).setCell 9 (.int .i64 ((m.length : Int) + (x.size : Int)))
    have hTb := hT.below (ht9.below hb hT.size) (by omega)
    go_wp2_with fail
    rw [Hn.out] at hHs hTs ht9 hTb
    go_loopw [4] (fun v wr => ∃ (k : Nat) (left : ByteArray), v = .string left ∧ left.data.toList = M.drop (64 * k) ∧ 64 * k ≤ M.length ∧ Turned b w wr ∧ Tabs wr ∧ Holds wr b (blocks k hs M) rest (M.length : Int))
      (fun v _ => match v with | .string l => l.size | _ => 0)
    case atStart =>
      rw [Hn.out]
      exact ⟨m.length / 64, rest ++ x, rfl, hstart, hMk, hTs, hTb, hHs⟩
    case round =>
      obtain ⟨k, left, rfl, hleft, hk, ht, hT, hH⟩ := hrel
      have hls : left.size = M.length - 64 * k := by
        have : left.data.toList.length = left.size := rfl
        rw [← this, hleft, List.length_drop]
      have hl4 : left.size ≤ 40000 := by have := HMl.out; omega
      have Hls := Lib.hid hls
      have Hle := Lib.hid hleft
      clear hls hleft
      by_cases h64 : 64 ≤ left.size
      · have hge : (64 : Int) ≤ (left.size : Int) := by omega
        go_wp2_with fail
        obtain ⟨c0, c1, c2, c3, c4, c5, c6, c7, f0, f1, f2, f3, f4, f5, f6, f7⟩ := hH.eight
        have hxl : (left.extract 0 64).size = 64 := by simp; omega
        obtain ⟨s', hs'⟩ : ∃ s', s' = stir (blocks k hs M) (left.extract 0 64).data.toList := ⟨_, rfl⟩
        have HC := Lib.hid (fun (w1 : World) (h : Below wr.heap.size wr w1) => stirred_cells (blocks k hs M) s' (left.extract 0 64) w1 hs' hxl (hT.below h hT.size))
        have Hs' := Lib.hid hs'
        clear hs'
        have hdr := (Below.refl wr.heap.size wr).drew
        have hHd := hH.below hdr hH.lt
        have hltd := hHd.lt
        go_region_with (go_at_call 28; refine (HC.out _ hdr).mono ?_; rintro e w2 ⟨rfl, h2⟩; obtain ⟨d0, d1, d2, d3, d4, d5, d6, d7, g0, g1, g2, g3, g4, g5, g6, g7⟩ := (hHd.below h2 hltd).eight)
        have hT1 := (Turned.of_below hdr (b := b)).trans (Turned.of_below h2)
        have ht3 := (ht.trans hT1).sums (.int .u32 s'.a) (.int .u32 s'.b) (.int .u32 s'.c) (.int .u32 s'.d) (.int .u32 s'.e) (.int .u32 s'.f) (.int .u32 s'.g) (.int .u32 s'.h)
        have hT3 := hT.below ((hT1.sums (.int .u32 s'.a) (.int .u32 s'.b) (.int .u32 s'.c) (.int .u32 s'.d) (.int .u32 s'.e) (.int .u32 s'.f) (.int .u32 s'.g) (.int .u32 s'.h)).below hb hT.size) (by omega)
        have hH3 := (hHd.below h2 hltd).sums s'
        clear d0 d1 d2 d3 d4 d5 d6 d7 g0 g1 g2 g3 g4 g5 g6 g7 hT1
        have e1 := ext_take left 64
        have e2 := ext_drop left 64
        rw [Hle.out] at e1 e2
        have es : s' = blocks (k + 1) hs M := by rw [Hs'.out, e1, ← blocks_succ]
        rw [es] at hH3 ht3 hT3
        rw [List.drop_drop, show 64 * k + 64 = 64 * (k + 1) by omega] at e2
        have hk1 : 64 * (k + 1) ≤ M.length := by have := Hls.out; omega
        have hz : (left.extract 64 left.size).size < left.size := by simp; omega
        have Hf := Lib.hid (show _ ∧ _ ∧ _ ∧ _ ∧ _ from ⟨e2, hk1, ht3, hT3, hH3⟩)
        clear e1 e2 ht3 hT3 hH3 hk1
        subst es
        go_wp2_with fail
        exact ⟨⟨k + 1, _, rfl, Hf.out⟩, hz⟩
      · have hlt : ¬ (64 : Int) ≤ (left.size : Int) := by omega
        have hf8 := hH.froz 8
        obtain ⟨-, -, -, -, -, -, -, -, c8, -⟩ := hH.cells
        go_wp2_with fail
        refine (clone_any _ _ (by omega)).mono ?_
        rintro e w2 ⟨rfl, h2⟩
        have hH2 := hH.below h2 hH.lt
        have hf8 := hH2.froz 8
        obtain ⟨-, -, -, -, -, -, -, -, c8, -⟩ := hH2.cells
        have hk2 : k = M.length / 64 := by have := Hls.out; omega
        have ht2 := (ht.trans (Turned.of_below h2)).setCell 8 (.string left)
        have hH3 := hH2.rest left
        have el : left = ⟨(M.drop (64 * (M.length / 64))).toArray⟩ := by
          rw [← hk2, ← Hle.out]
        have Hf : Hid (Turned b w (w2.setCell ⟨b, 8, none⟩ (.string left)) ∧ StateAt (w2.setCell ⟨b, 8, none⟩ (.string left)) b M) := Lib.hid ⟨ht2, blocks k hs M, fun _ => by rw [hk2], by rw [el] at hH3 ⊢; exact hH3⟩
        clear hH2 ht2 hH3 el hH hk2
        go_wp2_with fail
        have hM := HM.out
        go_end0
        exact ⟨rfl, by rw [← hM]; exact Hf.out⟩
end Go.Proofs.YtpocfcenfpdjfaaDoor.Sha
