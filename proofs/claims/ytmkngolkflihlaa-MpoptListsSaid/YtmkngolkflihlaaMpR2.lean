/- The document's Check: its contract. -/
import Derived.Test.YtmkngolkflihlaaMpR1
import Derived.BigQuiet
import Derived.Test.YtmkngolkflihlaaMath1
namespace Go.Proofs.Ytmkngolkflihlaa.Mp
open Go.ChangeShapes Go.WideShapes Go.ChangeAt Go.RowKit
set_option linter.unusedVariables false

/-- the value of what such an option says -/
def vOf (m : M) : Value := .agg #[.int .i64 m.kind, .int .i64 m.addr, .int .i64 m.prio, .int .i64 m.num, .int .i64 m.token, .int .i64 m.nonce, .string m.bytes]
/-- its row -/
def rowOf (m : M) : Array Value := #[.int .i64 m.kind, .int .i64 m.addr, .int .i64 m.prio, .int .i64 m.num, .int .i64 m.token, .int .i64 m.nonce, .string m.bytes]
/-- the row of the sizes -/
def zrow (k : Int) : Array Value := #[.int .i64 (za k : Nat), .int .i64 (zp k : Nat), .int .i64 (zt k : Nat), .int .i64 (zt k : Nat), .int .i64 (zn k : Nat), .int .i64 (lo k : Nat), .int .i64 (hi k : Nat)]
/-- the row of the numbers, in their order -/
def lrow (m : M) : Array Value := #[.int .i64 m.addr, .int .i64 m.prio, .int .i64 m.token, .int .i64 m.nonce, .int .i64 m.num]
theorem hi5 (v0 v1 v2 v3 v4 : Value) : (Try.prog.info? 55).map (·.size) = some (#[v0, v1, v2, v3, v4] : Array Value).size := by
  show _ = some 5
  kernel_rfl
theorem hone5 (a b c d f : Int) : (#[.int .i64 a, .int .i64 b, .int .i64 c, .int .i64 d, .int .i64 f] : Array Value).all (·.oneCell') = true := by
  simp [Value.oneCell']
/-- the field at a place -/
def fieldAt (m : M) : Nat → Int
  | 0 => m.addr
  | 1 => m.prio
  | 2 => m.token
  | 3 => m.nonce
  | _ => m.num
theorem farAny_of (m : M) (h : ∀ j, j < 5 → far (zs m.kind j) (fieldAt m j) = false) : farAny m = false := by
  have h0 := h 0 (by omega)
  have h1 := h 1 (by omega)
  have h2 := h 2 (by omega)
  have h3 := h 3 (by omega)
  have h4 := h 4 (by omega)
  simp only [zs, fieldAt] at h0 h1 h2 h3 h4
  simp [farAny, h0, h1, h2, h3, h4]
theorem farAny_is (m : M) (j : Nat) (hj : j < 5) (h : far (zs m.kind j) (fieldAt m j) = true) : farAny m = true := by
  rcases (by omega : j = 0 ∨ j = 1 ∨ j = 2 ∨ j = 3 ∨ j = 4) with rfl | rfl | rfl | rfl | rfl <;> (simp only [zs, fieldAt] at h; simp [farAny, h])
theorem vainAny_of (m : M) (h : ∀ j, j < 5 → vain (zs m.kind j) (fieldAt m j) = false) : vainAny m = false := by
  have h0 := h 0 (by omega)
  have h1 := h 1 (by omega)
  have h2 := h 2 (by omega)
  have h3 := h 3 (by omega)
  have h4 := h 4 (by omega)
  simp only [zs, fieldAt] at h0 h1 h2 h3 h4
  simp [vainAny, h0, h1, h2, h3, h4]
theorem vainAny_is (m : M) (j : Nat) (hj : j < 5) (h : vain (zs m.kind j) (fieldAt m j) = true) : vainAny m = true := by
  rcases (by omega : j = 0 ∨ j = 1 ∨ j = 2 ∨ j = 3 ∨ j = 4) with rfl | rfl | rfl | rfl | rfl <;> (simp only [zs, fieldAt] at h; simp [vainAny, h])

/-- the three blocks -/
structure Three (W : World) (bm bz bl : Nat) (m : M) : Prop where
  box : W.heap[bm]? = some (.cells (rowOf m) 23 (0, 0))
  sizes : W.heap[bz]? = some (.cells (zrow m.kind) 53 (0, 0))
  nums : W.heap[bl]? = some (.cells (lrow m) 55 (0, 0))
theorem Three.drewN {W : World} {bm bz bl : Nat} {m : M} (h : Three W bm bz bl m) (n : Nat) : Three (W.drewN n) bm bz bl m := ⟨h.box, h.sizes, h.nums⟩
theorem meet_row {P : Program} {ops : Array Oper} {rest : List Oper} {a : Act} {Q : Exit → Act → World → Prop} (w1 : World) (o cs : Array Value) (t : TypeId)
    (h : ∀ w2, Below w1.heap.size w1 w2 → w2.heap.size = w1.heap.size + 1 → w2.heap[w1.heap.size]? = some (.cells cs t (0, 0)) → wpList P ops Q rest a w2) : wpList P ops Q rest a ((w1.alloc (.cells o t)).setRow w1.heap.size cs) :=
  h _ (below_setRow ((Below.refl _ _).alloc (Nat.le_refl _) _) (Nat.le_refl _) _) (by simp) (setRow_heap _ _ _ _ _ _ (heap_alloc_new w1 _))

theorem cells7 {W : World} {b : Nat} {m : M} (h : W.heap[b]? = some (.cells (rowOf m) 23 (0, 0))) :
    W.cell? ⟨b, 0, none⟩ = some (.int .i64 m.kind) ∧ W.cell? ⟨b, 1, none⟩ = some (.int .i64 m.addr) ∧ W.cell? ⟨b, 2, none⟩ = some (.int .i64 m.prio) ∧ W.cell? ⟨b, 3, none⟩ = some (.int .i64 m.num)
      ∧ W.cell? ⟨b, 4, none⟩ = some (.int .i64 m.token) ∧ W.cell? ⟨b, 5, none⟩ = some (.int .i64 m.nonce) ∧ W.cell? ⟨b, 6, none⟩ = some (.string m.bytes) := by
  refine ⟨?_, ?_, ?_, ?_, ?_, ?_, ?_⟩ <;> exact (cell_of_row W b _ _ _ _ h).trans rfl
theorem cellsZ {W : World} {b : Nat} {k : Int} (h : W.heap[b]? = some (.cells (zrow k) 53 (0, 0))) :
    W.cell? ⟨b, 0, none⟩ = some (.int .i64 (zs k 0 : Nat)) ∧ W.cell? ⟨b, 1, none⟩ = some (.int .i64 (zs k 1 : Nat)) ∧ W.cell? ⟨b, 2, none⟩ = some (.int .i64 (zs k 2 : Nat)) ∧ W.cell? ⟨b, 3, none⟩ = some (.int .i64 (zs k 3 : Nat))
      ∧ W.cell? ⟨b, 4, none⟩ = some (.int .i64 (zs k 4 : Nat)) ∧ W.cell? ⟨b, 5, none⟩ = some (.int .i64 (lo k : Nat)) ∧ W.cell? ⟨b, 6, none⟩ = some (.int .i64 (hi k : Nat)) := by
  refine ⟨?_, ?_, ?_, ?_, ?_, ?_, ?_⟩ <;> exact (cell_of_row W b _ _ _ _ h).trans rfl
theorem cellsL {W : World} {b : Nat} {m : M} (h : W.heap[b]? = some (.cells (lrow m) 55 (0, 0))) :
    W.cell? ⟨b, 0, none⟩ = some (.int .i64 (fieldAt m 0)) ∧ W.cell? ⟨b, 1, none⟩ = some (.int .i64 (fieldAt m 1)) ∧ W.cell? ⟨b, 2, none⟩ = some (.int .i64 (fieldAt m 2)) ∧ W.cell? ⟨b, 3, none⟩ = some (.int .i64 (fieldAt m 3))
      ∧ W.cell? ⟨b, 4, none⟩ = some (.int .i64 (fieldAt m 4)) := by
  refine ⟨?_, ?_, ?_, ?_, ?_⟩ <;> exact (cell_of_row W b _ _ _ _ h).trans rfl
theorem zcell {W : World} {b : Nat} {k : Int} (h : W.heap[b]? = some (.cells (zrow k) 53 (0, 0))) (j : Nat) (hj : j < 5) : W.cell? ⟨b, j, none⟩ = some (.int .i64 (zs k j : Nat)) := by
  have := cellsZ h
  rcases (by omega : j = 0 ∨ j = 1 ∨ j = 2 ∨ j = 3 ∨ j = 4) with rfl | rfl | rfl | rfl | rfl
  · exact this.1
  · exact this.2.1
  · exact this.2.2.1
  · exact this.2.2.2.1
  · exact this.2.2.2.2.1
theorem lcell {W : World} {b : Nat} {m : M} (h : W.heap[b]? = some (.cells (lrow m) 55 (0, 0))) (j : Nat) (hj : j < 5) : W.cell? ⟨b, j, none⟩ = some (.int .i64 (fieldAt m j)) := by
  have := cellsL h
  rcases (by omega : j = 0 ∨ j = 1 ∨ j = 2 ∨ j = 3 ∨ j = 4) with rfl | rfl | rfl | rfl | rfl
  · exact this.1
  · exact this.2.1
  · exact this.2.2.1
  · exact this.2.2.2.1
  · exact this.2.2.2.2
theorem zs_mem (k : Int) (j : Nat) : zs k j = 0 ∨ zs k j = 1 ∨ zs k j = 2 ∨ zs k j = 4 ∨ zs k j = 6 := by
  unfold zs
  split
  · unfold za; split <;> simp
  · unfold zp; split <;> simp
  · unfold zt; split <;> simp
  · unfold zt; split <;> simp
  · unfold zn; repeat' split
    all_goals simp
  · simp

theorem bne_t {a b : Nat} (h : a ≠ b) : ((a : Int) != (b : Int)) = true := by simp only [bne, Bool.not_eq_true', beq_eq_false_iff_ne]; omega
theorem bne_f {a b : Nat} (h : a = b) : ((a : Int) != (b : Int)) = false := by subst h; simp

set_option maxRecDepth 100000 in
set_option maxHeartbeats 16000000 in
theorem RefCheck_any (m : M) (hs : m.bytes.size ≤ 4000) (w : World) : Calls Try.prog 10 #[vOf m] w
    fun e w' => e = .returned (.int .i64 (check m)) ∧ Below w.heap.size w w' := by
  have b1 := Lib.hid ((Below.refl w.heap.size w).alloc (Nat.le_refl _) (.cells (rowOf m) 23))
  cases hk : known m.kind
  · have HC := Lib.hid (show check m = 7 by simp [check, hk])
    have CK := Lib.hid (fun w => RefKnown_any m.kind w)
    rw [hk] at CK
    generalize check m = C at *
    unfold vOf
    unfold rowOf at b1
    clear hs
    obtain ⟨k, a, p, t, n, q, y⟩ := m
    dsimp only at *
    go_enter Try.func10, Try.ntmps10
    go_wp2_with (go_at_call 28; refine (CK.out _).mono ?_; rintro e w1 ⟨rfl, rfl⟩)
    go_ret
    exact ⟨by rw [HC.out]; rfl, b1.out⟩
  have CK := Lib.hid (fun w => RefKnown_any m.kind w)
  rw [hk] at CK
  have CS := Lib.hid (fun w => RefSizes_any m.kind w)
  have n1 := Lib.hid (heap_alloc_new w (.cells (rowOf m) 23))
  have ez : zv m.kind = .agg (zrow m.kind) := rfl
  have el : lrow m = #[.int .i64 m.addr, .int .i64 m.prio, .int .i64 m.token, .int .i64 m.nonce, .int .i64 m.num] := rfl
  rw [ez] at CS
  unfold zrow at CS
  unfold vOf
  go_enter Try.func10, Try.ntmps10
  go_wp2_with (go_at_call 28; refine (CK.out _).mono ?_; rintro e w1 ⟨rfl, rfl⟩)
  refine (CS.out _).mono ?_
  rintro e w1 ⟨rfl, hb1⟩
  have r1 := (hb1.block w.heap.size (by simp)).trans n1.out
  have s1 : w.heap.size + 1 ≤ w1.heap.size := by have := hb1.size; simpa using this
  have B1 := Lib.hid (b1.out.trans (hb1.mono (by simp)))
  have R1 := Lib.hid r1
  clear hb1 r1 b1 n1 CS CK
  have N2 := Lib.hid (heap_alloc_new w1 (.cells #[.int .i64 0, .int .i64 0, .int .i64 0, .int .i64 0, .int .i64 0, .int .i64 0, .int .i64 0] 53))
  go_wp2_with (first
    | (refine wpList_store_row rfl 53 _ _ rfl w1.heap.size _ rfl rfl 53 _ N2.out (hi7 _ _ _ _ _ _ _) rfl (hone7 _ _ _ _ _ _ _) ?_
       refine meet_row _ _ _ _ (fun w2 hb2 hs2 hz2 => ?_)
       have r2 := (hb2.block w.heap.size (by omega)).trans R1.out
       obtain ⟨c0, c1, c2, c3, c4, c5, c6⟩ := cells7 r2)
    | fail)
  obtain ⟨W, hW⟩ : ∃ W, W = w2.alloc (.cells #[.int .i64 m.addr, .int .i64 m.prio, .int .i64 m.token, .int .i64 m.nonce, .int .i64 m.num] 55) := ⟨_, rfl⟩
  have T : Three W w.heap.size w1.heap.size (w1.heap.size + 1) m := by
    subst hW
    exact ⟨(Below.heap_alloc _ _ _ (by omega)).trans r2, (Below.heap_alloc _ _ _ (by omega)).trans hz2, by have := heap_alloc_new w2 (.cells (lrow m) 55); rw [hs2] at this; exact this⟩
  have BW := Lib.hid (show Below w.heap.size w W by subst hW; exact (B1.out.trans (hb2.mono (by omega))).alloc (by omega) _)
  rw [← hW]
  clear hW N2 B1 R1 hb2 hs2 hz2 r2 c0 c1 c2 c3 c4 c5 c6
  generalize w1.heap.size = bz at *
  have T' := Lib.hid T
  clear T s1 w2
  go_loopw [5] (fun i wr => ∃ k n : Nat, k ≤ 5 ∧ i = .int .i64 k ∧ wr = W.drewN n ∧ ∀ j, j < k → far (zs m.kind j) (fieldAt m j) = false) (fun i _ => 5 - (intOf i).toNat)
  case atStart => exact ⟨0, 0, by omega, rfl, rfl, by omega⟩
  case round =>
    obtain ⟨k, n, hk5, rfl, rfl, hfar⟩ := hrel
    have hF := Lib.hid hfar
    clear hfar
    by_cases hlt : k < 5
    · have zc := zcell T'.out.sizes k hlt
      have lc := lcell T'.out.nums k hlt
      have hl5 : (k : Int) < 5 := by omega
      have hl7 : (k : Int) < 7 := by omega
      have hZ := zs_mem m.kind k
      have hstep : far (zs m.kind k) (fieldAt m k) = false → ∀ j, j < k + 1 → far (zs m.kind j) (fieldAt m j) = false := fun h j hj => by
        rcases (by omega : j < k ∨ j = k) with h1 | rfl
        · exact hF.out j h1
        · exact h
      have hend : far (zs m.kind k) (fieldAt m k) = true → check m = 3 := fun h => by simp [check, hk, farAny_is m k hlt h]
      have hS := Lib.hid hstep
      have hE := Lib.hid hend
      clear hstep hend
      generalize zs m.kind k = z at *
      generalize fieldAt m k = x at *
      rcases hZ with rfl | rfl | rfl | rfl | rfl
      · have hd : decide ((0 : Int) < 0) = false := rfl
        go_wp2_with fail
        go_quiet (fail)
        go_wp2_with fail
        exact ⟨⟨k + 1, n + nq, by omega, by go_num, by first | rfl | rw [World.drewN_drewN] | trace_state, hS.out (by simp [far])⟩, by simp [intOf]; omega⟩
      · by_cases h0 : x < 0
        · have hd : decide (x < 0) = true := decide_eq_true h0
          go_wp2_with fail
          go_quiet (fail)
          go_wp2_with fail
          go_ret
          exact ⟨by rw [hE.out (by simp [far, h0])]; rfl, below_drewN (below_drewN BW.out _) _⟩
        · have hd : decide (x < 0) = false := decide_eq_false h0
          by_cases h1 : 256 ≤ x
          · have hd1 : decide (256 ≤ x) = true := decide_eq_true h1
            go_wp2_with fail
            go_quiet (fail)
            go_wp2_with fail
            go_ret
            exact ⟨by rw [hE.out (by simp [far, h1])]; rfl, below_drewN (below_drewN BW.out _) _⟩
          · have hd1 : decide (256 ≤ x) = false := decide_eq_false h1
            go_wp2_with fail
            go_quiet (fail)
            go_wp2_with fail
            exact ⟨⟨k + 1, n + nq, by omega, by go_num, by first | rfl | rw [World.drewN_drewN] | trace_state, hS.out (by simp [far]; omega)⟩, by simp [intOf]; omega⟩
      · by_cases h0 : x < 0
        · have hd : decide (x < 0) = true := decide_eq_true h0
          go_wp2_with fail
          go_quiet (fail)
          go_wp2_with fail
          go_ret
          exact ⟨by rw [hE.out (by simp [far, h0])]; rfl, below_drewN (below_drewN BW.out _) _⟩
        · have hd : decide (x < 0) = false := decide_eq_false h0
          by_cases h1 : 65536 ≤ x
          · have hd1 : decide (65536 ≤ x) = true := decide_eq_true h1
            go_wp2_with fail
            go_quiet (fail)
            go_wp2_with fail
            go_ret
            exact ⟨by rw [hE.out (by simp [far, h1])]; rfl, below_drewN (below_drewN BW.out _) _⟩
          · have hd1 : decide (65536 ≤ x) = false := decide_eq_false h1
            go_wp2_with fail
            go_quiet (fail)
            go_wp2_with fail
            exact ⟨⟨k + 1, n + nq, by omega, by go_num, by first | rfl | rw [World.drewN_drewN] | trace_state, hS.out (by simp [far]; omega)⟩, by simp [intOf]; omega⟩
      · by_cases h0 : x < 0
        · have hd : decide (x < 0) = true := decide_eq_true h0
          go_wp2_with fail
          go_quiet (fail)
          go_wp2_with fail
          go_ret
          exact ⟨by rw [hE.out (by simp [far, h0])]; rfl, below_drewN (below_drewN BW.out _) _⟩
        · have hd : decide (x < 0) = false := decide_eq_false h0
          by_cases h1 : 4294967296 ≤ x
          · have hd1 : decide (4294967296 ≤ x) = true := decide_eq_true h1
            go_wp2_with fail
            go_quiet (fail)
            go_wp2_with fail
            go_ret
            exact ⟨by rw [hE.out (by simp [far, h1])]; rfl, below_drewN (below_drewN BW.out _) _⟩
          · have hd1 : decide (4294967296 ≤ x) = false := decide_eq_false h1
            go_wp2_with fail
            go_quiet (fail)
            go_wp2_with fail
            exact ⟨⟨k + 1, n + nq, by omega, by go_num, by first | rfl | rw [World.drewN_drewN] | trace_state, hS.out (by simp [far]; omega)⟩, by simp [intOf]; omega⟩
      · by_cases h0 : x < 0
        · have hd : decide (x < 0) = true := decide_eq_true h0
          go_wp2_with fail
          go_quiet (fail)
          go_wp2_with fail
          go_ret
          exact ⟨by rw [hE.out (by simp [far, h0])]; rfl, below_drewN (below_drewN BW.out _) _⟩
        · have hd : decide (x < 0) = false := decide_eq_false h0
          by_cases h1 : 281474976710656 ≤ x
          · have hd1 : decide (281474976710656 ≤ x) = true := decide_eq_true h1
            go_wp2_with fail
            go_quiet (fail)
            go_wp2_with fail
            go_ret
            exact ⟨by rw [hE.out (by simp [far, h1])]; rfl, below_drewN (below_drewN BW.out _) _⟩
          · have hd1 : decide (281474976710656 ≤ x) = false := decide_eq_false h1
            go_wp2_with fail
            go_quiet (fail)
            go_wp2_with fail
            exact ⟨⟨k + 1, n + nq, by omega, by go_num, by first | rfl | rw [World.drewN_drewN] | trace_state, hS.out (by simp [far]; omega)⟩, by simp [intOf]; omega⟩
    · obtain rfl : k = 5 := by omega
      have hfa := farAny_of m hF.out
      obtain ⟨c0, c1, c2, c3, c4, c5, c6⟩ := cells7 T'.out.box
      obtain ⟨d0, d1, d2, d3, d4, d5, d6⟩ := cellsZ T'.out.sizes
      clear c0 c1 c2 c3 c4 c5 d0 d1 d2 d3 d4 hlt hk5 hF
      have hlo := lo_le m.kind
      have hhi := hi_le m.kind
      have hc := (show check m = if 0 < hi m.kind ∧ m.bytes.size ≠ lo m.kind ∧ m.bytes.size ≠ hi m.kind then 11 else if vainAny m = true then 4 else if hi m.kind = 0 ∧ m.bytes.size ≠ 0 then 4 else 0 by simp [check, hk, hfa])
      clear hfa
      obtain ⟨h, hH⟩ : ∃ h, hi m.kind = h := ⟨_, rfl⟩
      rw [hH] at d6 hhi hc
      generalize lo m.kind = l at *
      have HH := Lib.hid hH
      replace hc := Lib.hid hc
      clear hH
      have hcase : h = 0 ∨ (0 < h ∧ m.bytes.size = l) ∨ (0 < h ∧ m.bytes.size ≠ l ∧ m.bytes.size = h) ∨ (0 < h ∧ m.bytes.size ≠ l ∧ m.bytes.size ≠ h) := by omega
      rcases hcase with h0 | ⟨h0, h1⟩ | ⟨h0, h1, h2⟩ | ⟨h0, h1, h2⟩
      case inr.inr.inr =>
        have e1 := bne_t h1
        have e2 := bne_t h2
        go_wp2_with fail
        go_ret
        exact ⟨by rw [hc.out, if_pos ⟨h0, h1, h2⟩]; rfl, below_drewN BW.out _⟩
      all_goals replace hc := Lib.hid (hc.out.trans (if_neg (by omega)))
      all_goals (try (first | (have e2 := bne_f h2; have e1 := bne_t h1) | have e1 := bne_f h1))
      all_goals (
        go_wp2_with fail
        clear c6 d5 d6
        go_loopw [6] (fun i wr => ∃ k : Nat, k ≤ 5 ∧ i = .int .i64 k ∧ wr = W.drewN n ∧ ∀ j, j < k → vain (zs m.kind j) (fieldAt m j) = false) (fun i _ => 5 - (intOf i).toNat)
        case atStart => exact ⟨0, by omega, rfl, rfl, by omega⟩
        case round =>
          obtain ⟨k, hk5, rfl, rfl, hv⟩ := hrel
          have hV := Lib.hid hv
          clear hv
          by_cases hlt : k < 5
          · have zc := zcell T'.out.sizes k hlt
            have lc := lcell T'.out.nums k hlt
            have hl5 : (k : Int) < 5 := by omega
            have hl7 : (k : Int) < 7 := by omega
            have hS := Lib.hid (show vain (zs m.kind k) (fieldAt m k) = false → ∀ j, j < k + 1 → vain (zs m.kind j) (fieldAt m j) = false from fun h j hj => by
              rcases (by omega : j < k ∨ j = k) with h1 | rfl
              · exact hV.out j h1
              · exact h)
            have hE := Lib.hid (show vain (zs m.kind k) (fieldAt m k) = true → vainAny m = true from vainAny_is m k hlt)
            generalize zs m.kind k = z at *
            generalize fieldAt m k = x at *
            by_cases hz : z = 0
            · subst hz
              by_cases hx : x = 0
              · subst hx
                go_wp2_with fail
                exact ⟨⟨k + 1, by omega, by go_num, trivial, hS.out (by simp [vain])⟩, by simp [intOf]; omega⟩
              · have hx' : (x != 0) = true := by simpa using hx
                go_wp2_with fail
                go_ret
                exact ⟨by rw [hc.out, if_pos (hE.out (by simp [vain, hx]))]; rfl, below_drewN BW.out _⟩
            · have hz' : ((z : Int) == 0) = false := by simp; omega
              go_wp2_with fail
              exact ⟨⟨k + 1, by omega, by go_num, trivial, hS.out (by simp [vain, hz])⟩, by simp [intOf]; omega⟩
          · obtain rfl : k = 5 := by omega
            have hva := vainAny_of m hV.out
            obtain ⟨c0, c1, c2, c3, c4, c5, c6⟩ := cells7 T'.out.box
            obtain ⟨d0, d1, d2, d3, d4, d5, d6⟩ := cellsZ T'.out.sizes
            rw [HH.out] at d6
            clear c0 c1 c2 c3 c4 c5 d0 d1 d2 d3 d4 d5 hlt hk5 hV
            replace hc := Lib.hid (hc.out.trans (if_neg (by rw [hva]; exact Bool.false_ne_true)))
            by_cases hh : h = 0
            · first
              | (exfalso; omega)
              | (have hh' : ((h : Int) == 0) = true := by simp; omega
                 by_cases hb0 : m.bytes.size = 0
                 · have hb' := Oct.is_empty m.bytes hb0
                   go_wp2_with fail
                   go_ret
                   exact ⟨by rw [hc.out, if_neg (by omega)]; rfl, below_drewN BW.out _⟩
                 · have hb' := Oct.not_empty m.bytes hb0
                   go_wp2_with fail
                   go_ret
                   exact ⟨by rw [hc.out, if_pos ⟨hh, hb0⟩]; rfl, below_drewN BW.out _⟩)
            · first
              | (exfalso; omega)
              | (have hh' : ((h : Int) == 0) = false := by simp; omega
                 go_wp2_with fail
                 go_ret
                 exact ⟨by rw [hc.out, if_neg (by omega)]; rfl, below_drewN BW.out _⟩))
end Go.Proofs.Ytmkngolkflihlaa.Mp
