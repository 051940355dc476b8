/- At each length: the law's walk. -/
import Derived.Test.YtiokfpkglnenoaaDoorShaOf
import Derived.Laws.OwnMore
import Derived.Laws.MakeOwn
namespace Go.Proofs.YtiokfpkglnenoaaDoor.Sha
open Go.ChangeShapes Go.WideShapes Go.ChangeAt Go.RowKit
set_option linter.unusedVariables false

/-- a block that holds bytes -/
def RowB (w : World) (B : Nat) (l : List UInt8) : Prop := w.heap[B]? = some (.cells (l.map (fun b : UInt8 => Value.int .u8 (b.toNat : Int))).toArray 5 (0, 0))
theorem RowB.cell {w : World} {B : Nat} {l : List UInt8} (h : RowB w B l) (j : Nat) (hj : j < l.length) : w.cell? ⟨B, j, none⟩ = some (.int .u8 (l[j].toNat : Int)) := by
  rw [cell_of_row _ _ _ _ _ _ h]
  simp [List.getElem?_eq_getElem hj]
theorem RowB.set {w : World} {B : Nat} {l : List UInt8} (h : RowB w B l) (k : Nat) (b : UInt8) : RowB (w.setCell ⟨B, k, none⟩ (.int .u8 (b.toNat : Int))) B (l.set k b) := by
  unfold RowB
  rw [heap_setCell_same _ _ _ _ _ _ h]
  simp
theorem RowB.back {w : World} {B : Nat} {l : List UInt8} (h : RowB w B l) (n c : Nat) (hn : l.length = n) :
    (convert 31 9 (.slice (some ⟨B, 0, none⟩) n c)).run Tryd.prog w = .ok (.string ⟨l.toArray⟩) w := by
  subst hn
  exact run_convert_bytes_back (P := Tryd.prog) w 31 9 5 ⟨B, 0, none⟩ c l Tryd.underlying31 Tryd.underlying5 Tryd.underlying9 (fun j hj => by
    have ha : (⟨B, 0, none⟩ : Addr).add j = ⟨B, j, none⟩ := by unfold Addr.add; split <;> simp_all
    rw [ha]; exact h.cell j hj)
theorem RowB.made (w : World) (n : Nat) : RowB (w.alloc (.cells (madeCells (Value.int .u8 0).cells n) 5)) w.heap.size (List.replicate n 0) := by
  unfold RowB
  rw [heap_alloc_new]
  congr 2
  apply Array.toList_inj.1
  rw [show (Value.int .u8 0).cells = #[Value.int .u8 0] from rfl, toList_madeCells_one]
  simp
/-- k bytes of one kind, then noughts -/
def part (c : UInt8) (n k : Nat) : List UInt8 := List.replicate k c ++ List.replicate (n - k) 0
theorem part_length (c : UInt8) (n k : Nat) (h : k ≤ n) : (part c n k).length = n := by simp [part]; omega
theorem part_set (c : UInt8) (n k : Nat) (h : k < n) : (part c n k).set k c = part c n (k + 1) := by
  unfold part
  rw [List.set_append_right _ _ (by simp), List.length_replicate, Nat.sub_self, show n - k = (n - (k + 1)) + 1 by omega, List.replicate_succ, List.set_cons_zero, List.replicate_succ', List.append_assoc]
  rfl

theorem infoU8 : (Tryd.prog.info? 5).map (fun i => (i.zero, i.size, i.bytes)) = some (some (.int .u8 0), 1, 1) := by kernel_rfl

set_option maxRecDepth 100000 in
set_option maxHeartbeats 1000000 in
theorem ShaEdges_walk (a0 a1 : Int) (W : World) (w0 : (Lit.int .u8 a0).wf = true) (w1 : (Lit.int .i64 a1).wf = true) (hL : laidMetH Tryd.prog Rows.shaEdgesRow.laid W) :
    Calls Tryd.prog 5 #[.int .u8 a0, .int .i64 a1] W fun e w' => e = .returned (.bool true) ∧ Below W.heap.size W w' := by
  have hT := Tabs.of_laid hL
  obtain ⟨c, hc⟩ : ∃ c : UInt8, (c.toNat : Int) = a0 := by
    have h8 : 0 ≤ a0 ∧ a0 ≤ 255 := by simp [Lit.wf] at w0; exact w0
    refine ⟨UInt8.ofNat a0.toNat, ?_⟩
    simp only [UInt8.toNat_ofNat']
    omega
  subst hc
  obtain ⟨n, hn⟩ : ∃ n : Nat, n = Oct.nat64 a1 % 200 := ⟨_, rfl⟩
  have hn2 : n ≤ 199 := by omega
  have HN : Hid (wrap64 ((IntKind.u64.wrap a1).tmod 200) = (n : Int)) := by
    refine Lib.hid ?_
    have h1 : IntKind.u64.wrap a1 = ((Oct.nat64 a1 : Nat) : Int) := by rw [IntKind.wrap_u64, Oct.u64_cast]
    rw [h1, hn]
    have h2 : ((Oct.nat64 a1 : Nat) : Int).tmod 200 = ((Oct.nat64 a1 % 200 : Nat) : Int) := by rw [Int.tmod_eq_emod_of_nonneg (by omega)]; omega
    rw [h2]
    unfold wrap64
    omega
  obtain ⟨i0, hi, hz0, hz1, hz2⟩ := info_parts infoU8
  clear hL w0 w1 hn
  go_enter Tryd.func5, Tryd.ntmps5
  go_wp2_with fail
  have hT0 := hT.size
  refine (works_any _ hT).mono ?_
  rintro e w1 ⟨rfl, h1⟩
  have hT := hT.below h1 hT.size
  go_wp2_with fail
  rw [HN.out]
  have hmk := run_make (P := Tryd.prog) w1 31 5 i0 (.int .u8 0) Tryd.underlying31 hi hz0 .i64 .i64 (n : Int) (n : Int) (by omega) (by omega) (by rw [hz2]; omega) (by omega)
  rw [hz1, Int.toNat_natCast, Nat.mul_one] at hmk
  rw [hmk]
  have r0 := RowB.made w1 n
  have hb : Below W.heap.size W (w1.alloc (.cells (madeCells (Value.int .u8 0).cells n) 5)) := h1.alloc h1.size _
  have hT := hT.below ((Below.refl w1.heap.size w1).alloc (Nat.le_refl _) (.cells (madeCells (Value.int .u8 0).cells n) 5)) hT.size
  have hBs := h1.size
  have hw2 : 2 ≤ w1.heap.size := by have := h1.size; omega
  generalize w1.alloc (.cells (madeCells (Value.int .u8 0).cells n) 5) = w2 at *
  clear hmk hi hz0 hz1 hz2 h1
  go_wp2_with fail
  go_loopw [6] (fun v wr => ∃ k : Nat, k ≤ n ∧ v = .int .i64 k ∧ RowB wr w1.heap.size (part c n k) ∧ Tabs wr ∧ Below W.heap.size W wr) (fun v _ => n - (intOf v).toNat)
  case atStart => exact ⟨0, by omega, rfl, by simpa [part] using r0, hT, hb⟩
  case round =>
    clear r0 hT hb
    obtain ⟨k, hk, rfl, r0, hT, hb⟩ := hrel
    have hpl := part_length c n k hk
    by_cases hlt : k < n
    · have hcell := r0.cell k (by omega)
      have hfz := frozen_of_row _ _ k _ _ r0
      have hT2 : Tabs (wr.setCell ⟨w1.heap.size, k, none⟩ (.int .u8 (c.toNat : Int))) := hT.below ((Turned.refl w1.heap.size wr).setCell k _ |>.below (n := 2) hw2 hT.size) (Nat.le_refl _)
      have hr2 := r0.set k c
      rw [part_set c n k hlt] at hr2
      have hl1 : (k : Int) < (n : Int) := by omega
      go_wp2_with fail
      exact ⟨⟨k + 1, by omega, rfl, hr2, hT2, hb.setCell hBs _⟩, by simp [intOf]; omega⟩
    · obtain rfl : k = n := by omega
      have hl1 : ¬ (k : Int) < (k : Int) := by omega
      have hpl2 : part c k k = List.replicate k c := by simp [part]
      have hconv := r0.back k k hpl
      obtain ⟨z, hz⟩ : ∃ z, z = ByteArray.mk (part c k k).toArray := ⟨_, rfl⟩
      have hzs : z.size = k := by rw [hz]; show (part c k k).toArray.size = k; rw [List.size_toArray, hpl]
      rw [← hz] at hconv
      have Hz := Lib.hid hz
      clear hz
      go_wp2_with fail
      refine (of_any _ _ hT (by omega)).mono ?_
      rintro e w3 ⟨rfl, h3⟩
      have r3 : RowB w3 w1.heap.size (part c k k) := (h3.block _ (Array.getElem?_eq_some_iff.1 r0).1).trans r0
      have hconv2 := r3.back k k hpl
      rw [← Hz.out] at hconv2
      have hb := hb.trans (h3.mono hb.size)
      have hlen : (ByteArray.mk (sum z.data.toList).toArray).size = 32 := by show (sum z.data.toList).toArray.size = 32; simp
      have HR := Lib.hid (fun w4 => refOf_any z (by omega) w4)
      clear r0 r3 h3 hT
      generalize ByteArray.mk (sum z.data.toList).toArray = y at *
      go_wp2_with fail
      refine (HR.out _).mono ?_
      rintro e w4 ⟨rfl, h4⟩
      have hb := hb.trans (h4.mono hb.size)
      clear h4
      go_wp2_with fail
      go_ret
      exact ⟨by simp, hb⟩
end Go.Proofs.YtiokfpkglnenoaaDoor.Sha
