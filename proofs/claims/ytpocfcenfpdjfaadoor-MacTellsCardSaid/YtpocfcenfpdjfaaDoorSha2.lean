/- The 64 numbers of a block: the contract of the program's. -/
import Derived.Test.YtpocfcenfpdjfaaDoorSha1
import Derived.Test.YtpocfcenfpdjfaaDoorOfU32
import Derived.Deep.WholeRow
import Derived.IntWalk
import Derived.StillTailTactics
import Derived.WalkSmall
import Derived.Laws.CopyOwn
import Derived.Laws.Tables
namespace Go.Proofs.YtpocfcenfpdjfaaDoor.Sha
open Go.ChangeShapes Go.WideShapes Go.ChangeAt Go.RowKit
set_option linter.unusedVariables false

/-- a block that holds numbers -/
def Row (w : World) (B : Nat) (t : TypeId) (xs : List Int) : Prop := w.heap[B]? = some (.cells (xs.map (Value.int .u32)).toArray t (0, 0))

theorem Row.cell {w : World} {B : Nat} {t : TypeId} {xs : List Int} (h : Row w B t xs) (j : Nat) (hj : j < xs.length) : w.cell? ⟨B, j, none⟩ = some (.int .u32 (xs.getD j 0)) := by
  rw [cell_of_row _ _ _ _ _ _ h]
  simp [List.getD, List.getElem?_eq_getElem hj]
theorem Row.froz {w : World} {B : Nat} {t : TypeId} {xs : List Int} (h : Row w B t xs) (j : Nat) : w.frozen? ⟨B, j, none⟩ = false := frozen_of_row _ _ _ _ _ h
theorem Row.lt {w : World} {B : Nat} {t : TypeId} {xs : List Int} (h : Row w B t xs) : B < w.heap.size := (Array.getElem?_eq_some_iff.1 h).1
theorem Row.below {w w' : World} {B n : Nat} {t : TypeId} {xs : List Int} (h : Row w B t xs) (hb : Below n w w') (hn : B < n) : Row w' B t xs := (hb.block B hn).trans h
theorem Row.set {w : World} {B : Nat} {t : TypeId} {xs : List Int} (h : Row w B t xs) (k : Nat) (v : Int) : Row (w.setCell ⟨B, k, none⟩ (.int .u32 v)) B t (xs.set k v) := by
  unfold Row
  rw [heap_setCell_same _ _ _ _ _ _ h]
  simp
theorem Row.other {w : World} {B : Nat} {t : TypeId} {xs : List Int} (h : Row w B t xs) (a : Addr) (v : Value) (hB : B ≠ a.block) : Row (w.setCell a v) B t xs := (heap_setCell_other _ _ _ _ hB).trans h

theorem Row.fresh (w : World) (t : TypeId) (xs : List Int) : Row (w.alloc (.cells (xs.map (Value.int .u32)).toArray t)) w.heap.size t xs := heap_alloc_new w _

theorem word_is (s : ByteArray) (k : Nat) (hs : s.size = 64) (hk : k < 16) : IntKind.u32.wrap (Oct.whole (s.extract (4 * k) (4 * (k + 1)))) = word s.data.toList k := by
  unfold Oct.whole word
  have h1 : (s.extract (4 * k) (4 * (k + 1))).data.toList = (s.data.toList.drop (4 * k)).take 4 := by
    rw [ByteArray.data_extract]
    simp [List.take_drop]
    rw [show 4 * (k + 1) - 4 * k = 4 by omega]
  rw [h1]
  have h2 := Oct.num_lt ((s.data.toList.drop (4 * k)).take 4)
  have h3 : ((s.data.toList.drop (4 * k)).take 4).length ≤ 4 := by simp; omega
  have h4 : 256 ^ ((s.data.toList.drop (4 * k)).take 4).length ≤ 256 ^ 4 := Nat.pow_le_pow_right (by omega) h3
  rw [IntKind.wrap_u32']
  omega

theorem drawn_below (w : World) (n : Nat) : Below w.heap.size w (w.drewN n) := below_drewN (Below.refl _ _) n
/-- a drawn region whose operations but for the last ones only read: the world under a name -/
theorem still_tail {P : Program} {id : Nat} {Q : Exit → Act → World → Prop} {a : Act} {w : World} {l : List Oper} (n : Nat) (hm : P.follows .mixedOrders = true) (hB : Region.lexTailB .any l.toArray n = true)
    (h : ∀ w2, Below w.heap.size w w2 → wpStill P l.toArray w2 (fun a' => wpList P l.toArray Q (l.drop n) a' w2) (l.take n) a) : (Code.region id l.toArray true).wp P Q a w :=
  wp_region_still_tail n hm hB (h w.drew (Below.refl _ _).drew)
theorem ints_one (xs : List Int) : (xs.map (Value.int .u32)).toArray.all (·.oneCell') = true := by
  rw [Array.all_eq_true_iff_forall_mem]
  intro v hv
  simp at hv
  obtain ⟨x, _, rfl⟩ := hv
  rfl
theorem words_set (l : List UInt8) (k : Nat) (v : Int) (hk : k < 64) (hv : next l (words l k) = v) :
    (words l k ++ List.replicate (64 - k) 0).set k v = words l (k + 1) ++ List.replicate (64 - (k + 1)) 0 := by
  subst hv
  rw [List.set_append_right _ _ (by simp)]
  rw [words, List.append_assoc, words_length, Nat.sub_self, show 64 - k = (64 - (k + 1)) + 1 by omega, List.replicate_succ, List.set_cons_zero]
  rfl
theorem words_at (l : List UInt8) (k j : Nat) (h : j < k) : (words l k ++ List.replicate (64 - k) 0).getD j 0 = (words l k).getD j 0 := by
  simp only [List.getD]
  rw [List.getElem?_append_left (by simp; omega)]
theorem next_low (l : List UInt8) (k : Nat) (h : k < 16) : next l (words l k) = word l k := by
  unfold next
  rw [if_pos (by simp; omega), words_length]

set_option maxHeartbeats 400000 in
theorem spread_any (s : ByteArray) (w : World) (hs : s.size = 64) :
    Calls Tryd.prog 42 #[.string s] w fun e w' => e = .returned (.agg ((words s.data.toList 64).map (Value.int .u32)).toArray) ∧ Below w.heap.size w w' := by
  go_enter Tryd.func42, Tryd.ntmps42
  go_wp2_with fail
  go_loopw [4, 5, 6, 7, 8, 9] (fun _ _ _ _ _ i wr => ∃ k : Nat, k ≤ 64 ∧ i = .int .i64 k ∧ Row wr (w.heap.size + 1) 70 (words s.data.toList k ++ List.replicate (64 - k) 0) ∧ Row wr w.heap.size 70 (List.replicate 64 0) ∧ Below w.heap.size w wr)
    (fun _ _ _ _ _ i _ => 64 - (intOf i).toNat)
  case atStart =>
    exact ⟨0, by omega, rfl, heap_alloc2_new w _ _, heap_alloc2_old w _ _, ((Below.refl _ _).alloc (Nat.le_refl _) _).alloc (by simp) _⟩
  case round =>
    obtain ⟨k, hk, rfl, hr, ho, hb⟩ := hrel
    by_cases hlt : k < 64
    · have hlen : (words s.data.toList k ++ List.replicate (64 - k) 0).length = 64 := by simp; omega
      have hz := hr.froz k
      have hc := hr.cell k (by omega)
      by_cases h16 : k < 16
      · go_wp2_with fail
        refine (Oct.ofU32_any _ _ (by simp; omega)).mono ?_
        rintro e w1 ⟨rfl, h1⟩
        rw [word_is s k hs h16]
        have hr := hr.below h1 hr.lt
        have ho := ho.below h1 ho.lt
        have hb := hb.trans (h1.mono hb.size)
        have hz := hr.froz k
        have hc := hr.cell k (by omega)
        have Hn := Lib.hid (words_set s.data.toList k _ hlt (next_low s.data.toList k h16))
        clear h1
        go_wp2_with fail
        exact ⟨⟨k + 1, by omega, rfl, by have := hr.set k (word s.data.toList k); rwa [Hn.out] at this, ho.other _ _ (by simp), hb.setCell (by simp) _⟩, by simp [intOf]; omega⟩
      · have e16 := words_at s.data.toList k (k - 16) (by omega)
        have e15 := words_at s.data.toList k (k - 15) (by omega)
        have e7 := words_at s.data.toList k (k - 7) (by omega)
        have e2 := words_at s.data.toList k (k - 2) (by omega)
        have c16 := hr.cell (k - 16) (by omega)
        have c15 := hr.cell (k - 15) (by omega)
        have c7 := hr.cell (k - 7) (by omega)
        have c2 := hr.cell (k - 2) (by omega)
        rw [e16] at c16
        rw [e15] at c15
        rw [e7] at c7
        rw [e2] at c2
        clear e16 e15 e7 e2
        have hx : next s.data.toList (words s.data.toList k) = ((words s.data.toList k).getD (k - 16) 0 + sig0 ((words s.data.toList k).getD (k - 15) 0) + (words s.data.toList k).getD (k - 7) 0 + sig1 ((words s.data.toList k).getD (k - 2) 0)) % 4294967296 := by
          unfold next
          rw [if_neg (by simp; omega), words_length]
        have Hn := Lib.hid (words_set s.data.toList k _ hlt hx)
        clear hx
        generalize (words s.data.toList k).getD (k - 16) 0 = x16 at *
        generalize (words s.data.toList k).getD (k - 15) 0 = x15 at *
        generalize (words s.data.toList k).getD (k - 7) 0 = x7 at *
        generalize (words s.data.toList k).getD (k - 2) 0 = x2 at *
        have b16 : (0 : Int) ≤ (k : Int) - 16 ∧ (k : Int) - 16 < 64 := by omega
        have b15 : (0 : Int) ≤ (k : Int) - 15 ∧ (k : Int) - 15 < 64 := by omega
        have b7 : (0 : Int) ≤ (k : Int) - 7 ∧ (k : Int) - 7 < 64 := by omega
        have b2 : (0 : Int) ≤ (k : Int) - 2 ∧ (k : Int) - 2 < 64 := by omega
        have n16 : ((k : Int) - 16).toNat = k - 16 := by omega
        have n15 : ((k : Int) - 15).toNat = k - 15 := by omega
        have n7 : ((k : Int) - 7).toNat = k - 7 := by omega
        have n2 : ((k : Int) - 2).toNat = k - 2 := by omega
        have i16 : IntKind.i64.wrap ((k : Int) - 16) = (k : Int) - 16 := IntWalk.i64_in _ (by omega)
        have i15 : IntKind.i64.wrap ((k : Int) - 15) = (k : Int) - 15 := IntWalk.i64_in _ (by omega)
        have i7 : IntKind.i64.wrap ((k : Int) - 7) = (k : Int) - 7 := IntWalk.i64_in _ (by omega)
        have i2 : IntKind.i64.wrap ((k : Int) - 2) = (k : Int) - 2 := IntWalk.i64_in _ (by omega)
        go_wp2_with fail
        go_quiet (fail)
        go_wp2_with (go_at_call 43; refine (ror_any _ _ (by omega) (by omega) _).mono ?_; rintro e w' ⟨rfl, rfl⟩)
        have hD0 := drawn_below wr nq
        have hz0 : (wr.drewN nq).heap.size = wr.heap.size := by simp
        refine still_tail 15 (by kernel_rfl) (by kernel_rfl) (fun w2 hD1 => ?_)
        have hD := hD0.trans (hD1.mono (by omega))
        have hlt1 := hr.lt
        have hr := hr.below hD hr.lt
        have ho := ho.below hD ho.lt
        have hb := hb.trans (hD.mono hb.size)
        have hz := hr.froz k
        have hc := hr.cell k (by omega)
        rw [← hD.cell (p := ⟨w.heap.size + 1, k - 16, none⟩) hlt1] at c16
        rw [← hD.cell (p := ⟨w.heap.size + 1, k - 7, none⟩) hlt1] at c7
        clear c15 c2 hD hD0 hD1 hz0 hlt1
        have g7 : (7 : Int) ≤ (k : Int) := by omega
        have g7' : (k : Int) - 7 < 64 := by omega
        have gk : (k : Int) < 64 := by omega
        simp only [List.take_succ_cons, List.take_zero, List.drop_succ_cons, List.drop_zero]
        repeat still_step
        try refine wpStill_nil ?_
        go_wp2_with fail
        exact ⟨⟨k + 1, by omega, rfl, (congrArg (Row _ _ _) Hn.out).mp (hr.set k _), ho.other _ _ (by simp), hb.setCell (by simp) _⟩, by simp [intOf]; omega⟩
    · obtain rfl : k = 64 := by omega
      have hn : ¬ ((64 : Nat) : Int) < 64 := by omega
      have hr : Row wr (w.heap.size + 1) 70 (words s.data.toList 64) := by simpa using hr
      have hl := words_length s.data.toList 64
      obtain ⟨xs, hxs⟩ : ∃ xs, xs = words s.data.toList 64 := ⟨_, rfl⟩
      rw [← hxs] at hr hl
      have Hx := Lib.hid hxs
      clear hxs
      have hi64 : (Tryd.prog.info? 70).map (·.size) = some (xs.map (Value.int .u32)).toArray.size := by simp only [List.size_toArray, List.length_map, hl]; kernel_rfl
      have hold : (List.map (Value.int .u32) (List.replicate 64 (0 : Int))).toArray.size = (xs.map (Value.int .u32)).toArray.size := by simp [hl]
      have hone := ints_one xs
      have hnew := setRow_heap wr w.heap.size _ (xs.map (Value.int .u32)).toArray _ _ ho
      have hbn := below_setRow hb (Nat.le_refl _) (xs.map (Value.int .u32)).toArray
      unfold Row at hr ho
      obtain ⟨cs, hcs⟩ : ∃ cs, cs = (xs.map (Value.int .u32)).toArray := ⟨_, rfl⟩
      rw [← hcs] at hr hi64 hold hone hnew hbn
      have Hc := Lib.hid hcs
      clear hcs
      go_wp2_with (first
        | refine wpList_load_row rfl 70 _ rfl (w.heap.size + 1) rfl 70 cs _ _ hr Tryd.underlying70 rfl hi64 ?_
        | refine wpList_store_row rfl 70 _ _ rfl w.heap.size cs rfl rfl 70 _ ho hi64 hold hone ?_)
      refine bodyPost_ret (v := .agg cs) ?_ rfl ⟨by rw [Hc.out, Hx.out], hbn⟩
      exact results_cell_row Tryd.results42 _ _ w.heap.size 70 cs (0, 0) _ (by rfl) hnew Tryd.underlying70 (by rfl) hi64
end Go.Proofs.YtpocfcenfpdjfaaDoor.Sha
