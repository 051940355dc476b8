/- A State's sum, and the sum of bytes: the contracts of the program's. -/
import Derived.Test.YtpocfcenfpdjfaaDoorSha5
namespace Go.Proofs.YtpocfcenfpdjfaaDoor.Sha
open Go.ChangeShapes Go.WideShapes Go.ChangeAt Go.RowKit
set_option linter.unusedVariables false

theorem StateAt.lt {w : World} {b : Nat} {m : List UInt8} (h : StateAt w b m) : b < w.heap.size := by
  obtain ⟨s, _, h⟩ := h; exact h.lt
theorem StateAt.below {w w' : World} {b k : Nat} {m : List UInt8} (h : StateAt w b m) (hb : Below k w w') (hk : b < k) : StateAt w' b m := by
  obtain ⟨s, hs, h⟩ := h; exact ⟨s, hs, h.below hb hk⟩

theorem new_any (w : World) :
    Calls Tryd.prog 15 #[] w fun e w' => e = .returned (.pointer (some ⟨w.heap.size, 0, none⟩)) ∧ StateAt w' w.heap.size [] ∧ Below w.heap.size w w' := by
  go_enter Tryd.func15, Tryd.ntmps15
  go_wp2_with fail
  go_ret
  exact ⟨rfl, ⟨⟨0, 0, 0, 0, 0, 0, 0, 0⟩, fun h => absurd rfl h, heap_alloc_new w _⟩, (Below.refl _ _).alloc (Nat.le_refl _) _⟩

theorem sum_nil (w : World) :
    Calls Tryd.prog 20 #[.pointer none] w fun e w' => e = .returned (.string ⟨#[]⟩) ∧ w' = w := by
  go_enter Tryd.func20, Tryd.ntmps20
  go_wp2_with fail
  go_ret
  exact ⟨rfl, rfl⟩

theorem index_eight (s : St) (k : Nat) (hk : k < 8) (w : World) :
    (Instr.index 48 (.agg #[.int .u32 s.a, .int .u32 s.b, .int .u32 s.c, .int .u32 s.d, .int .u32 s.e, .int .u32 s.f, .int .u32 s.g, .int .u32 s.h]) (.int .i64 (k : Int))).run Tryd.prog w = .ok (.int .u32 (s.list.getD k 0)) w := by
  match k, hk with
  | 0, _ => rfl
  | 1, _ => rfl
  | 2, _ => rfl
  | 3, _ => rfl
  | 4, _ => rfl
  | 5, _ => rfl
  | 6, _ => rfl
  | 7, _ => rfl
  | k + 8, h => omega

set_option maxRecDepth 100000 in
set_option maxHeartbeats 1000000 in
theorem sum_any (m : List UInt8) (b : Nat) (w : World) (hS : StateAt w b m) (hT : Tabs w) (hm : m.length ≤ 30000) :
    Calls Tryd.prog 20 #[.pointer (some ⟨b, 0, none⟩)] w fun e w' => e = .returned (.string ⟨(sum m).toArray⟩) ∧ Below w.heap.size w w' := by
  obtain ⟨s, hs1, hH⟩ := hS
  have hlt := hH.lt
  have hi10 : ∀ r n, (Tryd.prog.info? 50).map (·.size) = some (stateRow s r n).size := fun _ _ => by kernel_rfl
  go_enter Tryd.func20, Tryd.ntmps20
  have hone : ∀ r n, (stateRow s r n).all (·.oneCell') = true := fun _ _ => by
    rw [Array.all_eq_true_iff_forall_mem]
    intro v hv
    simp [stateRow] at hv
    rcases hv with rfl | rfl | rfl | rfl | rfl | rfl | rfl | rfl | rfl | rfl <;> rfl
  go_wp2_with (first
    | refine wpList_load_row rfl 50 _ rfl b rfl _ _ _ _ hH Tryd.underlying50 rfl (hi10 _ _) ?_
    | (refine wpList_store_row rfl 50 _ _ rfl w.heap.size _ rfl rfl 50 _ (heap_alloc_new w _) (hi10 _ _) (by rfl) (hone _ _) ?_
       refine meet_laid _ _ _ _ (fun w2 hL hR => ?_)
       have hH2 := Holds.below hH hL hlt
       obtain ⟨-, -, -, -, -, -, -, -, -, c9⟩ := Holds.cells hH2))
  have hC : StateAt w2 w.heap.size m := ⟨s, hs1, hR⟩
  have hT2 := hT.below hL hT.size
  have hT2s := hT.size
  have Hb := Lib.hid hL
  clear hH2 hL hR hone hi10 c9 hs1 hH
  refine (ending_any _ (by omega) _).mono ?_
  rintro e w3 ⟨rfl, h3⟩
  have hC3 := hC.below h3 hC.lt
  have hT3 := hT2.below h3 hT2.size
  have Hb := Lib.hid (Hb.out.trans (h3.mono Hb.out.size))
  have htl : (tail m.length).toArray.size ≤ 200 := by simp [tail]; omega
  have Ha := Lib.hid (fun h1 h2 => add_any m ⟨(tail m.length).toArray⟩ w.heap.size w3 hC3 hT3 h1 h2)
  clear h3 hC
  obtain ⟨x, hx⟩ : ∃ x, x = ByteArray.mk (tail m.length).toArray := ⟨_, rfl⟩
  rw [← hx] at Ha ⊢
  have hxs : x.size ≤ 200 := by rw [hx]; exact htl
  have Hx := Lib.hid hx
  clear hx htl
  go_wp2_with fail
  refine (Ha.out hT2s (by omega)).mono ?_
  rintro e w4 ⟨rfl, ht4, hC4⟩
  have Hb := Lib.hid (Hb.out.trans (ht4.below (Nat.le_refl _) Hb.out.size))
  obtain ⟨s4, hs4, hH4⟩ := hC4
  have hok : s4.ok ∧ s4.bytes = sum m := by
    rw [hs4 (by rw [Hx.out]; simp [tail])]
    refine ⟨blocks_ok _ _ _ hs_ok, ?_⟩
    unfold sum
    rw [Hx.out]
    simp
  obtain ⟨hok, hby⟩ := hok
  have Hy := Lib.hid hby
  clear Ha ht4 hs4 hC3 hT3 hT2 hby
  obtain ⟨c0, c1, c2, c3, c4, c5, c6, c7, -, -⟩ := hH4.cells
  clear hH4
  go_wp2_with fail
  go_loopw [4, 6, 20] (fun v _ i wr => ∃ k : Nat, k ≤ 8 ∧ i = .int .i64 k ∧ v = .string ⟨(s4.upto k).toArray⟩ ∧ Below w.heap.size w wr)
    (fun _ _ i _ => 8 - (intOf i).toNat)
  case atStart => exact ⟨0, by omega, rfl, rfl, Hb.out⟩
  case round =>
    obtain ⟨k, hk, rfl, rfl, hb⟩ := hrel
    have hul := s4.upto_length k hk
    by_cases hlt : k < 8
    · have hix := fun w' => index_eight s4 k hlt w'
      have hsu := s4.upto_succ k hlt
      have hrg := hok k
      obtain ⟨n, hn⟩ : ∃ n : Nat, (n : Int) = s4.list.getD k 0 := ⟨(s4.list.getD k 0).toNat, by omega⟩
      rw [← hn] at hix hrg
      have hnn : (s4.list.getD k 0).toNat = n := by omega
      rw [hnn] at hsu
      have Hn := Lib.hid hsu
      have hn2 : n ≤ 4294967295 := by omega
      have hsz : (ByteArray.mk (s4.upto k).toArray).size ≤ 32 := by show (s4.upto k).toArray.size ≤ 32; rw [List.size_toArray, hul]; omega
      clear hn hnn hsu hrg
      have Hul := Lib.hid hul
      clear hul
      go_wp2_with fail
      refine (Oct.putU32_any _ _ _ _ (by omega) hn2).mono ?_
      rintro e w5 ⟨rfl, h5⟩
      have hb := hb.trans (h5.mono hb.size)
      have h4 : Oct.held 4 = 4 := by rw [Oct.held_mid] <;> omega
      rw [h4, Oct.bs_append, ← Hn.out]
      clear h5 h4
      go_wp2_with fail
      exact ⟨⟨k + 1, by omega, rfl, rfl, hb⟩, by simp [intOf]; omega⟩
    · obtain rfl : k = 8 := by omega
      have hn : ¬ ((8 : Nat) : Int) < 8 := by omega
      have Hf := Lib.hid (show s4.upto 8 = sum m from Hy.out)
      clear hul
      go_wp2_with fail
      go_ret
      exact ⟨by rw [← Hf.out]; rfl, hb⟩

theorem of_any (x : ByteArray) (w : World) (hT : Tabs w) (hx : x.size ≤ 30000) :
    Calls Tryd.prog 19 #[.string x] w fun e w' => e = .returned (.string ⟨(sum x.data.toList).toArray⟩) ∧ Below w.heap.size w w' := by
  have hl : x.data.toList.length = x.size := rfl
  go_enter Tryd.func19, Tryd.ntmps19
  go_wp2_with fail
  refine (new_any _).mono ?_
  rintro e w1 ⟨rfl, hC, h1⟩
  have hT1 := hT.below h1 hT.size
  have ht2 := hT.size
  go_wp2_with fail
  refine (add_any [] x w.heap.size w1 hC hT1 ht2 (by simp; omega)).mono ?_
  rintro e w2 ⟨rfl, ht, hC2⟩
  have hT2 := hT1.below (ht.below ht2 hT1.size) (by omega)
  have hb := h1.trans (ht.below (Nat.le_refl _) h1.size)
  rw [List.nil_append] at hC2
  clear hC ht h1 hT1
  go_wp2_with fail
  refine (sum_any _ w.heap.size w2 hC2 hT2 (by omega)).mono ?_
  rintro e w3 ⟨rfl, h3⟩
  have hb := hb.trans (h3.mono hb.size)
  clear hC2 h3 hT2
  go_wp2_with fail
  go_ret
  exact ⟨rfl, hb⟩
end Go.Proofs.YtpocfcenfpdjfaaDoor.Sha
