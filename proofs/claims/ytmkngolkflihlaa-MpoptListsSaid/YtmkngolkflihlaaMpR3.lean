/- The document's Put: its contract. -/
import Derived.Test.YtmkngolkflihlaaMpR2
import Derived.Test.YtmkngolkflihlaaRefPut1
import Derived.Test.YtmkngolkflihlaaStep
namespace Go.Proofs.Ytmkngolkflihlaa.Mp
open Go.ChangeShapes Go.WideShapes Go.ChangeAt Go.RowKit
set_option linter.unusedVariables false

/-- the kind and the first numbers, as bytes -/
def pre (m : M) : Nat → List UInt8
  | 0 => Oct.be m.kind.toNat 1
  | k + 1 => pre m k ++ Oct.be (fieldAt m k).toNat (zs m.kind k)
/-- the value of the option that says it -/
def putOf (m : M) : ByteArray := ⟨(pre m 5).toArray⟩ ++ m.bytes
/-- what Put gives -/
def putV (m : M) : Value := if check m = 0 then .tuple #[.agg #[.int .i64 46, .string (putOf m)], .int .i64 0] else .tuple #[.agg #[.int .i64 0, .string ⟨#[]⟩], .int .i64 (check m)]
theorem pre_length (m : M) : ∀ k, (pre m k).length ≤ 1 + 6 * k
  | 0 => by simp [pre]
  | k + 1 => by
    have := pre_length m k
    have := zs_le m.kind k
    simp [pre]
    omega
theorem hi2 (v0 v1 : Value) : (Try.prog.info? 26).map (·.size) = some (#[v0, v1] : Array Value).size := by
  show _ = some 2
  kernel_rfl
theorem hone2 (a : Int) (b : ByteArray) : (#[.int .i64 a, .string b] : Array Value).all (·.oneCell') = true := by simp [Value.oneCell']
/-- a result of several cells, and one in a slot -/
theorem results_row1 {P : Program} {fn : Func} {p u : Tmp} {ty : TypeId} (h : fn.results = #[.cell p ty, .tmp u]) (tmps : Array Value) (w : World) (g : Nat) (t : TypeId) (cs : Array Value) (fr : Nat × Nat) (d : TypeDesc)
    (hp : tmps.getD p undef = .pointer (some ⟨g, 0, none⟩)) (hg : w.heap[g]? = some (.cells cs t fr))
    (hu : P.underlying ty = some d) (hd : (match d with | .struct _ | .array _ _ => true | _ => false) = true) (hi : (P.info? ty).map (·.size) = some cs.size) :
    (results fn tmps).run P w = .ok (.tuple #[.agg cs, tmps.getD u undef]) w := by
  have hp' : tmps[p]?.getD undef = .pointer (some ⟨g, 0, none⟩) := by simpa using hp
  simp [results, h, hp', asAddr, run_loadVar_row w g t ty cs fr d hg hu hd hi]
theorem hi7m (v0 v1 v2 v3 v4 v5 v6 : Value) : (Try.prog.info? 23).map (·.size) = some (#[v0, v1, v2, v3, v4, v5, v6] : Array Value).size := by
  show _ = some 7
  kernel_rfl
/-- what is right has its numbers within their bounds -/
theorem field_ok (m : M) (h : check m = 0) (j : Nat) : 0 ≤ fieldAt m j ∧ fieldAt m j < 281474976710656 := by
  have hk : known m.kind = true := by
    cases hk : known m.kind
    · simp [check, hk] at h
    · rfl
  have hf : farAny m = false := by
    cases hf : farAny m
    · rfl
    · simp [check, hk, hf] at h
  have hv : vainAny m = false := by
    cases hv : vainAny m
    · rfl
    · simp only [check, hk, hf, hv] at h
      simp at h
      split at h <;> simp at h
  have key : ∀ z n, z ≤ 6 → far z n = false → vain z n = false → 0 ≤ n ∧ n < 281474976710656 := by
    intro z n hz h1 h2
    simp [far, vain] at h1 h2
    rcases (by omega : z = 0 ∨ z = 1 ∨ z = 2 ∨ z = 3 ∨ z = 4 ∨ z = 5 ∨ z = 6) with rfl | rfl | rfl | rfl | rfl | rfl | rfl <;> simp at h1 h2 <;> omega
  simp only [farAny, vainAny, Bool.or_eq_false_iff] at hf hv
  obtain ⟨⟨⟨⟨f0, f1⟩, f2⟩, f3⟩, f4⟩ := hf
  obtain ⟨⟨⟨⟨v0, v1⟩, v2⟩, v3⟩, v4⟩ := hv
  unfold fieldAt
  split
  · exact key _ _ (zs_le m.kind 0) f0 v0
  · exact key _ _ (zs_le m.kind 1) f1 v1
  · exact key _ _ (zs_le m.kind 2) f2 v2
  · exact key _ _ (zs_le m.kind 3) f3 v3
  · exact key _ _ (zs_le m.kind 4) f4 v4
theorem kind_ok (m : M) (h : check m = 0) : 0 ≤ m.kind ∧ m.kind ≤ 11 := by
  have hk : known m.kind = true := by
    cases hk : known m.kind
    · simp [check, hk] at h
    · rfl
  exact ⟨(known_le hk).1, (known_le hk).2.1⟩

theorem at_drew {w w' : World} (h : Below w.drew.heap.size w.drew w') : Below w.heap.size w w' := ⟨h.os, h.tape, h.output, h.size, h.block⟩
theorem refPutM (l : List UInt8) (v' v : Int) (z : Nat) (hz : z ≤ 8) (hv : v' = v) (h0 : 0 ≤ v ∧ v < 281474976710656) (hl : l.length ≤ 1000) (w : World) :
    Calls Try.prog 22 #[.string ⟨l.toArray⟩, .int .u64 v', .int .i64 (z : Nat)] w fun e w' => e = .returned (.string ⟨(l ++ Oct.be v.toNat z).toArray⟩) ∧ Below w.heap.size w w' := by
  subst hv
  obtain ⟨n, rfl⟩ := Int.eq_ofNat_of_zero_le h0.1
  refine (Oct.refPut_any ⟨l.toArray⟩ n (z : Nat) w (by show l.toArray.size ≤ 100000; simp; omega) (by omega)).mono ?_
  rintro e w' ⟨rfl, h⟩
  exact ⟨by rw [Oct.bs_append, show Oct.held (z : Nat) = z by unfold Oct.held; omega]; rfl, h⟩

set_option maxRecDepth 100000 in
set_option maxHeartbeats 4000000 in
theorem RefPut_any (m : M) (hs : m.bytes.size ≤ 4000) (w : World) : Calls Try.prog 7 #[vOf m] w
    fun e w' => e = .returned (putV m) ∧ Below w.heap.size w w' := by
  have b0 := (Below.refl w.heap.size w).alloc (Nat.le_refl _) (.cells (rowOf m) 23)
  have b1 := Lib.hid (b0.alloc b0.size (.cells #[.int .i64 0, .string ⟨#[]⟩] 26))
  have CC := Lib.hid (fun w => RefCheck_any m hs w)
  have n0 := heap_alloc_new w (.cells (rowOf m) 23)
  have n1 : ((w.alloc (.cells (rowOf m) 23)).alloc (.cells #[.int .i64 0, .string ⟨#[]⟩] 26)).heap[w.heap.size]? = some (.cells (rowOf m) 23 (0, 0)) := (Below.heap_alloc _ _ _ (by simp)).trans n0
  have n2 : ((w.alloc (.cells (rowOf m) 23)).alloc (.cells #[.int .i64 0, .string ⟨#[]⟩] 26)).heap[w.heap.size + 1]? = some (.cells #[.int .i64 0, .string ⟨#[]⟩] 26 (0, 0)) := by
    have := heap_alloc_new (w.alloc (.cells (rowOf m) 23)) (.cells #[.int .i64 0, .string ⟨#[]⟩] 26)
    rwa [show (w.alloc (.cells (rowOf m) 23)).heap.size = w.heap.size + 1 by simp] at this
  have N1 := Lib.hid n1
  have N2 := Lib.hid n2
  clear n0 n1 n2 b0
  unfold vOf at *
  unfold rowOf at N1 b1 N2
  by_cases he : check m = 0
  · have HV := Lib.hid (show putV m = .tuple #[.agg #[.int .i64 46, .string (putOf m)], .int .i64 0] from if_pos he)
    have hF := fun j => field_ok m he j
    have hK := kind_ok m he
    rw [he] at CC
    have CS := Lib.hid (fun w => RefSizes_any m.kind w)
    rw [show zv m.kind = .agg (zrow m.kind) from rfl] at CS
    unfold zrow at CS
    go_enter Try.func7, Try.ntmps7
    go_wp2_with (first
      | refine wpList_load_row rfl 23 _ rfl w.heap.size rfl _ _ _ _ N1.out Try.underlying23 rfl (hi7m _ _ _ _ _ _ _) ?_
      | (go_at_call 10; refine (CC.out _).mono ?_; rintro e w1 ⟨rfl, hb1⟩; have r1 := (hb1.block w.heap.size (by simp; omega)).trans N1.out; have r2 := (hb1.block (w.heap.size + 1) (by simp)).trans N2.out; have B1 := Lib.hid (b1.out.trans (hb1.mono (by simp; omega))); have s1 : w.heap.size + 2 ≤ w1.heap.size := (by have := hb1.size; simp at this; omega); obtain ⟨c0, c1, c2, c3, c4, c5, c6⟩ := cells7 (m := m) r1))
    refine (CS.out _).mono ?_
    rintro e w2 ⟨rfl, hb2⟩
    have r1' := (hb2.block w.heap.size (by omega)).trans r1
    have r2' := (hb2.block (w.heap.size + 1) (by omega)).trans r2
    have s2 : w.heap.size + 2 ≤ w2.heap.size := Nat.le_trans s1 hb2.size
    have B2 := Lib.hid (B1.out.trans (hb2.mono (by omega)))
    clear hb2 r1 r2 B1 b1 c0 c1 c2 c3 c4 c5 c6 s1 N1 N2 CC CS
    have N2 := Lib.hid (heap_alloc_new w2 (.cells #[.int .i64 0, .int .i64 0, .int .i64 0, .int .i64 0, .int .i64 0, .int .i64 0, .int .i64 0] 53))
    go_wp2_with (first
      | (refine wpList_store_row rfl 53 _ _ rfl w2.heap.size _ rfl rfl 53 _ N2.out (hi7 _ _ _ _ _ _ _) rfl (hone7 _ _ _ _ _ _ _) ?_
         refine meet_row _ _ _ _ (fun w3 hb3 hs3 hz3 => ?_)
         have r1 := (hb3.block w.heap.size (by omega)).trans r1'
         obtain ⟨c0, c1, c2, c3, c4, c5, c6⟩ := cells7 (m := m) r1
         have d0 : (w3.alloc (.cells #[.int .i64 m.addr, .int .i64 m.prio, .int .i64 m.token, .int .i64 m.nonce, .int .i64 m.num] 55)).cell? ⟨w.heap.size, 0, none⟩ = some (.int .i64 m.kind) := (cell_of_row _ _ _ _ _ _ ((Below.heap_alloc _ _ _ (by omega)).trans r1)).trans rfl)
      | fail)
    obtain ⟨W, hW⟩ : ∃ W, W = w3.alloc (.cells #[.int .i64 m.addr, .int .i64 m.prio, .int .i64 m.token, .int .i64 m.nonce, .int .i64 m.num] 55) := ⟨_, rfl⟩
    have T : Three W w.heap.size w2.heap.size (w2.heap.size + 1) m := by
      subst hW
      exact ⟨(Below.heap_alloc _ _ _ (by omega)).trans r1, (Below.heap_alloc _ _ _ (by omega)).trans hz3, by have := heap_alloc_new w3 (.cells (lrow m) 55); rw [hs3] at this; exact this⟩
    have r5 : W.heap[w.heap.size + 1]? = some (.cells #[.int .i64 0, .string ⟨#[]⟩] 26 (0, 0)) := by
      subst hW
      exact (Below.heap_alloc _ _ _ (by omega)).trans ((hb3.block _ (by omega)).trans r2')
    have sW : w2.heap.size + 2 = W.heap.size := by subst hW; simp; omega
    have BW := Lib.hid (show Below w.heap.size w W by subst hW; exact (B2.out.trans (hb3.mono (by omega))).alloc (by omega) _)
    rw [← hW]
    clear hW N2 B2 hb3 hs3 hz3 r1 r1' r2' c0 c1 c2 c3 c4 c5 c6 d0
    have T' := Lib.hid T
    have R5 := Lib.hid r5
    clear T r5
    refine (refPutM [] _ m.kind 1 (by omega) (by first | rfl | (simp only [IntKind.wrap_u64]; omega) | omega) ⟨hK.1, by omega⟩ (by simp) _).mono ?_
    rintro e w4 ⟨rfl, hb4⟩
    rw [List.nil_append, show Oct.be m.kind.toNat 1 = pre m 0 from rfl]
    go_wp2_with fail
    go_loopw [7, 8] (fun t i wr => ∃ k : Nat, k ≤ 5 ∧ i = .int .i64 k ∧ t = .string ⟨(pre m k).toArray⟩ ∧ Below W.heap.size W wr) (fun _ i _ => 5 - (intOf i).toNat)
    case atStart => exact ⟨0, by omega, rfl, rfl, hb4⟩
    case round =>
      obtain ⟨k, hk5, rfl, rfl, hB⟩ := hrel
      by_cases hlt : k < 5
      · have HB := Lib.hid hB
        have KP := Lib.hid (show ∀ w', Below W.heap.size W w' → w'.cell? ⟨w2.heap.size + 1, k, none⟩ = some (.int .i64 (fieldAt m k)) ∧ w'.cell? ⟨w2.heap.size, k, none⟩ = some (.int .i64 (zs m.kind k : Nat)) from fun w' h =>
          ⟨lcell ((h.block _ (by omega)).trans T'.out.nums) k hlt, zcell ((h.block _ (by omega)).trans T'.out.sizes) k hlt⟩)
        have hx := hF k
        have hz6 : zs m.kind k ≤ 8 := Nat.le_trans (zs_le _ _) (by omega)
        have hpl : (pre m k).length ≤ 1000 := Nat.le_trans (pre_length m k) (by omega)
        have hl5 : (k : Int) < 5 := by omega
        have hl7 : (k : Int) < 7 := by omega
        have hnext := Lib.hid (show pre m (k + 1) = pre m k ++ Oct.be (fieldAt m k).toNat (zs m.kind k) from rfl)
        generalize zs m.kind k = z at *
        generalize fieldAt m k = x at *
        have v4 := KP.out _ HB.out.drew
        clear hB
        go_wp2_with fail
        refine Step.start (S := (fun w' => w'.cell? ⟨w2.heap.size + 1, k, none⟩ = some (.int .i64 x) ∧ w'.cell? ⟨w2.heap.size, k, none⟩ = some (.int .i64 z))) (by kernel_rfl) (by (try dsimp only); first | exact v4 | exact v6) (fun hHeld => ?_)
        refine Step.take (i := 0) rfl (by kernel_rfl) (by kernel_rfl) (by kernel_rfl) (fun _ _ _ h => h) (by rfl) (by (intro w hSw; (try dsimp only at hSw); go_simp; try (with_reducible rfl))) (by assumption) ?_
        try simp only [Act.put, List.setIfInBounds_toArray, List.set_cons_zero, List.set_cons_succ]
        refine Step.take (i := 1) rfl (by kernel_rfl) (by kernel_rfl) (by kernel_rfl) (fun _ _ _ h => h) (by rfl) (by (intro w hSw; (try dsimp only at hSw); go_simp; try (with_reducible rfl))) (by assumption) ?_
        try simp only [Act.put, List.setIfInBounds_toArray, List.set_cons_zero, List.set_cons_succ]
        refine Step.take (i := 2) rfl (by kernel_rfl) (by kernel_rfl) (by kernel_rfl) (fun _ _ _ h => h) (by rfl) (by (intro w hSw; (try dsimp only at hSw); go_simp; try (with_reducible rfl))) (by assumption) ?_
        try simp only [Act.put, List.setIfInBounds_toArray, List.set_cons_zero, List.set_cons_succ]
        refine Step.take (i := 3) rfl (by kernel_rfl) (by kernel_rfl) (by kernel_rfl) (fun _ _ _ h => h) (by rfl) (by (intro w hSw; (try dsimp only at hSw); go_simp; try (with_reducible rfl))) (by assumption) ?_
        try simp only [Act.put, List.setIfInBounds_toArray, List.set_cons_zero, List.set_cons_succ]
        refine Step.take (i := 4) rfl (by kernel_rfl) (by kernel_rfl) (by kernel_rfl) (fun _ _ _ h => h) (by rfl) (by (intro w hSw; (try dsimp only at hSw); go_simp; try (with_reducible rfl))) (by assumption) ?_
        try simp only [Act.put, List.setIfInBounds_toArray, List.set_cons_zero, List.set_cons_succ]
        refine Step.take (i := 5) rfl (by kernel_rfl) (by kernel_rfl) (by kernel_rfl) (fun _ _ _ h => h) (by rfl) (by (intro w hSw; (try dsimp only at hSw); go_simp; try (with_reducible rfl))) (by assumption) ?_
        try simp only [Act.put, List.setIfInBounds_toArray, List.set_cons_zero, List.set_cons_succ]
        refine Step.take (i := 6) rfl (by kernel_rfl) (by kernel_rfl) (by kernel_rfl) (fun _ _ _ h => h) (by rfl) (by (intro w hSw; (try dsimp only at hSw); go_simp; try (with_reducible rfl))) (by assumption) ?_
        try simp only [Act.put, List.setIfInBounds_toArray, List.set_cons_zero, List.set_cons_succ]
        refine Step.take (i := 7) rfl (by kernel_rfl) (by kernel_rfl) (by kernel_rfl) (fun _ _ _ h => h) (by rfl) (by (intro w hSw; (try dsimp only at hSw); go_simp; try (with_reducible rfl))) (by assumption) ?_
        try simp only [Act.put, List.setIfInBounds_toArray, List.set_cons_zero, List.set_cons_succ]
        refine Step.call (i := 8) rfl (by kernel_rfl) (by rfl) (fun K hK => ?_)
        go_simp
        (go_at_call 22; refine (refPutM (pre m k) _ x z hz6 (by first | rfl | (simp only [IntKind.wrap_u64]; omega) | omega) hx hpl _).mono ?_; rintro e w6 ⟨rfl, h6⟩; have H6 := Lib.hid (HB.out.trans ((at_drew h6).mono HB.out.size)); have v6 := KP.out _ H6.out; clear h6)
        try (go_wp2_with fail)
        refine hK.out _ _ (by (try dsimp only); first | exact v4 | exact v6) (fun hHeld => ?_)
        clear hK K
        try simp only [Act.put, List.setIfInBounds_toArray, List.set_cons_zero, List.set_cons_succ]
        refine Step.take (i := 9) rfl (by kernel_rfl) (by kernel_rfl) (by kernel_rfl) (fun _ _ _ h => h) (by rfl) (by (intro w hSw; (try dsimp only at hSw); go_simp; try (with_reducible rfl))) (by assumption) ?_
        try simp only [Act.put, List.setIfInBounds_toArray, List.set_cons_zero, List.set_cons_succ]
        refine wpAnyH_done (by kernel_rfl) ?_ _
        go_wp2_with fail
        exact ⟨⟨k + 1, by omega, by go_num, by rw [hnext.out], H6.out⟩, by simp [intOf]; omega⟩
      · obtain rfl : k = 5 := by omega
        have r5 := (hB.block (w.heap.size + 1) (by omega)).trans R5.out
        obtain ⟨c0, c1, c2, c3, c4, c5, c6⟩ := cells7 (m := m) ((hB.block w.heap.size (by omega)).trans T'.out.box)
        clear c0 c1 c2 c3 c4 c5
        have hpl : (pre m 5).length ≤ 1000 := Nat.le_trans (pre_length m 5) (by omega)
        have B6 := Lib.hid (BW.out.trans (hB.mono (by omega)))
        clear hB
        go_wp2_with (refine wpList_store_row rfl 26 _ _ rfl (w.heap.size + 1) _ rfl rfl 26 _ r5 (hi2 _ _) rfl (hone2 _ _) ?_)
        refine bodyPost_ret (results_row1 Try.results7 _ _ (w.heap.size + 1) 26 _ (0, 0) _ rfl (setRow_heap _ _ _ _ _ _ r5) Try.underlying26 rfl (hi2 _ _)) rfl ?_
        exact ⟨by rw [HV.out]; rfl, below_setRow B6.out (Nat.le_succ _) _⟩
  · have HV := Lib.hid (show putV m = .tuple #[.agg #[.int .i64 0, .string ⟨#[]⟩], .int .i64 (check m)] from if_neg he)
    generalize check m = er at *
    have hne : (er != 0) = true := by simpa using he
    go_enter Try.func7, Try.ntmps7
    go_wp2_with (first
      | refine wpList_load_row rfl 23 _ rfl w.heap.size rfl _ _ _ _ N1.out Try.underlying23 rfl (hi7m _ _ _ _ _ _ _) ?_
      | (go_at_call 10; refine (CC.out _).mono ?_; rintro e w1 ⟨rfl, hb1⟩; have r2 := (hb1.block (w.heap.size + 1) (by simp)).trans N2.out; have B1 := Lib.hid (b1.out.trans (hb1.mono (by simp; omega))))
      | refine wpList_store_row rfl 26 _ _ rfl (w.heap.size + 1) _ rfl rfl 26 _ r2 (hi2 _ _) rfl (hone2 _ _) ?_)
    refine bodyPost_ret (results_row1 Try.results7 _ _ (w.heap.size + 1) 26 _ (0, 0) _ rfl (setRow_heap _ _ _ _ _ _ r2) Try.underlying26 rfl (hi2 _ _)) rfl ?_
    exact ⟨by rw [HV.out]; rfl, below_setRow B1.out (Nat.le_succ _) _⟩
end Go.Proofs.Ytmkngolkflihlaa.Mp
