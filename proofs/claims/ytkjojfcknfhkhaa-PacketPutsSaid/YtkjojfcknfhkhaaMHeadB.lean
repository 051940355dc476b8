/- The document's Get: its contract. -/
import Derived.Test.YtkjojfcknfhkhaaMHeadX
import Derived.Test.YtkjojfcknfhkhaaHead5
import Derived.Test.YtkjojfcknfhkhaaHead9
namespace Go.Proofs.Ytkjojfcknfhkhaa.Head
open Go.ChangeShapes Go.WideShapes Go.ChangeAt Go.RowKit
open Go.Proofs.Ytkjojfcknfhkhaa.Oct (num num_lt size_list whole refOf_any)
set_option linter.unusedVariables false

theorem alloc_head (a : Act) (W : World) (o : Oper) (ho : o.op = .alloc 43) :
    (execOp a.eval o).run Try.prog W = .ok (.value (.pointer (some ⟨W.heap.size, 0, none⟩))) (W.alloc (.cells #[.int .i64 0, .int .i64 0, .int .i64 0, .int .i64 0, .int .i64 0, .int .i64 0, .int .i64 0, .bool false, .int .i64 0] 43)) := by
  unfold execOp
  simp only [ho]
  simp [go_sem, Instr.alloc]

theorem results_row2d {P : Program} {fn : Func} {p u v : Tmp} {ty : TypeId} (h : fn.results = #[.cell p ty, .tmp u, .tmp v]) (tmps : Array Value) (w : World) (g : Nat) (t : TypeId) (cs : Array Value) (fr : Nat × Nat) (d : TypeDesc)
    (hp : tmps.getD p undef = .pointer (some ⟨g, 0, none⟩)) (hg : w.heap[g]? = some (.cells cs t fr))
    (hu : P.underlying ty = some d) (hd : (match d with | .struct _ | .array _ _ => true | _ => false) = true) (hi : (P.info? ty).map (·.size) = some cs.size) :
    (results fn tmps).run P w.drew = .ok (.tuple #[.agg cs, tmps.getD u undef, tmps.getD v undef]) w.drew :=
  results_row2 h tmps w.drew g t cs fr d hp hg hu hd hi

/-- a drawn region whose operations but for the last ones only read: the world under a name -/
theorem still_tail {P : Program} {id : Nat} {Q : Exit → Act → World → Prop} {a : Act} {w : World} {l : List Oper} (n : Nat) (hm : P.follows .mixedOrders = true) (hB : Region.lexTailB .any l.toArray n = true)
    (h : ∀ w2, Below w.heap.size w w2 → wpStill P l.toArray w2 (fun a' => wpList P l.toArray Q (l.drop n) a' w2) (l.take n) a) : (Code.region id l.toArray true).wp P Q a w :=
  wp_region_still_tail n hm hB (h w.drew (Below.refl _ _).drew)

set_option maxRecDepth 100000 in
set_option maxHeartbeats 16000000 in
theorem refGet_any (s : ByteArray) (hs : s.size ≤ 4000) (w : World) :
    Calls Try.prog 41 #[.string s] w (GetEnd s w) := by
  have z0 := Box9.new w B.none
  have hb0 := Lib.hid ((Below.refl w.heap.size w).alloc (Nat.le_refl _) (.cells #[.int .i64 0, .int .i64 0, .int .i64 0, .int .i64 0, .int .i64 0, .int .i64 0, .int .i64 0, .bool false, .int .i64 0] 43))
  by_cases h12 : s.size < 12
  · have HG := Lib.hid (get_short (s := s) (.inl h12))
    go_enter Try.func41, Try.ntmps41
    go_wp2_with (refine wpList_store_row rfl 43 _ _ rfl w.heap.size _ rfl rfl 43 _ z0 (hi9 _ _ _ _ _ _ _ _ _) rfl (hone9 _ _ _ _ _ _ _ _ _) ?_)
    refine bodyPost_ret (results_row2 Try.results41 _ _ w.heap.size 43 _ (0, 0) _ rfl (setRow_heap _ _ _ _ _ _ z0) Try.underlying43 rfl (hi9 _ _ _ _ _ _ _ _ _)) rfl ?_
    exact ⟨by rw [HG.out]; rfl, below_row hb0.out _ _ (Nat.le_refl _)⟩
  have hlen : 12 ≤ s.size := by omega
  have l8 : (8 : Int) < s.size := by omega
  have l9 : (9 : Int) < s.size := by omega
  have hL := isLong_byte s hlen
  have hK := kept_byte s hlen
  have hu8 : s[8].toNat < 256 := UInt8.toNat_lt _
  have hu9 : s[9].toNat < 256 := UInt8.toNat_lt _
  by_cases hodd : s[8].toNat % 2 = 1
  · rw [show (s[8].toNat % 2 == 1) = true by simpa using hodd] at hL hK
    have ho : ((s[8].toNat : Int) % 2 == 1) = true := by simp; omega
    by_cases h16 : s.size < 16
    · have HG := Lib.hid (get_short (s := s) (.inr ⟨hL, h16⟩))
      clear hL hK
      go_enter Try.func41, Try.ntmps41
      go_wp2_with (refine wpList_store_row rfl 43 _ _ rfl w.heap.size _ rfl rfl 43 _ z0 (hi9 _ _ _ _ _ _ _ _ _) rfl (hone9 _ _ _ _ _ _ _ _ _) ?_)
      refine bodyPost_ret (results_row2 Try.results41 _ _ w.heap.size 43 _ (0, 0) _ rfl (setRow_heap _ _ _ _ _ _ z0) Try.underlying43 rfl (hi9 _ _ _ _ _ _ _ _ _)) rfl ?_
      exact ⟨by rw [HG.out]; rfl, below_row hb0.out _ _ (Nat.le_refl _)⟩
    by_cases h32 : 32 ≤ s[8].toNat
    · have i32 : (32 : Int) ≤ s[8].toNat := by omega
      have HG := Lib.hid (get_kept (s := s) (fun h => h.elim h12 (fun h => h16 h.2)) (by rw [hK]; simp [h32]))
      clear hL hK
      go_enter Try.func41, Try.ntmps41
      go_wp2_with (refine wpList_store_row rfl 43 _ _ rfl w.heap.size _ rfl rfl 43 _ z0 (hi9 _ _ _ _ _ _ _ _ _) rfl (hone9 _ _ _ _ _ _ _ _ _) ?_)
      refine bodyPost_ret (results_row2 Try.results41 _ _ w.heap.size 43 _ (0, 0) _ rfl (setRow_heap _ _ _ _ _ _ z0) Try.underlying43 rfl (hi9 _ _ _ _ _ _ _ _ _)) rfl ?_
      exact ⟨by rw [HG.out]; rfl, below_row hb0.out _ _ (Nat.le_refl _)⟩
    have i32 : ¬ (32 : Int) ≤ s[8].toNat := by omega
    by_cases h9 : s[9].toNat = 0
    case neg =>
      have i9 : ((s[9].toNat : Int) == 0) = false := by simpa using h9
      have HG := Lib.hid (get_kept (s := s) (fun h => h.elim h12 (fun h => h16 h.2)) (by rw [hK]; simp [h9]))
      clear hL hK
      go_enter Try.func41, Try.ntmps41
      go_wp2_with (refine wpList_store_row rfl 43 _ _ rfl w.heap.size _ rfl rfl 43 _ z0 (hi9 _ _ _ _ _ _ _ _ _) rfl (hone9 _ _ _ _ _ _ _ _ _) ?_)
      refine bodyPost_ret (results_row2 Try.results41 _ _ w.heap.size 43 _ (0, 0) _ rfl (setRow_heap _ _ _ _ _ _ z0) Try.underlying43 rfl (hi9 _ _ _ _ _ _ _ _ _)) rfl ?_
      exact ⟨by rw [HG.out]; rfl, below_row hb0.out _ _ (Nat.le_refl _)⟩
    case pos =>
      have i9 : ((s[9].toNat : Int) == 0) = true := by simp [h9]
      have m0 : 0 < s.size := by omega
      have m1 : 1 < s.size := by omega
      have m2 : 2 < s.size := by omega
      have m3 : 3 < s.size := by omega
      have m4 : 4 < s.size := by omega
      have m5 : 5 < s.size := by omega
      have m6 : 6 < s.size := by omega
      have m7 : 7 < s.size := by omega
      have m8 : 8 < s.size := by omega
      have m9 : 9 < s.size := by omega
      have l0 : (0 : Int) < s.size := by omega
      have l1 : (1 : Int) < s.size := by omega
      have l2 : (2 : Int) < s.size := by omega
      have l3 : (3 : Int) < s.size := by omega
      have l4 : (4 : Int) < s.size := by omega
      have l5 : (5 : Int) < s.size := by omega
      have l6 : (6 : Int) < s.size := by omega
      have l7 : (7 : Int) < s.size := by omega
      have u0 : s[0].toNat < 256 := UInt8.toNat_lt _
      have u1 : s[1].toNat < 256 := UInt8.toNat_lt _
      have u2 : s[2].toNat < 256 := UInt8.toNat_lt _
      have u3 : s[3].toNat < 256 := UInt8.toNat_lt _
      have u4 : s[4].toNat < 256 := UInt8.toNat_lt _
      have u5 : s[5].toNat < 256 := UInt8.toNat_lt _
      have u6 : s[6].toNat < 256 := UInt8.toNat_lt _
      have u7 : s[7].toNat < 256 := UInt8.toNat_lt _
      have hsh := Lib.hid (show ¬ short s from fun h => h.elim h12 (fun h => h16 h.2))
      have hK0 := Lib.hid (show kept s = false by rw [hK, decide_eq_false h32, h9]; rfl)
      have hP := Lib.hid (parse_byte s hlen)
      have hL0 := Lib.hid hL
      clear hL hK
      go_enter Try.func41, Try.ntmps41
      go_wp2_with fail
      refine FloatYtkjojfcknfhkhaa.wp_region_float2 (w' := ((w.alloc (.cells #[.int .i64 0, .int .i64 0, .int .i64 0, .int .i64 0, .int .i64 0, .int .i64 0, .int .i64 0, .bool false, .int .i64 0] 43)).drew).alloc (.cells #[.int .i64 0, .int .i64 0, .int .i64 0, .int .i64 0, .int .i64 0, .int .i64 0, .int .i64 0, .bool false, .int .i64 0] 43))
        41 (.pointer (some ⟨w.heap.size + 1, 0, none⟩)) _ (by kernel_rfl) (by kernel_rfl) rfl (fun _ => rfl) (fun a => ?hA) (by kernel_rfl) ?hfin
      case hA =>
        refine (alloc_head a _ _ rfl).trans ?_
        have hs1 : (w.alloc (.cells #[.int .i64 0, .int .i64 0, .int .i64 0, .int .i64 0, .int .i64 0, .int .i64 0, .int .i64 0, .bool false, .int .i64 0] 43)).heap.size = w.heap.size + 1 := by simp
        show Result.ok (Next.value (Value.pointer (some ⟨(w.alloc (.cells #[.int .i64 0, .int .i64 0, .int .i64 0, .int .i64 0, .int .i64 0, .int .i64 0, .int .i64 0, .bool false, .int .i64 0] 43)).heap.size, 0, none⟩))) _ = _
        rw [hs1]
        rfl
      case hfin =>
        apply Exists.intro
        constructor
        · intro W
          simp only [List.take_succ_cons, List.take_zero]
          repeat still_step
          refine wpStill_nil ?_
          rfl
        simp only [List.drop_succ_cons, List.drop_zero]
        obtain ⟨q, hq⟩ : ∃ q, fld s 10 6 = q := ⟨_, rfl⟩
        have hqb : q < 281474976710656 := by
          have h1 := fld_lt s 10 6
          rw [hq] at h1
          exact Nat.lt_of_lt_of_le h1 (by decide)
        have CO := fun w => refOf_any (s.extract 9 16) w (by simp; omega)
        rw [show whole (s.extract 9 16) = q from ((by rw [whole_mid s 9 16 (by omega), show 16 - 9 = 7 from rfl, fld_seven s (by omega) h9]) : whole (s.extract 9 16) = fld s 10 6).trans hq] at CO
        have hpb : parse s = ⟨(s[0].toNat : Int) * 256 + (s[1].toNat : Int), (s[2].toNat : Int) * 256 + (s[3].toNat : Int), (s[4].toNat : Int), (s[5].toNat : Int) / 16, (s[5].toNat : Int) % 16, (s[6].toNat : Int) * 256 + (s[7].toNat : Int), (s[8].toNat : Int) / 2, true, (q : Int)⟩ := by rw [hP.out]; rw [show (s[8].toNat % 2 == 1) = true by simpa using hodd, if_pos rfl, hq]
        have CR := Lib.hid (fun w => refCheck_any ⟨(s[0].toNat : Int) * 256 + (s[1].toNat : Int), (s[2].toNat : Int) * 256 + (s[3].toNat : Int), (s[4].toNat : Int), (s[5].toNat : Int) / 16, (s[5].toNat : Int) % 16, (s[6].toNat : Int) * 256 + (s[7].toNat : Int), (s[8].toNat : Int) / 2, true, (q : Int)⟩ w)
        have HW := Lib.hid (fun c => get_wrong hsh.out hK0.out c)
        have HR := Lib.hid (fun c => get_right hsh.out hK0.out c)
        rw [hpb] at HW HR
        rw [hL0.out] at HR
        have hnew : Box9 ((w.alloc (.cells #[.int .i64 0, .int .i64 0, .int .i64 0, .int .i64 0, .int .i64 0, .int .i64 0, .int .i64 0, .bool false, .int .i64 0] 43)).alloc (.cells #[.int .i64 ((s[0].toNat : Int) * 256 + (s[1].toNat : Int)), .int .i64 ((s[2].toNat : Int) * 256 + (s[3].toNat : Int)), .int .i64 (s[4].toNat : Int), .int .i64 ((s[5].toNat : Int) / 16), .int .i64 ((s[5].toNat : Int) % 16), .int .i64 ((s[6].toNat : Int) * 256 + (s[7].toNat : Int)), .int .i64 ((s[8].toNat : Int) / 2), .bool true, .int .i64 (q : Int)] 43)) (w.heap.size + 1) ⟨(s[0].toNat : Int) * 256 + (s[1].toNat : Int), (s[2].toNat : Int) * 256 + (s[3].toNat : Int), (s[4].toNat : Int), (s[5].toNat : Int) / 16, (s[5].toNat : Int) % 16, (s[6].toNat : Int) * 256 + (s[7].toNat : Int), (s[8].toNat : Int) / 2, true, (q : Int)⟩ := by
          have := Box9.new (w.alloc (.cells #[.int .i64 0, .int .i64 0, .int .i64 0, .int .i64 0, .int .i64 0, .int .i64 0, .int .i64 0, .bool false, .int .i64 0] 43)) ⟨(s[0].toNat : Int) * 256 + (s[1].toNat : Int), (s[2].toNat : Int) * 256 + (s[3].toNat : Int), (s[4].toNat : Int), (s[5].toNat : Int) / 16, (s[5].toNat : Int) % 16, (s[6].toNat : Int) * 256 + (s[7].toNat : Int), (s[8].toNat : Int) / 2, true, (q : Int)⟩
          rwa [show (w.alloc (.cells #[.int .i64 0, .int .i64 0, .int .i64 0, .int .i64 0, .int .i64 0, .int .i64 0, .int .i64 0, .bool false, .int .i64 0] 43)).heap.size = w.heap.size + 1 by simp] at this
        have hold : Box9 ((w.alloc (.cells #[.int .i64 0, .int .i64 0, .int .i64 0, .int .i64 0, .int .i64 0, .int .i64 0, .int .i64 0, .bool false, .int .i64 0] 43)).alloc (.cells #[.int .i64 ((s[0].toNat : Int) * 256 + (s[1].toNat : Int)), .int .i64 ((s[2].toNat : Int) * 256 + (s[3].toNat : Int)), .int .i64 (s[4].toNat : Int), .int .i64 ((s[5].toNat : Int) / 16), .int .i64 ((s[5].toNat : Int) % 16), .int .i64 ((s[6].toNat : Int) * 256 + (s[7].toNat : Int)), .int .i64 ((s[8].toNat : Int) / 2), .bool true, .int .i64 (q : Int)] 43)) w.heap.size B.none := (Below.heap_alloc _ _ _ z0.lt).trans z0
        have hbel := hb0.out.alloc (by simp) (.cells #[.int .i64 ((s[0].toNat : Int) * 256 + (s[1].toNat : Int)), .int .i64 ((s[2].toNat : Int) * 256 + (s[3].toNat : Int)), .int .i64 (s[4].toNat : Int), .int .i64 ((s[5].toNat : Int) / 16), .int .i64 ((s[5].toNat : Int) % 16), .int .i64 ((s[6].toNat : Int) * 256 + (s[7].toNat : Int)), .int .i64 ((s[8].toNat : Int) / 2), .bool true, .int .i64 (q : Int)] 43)
        have Hnew := Lib.hid hnew
        have Hold := Lib.hid hold
        have Hbel := Lib.hid hbel
        clear hpb hq hP hnew hold hbel z0 hb0
        dsimp only at CR
        generalize check ⟨(s[0].toNat : Int) * 256 + (s[1].toNat : Int), (s[2].toNat : Int) * 256 + (s[3].toNat : Int), (s[4].toNat : Int), (s[5].toNat : Int) / 16, (s[5].toNat : Int) % 16, (s[6].toNat : Int) * 256 + (s[7].toNat : Int), (s[8].toNat : Int) / 2, true, (q : Int)⟩ = C at *
        go_wp2_with (go_at_call 77; refine (CO _).mono ?_; rintro e w' ⟨rfl, rfl⟩)
        refine (CR.out _).mono ?_
        rintro e w5 ⟨rfl, h5⟩
        have z5 : Box9 w5 w.heap.size B.none := Box9.below Hold.out (at_drew h5) Hold.out.lt
        have n5 := Box9.below Hnew.out (at_drew h5) Hnew.out.lt
        have b5 := Hbel.out.trans ((at_drew h5).mono Hbel.out.size)
        by_cases hc : C = 0
        · subst hc
          have HG := Lib.hid (HR.out rfl)
          have hn : (16 : Int) ≤ s.size := by omega
          have hn' : 16 ≤ s.size := by omega
          obtain ⟨c0, c1, c2, c3, c4, c5, c6, c7, c8⟩ := n5.cell
          dsimp only at c0 c1 c2 c3 c4 c5 c6 c7 c8
          obtain ⟨x0, x1, x2, x3, x4, x5, x6, x7, x8⟩ := z5.cell
          dsimp only [B.none] at x0 x1 x2 x3 x4 x5 x6 x7 x8
          have y0 := z5.free 0; have y1 := z5.free 1; have y2 := z5.free 2; have y3 := z5.free 3; have y4 := z5.free 4; have y5 := z5.free 5; have y6 := z5.free 6; have y7 := z5.free 7; have y8 := z5.free 8
          go_wp2_with fail
          go_region
          all_goals (
            clear c0 c1 c2 c3 c4 c5 c6 c7 c8 x0 x1 x2 x3 x4 x5 x6 x7 x8 y0 y1 y2 y3 y4 y5 y6 y7 y8
            go_wp2_with fail
            have hst := z5.store ⟨(s[0].toNat : Int) * 256 + (s[1].toNat : Int), (s[2].toNat : Int) * 256 + (s[3].toNat : Int), (s[4].toNat : Int), (s[5].toNat : Int) / 16, (s[5].toNat : Int) % 16, (s[6].toNat : Int) * 256 + (s[7].toNat : Int), (s[8].toNat : Int) / 2, true, (q : Int)⟩
            dsimp only [rowOf] at hst
            refine bodyPost_ret (results_row2d Try.results41 _ _ w.heap.size 43 _ (0, 0) _ rfl hst Try.underlying43 rfl (hi9 _ _ _ _ _ _ _ _ _)) rfl ?_
            refine ⟨?_, (below_nine b5 _ _ _ _ _ _ _ _ _).drew⟩
            rw [HG.out]
            dsimp only [rowOf]
            rfl)
        · have HG := Lib.hid (HW.out hc)
          have hcb : (C == 0) = false := by simpa using hc
          go_wp2_with (refine wpList_store_row rfl 43 _ _ rfl w.heap.size _ rfl rfl 43 _ z5 (hi9 _ _ _ _ _ _ _ _ _) rfl (hone9 _ _ _ _ _ _ _ _ _) ?_)
          refine bodyPost_ret (results_row2 Try.results41 _ _ w.heap.size 43 _ (0, 0) _ rfl (setRow_heap _ _ _ _ _ _ z5) Try.underlying43 rfl (hi9 _ _ _ _ _ _ _ _ _)) rfl ?_
          exact ⟨by rw [HG.out]; rfl, below_row b5 _ _ (Nat.le_refl _)⟩
  · rw [show (s[8].toNat % 2 == 1) = false by simpa using hodd] at hL hK
    have ho : ((s[8].toNat : Int) % 2 == 1) = false := by simp; omega
    by_cases h32 : 32 ≤ s[8].toNat
    · have i32 : (32 : Int) ≤ s[8].toNat := by omega
      have HG := Lib.hid (get_kept (s := s) (fun h => h.elim h12 (fun h => by rw [hL] at h; cases h.1)) (by rw [hK]; simp [h32]))
      clear hL hK
      go_enter Try.func41, Try.ntmps41
      go_wp2_with (refine wpList_store_row rfl 43 _ _ rfl w.heap.size _ rfl rfl 43 _ z0 (hi9 _ _ _ _ _ _ _ _ _) rfl (hone9 _ _ _ _ _ _ _ _ _) ?_)
      refine bodyPost_ret (results_row2 Try.results41 _ _ w.heap.size 43 _ (0, 0) _ rfl (setRow_heap _ _ _ _ _ _ z0) Try.underlying43 rfl (hi9 _ _ _ _ _ _ _ _ _)) rfl ?_
      exact ⟨by rw [HG.out]; rfl, below_row hb0.out _ _ (Nat.le_refl _)⟩
    have i32 : ¬ (32 : Int) ≤ s[8].toNat := by omega
    have m0 : 0 < s.size := by omega
    have m1 : 1 < s.size := by omega
    have m2 : 2 < s.size := by omega
    have m3 : 3 < s.size := by omega
    have m4 : 4 < s.size := by omega
    have m5 : 5 < s.size := by omega
    have m6 : 6 < s.size := by omega
    have m7 : 7 < s.size := by omega
    have m8 : 8 < s.size := by omega
    have m9 : 9 < s.size := by omega
    have l0 : (0 : Int) < s.size := by omega
    have l1 : (1 : Int) < s.size := by omega
    have l2 : (2 : Int) < s.size := by omega
    have l3 : (3 : Int) < s.size := by omega
    have l4 : (4 : Int) < s.size := by omega
    have l5 : (5 : Int) < s.size := by omega
    have l6 : (6 : Int) < s.size := by omega
    have l7 : (7 : Int) < s.size := by omega
    have u0 : s[0].toNat < 256 := UInt8.toNat_lt _
    have u1 : s[1].toNat < 256 := UInt8.toNat_lt _
    have u2 : s[2].toNat < 256 := UInt8.toNat_lt _
    have u3 : s[3].toNat < 256 := UInt8.toNat_lt _
    have u4 : s[4].toNat < 256 := UInt8.toNat_lt _
    have u5 : s[5].toNat < 256 := UInt8.toNat_lt _
    have u6 : s[6].toNat < 256 := UInt8.toNat_lt _
    have u7 : s[7].toNat < 256 := UInt8.toNat_lt _
    have hsh := Lib.hid (show ¬ short s from fun h => h.elim h12 (fun h => by rw [hL] at h; cases h.1))
    have hK0 := Lib.hid (show kept s = false by rw [hK, decide_eq_false h32]; rfl)
    have hP := Lib.hid (parse_byte s hlen)
    have hL0 := Lib.hid hL
    clear hL hK
    go_enter Try.func41, Try.ntmps41
    go_wp2_with fail
    refine FloatYtkjojfcknfhkhaa.wp_region_float2 (w' := ((w.alloc (.cells #[.int .i64 0, .int .i64 0, .int .i64 0, .int .i64 0, .int .i64 0, .int .i64 0, .int .i64 0, .bool false, .int .i64 0] 43)).drew).alloc (.cells #[.int .i64 0, .int .i64 0, .int .i64 0, .int .i64 0, .int .i64 0, .int .i64 0, .int .i64 0, .bool false, .int .i64 0] 43))
      41 (.pointer (some ⟨w.heap.size + 1, 0, none⟩)) _ (by kernel_rfl) (by kernel_rfl) rfl (fun _ => rfl) (fun a => ?hA2) (by kernel_rfl) ?hfin2
    case hA2 =>
      refine (alloc_head a _ _ rfl).trans ?_
      have hs1 : (w.alloc (.cells #[.int .i64 0, .int .i64 0, .int .i64 0, .int .i64 0, .int .i64 0, .int .i64 0, .int .i64 0, .bool false, .int .i64 0] 43)).heap.size = w.heap.size + 1 := by simp
      show Result.ok (Next.value (Value.pointer (some ⟨(w.alloc (.cells #[.int .i64 0, .int .i64 0, .int .i64 0, .int .i64 0, .int .i64 0, .int .i64 0, .int .i64 0, .bool false, .int .i64 0] 43)).heap.size, 0, none⟩))) _ = _
      rw [hs1]
      rfl
    case hfin2 =>
      apply Exists.intro
      constructor
      · intro W
        simp only [List.take_succ_cons, List.take_zero]
        repeat still_step
        refine wpStill_nil ?_
        rfl
      simp only [List.drop_succ_cons, List.drop_zero]
      obtain ⟨q, hq⟩ : ∃ q, fld s 9 3 = q := ⟨_, rfl⟩
      have hqb : q < 281474976710656 := by
        have h1 := fld_lt s 9 3
        rw [hq] at h1
        exact Nat.lt_of_lt_of_le h1 (by decide)
      have CO := fun w => refOf_any (s.extract 9 12) w (by simp; omega)
      rw [show whole (s.extract 9 12) = q from ((by rw [whole_mid s 9 12 (by omega)]) : whole (s.extract 9 12) = fld s 9 3).trans hq] at CO
      have hpb : parse s = ⟨(s[0].toNat : Int) * 256 + (s[1].toNat : Int), (s[2].toNat : Int) * 256 + (s[3].toNat : Int), (s[4].toNat : Int), (s[5].toNat : Int) / 16, (s[5].toNat : Int) % 16, (s[6].toNat : Int) * 256 + (s[7].toNat : Int), (s[8].toNat : Int) / 2, false, (q : Int)⟩ := by rw [hP.out]; rw [show (s[8].toNat % 2 == 1) = false by simpa using hodd, if_neg (by simp), hq]
      have CR := Lib.hid (fun w => refCheck_any ⟨(s[0].toNat : Int) * 256 + (s[1].toNat : Int), (s[2].toNat : Int) * 256 + (s[3].toNat : Int), (s[4].toNat : Int), (s[5].toNat : Int) / 16, (s[5].toNat : Int) % 16, (s[6].toNat : Int) * 256 + (s[7].toNat : Int), (s[8].toNat : Int) / 2, false, (q : Int)⟩ w)
      have HW := Lib.hid (fun c => get_wrong hsh.out hK0.out c)
      have HR := Lib.hid (fun c => get_right hsh.out hK0.out c)
      rw [hpb] at HW HR
      rw [hL0.out] at HR
      have hnew : Box9 ((w.alloc (.cells #[.int .i64 0, .int .i64 0, .int .i64 0, .int .i64 0, .int .i64 0, .int .i64 0, .int .i64 0, .bool false, .int .i64 0] 43)).alloc (.cells #[.int .i64 ((s[0].toNat : Int) * 256 + (s[1].toNat : Int)), .int .i64 ((s[2].toNat : Int) * 256 + (s[3].toNat : Int)), .int .i64 (s[4].toNat : Int), .int .i64 ((s[5].toNat : Int) / 16), .int .i64 ((s[5].toNat : Int) % 16), .int .i64 ((s[6].toNat : Int) * 256 + (s[7].toNat : Int)), .int .i64 ((s[8].toNat : Int) / 2), .bool false, .int .i64 (q : Int)] 43)) (w.heap.size + 1) ⟨(s[0].toNat : Int) * 256 + (s[1].toNat : Int), (s[2].toNat : Int) * 256 + (s[3].toNat : Int), (s[4].toNat : Int), (s[5].toNat : Int) / 16, (s[5].toNat : Int) % 16, (s[6].toNat : Int) * 256 + (s[7].toNat : Int), (s[8].toNat : Int) / 2, false, (q : Int)⟩ := by
        have := Box9.new (w.alloc (.cells #[.int .i64 0, .int .i64 0, .int .i64 0, .int .i64 0, .int .i64 0, .int .i64 0, .int .i64 0, .bool false, .int .i64 0] 43)) ⟨(s[0].toNat : Int) * 256 + (s[1].toNat : Int), (s[2].toNat : Int) * 256 + (s[3].toNat : Int), (s[4].toNat : Int), (s[5].toNat : Int) / 16, (s[5].toNat : Int) % 16, (s[6].toNat : Int) * 256 + (s[7].toNat : Int), (s[8].toNat : Int) / 2, false, (q : Int)⟩
        rwa [show (w.alloc (.cells #[.int .i64 0, .int .i64 0, .int .i64 0, .int .i64 0, .int .i64 0, .int .i64 0, .int .i64 0, .bool false, .int .i64 0] 43)).heap.size = w.heap.size + 1 by simp] at this
      have hold : Box9 ((w.alloc (.cells #[.int .i64 0, .int .i64 0, .int .i64 0, .int .i64 0, .int .i64 0, .int .i64 0, .int .i64 0, .bool false, .int .i64 0] 43)).alloc (.cells #[.int .i64 ((s[0].toNat : Int) * 256 + (s[1].toNat : Int)), .int .i64 ((s[2].toNat : Int) * 256 + (s[3].toNat : Int)), .int .i64 (s[4].toNat : Int), .int .i64 ((s[5].toNat : Int) / 16), .int .i64 ((s[5].toNat : Int) % 16), .int .i64 ((s[6].toNat : Int) * 256 + (s[7].toNat : Int)), .int .i64 ((s[8].toNat : Int) / 2), .bool false, .int .i64 (q : Int)] 43)) w.heap.size B.none := (Below.heap_alloc _ _ _ z0.lt).trans z0
      have hbel := hb0.out.alloc (by simp) (.cells #[.int .i64 ((s[0].toNat : Int) * 256 + (s[1].toNat : Int)), .int .i64 ((s[2].toNat : Int) * 256 + (s[3].toNat : Int)), .int .i64 (s[4].toNat : Int), .int .i64 ((s[5].toNat : Int) / 16), .int .i64 ((s[5].toNat : Int) % 16), .int .i64 ((s[6].toNat : Int) * 256 + (s[7].toNat : Int)), .int .i64 ((s[8].toNat : Int) / 2), .bool false, .int .i64 (q : Int)] 43)
      have Hnew := Lib.hid hnew
      have Hold := Lib.hid hold
      have Hbel := Lib.hid hbel
      clear hpb hq hP hnew hold hbel z0 hb0
      dsimp only at CR
      generalize check ⟨(s[0].toNat : Int) * 256 + (s[1].toNat : Int), (s[2].toNat : Int) * 256 + (s[3].toNat : Int), (s[4].toNat : Int), (s[5].toNat : Int) / 16, (s[5].toNat : Int) % 16, (s[6].toNat : Int) * 256 + (s[7].toNat : Int), (s[8].toNat : Int) / 2, false, (q : Int)⟩ = C at *
      go_wp2_with (go_at_call 77; refine (CO _).mono ?_; rintro e w' ⟨rfl, rfl⟩)
      refine (CR.out _).mono ?_
      rintro e w5 ⟨rfl, h5⟩
      have z5 : Box9 w5 w.heap.size B.none := Box9.below Hold.out (at_drew h5) Hold.out.lt
      have n5 := Box9.below Hnew.out (at_drew h5) Hnew.out.lt
      have b5 := Hbel.out.trans ((at_drew h5).mono Hbel.out.size)
      by_cases hc : C = 0
      · subst hc
        have HG := Lib.hid (HR.out rfl)
        have hn : (12 : Int) ≤ s.size := by omega
        have hn' : 12 ≤ s.size := by omega
        obtain ⟨c0, c1, c2, c3, c4, c5, c6, c7, c8⟩ := n5.cell
        dsimp only at c0 c1 c2 c3 c4 c5 c6 c7 c8
        obtain ⟨x0, x1, x2, x3, x4, x5, x6, x7, x8⟩ := z5.cell
        dsimp only [B.none] at x0 x1 x2 x3 x4 x5 x6 x7 x8
        have y0 := z5.free 0; have y1 := z5.free 1; have y2 := z5.free 2; have y3 := z5.free 3; have y4 := z5.free 4; have y5 := z5.free 5; have y6 := z5.free 6; have y7 := z5.free 7; have y8 := z5.free 8
        go_wp2_with fail
        go_region
        all_goals (
          clear c0 c1 c2 c3 c4 c5 c6 c7 c8 x0 x1 x2 x3 x4 x5 x6 x7 x8 y0 y1 y2 y3 y4 y5 y6 y7 y8
          go_wp2_with fail
          have hst := z5.store ⟨(s[0].toNat : Int) * 256 + (s[1].toNat : Int), (s[2].toNat : Int) * 256 + (s[3].toNat : Int), (s[4].toNat : Int), (s[5].toNat : Int) / 16, (s[5].toNat : Int) % 16, (s[6].toNat : Int) * 256 + (s[7].toNat : Int), (s[8].toNat : Int) / 2, false, (q : Int)⟩
          dsimp only [rowOf] at hst
          refine bodyPost_ret (results_row2d Try.results41 _ _ w.heap.size 43 _ (0, 0) _ rfl hst Try.underlying43 rfl (hi9 _ _ _ _ _ _ _ _ _)) rfl ?_
          refine ⟨?_, (below_nine b5 _ _ _ _ _ _ _ _ _).drew⟩
          rw [HG.out]
          dsimp only [rowOf]
          rfl)
      · have HG := Lib.hid (HW.out hc)
        have hcb : (C == 0) = false := by simpa using hc
        go_wp2_with (refine wpList_store_row rfl 43 _ _ rfl w.heap.size _ rfl rfl 43 _ z5 (hi9 _ _ _ _ _ _ _ _ _) rfl (hone9 _ _ _ _ _ _ _ _ _) ?_)
        refine bodyPost_ret (results_row2 Try.results41 _ _ w.heap.size 43 _ (0, 0) _ rfl (setRow_heap _ _ _ _ _ _ z5) Try.underlying43 rfl (hi9 _ _ _ _ _ _ _ _ _)) rfl ?_
        exact ⟨by rw [HG.out]; rfl, below_row b5 _ _ (Nat.le_refl _)⟩
end Go.Proofs.Ytkjojfcknfhkhaa.Head
