/- The program's Get: its contract. -/
import Derived.Test.YtkjojfcknfhkhaaHead8
import Derived.Test.YtkjojfcknfhkhaaShelf
namespace Go.Proofs.Ytkjojfcknfhkhaa.Head
open Go.ChangeShapes Go.WideShapes Go.ChangeAt Go.RowKit
open Go.Proofs.Ytkjojfcknfhkhaa.Oct (num num_lt size_list whole CutAt gotOf stayOf fellOf fell1 doneOf NumEnd ReadEnd num_any rest_any done_any new_any)
set_option linter.unusedVariables false

theorem clone_any (s : ByteArray) (w : World) (hs : s.size ≤ 100000) :
    Calls Try.prog 74 #[.string s] w fun e w' => e = .returned (.string s) ∧ Below w.heap.size w w' := by
  go_enter Try.func74, Try.ntmps74
  go_wp2_with fail
  refine (Try.stringslite_Clone _ _ (by omega)).mono ?_
  rintro e w1 ⟨rfl, h1⟩
  go_wp2_with fail
  go_ret
  exact ⟨rfl, h1⟩

theorem rest_at (b : Nat) (s : ByteArray) (a : Nat) (f : Int) (hs : s.size ≤ 4000) (w : World) (hc : At w b s a f) :
    Calls Try.prog 72 #[.pointer (some ⟨b, 0, none⟩)] w fun e w' => ∃ (r l : ByteArray), e = .returned (.string r) ∧ CutAt w' b l f ∧ (f = 0 → r = s.extract a s.size ∧ l.size = 0) ∧ Oct.Touch b w w' := by
  have hz := from_size s a
  refine (rest_any b _ f w (by rw [hz]; omega) hc.cut).mono ?_
  rintro e w' ⟨rfl, h1, h2⟩
  rcases hc.bit with rfl | rfl
  · have e2 : fellOf (s.extract a s.size) 0 (s.extract a s.size).size = 0 := by
      unfold fellOf
      rw [if_neg (by simp), if_neg (by omega), if_neg (by omega)]
    have e3 : gotOf (s.extract a s.size) 0 (s.extract a s.size).size = s.extract a s.size := by
      unfold gotOf; rw [if_pos e2, Int.toNat_natCast]; exact from_zero _
    have e4 : (stayOf (s.extract a s.size) 0 (s.extract a s.size).size).size = 0 := by
      unfold stayOf; rw [if_pos e2, Int.toNat_natCast, from_size]; omega
    rw [e2] at h1
    exact ⟨_, _, rfl, h1, fun _ => ⟨e3, e4⟩, h2⟩
  · have e2 : fellOf (s.extract a s.size) 1 (s.extract a s.size).size = 1 := by unfold fellOf; rw [if_pos (by decide)]
    rw [e2] at h1
    exact ⟨_, _, rfl, h1, fun h => absurd h (by decide), h2⟩

theorem done_at (b : Nat) (l : ByteArray) (f : Int) (hl : f = 0 → l.size = 0) (w : World) (hc : CutAt w b l f) :
    Calls Try.prog 73 #[.pointer (some ⟨b, 0, none⟩)] w fun e w' => e = .returned (.int .i64 f) ∧ w' = w := by
  refine (done_any b l f w hc).mono ?_
  rintro e w' ⟨rfl, rfl⟩
  refine ⟨?_, rfl⟩
  unfold doneOf
  rw [if_neg (fun h => h.2 (hl h.1))]

theorem at_new (w : World) (s : ByteArray) (t : TypeId) : At (w.alloc (.cells #[.string s, .int .i64 0] t)) w.heap.size s 0 0 := by
  have hz : ∀ j, (w.alloc (.cells #[.string s, .int .i64 0] t)).frozen? ⟨w.heap.size, j, none⟩ = false := fun j => by
    have := World.frozen?_alloc_mark w #[.string s, .int .i64 0] t 0 0 j
    rw [this]; simp
  have hc : ∀ j, (w.alloc (.cells #[.string s, .int .i64 0] t)).cell? ⟨w.heap.size, j, none⟩ = #[Value.string s, .int .i64 0][j]? := fun j => World.cell?_alloc_mark w _ t (0, 0) j
  exact ⟨by rw [from_zero]; exact ⟨hc 0, hc 1, hz 0, hz 1⟩, Nat.zero_le _, .inl rfl⟩

/-- what stands at a place of the heap, when b alone has turned -/
theorem Box9.touch {w w' : World} {A b : Nat} {h : B} (k : Box9 w A h) (t : Oct.Touch b w w') (hb : A ≠ b) : Box9 w' A h := (t.block _ k.lt hb).trans k

abbrev rowOf (h : B) : Array Value := #[.int .i64 h.src, .int .i64 h.dst, .int .i64 h.words, .int .i64 h.cc, .int .i64 h.cover, .int .i64 h.sum, .int .i64 h.kind, .bool h.long, .int .i64 h.seq]
def GetEnd (s : ByteArray) (w : World) (e : Ending) (w' : World) : Prop :=
  e = .returned (.tuple #[.agg (rowOf (get s).1), .string (get s).2.1, .int .i64 (get s).2.2]) ∧ Below w.heap.size w w'

theorem get_short {s : ByteArray} (h : short s) : get s = (B.none, ⟨#[]⟩, 1) := if_pos h
theorem get_kept {s : ByteArray} (h : ¬ short s) (k : kept s = true) : get s = (B.none, ⟨#[]⟩, 4) := (if_neg h).trans (if_pos k)
theorem get_wrong {s : ByteArray} (h : ¬ short s) (k : kept s = false) (c : check (parse s) ≠ 0) : get s = (B.none, ⟨#[]⟩, check (parse s)) := (if_neg h).trans ((if_neg (by rw [k]; decide)).trans (if_pos c))
theorem get_right {s : ByteArray} (h : ¬ short s) (k : kept s = false) (c : check (parse s) = 0) : get s = (parse s, s.extract (nOf (isLong s)) s.size, 0) := (if_neg h).trans ((if_neg (by rw [k]; decide)).trans (if_neg (fun n => n c)))

theorem below_row {B : Nat} {a w : World} (h : Below B a w) (g : Nat) (cs : Array Value) (hg : B ≤ g) : Below B a (w.setRow g cs) :=
  ⟨h.os, h.tape, h.output, by simpa using h.size, fun k hk => (setRow_other _ _ _ _ (by omega)).trans (h.block k hk)⟩

theorem Box9.store {W : World} {A : Nat} {h0 : B} (k : Box9 W A h0) (h : B) :
    (((((((((W.setCell ⟨A, 0, none⟩ (.int .i64 h.src)).setCell ⟨A, 1, none⟩ (.int .i64 h.dst)).setCell ⟨A, 2, none⟩ (.int .i64 h.words)).setCell ⟨A, 3, none⟩ (.int .i64 h.cc)).setCell ⟨A, 4, none⟩ (.int .i64 h.cover)).setCell ⟨A, 5, none⟩ (.int .i64 h.sum)).setCell ⟨A, 6, none⟩ (.int .i64 h.kind)).setCell ⟨A, 7, none⟩ (.bool h.long)).setCell ⟨A, 8, none⟩ (.int .i64 h.seq)).heap[A]? = some (.cells (rowOf h) 43 (0, 0)) :=
  ((((((((k.set0 h.src).set1 h.dst).set2 h.words).set3 h.cc).set4 h.cover).set5 h.sum).set6 h.kind).set7 h.long).set8 h.seq

theorem below_nine {B : Nat} {a W : World} (h : Below B a W) (v0 v1 v2 v3 v4 v5 v6 v7 v8 : Value) :
    Below B a (((((((((W.setCell ⟨B, 0, none⟩ v0).setCell ⟨B, 1, none⟩ v1).setCell ⟨B, 2, none⟩ v2).setCell ⟨B, 3, none⟩ v3).setCell ⟨B, 4, none⟩ v4).setCell ⟨B, 5, none⟩ v5).setCell ⟨B, 6, none⟩ v6).setCell ⟨B, 7, none⟩ v7).setCell ⟨B, 8, none⟩ v8) :=
  ((((((((h.setCell (Nat.le_refl _) v0).setCell (Nat.le_refl _) v1).setCell (Nat.le_refl _) v2).setCell (Nat.le_refl _) v3).setCell (Nat.le_refl _) v4).setCell (Nat.le_refl _) v5).setCell (Nat.le_refl _) v6).setCell (Nat.le_refl _) v7).setCell (Nat.le_refl _) v8

set_option maxRecDepth 100000 in
set_option maxHeartbeats 4000000 in
theorem Get_any (s : ByteArray) (hs : s.size ≤ 4000) (w : World) :
    Calls Try.prog 39 #[.string s] w (GetEnd s w) := by
  have z0 := Box9.new w B.none
  have hb0 := (Below.refl w.heap.size w).alloc (Nat.le_refl _) (.cells #[.int .i64 0, .int .i64 0, .int .i64 0, .int .i64 0, .int .i64 0, .int .i64 0, .int .i64 0, .bool false, .int .i64 0] 43)
  have e0 : (w.alloc (.cells #[.int .i64 0, .int .i64 0, .int .i64 0, .int .i64 0, .int .i64 0, .int .i64 0, .int .i64 0, .bool false, .int .i64 0] 43)).heap.size = w.heap.size + 1 := by simp
  have hA := at_new (w.alloc (.cells #[.int .i64 0, .int .i64 0, .int .i64 0, .int .i64 0, .int .i64 0, .int .i64 0, .int .i64 0, .bool false, .int .i64 0] 43)) s 102
  have hb1 := hb0.alloc (by simp) (.cells #[.string s, .int .i64 0] 102)
  have z1 : Box9 ((w.alloc (.cells #[.int .i64 0, .int .i64 0, .int .i64 0, .int .i64 0, .int .i64 0, .int .i64 0, .int .i64 0, .bool false, .int .i64 0] 43)).alloc (.cells #[.string s, .int .i64 0] 102)) w.heap.size B.none := (Below.heap_alloc _ _ _ (by rw [e0]; exact Nat.lt_succ_self _)).trans z0
  rw [e0] at hA
  have H1 := Lib.hid hb1
  have Z1 := Lib.hid z1
  have HA := Lib.hid hA
  clear z0 hb0 hA hb1 z1
  go_enter Try.func39, Try.ntmps39
  go_wp2_with fail
  refine (new_any s _).mono ?_
  rintro e w1 ⟨rfl, rfl⟩
  go_wp2_with fail
  refine (read_any (w.heap.size + 1) s hs _ HA.out).mono ?_
  rintro e w2 ⟨h, k, a, f, rfl, hOk, hAt, hT⟩
  have z2 := Z1.out.touch hT (by omega)
  have b2 := H1.out.trans (hT.toBelow (by omega) H1.out.size)
  have lt2 : w.heap.size + 1 < w2.heap.size := hAt.cut.lt
  clear H1 Z1 HA hT e0
  have n2 := Box9.new w2 h
  have b3 := b2.alloc b2.size (.cells (rowOf h) 43)
  have z3 : Box9 (w2.alloc (.cells (rowOf h) 43)) w.heap.size B.none := (Below.heap_alloc _ _ _ z2.lt).trans z2
  have at3 : At (w2.alloc (.cells (rowOf h) 43)) (w.heap.size + 1) s a f := hAt.of_block (Below.heap_alloc _ _ _ lt2)
  have B3 := Lib.hid b3
  have Z3 := Lib.hid z3
  have A3 := Lib.hid at3
  have N2 := Lib.hid n2
  clear b3 z3 at3 b2 z2 hAt n2
  go_wp2_with fail
  refine (rest_at (w.heap.size + 1) s a f hs _ A3.out).mono ?_
  rintro e w4 ⟨r, l, rfl, hcut, hfr, hT⟩
  have z4 := Z3.out.touch hT (by omega)
  have n4 := N2.out.touch hT (by omega)
  have b4 := B3.out.trans (hT.toBelow (by omega) B3.out.size)
  clear B3 Z3 A3 N2 hT
  go_wp2_with fail
  refine (done_at (w.heap.size + 1) l f (fun e => (hfr e).2) _ hcut).mono ?_
  rintro e w5 ⟨rfl, rfl⟩
  rcases hOk with ⟨hsh, rfl⟩ | ⟨hsh, rfl, rfl, rfl, rfl⟩
  · have HG := Lib.hid (get_short hsh)
    clear hfr
    go_wp2_with (refine wpList_store_row rfl 43 _ _ rfl w.heap.size _ rfl rfl 43 _ z4 (hi9 _ _ _ _ _ _ _ _ _) rfl (hone9 _ _ _ _ _ _ _ _ _) ?_)
    refine bodyPost_ret (results_row2 Try.results39 _ _ w.heap.size 43 _ (0, 0) _ rfl (setRow_heap _ _ _ _ _ _ z4) Try.underlying43 rfl (hi9 _ _ _ _ _ _ _ _ _)) rfl ?_
    exact ⟨by rw [HG.out]; rfl, below_row b4 _ _ (Nat.le_refl _)⟩
  · obtain ⟨rfl, hl⟩ := hfr rfl
    have HL := Lib.hid hl
    clear hl hfr
    cases hk : kept s
    case true =>
      have HG := Lib.hid (get_kept hsh hk)
      go_wp2_with (refine wpList_store_row rfl 43 _ _ rfl w.heap.size _ rfl rfl 43 _ z4 (hi9 _ _ _ _ _ _ _ _ _) rfl (hone9 _ _ _ _ _ _ _ _ _) ?_)
      refine bodyPost_ret (results_row2 Try.results39 _ _ w.heap.size 43 _ (0, 0) _ rfl (setRow_heap _ _ _ _ _ _ z4) Try.underlying43 rfl (hi9 _ _ _ _ _ _ _ _ _)) rfl ?_
      exact ⟨by rw [HG.out]; rfl, below_row b4 _ _ (Nat.le_refl _)⟩
    case false =>
      have hW := fun c => get_wrong hsh hk c
      have hR := fun c => get_right hsh hk c
      have hC := fun w => Check_any (parse s) w
      have HW := Lib.hid hW
      have HR := Lib.hid hR
      clear hW hR hsh hk
      generalize parse s = h at *
      go_wp2_with (refine wpList_load_row rfl 43 _ rfl w2.heap.size rfl 43 _ _ _ n4 Try.underlying43 rfl (hi9 _ _ _ _ _ _ _ _ _) ?_)
      refine (hC _).mono ?_
      rintro e w6 ⟨rfl, h6⟩
      have z6 := z4.below h6 z4.lt
      have n6 := n4.below h6 n4.lt
      have b6 := b4.trans (h6.mono b4.size)
      clear z4 n4 b4 h6 hcut hC
      generalize check h = C at *
      by_cases hc : C = 0
      · subst hc
        have HG := Lib.hid (HR.out rfl)
        clear HW HR
        have hz : (s.extract (nOf (isLong s)) s.size).size ≤ 100000 := by rw [from_size]; omega
        generalize s.extract (nOf (isLong s)) s.size = r at *
        obtain ⟨c0, c1, c2, c3, c4, c5, c6, c7, c8⟩ := n6.cell
        go_wp2_with fail
        go_region_with (go_at_call 74; refine (clone_any r _ hz).mono ?_; rintro e7 w7 ⟨rfl, h7⟩; have z7 := z6.below (show Below w6.heap.size w6 w7 from ⟨h7.os, h7.tape, h7.output, h7.size, h7.block⟩) z6.lt; have n7 := n6.below (show Below w6.heap.size w6 w7 from ⟨h7.os, h7.tape, h7.output, h7.size, h7.block⟩) n6.lt; obtain ⟨d0, d1, d2, d3, d4, d5, d6, d7, d8⟩ := n7.cell; obtain ⟨x0, x1, x2, x3, x4, x5, x6, x7, x8⟩ := z7.cell; have y0 := z7.free 0; have y1 := z7.free 1; have y2 := z7.free 2; have y3 := z7.free 3; have y4 := z7.free 4; have y5 := z7.free 5; have y6 := z7.free 6; have y7 := z7.free 7; have y8 := z7.free 8)
        all_goals (
          have b7 := b6.drew.trans (h7.mono b6.size)
          clear c0 c1 c2 c3 c4 c5 c6 c7 c8 d0 d1 d2 d3 d4 d5 d6 d7 d8 x0 x1 x2 x3 x4 x5 x6 x7 x8 y0 y1 y2 y3 y4 y5 y6 y7 y8
          go_wp2_with fail
          refine bodyPost_ret (results_row2 Try.results39 _ _ w.heap.size 43 _ (0, 0) _ rfl (z7.store h) Try.underlying43 rfl (hi9 _ _ _ _ _ _ _ _ _)) rfl ?_
          exact ⟨by rw [HG.out]; rfl, below_nine b7 _ _ _ _ _ _ _ _ _⟩)
      · have HG := Lib.hid (HW.out hc)
        have hcb : (C == 0) = false := by simpa using hc
        clear HW HR
        go_wp2_with (refine wpList_store_row rfl 43 _ _ rfl w.heap.size _ rfl rfl 43 _ z6 (hi9 _ _ _ _ _ _ _ _ _) rfl (hone9 _ _ _ _ _ _ _ _ _) ?_)
        refine bodyPost_ret (results_row2 Try.results39 _ _ w.heap.size 43 _ (0, 0) _ rfl (setRow_heap _ _ _ _ _ _ z6) Try.underlying43 rfl (hi9 _ _ _ _ _ _ _ _ _)) rfl ?_
        exact ⟨by rw [HG.out]; rfl, below_row b6 _ _ (Nat.le_refl _)⟩

end Go.Proofs.Ytkjojfcknfhkhaa.Head
