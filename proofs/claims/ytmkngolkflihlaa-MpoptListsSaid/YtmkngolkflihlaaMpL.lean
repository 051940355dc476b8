/- Lists of such: what a call's own slice of them holds; all that options say: contracts. -/
import Derived.Test.YtmkngolkflihlaaMpW
import Derived.Test.YtmkngolkflihlaaMpR5
import Derived.Test.YtmkngolkflihlaaOpt5
import Derived.Test.YtmkngolkflihlaaOpt2
import Derived.Test.YtmkngolkflihlaaOptR1
import Derived.Laws.AppendOwn
namespace Go.Proofs.Ytmkngolkflihlaa.Mp
open Go.ChangeShapes Go.WideShapes Go.ChangeAt Go.RowKit
open Go.Proofs.Ytmkngolkflihlaa.Opt (O OptsAt)
set_option linter.unusedVariables false

theorem infoM : (Try.prog.info? 23).map (fun i => (i.zero, i.size, i.bytes)) = some (some (.agg #[.int .i64 0, .int .i64 0, .int .i64 0, .int .i64 0, .int .i64 0, .int .i64 0, .string ⟨#[]⟩]), 7, 64) := by kernel_rfl
/-- the cells of one -/
def cells1 (m : M) : List Value := [.int .i64 m.kind, .int .i64 m.addr, .int .i64 m.prio, .int .i64 m.num, .int .i64 m.token, .int .i64 m.nonce, .string m.bytes]
def mcells (l : List M) : List Value := l.flatMap cells1
theorem mcells_snoc (l : List M) (m : M) : mcells (l ++ [m]) = mcells l ++ cells1 m := by simp [mcells]
theorem mcells_length (l : List M) : (mcells l).length = l.length * 7 := by
  induction l with
  | nil => rfl
  | cons p r ih => rw [show mcells (p :: r) = cells1 p ++ mcells r from rfl, List.length_append, ih, List.length_cons]; simp [cells1]; omega
theorem mcells_get : ∀ (l : List M) (i : Nat) (m : M), l[i]? = some m → ∀ j, j < 7 → (mcells l)[i * 7 + j]? = (cells1 m)[j]?
  | [], i, m, h, _, _ => by simp at h
  | p :: r, 0, m, h, j, hj => by
    obtain rfl : p = m := by simpa using h
    rw [show mcells (p :: r) = cells1 p ++ mcells r from rfl, List.getElem?_append_left (by simp [cells1]; omega)]
    simp
  | p :: r, i + 1, m, h, j, hj => by
    have := mcells_get r i m (by simpa using h) j hj
    rw [show mcells (p :: r) = cells1 p ++ mcells r from rfl, List.getElem?_append_right (by simp [cells1]; omega)]
    rw [show (i + 1) * 7 + j - (cells1 p).length = i * 7 + j by simp [cells1]; omega]
    exact this
/-- the seven cells of one -/
structure At7 (w : World) (b off : Nat) (m : M) : Prop where
  c0 : w.cell? ⟨b, off, none⟩ = some (.int .i64 m.kind)
  c1 : w.cell? ⟨b, off + 1, none⟩ = some (.int .i64 m.addr)
  c2 : w.cell? ⟨b, off + 2, none⟩ = some (.int .i64 m.prio)
  c3 : w.cell? ⟨b, off + 3, none⟩ = some (.int .i64 m.num)
  c4 : w.cell? ⟨b, off + 4, none⟩ = some (.int .i64 m.token)
  c5 : w.cell? ⟨b, off + 5, none⟩ = some (.int .i64 m.nonce)
  c6 : w.cell? ⟨b, off + 6, none⟩ = some (.string m.bytes)
theorem At7.of_block {w w' : World} {b off : Nat} {m : M} (h : At7 w b off m) (e : w'.heap[b]? = w.heap[b]?) : At7 w' b off m :=
  ⟨(World.cell?_of_block (w := w) e).trans h.c0, (World.cell?_of_block (w := w) e).trans h.c1, (World.cell?_of_block (w := w) e).trans h.c2, (World.cell?_of_block (w := w) e).trans h.c3, (World.cell?_of_block (w := w) e).trans h.c4, (World.cell?_of_block (w := w) e).trans h.c5, (World.cell?_of_block (w := w) e).trans h.c6⟩
/-- what a slice of them reads as -/
def MsAt (w : World) (a : Option Addr) (l : List M) : Prop := l = [] ∨ ∃ b off, a = some ⟨b, off, none⟩ ∧ b < w.heap.size ∧ ∀ i m, l[i]? = some m → At7 w b (off + i * 7) m
theorem MsAt.get {w w' : World} {a : Option Addr} {l : List M} (h : MsAt w a l) (hb : Below w.heap.size w w') {i : Nat} {m : M} (hi : l[i]? = some m) : ∃ b off, a = some ⟨b, off, none⟩ ∧ b < w.heap.size ∧ At7 w' b (off + i * 7) m := by
  rcases h with rfl | ⟨b, off, rfl, h1, h2⟩
  · simp at hi
  · exact ⟨b, off, rfl, h1, (h2 i m hi).of_block (hb.block b h1)⟩
theorem MsAt.below {w w' : World} {a : Option Addr} {l : List M} (h : MsAt w a l) (hb : Below w.heap.size w w') : MsAt w' a l := by
  rcases h with h | ⟨b, off, rfl, h1, h2⟩
  · exact .inl h
  · exact .inr ⟨b, off, rfl, Nat.lt_of_lt_of_le h1 hb.size, fun i m hi => (h2 i m hi).of_block (hb.block b h1)⟩
/-- a slice of the call's own, from block base on -/
def Ms (w : World) (base : Nat) (v : Value) (l : List M) : Prop := w.ownsRow base 23 7 v l.length (mcells l)
theorem Ms.nil (w : World) (base : Nat) : Ms w base (.slice none 0 0) [] := World.ownsRow_nil w base _ _
theorem add_at7 (g j : Nat) : (⟨g, 0, none⟩ : Addr).add j = ⟨g, 0 + j, none⟩ := by unfold Addr.add; split <;> simp_all
theorem Ms.at {w : World} {base : Nat} {v : Value} {l : List M} (h : Ms w base v l) : ∃ a cap, v = .slice a l.length cap ∧ MsAt w a l := by
  have hl := World.ownsRow.lt h
  have hc := fun g hg => World.ownsRow.cells (g := g) h hg
  rcases h.2 with ⟨rfl, hn⟩ | ⟨g, cap, cur, rfl, hb, hg, _⟩
  · obtain rfl := List.eq_nil_of_length_eq_zero hn
    exact ⟨none, 0, rfl, .inl rfl⟩
  · refine ⟨_, cap, rfl, .inr ⟨g, 0, rfl, (hl g rfl).2, fun i m hi => ?_⟩⟩
    have hg := mcells_get l i m hi
    have key : ∀ j, j < 7 → ∀ u, (cells1 m)[j]? = some u → w.cell? ⟨g, 0 + i * 7 + j, none⟩ = some u := fun j hj u hu => by
      have := hc g rfl _ _ ((hg j hj).trans hu)
      rw [add_at7] at this
      rwa [Nat.add_assoc]
    exact ⟨key 0 (by omega) _ rfl, key 1 (by omega) _ rfl, key 2 (by omega) _ rfl, key 3 (by omega) _ rfl, key 4 (by omega) _ rfl, key 5 (by omega) _ rfl, key 6 (by omega) _ rfl⟩
theorem Ms.below {w w' : World} {base B : Nat} {v : Value} {l : List M} (h : Ms w base v l) (hB : w.heap.size ≤ B) (hb : Below B w w') : Ms w' base v l := by
  have hl := World.ownsRow.lt h
  refine ⟨h.1, ?_⟩
  rcases h.2 with h2 | ⟨g, cap, cur, rfl, h1, h2, h3⟩
  · exact .inl h2
  · exact .inr ⟨g, cap, cur, rfl, h1, (hb.block g (Nat.lt_of_lt_of_le (hl g rfl).2 hB)).trans h2, h3⟩
theorem ms_push {w wr w1 : World} {base : Nat} {v v' : Value} {o : Obj} {xs : List M} {m : M} (hB : base ≤ wr.heap.size) (hown : Ms wr base v xs) (hb : Below base w wr)
    (hown' : w1.ownsRow base 23 7 v' (xs.length + 1) (mcells xs ++ cells1 m)) (hg : (wr.alloc o).grownBy w1 v.ownBlock) :
    Ms w1 base v' (xs ++ [m]) ∧ Below base w w1 := by
  refine ⟨?_, (hb.alloc hB o).grown hg (by simp; omega) (fun j hj => (World.ownsRow.lt hown j hj).1)⟩
  unfold Ms
  rw [List.length_append, mcells_snoc]
  exact hown'
theorem news7 (w : World) (m : M) : ∀ j u, (cells1 m)[j]? = some u → (w.alloc (.cells (rowOf m) 23)).cell? ((⟨w.heap.size, 0, none⟩ : Addr).add j) = some u := by
  intro j u hj
  rw [add_at7, cell_of_row _ _ _ _ _ _ (heap_alloc_new w (.cells (rowOf m) 23)), Nat.zero_add]
  simpa [rowOf, cells1] using hj
theorem one7 (m : M) : ∀ u ∈ cells1 m, u.oneCell' = true := by
  intro u hu
  simp [cells1] at hu
  rcases hu with rfl | rfl | rfl | rfl | rfl | rfl | rfl <;> rfl

/-- what one option adds -/
def goodM (o : O) : List M := if (get o).2 = 0 then [(get o).1] else []
def alls (l : List O) : List M := l.flatMap goodM
theorem alls_next (l : List O) (k : Nat) (o : O) (h : l[k]? = some o) : alls (l.take (k + 1)) = alls (l.take k) ++ goodM o := by
  rw [List.take_add_one, h]
  simp [alls]
theorem alls_le : ∀ (l : List O), (alls l).length ≤ l.length
  | [] => Nat.le_refl _
  | o :: r => by
    have h1 := alls_le r
    have h2 : (goodM o).length ≤ 1 := by unfold goodM; split <;> simp
    have e : alls (o :: r) = goodM o ++ alls r := by simp [alls]
    rw [e, List.length_append, List.length_cons]
    omega
/-- behind a call that gives them -/
def MsEnd (l : List M) (w : World) (e : Ending) (w' : World) : Prop := ∃ v, e = .returned v ∧ Ms w' w.heap.size v l ∧ Below w.heap.size w w'
/-- options that are not too great -/
def Few (l : List O) : Prop := l.length ≤ 1000 ∧ ∀ o ∈ l, o.value.size ≤ 3000

set_option maxRecDepth 100000 in
set_option maxHeartbeats 4000000 in
theorem All_any (l : List O) (hl : Few l) (a : Option Addr) (cap : Nat) (w : World) (h : OptsAt w a l) :
    Calls Try.prog 15 #[.slice a l.length cap] w (MsEnd (alls l) w) := by
  obtain ⟨i0, hi, hz0, hz1, hz2⟩ := info_parts infoM
  have H := Lib.hid h
  have HL := Lib.hid hl.2
  have hn := hl.1
  clear h hl
  go_enter Try.func15, Try.ntmps15
  go_wp2_with fail
  go_loopw [3, 10] (fun v i wr => ∃ k : Nat, k ≤ l.length ∧ i = .int .i64 k ∧ Ms wr w.heap.size v (alls (l.take k)) ∧ Below w.heap.size w wr) (fun _ i _ => l.length - (intOf i).toNat)
  case atStart => exact ⟨0, Nat.zero_le _, rfl, Ms.nil _ _, Below.refl _ _⟩
  case round =>
    obtain ⟨k, hk, rfl, hown, hb⟩ := hrel
    have Hown := Lib.hid hown
    have HB := Lib.hid hb
    have hbs := hb.size
    clear hown hb
    by_cases hlt : k < l.length
    · obtain ⟨⟨q, s⟩, hi2⟩ := Opt.some_at hlt
      obtain ⟨b, off, rfl, hb0, hc0, hc1⟩ := H.out.cell HB.out hi2
      dsimp only at hc0 hc1
      have HN := Lib.hid (alls_next l k _ hi2)
      have hss : s.size ≤ 3000 := HL.out _ (List.mem_of_getElem? hi2)
      have hxl := alls_le (l.take k)
      rw [List.length_take] at hxl
      have CG := Lib.hid (fun w => Get_any ⟨q, s⟩ hss w)
      unfold getV at CG
      have HG := Lib.hid (show goodM ⟨q, s⟩ = if (get ⟨q, s⟩).2 = 0 then [(get ⟨q, s⟩).1] else [] from rfl)
      generalize alls (l.take k) = xs at *
      generalize (get ⟨q, s⟩).2 = er at *
      generalize (get ⟨q, s⟩).1 = m at *
      clear hi2
      have BA := Lib.hid (HB.out.alloc hbs (.cells #[.int .i64 q, .string s] 26))
      have OA := Lib.hid (Ms.below Hown.out (Nat.le_refl _) ((Below.refl wr.heap.size wr).alloc (Nat.le_refl _) (.cells #[.int .i64 q, .string s] 26)))
      have oa := heap_alloc_new wr (.cells #[.int .i64 q, .string s] 26)
      go_wp2_with fail
      refine (CG.out _).mono ?_
      rintro e w2 ⟨rfl, h2⟩
      have B2 := Lib.hid (BA.out.trans (h2.mono (by simp; omega)))
      have O2 := Lib.hid (Ms.below OA.out (Nat.le_refl _) h2)
      have z2 : w.heap.size ≤ w2.heap.size := by have := h2.size; simp at this; omega
      clear h2 BA OA oa
      obtain ⟨mk, ma, mp, mt, mn, mq, mb⟩ := m
      unfold vOf
      dsimp only
      by_cases he : er = 0
      · subst he
        have HN' := Lib.hid (show alls (l.take (k + 1)) = xs ++ [⟨mk, ma, mp, mt, mn, mq, mb⟩] by rw [HN.out, HG.out, if_pos rfl])
        clear HN HG
        go_wp2_with (at_builtin; refine wpList_append_own _ rfl _ _ 35 rfl w.heap.size 23 i0 (.agg #[.int .i64 0, .int .i64 0, .int .i64 0, .int .i64 0, .int .i64 0, .int .i64 0, .string ⟨#[]⟩]) 7 64 Try.underlying35 hi hz0 hz1 hz2 rfl (by decide) _ _ _ rfl (World.ownsRow.alloc (World.ownsRow.alloc O2.out _) _) ⟨w2.heap.size + 1, 0, none⟩ 1 1 (cells1 ⟨mk, ma, mp, mt, mn, mq, mb⟩) rfl rfl ?c1 ?c2 ?c3 ?c4 ?c5 ?_)
        case c1 =>
          have := news7 (w2.alloc (.cells (rowOf ⟨mk, ma, mp, mt, mn, mq, mb⟩) 23)) ⟨mk, ma, mp, mt, mn, mq, mb⟩
          rwa [World.size_alloc] at this
        case c2 => exact one7 _
        case c3 => unfold maxLen; omega
        case c4 => omega
        case c5 => simp; omega
        intro v' w3 hown' hg _
        have hp := Lib.hid (ms_push (by simp; omega) (World.ownsRow.alloc O2.out _) (B2.out.alloc z2 _) hown' hg)
        clear hown' hg
        go_wp2_with fail
        exact ⟨⟨k + 1, by omega, by go_num, by rw [HN'.out]; exact hp.out.1, hp.out.2⟩, by simp [intOf]; omega⟩
      · have her : (er == 0) = false := by simpa using he
        have HN' := Lib.hid (show alls (l.take (k + 1)) = xs by rw [HN.out, HG.out, if_neg he, List.append_nil])
        clear HN HG he
        go_wp2_with fail
        exact ⟨⟨k + 1, by omega, by go_num, by rw [HN'.out]; exact World.ownsRow.alloc O2.out _, B2.out.alloc z2 _⟩, by simp [intOf]; omega⟩
    · obtain rfl : k = l.length := by omega
      rw [List.take_length] at Hown
      go_wp2_with fail
      go_ret
      exact ⟨_, rfl, Hown.out, HB.out⟩
end Go.Proofs.Ytmkngolkflihlaa.Mp
