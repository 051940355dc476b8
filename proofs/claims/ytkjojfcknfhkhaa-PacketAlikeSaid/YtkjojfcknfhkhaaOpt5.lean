/- Options that bytes say: the contract of the program's. -/
import Derived.Test.YtkjojfcknfhkhaaOpt4
import Derived.Maps.AppendAt
namespace Go.Proofs.Ytkjojfcknfhkhaa.Opt
open Go.ChangeShapes Go.WideShapes Go.ChangeAt Go.RowKit Go.Shelf
set_option linter.unusedVariables false

attribute [local go_sem] Oper.semAt_some

theorem infoOpt : (Try.prog.info? 57).map (fun i => (i.zero, i.size, i.bytes)) = some (some (.agg #[.int .i64 0, .string ⟨#[]⟩]), 2, 24) := by kernel_rfl

/-- the cells of options -/
def cellsOf (l : List O) : List Value := l.flatMap fun o => [.int .i64 o.kind, .string o.value]
theorem cellsOf_snoc (l : List O) (o : O) : cellsOf (l ++ [o]) = cellsOf l ++ [.int .i64 o.kind, .string o.value] := by simp [cellsOf]
theorem cellsOf_get : ∀ (l : List O) (i : Nat) (o : O), l[i]? = some o → (cellsOf l)[i * 2]? = some (.int .i64 o.kind) ∧ (cellsOf l)[i * 2 + 1]? = some (.string o.value)
  | [], i, o, h => by simp at h
  | p :: r, 0, o, h => by
    obtain rfl : p = o := by simpa using h
    exact ⟨rfl, rfl⟩
  | p :: r, i + 1, o, h => by
    have := cellsOf_get r i o (by simpa using h)
    have e : cellsOf (p :: r) = .int .i64 p.kind :: .string p.value :: cellsOf r := rfl
    rw [e, show (i + 1) * 2 = i * 2 + 1 + 1 by omega]
    exact this

/-- a slice of options of the call's own, from block base on -/
def Opts (w : World) (base : Nat) (v : Value) (l : List O) : Prop := w.ownsRow base 57 2 v l.length (cellsOf l)
theorem Opts.at {w : World} {base : Nat} {v : Value} {l : List O} (h : Opts w base v l) : ∃ a cap, v = .slice a l.length cap ∧ OptsAt w a l := by
  have hl := World.ownsRow.lt h
  have hc := fun g hg => World.ownsRow.cells (g := g) h hg
  rcases h.2 with ⟨rfl, hn⟩ | ⟨g, cap, cur, rfl, hb, hg, _⟩
  · obtain rfl := List.eq_nil_of_length_eq_zero hn
    exact ⟨none, 0, rfl, .inl rfl⟩
  · refine ⟨_, cap, rfl, .inr ⟨g, 0, rfl, (hl g rfl).2, fun i o hi => ?_⟩⟩
    have ha : ∀ j, (⟨g, 0, none⟩ : Addr).add j = ⟨g, 0 + j, none⟩ := fun j => by unfold Addr.add; split <;> simp_all
    obtain ⟨h0, h1⟩ := cellsOf_get l i o hi
    have c0 := hc g rfl _ _ h0
    have c1 := hc g rfl _ _ h1
    rw [ha] at c0 c1
    exact ⟨c0, c1⟩

theorem Opts.below {w w' : World} {base B : Nat} {v : Value} {l : List O} (h : Opts w base v l) (hB : w.heap.size ≤ B) (hb : Below B w w') : Opts w' base v l := by
  have hl := World.ownsRow.lt h
  refine ⟨h.1, ?_⟩
  rcases h.2 with h2 | ⟨g, cap, cur, rfl, h1, h2, h3⟩
  · exact .inl h2
  · exact .inr ⟨g, cap, cur, rfl, h1, (hb.block g (Nat.lt_of_lt_of_le (hl g rfl).2 hB)).trans h2, h3⟩
theorem Opts.set {w : World} {base B : Nat} {v : Value} {l : List O} {t : TypeId} {u : Value} (h : Opts w base v l) (hb : Boxed w B t u) (ht : t ≠ 57) (x : Value) : Opts (w.setCell ⟨B, 0, none⟩ x) base v l :=
  World.ownsRow.kept h (grownBy_setCell' w B x) (.inr (hb.not_row ht h).symm)

/-- two cells that a variable has -/
def Box2 (W : World) (B : Nat) (t : TypeId) (u v : Value) : Prop := W.heap[B]? = some (.cells #[u, v] t (0, 0))
theorem Box2.lt {W : World} {B : Nat} {t : TypeId} {u v : Value} (h : Box2 W B t u v) : B < W.heap.size := (Array.getElem?_eq_some_iff.1 h).1
theorem Box2.cell {W : World} {B : Nat} {t : TypeId} {u v : Value} (h : Box2 W B t u v) : W.cell? ⟨B, 0, none⟩ = some u ∧ W.cell? ⟨B, 1, none⟩ = some v := by
  constructor <;> simp [World.cell?, show W.heap[B]? = _ from h]
theorem Box2.new (W : World) (t : TypeId) (u v : Value) : Box2 (W.alloc (.cells #[u, v] t)) W.heap.size t u v := World.alloc_heap_new W _
theorem Box2.below {w w' : World} {B N : Nat} {t : TypeId} {u v : Value} (h : Box2 w B t u v) (hb : Below N w w') (hN : B < N) : Box2 w' B t u v := (hb.block B hN).trans h
theorem box2_own {β : Type} (B : Nat) (t : TypeId) (u v : Value) : Own (fun (_ : β) W => Box2 W B t u v) := fun s X Y row hs hg hrow => by
  have hlt := Box2.lt hs
  refine (hg.block B hlt (fun e' => ?_)).trans hs
  obtain ⟨o, ho, hc⟩ := hrow B e'.symm
  rw [show X.heap[B]? = _ from hs] at ho; cases ho; cases hc
theorem cell_two_new (w : World) (x y : Value) (t : TypeId) : ∀ j u, [x, y][j]? = some u → (w.alloc (.cells #[x, y] t)).cell? ((⟨w.heap.size, 0, none⟩ : Addr).add j) = some u := by
  intro j u hj
  have ha : ∀ j, (⟨w.heap.size, 0, none⟩ : Addr).add j = ⟨w.heap.size, 0 + j, none⟩ := fun j => by unfold Addr.add; split <;> simp_all
  have hb := Box2.new w t x y
  rw [ha]
  match j, hj with
  | 0, hj => simp at hj; subst hj; exact hb.cell.1
  | 1, hj => simp at hj; subst hj; exact hb.cell.2

theorem errs_snoc : ∀ (pre : List (O × Int)) (x : O × Int), errs pre = 0 → errs (pre ++ [x]) = x.2
  | [], x, _ => by
    show errs [x] = x.2
    unfold errs
    split
    · rename_i h; rw [h]; rfl
    · rfl
  | y :: r, x, h => by
    show errs (y :: (r ++ [x])) = x.2
    unfold errs at h ⊢
    split at h
    · rename_i hy; rw [if_pos hy]; exact errs_snoc r x h
    · rename_i hy; exact absurd h hy
theorem goods_snoc : ∀ (pre : List (O × Int)) (x : O × Int), errs pre = 0 → x.2 = 0 → goods (pre ++ [x]) = goods pre ++ [x.1]
  | [], x, _, hx => by
    show goods [x] = [x.1]
    unfold goods
    rw [if_pos hx]; rfl
  | y :: r, x, h, hx => by
    show goods (y :: (r ++ [x])) = goods (y :: r) ++ [x.1]
    unfold errs at h
    unfold goods
    split at h
    · rename_i hy; rw [if_pos hy, if_pos hy, goods_snoc r x h hx]; rfl
    · rename_i hy; exact absurd h hy
theorem errs_prefix : ∀ {pre l : List (O × Int)}, pre <+: l → errs pre ≠ 0 → errs l = errs pre
  | [], l, _, h => absurd rfl h
  | y :: r, l, ⟨t, ht⟩, h => by
    subst ht
    show errs (y :: (r ++ t)) = errs (y :: r)
    unfold errs at h ⊢
    split at h
    · rename_i hy; rw [if_pos hy, if_pos hy]; exact errs_prefix ⟨t, rfl⟩ h
    · rename_i hy; rw [if_neg hy, if_neg hy]

set_option maxRecDepth 100000 in
set_option maxHeartbeats 2000000 in
theorem Get_in (n : Nat) (hn : 3 ≤ n) (s : ByteArray) (hs : s.size ≤ 3000) (w : World) :
    CallsIn Fence.wide n Try.prog 76 #[.string s] w fun e w' => ∃ a cap, e = .returned (.tuple #[.slice a (getOpts s).length cap, .int .i64 (getErr s)]) ∧ OptsAt w' a (getOpts s) ∧ Below w.heap.size w w' := by
  have h1 : 1 ≤ n := by omega
  obtain ⟨i0, hi, hz0, hz1, hz2⟩ := info_parts infoOpt
  refine callsIn_of_wp_marks Try.func76 rfl trivial ?_ rfl
  simp only [Try.ntmps76, List.size_toArray, List.length_cons, List.length_nil, Nat.reduceAdd, Nat.reduceSub, Array.replicate_succ, Array.replicate_zero, List.push_toArray, List.append_toArray, List.nil_append, List.cons_append]
  gi_wp2_with (refine ⟨trivial, ?_⟩; gi_at_call 91; refine (callsIn_wide.2 (told_any s hs _)).mono ?_; rintro e w1 ⟨Bn, rfl, hBn, hcn, hb1⟩)
  have hz : ((w.alloc (.cells #[.slice none 0 0] 22)).alloc (.cells #[.int .i64 0] 29)).heap.size = w.heap.size + 2 := by simp
  have hb3 : Below w.heap.size w (((w.alloc (.cells #[.slice none 0 0] 22)).alloc (.cells #[.int .i64 0] 29)).alloc (.cells #[.slice none 0 0] 22)) :=
    (((Below.refl _ w).alloc (Nat.le_refl _) _).alloc (by simp) _).alloc (by omega) _
  have hz3 : (((w.alloc (.cells #[.slice none 0 0] 22)).alloc (.cells #[.int .i64 0] 29)).alloc (.cells #[.slice none 0 0] 22)).heap.size = w.heap.size + 3 := by simp
  have bR1 := boxed_below (((Boxed.new w 22 (.slice none 0 0)).alloc (.cells #[.int .i64 0] 29)).alloc (.cells #[.slice none 0 0] 22)) hb1 (by omega)
  have bR2 := boxed_below ((Boxed.new (w.alloc (.cells #[.slice none 0 0] 22)) 29 (.int .i64 0)).alloc (.cells #[.slice none 0 0] 22)) hb1 (by simp)
  have bL := boxed_below (Boxed.new ((w.alloc (.cells #[.slice none 0 0] 22)).alloc (.cells #[.int .i64 0] 29)) 22 (.slice none 0 0)) hb1 (by simp)
  simp only [World.size_alloc] at bR2 bL
  have hsz : w.heap.size + 3 ≤ w1.heap.size := by have := hb1.size; omega
  have hB0 : Below w.heap.size w w1 := hb3.trans (hb1.mono (by omega))
  clear hz hz3 hb3 hb1
  have hlen := told_length s
  have hfit := goods_fit hs
  refine wpIn_rangeFunc_ownH (w := w1) rfl h1 (gf := 96) (lb := #[.pointer (some ⟨Bn, 0, none⟩)]) rfl trivial (enters_of Try.func96 (by kernel_rfl) rfl)
    (told_stops (n - 1) Bn s hs w1 hBn hcn) (fun _ _ => trivial) (fun _ _ _ _ _ _ _ _ => trivial) (Below.refl _ _) (fun _ => rfl)
    (fun pre W => (((errs pre = 0 ∧ Boxed W w.heap.size 22 (.slice none 0 0)) ∧ Boxed W (w.heap.size + 1) 29 (.int .i64 0)) ∧ (∃ v, Boxed W (w.heap.size + 1 + 1) 22 v ∧ W.ownsRow w.heap.size 57 2 v (goods pre).length (cellsOf (goods pre)) ∧ True)) ∧ Below w.heap.size w W)
    (fun c pre W => (((c = .ret ∧ errs pre ≠ 0) ∧ Boxed W w.heap.size 22 (.slice none 0 0)) ∧ Boxed W (w.heap.size + 1) 29 (.int .i64 (errs pre))) ∧ Below w.heap.size w W)
    (OwnFrom.and (OwnFrom.and (OwnFrom.and (OwnFrom.and (ownFrom_pure _ _) (Own.from (boxed_own _ _ _) _)) (Own.from (boxed_own _ _ _) _)) (Own.from (holdsRow_own _ _ _ _ _ _ _ (fun _ _ => True)) _)) (ownFrom_below (Nat.le_refl _) (by omega)))
    (fun c => OwnFrom.and (OwnFrom.and (OwnFrom.and (ownFrom_pure _ _) (Own.from (boxed_own _ _ _) _)) (Own.from (boxed_own _ _ _) _)) (ownFrom_below (Nat.le_refl _) (by omega)))
    ⟨⟨⟨⟨rfl, bR1⟩, bR2⟩, ⟨_, bL, World.ownsRow_nil _ _ _ _, trivial⟩⟩, hB0⟩
    (fun x a' W => ∃ Bx, w.heap.size + 3 ≤ Bx ∧ Box2 W Bx 57 (.int .i64 x.1.kind) (.string x.1.value) ∧ a' = { tmps := #[.string s, undef, .pointer (some ⟨w.heap.size, 0, none⟩), .pointer (some ⟨w.heap.size + 1, 0, none⟩), .pointer (some ⟨w.heap.size + 1 + 1, 0, none⟩), .pointer (some ⟨Bx, 0, none⟩), .int .i64 x.2, undef, .string s, .func (.func 96) #[] #[.pointer (some ⟨Bn, 0, none⟩)], .agg #[.int .i64 x.1.kind, .string x.1.value], .int .i64 x.2, undef, undef, undef, undef, undef, undef, undef, undef, undef, undef, undef, undef, undef], defers := [] })
    ?hAx ?assign ?body ?done ?stop
  case hAx =>
    rintro x a' s W W' row ⟨Bx, hBx, hb2, ha⟩ hg hr
    exact ⟨Bx, hBx, Own.from (box2_own Bx _ _ _) _ s W W' row hb2 hg hr, ha⟩
  case assign =>
    rintro l pre ⟨⟨k, v0⟩, er⟩ W K ⟨⟨⟨⟨he, bR1⟩, bR2⟩, ⟨v, hv, hrow, -⟩⟩, hB⟩ hK
    dsimp only [encs] at hK ⊢
    have hL := hv.lt
    gi_wp2
    exact hK _ _ ((KeepsOthers.alloc _ _).from _) trivial ⟨⟨⟨⟨he, bR1.alloc _⟩, bR2.alloc _⟩, ⟨v, hv.alloc _, hrow.alloc _, trivial⟩⟩, hB.alloc hB.size _⟩ ⟨W.heap.size, by omega, Box2.new _ _ _ _, rfl⟩
  case body =>
    rintro l pre ⟨⟨k, v0⟩, er⟩ a' W hl ⟨r, hr⟩ ⟨⟨⟨⟨he, bR1⟩, bR2⟩, ⟨v, hv, hrow, -⟩⟩, hB⟩ ⟨Bx, hBx, bX, rfl⟩ hlt
    dsimp only [encs] at bX ⊢
    have hc := hv.cell
    obtain ⟨cx0, cx1⟩ := bX.cell
    have c1 := bR1.cell
    have f1 := bR1.frozen
    have c2 := bR2.cell
    have f2 := bR2.frozen
    by_cases her : er = 0
    · subst her
      have hgl := goods_length pre
      have hm : 3001 ≤ maxLen := by decide
      gi_wp2_with (gi_at_builtin; refine wpListIn_append_own _ rfl _ _ 22 rfl w.heap.size 57 i0 (.agg #[.int .i64 0, .string ⟨#[]⟩]) 2 24 Try.underlying22 hi hz0 hz1 hz2 rfl (by decide) _ _ _ rfl (hrow.alloc _) ⟨W.heap.size, 0, none⟩ 1 1 [.int .i64 k, .string v0] rfl rfl (cell_two_new _ _ _ _) (by simp [Value.oneCell']) (by omega) (by omega) (by have := hB.size; simp; omega) ?_; intro v' w2 hown' hgrow _; obtain ⟨g', cap', rfl⟩ := ownsRow_succ hown'; obtain ⟨hv1, hv2, hr2, hk2, hb2⟩ := hv.appended (by decide) hrow hB.size (by omega) hown' hgrow; have hc1 := hv1.cell; have hf1 := hv1.frozen; have bR1' := ((bR1.alloc (.cells #[.int .i64 k, .string v0] 57)).kept hgrow (bR1.not_row (by decide) hrow)).other (B' := w.heap.size + 1 + 1) (by omega) (.slice (some ⟨g', 0, none⟩) ((goods pre).length + 1) cap'); have bR2' := ((bR2.alloc (.cells #[.int .i64 k, .string v0] 57)).kept hgrow (bR2.not_row (by decide) hrow)).other (B' := w.heap.size + 1 + 1) (by omega) (.slice (some ⟨g', 0, none⟩) ((goods pre).length + 1) cap'))
      exact ⟨hk2.from _, trivial, ⟨⟨⟨errs_snoc _ _ he, bR1'⟩, bR2'⟩, ⟨_, hv2, by rw [goods_snoc _ _ he rfl, cellsOf_snoc, List.length_append]; exact hr2, trivial⟩⟩, hB.trans hb2⟩
    · have her1 : (er == 0) = false := by simp [her]
      gi_wp2_with fail
      exact ⟨((KeepsOthers.setCell _ _ _).trans (KeepsOthers.setCell _ _ _)).from _, ⟨⟨⟨rfl, by rw [errs_snoc _ _ he]; exact her⟩, (bR1.set _).other (by omega) _⟩, by rw [errs_snoc _ _ he]; exact (bR2.other (by omega) _).set _⟩, (hB.setCell (p := ⟨w.heap.size, 0, none⟩) (Nat.le_refl _) _).setCell (p := ⟨w.heap.size + 1, 0, none⟩) (by simp) _⟩
  case done =>
    rintro D ys W hD rfl ⟨⟨⟨⟨he, bR1⟩, bR2⟩, ⟨v, hv, hrow, -⟩⟩, hB⟩ hK
    obtain ⟨a, cap, rfl, hat⟩ := Opts.at hrow
    have hL := hv.cell
    have hLlt := hv.lt
    have hDlt := (Array.getElem?_eq_some_iff.1 hK).1
    have hg : getErr s = check (goods (told s)) := if_pos he
    have ho : getOpts s = if getErr s = 0 then goods (told s) else [] := rfl
    obtain ⟨c, hcd⟩ : ∃ c, check (goods (told s)) = c := ⟨_, rfl⟩
    by_cases hc0 : c = 0
    · subst hc0
      gi_wp2_with (refine ⟨trivial, ?_⟩; gi_at_call 28; refine (callsIn_wide.2 (Check_any (goods (told s)) hfit a cap W hat)).mono ?_; rintro e w2 ⟨rfl, h2⟩; rw [hcd]; have bR1' := boxed_below bR1 h2 (by omega); have bR2' := boxed_below bR2 h2 (by omega); have hv' := boxed_below hv h2 (by omega); have hL2 := hv'.cell; have c1 := bR1'.cell; have f1 := bR1'.frozen; have c2 := bR2'.cell; have f2 := bR2'.frozen)
      rw [hcd] at hg
      rw [hg, if_pos rfl] at ho
      obtain ⟨X, hX⟩ : ∃ X, (w2.setCell { block := w.heap.size, off := 0 } (.slice a (goods (told s)).length cap)).setCell { block := w.heap.size + 1, off := 0 } (.int .i64 0) = X := ⟨_, rfl⟩
      have b1 : Boxed X w.heap.size 22 (.slice a (goods (told s)).length cap) := by rw [← hX]; exact (bR1'.set _).other (by omega) _
      have b2 : Boxed X (w.heap.size + 1) 29 (.int .i64 0) := by rw [← hX]; exact (bR2'.other (by omega) _).set _
      have hKX : X.heap[D]? = some (.deferred (some [])) := by rw [← hX]; exact ((KeepsOthers.setCell _ _ _).trans (KeepsOthers.setCell _ _ _)).same D _ ((h2.block D hDlt).trans hK) rfl
      have hrX : Opts X w.heap.size (.slice a (goods (told s)).length cap) (goods (told s)) := by
        rw [← hX]
        exact ((Opts.below hrow (Nat.le_refl _) h2).set bR1' (by decide) _).set (bR2'.other (by omega) _) (by decide) _
      have hBX : Below w.heap.size w X := by rw [← hX]; exact ((hB.trans (h2.mono hB.size)).setCell (p := ⟨w.heap.size, 0, none⟩) (Nat.le_refl _) _).setCell (p := ⟨w.heap.size + 1, 0, none⟩) (by simp) _
      rw [hX]
      have b1' := (b1.kept (grownBy_putObj' X D (.deferred none)) (by simp; omega)).cell
      have b2' := (b2.kept (grownBy_putObj' X D (.deferred none)) (by simp; omega)).cell
      refine ⟨by simp, .inl ⟨_, _, rfl, run_takeDeferred hKX, ?_⟩⟩
      refine ⟨.tuple #[.slice a (goods (told s)).length cap, .int .i64 0], by simp [results, Try.f76, go_sem, b1', b2'], a, cap, ?_, ?_, hBX.trans (belowK_b (w := w) (Nat.le_refl _) X D _ _ (by omega) hKX rfl rfl)⟩
      · rw [hg, ho]
      · rw [ho]
        obtain ⟨a', cap', e, ha⟩ := Opts.at (show Opts _ w.heap.size _ _ from ownsRow_putObj hrX (.deferred none) hKX rfl)
        cases e
        exact ha
    · have hc1 : (c == 0) = false := by simp [hc0]
      gi_wp2_with (refine ⟨trivial, ?_⟩; gi_at_call 28; refine (callsIn_wide.2 (Check_any (goods (told s)) hfit a cap W hat)).mono ?_; rintro e w2 ⟨rfl, h2⟩; rw [hcd]; have bR1' := boxed_below bR1 h2 (by omega); have bR2' := boxed_below bR2 h2 (by omega); have hv' := boxed_below hv h2 (by omega); have hL2 := hv'.cell; have c1 := bR1'.cell; have f1 := bR1'.frozen; have c2 := bR2'.cell; have f2 := bR2'.frozen)
      rw [hcd] at hg
      rw [hg, if_neg hc0] at ho
      obtain ⟨X, hX⟩ : ∃ X, (w2.setCell { block := w.heap.size, off := 0 } (.slice none 0 0)).setCell { block := w.heap.size + 1, off := 0 } (.int .i64 c) = X := ⟨_, rfl⟩
      have b1 : Boxed X w.heap.size 22 (.slice none 0 0) := by rw [← hX]; exact (bR1'.set _).other (by omega) _
      have b2 : Boxed X (w.heap.size + 1) 29 (.int .i64 c) := by rw [← hX]; exact (bR2'.other (by omega) _).set _
      have hKX : X.heap[D]? = some (.deferred (some [])) := by rw [← hX]; exact ((KeepsOthers.setCell _ _ _).trans (KeepsOthers.setCell _ _ _)).same D _ ((h2.block D hDlt).trans hK) rfl
      have hBX : Below w.heap.size w X := by rw [← hX]; exact ((hB.trans (h2.mono hB.size)).setCell (p := ⟨w.heap.size, 0, none⟩) (Nat.le_refl _) _).setCell (p := ⟨w.heap.size + 1, 0, none⟩) (by simp) _
      rw [hX]
      have b1' := (b1.kept (grownBy_putObj' X D (.deferred none)) (by simp; omega)).cell
      have b2' := (b2.kept (grownBy_putObj' X D (.deferred none)) (by simp; omega)).cell
      refine ⟨by simp, .inl ⟨_, _, rfl, run_takeDeferred hKX, ?_⟩⟩
      refine ⟨.tuple #[.slice none 0 0, .int .i64 c], by simp [results, Try.f76, go_sem, b1', b2'], none, 0, ?_, ?_, hBX.trans (belowK_b (w := w) (Nat.le_refl _) X D _ _ (by omega) hKX rfl rfl)⟩
      · rw [hg, ho]; rfl
      · rw [ho]; exact .inl rfl
  case stop =>
    rintro D c pre W hD hpre ⟨⟨⟨⟨rfl, he⟩, bR1⟩, bR2⟩, hB⟩ hK
    have he2 := errs_prefix hpre he
    have hg : getErr s = errs pre := by unfold getErr; rw [he2, if_neg he]
    have ho : getOpts s = [] := by unfold getOpts; rw [hg, if_neg he]
    gi_wp2
    have b1' := (bR1.kept (grownBy_putObj' W D (.deferred none)) (by simp; omega)).cell
    have b2' := (bR2.kept (grownBy_putObj' W D (.deferred none)) (by simp; omega)).cell
    refine ⟨by simp, .inl ⟨_, _, rfl, run_takeDeferred hK, ?_⟩⟩
    refine ⟨.tuple #[.slice none 0 0, .int .i64 (errs pre)], by simp [results, Try.f76, go_sem, b1', b2'], none, 0, ?_, ?_, hB.trans (belowK_b (w := w) (Nat.le_refl _) W D _ _ (by omega) hK rfl rfl)⟩
    · rw [hg, ho]; rfl
    · rw [ho]; exact .inl rfl

theorem Get_any (s : ByteArray) (hs : s.size ≤ 3000) (w : World) :
    Calls Try.prog 76 #[.string s] w fun e w' => ∃ a cap, e = .returned (.tuple #[.slice a (getOpts s).length cap, .int .i64 (getErr s)]) ∧ OptsAt w' a (getOpts s) ∧ Below w.heap.size w w' :=
  callsIn_wide.1 (Get_in 3 (Nat.le_refl _) s hs w)
end Go.Proofs.Ytkjojfcknfhkhaa.Opt
