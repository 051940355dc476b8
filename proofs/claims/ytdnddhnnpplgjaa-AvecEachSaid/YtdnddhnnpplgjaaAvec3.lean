/- Slices of bytes and of runs that a call made; runs as bytes: the contract of the program's. -/
import Derived.Test.YtdnddhnnpplgjaaAvec2
import Derived.Test.YtdnddhnnpplgjaaBase1
import Derived.Laws.BytesArg
import Derived.Laws.AppendOwn
import Derived.Maps.AppendAt
import Derived.Shelf.Abstract
import Derived.Shelf.RegionOpen
import Derived.BigRegion
namespace Go.Proofs.Ytdnddhnnpplgjaa.Avec
open Go.ChangeShapes Go.WideShapes Go.ChangeAt Go.RowKit
set_option linter.unusedVariables false

theorem infoB : (Try.prog.info? 5).map (fun i => (i.zero, i.size, i.bytes)) = some (some (.int .u8 0), 1, 1) := by kernel_rfl
theorem infoRun : (Try.prog.info? 45).map (fun i => (i.zero, i.size, i.bytes)) = some (some (.agg #[.int .i64 0, .int .i64 0]), 2, 16) := by kernel_rfl

def byteCell (b : UInt8) : Value := .int .u8 (b.toNat : Int)
/-- a slice of bytes of the call's own, from block base on -/
def Bts (w : World) (base : Nat) (v : Value) (xs : List UInt8) : Prop := w.ownsRow base 5 1 v xs.length (xs.map byteCell)
theorem Bts.nil (w : World) (base : Nat) : Bts w base (.slice none 0 0) [] := World.ownsRow_nil w base _ _
theorem Bts.back {w : World} {base : Nat} {v : Value} {xs : List UInt8} (h : Bts w base v xs) : (convert 43 9 v).run Try.prog w = .ok (.string ⟨xs.toArray⟩) w := by
  have hc := fun g hg => World.ownsRow.cells (g := g) h hg
  rcases h.2 with ⟨rfl, hn⟩ | ⟨g, cap, cur, rfl, hb, hg, _⟩
  · obtain rfl := List.eq_nil_of_length_eq_zero hn
    exact run_convert_bytes_nil w 43 5 Try.underlying43 Try.underlying5 0 0 9 Try.underlying9
  · exact run_convert_bytes_back (P := Try.prog) w 43 9 5 ⟨g, 0, none⟩ cap xs Try.underlying43 Try.underlying5 Try.underlying9 (fun j hj => by
      exact hc g rfl j (.int .u8 (xs[j].toNat : Int)) (by simp [List.getElem?_eq_getElem hj, byteCell]))
theorem bts_push {w wr w1 : World} {base : Nat} {v v' : Value} {o : Obj} {xs : List UInt8} {x : UInt8} (hB : base ≤ wr.heap.size) (hown : Bts wr base v xs) (hb : Below base w wr)
    (hown' : w1.ownsRow base 5 1 v' (xs.length + 1) (xs.map byteCell ++ [byteCell x])) (hg : (wr.alloc o).grownBy w1 v.ownBlock) :
    Bts w1 base v' (xs ++ [x]) ∧ Below base w w1 := by
  refine ⟨?_, (hb.alloc hB o).grown hg (by simp; omega) (fun j hj => (World.ownsRow.lt hown j hj).1)⟩
  unfold Bts
  rw [List.length_append, List.map_append]
  exact hown'

/-- the cells of runs -/
def cellsOf (l : List R) : List Value := l.flatMap fun o => [.int .i64 o.state, .int .i64 o.many]
theorem cellsOf_snoc (l : List R) (o : R) : cellsOf (l ++ [o]) = cellsOf l ++ [.int .i64 o.state, .int .i64 o.many] := by simp [cellsOf]
theorem cellsOf_length (l : List R) : (cellsOf l).length = l.length * 2 := by
  induction l with
  | nil => rfl
  | cons p r ih => rw [show cellsOf (p :: r) = .int .i64 p.state :: .int .i64 p.many :: cellsOf r from rfl, List.length_cons, List.length_cons, ih, List.length_cons]; omega
theorem cellsOf_get : ∀ (l : List R) (i : Nat) (o : R), l[i]? = some o → (cellsOf l)[i * 2]? = some (.int .i64 o.state) ∧ (cellsOf l)[i * 2 + 1]? = some (.int .i64 o.many)
  | [], i, o, h => by simp at h
  | p :: r, 0, o, h => by
    obtain rfl : p = o := by simpa using h
    exact ⟨rfl, rfl⟩
  | p :: r, i + 1, o, h => by
    have := cellsOf_get r i o (by simpa using h)
    have e : cellsOf (p :: r) = .int .i64 p.state :: .int .i64 p.many :: cellsOf r := rfl
    rw [e, show (i + 1) * 2 = i * 2 + 1 + 1 by omega]
    exact this

theorem add_at (g j : Nat) : (⟨g, 0, none⟩ : Addr).add j = ⟨g, 0 + j, none⟩ := by unfold Addr.add; split <;> simp_all
/-- a slice of runs of the call's own, from block base on -/
def Runs (w : World) (base : Nat) (v : Value) (l : List R) : Prop := w.ownsRow base 45 2 v l.length (cellsOf l)
theorem Runs.nil (w : World) (base : Nat) : Runs w base (.slice none 0 0) [] := World.ownsRow_nil w base _ _
theorem Runs.at {w : World} {base : Nat} {v : Value} {l : List R} (h : Runs w base v l) : ∃ a cap, v = .slice a l.length cap ∧ RunsAt w a l := by
  have hl := World.ownsRow.lt h
  have hc := fun g hg => World.ownsRow.cells (g := g) h hg
  rcases h.2 with ⟨rfl, hn⟩ | ⟨g, cap, cur, rfl, hb, hg, _⟩
  · obtain rfl := List.eq_nil_of_length_eq_zero hn
    exact ⟨none, 0, rfl, .inl rfl⟩
  · refine ⟨_, cap, rfl, .inr ⟨g, 0, rfl, (hl g rfl).2, fun i o hi => ?_⟩⟩
    obtain ⟨h0, h1⟩ := cellsOf_get l i o hi
    have c0 := hc g rfl _ _ h0
    have c1 := hc g rfl _ _ h1
    rw [add_at] at c0 c1
    exact ⟨c0, c1⟩
theorem Runs.below {w w' : World} {base B : Nat} {v : Value} {l : List R} (h : Runs w base v l) (hB : w.heap.size ≤ B) (hb : Below B w w') : Runs w' base v l := by
  have hl := World.ownsRow.lt h
  refine ⟨h.1, ?_⟩
  rcases h.2 with h2 | ⟨g, cap, cur, rfl, h1, h2, h3⟩
  · exact .inl h2
  · exact .inr ⟨g, cap, cur, rfl, h1, (hb.block g (Nat.lt_of_lt_of_le (hl g rfl).2 hB)).trans h2, h3⟩
theorem runs_push {w wr w1 : World} {base : Nat} {v v' : Value} {o : Obj} {xs : List R} {s n : Int} (hB : base ≤ wr.heap.size) (hown : Runs wr base v xs) (hb : Below base w wr)
    (hown' : w1.ownsRow base 45 2 v' (xs.length + 1) (cellsOf xs ++ [.int .i64 s, .int .i64 n])) (hg : (wr.alloc o).grownBy w1 v.ownBlock) :
    Runs w1 base v' (xs ++ [⟨s, n⟩]) ∧ Below base w w1 := by
  refine ⟨?_, (hb.alloc hB o).grown hg (by simp; omega) (fun j hj => (World.ownsRow.lt hown j hj).1)⟩
  unfold Runs
  rw [List.length_append, cellsOf_snoc]
  exact hown'

/-- two cells that a variable has -/
def Box2 (W : World) (B : Nat) (t : TypeId) (u v : Value) : Prop := W.heap[B]? = some (.cells #[u, v] t (0, 0))
theorem Box2.lt {W : World} {B : Nat} {t : TypeId} {u v : Value} (h : Box2 W B t u v) : B < W.heap.size := (Array.getElem?_eq_some_iff.1 h).1
theorem Box2.cell {W : World} {B : Nat} {t : TypeId} {u v : Value} (h : Box2 W B t u v) : W.cell? ⟨B, 0, none⟩ = some u ∧ W.cell? ⟨B, 1, none⟩ = some v := by
  constructor <;> simp [World.cell?, show W.heap[B]? = _ from h]
theorem Box2.new (W : World) (t : TypeId) (u v : Value) : Box2 (W.alloc (.cells #[u, v] t)) W.heap.size t u v := heap_alloc_new W _
theorem cell_two_new (w : World) (x y : Value) (t : TypeId) : ∀ j u, [x, y][j]? = some u → (w.alloc (.cells #[x, y] t)).cell? ((⟨w.heap.size, 0, none⟩ : Addr).add j) = some u := by
  intro j u hj
  have hb := Box2.new w t x y
  rw [add_at]
  match j, hj with
  | 0, hj => simp at hj; subst hj; exact hb.cell.1
  | 1, hj => simp at hj; subst hj; exact hb.cell.2

theorem byte_cell {s n : Int} (hk : known s = true) (h1 : 1 ≤ n) (h2 : n ≤ 64) : (64 * s + n - 1 : Int) = ((byte1 ⟨s, n⟩).toNat : Int) ∧ 0 ≤ s ∧ s ≤ 3 := by
  unfold byte1
  dsimp only
  rw [UInt8.toNat_ofNat']
  rcases known_iff.1 hk with rfl | rfl | rfl <;> omega

set_option maxRecDepth 100000 in
set_option maxHeartbeats 1000000 in
theorem Put_any (l : List R) (hlen : l.length ≤ 5000) (a : Option Addr) (cap : Nat) (w : World) (h : RunsAt w a l) :
    Calls Try.prog 7 #[.slice a l.length cap] w fun e w' => e = .returned (.tuple #[.string (putOf l), .int .i64 (check l)]) ∧ Below w.heap.size w w' := by
  have H := Lib.hid h
  have Hp := Lib.hid (show putOf l = if check l = 0 then ⟨(bytesOf l).toArray⟩ else ⟨#[]⟩ from rfl)
  have Hcw := Lib.hid (@check_wrongs l)
  have Hck := Lib.hid (Check_any l hlen a cap w h)
  obtain ⟨i0, hi, hz0, hz1, hz2⟩ := info_parts infoB
  generalize check l = c at *
  clear h
  go_enter Try.func7, Try.ntmps7
  go_wp2_with fail
  refine Hck.out.mono ?_
  rintro e w1 ⟨rfl, h1⟩
  by_cases hc : c = 0
  · subst hc
    have Hw := Lib.hid (Hcw.out rfl).1
    go_wp2_with fail
    go_loopw [5, 15] (fun v i wr => ∃ k : Nat, k ≤ l.length ∧ i = .int .i64 k ∧ Bts wr w.heap.size v (bytesOf (l.take k)) ∧ Below w.heap.size w wr) (fun _ i _ => l.length - (intOf i).toNat)
    case atStart => exact ⟨0, by omega, rfl, Bts.nil _ _, h1⟩
    case round =>
      obtain ⟨k, hk, rfl, hown, hb⟩ := hrel
      have hsz := hb.size
      by_cases hlt : k < l.length
      · obtain ⟨⟨q, n⟩, hi2⟩ := some_at hlt
        obtain ⟨b, off, rfl, hb0, hc0, hc1⟩ := H.out.cell (hb.mono (Nat.le_refl _)) hi2
        obtain ⟨hw1, hw2, hw3⟩ := wrongs_at Hw.out hi2
        dsimp only at hc0 hc1 hw1 hw2 hw3
        obtain ⟨hbc, hq0, hq3⟩ := byte_cell hw1 hw2 hw3
        have hbl := (byte1 ⟨q, n⟩).toNat_lt
        have hu : IntKind.u8.wrap (64 * q + n - 1) = ((byte1 ⟨q, n⟩).toNat : Int) := by rw [IntKind.wrap_u8', hbc]; omega
        have Ht := Lib.hid (show bytesOf (l.take (k + 1)) = bytesOf (l.take k) ++ [byte1 ⟨q, n⟩] by rw [take_at hi2]; simp [bytesOf])
        have hxl : (bytesOf (l.take k)).length ≤ 5000 := by rw [bytesOf_length, List.length_take]; omega
        clear hw1
        generalize bytesOf (l.take k) = xs at *
        generalize hx : byte1 ⟨q, n⟩ = x at *
        clear hx
        go_wp2_with (at_builtin; refine wpList_append_own _ rfl _ _ 43 rfl w.heap.size 5 i0 (.int .u8 0) 1 1 Try.underlying43 hi hz0 hz1 hz2 rfl (by decide) _ _ _ rfl (World.ownsRow.alloc (World.ownsRow.alloc hown _) _) ⟨wr.heap.size + 1, 0, none⟩ 1 1 [byteCell x] rfl rfl ?c1 ?c2 ?c3 ?c4 ?c5 ?_)
        case c1 =>
          have := cell_one_new (wr.alloc (.cells #[.int .i64 q, .int .i64 n] 45)) (byteCell x) 5
          rwa [World.size_alloc] at this
        case c2 => intro u hu; simp at hu; subst hu; rfl
        case c3 => unfold maxLen; omega
        case c4 => omega
        case c5 => simp; omega
        intro v' w2 hown' hg _
        have hp := Lib.hid (bts_push (by simp; omega) (World.ownsRow.alloc hown _) (hb.alloc hsz _) hown' hg)
        clear hown' hg hown hb
        go_wp2_with fail
        refine ⟨⟨k + 1, by omega, by go_num, by rw [Ht.out]; exact hp.out.1, hp.out.2⟩, by simp [intOf]; omega⟩
      · obtain rfl : k = l.length := by omega
        rw [List.take_length] at hown
        have hback := hown.back
        go_wp2_with fail
        go_returns
        exact ⟨by rw [Hp.out]; rfl, hb⟩
  · have hc1 : (c == 0) = false := by simp [hc]
    go_wp2_with fail
    go_returns
    exact ⟨by rw [Hp.out, if_neg hc]; rfl, h1⟩
end Go.Proofs.Ytdnddhnnpplgjaa.Avec
