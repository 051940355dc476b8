/- The state of a packet: the contracts of both. -/
import Derived.Test.YtdnddhnnpplgjaaAvecD
namespace Go.Proofs.Ytdnddhnnpplgjaa.Avec
open Go.ChangeShapes Go.WideShapes Go.ChangeAt Go.RowKit Go.Shelf
open Go.Proofs.Ytdnddhnnpplgjaa.LInt
set_option linter.unusedVariables false

attribute [local go_sem] Oper.semAt_some

theorem atOf_hit {q : Int} {pre : List (Int × Int)} {n s : Int} (h : ∀ x, x ∈ pre → x.1 ≠ q) (hn : n = q) (rest : List (Int × Int)) : atOf q ((pre ++ [(n, s)]) ++ rest) = s := by
  rw [List.append_assoc, atOf_skip _ h]
  show (if n = q then s else _) = s
  rw [if_pos hn]

set_option maxRecDepth 100000 in
set_option maxHeartbeats 2000000 in
theorem At_in (n : Nat) (hn : 3 ≤ n) (from' seq : Int) (l : List R) (hlen : l.length ≤ 5000) (a : Option Addr) (cap : Nat) (w : World) (h : RunsAt w a l) :
    CallsIn Fence.wide n Try.prog 22 #[.int .i64 from', .slice a l.length cap, .int .i64 seq] w fun e w' => e = .returned (.int .i64 (atOf (seqOf seq) (told (seqOf from') (states l)))) ∧ Below w.heap.size w w' := by
  have h1 : 1 ≤ n := by omega
  have Hat := Lib.hid h
  clear h
  refine callsIn_of_wp_marks Try.func22 rfl trivial ?_ rfl
  simp only [Try.ntmps22, List.size_toArray, List.length_cons, List.length_nil, Nat.reduceAdd, Nat.reduceSub, Array.replicate_succ, Array.replicate_zero, List.push_toArray, List.append_toArray, List.nil_append, List.cons_append]
  gi_wp2_with fail
  refine ⟨trivial, (callsIn_wide.2 (Circ.of_any seq _)).mono ?_⟩
  rintro e w2 ⟨rfl, h2⟩
  subst h2
  rw [show Circ.ofc seq = seqOf seq from rfl]
  obtain ⟨q, hq⟩ : ∃ q, q = seqOf seq := ⟨_, rfl⟩
  rw [← hq]
  have Hq := Lib.hid hq
  clear hq
  have hb2 : Below w.heap.size w ((w.alloc (.cells #[.int .i64 0] 3)).alloc (.cells #[.int .i64 q] 3)) := ((Below.refl _ w).alloc (Nat.le_refl _) _).alloc (by simp) _
  have bR := (Boxed.new w 3 (.int .i64 0)).alloc (.cells #[.int .i64 q] 3)
  have bQ := Boxed.new (w.alloc (.cells #[.int .i64 0] 3)) 3 (.int .i64 q)
  rw [World.size_alloc] at bQ
  have hsz : ((w.alloc (.cells #[.int .i64 0] 3)).alloc (.cells #[.int .i64 q] 3)).heap.size = w.heap.size + 1 + 1 := by simp
  gi_wp2_with fail
  refine ⟨trivial, (callsIn_wide.2 (Each_any from' l hlen a cap _ (Hat.out.below hb2))).mono ?_⟩
  rintro e w3 ⟨Bf, Bl, a', cap', rfl, -, -, hf, hl, hcf, hcl, hT, hb3⟩
  rw [hsz] at hb3
  have bR := boxed_below bR hb3 (by omega)
  have bQ := boxed_below bQ hb3 (by omega)
  have hB := hb2.trans (hb3.mono (by omega))
  have hsz3 := hb3.size
  rw [hsz] at hsz3
  clear hb2 hb3 hsz Hat
  have hmany := many_le l
  gi_wp2_with fail
  refine wpIn_rangeFunc_ownF (w := w3) rfl h1 (gf := 29) (lb := #[.pointer (some ⟨Bf, 0, none⟩), .pointer (some ⟨Bl, 0, none⟩)]) rfl trivial (enters_of Try.func29 (by kernel_rfl) rfl)
    (each_stops (n - 1) Bf Bl from' l hlen a' cap' w3 hf hl hcf hcl hT) (fun h k => h.trans k) (fun W lp o o' _ h ho _ => keepsRuns_putObj W lp o o' h ho) (Below.refl _ _) (fun _ => rfl)
    (fun pre W => (((∀ x, x ∈ pre → x.1 ≠ q) ∧ Boxed W w.heap.size 3 (.int .i64 0)) ∧ Boxed W (w.heap.size + 1) 3 (.int .i64 q)) ∧ Below w.heap.size w W)
    (fun c pre W => (c = .ret ∧ ∃ s, (∀ rest, atOf q (pre ++ rest) = s) ∧ Boxed W w.heap.size 3 (.int .i64 s)) ∧ Below w.heap.size w W)
    (OwnFrom.and (OwnFrom.and (OwnFrom.and (ownFrom_pure _ _) (Own.from (boxed_own _ _ _) _)) (Own.from (boxed_own _ _ _) _)) (ownFrom_below (Nat.le_refl _) (by omega)))
    (fun c => OwnFrom.and (fun s W W' row hs hg hr => by
      obtain ⟨hc, s', hs1, hs2⟩ := hs
      exact ⟨hc, s', hs1, Own.from (boxed_own (β := Unit) w.heap.size 3 (fun _ => .int .i64 s')) _ () W W' row hs2 hg hr⟩) (ownFrom_below (Nat.le_refl _) (by omega)))
    ⟨⟨⟨fun x hx => absurd hx List.not_mem_nil, bR⟩, bQ⟩, hB⟩
    (fun x => { tmps := #[.int .i64 from', .slice a l.length cap, .int .i64 seq, undef, undef, undef, .pointer (some ⟨w.heap.size, 0, none⟩), .pointer (some ⟨w.heap.size + 1, 0, none⟩), .int .i64 x.1, .int .i64 x.2, .int .i64 seq, .int .i64 q, .int .i64 from', .slice a l.length cap, .func (.func 29) #[] #[.pointer (some ⟨Bf, 0, none⟩), .pointer (some ⟨Bl, 0, none⟩)], .int .i64 x.1, .int .i64 x.2, undef, undef, undef, undef], defers := [] })
    ?assign ?body ?done ?stop
  case assign =>
    rintro lp ⟨x, s⟩ W K hK
    dsimp only [encs] at hK ⊢
    gi_wp2
    exact hK
  case body =>
    rintro lp pre ⟨x, s⟩ W ⟨⟨⟨hp, cb⟩, bQ⟩, hB⟩ hlt
    have cR := cb.cell
    have fR := cb.frozen
    have cQ := bQ.cell
    dsimp only
    by_cases hx : x = q
    · subst hx
      gi_wp2_with fail
      exact ⟨KeepsOthers.setCell _ _ _, ⟨rfl, s, fun rest => atOf_hit hp rfl rest, cb.set _⟩, hB.setCell (p := ⟨w.heap.size, 0, none⟩) (Nat.le_refl _) _⟩
    · have hx1 : (x == q) = false := by simp [hx]
      gi_wp2_with fail
      exact ⟨KeepsOthers.refl _, fun _ _ _ _ => rfl, ⟨⟨fun y hy => by
        rcases List.mem_append.1 hy with h1 | h1
        · exact hp y h1
        · obtain rfl := List.mem_singleton.1 h1
          exact hx, cb⟩, bQ⟩, hB⟩
  case done =>
    rintro D ys W hD rfl ⟨⟨⟨hp, cb⟩, bQ⟩, hB⟩ hK
    have cR := cb.cell
    have fR := cb.frozen
    have hA : atOf q (told (seqOf from') (states l)) = 3 := by
      have := atOf_skip [] hp
      rw [List.append_nil] at this
      exact this
    have bR3 := cb.set (.int .i64 3)
    have hK3 : (W.setCell ⟨w.heap.size, 0, none⟩ (.int .i64 3)).heap[D]? = some (.deferred (some [])) := (KeepsOthers.setCell W ⟨w.heap.size, 0, none⟩ (.int .i64 3)).same D _ hK rfl
    have hB3 := hB.setCell (p := ⟨w.heap.size, 0, none⟩) (Nat.le_refl _) (.int .i64 3)
    gi_wp2_with fail
    generalize W.setCell ⟨w.heap.size, 0, none⟩ (.int .i64 3) = X at *
    have b1' := (bR3.kept (grownBy_putObj' X D (.deferred none)) (by simp; omega)).cell
    refine ⟨by simp, .inl ⟨_, _, rfl, run_takeDeferred hK3, ?_⟩⟩
    exact ⟨.int .i64 3, by simp [results, Try.f22, go_sem, b1'], by rw [← Hq.out, hA], hB3.trans (belowK_b (w := w) (Nat.le_refl _) X D _ _ (by omega) hK3 rfl rfl)⟩
  case stop =>
    rintro D c pre W hD hpre ⟨⟨rfl, s, hs, cb⟩, hB⟩ hK
    have hA : atOf q (told (seqOf from') (states l)) = s := by
      obtain ⟨rest, hr⟩ := hpre
      rw [← hr]
      exact hs rest
    gi_wp2
    have b1' := (cb.kept (grownBy_putObj' W D (.deferred none)) (by simp; omega)).cell
    refine ⟨by simp, .inl ⟨_, _, rfl, run_takeDeferred hK, ?_⟩⟩
    exact ⟨.int .i64 s, by simp [results, Try.f22, go_sem, b1'], by rw [← Hq.out, hA], hB.trans (belowK_b (w := w) (Nat.le_refl _) W D _ _ (by omega) hK rfl rfl)⟩

theorem At_any (from' seq : Int) (l : List R) (hlen : l.length ≤ 5000) (a : Option Addr) (cap : Nat) (w : World) (h : RunsAt w a l) :
    Calls Try.prog 22 #[.int .i64 from', .slice a l.length cap, .int .i64 seq] w fun e w' => e = .returned (.int .i64 (atOf (seqOf seq) (told (seqOf from') (states l)))) ∧ Below w.heap.size w w' :=
  callsIn_wide.1 (At_in 3 (Nat.le_refl _) from' seq l hlen a cap w h)
end Go.Proofs.Ytdnddhnnpplgjaa.Avec
