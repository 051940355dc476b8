/- What is asked of options: the contracts of the program's, and of the law's own helpers. · A slice of options that came in: what is known of it. · A packet that came in: what is known of it. · Whether a packet has too much to be asked of: the contract of the law's own helper. · The law's own first look at packets: plain. · Two packets that are the same, compared: the contracts of both. · The law's own first look at packets. · The law PacketGets: the walk. -/
import Derived.Test.YtkjojfcknfhkhaaOpt3
import Derived.Test.YtkjojfcknfhkhaaOpt1
import Derived.OpenShut
import Derived.Deep.SlicePairs
import Derived.ChangeOld
import Derived.Test.YtkjojfcknfhkhaaPktR4
import Derived.Test.YtkjojfcknfhkhaaMPktH
import Derived.Test.YtkjojfcknfhkhaaPktS
import Derived.Test.YtkjojfcknfhkhaaPktSR
import Derived.Test.YtkjojfcknfhkhaaMPktP
namespace Go.Proofs.Ytkjojfcknfhkhaa.Opt
open Go.ChangeShapes Go.WideShapes Go.ChangeAt Go.RowKit
set_option linter.unusedVariables false

/-- the bytes of the first one of a kind -/
def found (q : Int) : List O → Option ByteArray
  | [] => none
  | o :: r => if o.kind = q then some o.value else found q r
/-- one of a kind stands right behind one of Kind 1 -/
def must (q : Int) : List O → Bool
  | a :: b :: r => (decide (b.kind = q) && decide (a.kind = 1)) || must q (b :: r)
  | _ => false
theorem must_one (q : Int) (a : O) : must q [a] = false := by unfold must; rfl
theorem must_end (q : Int) (l : List O) : must q (l.drop (l.length - 1)) = false := by
  have h : (l.drop (l.length - 1)).length ≤ 1 := by rw [List.length_drop]; omega
  match l.drop (l.length - 1), h with
  | [], _ => rfl
  | [a], _ => exact must_one q a
theorem must_step {q : Int} {l : List O} {i : Nat} {a b : O} (ha : l[i]? = some a) (hb : l[i + 1]? = some b) : must q (l.drop i) = ((decide (b.kind = q) && decide (a.kind = 1)) || must q (l.drop (i + 1))) := by
  rw [drop_at ha, drop_at hb]; rfl

set_option maxRecDepth 100000 in
set_option maxHeartbeats 800000 in
theorem Great_any (l : List O) (hl : l.length ≤ maxLen) (a : Option Addr) (cap : Nat) (w : World) (h : OptsAt w a l) (hm : ∀ o, o ∈ l → o.value.size ≤ maxLen) :
    Calls Try.prog 18 #[.slice a l.length cap] w fun e w' => (e = .returned (.bool true) ∨ (e = .returned (.bool false) ∧ Fit l)) ∧ w' = w := by
  have H := Lib.hid h
  clear h
  unfold maxLen at hl hm
  go_enter Try.func18, Try.ntmps18
  go_wp2_with fail
  go_loopw [3] (fun i wr => ∃ k : Nat, k ≤ l.length ∧ k ≤ 60 ∧ i = .int .i64 k ∧ (∀ j o, j < k → l[j]? = some o → o.value.size ≤ 600) ∧ wr = w) (fun i _ => 60 - (intOf i).toNat)
  case atStart => exact ⟨0, by omega, by omega, rfl, fun j o hj => by omega, rfl⟩
  case round =>
    obtain ⟨k, hk, hk60, rfl, hall, rfl⟩ := hrel
    by_cases hlt : k < l.length
    · obtain ⟨⟨p, v⟩, hi⟩ := some_at hlt
      obtain ⟨b, off, rfl, hb0, hc0, hc1⟩ := H.out.cell (Below.refl _ _) hi
      have hv := hm _ (List.mem_of_getElem? hi)
      dsimp only at hc1 hv
      clear hc0
      by_cases h6 : 60 ≤ k
      · have h6' : (60 : Int) ≤ (k : Int) := by omega
        go_wp2_with fail
        go_returns
        exact ⟨.inl rfl, rfl⟩
      · have h6' : ¬ (60 : Int) ≤ (k : Int) := by omega
        by_cases h7 : 600 < v.size
        · have h7' : (600 : Int) < (v.size : Int) := by omega
          go_wp2_with fail
          go_returns
          exact ⟨.inl rfl, rfl⟩
        · have h7' : ¬ (600 : Int) < (v.size : Int) := by omega
          have hall2 := Lib.hid (show ∀ j o, j < k + 1 → l[j]? = some o → o.value.size ≤ 600 from fun j o hj ho => by
            by_cases e : j = k
            · subst e
              rw [hi] at ho
              obtain rfl := Option.some.inj ho
              show v.size ≤ 600
              omega
            · exact hall j o (by omega) ho)
          clear hall
          go_wp2_with fail
          refine ⟨⟨k + 1, by omega, by omega, by go_num, hall2.out, trivial⟩, by simp [intOf]; omega⟩
    · obtain rfl : k = l.length := by omega
      have Hall := Lib.hid hall
      clear hall
      go_wp2_with fail
      go_returns
      refine ⟨.inr ⟨rfl, by omega, fun o ho => ?_⟩, rfl⟩
      obtain ⟨j, hj, e⟩ := List.mem_iff_getElem.1 ho
      have := Hall.out j o hj (by rw [List.getElem?_eq_getElem hj, e])
      omega

end Go.Proofs.Ytkjojfcknfhkhaa.Opt

namespace Go.Proofs.Ytkjojfcknfhkhaa.Opt
open Go.ChangeShapes Go.WideShapes Go.ChangeAt Go.RowKit Go.Deep
set_option linter.unusedVariables false

theorem list_of {α : Type} (P : Nat → α → Prop) : ∀ n, (∀ i, i < n → ∃ o, P i o) → ∃ l : List α, l.length = n ∧ ∀ i o, l[i]? = some o → P i o
  | 0, _ => ⟨[], rfl, fun i o h => by simp at h⟩
  | n + 1, h => by
    obtain ⟨l, hl, hp⟩ := list_of P n (fun i hi => h i (by omega))
    obtain ⟨o, ho⟩ := h n (by omega)
    refine ⟨l ++ [o], by simp [hl], fun i x hx => ?_⟩
    by_cases hi : i < n
    · rw [List.getElem?_append_left (by omega)] at hx
      exact hp i x hx
    · have hlt : i < (l ++ [o]).length := (List.getElem?_eq_some_iff.1 hx).1
      obtain rfl : i = n := by simp [hl] at hlt; omega
      rw [List.getElem?_append_right (by omega), hl, Nat.sub_self] at hx
      obtain rfl : o = x := by simpa using hx
      exact ho

/-- what is known of a slice of options that came in -/
def IsOpts (W : World) (a : Option Addr) (len : Nat) : Prop := ∃ l : List O, l.length = len ∧ OptsAt W a l ∧ len ≤ maxLen ∧ ∀ o, o ∈ l → o.value.size ≤ maxLen

theorem cell_lt {w : World} {b o : Nat} {v : Value} (h : w.cell? ⟨b, o, none⟩ = some v) : b < w.heap.size := by
  rcases Nat.lt_or_ge b w.heap.size with h' | h'
  · exact h'
  · unfold World.cell? at h
    rw [Array.getElem?_eq_none h'] at h
    simp at h

theorem isOpts_open {H : Type} {enc : TypeId × Value → H} {W : World} {a : Option Addr} {len cap : Nat} {d : DataW H} {p : List MemPlace}
    (h : DataW.Trod enc Try.prog W 0 (fun _ => true) true 22 (.slice a len cap) d p) : IsOpts W a len := by
  obtain ⟨fuel, hf⟩ := h
  rcases open_slice_pairs Try.underlying22 Try.underlying57 (by kernel_rfl) rfl rfl (by kernel_rfl) (by kernel_rfl) hf with ⟨hcs, _⟩ | ⟨x, l, c, m, n, V0, V1, D0, D1, P0, P1, hcs, _, hl, hm, hmm, _, hcell⟩
  · simp [Value.cells] at hcs
    exact ⟨[], hcs.2.1.symm, .inl rfl, by rw [hcs.2.1]; decide, fun o ho => by simp at ho⟩
  · simp [Value.cells] at hcs
    obtain ⟨rfl, rfl, rfl⟩ := hcs
    by_cases hz : len = 0
    · subst hz
      exact ⟨[], rfl, .inl rfl, by decide, fun o ho => by simp at ho⟩
    · have hlm : len ≤ m := by rw [hmm]; split <;> omega
      have h0 := hcell 0 (by omega)
      obtain ⟨b, off, spot⟩ := x
      have hspot : spot = none := by simpa [Addr.add] using World.cell?_spot h0.1
      subst hspot
      have ea : ∀ j, (⟨b, off, none⟩ : Addr).add j = ⟨b, off + j, none⟩ := fun j => by unfold Addr.add; split <;> simp_all
      obtain ⟨q, hq, hp⟩ := list_of (fun i (o : O) => W.cell? ⟨b, off + i * 2, none⟩ = some (.int .i64 o.kind) ∧ W.cell? ⟨b, off + i * 2 + 1, none⟩ = some (.string o.value) ∧ o.value.size ≤ maxLen) len (fun i hi => by
        have hi' := hcell i (by omega)
        obtain ⟨k, e1, _⟩ := DataW.trod_int Try.underlying3 hi'.2.2.1
        obtain ⟨s, e2, _, hs⟩ := DataW.trod_string Try.underlying9 hi'.2.2.2
        have c0 := hi'.1
        have c1 := hi'.2.1
        rw [ea] at c0 c1
        exact ⟨⟨k, s⟩, c0.trans (congrArg some (List.cons.inj e1).1), c1.trans (congrArg some (List.cons.inj e2).1), hs⟩)
      refine ⟨q, hq, .inr ⟨b, off, rfl, ?_, fun i o ho => ⟨(hp i o ho).1, (hp i o ho).2.1⟩⟩, by omega, fun o ho => ?_⟩
      · have h1 := h0.1
        rw [ea] at h1
        exact cell_lt h1
      · obtain ⟨j, hj, e⟩ := List.mem_iff_getElem.1 ho
        exact (hp j o (by rw [List.getElem?_eq_getElem hj, e])).2.2
end Go.Proofs.Ytkjojfcknfhkhaa.Opt

namespace Go.Proofs.Ytkjojfcknfhkhaa.Pkt
open Go.ChangeShapes Go.WideShapes Go.ChangeAt Go.RowKit Go.Deep
open Go.Proofs.Ytkjojfcknfhkhaa.Opt (O OptsAt IsOpts isOpts_open)
set_option linter.unusedVariables false

theorem isOpts_cells {H : Type} {enc : TypeId × Value → H} {W : World} {v : Value} {fuel : Nat} {y : DataW H × List MemPlace}
    (hf : DataW.trod enc Try.prog W 0 (fun _ => true) true fuel 22 [v] = some y) : ∃ a len cap, v = .slice a len cap ∧ IsOpts W a len := by
  obtain ⟨d, p⟩ := y
  have hf' := hf
  rcases open_slice_pairs Try.underlying22 Try.underlying57 (by kernel_rfl) rfl rfl (by kernel_rfl) (by kernel_rfl) hf with ⟨hcs, _⟩ | ⟨x, l, c, m, n, V0, V1, D0, D1, P0, P1, hcs, _⟩
  · obtain rfl : v = .slice none 0 0 := by simpa [Value.cells] using hcs
    exact ⟨_, _, _, rfl, isOpts_open ⟨fuel, hf'⟩⟩
  · obtain rfl : v = .slice (some x) l c := by simpa [Value.cells] using hcs
    exact ⟨_, _, _, rfl, isOpts_open ⟨fuel, hf'⟩⟩

/-- what is known of a packet that came in -/
def IsK (W : World) (v : Value) : Prop := ∃ (P : K) (a : Option Addr) (cap : Nat), v = .agg (rowK P a cap) ∧ OptsAt W a P.opts ∧ P.opts.length ≤ maxLen ∧ (∀ o, o ∈ P.opts → o.value.size ≤ maxLen) ∧ P.data.size ≤ maxLen

set_option maxRecDepth 100000 in
set_option maxHeartbeats 800000 in
theorem isK_open {H : Type} {enc : TypeId × Value → H} {W w0 : World} {b0 : Nat} {r : Reach} {v : Value} {d : DataW H} {p : List MemPlace}
    (hv : Value.okWide Try.prog w0 r b0 24 v) (h : DataW.Trod enc Try.prog W 0 (fun _ => true) true 24 v d p) : IsK W v := by
  obtain ⟨⟨l⟩, rfl, hsz⟩ := okWide_struct Try.underlying24 hv
  obtain ⟨fuel, hf⟩ := h
  obtain ⟨xs, n, _, -, _, hlen, hg⟩ := DataW.trod_struct Try.underlying24 hf
  match l, hsz.trans (show Try.prog.cellsOf 24 = 13 by kernel_rfl) with
  | [v0, v1, v2, v3, v4, v5, v6, v7, v8, v9, v10, v11, v12], _ =>
    have hi : Try.prog.cellsOf 3 = 1 := by kernel_rfl
    have hb : Try.prog.cellsOf 4 = 1 := by kernel_rfl
    have hs : Try.prog.cellsOf 9 = 1 := by kernel_rfl
    have ho : Try.prog.cellsOf 22 = 1 := by kernel_rfl
    match xs, hlen with
    | [y0, y1, y2, y3, y4, y5, y6, y7, y8, y9, y10, y11, y12], _ =>
      have g0 : DataW.trod enc Try.prog W 0 (fun _ => true) true n 3 [v0] = some y0 := by simpa [hi, hb, hs, ho, Value.cells] using hg 0 _ rfl
      have g1 : DataW.trod enc Try.prog W 0 (fun _ => true) true n 4 [v1] = some y1 := by simpa [hi, hb, hs, ho, Value.cells] using hg 1 _ rfl
      have g2 : DataW.trod enc Try.prog W 0 (fun _ => true) true n 3 [v2] = some y2 := by simpa [hi, hb, hs, ho, Value.cells] using hg 2 _ rfl
      have g3 : DataW.trod enc Try.prog W 0 (fun _ => true) true n 3 [v3] = some y3 := by simpa [hi, hb, hs, ho, Value.cells] using hg 3 _ rfl
      have g4 : DataW.trod enc Try.prog W 0 (fun _ => true) true n 3 [v4] = some y4 := by simpa [hi, hb, hs, ho, Value.cells] using hg 4 _ rfl
      have g5 : DataW.trod enc Try.prog W 0 (fun _ => true) true n 3 [v5] = some y5 := by simpa [hi, hb, hs, ho, Value.cells] using hg 5 _ rfl
      have g6 : DataW.trod enc Try.prog W 0 (fun _ => true) true n 3 [v6] = some y6 := by simpa [hi, hb, hs, ho, Value.cells] using hg 6 _ rfl
      have g7 : DataW.trod enc Try.prog W 0 (fun _ => true) true n 3 [v7] = some y7 := by simpa [hi, hb, hs, ho, Value.cells] using hg 7 _ rfl
      have g8 : DataW.trod enc Try.prog W 0 (fun _ => true) true n 3 [v8] = some y8 := by simpa [hi, hb, hs, ho, Value.cells] using hg 8 _ rfl
      have g9 : DataW.trod enc Try.prog W 0 (fun _ => true) true n 3 [v9] = some y9 := by simpa [hi, hb, hs, ho, Value.cells] using hg 9 _ rfl
      have g10 : DataW.trod enc Try.prog W 0 (fun _ => true) true n 3 [v10] = some y10 := by simpa [hi, hb, hs, ho, Value.cells] using hg 10 _ rfl
      have g11 : DataW.trod enc Try.prog W 0 (fun _ => true) true n 22 [v11] = some y11 := by simpa [hi, hb, hs, ho, Value.cells] using hg 11 _ rfl
      have g12 : DataW.trod enc Try.prog W 0 (fun _ => true) true n 9 [v12] = some y12 := by simpa [hi, hb, hs, ho, Value.cells] using hg 12 _ rfl
      obtain ⟨a0, e0, -, -⟩ := DataW.trod_int Try.underlying3 g0
      obtain ⟨a1, e1, -⟩ := DataW.trod_bool Try.underlying4 g1
      obtain ⟨a2, e2, -, -⟩ := DataW.trod_int Try.underlying3 g2
      obtain ⟨a3, e3, -, -⟩ := DataW.trod_int Try.underlying3 g3
      obtain ⟨a4, e4, -, -⟩ := DataW.trod_int Try.underlying3 g4
      obtain ⟨a5, e5, -, -⟩ := DataW.trod_int Try.underlying3 g5
      obtain ⟨a6, e6, -, -⟩ := DataW.trod_int Try.underlying3 g6
      obtain ⟨a7, e7, -, -⟩ := DataW.trod_int Try.underlying3 g7
      obtain ⟨a8, e8, -, -⟩ := DataW.trod_int Try.underlying3 g8
      obtain ⟨a9, e9, -, -⟩ := DataW.trod_int Try.underlying3 g9
      obtain ⟨a10, e10, -, -⟩ := DataW.trod_int Try.underlying3 g10
      obtain ⟨sa, len, cap, rfl, os, hl, hat, hmx, hval⟩ := isOpts_cells g11
      obtain ⟨a12, e12, -, hd⟩ := DataW.trod_string Try.underlying9 g12
      cases e0
      cases e1
      cases e2
      cases e3
      cases e4
      cases e5
      cases e6
      cases e7
      cases e8
      cases e9
      cases e10
      cases e12
      subst hl
      exact ⟨⟨a0, a1, a2, a3, a4, a5, a6, a7, a8, a9, a10, os, a12⟩, sa, cap, rfl, hat, hmx, hval, hd⟩
end Go.Proofs.Ytkjojfcknfhkhaa.Pkt

namespace Go.Proofs.Ytkjojfcknfhkhaa.Pkt
open Go.ChangeShapes Go.WideShapes Go.ChangeAt Go.RowKit
open Go.Proofs.Ytkjojfcknfhkhaa.Opt (O OptsAt Fit)
set_option linter.unusedVariables false

set_option maxRecDepth 100000 in
set_option maxHeartbeats 4000000 in
theorem Great10_any (P : K) (a : Option Addr) (cap : Nat) (w : World) (h : OptsAt w a P.opts) (hl : P.opts.length ≤ maxLen) (hm : ∀ o, o ∈ P.opts → o.value.size ≤ maxLen) (hd : P.data.size ≤ maxLen) :
    Calls Try.prog 7 #[.agg #[.int .i64 P.kind, .bool P.long, .int .i64 P.src, .int .i64 P.dst, .int .i64 P.cc, .int .i64 P.cover, .int .i64 P.seq, .int .i64 P.ack, .int .i64 P.service, .int .i64 P.code, .int .i64 P.detail, .slice a P.opts.length cap, .string P.data]] w fun e w' => (∃ g, e = .returned (.bool g) ∧ (g = false → Fit P.opts ∧ P.data.size ≤ 1000)) ∧ Below w.heap.size w w' := by
  unfold maxLen at hd
  have hb := (Below.refl w.heap.size w).alloc (Nat.le_refl _) (.cells #[.int .i64 P.kind, .bool P.long, .int .i64 P.src, .int .i64 P.dst, .int .i64 P.cc, .int .i64 P.cover, .int .i64 P.seq, .int .i64 P.ack, .int .i64 P.service, .int .i64 P.code, .int .i64 P.detail, .slice a P.opts.length cap, .string P.data] 24)
  have BX := BoxK.new w P a cap
  have CG := Lib.hid (Opt.Great_any P.opts hl a cap _ (h.below hb) hm)
  have HB := Lib.hid hb
  obtain ⟨W, hW⟩ : ∃ W, w.alloc (.cells #[.int .i64 P.kind, .bool P.long, .int .i64 P.src, .int .i64 P.dst, .int .i64 P.cc, .int .i64 P.cover, .int .i64 P.seq, .int .i64 P.ack, .int .i64 P.service, .int .i64 P.code, .int .i64 P.detail, .slice a P.opts.length cap, .string P.data] 24) = W := ⟨_, rfl⟩
  rw [hW] at BX HB CG
  have x11 := BX.cell.2.2.2.2.2.2.2.2.2.2.2.1
  have x12 := BX.cell.2.2.2.2.2.2.2.2.2.2.2.2
  clear BX hb h
  by_cases h1 : 1000 < P.data.size
  · have h1' : (1000 : Int) < (P.data.size : Int) := by omega
    go_enter Try.func7, Try.ntmps7
    go_wp2_with fail
    refine CG.out.mono ?_
    rintro e w1 ⟨rfl | ⟨rfl, hf⟩, h2⟩
    all_goals (
      replace h2 := h2.symm
      subst h2
      go_wp2_with fail
      go_returns
      exact ⟨⟨true, rfl, by simp⟩, HB.out⟩)
  · have h1' : ¬ (1000 : Int) < (P.data.size : Int) := by omega
    go_enter Try.func7, Try.ntmps7
    go_wp2_with fail
    refine CG.out.mono ?_
    rintro e w1 ⟨rfl | ⟨rfl, hf⟩, h2⟩
    · replace h2 := h2.symm
      subst h2
      go_wp2_with fail
      go_returns
      exact ⟨⟨true, rfl, by simp⟩, HB.out⟩
    · replace h2 := h2.symm
      subst h2
      have Hf := Lib.hid hf
      clear hf
      go_wp2_with fail
      go_returns
      exact ⟨⟨_, rfl, fun _ => ⟨Hf.out, by omega⟩⟩, HB.out⟩
end Go.Proofs.Ytkjojfcknfhkhaa.Pkt

namespace Go.Proofs.Ytkjojfcknfhkhaa.Pkt
open Go.ChangeShapes Go.WideShapes Go.ChangeAt Go.RowKit
open Go.Proofs.Ytkjojfcknfhkhaa.Opt (O OptsAt getErr getOpts)
set_option linter.unusedVariables false

def pw : K := ⟨3, false, 0, 0, 0, 0, 5, 9, 0, 0, 0, [], ⟨#[]⟩⟩
def sw : ByteArray := ⟨#[0, 0, 0, 0, 4, 0, 245, 189, 6, 0, 0, 5, 0, 0, 0, 9]⟩
theorem pw_check : check pw = 0 := by decide +kernel
theorem pw_zero : aheadText pw 0 = ⟨#[0, 0, 0, 0, 4, 0, 0, 0, 6, 0, 0, 5, 0, 0, 0, 9]⟩ := ByteArray.ext (by decide +kernel)
theorem pw_sum : summed ⟨#[0, 0, 0, 0, 4, 0, 0, 0, 6, 0, 0, 5, 0, 0, 0, 9]⟩ ⟨#[]⟩ 0 1 2 = 62909 := by decide +kernel
theorem pw_full : aheadText pw 62909 = sw := ByteArray.ext (by decide +kernel)
theorem pw_put : put pw 1 2 = (sw, 0) := by
  unfold put
  rw [if_neg (fun h => h pw_check), pw_zero]
  show (aheadText pw (summed _ ⟨#[]⟩ 0 1 2) ++ (⟨#[]⟩ : ByteArray), (0 : Int)) = _
  rw [pw_sum, pw_full, ba_nil]
theorem sw_ok : (Head.get sw).2.2 = 0 := by kernel_rfl
theorem sw_cut : ¬ sw.size < cutAt sw := by decide +kernel
theorem sw_right : right sw 1 2 = true := by kernel_rfl
theorem sw_wrong : right sw 1 3 = false := by kernel_rfl
theorem sw_opts : optsOf sw = ⟨#[]⟩ := ByteArray.ext (by decide +kernel)
theorem nil_opts : getErr ⟨#[]⟩ = 0 ∧ getOpts ⟨#[]⟩ = [] := by
  have h := Opt.get_put (l := []) (by decide) 0
  have e : Opt.bytesOf [] ++ Opt.zeros 0 = ⟨#[]⟩ := by apply Opt.ext_l; rw [Opt.list_append]; rfl
  rw [e] at h
  exact h
theorem sw_kept : keptN (Head.get sw).1.kind (Head.get sw).1.long (midOf sw) = 0 := by kernel_rfl
theorem sw_read : readOf sw [] = pw := by
  have hd : dataOf sw = ⟨#[]⟩ := ByteArray.ext (by decide +kernel)
  have e : readOf sw [] = ⟨3, false, 0, 0, 0, 0, 5, 9, 0, 0, 0, [], dataOf sw⟩ := by kernel_rfl
  rw [e, hd]; rfl
theorem pw_held : held pw = 0 := by decide +kernel
theorem sw_get : get sw 1 2 = (pw, 0) := by
  have e : aheadErr (Head.get sw).1.kind (Head.get sw).1.long (midOf sw) = 0 := by
    have e2 : aheadErr (Head.get sw).1.kind (Head.get sw).1.long (midOf sw) = if keptN (Head.get sw).1.kind (Head.get sw).1.long (midOf sw) ≠ 0 then 4 else getErr (optsOf sw) := rfl
    rw [e2, if_neg (fun h => h sw_kept), sw_opts]
    exact nil_opts.1
  rw [get_ok sw 1 2 (by decide) sw_ok sw_cut sw_right, e, if_neg (by decide), sw_opts, nil_opts.2, sw_read, pw_held, if_neg (by decide)]
theorem sw_get3 : get sw 1 3 = (K.none, 5) := by
  unfold get
  rw [if_neg (by decide), if_neg (fun h => h sw_ok), if_neg sw_cut, if_pos sw_wrong]
end Go.Proofs.Ytkjojfcknfhkhaa.Pkt

namespace Go.Proofs.Ytkjojfcknfhkhaa.Pkt
open Go.ChangeShapes Go.WideShapes Go.ChangeAt Go.RowKit
open Go.Proofs.Ytkjojfcknfhkhaa.Opt (O OptsAt)
set_option linter.unusedVariables false

theorem Same_eq (p : K) (hl : p.opts.length ≤ 3000) (a b : Option Addr) (cap cap2 : Nat) (w : World) (h : OptsAt w a p.opts) (h2 : OptsAt w b p.opts) :
    Calls Try.prog 12 #[.agg #[.int .i64 p.kind, .bool p.long, .int .i64 p.src, .int .i64 p.dst, .int .i64 p.cc, .int .i64 p.cover, .int .i64 p.seq, .int .i64 p.ack, .int .i64 p.service, .int .i64 p.code, .int .i64 p.detail, .slice a p.opts.length cap, .string p.data], .agg #[.int .i64 p.kind, .bool p.long, .int .i64 p.src, .int .i64 p.dst, .int .i64 p.cc, .int .i64 p.cover, .int .i64 p.seq, .int .i64 p.ack, .int .i64 p.service, .int .i64 p.code, .int .i64 p.detail, .slice b p.opts.length cap2, .string p.data]] w fun e w' => e = .returned (.bool true) ∧ Below w.heap.size w w' := by
  have := Same_any p p hl hl a b cap cap2 w h h2
  rwa [same_true rfl] at this
theorem refSame_eq (p : K) (hl : p.opts.length ≤ 3000) (a b : Option Addr) (cap cap2 : Nat) (w : World) (h : OptsAt w a p.opts) (h2 : OptsAt w b p.opts) :
    Calls Try.prog 13 #[.agg #[.int .i64 p.kind, .bool p.long, .int .i64 p.src, .int .i64 p.dst, .int .i64 p.cc, .int .i64 p.cover, .int .i64 p.seq, .int .i64 p.ack, .int .i64 p.service, .int .i64 p.code, .int .i64 p.detail, .slice a p.opts.length cap, .string p.data], .agg #[.int .i64 p.kind, .bool p.long, .int .i64 p.src, .int .i64 p.dst, .int .i64 p.cc, .int .i64 p.cover, .int .i64 p.seq, .int .i64 p.ack, .int .i64 p.service, .int .i64 p.code, .int .i64 p.detail, .slice b p.opts.length cap2, .string p.data]] w fun e w' => e = .returned (.bool true) ∧ Below w.heap.size w w' := by
  have := refSame_any p p hl hl a b cap cap2 w h h2
  rwa [same_true rfl] at this
end Go.Proofs.Ytkjojfcknfhkhaa.Pkt

namespace Go.Proofs.Ytkjojfcknfhkhaa.Pkt
open Go.ChangeShapes Go.WideShapes Go.ChangeAt Go.RowKit
open Go.Proofs.Ytkjojfcknfhkhaa.Opt (O OptsAt)
set_option linter.unusedVariables false

theorem fit_nil : Opt.Fit [] := ⟨Nat.zero_le _, fun o h => by cases h⟩

/-- a packet that a call gave, laid in a variable -/
theorem laid_var (V : World) (P : K) (a : Option Addr) (cap : Nat) (h : OptsAt V a P.opts) :
    BoxK ((V.alloc (.cells #[.int .i64 0, .bool false, .int .i64 0, .int .i64 0, .int .i64 0, .int .i64 0, .int .i64 0, .int .i64 0, .int .i64 0, .int .i64 0, .int .i64 0, .slice none 0 0, .string ⟨#[]⟩] 24)).setRow V.heap.size (rowK P a cap)) V.heap.size P a cap ∧ OptsAt ((V.alloc (.cells #[.int .i64 0, .bool false, .int .i64 0, .int .i64 0, .int .i64 0, .int .i64 0, .int .i64 0, .int .i64 0, .int .i64 0, .int .i64 0, .int .i64 0, .slice none 0 0, .string ⟨#[]⟩] 24)).setRow V.heap.size (rowK P a cap)) a P.opts ∧ Below V.heap.size V ((V.alloc (.cells #[.int .i64 0, .bool false, .int .i64 0, .int .i64 0, .int .i64 0, .int .i64 0, .int .i64 0, .int .i64 0, .int .i64 0, .int .i64 0, .int .i64 0, .slice none 0 0, .string ⟨#[]⟩] 24)).setRow V.heap.size (rowK P a cap)) := by
  have z := BoxK.new V K.none none 0
  have hb := (Below.refl V.heap.size V).alloc (Nat.le_refl _) (.cells #[.int .i64 0, .bool false, .int .i64 0, .int .i64 0, .int .i64 0, .int .i64 0, .int .i64 0, .int .i64 0, .int .i64 0, .int .i64 0, .int .i64 0, .slice none 0 0, .string ⟨#[]⟩] 24)
  exact ⟨setRow_heap _ _ _ _ _ _ z, opts_row (h.below hb) z _, Head.below_row hb _ _ (Nat.le_refl _)⟩

set_option maxRecDepth 100000 in
set_option maxHeartbeats 4000000 in
theorem works_any (w : World) :
    Calls Try.prog 6 #[] w fun e w' => e = .returned (.bool true) ∧ Below w.heap.size w w' := by
  have HP := Lib.hid (fun w => PPut_any pw fit_nil (by decide) 1 2 none 0 w (.inl rfl))
  rw [pw_put] at HP
  have HG := Lib.hid (fun w => PGet_any sw (by decide) 1 2 w)
  have HG3 := Lib.hid (fun w => PGet_any sw (by decide) 1 3 w)
  unfold GetK at HG HG3
  rw [sw_get] at HG
  rw [sw_get3] at HG3
  have hsz : sw.size = 16 := rfl
  have z1 : BoxK (w.alloc (.cells #[.int .i64 0, .bool false, .int .i64 0, .int .i64 0, .int .i64 0, .int .i64 0, .int .i64 0, .int .i64 0, .int .i64 0, .int .i64 0, .int .i64 0, .slice none 0 0, .string ⟨#[]⟩] 24)) w.heap.size Pkt.K.none none 0 := BoxK.new w Pkt.K.none none 0
  obtain ⟨b1, -, l1⟩ := laid_var w pw none 0 (.inl rfl)
  replace b1 : BoxK ((w.alloc (.cells #[.int .i64 0, .bool false, .int .i64 0, .int .i64 0, .int .i64 0, .int .i64 0, .int .i64 0, .int .i64 0, .int .i64 0, .int .i64 0, .int .i64 0, .slice none 0 0, .string ⟨#[]⟩] 24)).setRow w.heap.size #[.int .i64 3, .bool false, .int .i64 0, .int .i64 0, .int .i64 0, .int .i64 0, .int .i64 5, .int .i64 9, .int .i64 0, .int .i64 0, .int .i64 0, .slice none 0 0, .string ⟨#[]⟩]) w.heap.size pw none 0 := b1
  replace l1 : Below w.heap.size w ((w.alloc (.cells #[.int .i64 0, .bool false, .int .i64 0, .int .i64 0, .int .i64 0, .int .i64 0, .int .i64 0, .int .i64 0, .int .i64 0, .int .i64 0, .int .i64 0, .slice none 0 0, .string ⟨#[]⟩] 24)).setRow w.heap.size #[.int .i64 3, .bool false, .int .i64 0, .int .i64 0, .int .i64 0, .int .i64 0, .int .i64 5, .int .i64 9, .int .i64 0, .int .i64 0, .int .i64 0, .slice none 0 0, .string ⟨#[]⟩]) := l1
  go_enter Try.func6, Try.ntmps6
  go_wp2_with (first | (refine wpList_store_row rfl 24 _ _ rfl w.heap.size _ rfl rfl 24 _ z1 (hi13 _ _ _ _ _ _ _ _ _ _ _ _ _) rfl (hone13 _ _ _ _ _ _ _ _ _ _ _ _ _ _ _) ?_) | (refine wpList_load_row rfl 24 _ rfl w.heap.size rfl 24 _ _ _ b1 Try.underlying24 rfl (hi13 _ _ _ _ _ _ _ _ _ _ _ _ _) ?_))
  refine (HP.out _).mono ?_
  rintro e w2 ⟨rfl, h2⟩
  have H2 := Lib.hid (l1.trans (h2.mono l1.size))
  have b2 := b1.below h2 b1.lt
  clear h2 b1 z1 l1
  generalize sw = S at *
  go_wp2_with fail
  refine (HG.out _).mono ?_
  rintro e w3 ⟨a3, cap3, rfl, o3, h3⟩
  have H3 := Lib.hid (H2.out.trans (h3.mono H2.out.size))
  have b3 := b2.below h3 b2.lt
  obtain ⟨b4, o4, l4⟩ := laid_var w3 pw a3 cap3 o3
  have z3 : BoxK (w3.alloc (.cells #[.int .i64 0, .bool false, .int .i64 0, .int .i64 0, .int .i64 0, .int .i64 0, .int .i64 0, .int .i64 0, .int .i64 0, .int .i64 0, .int .i64 0, .slice none 0 0, .string ⟨#[]⟩] 24)) w3.heap.size Pkt.K.none none 0 := BoxK.new w3 Pkt.K.none none 0
  replace b4 : BoxK ((w3.alloc (.cells #[.int .i64 0, .bool false, .int .i64 0, .int .i64 0, .int .i64 0, .int .i64 0, .int .i64 0, .int .i64 0, .int .i64 0, .int .i64 0, .int .i64 0, .slice none 0 0, .string ⟨#[]⟩] 24)).setRow w3.heap.size #[.int .i64 3, .bool false, .int .i64 0, .int .i64 0, .int .i64 0, .int .i64 0, .int .i64 5, .int .i64 9, .int .i64 0, .int .i64 0, .int .i64 0, .slice a3 0 cap3, .string ⟨#[]⟩]) w3.heap.size pw a3 cap3 := b4
  replace l4 : Below w3.heap.size w3 ((w3.alloc (.cells #[.int .i64 0, .bool false, .int .i64 0, .int .i64 0, .int .i64 0, .int .i64 0, .int .i64 0, .int .i64 0, .int .i64 0, .int .i64 0, .int .i64 0, .slice none 0 0, .string ⟨#[]⟩] 24)).setRow w3.heap.size #[.int .i64 3, .bool false, .int .i64 0, .int .i64 0, .int .i64 0, .int .i64 0, .int .i64 5, .int .i64 9, .int .i64 0, .int .i64 0, .int .i64 0, .slice a3 0 cap3, .string ⟨#[]⟩]) := l4
  have b3' := b3.below l4 b3.lt
  have H4 := Lib.hid (H3.out.trans (l4.mono H3.out.size))
  clear b3 b2 h3 o3
  go_wp2_with (refine wpList_store_row rfl 24 _ _ rfl w3.heap.size _ rfl rfl 24 _ z3 (hi13 _ _ _ _ _ _ _ _ _ _ _ _ _) rfl (hone13 _ _ _ _ _ _ _ _ _ _ _ _ _ _ _) ?_)
  refine (HG3.out _).mono ?_
  rintro e w5 ⟨a5, cap5, rfl, o5, h5⟩
  have H5 := Lib.hid (H4.out.trans (h5.mono H4.out.size))
  have b5 := b4.below h5 b4.lt
  have b5' := b3'.below h5 b3'.lt
  have o5' := o4.below h5
  obtain ⟨-, -, l6⟩ := laid_var w5 Pkt.K.none a5 cap5 o5
  have z5 : BoxK (w5.alloc (.cells #[.int .i64 0, .bool false, .int .i64 0, .int .i64 0, .int .i64 0, .int .i64 0, .int .i64 0, .int .i64 0, .int .i64 0, .int .i64 0, .int .i64 0, .slice none 0 0, .string ⟨#[]⟩] 24)) w5.heap.size Pkt.K.none none 0 := BoxK.new w5 Pkt.K.none none 0
  have b6 := b5.below l6 b5.lt
  have b6' := b5'.below l6 b5'.lt
  have o6 := o5'.below l6
  have H6 := Lib.hid (H5.out.trans (l6.mono H5.out.size))
  have CS := Lib.hid (fun w (h : OptsAt w a3 pw.opts) => Same_eq pw (by decide) none a3 0 cap3 w (.inl rfl) h)
  clear b5 b5' b4 b3' o4 o5' o5 l4 h5 l6 HG HG3 HP z3
  obtain ⟨x0, x1, x2, x3, x4, x5, x6, x7, x8, x9, x10, x11, x12⟩ := b6'.cell
  obtain ⟨y0, y1, y2, y3, y4, y5, y6, y7, y8, y9, y10, y11, y12⟩ := b6.cell
  dsimp only [pw] at x0 x1 x2 x3 x4 x5 x6 x7 x8 x9 x10 x11 x12 y0 y1 y2 y3 y4 y5 y6 y7 y8 y9 y10 y11 y12
  clear b6 b6'
  go_wp2_with (refine wpList_store_row rfl 24 _ _ rfl w5.heap.size _ rfl rfl 24 _ z5 (hi13 _ _ _ _ _ _ _ _ _ _ _ _ _) rfl (hone13 _ _ _ _ _ _ _ _ _ _ _ _ _ _ _) ?_)
  refine (CS.out _ o6).mono ?_
  rintro e w7 ⟨rfl, h7⟩
  go_wp2_with fail
  go_returns
  exact ⟨rfl, H6.out.trans (h7.mono H6.out.size)⟩
end Go.Proofs.Ytkjojfcknfhkhaa.Pkt

namespace Go.Proofs.Ytkjojfcknfhkhaa.Pkt
open Go.ChangeShapes Go.WideShapes Go.ChangeAt Go.RowKit
open Go.Proofs.Ytkjojfcknfhkhaa.Opt (O OptsAt getOpts)
set_option linter.unusedVariables false

set_option maxRecDepth 100000 in
theorem isP_open {H : Type} {enc : TypeId × Value → H} {W w0 : World} {b0 : Nat} {r : Reach} {v : Value} {d : DataW H} {p : List MemPlace}
    (hv : Value.okWide Try.prog w0 r b0 26 v) (h : DataW.Trod enc Try.prog W 0 (fun _ => true) true 26 v d p) : ∃ f t : Int, v = .agg #[.int .i64 f, .int .i64 t] := by
  obtain ⟨⟨l⟩, rfl, hsz⟩ := okWide_struct Try.underlying26 hv
  obtain ⟨fuel, hf⟩ := h
  obtain ⟨xs, n, _, -, _, hlen, hg⟩ := DataW.trod_struct Try.underlying26 hf
  match l, hsz.trans (show Try.prog.cellsOf 26 = 2 by kernel_rfl) with
  | [v0, v1], _ =>
    have hi : Try.prog.cellsOf 3 = 1 := by kernel_rfl
    match xs, hlen with
    | [y0, y1], _ =>
      have g0 : DataW.trod enc Try.prog W 0 (fun _ => true) true n 3 [v0] = some y0 := by simpa [hi, Value.cells] using hg 0 _ rfl
      have g1 : DataW.trod enc Try.prog W 0 (fun _ => true) true n 3 [v1] = some y1 := by simpa [hi, Value.cells] using hg 1 _ rfl
      obtain ⟨a0, e0, -, -⟩ := DataW.trod_int Try.underlying3 g0
      obtain ⟨a1, e1, -, -⟩ := DataW.trod_int Try.underlying3 g1
      cases e0
      cases e1
      exact ⟨a0, a1, rfl⟩
set_option maxRecDepth 100000 in
theorem PacketGets_open1 {H : Type} {enc : TypeId × Value → H} {W w0 : World} {b0 : Nat} {r : Reach} {v : Value} {d : DataW H} {p : List MemPlace}
    (hv : Value.okWide Try.prog w0 r b0 26 v) (h : DataW.Trod enc Try.prog W 0 (fun _ => true) true 26 v d p) : ∃ f t : Int, v = .agg #[.int .i64 f, .int .i64 t] := isP_open hv h

theorem opts_small (s : ByteArray) : (optsOf s).size ≤ s.size := by
  have h1 : (optsOf s).size ≤ (midOf s).size := ext_le _ _ _
  have h2 : (midOf s).size ≤ (Head.get s).2.1.size := ext_le _ _ _
  have h3 : (Head.get s).2.1.size ≤ s.size := by
    unfold Head.get
    split
    · exact Nat.zero_le _
    · split
      · exact Nat.zero_le _
      · split
        · exact Nat.zero_le _
        · exact ext_le _ _ _
  omega
theorem none_few (e : Int) : (K.none, e).1.opts.length ≤ 3000 := by show K.none.opts.length ≤ 3000; decide
theorem readOf_opts (s : ByteArray) (os : List O) : (readOf s os).opts = os := rfl
theorem get_few (s : ByteArray) (f t : Int) (hs : s.size ≤ 3000) : (get s f t).1.opts.length ≤ 3000 := by
  have hg := (Opt.getOpts_fit (s := optsOf s) (by have := opts_small s; omega)).1
  have hr : (readOf s (getOpts (optsOf s)), (0 : Int)).1.opts.length ≤ 3000 := by
    generalize getOpts (optsOf s) = os at *
    dsimp only
    rw [readOf_opts]
    exact hg
  unfold get
  generalize readOf s (getOpts (optsOf s)) = P at *
  generalize (Head.get s).2.2 = e1 at *
  generalize Opt.getErr (optsOf s) = e2 at *
  generalize keptN (Head.get s).1.kind (Head.get s).1.long (midOf s) = e3 at *
  generalize heldN P = e4 at *
  by_cases h1 : 700 < s.size
  · rw [if_pos h1]; exact none_few _
  rw [if_neg h1]
  by_cases h2 : e1 ≠ 0
  · rw [if_pos h2]; exact none_few _
  rw [if_neg h2]
  by_cases h3 : s.size < cutAt s
  · rw [if_pos h3]; exact none_few _
  rw [if_neg h3]
  by_cases h4 : right s f t = false
  · rw [if_pos h4]; exact none_few _
  rw [if_neg h4]
  by_cases h5 : e3 ≠ 0
  · rw [if_pos h5]; exact none_few _
  rw [if_neg h5]
  by_cases h6 : e2 ≠ 0
  · rw [if_pos h6]; exact none_few _
  rw [if_neg h6]
  by_cases h7 : e4 ≠ 0
  · rw [if_pos h7]; exact none_few _
  rw [if_neg h7]
  exact hr

set_option maxRecDepth 100000 in
set_option maxHeartbeats 4000000 in
theorem PacketGets_walk (a0 : ByteArray) (v1 : Value) (W : World) (w0 : a0.size ≤ maxLen) (w1 : ∃ f t : Int, v1 = .agg #[.int .i64 f, .int .i64 t]) :
    Calls Try.prog 4 #[.string a0, v1] W fun e w' => e = .returned (.bool true) ∧ Below W.heap.size W w' := by
  unfold maxLen at w0
  obtain ⟨f, t, rfl⟩ := w1
  have hb0 := Lib.hid ((Below.refl W.heap.size W).alloc (Nat.le_refl _) (.cells #[.int .i64 f, .int .i64 t] 26))
  have hA := heap_alloc_new W (.cells #[.int .i64 f, .int .i64 t] 26)
  have hAl : W.heap.size < (W.alloc (.cells #[.int .i64 f, .int .i64 t] 26)).heap.size := by simp
  go_enter Try.func4, Try.ntmps4
  go_wp2_with fail
  refine (works_any _).mono ?_
  rintro e w1 ⟨rfl, h1⟩
  have H1 := Lib.hid (hb0.out.trans (h1.mono hb0.out.size))
  have a1 : w1.heap[W.heap.size]? = some (.cells #[.int .i64 f, .int .i64 t] 26 (0, 0)) := (h1.block _ hAl).trans hA
  clear hb0 hA hAl h1
  by_cases hm : a0.size ≤ 1500
  case neg =>
    have hm' : (1500 : Int) < a0.size := by omega
    go_wp2_with fail
    go_returns
    exact ⟨rfl, H1.out⟩
  have hm' : ¬ (1500 : Int) < a0.size := by omega
  have CG := Lib.hid (fun w => PGet_any a0 (by omega) f t w)
  have RG := Lib.hid (fun w => refGet10_any a0 (by omega) f t w)
  have CR := Lib.hid (fun w => Right_any a0 (by omega) f t w)
  have RR := Lib.hid (fun w => refRight_any a0 (by omega) f t w)
  have hfew := get_few a0 f t (by omega)
  unfold GetK at CG RG
  generalize (get a0 f t).2 = er at *
  generalize (get a0 f t).1 = P at *
  generalize right a0 f t = rt at *
  have CS := Lib.hid (fun w a b cap cap2 (h : OptsAt w a P.opts) (h2 : OptsAt w b P.opts) => refSame_eq P hfew a b cap cap2 w h h2)
  have hlA : W.heap.size < w1.heap.size := (Array.getElem?_eq_some_iff.1 a1).1
  go_wp2_with (refine wpList_load_row rfl 26 _ rfl W.heap.size rfl 26 _ _ _ a1 Try.underlying26 rfl (hi2 _ _) ?_)
  refine (CG.out _).mono ?_
  rintro e w3 ⟨a3, cap3, rfl, o3, h3⟩
  have H3 := Lib.hid (H1.out.trans (h3.mono H1.out.size))
  obtain ⟨b4, o4, l4⟩ := laid_var w3 P a3 cap3 o3
  have z3 : BoxK (w3.alloc (.cells #[.int .i64 0, .bool false, .int .i64 0, .int .i64 0, .int .i64 0, .int .i64 0, .int .i64 0, .int .i64 0, .int .i64 0, .int .i64 0, .int .i64 0, .slice none 0 0, .string ⟨#[]⟩] 24)) w3.heap.size Pkt.K.none none 0 := BoxK.new w3 Pkt.K.none none 0
  have H4 := Lib.hid (H3.out.trans (l4.mono H3.out.size))
  have hl3 : W.heap.size < w3.heap.size := Nat.lt_of_lt_of_le hlA h3.size
  have a4 := (l4.block _ hl3).trans ((h3.block _ hlA).trans a1)
  clear o3
  go_wp2_with (first | (refine wpList_store_row rfl 24 _ _ rfl w3.heap.size _ rfl rfl 24 _ z3 (hi13 _ _ _ _ _ _ _ _ _ _ _ _ _) rfl (hone13 _ _ _ _ _ _ _ _ _ _ _ _ _ _ _) ?_) | (refine wpList_load_row rfl 26 _ rfl W.heap.size rfl 26 _ _ _ a4 Try.underlying26 rfl (hi2 _ _) ?_))
  refine (RG.out _).mono ?_
  rintro e w5 ⟨a5, cap5, rfl, o5, h5⟩
  have H5 := Lib.hid (H4.out.trans (h5.mono H4.out.size))
  have b5 := b4.below h5 b4.lt
  have o5' := o4.below h5
  have a5' := (h5.block _ (Array.getElem?_eq_some_iff.1 a4).1).trans a4
  obtain ⟨b6, o6, l6⟩ := laid_var w5 P a5 cap5 o5
  have z5 : BoxK (w5.alloc (.cells #[.int .i64 0, .bool false, .int .i64 0, .int .i64 0, .int .i64 0, .int .i64 0, .int .i64 0, .int .i64 0, .int .i64 0, .int .i64 0, .int .i64 0, .slice none 0 0, .string ⟨#[]⟩] 24)) w5.heap.size Pkt.K.none none 0 := BoxK.new w5 Pkt.K.none none 0
  have b6' := b5.below l6 b5.lt
  have o6' := o5'.below l6
  have a6 := (l6.block _ (Array.getElem?_eq_some_iff.1 a5').1).trans a5'
  have H6 := Lib.hid (H5.out.trans (l6.mono H5.out.size))
  clear b5 b4 o4 o5' o5 l4 h5 CG RG z3 a4 a5' a1
  go_wp2_with (refine wpList_store_row rfl 24 _ _ rfl w5.heap.size _ rfl rfl 24 _ z5 (hi13 _ _ _ _ _ _ _ _ _ _ _ _ _) rfl (hone13 _ _ _ _ _ _ _ _ _ _ _ _ _ _ _) ?_)
  obtain ⟨V, hV⟩ : ∃ V, (w5.alloc (.cells #[.int .i64 0, .bool false, .int .i64 0, .int .i64 0, .int .i64 0, .int .i64 0, .int .i64 0, .int .i64 0, .int .i64 0, .int .i64 0, .int .i64 0, .slice none 0 0, .string ⟨#[]⟩] 24)).setRow w5.heap.size (rowK P a5 cap5) = V := ⟨_, rfl⟩
  rw [hV] at b6 o6 b6' o6' a6 H6 ⊢
  have KP := Lib.hid (show ∀ V', Below V.heap.size V V' → (V'.heap[w3.heap.size]? = some (.cells (rowK P a3 cap3) 24 (0, 0)) ∧ V'.heap[w5.heap.size]? = some (.cells (rowK P a5 cap5) 24 (0, 0)) ∧ V'.heap[W.heap.size]? = some (.cells #[.int .i64 f, .int .i64 t] 26 (0, 0))) ∧ OptsAt V' a3 P.opts ∧ OptsAt V' a5 P.opts from fun V' h' => ⟨⟨b6'.below h' b6'.lt, b6.below h' b6.lt, (h'.block _ (Array.getElem?_eq_some_iff.1 a6).1).trans a6⟩, o6'.below h', o6.below h'⟩)
  have v1 := (KP.out V (Below.refl _ _)).1
  have hrt : (rt == rt) = true := by simp
  clear b6 o6 b6' o6' a6 hV z5
  refine Step.start (S := (fun w' => w'.heap[w3.heap.size]? = some (.cells (rowK P a3 cap3) 24 (0, 0)) ∧ w'.heap[w5.heap.size]? = some (.cells (rowK P a5 cap5) 24 (0, 0)) ∧ w'.heap[W.heap.size]? = some (.cells #[.int .i64 f, .int .i64 t] 26 (0, 0)))) (by kernel_rfl) (by (try dsimp only); first | exact v1 | exact v7 | exact v8 | exact v9) (fun hHeld => ?_)
  refine Step.take (i := 0) rfl (by kernel_rfl) (by kernel_rfl) (by kernel_rfl) (fun _ _ _ h => h) (by rfl) (by (intro w hSw; (try dsimp only at hSw); go_simp; try (with_reducible rfl))) (by assumption) ?_
  try simp only [Act.put, List.setIfInBounds_toArray, List.set_cons_zero, List.set_cons_succ]
  refine Step.take (i := 1) rfl (by kernel_rfl) (by kernel_rfl) (by kernel_rfl) (fun _ _ _ h => h) (by rfl) (by (intro w hSw; (try dsimp only at hSw); go_simp; try (with_reducible rfl))) (by assumption) ?_
  try simp only [Act.put, List.setIfInBounds_toArray, List.set_cons_zero, List.set_cons_succ]
  refine Step.take (i := 2) rfl (by kernel_rfl) (by kernel_rfl) (by kernel_rfl) (fun _ _ _ h => h) (by rfl) (by (intro w hSw; (try dsimp only at hSw); go_simp; try (with_reducible rfl))) (by assumption) ?_
  try simp only [Act.put, List.setIfInBounds_toArray, List.set_cons_zero, List.set_cons_succ]
  refine Step.take (i := 3) rfl (by kernel_rfl) (by kernel_rfl) (by kernel_rfl) (fun _ _ _ h => h) (by rfl) (by (intro w hSw; (try dsimp only at hSw); go_simp; try (with_reducible rfl))) (by assumption) ?_
  try simp only [Act.put, List.setIfInBounds_toArray, List.set_cons_zero, List.set_cons_succ]
  refine Step.load (i := 4) rfl (by kernel_rfl) (by kernel_rfl) (by kernel_rfl) w3.heap.size (rowK P a3 cap3) 24 (0, 0) _ (fun w hSw => hSw.1) Try.underlying24 rfl (hi13 _ _ _ _ _ _ _ _ _ _ _ _ _) (fun _ _ _ h => h) (by rfl) rfl (by assumption) ?_
  try simp only [Act.put, List.setIfInBounds_toArray, List.set_cons_zero, List.set_cons_succ]
  refine Step.load (i := 5) rfl (by kernel_rfl) (by kernel_rfl) (by kernel_rfl) w5.heap.size (rowK P a5 cap5) 24 (0, 0) _ (fun w hSw => hSw.2.1) Try.underlying24 rfl (hi13 _ _ _ _ _ _ _ _ _ _ _ _ _) (fun _ _ _ h => h) (by rfl) rfl (by assumption) ?_
  try simp only [Act.put, List.setIfInBounds_toArray, List.set_cons_zero, List.set_cons_succ]
  refine Step.call (i := 6) rfl (by kernel_rfl) (by rfl) (fun K hK => ?_)
  go_simp
  (go_at_call 13; refine (CS.out _ a3 a5 cap3 cap5 (by exact (KP.out _ (at_drewm (Below.refl _ _))).2.1) (by exact (KP.out _ (at_drewm (Below.refl _ _))).2.2)).mono ?_; rintro e w7 ⟨rfl, h7⟩; have H7 := Lib.hid (at_drewm h7); have v7 := (KP.out _ H7.out).1; clear h7)
  try (go_wp2_with fail)
  refine hK.out _ _ (by (try dsimp only); first | exact v1 | exact v7 | exact v8 | exact v9) (fun hHeld => ?_)
  clear hK K
  try simp only [Act.put, List.setIfInBounds_toArray, List.set_cons_zero, List.set_cons_succ]
  refine Step.take (i := 7) rfl (by kernel_rfl) (by kernel_rfl) (by kernel_rfl) (fun _ _ _ h => h) (by rfl) (by (intro w hSw; (try dsimp only at hSw); go_simp; try (with_reducible rfl))) (by assumption) ?_
  try simp only [Act.put, List.setIfInBounds_toArray, List.set_cons_zero, List.set_cons_succ]
  refine Step.take (i := 8) rfl (by kernel_rfl) (by kernel_rfl) (by kernel_rfl) (fun _ _ _ h => h) (by rfl) (by (intro w hSw; (try dsimp only at hSw); go_simp; try (with_reducible rfl))) (by assumption) ?_
  try simp only [Act.put, List.setIfInBounds_toArray, List.set_cons_zero, List.set_cons_succ]
  refine Step.take (i := 9) rfl (by kernel_rfl) (by kernel_rfl) (by kernel_rfl) (fun _ _ _ h => h) (by rfl) (by (intro w hSw; (try dsimp only at hSw); go_simp; try (with_reducible rfl))) (by assumption) ?_
  try simp only [Act.put, List.setIfInBounds_toArray, List.set_cons_zero, List.set_cons_succ]
  refine Step.load (i := 10) rfl (by kernel_rfl) (by kernel_rfl) (by kernel_rfl) W.heap.size #[.int .i64 f, .int .i64 t] 26 (0, 0) _ (fun w hSw => hSw.2.2) Try.underlying26 rfl (hi2 _ _) (fun _ _ _ h => h) (by rfl) rfl (by assumption) ?_
  try simp only [Act.put, List.setIfInBounds_toArray, List.set_cons_zero, List.set_cons_succ]
  refine Step.take (i := 12) rfl (by kernel_rfl) (by kernel_rfl) (by kernel_rfl) (fun _ _ _ h => h) (by rfl) (by (intro w hSw; (try dsimp only at hSw); go_simp; try (with_reducible rfl))) (by assumption) ?_
  try simp only [Act.put, List.setIfInBounds_toArray, List.set_cons_zero, List.set_cons_succ]
  refine Step.load (i := 13) rfl (by kernel_rfl) (by kernel_rfl) (by kernel_rfl) W.heap.size #[.int .i64 f, .int .i64 t] 26 (0, 0) _ (fun w hSw => hSw.2.2) Try.underlying26 rfl (hi2 _ _) (fun _ _ _ h => h) (by rfl) rfl (by assumption) ?_
  try simp only [Act.put, List.setIfInBounds_toArray, List.set_cons_zero, List.set_cons_succ]
  refine Step.call (i := 11) rfl (by kernel_rfl) (by rfl) (fun K hK => ?_)
  go_simp
  (go_at_call 16; refine (CR.out _).mono ?_; rintro e w8 ⟨rfl, h8⟩; have H8 := Lib.hid (H7.out.trans (h8.mono H7.out.size)); have v8 := (KP.out _ H8.out).1; clear h8)
  try (go_wp2_with fail)
  refine hK.out _ _ (by (try dsimp only); first | exact v1 | exact v7 | exact v8 | exact v9) (fun hHeld => ?_)
  clear hK K
  try simp only [Act.put, List.setIfInBounds_toArray, List.set_cons_zero, List.set_cons_succ]
  refine Step.call (i := 14) rfl (by kernel_rfl) (by rfl) (fun K hK => ?_)
  go_simp
  (go_at_call 17; refine (RR.out _).mono ?_; rintro e w9 ⟨rfl, h9⟩; have H9 := Lib.hid (H8.out.trans (h9.mono H8.out.size)); have v9 := (KP.out _ H9.out).1; clear h9)
  try (go_wp2_with fail)
  refine hK.out _ _ (by (try dsimp only); first | exact v1 | exact v7 | exact v8 | exact v9) (fun hHeld => ?_)
  clear hK K
  try simp only [Act.put, List.setIfInBounds_toArray, List.set_cons_zero, List.set_cons_succ]
  refine Step.take (i := 15) rfl (by kernel_rfl) (by kernel_rfl) (by kernel_rfl) (fun _ _ _ h => h) (by rfl) (by (intro w hSw; (try dsimp only at hSw); go_simp; try (with_reducible rfl))) (by assumption) ?_
  try simp only [Act.put, List.setIfInBounds_toArray, List.set_cons_zero, List.set_cons_succ]
  refine Step.take (i := 16) rfl (by kernel_rfl) (by kernel_rfl) (by kernel_rfl) (fun _ _ _ h => h) (by rfl) (by (intro w hSw; (try dsimp only at hSw); go_simp; try (with_reducible rfl))) (by assumption) ?_
  try simp only [Act.put, List.setIfInBounds_toArray, List.set_cons_zero, List.set_cons_succ]
  refine Step.take (i := 17) rfl (by kernel_rfl) (by kernel_rfl) (by kernel_rfl) (fun _ _ _ h => h) (by rfl) (by (intro w hSw; (try dsimp only at hSw); go_simp; try (with_reducible rfl))) (by assumption) ?_
  try simp only [Act.put, List.setIfInBounds_toArray, List.set_cons_zero, List.set_cons_succ]
  refine wpAnyH_done (by kernel_rfl) ?_ _
  go_wp2_with fail
  go_returns
  exact ⟨rfl, H6.out.trans (H9.out.mono H6.out.size)⟩
end Go.Proofs.Ytkjojfcknfhkhaa.Pkt
