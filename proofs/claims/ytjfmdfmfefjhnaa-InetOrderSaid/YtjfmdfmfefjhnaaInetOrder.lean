/- The walk of InetOrder. -/
import Derived.Test.YtjfmdfmfefjhnaaInet5
import Derived.Test.YtjfmdfmfefjhnaaLStr
import Derived.Deep.Slices
import Derived.Deep.DeepCutAuto
import Derived.OpenShut
import Derived.ChangeOld
import Derived.IntWalk
namespace Go.Proofs.Ytjfmdfmfefjhnaa.Inet
open Go.ChangeShapes Go.WideShapes Go.ChangeAt Go.RowKit Go.Deep
open Go.Proofs.Ytjfmdfmfefjhnaa.LStr
open Go.Proofs.Ytjfmdfmfefjhnaa.Oct (nat64 u64_lt bs_append)
set_option linter.unusedVariables false

/-- a pair of bytes, as a text -/
def pairOf (U V : Nat → UInt8) (i : Nat) : ByteArray := ⟨[U i, V i].toArray⟩
/-- what is known of a slice of pairs of bytes -/
def PairsAt (w : World) (a : Option Addr) (len : Nat) (U V : Nat → UInt8) : Prop :=
  len = 0 ∨ ∃ b off, a = some ⟨b, off, none⟩ ∧ b < w.heap.size ∧ ∀ i, i < len → w.cell? ⟨b, off + i * 2, none⟩ = some (.int .u8 ((U i).toNat : Int)) ∧ w.cell? ⟨b, off + i * 2 + 1, none⟩ = some (.int .u8 ((V i).toNat : Int))
def IsPairs (w : World) (a : Option Addr) (len : Nat) : Prop := len ≤ maxLen ∧ ∃ U V, PairsAt w a len U V

theorem PairsAt.cell {w w' : World} {a : Option Addr} {len : Nat} {U V : Nat → UInt8} (h : PairsAt w a len U V) (hb : Below w.heap.size w w') (k : Nat) (hk : k < len) :
    ∃ b off, a = some ⟨b, off, none⟩ ∧ w'.cell? ⟨b, off + k * 2, none⟩ = some (.int .u8 ((U k).toNat : Int)) ∧ w'.cell? ⟨b, off + k * 2 + 1, none⟩ = some (.int .u8 ((V k).toNat : Int)) := by
  rcases h with h | ⟨b, off, rfl, h1, h2⟩
  · omega
  · exact ⟨b, off, rfl, (hb.cell (p := ⟨b, off + k * 2, none⟩) h1).trans (h2 k hk).1, (hb.cell (p := ⟨b, off + k * 2 + 1, none⟩) h1).trans (h2 k hk).2⟩
theorem PairsAt.below {w w' : World} {a : Option Addr} {len : Nat} {U V : Nat → UInt8} (h : PairsAt w a len U V) (hb : Below w.heap.size w w') : PairsAt w' a len U V := by
  rcases h with h | ⟨b, off, rfl, h1, h2⟩
  · exact .inl h
  · exact .inr ⟨b, off, rfl, Nat.lt_of_lt_of_le h1 hb.size, fun i hi => ⟨(hb.cell (p := ⟨b, off + i * 2, none⟩) h1).trans (h2 i hi).1, (hb.cell (p := ⟨b, off + i * 2 + 1, none⟩) h1).trans (h2 i hi).2⟩⟩

theorem pair_back (w : World) (b off : Nat) (u v : UInt8) (c : Nat) (h0 : w.cell? ⟨b, off, none⟩ = some (.int .u8 (u.toNat : Int))) (h1 : w.cell? ⟨b, off + 1, none⟩ = some (.int .u8 (v.toNat : Int))) :
    (convert 38 9 (.slice (some ⟨b, off, none⟩) 2 c)).run Try.prog w = .ok (.string ⟨[u, v].toArray⟩) w :=
  run_convert_bytes_back (P := Try.prog) w 38 9 5 ⟨b, off, none⟩ c [u, v] Try.underlying38 Try.underlying5 Try.underlying9 (fun j hj => by
    have ha : (⟨b, off, none⟩ : Addr).add j = ⟨b, off + j, none⟩ := by unfold Addr.add; split <;> simp_all
    rw [ha]
    have : j = 0 ∨ j = 1 := by simp at hj; omega
    rcases this with rfl | rfl
    · exact h0
    · exact h1)

/-- all pairs, one behind the other -/
def pairs (U V : Nat → UInt8) (i : Nat) : List ByteArray := (List.range i).map (pairOf U V)
theorem pairs_length (U V : Nat → UInt8) (i : Nat) : (pairs U V i).length = i := by simp [pairs]
theorem pairs_succ (U V : Nat → UInt8) (i : Nat) : pairs U V (i + 1) = pairs U V i ++ [pairOf U V i] := by simp [pairs, List.range_succ]
theorem pairs_get (U V : Nat → UInt8) (n i : Nat) (h : i < n) : (pairs U V n).getD i ⟨#[]⟩ = pairOf U V i := by
  simp [pairs, List.getD, List.getElem?_map, List.getElem?_range h]
theorem pairOf_size (U V : Nat → UInt8) (i : Nat) : (pairOf U V i).size = 2 := rfl

/-- so much of it as one text -/
def OneIs (F : Nat → Nat) (i : Nat) (v : Value) : Prop := ∃ x : ByteArray, v = .string x ∧ x.size = 2 * i ∧ ws x = tot F i
theorem OneIs.zero (F : Nat → Nat) : OneIs F 0 (.string ⟨#[]⟩) := ⟨_, rfl, rfl, rfl⟩
theorem one_more {F : Nat → Nat} {i : Nat} {x y : ByteArray} (h1 : x.size = 2 * i) (h2 : ws x = tot F i) (hy : y.size = 2) (hw : ws y = F i) : OneIs F (i + 1) (.string (x ++ y)) :=
  ⟨_, rfl, by rw [ByteArray.size_append]; omega, by rw [ws_append _ _ (by omega), h2, hw]; rfl⟩

/-- where one begins, turned -/
def TurnAt (n : Nat) (v : Value) : Prop := ∃ t : Nat, v = .int .i64 t ∧ (n = 0 ∨ t < n)
theorem turn_is (a : Int) (n : Nat) (h0 : 0 < n) (hn : n ≤ 500) : TurnAt n (.int .i64 (wrap64 ((IntKind.u64.wrap a).tmod n))) := by
  refine ⟨nat64 a % n, ?_, .inr (Nat.mod_lt _ h0)⟩
  rw [u64_wrap, ← Int.ofNat_tmod]
  have := Nat.mod_lt (nat64 a) h0
  generalize nat64 a % n = m at *
  refine congrArg (Value.int .i64) ?_
  unfold wrap64
  omega

theorem strs_all {w : World} {B : Nat} {v : Value} {U V : Nat → UInt8} {n : Nat} (h : StrsIn w B v (pairs U V n)) : ∃ g gc, v = .slice g n gc ∧ StrsAt w g n (pairOf U V) := by
  rcases h with ⟨h1, rfl⟩ | ⟨g, gc, rfl, h1, h2, h3⟩
  · have := pairs_length U V n
    rw [h1] at this
    obtain rfl : n = 0 := this.symm
    exact ⟨none, 0, rfl, .inl rfl⟩
  · rw [pairs_length] at *
    refine ⟨_, _, rfl, .inr ⟨g, 0, rfl, h2, fun i hi => ?_⟩⟩
    rw [Nat.zero_add, h3 i hi, pairs_get U V n i hi]

/-- the pairs, and a text behind them -/
theorem all_sum (U V : Nat → UInt8) (n : Nat) (s : ByteArray) : tot (fun i => ws ((pairs U V n ++ [s]).getD i ⟨#[]⟩)) (n + 1) = tot (fun i => ws (pairOf U V i)) n + ws s := by
  simp only [tot]
  have h1 := pairs_length U V n
  have h2 : (pairs U V n ++ [s]).getD n ⟨#[]⟩ = s := by simp [List.getD, h1]
  rw [h2]
  congr 1
  refine tot_congr _ _ _ (fun i hi => ?_)
  show ws _ = ws _
  have h3 : (pairs U V n ++ [s]).getD i ⟨#[]⟩ = pairOf U V i := by
    rw [← pairs_get U V n i hi]
    simp only [List.getD]
    rw [List.getElem?_append_left (by omega)]
  rw [h3]
theorem all_size (U V : Nat → UInt8) (n : Nat) (s : ByteArray) (hs : s.size ≤ 1000) (i : Nat) (hi : i < n + 1) : ((pairs U V n ++ [s]).getD i ⟨#[]⟩).size ≤ 10000 := by
  have h1 := pairs_length U V n
  by_cases h : i < n
  · have h3 : (pairs U V n ++ [s]).getD i ⟨#[]⟩ = pairOf U V i := by
      rw [← pairs_get U V n i h]
      simp only [List.getD]
      rw [List.getElem?_append_left (by omega)]
    rw [h3]; show 2 ≤ 10000; omega
  · obtain rfl : i = n := by omega
    have h2 : (pairs U V i ++ [s]).getD i ⟨#[]⟩ = s := by simp [List.getD, h1]
    rw [h2]; omega
/-- the sum of all of them, as one slice that was appended -/
theorem sumAll_any (w : World) (B : Nat) (v : Value) (U V : Nat → UInt8) (n : Nat) (s : ByteArray) (hn : n ≤ 500) (hs : s.size ≤ 1000) (h : Strs w B v (pairs U V n ++ [s])) (X : Int)
    (hX : sumOf (tot (fun i => ws (pairOf U V i)) n + ws s) = X) :
    Calls Try.prog 10 #[v] w fun e w' => e = .returned (.int .i64 X) ∧ Below w.heap.size w w' := by
  rcases h.at with ⟨h1, _⟩ | ⟨g, cap, rfl, _, hg, hc⟩
  · simp at h1
  · rw [List.length_append, pairs_length] at *
    refine (sum_any _ _ _ (fun i => (pairs U V n ++ [s]).getD i ⟨#[]⟩) w (by simp; omega) (fun i hi => all_size U V n s hs i hi) (.inr ⟨g, 0, rfl, hg, fun i hi => by rw [Nat.zero_add]; exact hc i hi⟩)).mono ?_
    rintro e w' ⟨rfl, hb⟩
    refine ⟨?_, hb⟩
    show Ending.returned (.int .i64 (sumOf (tot (fun i => ws ((pairs U V n ++ [s]).getD i ⟨#[]⟩)) (n + 1)))) = _
    rw [all_sum, hX]

set_option maxRecDepth 100000 in
set_option maxHeartbeats 800000 in
theorem order_walk (a : Option Addr) (len cap : Nat) (s : ByteArray) (a2 : Int) (w : World) (hl : len ≤ 500) (hs : s.size ≤ 1000) (U V : Nat → UInt8) (hat : PairsAt w a len U V) :
    Calls Try.prog 5 #[.slice a len cap, .string s, .int .i64 a2] w fun e w' => e = .returned (.bool true) ∧ Below w.heap.size w w' := by
  have Hat := Lib.hid hat
  clear hat
  obtain ⟨i0, hi, hz0, hz1, hz2⟩ := info_parts infoStr
  go_enter Try.func5, Try.ntmps5
  go_wp2_with fail
  refine (works_any _).mono ?_
  rintro e w1 ⟨rfl, h1⟩
  have h0 := Lib.hid h1
  have Hat := Lib.hid (Hat.out.below h1)
  have hy0 : w.heap.size ≤ w1.heap.size := h1.size
  clear h1
  go_wp2_with fail
  go_loopw [7, 9, 10, 11] (fun one v i _ wr => ∃ k : Nat, k ≤ len ∧ i = .int .i64 k ∧ OneIs (fun j => ws (pairOf U V j)) k one ∧ Strs wr w1.heap.size v (pairs U V k) ∧ Below w1.heap.size w1 wr) (fun _ _ i _ _ => len - (intOf i).toNat)
  case atStart => exact ⟨0, Nat.zero_le _, rfl, OneIs.zero _, Strs.nil _ _, Below.refl _ _⟩
  case round =>
    obtain ⟨k, hk, rfl, ⟨one, rfl, ho1, ho2⟩, hown, hb⟩ := hrel
    have hlen := Lib.hid (pairs_length U V k)
    have hsz := hb.size
    have Ho1 := Lib.hid ho1
    by_cases hlt : k < len
    · obtain ⟨b, off, rfl, hc0, hc1⟩ := Hat.out.cell hb k hlt
      have hsu := Lib.hid (pairs_succ U V k)
      have hone := Lib.hid (one_more ho1 ho2 (pairOf_size U V k) rfl)
      have hxs : (pairOf U V k).size ≤ 2 := Nat.le_refl _
      have hos : one.size ≤ 1000 := by omega
      have hconv : ∀ c, (convert 38 9 (.slice (some ⟨b, off + k * 2, none⟩) 2 c)).run Try.prog wr = .ok (.string (pairOf U V k)) wr := fun c => pair_back wr b _ _ _ c hc0 hc1
      generalize pairOf U V k = x at *
      generalize pairs U V k = xs at *
      clear hc0 hc1 ho1 ho2
      go_wp2_with (at_builtin; refine wpList_append_own _ rfl _ _ 22 rfl w1.heap.size 9 i0 (.string ⟨#[]⟩) 1 16 Try.underlying22 hi hz0 hz1 hz2 rfl (by decide) _ _ _ rfl (World.ownsRow.alloc hown _) ⟨wr.heap.size, 0, none⟩ 1 1 [.string x] rfl rfl ?c1 ?c2 ?c3 ?c4 ?c5 ?_)
      case c1 =>
        intro j u hj
        match j, hj with
        | 0, hj => simp at hj; subst hj; simp [Addr.add]
      case c2 => intro u hu; simp at hu; subst hu; rfl
      case c3 => have := hlen.out; unfold maxLen; omega
      case c4 => have := hlen.out; omega
      case c5 => simp; omega
      intro v' w1' hown' hg _
      have hp := Lib.hid (strs_push hsz hown hb hown' hg)
      clear hown' hg hown hb hconv
      go_wp2_with fail
      refine ⟨⟨k + 1, by omega, by go_num, hone.out, ?_, hp.out.2⟩, by simp [intOf]; omega⟩
      rw [hsu.out]; exact hp.out.1
    · obtain rfl : k = len := by omega
      have hg := Lib.hid (pairs_get U V k)
      have Hv := Lib.hid hown.at
      have h0 := Lib.hid (h0.out.trans (hb.mono h0.out.size))
      have hy1 := hb.size
      clear hb
      go_upto_if 45 with fail
      go_cut [12] (fun v wx => TurnAt k v ∧ wx = wr)
      case first =>
        by_cases hz : k = 0
        · subst hz
          go_wp2_with fail
          go_meet
          exact ⟨⟨0, rfl, .inl rfl⟩, rfl⟩
        · have ht := Lib.hid (turn_is a2 k (by omega) hl)
          have hz0 : 0 < k := by omega
          go_wp2_with fail
          go_meet
          exact ⟨ht.out, rfl⟩
      case rest =>
        obtain ⟨⟨t, rfl, ht⟩, rfl⟩ := hcut
        obtain ⟨g, gc, rfl, hst⟩ := strs_all Hv.out
        have Hst := Lib.hid hst
        have Hown := Lib.hid hown
        clear hst Hv hown
        go_wp2_with fail
        go_loop [8, 13] (fun tv i => ∃ j : Nat, j ≤ k ∧ i = .int .i64 j ∧ OneIs (fun i => ws (pairOf U V ((i + t) % k))) j tv) (fun _ i => k - (intOf i).toNat)
        case atStart => exact ⟨0, Nat.zero_le _, rfl, OneIs.zero _⟩
        case round =>
          obtain ⟨j, hj, rfl, ⟨tw, rfl, hw1, hw2⟩⟩ := hrel
          by_cases hjk : j < k
          · have htk : t < k := by omega
            have hm := Nat.mod_lt (j + t) (show k > 0 by omega)
            obtain ⟨b, off, rfl, hcell⟩ := Hst.out.cell (Below.refl _ _) ((j + t) % k) hm
            have hone := Lib.hid (one_more (F := fun i => ws (pairOf U V ((i + t) % k))) hw1 hw2 (pairOf_size U V ((j + t) % k)) rfl)
            have hxs : (pairOf U V ((j + t) % k)).size ≤ 2 := Nat.le_refl _
            have hos : tw.size ≤ 1000 := by omega
            generalize pairOf U V ((j + t) % k) = x at *
            clear hw1 hw2
            have e1 : IntKind.i64.wrap ((j : Int) + (t : Int)) = (j : Int) + (t : Int) := IntWalk.i64_in _ (by omega)
            have e2 : (0 : Int) ≤ ((j : Int) + (t : Int)) % (k : Int) := Int.emod_nonneg _ (by omega)
            have e3 : ((j : Int) + (t : Int)) % (k : Int) < (k : Int) := Int.emod_lt_of_pos _ (by omega)
            go_wp2_with fail
            exact ⟨⟨j + 1, by omega, by go_num, hone.out⟩, by simp [intOf]; omega⟩
          · obtain rfl : j = k := by omega
            have hturn : tot (fun i => ws (pairOf U V ((i + t) % j))) j = tot (fun i => ws (pairOf U V i)) j := by
              rcases ht with rfl | ht
              · rfl
              · exact tot_turn (fun i => ws (pairOf U V i)) j t ht
            rw [hturn] at hw2
            have z1 : one.size ≤ 1000 := by have := Ho1.out; omega
            have z2 : tw.size ≤ 1000 := by omega
            have c2 := fun w => sum2_any tw s w (by omega) (by omega) (tot (fun i => ws (pairOf U V i)) j + ws s) (by rw [hw2])
            have c1 := fun w => sum2_any one s w (by omega) (by omega) (tot (fun i => ws (pairOf U V i)) j + ws s) (by rw [ho2])
            have c3 := fun w => sum1_any (one ++ s) w (by rw [ByteArray.size_append]; omega) (tot (fun i => ws (pairOf U V i)) j + ws s) (by rw [ws_append _ _ (by have := Ho1.out; omega), ho2])
            have c4 := fun w => sum2_any one (s ++ ⟨#[0]⟩) w (by omega) (by rw [ByteArray.size_append]; show s.size + 1 ≤ 10000; omega) (tot (fun i => ws (pairOf U V i)) j + ws s) (by rw [ho2, ws_zero])
            have C1 := Lib.hid c1
            have C2 := Lib.hid c2
            have C3 := Lib.hid c3
            have C4 := Lib.hid c4
            have hx := sumOf_bd (tot (fun i => ws (pairOf U V i)) j + ws s)
            clear c1 c2 c3 c4 hturn hw1 hw2 ho1 ho2
            generalize hX : sumOf (tot (fun i => ws (pairOf U V i)) j + ws s) = X at *
            have HX := Lib.hid hX
            clear hX
            go_wp2_with fail
            refine (C1.out _).mono ?_
            rintro e w2 ⟨rfl, h1⟩
            have h0 := Lib.hid (h0.out.trans (h1.mono h0.out.size))
            have Hown := Lib.hid (Hown.out.below (Nat.le_refl _) h1)
            have hy2 : w1.heap.size ≤ w2.heap.size := Nat.le_trans hy1 h1.size
            clear h1
            go_wp2_with fail
            refine (C2.out _).mono ?_
            rintro e w3 ⟨rfl, h1⟩
            have h0 := Lib.hid (h0.out.trans (h1.mono h0.out.size))
            have Hown := Lib.hid (Hown.out.below (Nat.le_refl _) h1)
            have hy3 : w1.heap.size ≤ w3.heap.size := Nat.le_trans hy2 h1.size
            clear h1
            go_wp2_with fail
            refine (C3.out _).mono ?_
            rintro e w4 ⟨rfl, h1⟩
            have h0 := Lib.hid (h0.out.trans (h1.mono h0.out.size))
            have Hown := Lib.hid (Hown.out.below (Nat.le_refl _) h1)
            have hy4 : w1.heap.size ≤ w4.heap.size := Nat.le_trans hy3 h1.size
            clear h1
            have hown4 := Hown.out
            have hlj := hlen.out
            have HL := Lib.hid hlj
            clear hlj
            go_wp2_with (at_builtin; refine wpList_append_own _ rfl _ _ 22 rfl w1.heap.size 9 i0 (.string ⟨#[]⟩) 1 16 Try.underlying22 hi hz0 hz1 hz2 rfl (by decide) _ _ _ rfl (World.ownsRow.alloc hown4 _) ⟨w4.heap.size, 0, none⟩ 1 1 [.string s] rfl rfl ?d1 ?d2 ?d3 ?d4 ?d5 ?_)
            case d1 =>
              intro j u hj
              match j, hj with
              | 0, hj => simp at hj; subst hj; simp [Addr.add]
            case d2 => intro u hu; simp at hu; subst hu; rfl
            case d3 => have := HL.out; unfold maxLen; omega
            case d4 => have := HL.out; omega
            case d5 => simp; omega
            intro v' w5 hown' hg _
            have hp := Lib.hid (strs_push hy4 hown4 (Below.refl _ _ : Below w1.heap.size w4 w4) hown' hg)
            clear hown' hg hown4
            have h0 := Lib.hid (h0.out.trans (hp.out.2.mono hy0))
            by_cases hev : s.size % 2 = 0
            · have he1 : (((s.size : Int) % 2) == 0) = true := by rw [beq_iff_eq]; omega
              have Hev := Lib.hid hev
              clear hev
              go_wp2_with fail
              refine (sumAll_any _ _ _ U V j s hl hs hp.out.1 X HX.out).mono ?_
              rintro e w6 ⟨rfl, h1⟩
              have h0 := Lib.hid (h0.out.trans (h1.mono h0.out.size))
              clear h1
              go_wp2_with fail
              go_ret
              exact ⟨rfl, h0.out⟩
            · have he1 : (((s.size : Int) % 2) == 0) = false := by rw [beq_eq_false_iff_ne]; omega
              have Hev := Lib.hid hev
              clear hev
              go_wp2_with fail
              refine (sumAll_any _ _ _ U V j s hl hs hp.out.1 X HX.out).mono ?_
              rintro e w6 ⟨rfl, h1⟩
              have h0 := Lib.hid (h0.out.trans (h1.mono h0.out.size))
              clear h1
              go_wp2_with fail
              refine (C4.out _).mono ?_
              rintro e w7 ⟨rfl, h1⟩
              have h0 := Lib.hid (h0.out.trans (h1.mono h0.out.size))
              clear h1
              go_wp2_with fail
              go_ret
              exact ⟨rfl, h0.out⟩

theorem cell_lt2 {w : World} {b o : Nat} {v : Value} (h : w.cell? ⟨b, o, none⟩ = some v) : b < w.heap.size := by
  rcases Nat.lt_or_ge b w.heap.size with h' | h'
  · exact h'
  · unfold World.cell? at h
    rw [Array.getElem?_eq_none h'] at h
    simp at h

theorem InetOrder_open0 {H : Type} {enc : TypeId × Value → H} {W : World} {a : Option Addr} {len cap : Nat} {d : DataW H} {p : List MemPlace}
    (h : DataW.Trod enc Try.prog W 0 (fun _ => true) true 37 (.slice a len cap) d p) : IsPairs W a len := by
  obtain ⟨fuel, hf⟩ := h
  have hce : Try.prog.cellsOf 39 = 2 := by kernel_rfl
  have hcb : Try.prog.cellsOf 5 = 1 := by kernel_rfl
  rcases open_slice Try.underlying37 hf with ⟨hcs, _⟩ | ⟨x, l, c, m, n, D, Pl, hcs, _, hl, hm, hmm, _, hcell⟩
  · simp [Value.cells] at hcs
    exact ⟨by rw [hcs.2.1]; decide, fun _ => 0, fun _ => 0, .inl hcs.2.1⟩
  · simp [Value.cells] at hcs
    obtain ⟨rfl, rfl, rfl⟩ := hcs
    have hlm : len ≤ m := by rw [hmm]; split <;> omega
    refine ⟨by omega, ?_⟩
    rw [hce] at hcell
    have each : ∀ i, i < m → ∃ q : UInt8 × UInt8, W.cell? ((x.add (i * 2)).add 0) = some (.int .u8 (q.1.toNat : Int)) ∧ W.cell? ((x.add (i * 2)).add 1) = some (.int .u8 (q.2.toNat : Int)) := by
      intro i hi
      obtain ⟨cs', h1, h2⟩ := hcell i hi
      obtain ⟨_, hlen, hc⟩ := World.cells?_some h1
      obtain ⟨xs, k, _, _, _, hxl, hf⟩ := DataW.trod_array Try.underlying39 h2
      match cs', hlen with
      | [v0, v1], _ =>
        have g0 := hf 0 (by omega)
        have g1 := hf 1 (by omega)
        rw [hcb] at g0 g1
        simp at g0 g1
        have e0 := hc 0 (by omega)
        have e1 := hc 1 (by omega)
        simp at e0 e1
        match xs, hxl with
        | [y0, y1], _ =>
          simp at g0 g1
          obtain ⟨n0, q0, _, f0⟩ := DataW.trod_int Try.underlying5 g0
          obtain ⟨n1, q1, _, f1⟩ := DataW.trod_int Try.underlying5 g1
          simp [Lit.wf] at f0 f1
          rw [show IntKind.u8.min = 0 from rfl, show IntKind.u8.max = 255 from rfl] at f0 f1
          simp at q0 q1
          subst q0 q1
          have u0 : ((UInt8.ofNat n0.toNat).toNat : Int) = n0 := by simp; omega
          have u1 : ((UInt8.ofNat n1.toNat).toNat : Int) = n1 := by simp; omega
          exact ⟨(UInt8.ofNat n0.toNat, UInt8.ofNat n1.toNat), by simp only; rw [u0]; exact e0, by simp only; rw [u1]; exact e1⟩
    obtain ⟨q, hq⟩ := choose_lt each
    refine ⟨fun i => (q i).1, fun i => (q i).2, ?_⟩
    by_cases hz : len = 0
    · exact .inl hz
    · have h0 := (hq 0 (by omega)).1
      obtain ⟨b, off, spot⟩ := x
      have hspot : spot = none := by simpa [Addr.add] using World.cell?_spot h0
      subst hspot
      have ea : ∀ o j, (⟨b, o, none⟩ : Addr).add j = ⟨b, o + j, none⟩ := fun o j => by unfold Addr.add; split <;> simp_all
      refine .inr ⟨b, off, rfl, ?_, fun i hi => ?_⟩
      · rw [ea, ea] at h0
        exact cell_lt2 h0
      · have h1 := hq i (by omega)
        rw [ea, ea, ea] at h1
        exact h1

theorem InetOrder_walk (a : Option Addr) (len cap : Nat) (s : ByteArray) (a2 : Int) (W : World) (h : IsPairs W a len) (w1 : s.size ≤ maxLen) (w2 : (Lit.int .i64 a2).wf = true) :
    Calls Try.prog 5 #[.slice a len cap, .string s, .int .i64 a2] W fun e w' => e = .returned (.bool true) ∧ Below W.heap.size W w' := by
  obtain ⟨hl, U, V, hat⟩ := h
  unfold maxLen at hl w1
  by_cases h1 : len ≤ 500
  · by_cases h2 : s.size ≤ 1000
    · exact order_walk a len cap s a2 W h1 h2 U V hat
    · go_enter Try.func5, Try.ntmps5
      go_wp2_with fail
      refine (works_any _).mono ?_
      rintro e w1 ⟨rfl, h1⟩
      go_wp2_with fail
      go_ret
      exact ⟨rfl, h1⟩
  · go_enter Try.func5, Try.ntmps5
    go_wp2_with fail
    refine (works_any _).mono ?_
    rintro e w1 ⟨rfl, h1⟩
    go_wp2_with fail
    go_ret
    exact ⟨rfl, h1⟩
end Go.Proofs.Ytjfmdfmfefjhnaa.Inet
