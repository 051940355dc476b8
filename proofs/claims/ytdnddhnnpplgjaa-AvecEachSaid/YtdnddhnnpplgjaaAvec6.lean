/- The document's own answers: runs as bytes, and what bytes say. -/
import Derived.Test.YtdnddhnnpplgjaaAvec5
import Derived.ArgAppend
import Derived.Deep.RegionLaw
import Derived.Deep.RegionHeld3
namespace Go.Proofs.Ytdnddhnnpplgjaa.Avec
open Go.ChangeShapes Go.WideShapes Go.ChangeAt Go.RowKit
open Go.Proofs.Ytdnddhnnpplgjaa.Oct (run_one_byte bs_append)
set_option linter.unusedVariables false

theorem run_one_drew (v : Int) (w : World) : (convert 43 9 (.slice (some ⟨w.heap.size, 0, none⟩) 1 1)).run Try.prog (w.alloc (.cells #[.int .u8 v] 5)).drew =
    .ok (.string ⟨#[UInt8.ofNat v.toNat]⟩) (w.alloc (.cells #[.int .u8 v] 5)).drew := by
  rw [run_convert_bytes_arg (w.alloc (.cells #[.int .u8 v] 5)).drew 43 5 Try.underlying43 Try.underlying5 w.heap.size 0 1 1 [v] rfl (fun i hi => by
    obtain rfl : i = 0 := by omega
    show (w.alloc (.cells #[.int .u8 v] 5)).cell? _ = _
    rw [World.cell?_alloc_mark]; rfl) 9 Try.underlying9]
  rfl

set_option maxRecDepth 100000 in
set_option maxHeartbeats 1000000 in
theorem refPut_any (l : List R) (hlen : l.length ≤ 5000) (a : Option Addr) (cap : Nat) (w : World) (h : RunsAt w a l) :
    Calls Try.prog 8 #[.slice a l.length cap] w fun e w' => e = .returned (.tuple #[.string (putOf l), .int .i64 (check l)]) ∧ Below w.heap.size w w' := by
  have H := Lib.hid h
  have Hp := Lib.hid (show putOf l = if check l = 0 then ⟨(bytesOf l).toArray⟩ else ⟨#[]⟩ from rfl)
  have Hcw := Lib.hid (@check_wrongs l)
  have Hck := Lib.hid (refCheck_any l hlen a cap w h)
  generalize check l = c at *
  clear h
  go_enter Try.func8, Try.ntmps8
  go_wp2_with fail
  refine Hck.out.mono ?_
  rintro e w1 ⟨rfl, h1⟩
  subst h1
  by_cases hc : c = 0
  · subst hc
    have Hw := Lib.hid (Hcw.out rfl).1
    go_wp2_with fail
    go_loopw [5, 6] (fun v i wr => ∃ k : Nat, k ≤ l.length ∧ i = .int .i64 k ∧ v = .string ⟨(bytesOf (l.take k)).toArray⟩ ∧ Below w1.heap.size w1 wr) (fun _ i _ => l.length - (intOf i).toNat)
    case atStart => exact ⟨0, by omega, rfl, rfl, Below.refl _ _⟩
    case round =>
      obtain ⟨k, hk, rfl, rfl, hb⟩ := hrel
      have hsz := hb.size
      by_cases hlt : k < l.length
      · obtain ⟨⟨q, n⟩, hi2⟩ := some_at hlt
        obtain ⟨b, off, rfl, hb0, hc0, hc1⟩ := H.out.cell (hb.mono (Nat.le_refl _)) hi2
        obtain ⟨hw1, hw2, hw3⟩ := wrongs_at Hw.out hi2
        dsimp only at hc0 hc1 hw1 hw2 hw3
        obtain ⟨hbc, hq0, hq3⟩ := byte_cell hw1 hw2 hw3
        have hbl := (byte1 ⟨q, n⟩).toNat_lt
        have hu : IntKind.u8.wrap (64 * q + n - 1) = ((byte1 ⟨q, n⟩).toNat : Int) := by rw [IntKind.wrap_u8', hbc]; omega
        have Ht := Lib.hid (show (ByteArray.mk (bytesOf (l.take (k + 1))).toArray) = ⟨(bytesOf (l.take k)).toArray⟩ ++ ⟨#[byte1 ⟨q, n⟩]⟩ by rw [take_at hi2]; show _ = ByteArray.mk _ ++ ByteArray.mk [byte1 ⟨q, n⟩].toArray; rw [bs_append]; simp [bytesOf])
        have hxl : (ByteArray.mk (bytesOf (l.take k)).toArray).size ≤ 5000 := by show (bytesOf (l.take k)).toArray.size ≤ 5000; rw [List.size_toArray, bytesOf_length, List.length_take]; omega
        have hob : (⟨#[byte1 ⟨q, n⟩]⟩ : ByteArray).size ≤ 1 := by show (#[byte1 ⟨q, n⟩] : Array UInt8).size ≤ 1; simp
        have hone := run_one_drew ((byte1 ⟨q, n⟩).toNat : Int)
        rw [show UInt8.ofNat ((byte1 ⟨q, n⟩).toNat : Int).toNat = byte1 ⟨q, n⟩ by simp] at hone
        have hone := hone wr
        clear hw1
        generalize (ByteArray.mk (bytesOf (l.take k)).toArray) = xs at *
        generalize hx : byte1 ⟨q, n⟩ = x at *
        clear hx
        generalize (⟨#[x]⟩ : ByteArray) = bx at *
        go_wp2_with fail
        go_region
        all_goals (
          go_wp2_with fail
          refine ⟨⟨k + 1, by omega, by go_num, by rw [Ht.out], (hb.alloc hsz _).drew⟩, by simp [intOf]; omega⟩)
      · obtain rfl : k = l.length := by omega
        rw [List.take_length]
        go_wp2_with fail
        go_returns
        exact ⟨by rw [Hp.out]; rfl, hb⟩
  · have hc1 : (c == 0) = false := by simp [hc]
    go_wp2_with fail
    go_returns
    exact ⟨by rw [Hp.out, if_neg hc]; rfl, Below.refl _ _⟩
theorem step_append_own {P : Program} {ops : Array Oper} {o : Oper} {a : Act} {w : World} {K : Act → World → Prop} {Q : Exit → Act → World → Prop} {E : Prop} (hgd : o.guard = none) (s x : Operand) (t : TypeId)
    (ho : o.op = .call { callee := .builtin .append, args := #[s, x], argTypes := #[t, t] })
    (base : Nat) (e : TypeId) (i : TypeInfo) (z : Value) (size bytes : Nat) (ht : P.underlying t = some (.slice e)) (hi : P.info? e = some i) (hz : i.zero = some z)
    (hsize : i.size = size) (hby : i.bytes = bytes) (hzs : z.cells.size = size) (hsz : 0 < size)
    (v : Value) (n : Nat) (xs : List Value) (hs : a.eval s = v) (hown : w.ownsRow base e size v n xs)
    (ad : Addr) (m c : Nat) (news : List Value) (hx : a.eval x = .slice (some ad) m c) (hl : news.length = m * size) (hnews : ∀ j u, news[j]? = some u → w.cell? (ad.add j) = some u) (h1 : ∀ u ∈ news, u.oneCell' = true)
    (h63 : n + m ≤ maxLen) (hbytes : (n + m) * bytes ≤ 140737488355328) (hbase : base ≤ w.heap.size)
    (h : ∀ v' w', w'.ownsRow base e size v' (n + m) (xs ++ news) → w.grownBy w' v.ownBlock → K (a.put o.dst v') w') :
    if Region.wanted o (yielded ops a.tmps) = true then Oper.wp P o a w K Q else E := by
  have hw : Region.wanted o (yielded ops a.tmps) = true := by simp [Region.wanted, hgd]
  rw [if_pos hw]
  obtain ⟨v', w', hrun, r1, r2, -⟩ := run_append_own (P := P) w base t o.type e i z size bytes ht hi hz hsize hby hzs hsz v n xs hown ad m c news hl hnews h1 h63 hbytes hbase
  unfold Oper.wp
  simp [execOp, ho, resolve, invoke, builtin, hs, hx, hrun, Result.andThen]
  exact h v' w' r1 r2
theorem nest_state (b : UInt8) : IntKind.i64.wrap ((IntKind.i64.wrap (b.toNat : Int)).tdiv 64) = (run1 b).state ∧ IntKind.i64.wrap ((IntKind.i64.wrap (b.toNat : Int)).tmod 64 + 1) = (run1 b).many := by
  have := b.toNat_lt
  rw [IntWalk.i64_in (b.toNat : Int) (by omega), Int.tdiv_eq_ediv_of_nonneg (by omega), Int.tmod_eq_emod_of_nonneg (by omega), IntWalk.i64_in _ (by omega), IntWalk.i64_in _ (by omega)]
  exact ⟨rfl, rfl⟩
theorem one2 (x y : Int) : ∀ u ∈ [Value.int .i64 x, Value.int .i64 y], u.oneCell' = true := by intro u hu; simp at hu; rcases hu with rfl | rfl <;> rfl
theorem own_heap {wr W : World} {base : Nat} {e : TypeId} {size : Nat} {v : Value} {n : Nat} {xs : List Value} (hown : wr.ownsRow base e size v n xs) (h : W.heap = wr.heap) : W.ownsRow base e size v n xs := by
  unfold World.ownsRow at *
  rw [h]; exact hown
theorem new2_heap {wr W : World} (x y : Value) (t : TypeId) (h : W.heap = (wr.alloc (.cells #[x, y] t)).heap) : ∀ j u, [x, y][j]? = some u → W.cell? ((⟨wr.heap.size, 0, none⟩ : Addr).add j) = some u := by
  intro j u hj
  have := cell_two_new wr x y t j u hj
  unfold World.cell? at *
  rw [h]; exact this

set_option maxRecDepth 100000 in
set_option maxHeartbeats 1000000 in
theorem refGet_any (s : ByteArray) (hs : s.size ≤ 5000) (w : World) :
    Calls Try.prog 10 #[.string s] w (GetPost s w) := by
  obtain ⟨i0, hi, hz0, hz1, hz2⟩ := info_parts infoRun
  have Hrl := Lib.hid (runsOf_length s)
  go_enter Try.func10, Try.ntmps10
  go_wp2_with fail
  go_loopw [4, 5] (fun v i wr => ∃ k : Nat, k ≤ s.size ∧ i = .int .i64 k ∧ Runs wr w.heap.size v ((runsOf s).take k) ∧ Below w.heap.size w wr) (fun _ i _ => s.size - (intOf i).toNat)
  case atStart => exact ⟨0, by omega, rfl, Runs.nil _ _, Below.refl _ _⟩
  case round =>
    obtain ⟨k, hk, rfl, hown, hb⟩ := hrel
    have hsz := hb.size
    by_cases hlt : k < s.size
    · have hg : s.data.toList[k]? = some s[k] := by rw [List.getElem?_eq_getElem (by rw [Array.length_toList]; exact hlt)]; rfl
      have Ht := Lib.hid (runsOf_snoc hg)
      have hbl := s[k].toNat_lt
      have hxl : ((runsOf s).take k).length ≤ 5000 := by have := Hrl.out; rw [List.length_take]; omega
      have hml : ((runsOf s).take k).length + 1 ≤ maxLen := by unfold maxLen; omega
      generalize (runsOf s).take k = xs at *
      clear hg
      have hkk0 : (0 : Int) ≤ (k : Int) := by omega
      have hkk : (k : Int) < (s.size : Int) := by omega
      go_wp2_with fail
      go_region_held3 (fun _ => True) (trivial) (first | (refine step_append_own (by rfl) _ _ _ (by rfl) w.heap.size 45 i0 (.agg #[.int .i64 0, .int .i64 0]) 2 16 Try.underlying22 hi hz0 hz1 hz2 rfl (by decide) _ _ _ (by rfl) (own_heap (wr := wr.alloc (.cells #[.int .i64 (IntKind.i64.wrap ((IntKind.i64.wrap (s[k].toNat : Int)).tdiv 64)), .int .i64 (IntKind.i64.wrap ((IntKind.i64.wrap (s[k].toNat : Int)).tmod 64 + 1))] 45)) (World.ownsRow.alloc hown _) (by rfl)) ⟨wr.heap.size, 0, none⟩ 1 1 _ (by rfl) (by rfl) (new2_heap (wr := wr) (.int .i64 (IntKind.i64.wrap ((IntKind.i64.wrap (s[k].toNat : Int)).tdiv 64))) (.int .i64 (IntKind.i64.wrap ((IntKind.i64.wrap (s[k].toNat : Int)).tmod 64 + 1))) 45 (by rfl)) (one2 _ _) hml (by omega) (by simp; omega) ?_; intro v' w1 hown1 hgrow))
      all_goals (
        rw [(nest_state s[k]).1, (nest_state s[k]).2] at hown1
        have hp := Lib.hid (runs_push (o := .cells #[.int .i64 (IntKind.i64.wrap ((IntKind.i64.wrap (s[k].toNat : Int)).tdiv 64)), .int .i64 (IntKind.i64.wrap ((IntKind.i64.wrap (s[k].toNat : Int)).tmod 64 + 1))] 45) hsz hown hb hown1 ⟨hgrow.os, hgrow.tape, hgrow.output, hgrow.size, hgrow.block⟩)
        clear hown1 hgrow hown hb
        go_wp2_with fail
        refine ⟨⟨k + 1, by omega, by go_num, by rw [Ht.out]; exact hp.out.1, hp.out.2⟩, by simp [intOf]; omega⟩)
    · obtain rfl : k = s.size := by omega
      rw [List.take_of_length_le (by have := Hrl.out; omega)] at hown
      obtain ⟨a, cap, rfl, hat⟩ := hown.at
      have Hg := Lib.hid (show getOf s = if check (runsOf s) = 0 then runsOf s else [] from rfl)
      have Hck := Lib.hid (refCheck_any (runsOf s) (by have := Hrl.out; omega) a cap wr hat)
      have Hat := Lib.hid hat
      have HP := Lib.hid (show ∀ a cap w', RunsAt w' a (getOf s) → Below w.heap.size w w' → GetPost s w (.returned (.tuple #[.slice a (getOf s).length cap, .int .i64 (check (runsOf s))])) w' from fun a cap w' h1 h2 => ⟨a, cap, rfl, h1, h2⟩)
      generalize check (runsOf s) = c at *
      generalize getOf s = G at *
      clear hown hat
      go_wp2_with fail
      refine Hck.out.mono ?_
      rintro e w1 ⟨rfl, h1⟩
      subst h1
      by_cases hc : c = 0
      · subst hc
        have Hg := Lib.hid (show G = runsOf s by rw [Hg.out]; rfl)
        go_wp2_with fail
        go_returns
        have := HP.out a cap w1 (by rw [Hg.out]; exact Hat.out) hb
        rw [Hg.out] at this
        exact this
      · have hc1 : (c == 0) = false := by simp [hc]
        have Hg := Lib.hid (show G = [] by rw [Hg.out, if_neg hc])
        go_wp2_with fail
        go_returns
        have := HP.out none 0 w1 (.inl Hg.out) hb
        rw [Hg.out] at this
        exact this
end Go.Proofs.Ytdnddhnnpplgjaa.Avec
