/- Whether two packets are the same: the contracts of both. -/
import Derived.Test.YtkjojfcknfhkhaaPktR4
import Derived.Test.YtkjojfcknfhkhaaStep
import Derived.Laws.StructEq
import Derived.Deep.QuietTactic
import Derived.BigQuiet
namespace Go.Proofs.Ytkjojfcknfhkhaa.Pkt
open Go.ChangeShapes Go.WideShapes Go.ChangeAt Go.RowKit
open Go.Proofs.Ytkjojfcknfhkhaa.Opt (O OptsAt)
set_option linter.unusedVariables false

open Classical in
/-- are two packets the same -/
noncomputable def same (p q : K) : Bool := decide (p = q)
theorem same_true {p q : K} (h : p = q) : same p q = true := by unfold same; simp [h]
theorem same_false {p q : K} (h : ¬ p = q) : same p q = false := by unfold same; simp [h]

theorem toList_inj {a b : ByteArray} (h : a.toList = b.toList) : a = b := by
  rw [ByteArray.toList_eq, ByteArray.toList_eq] at h
  exact Opt.ext_l h
theorem bytes_ne {a b : ByteArray} (h : ¬ a = b) : (a.toList == b.toList) = false := by
  rw [beq_eq_false_iff_ne]; exact fun e => h (toList_inj e)

set_option maxRecDepth 100000 in
theorem eqIn_opt (d : Nat) (k1 k2 : Int) (v1 v2 : ByteArray) (w : World) : (Op.equalIn (d + 2) 57 (.agg #[.int .i64 k1, .string v1]) (.agg #[.int .i64 k2, .string v2])).run Try.prog w = .ok ((k1 == k2) && (v1.toList == v2.toList)) w := by
  have hu := Try.underlying57
  have hi : Try.prog.cellsOf 3 = 1 := by kernel_rfl
  have hb : Try.prog.cellsOf 9 = 1 := by kernel_rfl
  rw [run_equalIn_struct w (d + 1) 57 _ _ (by simp [Program.fieldsOf, hu]) (by kernel_rfl)]
  have e1 := fun (a b : Int) (w : World) => run_equalIn_int (P := Try.prog) w d 3 .i64 .i64 a b Try.underlying3
  have e2 := fun (a b : ByteArray) (w : World) => run_equalIn_string (P := Try.prog) w d 9 a b Try.underlying9
  cases h1 : (k1 == k2) <;> cases h2 : (v1.toList == v2.toList) <;> simp_all [Program.fieldsOf, Op.eqFields, go_sem]
theorem neq_opt (o1 o2 : O) (w : World) (b : Bool) (h : (if o1.kind = o2.kind ∧ o1.value = o2.value then false else true) = b) : (binOp .neq 57 (.agg #[.int .i64 o1.kind, .string o1.value]) (.agg #[.int .i64 o2.kind, .string o2.value])).run Try.prog w = .ok (.bool b) w := by
  have e : (Op.equalIn 10000 57 (.agg #[.int .i64 o1.kind, .string o1.value]) (.agg #[.int .i64 o2.kind, .string o2.value])).run Try.prog w = .ok ((o1.kind == o2.kind) && (o1.value.toList == o2.value.toList)) w := eqIn_opt 9998 _ _ _ _ w
  rw [run_neq_struct, e, ← h]
  by_cases h1 : o1.kind = o2.kind
  · by_cases h2 : o1.value = o2.value
    · simp [h1, h2]
    · have := bytes_ne h2
      simp [h1, h2, this]
  · have h1' : (o1.kind == o2.kind) = false := by simpa using h1
    simp [h1]

set_option maxRecDepth 100000 in
set_option maxHeartbeats 4000000 in
theorem equal_any (l m : List O) (hl : l.length ≤ 3000) (hm : m.length ≤ 3000) (a b : Option Addr) (cap cap2 : Nat) (w : World) (h : OptsAt w a l) (h2 : OptsAt w b m) :
    Calls Try.prog 38 #[.slice a l.length cap, .slice b m.length cap2] w fun e w' => (∃ r, e = .returned (.bool r) ∧ (r = true ↔ l = m)) ∧ Below w.heap.size w w' := by
  have H := Lib.hid h
  have H2 := Lib.hid h2
  clear h h2
  by_cases hlen : l.length = m.length
  case neg =>
    have hb : ((l.length : Int) != (m.length : Int)) = true := by simp; omega
    go_enter Try.func38, Try.ntmps38
    go_wp2_with fail
    go_returns
    exact ⟨⟨false, rfl, by simp; exact fun e => hlen (by rw [e])⟩, Below.refl _ _⟩
  have hb : ((l.length : Int) != (m.length : Int)) = false := by simp; omega
  go_enter Try.func38, Try.ntmps38
  go_wp2_with fail
  go_loopw [13] (fun i wr => ∃ k : Nat, k ≤ l.length ∧ i = .int .i64 k ∧ (l.drop k = m.drop k ↔ l = m) ∧ Below w.heap.size w wr) (fun i _ => l.length - (intOf i).toNat)
  case atStart => exact ⟨0, by omega, rfl, by simp, Below.refl _ _⟩
  case round =>
    obtain ⟨k, hk, rfl, hd, hB⟩ := hrel
    by_cases hlt : k < l.length
    · obtain ⟨x, hi⟩ := Opt.some_at hlt
      obtain ⟨y, hj⟩ := Opt.some_at (show k < m.length by omega)
      obtain ⟨ba, off, rfl, hb0, hc0, hc1⟩ := H.out.cell hB hi
      obtain ⟨bb, off2, rfl, hb20, hc20, hc21⟩ := H2.out.cell hB hj
      have e1 := Opt.drop_at hi
      have e2 := Opt.drop_at hj
      rw [e1, e2] at hd
      have g1 : (0 : Int) ≤ (k : Int) := by omega
      have g2 : (k : Int) < (l.length : Int) := by omega
      have g3 : (k : Int) < (m.length : Int) := by omega
      have Hb := Lib.hid (fun n => Opt.below_drewN hB n)
      clear hB e1 e2
      by_cases hxy : x.kind = y.kind ∧ x.value = y.value
      · have hq := fun w => neq_opt x y w false (if_pos hxy)
        have hx : x = y := by cases x; cases y; simp at hxy; rw [hxy.1, hxy.2]
        have hd2 := Lib.hid (show l.drop (k + 1) = m.drop (k + 1) ↔ l = m by rw [← hd, hx]; simp)
        clear hd hxy hx
        go_wp2_with fail
        go_quiet (fail)
        go_wp2_with fail
        exact ⟨⟨k + 1, by omega, by go_num, hd2.out, Hb.out _⟩, by simp [intOf]; omega⟩
      · have hq := fun w => neq_opt x y w true (if_neg hxy)
        have hne : ¬ l = m := fun e => hxy (by have := hd.2 e; simp at this; rw [this.1]; exact ⟨rfl, rfl⟩)
        have Hne := Lib.hid hne
        clear hd hxy hne
        go_wp2_with fail
        go_quiet (fail)
        go_wp2_with fail
        go_returns
        exact ⟨⟨false, rfl, by simp; exact Hne.out⟩, Hb.out _⟩
    · obtain rfl : k = l.length := by omega
      have he : l = m := hd.1 (by rw [List.drop_length, hlen, List.drop_length])
      have He := Lib.hid he
      clear hd he
      go_wp2_with fail
      go_returns
      exact ⟨⟨true, rfl, by simp; exact He.out⟩, hB⟩

end Go.Proofs.Ytkjojfcknfhkhaa.Pkt
