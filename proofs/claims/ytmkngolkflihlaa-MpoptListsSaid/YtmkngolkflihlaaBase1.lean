/- Small facts that the walks over numbers as bytes share. -/
import Derived.Test.YtmkngolkflihlaaRows
import Derived.Test.YtmkngolkflihlaaMath1
import Derived.WalkKit
import Derived.ProofKit
import Derived.OpenShut
import Derived.ShutString
import Derived.Below
import Derived.Lib.Hide
import Derived.WalkLawsBesides
import Derived.WalkSpells
import Derived.Laws.IdiomStrings
import Derived.Laws.Bits64
import Derived.Laws.Bits64b
namespace Go.Proofs.Ytmkngolkflihlaa.Oct
open Go.ChangeShapes Go.WideShapes Go.ChangeAt Go.RowKit
set_option linter.unusedVariables false

theorem run_one_byte (v : Int) (w : World) : (convert 72 9 (.slice (some ⟨w.heap.size, 0, none⟩) 1 1)).run Try.prog (w.alloc (.cells #[.int .u8 v] 5)) =
    .ok (.string ⟨#[UInt8.ofNat v.toNat]⟩) (w.alloc (.cells #[.int .u8 v] 5)) := by
  rw [run_convert_bytes_arg (w.alloc (.cells #[.int .u8 v] 5)) 72 5 Try.underlying72 Try.underlying5 w.heap.size 0 1 1 [v] rfl (fun i hi => by
    obtain rfl : i = 0 := by omega
    rw [World.cell?_alloc_mark]; rfl) 9 Try.underlying9]
  rfl

theorem byte_of (m : Nat) : UInt8.ofNat ((m : Int) % 256).toNat = UInt8.ofNat m := by
  apply UInt8.toNat_inj.1
  simp only [UInt8.toNat_ofNat']
  omega

theorem byte_of' (m : Nat) : UInt8.ofNat (m % 256) = UInt8.ofNat m := by
  apply UInt8.toNat_inj.1
  simp only [UInt8.toNat_ofNat']
  omega

theorem bs_append (a b : List UInt8) : (ByteArray.mk a.toArray ++ ByteArray.mk b.toArray) = ByteArray.mk (a ++ b).toArray := by
  apply ByteArray.ext
  rw [ByteArray.data_append]
  simp

theorem wrap_u64_num (n : Int) : Value.int .u64 (IntKind.u64.wrap n) = Value.int .u64 ((nat64 n / 256 ^ 0 : Nat) : Int) := by
  rw [IntKind.wrap_u64, Nat.pow_zero, Nat.div_one, u64_cast]

theorem num_once (n : Nat) : Value.int .u64 (n : Int) = Value.int .u64 ((n / 256 ^ 0 : Nat) : Int) := by
  rw [Nat.pow_zero, Nat.div_one]

/-- cell j of the eight, behind k rounds -/
def lowCell (n h k j : Nat) : Int := if h - k ≤ j ∧ j < h then ((n / 256 ^ (h - 1 - j) % 256 : Nat) : Int) else 0

/-- the eight cells of the array that Put fills from its end on -/
def LowRow (n h k B : Nat) (w : World) : Prop :=
  (∀ j : Nat, j < 8 → w.cell? ⟨B, j, none⟩ = some (.int .u8 (lowCell n h k j))) ∧ ∀ j : Nat, j < 8 → w.frozen? ⟨B, j, none⟩ = false

theorem lowCell_zero (n h j : Nat) : lowCell n h 0 j = 0 := by unfold lowCell; rw [if_neg (by omega)]

theorem LowRow.start (n h : Nat) (w : World) (t : TypeId) (hw : w.frozen? ⟨w.heap.size, 0, none⟩ = false ∨ True) :
    LowRow n h 0 w.heap.size (w.alloc (.cells #[.int .u8 0, .int .u8 0, .int .u8 0, .int .u8 0, .int .u8 0, .int .u8 0, .int .u8 0, .int .u8 0] t)) := by
  refine ⟨fun j hj => ?_, fun j hj => ?_⟩
  · rw [World.cell?_alloc_mark, lowCell_zero]
    have : j = 0 ∨ j = 1 ∨ j = 2 ∨ j = 3 ∨ j = 4 ∨ j = 5 ∨ j = 6 ∨ j = 7 := by omega
    rcases this with rfl | rfl | rfl | rfl | rfl | rfl | rfl | rfl <;> rfl
  · have := World.frozen?_alloc_mark w #[.int .u8 0, .int .u8 0, .int .u8 0, .int .u8 0, .int .u8 0, .int .u8 0, .int .u8 0, .int .u8 0] t 0 0 j
    rw [this]; simp

theorem LowRow.step {n h k p B : Nat} {w : World} (hr : LowRow n h k B w) (hp : p + k + 1 = h) (h8 : h ≤ 8) (v : Int) (hv : v = ((n / 256 ^ k % 256 : Nat) : Int)) :
    LowRow n h (k + 1) B (w.setCell ⟨B, p, none⟩ (.int .u8 v)) := by
  refine ⟨fun j hj => ?_, fun j hj => by rw [World.frozen?_setCell]; exact hr.2 j hj⟩
  by_cases hjp : j = p
  · subst hjp
    rw [World.cell?_setCell_same _ _ _ (hr.1 j hj), hv]
    unfold lowCell
    rw [if_pos (by omega), show h - 1 - j = k by omega]
  · rw [World.cell?_setCell_other _ _ _ _ (fun e => hjp (by simpa using (congrArg Addr.off e).symm)), hr.1 j hj]
    unfold lowCell
    by_cases hc : h - k ≤ j ∧ j < h
    · rw [if_pos hc, if_pos (by omega)]
    · rw [if_neg hc, if_neg (by omega)]

theorem be_get (n h j : Nat) (hj : j < (be n h).length) : (be n h)[j] = UInt8.ofNat (n / 256 ^ (h - 1 - j)) := by
  induction h generalizing j with
  | zero => simp at hj
  | succ h ih =>
    have hc := be_cons n h
    have : (be n (h + 1))[j]? = (UInt8.ofNat (n / 256 ^ h) :: be n h)[j]? := by rw [hc]
    rw [List.getElem?_eq_getElem hj] at this
    cases j with
    | zero => simpa using this
    | succ j =>
      have hj' : j < (be n h).length := by simp at hj ⊢; omega
      rw [List.getElem?_cons_succ, List.getElem?_eq_getElem hj', ih j hj'] at this
      rw [Option.some.inj this, show h + 1 - 1 - (j + 1) = h - 1 - j by omega]

theorem LowRow.finish {n h B : Nat} {w : World} (hr : LowRow n h h B w) (h8 : h ≤ 8) (j : Nat) (hj : j < (be n h).length) :
    w.cell? ((⟨B, 0, none⟩ : Addr).add j) = some (.int .u8 ((be n h)[j].toNat : Int)) := by
  have hj' : j < h := by simpa using hj
  have ha : (⟨B, 0, none⟩ : Addr).add j = ⟨B, j, none⟩ := by unfold Addr.add; split <;> simp_all
  rw [ha, hr.1 j (by omega), be_get]
  unfold lowCell
  rw [if_pos (by omega)]
  simp

/-- what the conversion of a text to bytes lays, and how many places it has -/
def newCap (w : World) (x : ByteArray) : Nat := grownCap w x.size 0 5
def newRow1 (w : World) (x : ByteArray) : Obj := .cells (bytesRow x (newCap w x)) 5 ((bytesRow x (newCap w x)).size, (bytesRow x (newCap w x)).size + 1)

theorem run_bytes_new (x : ByteArray) (w : World) :
    (convert 9 72 (.string x)).run Try.prog w = .ok (.slice (some ⟨w.heap.size, 0, none⟩) x.size (newCap w x)) (w.drew.alloc (newRow1 w x)) :=
  run_bytes_of_string w 9 72 5 x Try.underlying9 Try.underlying72 Try.underlying5

theorem newRow1_cell (x : ByteArray) (w : World) (j : Nat) (hj : j < x.size) :
    (w.alloc (newRow1 w x)).drew.cell? ⟨w.heap.size, j, none⟩ = some (.int .u8 (x[j].toNat : Int)) := by
  have := World.cell?_alloc_mark w (bytesRow x (newCap w x)) 5 ((bytesRow x (newCap w x)).size, (bytesRow x (newCap w x)).size + 1) j
  rw [bytesRow_at x _ j hj] at this
  exact this

/-- what Of's loop goes over: the last eight bytes of s, in a new row -/
def OfReady (s : ByteArray) (w : World) (sl n i : Value) (wx : World) : Prop :=
  ∃ (x : ByteArray) (c : Nat), whole x = whole s ∧ x.size ≤ 8 ∧ sl = .slice (some ⟨w.heap.size, 0, none⟩) x.size c ∧ n = .int .i64 x.size ∧ i = .int .i64 0 ∧
    (∀ j (hj : j < x.size), wx.cell? ⟨w.heap.size, j, none⟩ = some (.int .u8 (x[j].toNat : Int))) ∧ Below w.heap.size w wx

theorem ofReady_all (s : ByteArray) (w : World) (h8 : s.size ≤ 8) :
    OfReady s w (.slice (some ⟨w.heap.size, 0, none⟩) s.size (newCap w s)) (.int .i64 s.size) (.int .i64 0) (w.alloc (newRow1 w s)).drew :=
  ⟨s, _, rfl, h8, rfl, rfl, rfl, fun j hj => newRow1_cell s w j hj, ((Below.refl _ _).alloc (Nat.le_refl _) _).drew⟩

theorem ofReady_cut (s : ByteArray) (w : World) :
    OfReady s w (.slice (some ⟨w.heap.size, 0, none⟩) (s.size - ((s.size : Int) - 8).toNat) (newCap w (s.extract ((s.size : Int) - 8).toNat s.size)))
      (.int .i64 ((s.size - ((s.size : Int) - 8).toNat : Nat) : Int)) (.int .i64 0) (w.alloc (newRow1 w (s.extract ((s.size : Int) - 8).toNat s.size))).drew := by
  have hz : (s.extract ((s.size : Int) - 8).toNat s.size).size = s.size - ((s.size : Int) - 8).toNat := by simp
  refine ⟨s.extract ((s.size : Int) - 8).toNat s.size, _, whole_extract s, extract_size s, by rw [hz], by rw [hz], rfl, fun j hj => newRow1_cell _ w j hj, ((Below.refl _ _).alloc (Nat.le_refl _) _).drew⟩

theorem or_step (m v : Nat) (hv : v < 256) : bits .or .u64 (IntKind.u64.wrap ((m : Int) * 256)) (v : Int) = ((256 * m + v) % 18446744073709551616 : Nat) := by
  have h1 : IntKind.u64.wrap ((m : Int) * 256) = ((m % 72057594037927936 * 256 : Nat) : Int) := by rw [IntKind.wrap_u64]; omega
  rw [h1, bits_or_u64_nat _ _ (by omega) (by omega)]
  have h2 : m % 72057594037927936 * 256 ||| v = m % 72057594037927936 * 256 + v := by
    have := Nat.shiftLeft_add_eq_or_of_lt (i := 8) (show v < 2 ^ 8 from hv) (m % 72057594037927936)
    rw [Nat.shiftLeft_eq] at this
    exact this.symm
  rw [h2]
  omega

theorem fits_u16 {n : Int} (h : (Lit.int .u16 n).wf = true) : 0 ≤ n ∧ n ≤ 65535 := by
  simp [Lit.wf] at h; exact h
theorem fits_u32 {n : Int} (h : (Lit.int .u32 n).wf = true) : 0 ≤ n ∧ n ≤ 4294967295 := by
  simp [Lit.wf] at h; exact h
theorem fits_u64 {n : Int} (h : (Lit.int .u64 n).wf = true) : 0 ≤ n ∧ n ≤ 18446744073709551615 := by
  simp [Lit.wf] at h; exact h
theorem fits_i64 {n : Int} (h : (Lit.int .i64 n).wf = true) : -9223372036854775808 ≤ n ∧ n ≤ 9223372036854775807 := by
  simp [Lit.wf] at h; exact h

end Go.Proofs.Ytmkngolkflihlaa.Oct
