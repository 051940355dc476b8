/- The program's cut: each read, in whatever state the cut is. -/
import Derived.Test.YtmkngolkflihlaaCutB
namespace Go.Proofs.Ytmkngolkflihlaa.Oct
open Go.ChangeShapes Go.WideShapes Go.ChangeAt Go.RowKit
set_option linter.unusedVariables false

/-- what a read of n bytes leaves as the failure -/
def fellOf (left : ByteArray) (fail n : Int) : Int := if fail ≠ 0 then fail else if n < 0 then 3 else if (left.size : Int) < n then 1 else 0
/-- what it reads -/
def gotOf (left : ByteArray) (fail n : Int) : ByteArray := if fellOf left fail n = 0 then left.extract 0 n.toNat else ⟨#[]⟩
/-- what it leaves unread -/
def stayOf (left : ByteArray) (fail n : Int) : ByteArray := if fellOf left fail n = 0 then left.extract n.toNat left.size else left
/-- the failure ahead of a read of a number -/
def fell1 (fail size : Int) : Int := if fail ≠ 0 then fail else if size < 1 ∨ 7 < size then 3 else 0
/-- what is told in the end -/
def doneOf (left : ByteArray) (fail : Int) : Int := if fail = 0 ∧ left.size ≠ 0 then 2 else fail

theorem stay_size (left : ByteArray) (fail n : Int) : (stayOf left fail n).size ≤ left.size := by
  unfold stayOf; split <;> simp
theorem got_size (left : ByteArray) (fail n : Int) : (gotOf left fail n).size ≤ left.size := by
  unfold gotOf; split
  · simp; omega
  · exact Nat.zero_le _

/-- the two cells of a cut -/
structure CutAt (w : World) (b : Nat) (left : ByteArray) (fail : Int) : Prop where
  c0 : w.cell? ⟨b, 0, none⟩ = some (.string left)
  c1 : w.cell? ⟨b, 1, none⟩ = some (.int .i64 fail)
  z0 : w.frozen? ⟨b, 0, none⟩ = false
  z1 : w.frozen? ⟨b, 1, none⟩ = false

/-- Of what was there, block b alone may have turned. -/
structure Touch (b : Nat) (w w' : World) : Prop where
  os : w'.os = w.os
  tape : w'.tape = w.tape
  output : w'.output = w.output
  size : w.heap.size ≤ w'.heap.size
  block : ∀ k, k < w.heap.size → k ≠ b → w'.heap[k]? = w.heap[k]?

theorem Touch.refl (b : Nat) (w : World) : Touch b w w := ⟨rfl, rfl, rfl, Nat.le_refl _, fun _ _ _ => rfl⟩
theorem Touch.trans {b : Nat} {x y z : World} (h : Touch b x y) (k : Touch b y z) : Touch b x z :=
  ⟨k.os.trans h.os, k.tape.trans h.tape, k.output.trans h.output, Nat.le_trans h.size k.size, fun i hi hb => (k.block i (Nat.lt_of_lt_of_le hi h.size) hb).trans (h.block i hi hb)⟩
theorem Touch.set (b o : Nat) (w : World) (v : Value) : Touch b w (w.setCell ⟨b, o, none⟩ v) :=
  ⟨rfl, rfl, rfl, by simp [World.setCell], fun k _ hk => Below.heap_setCell _ _ _ _ hk⟩
theorem Touch.below {b : Nat} {w w' : World} (h : Below w.heap.size w w') : Touch b w w' :=
  ⟨h.os, h.tape, h.output, h.size, fun k hk _ => h.block k hk⟩
theorem Touch.toBelow {b B : Nat} {w w' : World} (h : Touch b w w') (hb : B ≤ b) (hB : B ≤ w.heap.size) : Below B w w' :=
  ⟨h.os, h.tape, h.output, h.size, fun k hk => h.block k (by omega) (by omega)⟩

theorem CutAt.lt {w : World} {b : Nat} {left : ByteArray} {fail : Int} (h : CutAt w b left fail) : b < w.heap.size := by
  rcases Nat.lt_or_ge b w.heap.size with h' | h'
  · exact h'
  · have := h.c0
    unfold World.cell? at this
    rw [Array.getElem?_eq_none h'] at this
    simp at this

theorem CutAt.of_block {w w' : World} {b : Nat} {left : ByteArray} {fail : Int} (h : CutAt w b left fail) (e : w'.heap[b]? = w.heap[b]?) : CutAt w' b left fail :=
  ⟨(World.cell?_of_block (w := w) e).trans h.c0, (World.cell?_of_block (w := w) e).trans h.c1, (World.frozen?_of_block (w := w) e).trans h.z0, (World.frozen?_of_block (w := w) e).trans h.z1⟩

theorem CutAt.below {w w' : World} {b B : Nat} {left : ByteArray} {fail : Int} (h : CutAt w b left fail) (e : Below B w w') (hB : b < B) : CutAt w' b left fail :=
  h.of_block (e.block b hB)

theorem CutAt.set0 {w : World} {b : Nat} {left : ByteArray} {fail : Int} (h : CutAt w b left fail) (l : ByteArray) : CutAt (w.setCell ⟨b, 0, none⟩ (.string l)) b l fail :=
  ⟨World.cell?_setCell_same _ _ _ h.c0, by rw [World.cell?_setCell_other _ _ _ _ (by simp)]; exact h.c1, by rw [World.frozen?_setCell]; exact h.z0, by rw [World.frozen?_setCell]; exact h.z1⟩
theorem CutAt.set1 {w : World} {b : Nat} {left : ByteArray} {fail : Int} (h : CutAt w b left fail) (f : Int) : CutAt (w.setCell ⟨b, 1, none⟩ (.int .i64 f)) b left f :=
  ⟨by rw [World.cell?_setCell_other _ _ _ _ (by simp)]; exact h.c0, World.cell?_setCell_same _ _ _ h.c1, by rw [World.frozen?_setCell]; exact h.z0, by rw [World.frozen?_setCell]; exact h.z1⟩

/-- what is known behind a read -/
def ReadEnd (b : Nat) (left : ByteArray) (fail n : Int) (w : World) (e : Ending) (w' : World) : Prop :=
  e = .returned (.string (gotOf left fail n)) ∧ CutAt w' b (stayOf left fail n) (fellOf left fail n) ∧ Touch b w w'

theorem bytes_any (b : Nat) (left : ByteArray) (fail n : Int) (w : World) (hl : left.size ≤ 4000) (hc : CutAt w b left fail) :
    Calls Try.prog 37 #[.pointer (some ⟨b, 0, none⟩), .int .i64 n] w (ReadEnd b left fail n w) := by
  by_cases hf : fail = 0
  · subst hf
    by_cases hn : n < 0
    · have e1 : fellOf left 0 n = 3 := by unfold fellOf; simp [hn]
      refine (bytes_neg b n w hn hc.c1 hc.z1).mono ?_
      rintro e w' ⟨rfl, rfl⟩
      refine ⟨by unfold gotOf; rw [e1]; rfl, ?_, Touch.set _ _ _ _⟩
      have : stayOf left 0 n = left := by unfold stayOf; rw [e1]; rfl
      rw [this, e1]
      exact hc.set1 3
    · by_cases hs : (left.size : Int) < n
      · have e1 : fellOf left 0 n = 1 := by unfold fellOf; simp [hn, hs]
        refine (bytes_short b n left w hl hs hc.c0 hc.c1 hc.z1).mono ?_
        rintro e w' ⟨rfl, rfl⟩
        refine ⟨by unfold gotOf; rw [e1]; rfl, ?_, Touch.set _ _ _ _⟩
        have : stayOf left 0 n = left := by unfold stayOf; rw [e1]; rfl
        rw [this, e1]
        exact hc.set1 1
      · have e1 : fellOf left 0 n = 0 := by unfold fellOf; simp [hn, hs]
        obtain ⟨m, rfl⟩ := Int.eq_ofNat_of_zero_le (show 0 ≤ n by omega)
        refine (bytes_ok b m left w hl (by omega) hc.c0 hc.z0 hc.c1).mono ?_
        rintro e w' ⟨rfl, rfl⟩
        refine ⟨by unfold gotOf; rw [if_pos e1]; rfl, ?_, Touch.set _ _ _ _⟩
        have : stayOf left 0 m = left.extract m left.size := by unfold stayOf; rw [if_pos e1]; rfl
        rw [this, e1]
        exact hc.set0 _
  · have e1 : fellOf left fail n = fail := by unfold fellOf; rw [if_pos hf]
    refine (bytes_fell b n fail left w hl hc.c0 hc.c1 hf).mono ?_
    rintro e w' ⟨rfl, rfl⟩
    refine ⟨by unfold gotOf; rw [e1, if_neg hf], ?_, Touch.refl _ _⟩
    have : stayOf left fail n = left := by unfold stayOf; rw [e1, if_neg hf]
    rw [this, e1]
    exact hc

theorem done_any (b : Nat) (left : ByteArray) (fail : Int) (w : World) (hc : CutAt w b left fail) :
    Calls Try.prog 25 #[.pointer (some ⟨b, 0, none⟩)] w fun e w' => e = .returned (.int .i64 (doneOf left fail)) ∧ w = w' := by
  by_cases hf : fail = 0
  · subst hf
    by_cases hl : left.size = 0
    · have e1 : doneOf left 0 = 0 := by unfold doneOf; rw [if_neg (by simp [hl])]
      rw [e1]; exact done_ok b left w hc.c0 hc.c1 hl
    · have e1 : doneOf left 0 = 2 := by unfold doneOf; rw [if_pos ⟨rfl, hl⟩]
      rw [e1]; exact done_more b left w hc.c0 hc.c1 hl
  · have e1 : doneOf left fail = fail := by unfold doneOf; rw [if_neg (by simp [hf])]
    rw [e1]; exact done_fell b fail w hc.c1 hf

/-- what is known behind a read of a number -/
def NumEnd (b : Nat) (left : ByteArray) (fail n : Int) (w : World) (e : Ending) (w' : World) : Prop :=
  e = .returned (.int .i64 (wrap64 (whole (gotOf left (fell1 fail n) n)))) ∧ CutAt w' b (stayOf left (fell1 fail n) n) (fellOf left (fell1 fail n) n) ∧ Touch b w w'

/-- a read of bytes, and the number that they are -/
theorem num_close {b : Nat} {left : ByteArray} {fail n : Int} {w w0 w1 w2 : World} (h0 : Touch b w w0)
    (hr : CutAt w1 b (stayOf left fail n) (fellOf left fail n) ∧ Touch b w0 w1) (hb : Below w1.heap.size w1 w2) :
    CutAt w2 b (stayOf left fail n) (fellOf left fail n) ∧ Touch b w w2 :=
  ⟨hr.1.below hb hr.1.lt, (h0.trans hr.2).trans (Touch.below hb)⟩

theorem num_any (b : Nat) (left : ByteArray) (fail n : Int) (w : World) (hl : left.size ≤ 4000) (hc : CutAt w b left fail) :
    Calls Try.prog 24 #[.pointer (some ⟨b, 0, none⟩), .int .i64 n] w (NumEnd b left fail n w) := by
  unfold NumEnd
  have hc1 := hc.c1
  have hz := hc.z1
  have H1 := Lib.hid hc1
  have Hz := Lib.hid hz
  by_cases hn : n < 1 ∨ 7 < n
  · by_cases hf : fail = 0
    · subst hf
      have e1 : fell1 0 n = 3 := by unfold fell1; simp [hn]
      rw [e1]
      have hb := bytes_any b left 3 n (w.setCell ⟨b, 1, none⟩ (.int .i64 3)) hl (hc.set1 3)
      have Hb := Lib.hid hb
      clear hb hc hc1 hz
      rcases hn with hn | hn
      all_goals (
        go_enter Try.func24, Try.ntmps24
        go_wp2_with (first
          | (go_at_call 35; refine (stop_no b 3 _ H1.out Hz.out).mono ?_; rintro e w' ⟨rfl, rfl⟩)
          | (go_at_call 37; refine Hb.out.mono ?_; rintro e w' ⟨rfl, hr⟩; have Hr := Lib.hid hr; clear hr)
          | (go_at_call 36; refine (ofInt_any _ _ (by have := got_size left 3 n; omega)).mono ?_; rintro e w' ⟨rfl, hb2⟩))
        go_ret
        exact ⟨rfl, num_close (Touch.set _ _ _ _) Hr.out hb2⟩)
    · have e1 : fell1 fail n = fail := by unfold fell1; simp [hf]
      rw [e1]
      have hb := bytes_any b left fail n w hl hc
      have Hb := Lib.hid hb
      clear hb hc hc1 hz
      rcases hn with hn | hn
      all_goals (
        go_enter Try.func24, Try.ntmps24
        go_wp2_with (first
          | (go_at_call 35; refine (stop_yes b fail 3 _ H1.out hf).mono ?_; rintro e w' ⟨rfl, rfl⟩)
          | (go_at_call 37; refine Hb.out.mono ?_; rintro e w' ⟨rfl, hr⟩; have Hr := Lib.hid hr; clear hr)
          | (go_at_call 36; refine (ofInt_any _ _ (by have := got_size left fail n; omega)).mono ?_; rintro e w' ⟨rfl, hb2⟩))
        go_ret
        exact ⟨rfl, num_close (Touch.refl _ _) Hr.out hb2⟩)
  · have e1 : fell1 fail n = fail := by unfold fell1; rw [if_neg hn]; split <;> simp_all
    rw [e1]
    have hb := bytes_any b left fail n w hl hc
    have Hb := Lib.hid hb
    have hn1 : 1 ≤ n := by omega
    have hn7 : n ≤ 7 := by omega
    clear hb hc hc1 hz hn
    go_enter Try.func24, Try.ntmps24
    go_wp2_with (first
      | (go_at_call 37; refine Hb.out.mono ?_; rintro e w' ⟨rfl, hr⟩; have Hr := Lib.hid hr; clear hr)
      | (go_at_call 36; refine (ofInt_any _ _ (by have := got_size left fail n; omega)).mono ?_; rintro e w' ⟨rfl, hb2⟩))
    go_ret
    exact ⟨rfl, num_close (Touch.refl _ _) Hr.out hb2⟩

theorem numNil_any (n : Int) (w : World) :
    Calls Try.prog 24 #[.pointer none, .int .i64 n] w fun e w' => e = .returned (.int .i64 0) ∧ Below w.heap.size w w' := by
  by_cases hn : n < 1
  all_goals by_cases hn7 : 7 < n
  all_goals (
    go_enter Try.func24, Try.ntmps24
    go_wp2_with (first
      | (go_at_call 35; refine (stop_nil 3 _).mono ?_; rintro e w' ⟨rfl, rfl⟩)
      | (go_at_call 37; refine (bytes_nil n _).mono ?_; rintro e w' ⟨rfl, rfl⟩)
      | (go_at_call 36; refine (ofInt_any _ _ (by decide)).mono ?_; rintro e w' ⟨rfl, hb2⟩))
    go_ret
    exact ⟨congrArg (fun n => Ending.returned (.int .i64 n)) (show wrap64 ((whole ⟨#[]⟩ : Nat) : Int) = 0 by rw [show whole ⟨#[]⟩ = 0 from rfl]; unfold wrap64; omega), hb2⟩)
end Go.Proofs.Ytmkngolkflihlaa.Oct
