/- The document's cut: its reads' contracts, case by case. · (RefCutB without stage 1's laws.) The document's cut: each read, in whatever state the cut is: what it reads is what the program's cut of the same unread bytes reads. · Whether bytes have the sum that they say: the contracts of both. · The packet that bytes are: plain; and reads that do not fail. · The program's reads of what stands behind a beginning: their contract. · The program's reads of what stands behind a beginning, options too: the contract. -/
import Derived.Test.YtkjojfcknfhkhaaCutC
import Derived.Test.YtkjojfcknfhkhaaMHeadX
import Derived.Deep.QuietTactic
import Derived.BigQuiet
import Derived.Outline
import Derived.Deep.RegionWith
import Derived.Deep.RegionHeld3
import Derived.Test.YtkjojfcknfhkhaaMPktP
import Derived.Test.YtkjojfcknfhkhaaMHeadB
import Derived.Test.YtkjojfcknfhkhaaOpt5
namespace Go.Proofs.Ytkjojfcknfhkhaa.Oct
open Go.ChangeShapes Go.WideShapes Go.ChangeAt Go.RowKit
set_option linter.unusedVariables false

theorem rb_fell (b : Nat) (n fell : Int) (w : World) (h2 : w.cell? ⟨b, 2, none⟩ = some (.int .i64 fell)) (hf : fell ≠ 0) :
    Calls Try.prog 78 #[.pointer (some ⟨b, 0, none⟩), .int .i64 n] w fun e w' => e = .returned (.string ⟨#[]⟩) ∧ w = w' := by
  have hf1 : (fell != 0) = true := by simpa using hf
  go_enter Try.func78, Try.ntmps78
  go_wp2
  go_ret
  exact ⟨rfl, rfl⟩

theorem rb_neg (b : Nat) (n : Int) (w : World) (hn : n < 0) (h2 : w.cell? ⟨b, 2, none⟩ = some (.int .i64 0)) (hz : w.frozen? ⟨b, 2, none⟩ = false) :
    Calls Try.prog 78 #[.pointer (some ⟨b, 0, none⟩), .int .i64 n] w fun e w' => e = .returned (.string ⟨#[]⟩) ∧ w' = w.setCell ⟨b, 2, none⟩ (.int .i64 3) := by
  go_enter Try.func78, Try.ntmps78
  go_wp2
  go_ret
  exact ⟨rfl, rfl⟩

theorem rb_short (b : Nat) (n : Int) (S : ByteArray) (a : Nat) (w : World) (hl : S.size ≤ 4000) (ha : a ≤ S.size) (hn0 : 0 ≤ n) (hn : (S.size : Int) - a < n) (h0 : w.cell? ⟨b, 0, none⟩ = some (.string S)) (h1 : w.cell? ⟨b, 1, none⟩ = some (.int .i64 a))
    (h2 : w.cell? ⟨b, 2, none⟩ = some (.int .i64 0)) (hz : w.frozen? ⟨b, 2, none⟩ = false) :
    Calls Try.prog 78 #[.pointer (some ⟨b, 0, none⟩), .int .i64 n] w fun e w' => e = .returned (.string ⟨#[]⟩) ∧ ∃ k, w' = (w.drewN k).setCell ⟨b, 2, none⟩ (.int .i64 1) := by
  have hs : IntKind.i64.wrap ((S.size : Int) - a) = (S.size : Int) - a := IntWalk.i64_in _ (by omega)
  have hd : decide ((S.size : Int) - a < n) = true := by simpa using hn
  go_enter Try.func78, Try.ntmps78
  go_wp2_with fail
  go_quiet (fail)
  go_wp2_with fail
  go_ret
  exact ⟨rfl, _, rfl⟩

def RbOk (b n : Nat) (S : ByteArray) (a : Nat) (w : World) (e : Ending) (w' : World) : Prop :=
  e = .returned (.string (S.extract a (a + n))) ∧ ∃ k j, w' = ((w.drewN k).setCell ⟨b, 1, none⟩ (.int .i64 ((a : Int) + n))).drewN j

theorem rb_ok (b : Nat) (n : Nat) (S : ByteArray) (a : Nat) (w : World) (hl : S.size ≤ 4000) (hn : a + n ≤ S.size) (h0 : w.cell? ⟨b, 0, none⟩ = some (.string S)) (h1 : w.cell? ⟨b, 1, none⟩ = some (.int .i64 a))
    (h2 : w.cell? ⟨b, 2, none⟩ = some (.int .i64 0)) (hz : w.frozen? ⟨b, 1, none⟩ = false) :
    Calls Try.prog 78 #[.pointer (some ⟨b, 0, none⟩), .int .i64 n] w (RbOk b n S a w) := by
  have hs : IntKind.i64.wrap ((S.size : Int) - a) = (S.size : Int) - a := IntWalk.i64_in _ (by omega)
  have hd : decide ((S.size : Int) - a < n) = false := by simp; omega
  go_enter Try.func78, Try.ntmps78
  go_wp2_with fail
  go_quiet (fail)
  go_wp2_with fail
  have g1 : ((w.drewN nq).setCell ⟨b, 1, none⟩ (.int .i64 ((a : Int) + n))).cell? ⟨b, 1, none⟩ = some (.int .i64 ((a : Int) + n)) := World.cell?_setCell_same _ _ _ h1
  have g0 : ((w.drewN nq).setCell ⟨b, 1, none⟩ (.int .i64 ((a : Int) + n))).cell? ⟨b, 0, none⟩ = some (.string S) := by
    rw [World.cell?_setCell_other _ _ _ _ (by simp)]; exact h0
  generalize hW : (w.drewN nq).setCell ⟨b, 1, none⟩ (.int .i64 ((a : Int) + n)) = W2 at g0 g1 ⊢
  have HW := Lib.hid (Exists.intro (p := fun k => (w.drewN k).setCell ⟨b, 1, none⟩ (.int .i64 ((a : Int) + n)) = W2) nq hW)
  clear hW
  have i1 : (a : Int) + n - n = a := by omega
  have i2 : IntKind.i64.wrap (a : Int) = a := IntWalk.i64_in _ (by omega)
  have i3 : (0 : Int) ≤ a := by omega
  have i4 : (a : Int) ≤ (a : Int) + n := by omega
  have i5 : (a : Int) + n ≤ (S.size : Int) := by omega
  have i6 : ((a : Int) + n).toNat = a + n := by omega
  have i7 : ((a : Int)).toNat = a := by omega
  go_quiet (fail)
  go_wp2_with fail
  go_ret
  obtain ⟨k1, hk1⟩ := HW.out
  exact ⟨rfl, k1, _, by rw [hk1]⟩
end Go.Proofs.Ytkjojfcknfhkhaa.Oct

namespace Go.Proofs.Ytkjojfcknfhkhaa.Oct
open Go.ChangeShapes Go.WideShapes Go.ChangeAt Go.RowKit
set_option linter.unusedVariables false

theorem ext_list {a b : ByteArray} (h : a.data.toList = b.data.toList) : a = b := ByteArray.ext (Array.toList_inj.1 h)
theorem extract_list (s : ByteArray) (a b : Nat) : (s.extract a b).data.toList = (s.data.toList.drop a).take (b - a) := by
  rw [ByteArray.data_extract]
  simp
/-- what is unread -/
def unread (S : ByteArray) (a : Nat) : ByteArray := S.extract a S.size
/-- how many are read behind a read -/
def atOf (S : ByteArray) (a : Nat) (fell n : Int) : Nat := if fellOf (unread S a) fell n = 0 then a + n.toNat else a

theorem unread_size (S : ByteArray) (a : Nat) : (unread S a).size = S.size - a := by simp [unread]

theorem got_unread (S : ByteArray) (a n : Nat) (h : a + n ≤ S.size) : (unread S a).extract 0 n = S.extract a (a + n) := by
  apply ext_list
  rw [unread, extract_list, extract_list, extract_list]
  simp only [List.drop_zero, Nat.sub_zero, List.take_take]
  rw [show min n (S.size - a) = a + n - a by omega]

theorem stay_unread (S : ByteArray) (a n : Nat) (h : a + n ≤ S.size) : (unread S a).extract n (unread S a).size = unread S (a + n) := by
  apply ext_list
  rw [unread_size, unread, unread, extract_list, extract_list, extract_list, List.drop_take, List.drop_drop, List.take_take]
  rw [show min (S.size - a - n) (S.size - a - n) = S.size - (a + n) by omega, Nat.add_comm]

/-- the three cells of the document's cut -/
structure RefAt (w : World) (b : Nat) (S : ByteArray) (a : Nat) (fell : Int) : Prop where
  le : a ≤ S.size
  c0 : w.cell? ⟨b, 0, none⟩ = some (.string S)
  c1 : w.cell? ⟨b, 1, none⟩ = some (.int .i64 a)
  c2 : w.cell? ⟨b, 2, none⟩ = some (.int .i64 fell)
  z1 : w.frozen? ⟨b, 1, none⟩ = false
  z2 : w.frozen? ⟨b, 2, none⟩ = false

theorem RefAt.of_block {w w' : World} {b : Nat} {S : ByteArray} {a : Nat} {fell : Int} (h : RefAt w b S a fell) (e : w'.heap[b]? = w.heap[b]?) : RefAt w' b S a fell :=
  ⟨h.le, (World.cell?_of_block (w := w) e).trans h.c0, (World.cell?_of_block (w := w) e).trans h.c1, (World.cell?_of_block (w := w) e).trans h.c2, (World.frozen?_of_block (w := w) e).trans h.z1, (World.frozen?_of_block (w := w) e).trans h.z2⟩

theorem RefAt.drewN {w : World} {b : Nat} {S : ByteArray} {a : Nat} {fell : Int} (h : RefAt w b S a fell) (k : Nat) : RefAt (w.drewN k) b S a fell := h.of_block rfl

theorem RefAt.lt {w : World} {b : Nat} {S : ByteArray} {a : Nat} {fell : Int} (h : RefAt w b S a fell) : b < w.heap.size := by
  rcases Nat.lt_or_ge b w.heap.size with h' | h'
  · exact h'
  · have := h.c0
    unfold World.cell? at this
    rw [Array.getElem?_eq_none h'] at this
    simp at this

theorem RefAt.set1 {w : World} {b : Nat} {S : ByteArray} {a : Nat} {fell : Int} (h : RefAt w b S a fell) (m : Nat) (hm : m ≤ S.size) : RefAt (w.setCell ⟨b, 1, none⟩ (.int .i64 m)) b S m fell :=
  ⟨hm, by rw [World.cell?_setCell_other _ _ _ _ (by simp)]; exact h.c0, World.cell?_setCell_same _ _ _ h.c1, by rw [World.cell?_setCell_other _ _ _ _ (by simp)]; exact h.c2, by rw [World.frozen?_setCell]; exact h.z1, by rw [World.frozen?_setCell]; exact h.z2⟩
theorem RefAt.set2 {w : World} {b : Nat} {S : ByteArray} {a : Nat} {fell : Int} (h : RefAt w b S a fell) (f : Int) : RefAt (w.setCell ⟨b, 2, none⟩ (.int .i64 f)) b S a f :=
  ⟨h.le, by rw [World.cell?_setCell_other _ _ _ _ (by simp)]; exact h.c0, by rw [World.cell?_setCell_other _ _ _ _ (by simp)]; exact h.c1, World.cell?_setCell_same _ _ _ h.c2, by rw [World.frozen?_setCell]; exact h.z1, by rw [World.frozen?_setCell]; exact h.z2⟩

theorem Touch.drewN {b : Nat} {w w' : World} (h : Touch b w w') (k : Nat) : Touch b w (w'.drewN k) := h.trans ⟨rfl, rfl, rfl, Nat.le_refl _, fun _ _ _ => rfl⟩

def RefEnd (b : Nat) (S : ByteArray) (a : Nat) (fell n : Int) (w : World) (e : Ending) (w' : World) : Prop :=
  e = .returned (.string (gotOf (unread S a) fell n)) ∧ RefAt w' b S (atOf S a fell n) (fellOf (unread S a) fell n) ∧ unread S (atOf S a fell n) = stayOf (unread S a) fell n ∧ Touch b w w'

theorem rb_any (b : Nat) (S : ByteArray) (a : Nat) (fell n : Int) (w : World) (hl : S.size ≤ 4000) (hc : RefAt w b S a fell) :
    Calls Try.prog 78 #[.pointer (some ⟨b, 0, none⟩), .int .i64 n] w (RefEnd b S a fell n w) := by
  have ha := hc.le
  have hu := unread_size S a
  by_cases hf : fell = 0
  · subst hf
    by_cases hn : n < 0
    · have e1 : fellOf (unread S a) 0 n = 3 := by unfold fellOf; simp [hn]
      have e2 : atOf S a 0 n = a := by unfold atOf; rw [e1]; rfl
      refine (rb_neg b n w hn hc.c2 hc.z2).mono ?_
      rintro e w' ⟨rfl, rfl⟩
      refine ⟨by unfold gotOf; rw [e1]; rfl, by rw [e1, e2]; exact hc.set2 3, by rw [e2]; unfold stayOf; rw [e1]; rfl, Touch.set _ _ _ _⟩
    · by_cases hs : (S.size : Int) - a < n
      · have e1 : fellOf (unread S a) 0 n = 1 := by unfold fellOf; rw [if_neg (by simp), if_neg hn, if_pos (by rw [hu]; omega)]
        have e2 : atOf S a 0 n = a := by unfold atOf; rw [e1]; rfl
        refine (rb_short b n S a w hl ha (by omega) hs hc.c0 hc.c1 hc.c2 hc.z2).mono ?_
        rintro e w' ⟨rfl, k, rfl⟩
        refine ⟨by unfold gotOf; rw [e1]; rfl, by rw [e1, e2]; exact (hc.drewN k).set2 1, by rw [e2]; unfold stayOf; rw [e1]; rfl, ((Touch.refl _ _).drewN k).trans (Touch.set _ _ _ _)⟩
      · have e1 : fellOf (unread S a) 0 n = 0 := by unfold fellOf; rw [if_neg (by simp), if_neg hn, if_neg (by rw [hu]; omega)]
        obtain ⟨m, rfl⟩ := Int.eq_ofNat_of_zero_le (show 0 ≤ n by omega)
        have hm : a + m ≤ S.size := by omega
        have e2 : atOf S a 0 m = a + m := by unfold atOf; rw [if_pos e1]; rfl
        refine (rb_ok b m S a w hl hm hc.c0 hc.c1 hc.c2 hc.z1).mono ?_
        rintro e w' ⟨rfl, k, j, rfl⟩
        refine ⟨by unfold gotOf; rw [if_pos e1]; exact congrArg (fun s => Ending.returned (.string s)) (got_unread S a m hm).symm, by rw [e1, e2]; exact ((hc.drewN k).set1 (a + m) hm).drewN j, ?_, (((Touch.refl _ _).drewN k).trans (Touch.set _ _ _ _)).drewN j⟩
        rw [e2]; unfold stayOf; rw [if_pos e1]; exact (stay_unread S a m hm).symm
  · have e1 : fellOf (unread S a) fell n = fell := by unfold fellOf; rw [if_pos hf]
    have e2 : atOf S a fell n = a := by unfold atOf; rw [e1, if_neg hf]
    refine (rb_fell b n fell w hc.c2 hf).mono ?_
    rintro e w' ⟨rfl, rfl⟩
    exact ⟨by unfold gotOf; rw [e1, if_neg hf], by rw [e1, e2]; exact hc, by rw [e2]; unfold stayOf; rw [e1, if_neg hf], Touch.refl _ _⟩

def RefNumEnd (b : Nat) (S : ByteArray) (a : Nat) (fell n : Int) (w : World) (e : Ending) (w' : World) : Prop :=
  e = .returned (.int .i64 (wrap64 (whole (gotOf (unread S a) (fell1 fell n) n)))) ∧ RefAt w' b S (atOf S a (fell1 fell n) n) (fellOf (unread S a) (fell1 fell n) n) ∧ unread S (atOf S a (fell1 fell n) n) = stayOf (unread S a) (fell1 fell n) n ∧ Touch b w w'

theorem rn_any (b : Nat) (S : ByteArray) (a : Nat) (fell n : Int) (w : World) (hl : S.size ≤ 4000) (hc : RefAt w b S a fell) :
    Calls Try.prog 42 #[.pointer (some ⟨b, 0, none⟩), .int .i64 n] w (RefNumEnd b S a fell n w) := by
  unfold RefNumEnd
  have h2 := hc.c2
  have hz := hc.z2
  have hus := unread_size S a
  have Hus := Lib.hid hus
  clear hus
  by_cases hf : fell = 0
  · subst hf
    by_cases hn : n < 1 ∨ 7 < n
    · have e1 : fell1 0 n = 3 := by unfold fell1; simp [hn]
      rw [e1]
      have hb := rb_any b S a 3 n _ hl (hc.set2 3)
      have Hb := Lib.hid hb
      clear hb hc
      rcases hn with hn | hn
      all_goals (
        go_enter Try.func42, Try.ntmps42
        go_wp2_with (first
          | (go_at_call 78; refine Hb.out.mono ?_; rintro e w' ⟨rfl, hr⟩; have Hr := Lib.hid hr; clear hr)
          | (go_at_call 77; refine (refOf_any _ _ (by have := got_size (unread S a) 3 n; have := Hus.out; omega)).mono ?_; rintro e w' ⟨rfl, rfl⟩))
        go_ret
        exact ⟨rfl, Hr.out.1, Hr.out.2.1, (Touch.set _ _ _ _).trans Hr.out.2.2⟩)
    · have e1 : fell1 0 n = 0 := by unfold fell1; rw [if_neg (by simp), if_neg hn]
      rw [e1]
      have hb := rb_any b S a 0 n _ hl hc
      have Hb := Lib.hid hb
      have hn1 : 1 ≤ n := by omega
      have hn7 : n ≤ 7 := by omega
      clear hb hc hn
      go_enter Try.func42, Try.ntmps42
      go_wp2_with (first
        | (go_at_call 78; refine Hb.out.mono ?_; rintro e w' ⟨rfl, hr⟩; have Hr := Lib.hid hr; clear hr)
        | (go_at_call 77; refine (refOf_any _ _ (by have := got_size (unread S a) 0 n; have := Hus.out; omega)).mono ?_; rintro e w' ⟨rfl, rfl⟩))
      go_ret
      exact ⟨rfl, Hr.out.1, Hr.out.2.1, Hr.out.2.2⟩
  · have e1 : fell1 fell n = fell := by unfold fell1; simp [hf]
    rw [e1]
    have hb := rb_any b S a fell n _ hl hc
    have Hb := Lib.hid hb
    have hf1 : (fell == 0) = false := by simpa using hf
    clear hb hc
    go_enter Try.func42, Try.ntmps42
    go_wp2_with (first
      | (go_at_call 78; refine Hb.out.mono ?_; rintro e w' ⟨rfl, hr⟩; have Hr := Lib.hid hr; clear hr)
      | (go_at_call 77; refine (refOf_any _ _ (by have := got_size (unread S a) fell n; have := Hus.out; omega)).mono ?_; rintro e w' ⟨rfl, rfl⟩))
    go_ret
    exact ⟨rfl, Hr.out.1, Hr.out.2.1, Hr.out.2.2⟩

theorem rr_any (b : Nat) (S : ByteArray) (a : Nat) (fell : Int) (w : World) (hl : S.size ≤ 4000) (hc : RefAt w b S a fell) :
    Calls Try.prog 44 #[.pointer (some ⟨b, 0, none⟩)] w (RefEnd b S a fell (unread S a).size w) := by
  have h0 := hc.c0
  have h1 := hc.c1
  have ha := hc.le
  have hus := unread_size S a
  have hs : IntKind.i64.wrap ((S.size : Int) - a) = (S.size : Int) - a := IntWalk.i64_in _ (by omega)
  have hb := fun k => rb_any b S a fell ((S.size : Int) - a) (w.drewN k) hl (hc.drewN k)
  have Hb := Lib.hid hb
  have he : ((unread S a).size : Int) = (S.size : Int) - a := by rw [hus]; omega
  rw [he]
  clear hb hc hus he
  go_enter Try.func44, Try.ntmps44
  go_wp2_with fail
  go_region_with (first | (go_at_call 78; refine (Hb.out 1).mono ?_; rintro e w' ⟨rfl, hr⟩; have Hr := Lib.hid hr; clear hr))
  all_goals (
    go_wp2_with fail
    go_ret
    exact ⟨rfl, Hr.out.1, Hr.out.2.1, ((Touch.refl _ _).drewN 1).trans Hr.out.2.2⟩)

end Go.Proofs.Ytkjojfcknfhkhaa.Oct

namespace Go.Proofs.Ytkjojfcknfhkhaa.Pkt
open Go.ChangeShapes Go.WideShapes Go.ChangeAt Go.RowKit
open Go.Proofs.Ytkjojfcknfhkhaa.Opt (O OptsAt Fit)
set_option linter.unusedVariables false

/-- how many bytes stand ahead of the data -/
def cutAt (s : ByteArray) : Nat := (4 * (Head.get s).1.words).toNat
def right (s : ByteArray) (f t : Int) : Bool :=
  if (Head.get s).2.2 ≠ 0 then false
  else if s.size < cutAt s then false
  else (Inet.covc (s.extract 0 (cutAt s)) (s.extract (cutAt s) s.size) (Head.get s).1.cover).2 && decide (summed (s.extract 0 (cutAt s)) (s.extract (cutAt s) s.size) (Head.get s).1.cover f t = 0)

theorem get_words (s : ByteArray) : 0 ≤ (Head.get s).1.words ∧ (Head.get s).1.words ≤ 255 := by
  have hp : 0 ≤ (Head.parse s).words ∧ (Head.parse s).words ≤ 255 := by
    have := Head.fld_lt s 4 1
    unfold Head.parse
    dsimp only
    omega
  have hn : 0 ≤ Head.B.none.words ∧ Head.B.none.words ≤ 255 := by decide
  unfold Head.get
  split
  · exact hn
  · split
    · exact hn
    · split
      · exact hn
      · exact hp
theorem cutAt_words (s : ByteArray) : 4 * (Head.get s).1.words = (cutAt s : Int) ∧ cutAt s ≤ 1020 := by
  have := get_words s
  unfold cutAt
  omega

theorem place_new (w : World) (f t : Int) : (w.alloc (.cells #[.int .i64 f, .int .i64 t] 26)).heap[w.heap.size]? = some (.cells #[.int .i64 f, .int .i64 t] 26 (0, 0)) := heap_alloc_new w _
theorem ext_le (s : ByteArray) (a b : Nat) : (s.extract a b).size ≤ s.size := by simp; omega

set_option maxRecDepth 100000 in
set_option maxHeartbeats 4000000 in
theorem Right_any (s : ByteArray) (hs : s.size ≤ 3000) (f t : Int) (w : World) :
    Calls Try.prog 16 #[.string s, .agg #[.int .i64 f, .int .i64 t]] w fun e w' => e = .returned (.bool (right s f t)) ∧ Below w.heap.size w w' := by
  have hR := Lib.hid (show right s f t = if (Head.get s).2.2 ≠ 0 then false else if s.size < cutAt s then false else (Inet.covc (s.extract 0 (cutAt s)) (s.extract (cutAt s) s.size) (Head.get s).1.cover).2 && decide (summed (s.extract 0 (cutAt s)) (s.extract (cutAt s) s.size) (Head.get s).1.cover f t = 0) from rfl)
  have CG := Lib.hid (fun w => Head.Get_any s (by omega) w)
  obtain ⟨hm, hm2⟩ := cutAt_words s
  have e0 := ext_le s 0 (cutAt s)
  have e1 := ext_le s (cutAt s) s.size
  have CS := Lib.hid (fun w => psum_any (s.extract 0 (cutAt s)) (s.extract (cutAt s) s.size) (Head.get s).1.cover f t (by omega) (by omega) w)
  have hA := place_new w f t
  have hb := Lib.hid ((Below.refl w.heap.size w).alloc (Nat.le_refl _) (.cells #[.int .i64 f, .int .i64 t] 26))
  have hsz : w.heap.size < (w.alloc (.cells #[.int .i64 f, .int .i64 t] 26)).heap.size := by simp
  unfold Head.GetEnd at CG
  generalize right s f t = R at *
  generalize (Inet.covc (s.extract 0 (cutAt s)) (s.extract (cutAt s) s.size) (Head.get s).1.cover).2 = ok at *
  generalize summed (s.extract 0 (cutAt s)) (s.extract (cutAt s) s.size) (Head.get s).1.cover f t = N at *
  generalize (Head.get s).2.2 = er at *
  generalize (Head.get s).2.1 = re at *
  generalize cutAt s = m at *
  generalize (Head.get s).1 = g at *
  go_enter Try.func16, Try.ntmps16
  go_wp2_with fail
  refine (CG.out _).mono ?_
  rintro e w1 ⟨rfl, h1⟩
  have n1 := Head.Box9.new w1 g
  have hx := (Below.refl w1.heap.size w1).alloc (Nat.le_refl _) (.cells (Head.rowOf g) 43)
  obtain ⟨V, hV⟩ : ∃ V, w1.alloc (.cells (Head.rowOf g) 43) = V := ⟨_, rfl⟩
  have H1 := hb.out.trans (h1.mono hb.out.size)
  have HV := Lib.hid (show Below w.heap.size w V by rw [← hV]; exact H1.trans (hx.mono H1.size))
  have AV : V.heap[w.heap.size]? = some (.cells #[.int .i64 f, .int .i64 t] 26 (0, 0)) := by
    rw [← hV]
    exact (Below.heap_alloc _ _ _ (by have := h1.size; omega)).trans ((h1.block _ hsz).trans hA)
  have nV : Head.Box9 V w1.heap.size g := by rw [← hV]; exact n1
  clear hA hb hsz h1 n1 hx H1 CG
  obtain ⟨c0, c1, c2, c3, c4, c5, c6, c7, c8⟩ := nV.cell
  have w0 : 0 ≤ g.words ∧ g.words ≤ 255 := by omega
  have hm' : IntKind.i64.wrap (4 * g.words) = m := by rw [IntKind.wrap_i64, ← hm]; omega
  have hm3 : IntKind.i64.wrap (m : Int) = m := by rw [IntKind.wrap_i64]; omega
  clear c0 c1 c3 c5 c6 c7 c8
  by_cases her : er = 0
  case neg =>
    have hcb : (er != 0) = true := by simpa using her
    have HR := Lib.hid (hR.out.trans (if_pos her))
    go_wp2_with fail
    go_ret
    exact ⟨by rw [HR.out]; rfl, HV.out⟩
  subst her
  have hcb : ((0 : Int) != 0) = false := rfl
  replace hR := Lib.hid (hR.out.trans (if_neg (fun h => h rfl)))
  by_cases hlt : s.size < m
  case pos =>
    have hlt' : (s.size : Int) < (m : Int) := by omega
    have HR := Lib.hid (hR.out.trans (if_pos hlt))
    go_wp2_with fail
    go_ret
    exact ⟨by rw [HR.out]; rfl, HV.out⟩
  have hlt' : ¬ (s.size : Int) < (m : Int) := by omega
  have HR := Lib.hid (hR.out.trans (if_neg hlt))
  have g0 : (0 : Int) ≤ (m : Int) := by omega
  have g1 : (m : Int) ≤ (s.size : Int) := by omega
  go_wp2_with fail
  have v1 : V.heap[w.heap.size]? = some (.cells #[.int .i64 f, .int .i64 t] 26 (0, 0)) ∧ V.cell? ⟨w1.heap.size, 2, none⟩ = some (.int .i64 g.words) ∧ V.cell? ⟨w1.heap.size, 4, none⟩ = some (.int .i64 g.cover) := ⟨AV, c2, c4⟩
  have KV := Lib.hid (show ∀ W', Below V.heap.size V W' → W'.heap[w.heap.size]? = some (.cells #[.int .i64 f, .int .i64 t] 26 (0, 0)) ∧ W'.cell? ⟨w1.heap.size, 2, none⟩ = some (.int .i64 g.words) ∧ W'.cell? ⟨w1.heap.size, 4, none⟩ = some (.int .i64 g.cover) from fun W' h' => by
    have n' := nV.below h' nV.lt
    exact ⟨(h'.block _ (Array.getElem?_eq_some_iff.1 AV).1).trans AV, n'.cell.2.2.1, n'.cell.2.2.2.2.1⟩)
  cases ok
  case false =>
    refine Step.start (S := (fun w' => w'.heap[w.heap.size]? = some (.cells #[.int .i64 f, .int .i64 t] 26 (0, 0)) ∧ w'.cell? ⟨w1.heap.size, 2, none⟩ = some (.int .i64 g.words) ∧ w'.cell? ⟨w1.heap.size, 4, none⟩ = some (.int .i64 g.cover))) (by kernel_rfl) (by (try dsimp only); first | exact v1 | exact v3) (fun hHeld => ?_)
    refine Step.take (i := 0) rfl (by kernel_rfl) (by kernel_rfl) (by kernel_rfl) (fun _ _ _ h => h) (by rfl) (by (intro w hSw; (try dsimp only at hSw); go_simp; try (with_reducible rfl))) (by assumption) ?_
    try simp only [Act.put, List.setIfInBounds_toArray, List.set_cons_zero, List.set_cons_succ]
    refine Step.take (i := 1) rfl (by kernel_rfl) (by kernel_rfl) (by kernel_rfl) (fun _ _ _ h => h) (by rfl) (by (intro w hSw; (try dsimp only at hSw); go_simp; try (with_reducible rfl))) (by assumption) ?_
    try simp only [Act.put, List.setIfInBounds_toArray, List.set_cons_zero, List.set_cons_succ]
    refine Step.take (i := 2) rfl (by kernel_rfl) (by kernel_rfl) (by kernel_rfl) (fun _ _ _ h => h) (by rfl) (by (intro w hSw; (try dsimp only at hSw); go_simp; try (with_reducible rfl))) (by assumption) ?_
    try simp only [Act.put, List.setIfInBounds_toArray, List.set_cons_zero, List.set_cons_succ]
    refine Step.take (i := 3) rfl (by kernel_rfl) (by kernel_rfl) (by kernel_rfl) (fun _ _ _ h => h) (by rfl) (by (intro w hSw; (try dsimp only at hSw); go_simp; try (with_reducible rfl))) (by assumption) ?_
    try simp only [Act.put, List.setIfInBounds_toArray, List.set_cons_zero, List.set_cons_succ]
    refine Step.take (i := 4) rfl (by kernel_rfl) (by kernel_rfl) (by kernel_rfl) (fun _ _ _ h => h) (by rfl) (by (intro w hSw; (try dsimp only at hSw); go_simp; try (with_reducible rfl))) (by assumption) ?_
    try simp only [Act.put, List.setIfInBounds_toArray, List.set_cons_zero, List.set_cons_succ]
    refine Step.take (i := 5) rfl (by kernel_rfl) (by kernel_rfl) (by kernel_rfl) (fun _ _ _ h => h) (by rfl) (by (intro w hSw; (try dsimp only at hSw); go_simp; try (with_reducible rfl))) (by assumption) ?_
    try simp only [Act.put, List.setIfInBounds_toArray, List.set_cons_zero, List.set_cons_succ]
    refine Step.take (i := 6) rfl (by kernel_rfl) (by kernel_rfl) (by kernel_rfl) (fun _ _ _ h => h) (by rfl) (by (intro w hSw; (try dsimp only at hSw); go_simp; try (with_reducible rfl))) (by assumption) ?_
    try simp only [Act.put, List.setIfInBounds_toArray, List.set_cons_zero, List.set_cons_succ]
    refine Step.take (i := 7) rfl (by kernel_rfl) (by kernel_rfl) (by kernel_rfl) (fun _ _ _ h => h) (by rfl) (by (intro w hSw; (try dsimp only at hSw); go_simp; try (with_reducible rfl))) (by assumption) ?_
    try simp only [Act.put, List.setIfInBounds_toArray, List.set_cons_zero, List.set_cons_succ]
    refine Step.load (i := 8) rfl (by kernel_rfl) (by kernel_rfl) (by kernel_rfl) w.heap.size #[.int .i64 f, .int .i64 t] 26 (0, 0) _ (fun w hSw => hSw.1) Try.underlying26 rfl (hi2 _ _) (fun _ _ _ h => h) (by rfl) rfl (by assumption) ?_
    try simp only [Act.put, List.setIfInBounds_toArray, List.set_cons_zero, List.set_cons_succ]
    refine Step.call (i := 9) rfl (by kernel_rfl) (by rfl) (fun K hK => ?_)
    go_simp
    (go_at_call 23; refine (CS.out _).mono ?_; rintro e w3 ⟨rfl, h3⟩; have H3 := Lib.hid (HV.out.trans ((at_drewm h3).mono HV.out.size)); have v3 : (w3.heap[w.heap.size]? = some (.cells #[.int .i64 f, .int .i64 t] 26 (0, 0)) ∧ w3.cell? ⟨w1.heap.size, 2, none⟩ = some (.int .i64 g.words) ∧ w3.cell? ⟨w1.heap.size, 4, none⟩ = some (.int .i64 g.cover)) := KV.out _ (at_drewm h3); clear h3)
    try (go_wp2_with fail)
    refine hK.out _ _ (by (try dsimp only); first | exact v1 | exact v3) (fun hHeld => ?_)
    clear hK K
    try simp only [Act.put, List.setIfInBounds_toArray, List.set_cons_zero, List.set_cons_succ]
    refine Step.take (i := 10) rfl (by kernel_rfl) (by kernel_rfl) (by kernel_rfl) (fun _ _ _ h => h) (by rfl) (by (intro w hSw; (try dsimp only at hSw); go_simp; try (with_reducible rfl))) (by assumption) ?_
    try simp only [Act.put, List.setIfInBounds_toArray, List.set_cons_zero, List.set_cons_succ]
    refine Step.take (i := 11) rfl (by kernel_rfl) (by kernel_rfl) (by kernel_rfl) (fun _ _ _ h => h) (by rfl) (by (intro w hSw; (try dsimp only at hSw); go_simp; try (with_reducible rfl))) (by assumption) ?_
    try simp only [Act.put, List.setIfInBounds_toArray, List.set_cons_zero, List.set_cons_succ]
    refine Step.take (i := 12) rfl (by kernel_rfl) (by kernel_rfl) (by kernel_rfl) (fun _ _ _ h => h) (by rfl) (by (intro w hSw; (try dsimp only at hSw); go_simp; try (with_reducible rfl))) (by assumption) ?_
    try simp only [Act.put, List.setIfInBounds_toArray, List.set_cons_zero, List.set_cons_succ]
    refine Step.take (i := 13) rfl (by kernel_rfl) (by kernel_rfl) (by kernel_rfl) (fun _ _ _ h => h) (by rfl) (by (intro w hSw; (try dsimp only at hSw); go_simp; try (with_reducible rfl))) (by assumption) ?_
    try simp only [Act.put, List.setIfInBounds_toArray, List.set_cons_zero, List.set_cons_succ]
    refine Step.take (i := 14) rfl (by kernel_rfl) (by kernel_rfl) (by kernel_rfl) (fun _ _ _ h => h) (by rfl) (by (intro w hSw; (try dsimp only at hSw); go_simp; try (with_reducible rfl))) (by assumption) ?_
    try simp only [Act.put, List.setIfInBounds_toArray, List.set_cons_zero, List.set_cons_succ]
    refine wpAnyH_done (by kernel_rfl) ?_ _
    go_wp2_with fail
    go_ret
    exact ⟨by rw [HR.out]; rfl, H3.out⟩
  case true =>
    refine Step.start (S := (fun w' => w'.heap[w.heap.size]? = some (.cells #[.int .i64 f, .int .i64 t] 26 (0, 0)) ∧ w'.cell? ⟨w1.heap.size, 2, none⟩ = some (.int .i64 g.words) ∧ w'.cell? ⟨w1.heap.size, 4, none⟩ = some (.int .i64 g.cover))) (by kernel_rfl) (by (try dsimp only); first | exact v1 | exact v3) (fun hHeld => ?_)
    refine Step.take (i := 0) rfl (by kernel_rfl) (by kernel_rfl) (by kernel_rfl) (fun _ _ _ h => h) (by rfl) (by (intro w hSw; (try dsimp only at hSw); go_simp; try (with_reducible rfl))) (by assumption) ?_
    try simp only [Act.put, List.setIfInBounds_toArray, List.set_cons_zero, List.set_cons_succ]
    refine Step.take (i := 1) rfl (by kernel_rfl) (by kernel_rfl) (by kernel_rfl) (fun _ _ _ h => h) (by rfl) (by (intro w hSw; (try dsimp only at hSw); go_simp; try (with_reducible rfl))) (by assumption) ?_
    try simp only [Act.put, List.setIfInBounds_toArray, List.set_cons_zero, List.set_cons_succ]
    refine Step.take (i := 2) rfl (by kernel_rfl) (by kernel_rfl) (by kernel_rfl) (fun _ _ _ h => h) (by rfl) (by (intro w hSw; (try dsimp only at hSw); go_simp; try (with_reducible rfl))) (by assumption) ?_
    try simp only [Act.put, List.setIfInBounds_toArray, List.set_cons_zero, List.set_cons_succ]
    refine Step.take (i := 3) rfl (by kernel_rfl) (by kernel_rfl) (by kernel_rfl) (fun _ _ _ h => h) (by rfl) (by (intro w hSw; (try dsimp only at hSw); go_simp; try (with_reducible rfl))) (by assumption) ?_
    try simp only [Act.put, List.setIfInBounds_toArray, List.set_cons_zero, List.set_cons_succ]
    refine Step.take (i := 4) rfl (by kernel_rfl) (by kernel_rfl) (by kernel_rfl) (fun _ _ _ h => h) (by rfl) (by (intro w hSw; (try dsimp only at hSw); go_simp; try (with_reducible rfl))) (by assumption) ?_
    try simp only [Act.put, List.setIfInBounds_toArray, List.set_cons_zero, List.set_cons_succ]
    refine Step.take (i := 5) rfl (by kernel_rfl) (by kernel_rfl) (by kernel_rfl) (fun _ _ _ h => h) (by rfl) (by (intro w hSw; (try dsimp only at hSw); go_simp; try (with_reducible rfl))) (by assumption) ?_
    try simp only [Act.put, List.setIfInBounds_toArray, List.set_cons_zero, List.set_cons_succ]
    refine Step.take (i := 6) rfl (by kernel_rfl) (by kernel_rfl) (by kernel_rfl) (fun _ _ _ h => h) (by rfl) (by (intro w hSw; (try dsimp only at hSw); go_simp; try (with_reducible rfl))) (by assumption) ?_
    try simp only [Act.put, List.setIfInBounds_toArray, List.set_cons_zero, List.set_cons_succ]
    refine Step.take (i := 7) rfl (by kernel_rfl) (by kernel_rfl) (by kernel_rfl) (fun _ _ _ h => h) (by rfl) (by (intro w hSw; (try dsimp only at hSw); go_simp; try (with_reducible rfl))) (by assumption) ?_
    try simp only [Act.put, List.setIfInBounds_toArray, List.set_cons_zero, List.set_cons_succ]
    refine Step.load (i := 8) rfl (by kernel_rfl) (by kernel_rfl) (by kernel_rfl) w.heap.size #[.int .i64 f, .int .i64 t] 26 (0, 0) _ (fun w hSw => hSw.1) Try.underlying26 rfl (hi2 _ _) (fun _ _ _ h => h) (by rfl) rfl (by assumption) ?_
    try simp only [Act.put, List.setIfInBounds_toArray, List.set_cons_zero, List.set_cons_succ]
    refine Step.call (i := 9) rfl (by kernel_rfl) (by rfl) (fun K hK => ?_)
    go_simp
    (go_at_call 23; refine (CS.out _).mono ?_; rintro e w3 ⟨rfl, h3⟩; have H3 := Lib.hid (HV.out.trans ((at_drewm h3).mono HV.out.size)); have v3 : (w3.heap[w.heap.size]? = some (.cells #[.int .i64 f, .int .i64 t] 26 (0, 0)) ∧ w3.cell? ⟨w1.heap.size, 2, none⟩ = some (.int .i64 g.words) ∧ w3.cell? ⟨w1.heap.size, 4, none⟩ = some (.int .i64 g.cover)) := KV.out _ (at_drewm h3); clear h3)
    try (go_wp2_with fail)
    refine hK.out _ _ (by (try dsimp only); first | exact v1 | exact v3) (fun hHeld => ?_)
    clear hK K
    try simp only [Act.put, List.setIfInBounds_toArray, List.set_cons_zero, List.set_cons_succ]
    refine Step.take (i := 10) rfl (by kernel_rfl) (by kernel_rfl) (by kernel_rfl) (fun _ _ _ h => h) (by rfl) (by (intro w hSw; (try dsimp only at hSw); go_simp; try (with_reducible rfl))) (by assumption) ?_
    try simp only [Act.put, List.setIfInBounds_toArray, List.set_cons_zero, List.set_cons_succ]
    refine Step.take (i := 11) rfl (by kernel_rfl) (by kernel_rfl) (by kernel_rfl) (fun _ _ _ h => h) (by rfl) (by (intro w hSw; (try dsimp only at hSw); go_simp; try (with_reducible rfl))) (by assumption) ?_
    try simp only [Act.put, List.setIfInBounds_toArray, List.set_cons_zero, List.set_cons_succ]
    refine Step.take (i := 12) rfl (by kernel_rfl) (by kernel_rfl) (by kernel_rfl) (fun _ _ _ h => h) (by rfl) (by (intro w hSw; (try dsimp only at hSw); go_simp; try (with_reducible rfl))) (by assumption) ?_
    try simp only [Act.put, List.setIfInBounds_toArray, List.set_cons_zero, List.set_cons_succ]
    refine Step.take (i := 13) rfl (by kernel_rfl) (by kernel_rfl) (by kernel_rfl) (fun _ _ _ h => h) (by rfl) (by (intro w hSw; (try dsimp only at hSw); go_simp; try (with_reducible rfl))) (by assumption) ?_
    try simp only [Act.put, List.setIfInBounds_toArray, List.set_cons_zero, List.set_cons_succ]
    refine Step.take (i := 14) rfl (by kernel_rfl) (by kernel_rfl) (by kernel_rfl) (fun _ _ _ h => h) (by rfl) (by (intro w hSw; (try dsimp only at hSw); go_simp; try (with_reducible rfl))) (by assumption) ?_
    try simp only [Act.put, List.setIfInBounds_toArray, List.set_cons_zero, List.set_cons_succ]
    refine wpAnyH_done (by kernel_rfl) ?_ _
    by_cases hN : N = 0
    · subst hN
      go_wp2_with fail
      go_ret
      exact ⟨by rw [HR.out]; rfl, H3.out⟩
    · have hN2 : (N == 0) = false := by simpa using hN
      have hN3 : decide (N = 0) = false := by simpa using hN
      go_wp2_with fail
      go_ret
      exact ⟨by rw [HR.out, hN3]; rfl, H3.out⟩

set_option maxRecDepth 100000 in
set_option maxHeartbeats 4000000 in
theorem refRight_any (s : ByteArray) (hs : s.size ≤ 3000) (f t : Int) (w : World) :
    Calls Try.prog 17 #[.string s, .agg #[.int .i64 f, .int .i64 t]] w fun e w' => e = .returned (.bool (right s f t)) ∧ Below w.heap.size w w' := by
  have hR := Lib.hid (show right s f t = if (Head.get s).2.2 ≠ 0 then false else if s.size < cutAt s then false else (Inet.covc (s.extract 0 (cutAt s)) (s.extract (cutAt s) s.size) (Head.get s).1.cover).2 && decide (summed (s.extract 0 (cutAt s)) (s.extract (cutAt s) s.size) (Head.get s).1.cover f t = 0) from rfl)
  have CG := Lib.hid (fun w => Head.refGet_any s (by omega) w)
  obtain ⟨hm, hm2⟩ := cutAt_words s
  have e0 := ext_le s 0 (cutAt s)
  have e1 := ext_le s (cutAt s) s.size
  have CS := Lib.hid (fun w => refsum_any (s.extract 0 (cutAt s)) (s.extract (cutAt s) s.size) (Head.get s).1.cover f t (by omega) (by omega) w)
  have hA := place_new w f t
  have hb := Lib.hid ((Below.refl w.heap.size w).alloc (Nat.le_refl _) (.cells #[.int .i64 f, .int .i64 t] 26))
  have hsz : w.heap.size < (w.alloc (.cells #[.int .i64 f, .int .i64 t] 26)).heap.size := by simp
  unfold Head.GetEnd at CG
  generalize right s f t = R at *
  generalize (Inet.covc (s.extract 0 (cutAt s)) (s.extract (cutAt s) s.size) (Head.get s).1.cover).2 = ok at *
  generalize summed (s.extract 0 (cutAt s)) (s.extract (cutAt s) s.size) (Head.get s).1.cover f t = N at *
  generalize (Head.get s).2.2 = er at *
  generalize (Head.get s).2.1 = re at *
  generalize cutAt s = m at *
  generalize (Head.get s).1 = g at *
  go_enter Try.func17, Try.ntmps17
  go_wp2_with fail
  refine (CG.out _).mono ?_
  rintro e w1 ⟨rfl, h1⟩
  have n1 := Head.Box9.new w1 g
  have hx := (Below.refl w1.heap.size w1).alloc (Nat.le_refl _) (.cells (Head.rowOf g) 43)
  obtain ⟨V, hV⟩ : ∃ V, w1.alloc (.cells (Head.rowOf g) 43) = V := ⟨_, rfl⟩
  have H1 := hb.out.trans (h1.mono hb.out.size)
  have HV := Lib.hid (show Below w.heap.size w V by rw [← hV]; exact H1.trans (hx.mono H1.size))
  have AV : V.heap[w.heap.size]? = some (.cells #[.int .i64 f, .int .i64 t] 26 (0, 0)) := by
    rw [← hV]
    exact (Below.heap_alloc _ _ _ (by have := h1.size; omega)).trans ((h1.block _ hsz).trans hA)
  have nV : Head.Box9 V w1.heap.size g := by rw [← hV]; exact n1
  clear hA hb hsz h1 n1 hx H1 CG
  obtain ⟨c0, c1, c2, c3, c4, c5, c6, c7, c8⟩ := nV.cell
  have w0 : 0 ≤ g.words ∧ g.words ≤ 255 := by omega
  have hm' : IntKind.i64.wrap (4 * g.words) = m := by rw [IntKind.wrap_i64, ← hm]; omega
  have hm3 : IntKind.i64.wrap (m : Int) = m := by rw [IntKind.wrap_i64]; omega
  clear c0 c1 c3 c5 c6 c7 c8
  by_cases her : er = 0
  case neg =>
    have hcb : (er != 0) = true := by simpa using her
    have HR := Lib.hid (hR.out.trans (if_pos her))
    go_wp2_with fail
    go_ret
    exact ⟨by rw [HR.out]; rfl, HV.out⟩
  subst her
  have hcb : ((0 : Int) != 0) = false := rfl
  replace hR := Lib.hid (hR.out.trans (if_neg (fun h => h rfl)))
  by_cases hlt : s.size < m
  case pos =>
    have hlt' : (s.size : Int) < (m : Int) := by omega
    have HR := Lib.hid (hR.out.trans (if_pos hlt))
    go_wp2_with fail
    go_ret
    exact ⟨by rw [HR.out]; rfl, HV.out⟩
  have hlt' : ¬ (s.size : Int) < (m : Int) := by omega
  have HR := Lib.hid (hR.out.trans (if_neg hlt))
  have g0 : (0 : Int) ≤ (m : Int) := by omega
  have g1 : (m : Int) ≤ (s.size : Int) := by omega
  go_wp2_with fail
  have v1 : V.heap[w.heap.size]? = some (.cells #[.int .i64 f, .int .i64 t] 26 (0, 0)) ∧ V.cell? ⟨w1.heap.size, 2, none⟩ = some (.int .i64 g.words) ∧ V.cell? ⟨w1.heap.size, 4, none⟩ = some (.int .i64 g.cover) := ⟨AV, c2, c4⟩
  have KV := Lib.hid (show ∀ W', Below V.heap.size V W' → W'.heap[w.heap.size]? = some (.cells #[.int .i64 f, .int .i64 t] 26 (0, 0)) ∧ W'.cell? ⟨w1.heap.size, 2, none⟩ = some (.int .i64 g.words) ∧ W'.cell? ⟨w1.heap.size, 4, none⟩ = some (.int .i64 g.cover) from fun W' h' => by
    have n' := nV.below h' nV.lt
    exact ⟨(h'.block _ (Array.getElem?_eq_some_iff.1 AV).1).trans AV, n'.cell.2.2.1, n'.cell.2.2.2.2.1⟩)
  cases ok
  case false =>
    refine Step.start (S := (fun w' => w'.heap[w.heap.size]? = some (.cells #[.int .i64 f, .int .i64 t] 26 (0, 0)) ∧ w'.cell? ⟨w1.heap.size, 2, none⟩ = some (.int .i64 g.words) ∧ w'.cell? ⟨w1.heap.size, 4, none⟩ = some (.int .i64 g.cover))) (by kernel_rfl) (by (try dsimp only); first | exact v1 | exact v3) (fun hHeld => ?_)
    refine Step.take (i := 0) rfl (by kernel_rfl) (by kernel_rfl) (by kernel_rfl) (fun _ _ _ h => h) (by rfl) (by (intro w hSw; (try dsimp only at hSw); go_simp; try (with_reducible rfl))) (by assumption) ?_
    try simp only [Act.put, List.setIfInBounds_toArray, List.set_cons_zero, List.set_cons_succ]
    refine Step.take (i := 1) rfl (by kernel_rfl) (by kernel_rfl) (by kernel_rfl) (fun _ _ _ h => h) (by rfl) (by (intro w hSw; (try dsimp only at hSw); go_simp; try (with_reducible rfl))) (by assumption) ?_
    try simp only [Act.put, List.setIfInBounds_toArray, List.set_cons_zero, List.set_cons_succ]
    refine Step.take (i := 2) rfl (by kernel_rfl) (by kernel_rfl) (by kernel_rfl) (fun _ _ _ h => h) (by rfl) (by (intro w hSw; (try dsimp only at hSw); go_simp; try (with_reducible rfl))) (by assumption) ?_
    try simp only [Act.put, List.setIfInBounds_toArray, List.set_cons_zero, List.set_cons_succ]
    refine Step.take (i := 3) rfl (by kernel_rfl) (by kernel_rfl) (by kernel_rfl) (fun _ _ _ h => h) (by rfl) (by (intro w hSw; (try dsimp only at hSw); go_simp; try (with_reducible rfl))) (by assumption) ?_
    try simp only [Act.put, List.setIfInBounds_toArray, List.set_cons_zero, List.set_cons_succ]
    refine Step.take (i := 4) rfl (by kernel_rfl) (by kernel_rfl) (by kernel_rfl) (fun _ _ _ h => h) (by rfl) (by (intro w hSw; (try dsimp only at hSw); go_simp; try (with_reducible rfl))) (by assumption) ?_
    try simp only [Act.put, List.setIfInBounds_toArray, List.set_cons_zero, List.set_cons_succ]
    refine Step.take (i := 5) rfl (by kernel_rfl) (by kernel_rfl) (by kernel_rfl) (fun _ _ _ h => h) (by rfl) (by (intro w hSw; (try dsimp only at hSw); go_simp; try (with_reducible rfl))) (by assumption) ?_
    try simp only [Act.put, List.setIfInBounds_toArray, List.set_cons_zero, List.set_cons_succ]
    refine Step.take (i := 6) rfl (by kernel_rfl) (by kernel_rfl) (by kernel_rfl) (fun _ _ _ h => h) (by rfl) (by (intro w hSw; (try dsimp only at hSw); go_simp; try (with_reducible rfl))) (by assumption) ?_
    try simp only [Act.put, List.setIfInBounds_toArray, List.set_cons_zero, List.set_cons_succ]
    refine Step.take (i := 7) rfl (by kernel_rfl) (by kernel_rfl) (by kernel_rfl) (fun _ _ _ h => h) (by rfl) (by (intro w hSw; (try dsimp only at hSw); go_simp; try (with_reducible rfl))) (by assumption) ?_
    try simp only [Act.put, List.setIfInBounds_toArray, List.set_cons_zero, List.set_cons_succ]
    refine Step.take (i := 8) rfl (by kernel_rfl) (by kernel_rfl) (by kernel_rfl) (fun _ _ _ h => h) (by rfl) (by (intro w hSw; (try dsimp only at hSw); go_simp; try (with_reducible rfl))) (by assumption) ?_
    try simp only [Act.put, List.setIfInBounds_toArray, List.set_cons_zero, List.set_cons_succ]
    refine Step.take (i := 9) rfl (by kernel_rfl) (by kernel_rfl) (by kernel_rfl) (fun _ _ _ h => h) (by rfl) (by (intro w hSw; (try dsimp only at hSw); go_simp; try (with_reducible rfl))) (by assumption) ?_
    try simp only [Act.put, List.setIfInBounds_toArray, List.set_cons_zero, List.set_cons_succ]
    refine Step.take (i := 10) rfl (by kernel_rfl) (by kernel_rfl) (by kernel_rfl) (fun _ _ _ h => h) (by rfl) (by (intro w hSw; (try dsimp only at hSw); go_simp; try (with_reducible rfl))) (by assumption) ?_
    try simp only [Act.put, List.setIfInBounds_toArray, List.set_cons_zero, List.set_cons_succ]
    refine Step.take (i := 11) rfl (by kernel_rfl) (by kernel_rfl) (by kernel_rfl) (fun _ _ _ h => h) (by rfl) (by (intro w hSw; (try dsimp only at hSw); go_simp; try (with_reducible rfl))) (by assumption) ?_
    try simp only [Act.put, List.setIfInBounds_toArray, List.set_cons_zero, List.set_cons_succ]
    refine Step.load (i := 12) rfl (by kernel_rfl) (by kernel_rfl) (by kernel_rfl) w.heap.size #[.int .i64 f, .int .i64 t] 26 (0, 0) _ (fun w hSw => hSw.1) Try.underlying26 rfl (hi2 _ _) (fun _ _ _ h => h) (by rfl) rfl (by assumption) ?_
    try simp only [Act.put, List.setIfInBounds_toArray, List.set_cons_zero, List.set_cons_succ]
    refine Step.call (i := 13) rfl (by kernel_rfl) (by rfl) (fun K hK => ?_)
    go_simp
    (go_at_call 24; refine (CS.out _).mono ?_; rintro e w3 ⟨rfl, h3⟩; have H3 := Lib.hid (HV.out.trans ((at_drewm h3).mono HV.out.size)); have v3 : (w3.heap[w.heap.size]? = some (.cells #[.int .i64 f, .int .i64 t] 26 (0, 0)) ∧ w3.cell? ⟨w1.heap.size, 2, none⟩ = some (.int .i64 g.words) ∧ w3.cell? ⟨w1.heap.size, 4, none⟩ = some (.int .i64 g.cover)) := KV.out _ (at_drewm h3); clear h3)
    try (go_wp2_with fail)
    refine hK.out _ _ (by (try dsimp only); first | exact v1 | exact v3) (fun hHeld => ?_)
    clear hK K
    try simp only [Act.put, List.setIfInBounds_toArray, List.set_cons_zero, List.set_cons_succ]
    refine Step.take (i := 14) rfl (by kernel_rfl) (by kernel_rfl) (by kernel_rfl) (fun _ _ _ h => h) (by rfl) (by (intro w hSw; (try dsimp only at hSw); go_simp; try (with_reducible rfl))) (by assumption) ?_
    try simp only [Act.put, List.setIfInBounds_toArray, List.set_cons_zero, List.set_cons_succ]
    refine Step.take (i := 15) rfl (by kernel_rfl) (by kernel_rfl) (by kernel_rfl) (fun _ _ _ h => h) (by rfl) (by (intro w hSw; (try dsimp only at hSw); go_simp; try (with_reducible rfl))) (by assumption) ?_
    try simp only [Act.put, List.setIfInBounds_toArray, List.set_cons_zero, List.set_cons_succ]
    refine Step.take (i := 16) rfl (by kernel_rfl) (by kernel_rfl) (by kernel_rfl) (fun _ _ _ h => h) (by rfl) (by (intro w hSw; (try dsimp only at hSw); go_simp; try (with_reducible rfl))) (by assumption) ?_
    try simp only [Act.put, List.setIfInBounds_toArray, List.set_cons_zero, List.set_cons_succ]
    refine Step.take (i := 17) rfl (by kernel_rfl) (by kernel_rfl) (by kernel_rfl) (fun _ _ _ h => h) (by rfl) (by (intro w hSw; (try dsimp only at hSw); go_simp; try (with_reducible rfl))) (by assumption) ?_
    try simp only [Act.put, List.setIfInBounds_toArray, List.set_cons_zero, List.set_cons_succ]
    refine Step.take (i := 18) rfl (by kernel_rfl) (by kernel_rfl) (by kernel_rfl) (fun _ _ _ h => h) (by rfl) (by (intro w hSw; (try dsimp only at hSw); go_simp; try (with_reducible rfl))) (by assumption) ?_
    try simp only [Act.put, List.setIfInBounds_toArray, List.set_cons_zero, List.set_cons_succ]
    refine wpAnyH_done (by kernel_rfl) ?_ _
    go_wp2_with fail
    go_ret
    exact ⟨by rw [HR.out]; rfl, H3.out⟩
  case true =>
    refine Step.start (S := (fun w' => w'.heap[w.heap.size]? = some (.cells #[.int .i64 f, .int .i64 t] 26 (0, 0)) ∧ w'.cell? ⟨w1.heap.size, 2, none⟩ = some (.int .i64 g.words) ∧ w'.cell? ⟨w1.heap.size, 4, none⟩ = some (.int .i64 g.cover))) (by kernel_rfl) (by (try dsimp only); first | exact v1 | exact v3) (fun hHeld => ?_)
    refine Step.take (i := 0) rfl (by kernel_rfl) (by kernel_rfl) (by kernel_rfl) (fun _ _ _ h => h) (by rfl) (by (intro w hSw; (try dsimp only at hSw); go_simp; try (with_reducible rfl))) (by assumption) ?_
    try simp only [Act.put, List.setIfInBounds_toArray, List.set_cons_zero, List.set_cons_succ]
    refine Step.take (i := 1) rfl (by kernel_rfl) (by kernel_rfl) (by kernel_rfl) (fun _ _ _ h => h) (by rfl) (by (intro w hSw; (try dsimp only at hSw); go_simp; try (with_reducible rfl))) (by assumption) ?_
    try simp only [Act.put, List.setIfInBounds_toArray, List.set_cons_zero, List.set_cons_succ]
    refine Step.take (i := 2) rfl (by kernel_rfl) (by kernel_rfl) (by kernel_rfl) (fun _ _ _ h => h) (by rfl) (by (intro w hSw; (try dsimp only at hSw); go_simp; try (with_reducible rfl))) (by assumption) ?_
    try simp only [Act.put, List.setIfInBounds_toArray, List.set_cons_zero, List.set_cons_succ]
    refine Step.take (i := 3) rfl (by kernel_rfl) (by kernel_rfl) (by kernel_rfl) (fun _ _ _ h => h) (by rfl) (by (intro w hSw; (try dsimp only at hSw); go_simp; try (with_reducible rfl))) (by assumption) ?_
    try simp only [Act.put, List.setIfInBounds_toArray, List.set_cons_zero, List.set_cons_succ]
    refine Step.take (i := 4) rfl (by kernel_rfl) (by kernel_rfl) (by kernel_rfl) (fun _ _ _ h => h) (by rfl) (by (intro w hSw; (try dsimp only at hSw); go_simp; try (with_reducible rfl))) (by assumption) ?_
    try simp only [Act.put, List.setIfInBounds_toArray, List.set_cons_zero, List.set_cons_succ]
    refine Step.take (i := 5) rfl (by kernel_rfl) (by kernel_rfl) (by kernel_rfl) (fun _ _ _ h => h) (by rfl) (by (intro w hSw; (try dsimp only at hSw); go_simp; try (with_reducible rfl))) (by assumption) ?_
    try simp only [Act.put, List.setIfInBounds_toArray, List.set_cons_zero, List.set_cons_succ]
    refine Step.take (i := 6) rfl (by kernel_rfl) (by kernel_rfl) (by kernel_rfl) (fun _ _ _ h => h) (by rfl) (by (intro w hSw; (try dsimp only at hSw); go_simp; try (with_reducible rfl))) (by assumption) ?_
    try simp only [Act.put, List.setIfInBounds_toArray, List.set_cons_zero, List.set_cons_succ]
    refine Step.take (i := 7) rfl (by kernel_rfl) (by kernel_rfl) (by kernel_rfl) (fun _ _ _ h => h) (by rfl) (by (intro w hSw; (try dsimp only at hSw); go_simp; try (with_reducible rfl))) (by assumption) ?_
    try simp only [Act.put, List.setIfInBounds_toArray, List.set_cons_zero, List.set_cons_succ]
    refine Step.take (i := 8) rfl (by kernel_rfl) (by kernel_rfl) (by kernel_rfl) (fun _ _ _ h => h) (by rfl) (by (intro w hSw; (try dsimp only at hSw); go_simp; try (with_reducible rfl))) (by assumption) ?_
    try simp only [Act.put, List.setIfInBounds_toArray, List.set_cons_zero, List.set_cons_succ]
    refine Step.take (i := 9) rfl (by kernel_rfl) (by kernel_rfl) (by kernel_rfl) (fun _ _ _ h => h) (by rfl) (by (intro w hSw; (try dsimp only at hSw); go_simp; try (with_reducible rfl))) (by assumption) ?_
    try simp only [Act.put, List.setIfInBounds_toArray, List.set_cons_zero, List.set_cons_succ]
    refine Step.take (i := 10) rfl (by kernel_rfl) (by kernel_rfl) (by kernel_rfl) (fun _ _ _ h => h) (by rfl) (by (intro w hSw; (try dsimp only at hSw); go_simp; try (with_reducible rfl))) (by assumption) ?_
    try simp only [Act.put, List.setIfInBounds_toArray, List.set_cons_zero, List.set_cons_succ]
    refine Step.take (i := 11) rfl (by kernel_rfl) (by kernel_rfl) (by kernel_rfl) (fun _ _ _ h => h) (by rfl) (by (intro w hSw; (try dsimp only at hSw); go_simp; try (with_reducible rfl))) (by assumption) ?_
    try simp only [Act.put, List.setIfInBounds_toArray, List.set_cons_zero, List.set_cons_succ]
    refine Step.load (i := 12) rfl (by kernel_rfl) (by kernel_rfl) (by kernel_rfl) w.heap.size #[.int .i64 f, .int .i64 t] 26 (0, 0) _ (fun w hSw => hSw.1) Try.underlying26 rfl (hi2 _ _) (fun _ _ _ h => h) (by rfl) rfl (by assumption) ?_
    try simp only [Act.put, List.setIfInBounds_toArray, List.set_cons_zero, List.set_cons_succ]
    refine Step.call (i := 13) rfl (by kernel_rfl) (by rfl) (fun K hK => ?_)
    go_simp
    (go_at_call 24; refine (CS.out _).mono ?_; rintro e w3 ⟨rfl, h3⟩; have H3 := Lib.hid (HV.out.trans ((at_drewm h3).mono HV.out.size)); have v3 : (w3.heap[w.heap.size]? = some (.cells #[.int .i64 f, .int .i64 t] 26 (0, 0)) ∧ w3.cell? ⟨w1.heap.size, 2, none⟩ = some (.int .i64 g.words) ∧ w3.cell? ⟨w1.heap.size, 4, none⟩ = some (.int .i64 g.cover)) := KV.out _ (at_drewm h3); clear h3)
    try (go_wp2_with fail)
    refine hK.out _ _ (by (try dsimp only); first | exact v1 | exact v3) (fun hHeld => ?_)
    clear hK K
    try simp only [Act.put, List.setIfInBounds_toArray, List.set_cons_zero, List.set_cons_succ]
    refine Step.take (i := 14) rfl (by kernel_rfl) (by kernel_rfl) (by kernel_rfl) (fun _ _ _ h => h) (by rfl) (by (intro w hSw; (try dsimp only at hSw); go_simp; try (with_reducible rfl))) (by assumption) ?_
    try simp only [Act.put, List.setIfInBounds_toArray, List.set_cons_zero, List.set_cons_succ]
    refine Step.take (i := 15) rfl (by kernel_rfl) (by kernel_rfl) (by kernel_rfl) (fun _ _ _ h => h) (by rfl) (by (intro w hSw; (try dsimp only at hSw); go_simp; try (with_reducible rfl))) (by assumption) ?_
    try simp only [Act.put, List.setIfInBounds_toArray, List.set_cons_zero, List.set_cons_succ]
    refine Step.take (i := 16) rfl (by kernel_rfl) (by kernel_rfl) (by kernel_rfl) (fun _ _ _ h => h) (by rfl) (by (intro w hSw; (try dsimp only at hSw); go_simp; try (with_reducible rfl))) (by assumption) ?_
    try simp only [Act.put, List.setIfInBounds_toArray, List.set_cons_zero, List.set_cons_succ]
    refine Step.take (i := 17) rfl (by kernel_rfl) (by kernel_rfl) (by kernel_rfl) (fun _ _ _ h => h) (by rfl) (by (intro w hSw; (try dsimp only at hSw); go_simp; try (with_reducible rfl))) (by assumption) ?_
    try simp only [Act.put, List.setIfInBounds_toArray, List.set_cons_zero, List.set_cons_succ]
    refine Step.take (i := 18) rfl (by kernel_rfl) (by kernel_rfl) (by kernel_rfl) (fun _ _ _ h => h) (by rfl) (by (intro w hSw; (try dsimp only at hSw); go_simp; try (with_reducible rfl))) (by assumption) ?_
    try simp only [Act.put, List.setIfInBounds_toArray, List.set_cons_zero, List.set_cons_succ]
    refine wpAnyH_done (by kernel_rfl) ?_ _
    by_cases hN : N = 0
    · subst hN
      go_wp2_with fail
      go_ret
      exact ⟨by rw [HR.out]; rfl, H3.out⟩
    · have hN2 : (N == 0) = false := by simpa using hN
      have hN3 : decide (N = 0) = false := by simpa using hN
      go_wp2_with fail
      go_ret
      exact ⟨by rw [HR.out, hN3]; rfl, H3.out⟩

end Go.Proofs.Ytkjojfcknfhkhaa.Pkt

namespace Go.Proofs.Ytkjojfcknfhkhaa.Pkt
open Go.ChangeShapes Go.WideShapes Go.ChangeAt Go.RowKit
open Go.Proofs.Ytkjojfcknfhkhaa.Opt (O OptsAt Fit getErr getOpts)
open Go.Proofs.Ytkjojfcknfhkhaa.Head (fld acks nOf At Stp)
open Go.Proofs.Ytkjojfcknfhkhaa.Oct (RefAt unread whole)
set_option linter.unusedVariables false

/-- where things stand behind the beginning -/
def o1 (k : Int) (l : Bool) : Nat := if acks k then (if l then 8 else 4) else 0
def o2 (k : Int) (l : Bool) : Nat := o1 k l + if k < 2 ∨ k = 7 then 4 else 0
def keptN (k : Int) (l : Bool) (r : ByteArray) : Int := if acks k then (if l then fld r 0 2 else fld r 0 1) else 0
def ackN (k : Int) (l : Bool) (r : ByteArray) : Int := if acks k then (if l then fld r 2 6 else fld r 1 3) else 0
def servN (k : Int) (l : Bool) (r : ByteArray) : Int := if k < 2 then fld r (o1 k l) 4 else 0
def codeN (k : Int) (l : Bool) (r : ByteArray) : Int := if k = 7 then fld r (o1 k l) 1 else 0
def detN (k : Int) (l : Bool) (r : ByteArray) : Int := if k = 7 then fld r (o1 k l + 1) 3 else 0

/-- what stands between the beginning and the data, and the data -/
def midOf (s : ByteArray) : ByteArray := (Head.get s).2.1.extract 0 (cutAt s - (s.size - (Head.get s).2.1.size))
def dataOf (s : ByteArray) : ByteArray := s.extract (cutAt s) s.size
def optsOf (s : ByteArray) : ByteArray := (midOf s).extract (o2 (Head.get s).1.kind (Head.get s).1.long) (midOf s).size
def readOf (s : ByteArray) (os : List O) : K :=
  ⟨(Head.get s).1.kind, (Head.get s).1.long, (Head.get s).1.src, (Head.get s).1.dst, (Head.get s).1.cc, (Head.get s).1.cover, (Head.get s).1.seq,
    ackN (Head.get s).1.kind (Head.get s).1.long (midOf s), servN (Head.get s).1.kind (Head.get s).1.long (midOf s), codeN (Head.get s).1.kind (Head.get s).1.long (midOf s), detN (Head.get s).1.kind (Head.get s).1.long (midOf s), os, dataOf s⟩
def heldN (p : K) : Int := if 200 < p.data.size then 11 else if spare p = true then 4 else 0

def get (s : ByteArray) (f t : Int) : K × Int :=
  if 700 < s.size then (K.none, 11)
  else if (Head.get s).2.2 ≠ 0 then (K.none, (Head.get s).2.2)
  else if s.size < cutAt s then (K.none, 1)
  else if right s f t = false then (K.none, 5)
  else if keptN (Head.get s).1.kind (Head.get s).1.long (midOf s) ≠ 0 then (K.none, 4)
  else if getErr (optsOf s) ≠ 0 then (K.none, getErr (optsOf s))
  else if heldN (readOf s (getOpts (optsOf s))) ≠ 0 then (K.none, heldN (readOf s (getOpts (optsOf s))))
  else (readOf s (getOpts (optsOf s)), 0)

theorem heldN_held (p : K) : heldN p = held p := rfl

/-- what is known of a beginning that is right -/
structure Begun (s : ByteArray) : Prop where
  good : Head.Good (Head.get s).1
  size : s.size - (Head.get s).2.1.size = nOf (Head.get s).1.long
  head : nOf (Head.get s).1.long ≤ s.size
  rest : (Head.get s).2.1 = s.extract (nOf (Head.get s).1.long) s.size
theorem begun {s : ByteArray} (h : (Head.get s).2.2 = 0) : Begun s := by
  by_cases h1 : Head.short s
  · rw [Head.get_short h1] at h; cases h
  · cases h2 : Head.kept s
    case true => rw [Head.get_kept h1 h2] at h; cases h
    case false =>
      by_cases h3 : Head.check (Head.parse s) = 0
      · have e := Head.get_right h1 h2 h3
        have hsz : nOf (Head.isLong s) ≤ s.size := by
          unfold Head.short at h1
          unfold nOf
          split <;> rename_i hl
          · have : ¬ (s.size < 16) := fun x => h1 (.inr ⟨hl, x⟩)
            omega
          · have : ¬ (s.size < 12) := fun x => h1 (.inl x)
            omega
        have hl : (Head.parse s).long = Head.isLong s := rfl
        refine ⟨?_, ?_, ?_, ?_⟩
        · rw [e]; exact (Head.check_ok _).1 h3
        · rw [e]
          show s.size - (s.extract (nOf (Head.isLong s)) s.size).size = nOf (Head.parse s).long
          rw [hl, Head.from_size]; omega
        · rw [e]; exact hl ▸ hsz
        · rw [e]; rw [hl]
      · rw [Head.get_wrong h1 h2 h3] at h; exact absurd h h3

theorem plain_two (k : Int) (l : Bool) (h0 : 0 ≤ k) : Head.plainSize k l = (nOf l : Int) + o2 k l := by
  unfold Head.plainSize nOf o2 o1 Head.own
  have h1 : (k < 2 ∨ k = 7) ↔ (k = 0 ∨ k = 1 ∨ k = 7) := by omega
  by_cases hk : k < 2 ∨ k = 7
  · have hk' := h1.1 hk
    rw [if_pos hk]
    have : (decide (k = 0) || (decide (k = 1) || decide (k = 7))) = true := by simpa using hk'
    rw [this]
    cases l <;> cases acks k <;> rfl
  · have hk' : ¬ (k = 0 ∨ k = 1 ∨ k = 7) := fun x => hk (h1.2 x)
    rw [if_neg hk]
    have : (decide (k = 0) || (decide (k = 1) || decide (k = 7))) = false := by simpa using hk'
    rw [this]
    cases l <;> cases acks k <;> rfl

/-- there is room for what is read -/
theorem Begun.mid {s : ByteArray} (b : Begun s) (h : ¬ s.size < cutAt s) : (midOf s).size = cutAt s - nOf (Head.get s).1.long ∧ nOf (Head.get s).1.long ≤ cutAt s ∧ o2 (Head.get s).1.kind (Head.get s).1.long ≤ (midOf s).size ∧ cutAt s - (s.size - (Head.get s).2.1.size) ≤ (Head.get s).2.1.size ∧ (midOf s).size ≤ 1020 := by
  have hc := cutAt_words s
  have hg := b.good
  have hw := hg.words
  have hs : Head.sizeOf (Head.get s).1.kind (Head.get s).1.long = Head.plainSize (Head.get s).1.kind (Head.get s).1.long := if_pos hg.may
  have hp := plain_two (Head.get s).1.kind (Head.get s).1.long hg.known.1
  have hsz := b.size
  have hh := b.head
  have hm : (midOf s).size = min (cutAt s - (s.size - (Head.get s).2.1.size)) (Head.get s).2.1.size := by
    unfold midOf; simp
  omega

theorem num_ok (b : Nat) (s : ByteArray) (a n : Nat) (size : Int) (hz : size = n) (hn : 1 ≤ n ∧ n ≤ 7) (hs : s.size ≤ 4000) (hl : a + n ≤ s.size) (w : World) (hc : At w b s a 0) :
    Calls Try.prog 87 #[.pointer (some ⟨b, 0, none⟩), .int .i64 size] w fun e w' => e = .returned (.int .i64 (fld s a n)) ∧ At w' b s (a + n) 0 ∧ Oct.Touch b w w' := by
  refine (Head.num_stp b s a n 0 size hz hn hs w hc).mono ?_
  rintro e w' ⟨a', f', v, rfl, h1, h2, h3⟩
  rcases h1 with ⟨-, -, rfl, rfl, rfl⟩ | ⟨-, -, -, h⟩
  · exact ⟨rfl, h2, h3⟩
  · omega

theorem rnum_ok (b : Nat) (s : ByteArray) (a n : Nat) (size : Int) (hz : size = n) (hn : 1 ≤ n ∧ n ≤ 7) (hs : s.size ≤ 4000) (hl : a + n ≤ s.size) (w : World) (hc : RefAt w b s a 0) :
    Calls Try.prog 42 #[.pointer (some ⟨b, 0, none⟩), .int .i64 size] w fun e w' => e = .returned (.int .i64 (fld s a n)) ∧ RefAt w' b s (a + n) 0 ∧ Oct.Touch b w w' := by
  subst hz
  refine (Oct.rn_any b s a 0 n w hs hc).mono ?_
  rintro e w' ⟨rfl, h1, -, h3⟩
  have e1 : Oct.fell1 0 n = 0 := by unfold Oct.fell1; rw [if_neg (by simp), if_neg (by omega)]
  have hu := Oct.unread_size s a
  have e2 : Oct.fellOf (unread s a) 0 n = 0 := by unfold Oct.fellOf; rw [if_neg (by simp), if_neg (by omega), if_neg (by rw [hu]; omega)]
  have e3 : Oct.gotOf (unread s a) 0 n = (unread s a).extract 0 n := by unfold Oct.gotOf; rw [if_pos e2]; rfl
  have e4 : Oct.atOf s a 0 n = a + n := by unfold Oct.atOf; rw [if_pos e2]; rfl
  rw [e1, e2, e4] at h1
  refine ⟨?_, h1, h3⟩
  have e5 : whole ((unread s a).extract 0 n) = fld s a n := Head.whole_fld s a n hn.2
  rw [e1, e3, e5]
  have hf := Head.fld_lt s a n
  have h4 : 256 ^ n ≤ 256 ^ 7 := Nat.pow_le_pow_right (by omega) hn.2
  have h5 : (256 : Nat) ^ 7 = 72057594037927936 := by decide
  congr 2
  unfold wrap64; omega

theorem rrest_ok (b : Nat) (s : ByteArray) (a : Nat) (hs : s.size ≤ 4000) (w : World) (hc : RefAt w b s a 0) :
    Calls Try.prog 44 #[.pointer (some ⟨b, 0, none⟩)] w fun e w' => e = .returned (.string (s.extract a s.size)) ∧ Oct.Touch b w w' := by
  refine (Oct.rr_any b s a 0 w hs hc).mono ?_
  rintro e w' ⟨rfl, -, -, h3⟩
  refine ⟨?_, h3⟩
  have e2 : Oct.fellOf (unread s a) 0 (unread s a).size = 0 := by
    unfold Oct.fellOf
    rw [if_neg (by simp), if_neg (by omega), if_neg (by omega)]
  have e3 : Oct.gotOf (unread s a) 0 (unread s a).size = unread s a := by
    unfold Oct.gotOf; rw [if_pos e2, Int.toNat_natCast]; exact Head.from_zero _
  rw [e3]; rfl

/-- of what was there, two blocks alone may have turned -/
structure Touch2 (b c : Nat) (w w' : World) : Prop where
  os : w'.os = w.os
  tape : w'.tape = w.tape
  output : w'.output = w.output
  size : w.heap.size ≤ w'.heap.size
  block : ∀ k, k < w.heap.size → k ≠ b → k ≠ c → w'.heap[k]? = w.heap[k]?
theorem Touch2.refl (b c : Nat) (w : World) : Touch2 b c w w := ⟨rfl, rfl, rfl, Nat.le_refl _, fun _ _ _ _ => rfl⟩
theorem Touch2.trans {b c : Nat} {x y z : World} (h : Touch2 b c x y) (k : Touch2 b c y z) : Touch2 b c x z :=
  ⟨k.os.trans h.os, k.tape.trans h.tape, k.output.trans h.output, Nat.le_trans h.size k.size, fun i hi hb hc => (k.block i (Nat.lt_of_lt_of_le hi h.size) hb hc).trans (h.block i hi hb hc)⟩
theorem Touch2.right {b c : Nat} {w w' : World} (h : Oct.Touch c w w') : Touch2 b c w w' := ⟨h.os, h.tape, h.output, h.size, fun k hk _ hc => h.block k hk hc⟩
theorem Touch2.below {b c : Nat} {w w' : World} (h : Below w.heap.size w w') : Touch2 b c w w' := ⟨h.os, h.tape, h.output, h.size, fun k hk _ _ => h.block k hk⟩
theorem Touch2.set (b c o : Nat) (w : World) (v : Value) : Touch2 b c w (w.setCell ⟨b, o, none⟩ v) :=
  ⟨rfl, rfl, rfl, by simp [World.setCell], fun k _ hk _ => Below.heap_setCell _ _ _ _ hk⟩
theorem Touch2.toBelow {b c B : Nat} {w w' : World} (h : Touch2 b c w w') (hb : B ≤ b) (hc : B ≤ c) (hB : B ≤ w.heap.size) : Below B w w' :=
  ⟨h.os, h.tape, h.output, h.size, fun k hk => h.block k (by omega) (by omega) (by omega)⟩

theorem BoxK.free {W : World} {A : Nat} {p : K} {a : Option Addr} {cap : Nat} (k : BoxK W A p a cap) (j : Nat) : W.frozen? ⟨A, j, none⟩ = false := frozen_of_row _ _ _ _ _ k
theorem BoxK.set7 {W : World} {A : Nat} {p : K} {a : Option Addr} {cap : Nat} (k : BoxK W A p a cap) (v : Int) : BoxK (W.setCell ⟨A, 7, none⟩ (.int .i64 v)) A { p with ack := v } a cap := by
  unfold BoxK; rw [heap_setCell_same _ _ _ _ _ _ k]; rfl
theorem BoxK.set8 {W : World} {A : Nat} {p : K} {a : Option Addr} {cap : Nat} (k : BoxK W A p a cap) (v : Int) : BoxK (W.setCell ⟨A, 8, none⟩ (.int .i64 v)) A { p with service := v } a cap := by
  unfold BoxK; rw [heap_setCell_same _ _ _ _ _ _ k]; rfl
theorem BoxK.set9 {W : World} {A : Nat} {p : K} {a : Option Addr} {cap : Nat} (k : BoxK W A p a cap) (v : Int) : BoxK (W.setCell ⟨A, 9, none⟩ (.int .i64 v)) A { p with code := v } a cap := by
  unfold BoxK; rw [heap_setCell_same _ _ _ _ _ _ k]; rfl
theorem BoxK.set10 {W : World} {A : Nat} {p : K} {a : Option Addr} {cap : Nat} (k : BoxK W A p a cap) (v : Int) : BoxK (W.setCell ⟨A, 10, none⟩ (.int .i64 v)) A { p with detail := v } a cap := by
  unfold BoxK; rw [heap_setCell_same _ _ _ _ _ _ k]; rfl
theorem BoxK.set11 {W : World} {A : Nat} {p : K} {a : Option Addr} {cap : Nat} (k : BoxK W A p a cap) (l : List O) (a' : Option Addr) (cap' : Nat) : BoxK (W.setCell ⟨A, 11, none⟩ (.slice a' l.length cap')) A { p with opts := l } a' cap' := by
  unfold BoxK; rw [heap_setCell_same _ _ _ _ _ _ k]; rfl
theorem BoxK.set12 {W : World} {A : Nat} {p : K} {a : Option Addr} {cap : Nat} (k : BoxK W A p a cap) (d : ByteArray) : BoxK (W.setCell ⟨A, 12, none⟩ (.string d)) A { p with data := d } a cap := by
  unfold BoxK; rw [heap_setCell_same _ _ _ _ _ _ k]; rfl
theorem BoxK.of_block {w w' : World} {A : Nat} {p : K} {a : Option Addr} {cap : Nat} (h : BoxK w A p a cap) (e : w'.heap[A]? = w.heap[A]?) : BoxK w' A p a cap := e.trans h

/-- where the reads of what stands behind a beginning stand -/
structure RO (w : World) (pb cb : Nat) (r : ByteArray) (off : Nat) (p : K) (a : Option Addr) (cap : Nat) (W : World) : Prop where
  cut : At W cb r off 0
  box : BoxK W pb p a cap
  touch : Touch2 pb cb w W
  ne : pb ≠ cb
theorem RO.below {w : World} {pb cb : Nat} {r : ByteArray} {off : Nat} {p : K} {a : Option Addr} {cap : Nat} {W W' : World} (h : RO w pb cb r off p a cap W) (hb : Below W.heap.size W W') : RO w pb cb r off p a cap W' :=
  ⟨h.cut.of_block (hb.block _ h.cut.cut.lt), h.box.of_block (hb.block _ h.box.lt), h.touch.trans (Touch2.below hb), h.ne⟩
theorem RO.num {w : World} {pb cb : Nat} {r : ByteArray} {off off' : Nat} {p : K} {a : Option Addr} {cap : Nat} {W W' : World} (h : RO w pb cb r off p a cap W) (hc : At W' cb r off' 0) (ht : Oct.Touch cb W W') : RO w pb cb r off' p a cap W' :=
  ⟨hc, h.box.of_block (ht.block _ h.box.lt h.ne), h.touch.trans (Touch2.right ht), h.ne⟩
theorem RO.set {w : World} {pb cb : Nat} {r : ByteArray} {off : Nat} {p p' : K} {a : Option Addr} {cap : Nat} {W : World} (h : RO w pb cb r off p a cap W) (o : Nat) (v : Value) (hb : BoxK (W.setCell ⟨pb, o, none⟩ v) pb p' a cap) : RO w pb cb r off p' a cap (W.setCell ⟨pb, o, none⟩ v) :=
  ⟨h.cut.of_block (heap_setCell_other _ _ _ _ (fun e => h.ne e.symm)), hb, h.touch.trans (Touch2.set _ _ _ _ _), h.ne⟩

/-- the same, over the document's cut -/
structure RQ (w : World) (pb cb : Nat) (r : ByteArray) (off : Nat) (p : K) (a : Option Addr) (cap : Nat) (W : World) : Prop where
  cut : RefAt W cb r off 0
  box : BoxK W pb p a cap
  touch : Touch2 pb cb w W
  ne : pb ≠ cb
theorem RQ.below {w : World} {pb cb : Nat} {r : ByteArray} {off : Nat} {p : K} {a : Option Addr} {cap : Nat} {W W' : World} (h : RQ w pb cb r off p a cap W) (hb : Below W.heap.size W W') : RQ w pb cb r off p a cap W' :=
  ⟨h.cut.of_block (hb.block _ h.cut.lt), h.box.of_block (hb.block _ h.box.lt), h.touch.trans (Touch2.below hb), h.ne⟩
theorem RQ.num {w : World} {pb cb : Nat} {r : ByteArray} {off off' : Nat} {p : K} {a : Option Addr} {cap : Nat} {W W' : World} (h : RQ w pb cb r off p a cap W) (hc : RefAt W' cb r off' 0) (ht : Oct.Touch cb W W') : RQ w pb cb r off' p a cap W' :=
  ⟨hc, h.box.of_block (ht.block _ h.box.lt h.ne), h.touch.trans (Touch2.right ht), h.ne⟩
theorem RQ.set {w : World} {pb cb : Nat} {r : ByteArray} {off : Nat} {p p' : K} {a : Option Addr} {cap : Nat} {W : World} (h : RQ w pb cb r off p a cap W) (o : Nat) (v : Value) (hb : BoxK (W.setCell ⟨pb, o, none⟩ v) pb p' a cap) : RQ w pb cb r off p' a cap (W.setCell ⟨pb, o, none⟩ v) :=
  ⟨h.cut.of_block (heap_setCell_other _ _ _ _ (fun e => h.ne e.symm)), hb, h.touch.trans (Touch2.set _ _ _ _ _), h.ne⟩
end Go.Proofs.Ytkjojfcknfhkhaa.Pkt

namespace Go.Proofs.Ytkjojfcknfhkhaa.Pkt
open Go.ChangeShapes Go.WideShapes Go.ChangeAt Go.RowKit
open Go.Proofs.Ytkjojfcknfhkhaa.Opt (O OptsAt Fit)
open Go.Proofs.Ytkjojfcknfhkhaa.Head (fld acks nOf At Acks_any)
set_option linter.unusedVariables false

theorem BoxK.some {W : World} {A : Nat} {k s d cc cv q ak sv co de : Int} {l : Bool} {os : List O} {da : ByteArray} {a : Option Addr} {cap : Nat} (h : BoxK W A ⟨k, l, s, d, cc, cv, q, ak, sv, co, de, os, da⟩ a cap) :
    (W.cell? ⟨A, 0, none⟩ = some (.int .i64 k) ∧ W.cell? ⟨A, 1, none⟩ = some (.bool l)) ∧ (W.cell? ⟨A, 7, none⟩ = some (.int .i64 ak) ∧ W.frozen? ⟨A, 7, none⟩ = false) ∧ (W.cell? ⟨A, 8, none⟩ = some (.int .i64 sv) ∧ W.frozen? ⟨A, 8, none⟩ = false) ∧ (W.cell? ⟨A, 9, none⟩ = some (.int .i64 co) ∧ W.frozen? ⟨A, 9, none⟩ = false) ∧ W.cell? ⟨A, 10, none⟩ = some (.int .i64 de) ∧ W.frozen? ⟨A, 10, none⟩ = false :=
  ⟨⟨h.cell.1, h.cell.2.1⟩, ⟨h.cell.2.2.2.2.2.2.2.1, h.free 7⟩, ⟨h.cell.2.2.2.2.2.2.2.2.1, h.free 8⟩, ⟨h.cell.2.2.2.2.2.2.2.2.2.1, h.free 9⟩, h.cell.2.2.2.2.2.2.2.2.2.2.1, h.free 10⟩

set_option maxRecDepth 100000 in
set_option maxHeartbeats 40000000 in
theorem readOwn_any (pb cb : Nat) (p : K) (r : ByteArray) (a : Option Addr) (cap : Nat) (w : World) (hk : 0 ≤ p.kind) (hz : p.ack = 0 ∧ p.service = 0 ∧ p.code = 0 ∧ p.detail = 0) (hr : r.size ≤ 4000) (h2 : o2 p.kind p.long ≤ r.size)
    (hc : At w cb r 0 0) (hb : BoxK w pb p a cap) (hne : pb ≠ cb) :
    Calls Try.prog 75 #[.pointer (some ⟨pb, 0, none⟩), .pointer (some ⟨cb, 0, none⟩)] w
      fun e w' => e = .returned (.bool (keptN p.kind p.long r == 0)) ∧ RO w pb cb r (o2 p.kind p.long) { p with ack := ackN p.kind p.long r, service := servN p.kind p.long r, code := codeN p.kind p.long r, detail := detN p.kind p.long r } a cap w' := by
  have CA := Lib.hid (fun w => Acks_any p.kind w)
  have CS := Lib.hid (fun w => serves_any p.kind hk w)
  have CZ := Lib.hid (fun w => ackSizes_any p.long w)
  have R0 : RO w pb cb r 0 p a cap w := ⟨hc, hb, Touch2.refl _ _ _, hne⟩
  clear hc hb
  obtain ⟨k, l, s, d, cc, cv, q, ak, sv, co, de, os, da⟩ := p
  dsimp only at *
  obtain ⟨rfl, rfl, rfl, rfl⟩ := hz
  obtain ⟨b2, e2⟩ : ∃ b, decide (k < 2) = b := ⟨_, rfl⟩
  obtain ⟨b7, e7⟩ : ∃ b, (k == 7) = b := ⟨_, rfl⟩
  have e7' : decide (k = 7) = b7 := e7
  have e27 : decide (k < 2 ∨ k = 7) = (b2 || b7) := by rw [← e2, ← e7']; by_cases h1 : k < 2 <;> by_cases h2 : k = 7 <;> simp [h1, h2]
  have E1 : o1 k l = if acks k = true then (if l = true then 8 else 4) else 0 := rfl
  have EO : o2 k l = o1 k l + if (b2 || b7) = true then 4 else 0 := by unfold o2; rw [← e27]; simp only [decide_eq_true_eq]
  have EK : keptN k l r = if acks k = true then (if l = true then (fld r 0 2 : Int) else fld r 0 1) else 0 := rfl
  have EA : ackN k l r = if acks k = true then (if l = true then (fld r 2 6 : Int) else fld r 1 3) else 0 := rfl
  have ES : servN k l r = if b2 = true then (fld r (o1 k l) 4 : Int) else 0 := by unfold servN; rw [← e2]; simp only [decide_eq_true_eq]
  have EC : codeN k l r = if b7 = true then (fld r (o1 k l) 1 : Int) else 0 := by unfold codeN; rw [← e7']; simp only [decide_eq_true_eq]
  have ED : detN k l r = if b7 = true then (fld r (o1 k l + 1) 3 : Int) else 0 := by unfold detN; rw [← e7']; simp only [decide_eq_true_eq]
  have h27 := Lib.hid (show b2 = true → b7 = false from fun h => by rw [← e2] at h; rw [← e7]; simp at h; simp; omega)
  rw [e2] at CS
  generalize keptN k l r = KN at *
  generalize ackN k l r = AN at *
  generalize servN k l r = SN at *
  generalize codeN k l r = CN at *
  generalize detN k l r = DN at *
  generalize o2 k l = OO at *
  generalize o1 k l = OI at *
  generalize acks k = pa at *
  have E1' := Lib.hid E1; have EO' := Lib.hid EO; have EK' := Lib.hid EK; have EA' := Lib.hid EA; have ES' := Lib.hid ES; have EC' := Lib.hid EC; have ED' := Lib.hid ED
  clear E1 EO EK EA ES EC ED e2 e7' e27 hk
  have hv0 := R0.box.some
  obtain ⟨⟨x0, x1⟩, ⟨x7, f7⟩, ⟨x8, f8⟩, ⟨x9, f9⟩, x10, f10⟩ := hv0
  cases pa
  · cases b2
    · cases b7
      · obtain rfl : OI = 0 := E1'.out
        obtain rfl : OO = 0 := EO'.out
        obtain rfl : KN = 0 := EK'.out
        obtain rfl : AN = 0 := EA'.out
        obtain rfl : SN = 0 := ES'.out
        obtain rfl : CN = 0 := EC'.out
        obtain rfl : DN = 0 := ED'.out
        go_enter Try.func75, Try.ntmps75
        go_wp2_with fail
        refine (CA.out _).mono ?_
        rintro e w1 ⟨rfl, h1⟩
        have R1 := R0.below h1
        clear h1 R0
        obtain ⟨⟨x0, x1⟩, ⟨x7, f7⟩, ⟨x8, f8⟩, ⟨x9, f9⟩, x10, f10⟩ := R1.box.some
        go_wp2_with (go_at_call 49; refine (CS.out _).mono ?_; rintro e w9 ⟨rfl, rfl⟩)
        go_ret
        exact ⟨rfl, R1⟩
      · obtain rfl : OI = 0 := E1'.out
        obtain rfl : OO = 4 := EO'.out
        obtain rfl : KN = 0 := EK'.out
        obtain rfl : AN = 0 := EA'.out
        obtain rfl : SN = 0 := ES'.out
        obtain rfl : CN = ((fld r 0 1 : Nat) : Int) := EC'.out
        obtain rfl : DN = ((fld r 1 3 : Nat) : Int) := ED'.out
        go_enter Try.func75, Try.ntmps75
        go_wp2_with fail
        refine (CA.out _).mono ?_
        rintro e w1 ⟨rfl, h1⟩
        have R1 := R0.below h1
        clear h1 R0
        obtain ⟨⟨x0, x1⟩, ⟨x7, f7⟩, ⟨x8, f8⟩, ⟨x9, f9⟩, x10, f10⟩ := R1.box.some
        go_wp2_with (go_at_call 49; refine (CS.out _).mono ?_; rintro e w9 ⟨rfl, rfl⟩)
        refine (num_ok cb r 0 1 _ (by rfl) (by decide) hr (by omega) _ R1.cut).mono ?_
        rintro e w2 ⟨rfl, q2, t2⟩
        have R2 := R1.num q2 t2
        clear q2 t2 R1
        obtain ⟨⟨x0, x1⟩, ⟨x7, f7⟩, ⟨x8, f8⟩, ⟨x9, f9⟩, x10, f10⟩ := R2.box.some
        have R3 := R2.set 9 _ (R2.box.set9 ((fld r 0 1 : Nat) : Int))
        clear R2
        obtain ⟨⟨x0, x1⟩, ⟨x7, f7⟩, ⟨x8, f8⟩, ⟨x9, f9⟩, x10, f10⟩ := R3.box.some
        go_wp2_with fail
        refine (num_ok cb r 1 3 _ (by rfl) (by decide) hr (by omega) _ R3.cut).mono ?_
        rintro e w4 ⟨rfl, q4, t4⟩
        have R4 := R3.num q4 t4
        clear q4 t4 R3
        obtain ⟨⟨x0, x1⟩, ⟨x7, f7⟩, ⟨x8, f8⟩, ⟨x9, f9⟩, x10, f10⟩ := R4.box.some
        have R5 := R4.set 10 _ (R4.box.set10 ((fld r 1 3 : Nat) : Int))
        clear R4
        obtain ⟨⟨x0, x1⟩, ⟨x7, f7⟩, ⟨x8, f8⟩, ⟨x9, f9⟩, x10, f10⟩ := R5.box.some
        go_wp2_with fail
        go_ret
        exact ⟨rfl, R5⟩
    · have z7' := h27.out rfl; subst z7'
      obtain rfl : OI = 0 := E1'.out
      obtain rfl : OO = 4 := EO'.out
      obtain rfl : KN = 0 := EK'.out
      obtain rfl : AN = 0 := EA'.out
      obtain rfl : SN = ((fld r 0 4 : Nat) : Int) := ES'.out
      obtain rfl : CN = 0 := EC'.out
      obtain rfl : DN = 0 := ED'.out
      go_enter Try.func75, Try.ntmps75
      go_wp2_with fail
      refine (CA.out _).mono ?_
      rintro e w1 ⟨rfl, h1⟩
      have R1 := R0.below h1
      clear h1 R0
      obtain ⟨⟨x0, x1⟩, ⟨x7, f7⟩, ⟨x8, f8⟩, ⟨x9, f9⟩, x10, f10⟩ := R1.box.some
      go_wp2_with (go_at_call 49; refine (CS.out _).mono ?_; rintro e w9 ⟨rfl, rfl⟩)
      refine (num_ok cb r 0 4 _ (by rfl) (by decide) hr (by omega) _ R1.cut).mono ?_
      rintro e w2 ⟨rfl, q2, t2⟩
      have R2 := R1.num q2 t2
      clear q2 t2 R1
      obtain ⟨⟨x0, x1⟩, ⟨x7, f7⟩, ⟨x8, f8⟩, ⟨x9, f9⟩, x10, f10⟩ := R2.box.some
      have R3 := R2.set 8 _ (R2.box.set8 ((fld r 0 4 : Nat) : Int))
      clear R2
      obtain ⟨⟨x0, x1⟩, ⟨x7, f7⟩, ⟨x8, f8⟩, ⟨x9, f9⟩, x10, f10⟩ := R3.box.some
      go_wp2_with fail
      go_ret
      exact ⟨rfl, R3⟩
  · cases l
    · cases b2
      · cases b7
        · obtain rfl : OI = 4 := E1'.out
          obtain rfl : OO = 4 := EO'.out
          obtain rfl : KN = ((fld r 0 1 : Nat) : Int) := EK'.out
          obtain rfl : AN = ((fld r 1 3 : Nat) : Int) := EA'.out
          obtain rfl : SN = 0 := ES'.out
          obtain rfl : CN = 0 := EC'.out
          obtain rfl : DN = 0 := ED'.out
          go_enter Try.func75, Try.ntmps75
          go_wp2_with fail
          refine (CA.out _).mono ?_
          rintro e w1 ⟨rfl, h1⟩
          have R1 := R0.below h1
          clear h1 R0
          obtain ⟨⟨x0, x1⟩, ⟨x7, f7⟩, ⟨x8, f8⟩, ⟨x9, f9⟩, x10, f10⟩ := R1.box.some
          go_wp2_with fail
          refine (CZ.out _).mono ?_
          rintro e w9 ⟨rfl, rfl⟩
          go_wp2_with fail
          refine (num_ok cb r 0 1 _ (by rfl) (by decide) hr (by omega) _ R1.cut).mono ?_
          rintro e w2 ⟨rfl, q2, t2⟩
          have R2 := R1.num q2 t2
          clear q2 t2 R1
          obtain ⟨⟨x0, x1⟩, ⟨x7, f7⟩, ⟨x8, f8⟩, ⟨x9, f9⟩, x10, f10⟩ := R2.box.some
          go_wp2_with fail
          refine (num_ok cb r 1 3 _ (by rfl) (by decide) hr (by omega) _ R2.cut).mono ?_
          rintro e w3 ⟨rfl, q3, t3⟩
          have R3 := R2.num q3 t3
          clear q3 t3 R2
          obtain ⟨⟨x0, x1⟩, ⟨x7, f7⟩, ⟨x8, f8⟩, ⟨x9, f9⟩, x10, f10⟩ := R3.box.some
          have R4 := R3.set 7 _ (R3.box.set7 ((fld r 1 3 : Nat) : Int))
          clear R3
          obtain ⟨⟨x0, x1⟩, ⟨x7, f7⟩, ⟨x8, f8⟩, ⟨x9, f9⟩, x10, f10⟩ := R4.box.some
          go_wp2_with (go_at_call 49; refine (CS.out _).mono ?_; rintro e w9 ⟨rfl, rfl⟩)
          go_ret
          exact ⟨rfl, R4⟩
        · obtain rfl : OI = 4 := E1'.out
          obtain rfl : OO = 8 := EO'.out
          obtain rfl : KN = ((fld r 0 1 : Nat) : Int) := EK'.out
          obtain rfl : AN = ((fld r 1 3 : Nat) : Int) := EA'.out
          obtain rfl : SN = 0 := ES'.out
          obtain rfl : CN = ((fld r 4 1 : Nat) : Int) := EC'.out
          obtain rfl : DN = ((fld r 5 3 : Nat) : Int) := ED'.out
          go_enter Try.func75, Try.ntmps75
          go_wp2_with fail
          refine (CA.out _).mono ?_
          rintro e w1 ⟨rfl, h1⟩
          have R1 := R0.below h1
          clear h1 R0
          obtain ⟨⟨x0, x1⟩, ⟨x7, f7⟩, ⟨x8, f8⟩, ⟨x9, f9⟩, x10, f10⟩ := R1.box.some
          go_wp2_with fail
          refine (CZ.out _).mono ?_
          rintro e w9 ⟨rfl, rfl⟩
          go_wp2_with fail
          refine (num_ok cb r 0 1 _ (by rfl) (by decide) hr (by omega) _ R1.cut).mono ?_
          rintro e w2 ⟨rfl, q2, t2⟩
          have R2 := R1.num q2 t2
          clear q2 t2 R1
          obtain ⟨⟨x0, x1⟩, ⟨x7, f7⟩, ⟨x8, f8⟩, ⟨x9, f9⟩, x10, f10⟩ := R2.box.some
          go_wp2_with fail
          refine (num_ok cb r 1 3 _ (by rfl) (by decide) hr (by omega) _ R2.cut).mono ?_
          rintro e w3 ⟨rfl, q3, t3⟩
          have R3 := R2.num q3 t3
          clear q3 t3 R2
          obtain ⟨⟨x0, x1⟩, ⟨x7, f7⟩, ⟨x8, f8⟩, ⟨x9, f9⟩, x10, f10⟩ := R3.box.some
          have R4 := R3.set 7 _ (R3.box.set7 ((fld r 1 3 : Nat) : Int))
          clear R3
          obtain ⟨⟨x0, x1⟩, ⟨x7, f7⟩, ⟨x8, f8⟩, ⟨x9, f9⟩, x10, f10⟩ := R4.box.some
          go_wp2_with (go_at_call 49; refine (CS.out _).mono ?_; rintro e w9 ⟨rfl, rfl⟩)
          refine (num_ok cb r 4 1 _ (by rfl) (by decide) hr (by omega) _ R4.cut).mono ?_
          rintro e w5 ⟨rfl, q5, t5⟩
          have R5 := R4.num q5 t5
          clear q5 t5 R4
          obtain ⟨⟨x0, x1⟩, ⟨x7, f7⟩, ⟨x8, f8⟩, ⟨x9, f9⟩, x10, f10⟩ := R5.box.some
          have R6 := R5.set 9 _ (R5.box.set9 ((fld r 4 1 : Nat) : Int))
          clear R5
          obtain ⟨⟨x0, x1⟩, ⟨x7, f7⟩, ⟨x8, f8⟩, ⟨x9, f9⟩, x10, f10⟩ := R6.box.some
          go_wp2_with fail
          refine (num_ok cb r 5 3 _ (by rfl) (by decide) hr (by omega) _ R6.cut).mono ?_
          rintro e w7 ⟨rfl, q7, t7⟩
          have R7 := R6.num q7 t7
          clear q7 t7 R6
          obtain ⟨⟨x0, x1⟩, ⟨x7, f7⟩, ⟨x8, f8⟩, ⟨x9, f9⟩, x10, f10⟩ := R7.box.some
          have R8 := R7.set 10 _ (R7.box.set10 ((fld r 5 3 : Nat) : Int))
          clear R7
          obtain ⟨⟨x0, x1⟩, ⟨x7, f7⟩, ⟨x8, f8⟩, ⟨x9, f9⟩, x10, f10⟩ := R8.box.some
          go_wp2_with fail
          go_ret
          exact ⟨rfl, R8⟩
      · have z7' := h27.out rfl; subst z7'
        obtain rfl : OI = 4 := E1'.out
        obtain rfl : OO = 8 := EO'.out
        obtain rfl : KN = ((fld r 0 1 : Nat) : Int) := EK'.out
        obtain rfl : AN = ((fld r 1 3 : Nat) : Int) := EA'.out
        obtain rfl : SN = ((fld r 4 4 : Nat) : Int) := ES'.out
        obtain rfl : CN = 0 := EC'.out
        obtain rfl : DN = 0 := ED'.out
        go_enter Try.func75, Try.ntmps75
        go_wp2_with fail
        refine (CA.out _).mono ?_
        rintro e w1 ⟨rfl, h1⟩
        have R1 := R0.below h1
        clear h1 R0
        obtain ⟨⟨x0, x1⟩, ⟨x7, f7⟩, ⟨x8, f8⟩, ⟨x9, f9⟩, x10, f10⟩ := R1.box.some
        go_wp2_with fail
        refine (CZ.out _).mono ?_
        rintro e w9 ⟨rfl, rfl⟩
        go_wp2_with fail
        refine (num_ok cb r 0 1 _ (by rfl) (by decide) hr (by omega) _ R1.cut).mono ?_
        rintro e w2 ⟨rfl, q2, t2⟩
        have R2 := R1.num q2 t2
        clear q2 t2 R1
        obtain ⟨⟨x0, x1⟩, ⟨x7, f7⟩, ⟨x8, f8⟩, ⟨x9, f9⟩, x10, f10⟩ := R2.box.some
        go_wp2_with fail
        refine (num_ok cb r 1 3 _ (by rfl) (by decide) hr (by omega) _ R2.cut).mono ?_
        rintro e w3 ⟨rfl, q3, t3⟩
        have R3 := R2.num q3 t3
        clear q3 t3 R2
        obtain ⟨⟨x0, x1⟩, ⟨x7, f7⟩, ⟨x8, f8⟩, ⟨x9, f9⟩, x10, f10⟩ := R3.box.some
        have R4 := R3.set 7 _ (R3.box.set7 ((fld r 1 3 : Nat) : Int))
        clear R3
        obtain ⟨⟨x0, x1⟩, ⟨x7, f7⟩, ⟨x8, f8⟩, ⟨x9, f9⟩, x10, f10⟩ := R4.box.some
        go_wp2_with (go_at_call 49; refine (CS.out _).mono ?_; rintro e w9 ⟨rfl, rfl⟩)
        refine (num_ok cb r 4 4 _ (by rfl) (by decide) hr (by omega) _ R4.cut).mono ?_
        rintro e w5 ⟨rfl, q5, t5⟩
        have R5 := R4.num q5 t5
        clear q5 t5 R4
        obtain ⟨⟨x0, x1⟩, ⟨x7, f7⟩, ⟨x8, f8⟩, ⟨x9, f9⟩, x10, f10⟩ := R5.box.some
        have R6 := R5.set 8 _ (R5.box.set8 ((fld r 4 4 : Nat) : Int))
        clear R5
        obtain ⟨⟨x0, x1⟩, ⟨x7, f7⟩, ⟨x8, f8⟩, ⟨x9, f9⟩, x10, f10⟩ := R6.box.some
        go_wp2_with fail
        go_ret
        exact ⟨rfl, R6⟩
    · cases b2
      · cases b7
        · obtain rfl : OI = 8 := E1'.out
          obtain rfl : OO = 8 := EO'.out
          obtain rfl : KN = ((fld r 0 2 : Nat) : Int) := EK'.out
          obtain rfl : AN = ((fld r 2 6 : Nat) : Int) := EA'.out
          obtain rfl : SN = 0 := ES'.out
          obtain rfl : CN = 0 := EC'.out
          obtain rfl : DN = 0 := ED'.out
          go_enter Try.func75, Try.ntmps75
          go_wp2_with fail
          refine (CA.out _).mono ?_
          rintro e w1 ⟨rfl, h1⟩
          have R1 := R0.below h1
          clear h1 R0
          obtain ⟨⟨x0, x1⟩, ⟨x7, f7⟩, ⟨x8, f8⟩, ⟨x9, f9⟩, x10, f10⟩ := R1.box.some
          go_wp2_with fail
          refine (CZ.out _).mono ?_
          rintro e w9 ⟨rfl, rfl⟩
          go_wp2_with fail
          refine (num_ok cb r 0 2 _ (by rfl) (by decide) hr (by omega) _ R1.cut).mono ?_
          rintro e w2 ⟨rfl, q2, t2⟩
          have R2 := R1.num q2 t2
          clear q2 t2 R1
          obtain ⟨⟨x0, x1⟩, ⟨x7, f7⟩, ⟨x8, f8⟩, ⟨x9, f9⟩, x10, f10⟩ := R2.box.some
          go_wp2_with fail
          refine (num_ok cb r 2 6 _ (by rfl) (by decide) hr (by omega) _ R2.cut).mono ?_
          rintro e w3 ⟨rfl, q3, t3⟩
          have R3 := R2.num q3 t3
          clear q3 t3 R2
          obtain ⟨⟨x0, x1⟩, ⟨x7, f7⟩, ⟨x8, f8⟩, ⟨x9, f9⟩, x10, f10⟩ := R3.box.some
          have R4 := R3.set 7 _ (R3.box.set7 ((fld r 2 6 : Nat) : Int))
          clear R3
          obtain ⟨⟨x0, x1⟩, ⟨x7, f7⟩, ⟨x8, f8⟩, ⟨x9, f9⟩, x10, f10⟩ := R4.box.some
          go_wp2_with (go_at_call 49; refine (CS.out _).mono ?_; rintro e w9 ⟨rfl, rfl⟩)
          go_ret
          exact ⟨rfl, R4⟩
        · obtain rfl : OI = 8 := E1'.out
          obtain rfl : OO = 12 := EO'.out
          obtain rfl : KN = ((fld r 0 2 : Nat) : Int) := EK'.out
          obtain rfl : AN = ((fld r 2 6 : Nat) : Int) := EA'.out
          obtain rfl : SN = 0 := ES'.out
          obtain rfl : CN = ((fld r 8 1 : Nat) : Int) := EC'.out
          obtain rfl : DN = ((fld r 9 3 : Nat) : Int) := ED'.out
          go_enter Try.func75, Try.ntmps75
          go_wp2_with fail
          refine (CA.out _).mono ?_
          rintro e w1 ⟨rfl, h1⟩
          have R1 := R0.below h1
          clear h1 R0
          obtain ⟨⟨x0, x1⟩, ⟨x7, f7⟩, ⟨x8, f8⟩, ⟨x9, f9⟩, x10, f10⟩ := R1.box.some
          go_wp2_with fail
          refine (CZ.out _).mono ?_
          rintro e w9 ⟨rfl, rfl⟩
          go_wp2_with fail
          refine (num_ok cb r 0 2 _ (by rfl) (by decide) hr (by omega) _ R1.cut).mono ?_
          rintro e w2 ⟨rfl, q2, t2⟩
          have R2 := R1.num q2 t2
          clear q2 t2 R1
          obtain ⟨⟨x0, x1⟩, ⟨x7, f7⟩, ⟨x8, f8⟩, ⟨x9, f9⟩, x10, f10⟩ := R2.box.some
          go_wp2_with fail
          refine (num_ok cb r 2 6 _ (by rfl) (by decide) hr (by omega) _ R2.cut).mono ?_
          rintro e w3 ⟨rfl, q3, t3⟩
          have R3 := R2.num q3 t3
          clear q3 t3 R2
          obtain ⟨⟨x0, x1⟩, ⟨x7, f7⟩, ⟨x8, f8⟩, ⟨x9, f9⟩, x10, f10⟩ := R3.box.some
          have R4 := R3.set 7 _ (R3.box.set7 ((fld r 2 6 : Nat) : Int))
          clear R3
          obtain ⟨⟨x0, x1⟩, ⟨x7, f7⟩, ⟨x8, f8⟩, ⟨x9, f9⟩, x10, f10⟩ := R4.box.some
          go_wp2_with (go_at_call 49; refine (CS.out _).mono ?_; rintro e w9 ⟨rfl, rfl⟩)
          refine (num_ok cb r 8 1 _ (by rfl) (by decide) hr (by omega) _ R4.cut).mono ?_
          rintro e w5 ⟨rfl, q5, t5⟩
          have R5 := R4.num q5 t5
          clear q5 t5 R4
          obtain ⟨⟨x0, x1⟩, ⟨x7, f7⟩, ⟨x8, f8⟩, ⟨x9, f9⟩, x10, f10⟩ := R5.box.some
          have R6 := R5.set 9 _ (R5.box.set9 ((fld r 8 1 : Nat) : Int))
          clear R5
          obtain ⟨⟨x0, x1⟩, ⟨x7, f7⟩, ⟨x8, f8⟩, ⟨x9, f9⟩, x10, f10⟩ := R6.box.some
          go_wp2_with fail
          refine (num_ok cb r 9 3 _ (by rfl) (by decide) hr (by omega) _ R6.cut).mono ?_
          rintro e w7 ⟨rfl, q7, t7⟩
          have R7 := R6.num q7 t7
          clear q7 t7 R6
          obtain ⟨⟨x0, x1⟩, ⟨x7, f7⟩, ⟨x8, f8⟩, ⟨x9, f9⟩, x10, f10⟩ := R7.box.some
          have R8 := R7.set 10 _ (R7.box.set10 ((fld r 9 3 : Nat) : Int))
          clear R7
          obtain ⟨⟨x0, x1⟩, ⟨x7, f7⟩, ⟨x8, f8⟩, ⟨x9, f9⟩, x10, f10⟩ := R8.box.some
          go_wp2_with fail
          go_ret
          exact ⟨rfl, R8⟩
      · have z7' := h27.out rfl; subst z7'
        obtain rfl : OI = 8 := E1'.out
        obtain rfl : OO = 12 := EO'.out
        obtain rfl : KN = ((fld r 0 2 : Nat) : Int) := EK'.out
        obtain rfl : AN = ((fld r 2 6 : Nat) : Int) := EA'.out
        obtain rfl : SN = ((fld r 8 4 : Nat) : Int) := ES'.out
        obtain rfl : CN = 0 := EC'.out
        obtain rfl : DN = 0 := ED'.out
        go_enter Try.func75, Try.ntmps75
        go_wp2_with fail
        refine (CA.out _).mono ?_
        rintro e w1 ⟨rfl, h1⟩
        have R1 := R0.below h1
        clear h1 R0
        obtain ⟨⟨x0, x1⟩, ⟨x7, f7⟩, ⟨x8, f8⟩, ⟨x9, f9⟩, x10, f10⟩ := R1.box.some
        go_wp2_with fail
        refine (CZ.out _).mono ?_
        rintro e w9 ⟨rfl, rfl⟩
        go_wp2_with fail
        refine (num_ok cb r 0 2 _ (by rfl) (by decide) hr (by omega) _ R1.cut).mono ?_
        rintro e w2 ⟨rfl, q2, t2⟩
        have R2 := R1.num q2 t2
        clear q2 t2 R1
        obtain ⟨⟨x0, x1⟩, ⟨x7, f7⟩, ⟨x8, f8⟩, ⟨x9, f9⟩, x10, f10⟩ := R2.box.some
        go_wp2_with fail
        refine (num_ok cb r 2 6 _ (by rfl) (by decide) hr (by omega) _ R2.cut).mono ?_
        rintro e w3 ⟨rfl, q3, t3⟩
        have R3 := R2.num q3 t3
        clear q3 t3 R2
        obtain ⟨⟨x0, x1⟩, ⟨x7, f7⟩, ⟨x8, f8⟩, ⟨x9, f9⟩, x10, f10⟩ := R3.box.some
        have R4 := R3.set 7 _ (R3.box.set7 ((fld r 2 6 : Nat) : Int))
        clear R3
        obtain ⟨⟨x0, x1⟩, ⟨x7, f7⟩, ⟨x8, f8⟩, ⟨x9, f9⟩, x10, f10⟩ := R4.box.some
        go_wp2_with (go_at_call 49; refine (CS.out _).mono ?_; rintro e w9 ⟨rfl, rfl⟩)
        refine (num_ok cb r 8 4 _ (by rfl) (by decide) hr (by omega) _ R4.cut).mono ?_
        rintro e w5 ⟨rfl, q5, t5⟩
        have R5 := R4.num q5 t5
        clear q5 t5 R4
        obtain ⟨⟨x0, x1⟩, ⟨x7, f7⟩, ⟨x8, f8⟩, ⟨x9, f9⟩, x10, f10⟩ := R5.box.some
        have R6 := R5.set 8 _ (R5.box.set8 ((fld r 8 4 : Nat) : Int))
        clear R5
        obtain ⟨⟨x0, x1⟩, ⟨x7, f7⟩, ⟨x8, f8⟩, ⟨x9, f9⟩, x10, f10⟩ := R6.box.some
        go_wp2_with fail
        go_ret
        exact ⟨rfl, R6⟩
end Go.Proofs.Ytkjojfcknfhkhaa.Pkt

namespace Go.Proofs.Ytkjojfcknfhkhaa.Pkt
open Go.ChangeShapes Go.WideShapes Go.ChangeAt Go.RowKit
open Go.Proofs.Ytkjojfcknfhkhaa.Opt (O OptsAt Fit getErr getOpts)
open Go.Proofs.Ytkjojfcknfhkhaa.Head (fld acks nOf At)
set_option linter.unusedVariables false

/-- options are no packet -/
theorem opts_ne {W : World} {A : Nat} {p : K} {a a' : Option Addr} {cap : Nat} {l : List O} (h : OptsAt W a l) (hb : BoxK W A p a' cap) : l = [] ∨ ∃ b off, a = some ⟨b, off, none⟩ ∧ b ≠ A := by
  rcases h with h | ⟨b, off, rfl, hlt, hc⟩
  · exact .inl h
  · cases l with
    | nil => exact .inl rfl
    | cons o r =>
      refine .inr ⟨b, off, rfl, fun e => ?_⟩
      subst e
      obtain ⟨c0, c1⟩ := hc 0 o rfl
      have row : ∀ j, W.cell? ⟨b, j, none⟩ = (#[.int .i64 p.kind, .bool p.long, .int .i64 p.src, .int .i64 p.dst, .int .i64 p.cc, .int .i64 p.cover, .int .i64 p.seq, .int .i64 p.ack, .int .i64 p.service, .int .i64 p.code, .int .i64 p.detail, .slice a' p.opts.length cap, .string p.data] : Array Value)[j]? := fun j => by
        have hb' : W.heap[b]? = _ := hb
        simp [World.cell?, hb']
      rw [row] at c0 c1
      have hoff : off + 0 * 2 < 13 := by
        rcases Nat.lt_or_ge (off + 0 * 2) 13 with h | h
        · exact h
        · rw [Array.getElem?_eq_none h] at c0; cases c0
      have : off = 0 ∨ off = 1 ∨ off = 2 ∨ off = 3 ∨ off = 4 ∨ off = 5 ∨ off = 6 ∨ off = 7 ∨ off = 8 ∨ off = 9 ∨ off = 10 ∨ off = 11 ∨ off = 12 := by omega
      rcases this with rfl | rfl | rfl | rfl | rfl | rfl | rfl | rfl | rfl | rfl | rfl | rfl | rfl <;> first | (cases c0; done) | (cases c1; done)

theorem opts_set {W : World} {A : Nat} {p : K} {a a' : Option Addr} {cap : Nat} {l : List O} (h : OptsAt W a l) (hb : BoxK W A p a' cap) (o : Nat) (v : Value) : OptsAt (W.setCell ⟨A, o, none⟩ v) a l := by
  rcases opts_ne h hb with e | ⟨b, off, rfl, hne⟩
  · exact .inl e
  · rcases h with h | ⟨b', off', e, hlt, hc⟩
    · exact .inl h
    · cases e
      have e2 : (W.setCell ⟨A, o, none⟩ v).heap[b]? = W.heap[b]? := heap_setCell_other _ _ _ _ hne
      refine .inr ⟨b, off, rfl, by simpa [World.setCell] using hlt, fun i x hi => ?_⟩
      obtain ⟨c0, c1⟩ := hc i x hi
      exact ⟨(World.cell?_of_block (w := W) e2).trans c0, (World.cell?_of_block (w := W) e2).trans c1⟩
theorem opts_row {W : World} {A : Nat} {p : K} {a a' : Option Addr} {cap : Nat} {l : List O} (h : OptsAt W a l) (hb : BoxK W A p a' cap) (cs : Array Value) : OptsAt (W.setRow A cs) a l := by
  rcases opts_ne h hb with e | ⟨b, off, rfl, hne⟩
  · exact .inl e
  · rcases h with h | ⟨b', off', e, hlt, hc⟩
    · exact .inl h
    · cases e
      have e2 : (W.setRow A cs).heap[b]? = W.heap[b]? := setRow_other _ _ _ _ hne
      refine .inr ⟨b, off, rfl, by simpa using hlt, fun i x hi => ?_⟩
      obtain ⟨c0, c1⟩ := hc i x hi
      exact ⟨(World.cell?_of_block (w := W) e2).trans c0, (World.cell?_of_block (w := W) e2).trans c1⟩

def aheadErr (k : Int) (l : Bool) (r : ByteArray) : Int := if keptN k l r ≠ 0 then 4 else getErr (r.extract (o2 k l) r.size)
/-- a block that holds a packet with options -/
def BoxO (w : World) (pb : Nat) (P : K) (l : List O) : Prop := ∃ a cap, BoxK w pb { P with opts := l } a cap ∧ OptsAt w a l
def AheadEnd (pb : Nat) (p : K) (r : ByteArray) (w : World) (e : Ending) (w' : World) : Prop :=
  e = .returned (.int .i64 (aheadErr p.kind p.long r)) ∧ Oct.Touch pb w w' ∧
    (keptN p.kind p.long r = 0 → BoxO w' pb { p with ack := ackN p.kind p.long r, service := servN p.kind p.long r, code := codeN p.kind p.long r, detail := detN p.kind p.long r } (getOpts (r.extract (o2 p.kind p.long) r.size)))

theorem touch_of {pb : Nat} {w W : World} {o : Obj} (t : Touch2 pb w.heap.size (w.alloc o) W) : Oct.Touch pb w W :=
  ⟨t.os, t.tape, t.output, by have := t.size; simp at this; omega, fun k hk hb => (t.block k (by simp; omega) hb (by omega)).trans (Below.heap_alloc _ _ _ hk)⟩

set_option maxRecDepth 100000 in
set_option maxHeartbeats 4000000 in
theorem readAhead_any (pb : Nat) (p : K) (r : ByteArray) (a : Option Addr) (cap : Nat) (w : World) (hk : 0 ≤ p.kind) (hz : p.ack = 0 ∧ p.service = 0 ∧ p.code = 0 ∧ p.detail = 0) (hr : r.size ≤ 3000) (h2 : o2 p.kind p.long ≤ r.size)
    (hb : BoxK w pb p a cap) :
    Calls Try.prog 40 #[.pointer (some ⟨pb, 0, none⟩), .string r] w (AheadEnd pb p r w) := by
  have hA := Head.at_new w r 102
  have hB1 : BoxK (w.alloc (.cells #[.string r, .int .i64 0] 102)) pb p a cap := hb.of_block (Below.heap_alloc _ _ _ hb.lt)
  have CO := Lib.hid (readOwn_any pb w.heap.size p r a cap _ hk hz (by omega) h2 hA hB1 (Nat.ne_of_lt hb.lt))
  have hE := Lib.hid (show aheadErr p.kind p.long r = if keptN p.kind p.long r ≠ 0 then 4 else getErr (r.extract (o2 p.kind p.long) r.size) from rfl)
  have hx : (r.extract (o2 p.kind p.long) r.size).size ≤ 3000 := by simp; omega
  unfold AheadEnd
  generalize aheadErr p.kind p.long r = E at *
  generalize keptN p.kind p.long r = KN at *
  obtain ⟨P, hP⟩ : ∃ P : K, P = { p with ack := ackN p.kind p.long r, service := servN p.kind p.long r, code := codeN p.kind p.long r, detail := detN p.kind p.long r } := ⟨_, rfl⟩
  rw [← hP] at CO ⊢
  clear hP hA hB1 h2
  have hlt := hb.lt
  clear hb
  go_enter Try.func40, Try.ntmps40
  go_wp2_with fail
  refine (Oct.new_any r _).mono ?_
  rintro e w1 ⟨rfl, rfl⟩
  go_wp2_with fail
  refine CO.out.mono ?_
  rintro e w2 ⟨rfl, R2⟩
  by_cases hkn : KN = 0
  case neg =>
    have hcb : (KN == 0) = false := by simpa using hkn
    have HE := Lib.hid (hE.out.trans (if_pos hkn))
    go_wp2_with fail
    go_ret
    exact ⟨by rw [HE.out]; rfl, touch_of R2.touch, fun h => absurd h hkn⟩
  subst hkn
  have HE := Lib.hid (hE.out.trans (if_neg (fun h => h rfl)))
  have hcb : ((0 : Int) == 0) = true := rfl
  go_wp2_with fail
  refine (Head.rest_at w.heap.size r (o2 p.kind p.long) 0 (by omega) _ R2.cut).mono ?_
  rintro e w3 ⟨r', l', rfl, hcut, hfr, hT⟩
  obtain ⟨rfl, -⟩ := hfr rfl
  have B3 := R2.box.of_block (hT.block _ R2.box.lt R2.ne)
  have T3 := R2.touch.trans (Touch2.right hT)
  clear R2 hfr hT hcut CO
  go_wp2_with fail
  refine (Opt.Get_any _ hx _).mono ?_
  rintro e w4 ⟨a4, cap4, rfl, hO, hbl⟩
  have B4 := B3.below hbl B3.lt
  have T4 := T3.trans (Touch2.below hbl)
  have B5 := B4.set11 (getOpts (r.extract (o2 p.kind p.long) r.size)) a4 cap4
  have O5 := opts_set hO B4 11 (.slice a4 (getOpts (r.extract (o2 p.kind p.long) r.size)).length cap4)
  have c11 := B4.cell.2.2.2.2.2.2.2.2.2.2.2.1
  have f11 := B4.free 11
  have T5 := T4.trans (Touch2.set pb w.heap.size 11 w4 (.slice a4 (getOpts (r.extract (o2 p.kind p.long) r.size)).length cap4))
  have T6 := Lib.hid (touch_of T5)
  clear B3 T3 B4 T4 hO hbl T5
  go_wp2_with fail
  go_ret
  exact ⟨by rw [HE.out]; rfl, T6.out, a4, cap4, B5, O5⟩
end Go.Proofs.Ytkjojfcknfhkhaa.Pkt
