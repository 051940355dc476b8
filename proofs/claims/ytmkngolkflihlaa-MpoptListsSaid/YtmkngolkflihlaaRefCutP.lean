/- (RefCutB without stage 1's laws.) The document's cut: each read, in whatever state the cut is: what it reads is what the program's cut of the same unread bytes reads. -/
import Derived.Test.YtmkngolkflihlaaRefCutA
import Derived.Deep.RegionWith
import Derived.Deep.RegionHeld3
namespace Go.Proofs.Ytmkngolkflihlaa.Oct
open Go.ChangeShapes Go.WideShapes Go.ChangeAt Go.RowKit
set_option linter.unusedVariables false

theorem ext_list {a b : ByteArray} (h : a.data.toList = b.data.toList) : a = b := ByteArray.ext (Array.toList_inj.1 h)
theorem extract_list (s : ByteArray) (a b : Nat) : (s.extract a b).data.toList = (s.data.toList.drop a).take (b - a) := by
  rw [ByteArray.data_extract]
  simp
/-- what is unread -/
def unread (S : ByteArray) (a : Nat) : ByteArray := S.extract a S.size
/-- how many are read behind a read -/
def atOf (S : ByteArray) (a : Nat) (fell n : Int) : Nat := if fellOf (unread S a) fell n = 0 then a + n.toNat else a

theorem unread_size (S : ByteArray) (a : Nat) : (unread S a).size = S.size - a := by simp [unread]

theorem got_unread (S : ByteArray) (a n : Nat) (h : a + n ≤ S.size) : (unread S a).extract 0 n = S.extract a (a + n) := by
  apply ext_list
  rw [unread, extract_list, extract_list, extract_list]
  simp only [List.drop_zero, Nat.sub_zero, List.take_take]
  rw [show min n (S.size - a) = a + n - a by omega]

theorem stay_unread (S : ByteArray) (a n : Nat) (h : a + n ≤ S.size) : (unread S a).extract n (unread S a).size = unread S (a + n) := by
  apply ext_list
  rw [unread_size, unread, unread, extract_list, extract_list, extract_list, List.drop_take, List.drop_drop, List.take_take]
  rw [show min (S.size - a - n) (S.size - a - n) = S.size - (a + n) by omega, Nat.add_comm]

/-- the three cells of the document's cut -/
structure RefAt (w : World) (b : Nat) (S : ByteArray) (a : Nat) (fell : Int) : Prop where
  le : a ≤ S.size
  c0 : w.cell? ⟨b, 0, none⟩ = some (.string S)
  c1 : w.cell? ⟨b, 1, none⟩ = some (.int .i64 a)
  c2 : w.cell? ⟨b, 2, none⟩ = some (.int .i64 fell)
  z1 : w.frozen? ⟨b, 1, none⟩ = false
  z2 : w.frozen? ⟨b, 2, none⟩ = false

theorem RefAt.of_block {w w' : World} {b : Nat} {S : ByteArray} {a : Nat} {fell : Int} (h : RefAt w b S a fell) (e : w'.heap[b]? = w.heap[b]?) : RefAt w' b S a fell :=
  ⟨h.le, (World.cell?_of_block (w := w) e).trans h.c0, (World.cell?_of_block (w := w) e).trans h.c1, (World.cell?_of_block (w := w) e).trans h.c2, (World.frozen?_of_block (w := w) e).trans h.z1, (World.frozen?_of_block (w := w) e).trans h.z2⟩

theorem RefAt.drewN {w : World} {b : Nat} {S : ByteArray} {a : Nat} {fell : Int} (h : RefAt w b S a fell) (k : Nat) : RefAt (w.drewN k) b S a fell := h.of_block rfl

theorem RefAt.lt {w : World} {b : Nat} {S : ByteArray} {a : Nat} {fell : Int} (h : RefAt w b S a fell) : b < w.heap.size := by
  rcases Nat.lt_or_ge b w.heap.size with h' | h'
  · exact h'
  · have := h.c0
    unfold World.cell? at this
    rw [Array.getElem?_eq_none h'] at this
    simp at this

theorem RefAt.set1 {w : World} {b : Nat} {S : ByteArray} {a : Nat} {fell : Int} (h : RefAt w b S a fell) (m : Nat) (hm : m ≤ S.size) : RefAt (w.setCell ⟨b, 1, none⟩ (.int .i64 m)) b S m fell :=
  ⟨hm, by rw [World.cell?_setCell_other _ _ _ _ (by simp)]; exact h.c0, World.cell?_setCell_same _ _ _ h.c1, by rw [World.cell?_setCell_other _ _ _ _ (by simp)]; exact h.c2, by rw [World.frozen?_setCell]; exact h.z1, by rw [World.frozen?_setCell]; exact h.z2⟩
theorem RefAt.set2 {w : World} {b : Nat} {S : ByteArray} {a : Nat} {fell : Int} (h : RefAt w b S a fell) (f : Int) : RefAt (w.setCell ⟨b, 2, none⟩ (.int .i64 f)) b S a f :=
  ⟨h.le, by rw [World.cell?_setCell_other _ _ _ _ (by simp)]; exact h.c0, by rw [World.cell?_setCell_other _ _ _ _ (by simp)]; exact h.c1, World.cell?_setCell_same _ _ _ h.c2, by rw [World.frozen?_setCell]; exact h.z1, by rw [World.frozen?_setCell]; exact h.z2⟩

theorem Touch.drewN {b : Nat} {w w' : World} (h : Touch b w w') (k : Nat) : Touch b w (w'.drewN k) := h.trans ⟨rfl, rfl, rfl, Nat.le_refl _, fun _ _ _ => rfl⟩

def RefEnd (b : Nat) (S : ByteArray) (a : Nat) (fell n : Int) (w : World) (e : Ending) (w' : World) : Prop :=
  e = .returned (.string (gotOf (unread S a) fell n)) ∧ RefAt w' b S (atOf S a fell n) (fellOf (unread S a) fell n) ∧ unread S (atOf S a fell n) = stayOf (unread S a) fell n ∧ Touch b w w'

theorem rb_any (b : Nat) (S : ByteArray) (a : Nat) (fell n : Int) (w : World) (hl : S.size ≤ 4000) (hc : RefAt w b S a fell) :
    Calls Try.prog 30 #[.pointer (some ⟨b, 0, none⟩), .int .i64 n] w (RefEnd b S a fell n w) := by
  have ha := hc.le
  have hu := unread_size S a
  by_cases hf : fell = 0
  · subst hf
    by_cases hn : n < 0
    · have e1 : fellOf (unread S a) 0 n = 3 := by unfold fellOf; simp [hn]
      have e2 : atOf S a 0 n = a := by unfold atOf; rw [e1]; rfl
      refine (rb_neg b n w hn hc.c2 hc.z2).mono ?_
      rintro e w' ⟨rfl, rfl⟩
      refine ⟨by unfold gotOf; rw [e1]; rfl, by rw [e1, e2]; exact hc.set2 3, by rw [e2]; unfold stayOf; rw [e1]; rfl, Touch.set _ _ _ _⟩
    · by_cases hs : (S.size : Int) - a < n
      · have e1 : fellOf (unread S a) 0 n = 1 := by unfold fellOf; rw [if_neg (by simp), if_neg hn, if_pos (by rw [hu]; omega)]
        have e2 : atOf S a 0 n = a := by unfold atOf; rw [e1]; rfl
        refine (rb_short b n S a w hl ha (by omega) hs hc.c0 hc.c1 hc.c2 hc.z2).mono ?_
        rintro e w' ⟨rfl, k, rfl⟩
        refine ⟨by unfold gotOf; rw [e1]; rfl, by rw [e1, e2]; exact (hc.drewN k).set2 1, by rw [e2]; unfold stayOf; rw [e1]; rfl, ((Touch.refl _ _).drewN k).trans (Touch.set _ _ _ _)⟩
      · have e1 : fellOf (unread S a) 0 n = 0 := by unfold fellOf; rw [if_neg (by simp), if_neg hn, if_neg (by rw [hu]; omega)]
        obtain ⟨m, rfl⟩ := Int.eq_ofNat_of_zero_le (show 0 ≤ n by omega)
        have hm : a + m ≤ S.size := by omega
        have e2 : atOf S a 0 m = a + m := by unfold atOf; rw [if_pos e1]; rfl
        refine (rb_ok b m S a w hl hm hc.c0 hc.c1 hc.c2 hc.z1).mono ?_
        rintro e w' ⟨rfl, k, j, rfl⟩
        refine ⟨by unfold gotOf; rw [if_pos e1]; exact congrArg (fun s => Ending.returned (.string s)) (got_unread S a m hm).symm, by rw [e1, e2]; exact ((hc.drewN k).set1 (a + m) hm).drewN j, ?_, (((Touch.refl _ _).drewN k).trans (Touch.set _ _ _ _)).drewN j⟩
        rw [e2]; unfold stayOf; rw [if_pos e1]; exact (stay_unread S a m hm).symm
  · have e1 : fellOf (unread S a) fell n = fell := by unfold fellOf; rw [if_pos hf]
    have e2 : atOf S a fell n = a := by unfold atOf; rw [e1, if_neg hf]
    refine (rb_fell b n fell w hc.c2 hf).mono ?_
    rintro e w' ⟨rfl, rfl⟩
    exact ⟨by unfold gotOf; rw [e1, if_neg hf], by rw [e1, e2]; exact hc, by rw [e2]; unfold stayOf; rw [e1, if_neg hf], Touch.refl _ _⟩

def RefNumEnd (b : Nat) (S : ByteArray) (a : Nat) (fell n : Int) (w : World) (e : Ending) (w' : World) : Prop :=
  e = .returned (.int .i64 (wrap64 (whole (gotOf (unread S a) (fell1 fell n) n)))) ∧ RefAt w' b S (atOf S a (fell1 fell n) n) (fellOf (unread S a) (fell1 fell n) n) ∧ unread S (atOf S a (fell1 fell n) n) = stayOf (unread S a) (fell1 fell n) n ∧ Touch b w w'

theorem rn_any (b : Nat) (S : ByteArray) (a : Nat) (fell n : Int) (w : World) (hl : S.size ≤ 4000) (hc : RefAt w b S a fell) :
    Calls Try.prog 29 #[.pointer (some ⟨b, 0, none⟩), .int .i64 n] w (RefNumEnd b S a fell n w) := by
  unfold RefNumEnd
  have h2 := hc.c2
  have hz := hc.z2
  have hus := unread_size S a
  have Hus := Lib.hid hus
  clear hus
  by_cases hf : fell = 0
  · subst hf
    by_cases hn : n < 1 ∨ 7 < n
    · have e1 : fell1 0 n = 3 := by unfold fell1; simp [hn]
      rw [e1]
      have hb := rb_any b S a 3 n _ hl (hc.set2 3)
      have Hb := Lib.hid hb
      clear hb hc
      rcases hn with hn | hn
      all_goals (
        go_enter Try.func29, Try.ntmps29
        go_wp2_with (first
          | (go_at_call 30; refine Hb.out.mono ?_; rintro e w' ⟨rfl, hr⟩; have Hr := Lib.hid hr; clear hr)
          | (go_at_call 38; refine (refOf_any _ _ (by have := got_size (unread S a) 3 n; have := Hus.out; omega)).mono ?_; rintro e w' ⟨rfl, rfl⟩))
        go_ret
        exact ⟨rfl, Hr.out.1, Hr.out.2.1, (Touch.set _ _ _ _).trans Hr.out.2.2⟩)
    · have e1 : fell1 0 n = 0 := by unfold fell1; rw [if_neg (by simp), if_neg hn]
      rw [e1]
      have hb := rb_any b S a 0 n _ hl hc
      have Hb := Lib.hid hb
      have hn1 : 1 ≤ n := by omega
      have hn7 : n ≤ 7 := by omega
      clear hb hc hn
      go_enter Try.func29, Try.ntmps29
      go_wp2_with (first
        | (go_at_call 30; refine Hb.out.mono ?_; rintro e w' ⟨rfl, hr⟩; have Hr := Lib.hid hr; clear hr)
        | (go_at_call 38; refine (refOf_any _ _ (by have := got_size (unread S a) 0 n; have := Hus.out; omega)).mono ?_; rintro e w' ⟨rfl, rfl⟩))
      go_ret
      exact ⟨rfl, Hr.out.1, Hr.out.2.1, Hr.out.2.2⟩
  · have e1 : fell1 fell n = fell := by unfold fell1; simp [hf]
    rw [e1]
    have hb := rb_any b S a fell n _ hl hc
    have Hb := Lib.hid hb
    have hf1 : (fell == 0) = false := by simpa using hf
    clear hb hc
    go_enter Try.func29, Try.ntmps29
    go_wp2_with (first
      | (go_at_call 30; refine Hb.out.mono ?_; rintro e w' ⟨rfl, hr⟩; have Hr := Lib.hid hr; clear hr)
      | (go_at_call 38; refine (refOf_any _ _ (by have := got_size (unread S a) fell n; have := Hus.out; omega)).mono ?_; rintro e w' ⟨rfl, rfl⟩))
    go_ret
    exact ⟨rfl, Hr.out.1, Hr.out.2.1, Hr.out.2.2⟩

theorem rd_any (b : Nat) (S : ByteArray) (a : Nat) (fell : Int) (w : World) (hl : S.size ≤ 4000) (hc : RefAt w b S a fell) :
    Calls Try.prog 31 #[.pointer (some ⟨b, 0, none⟩)] w fun e w' => e = .returned (.int .i64 (doneOf (unread S a) fell)) ∧ ∃ k, w' = w.drewN k := by
  have h0 := hc.c0
  have h1 := hc.c1
  have h2 := hc.c2
  have ha := hc.le
  have hus := unread_size S a
  by_cases hf : fell = 0
  · subst hf
    by_cases hm : a < S.size
    · have e1 : doneOf (unread S a) 0 = 2 := by unfold doneOf; rw [if_pos ⟨rfl, by omega⟩]
      have hd : decide ((a : Int) < (S.size : Int)) = true := by simp; omega
      rw [e1]
      clear hc hus e1
      go_enter Try.func31, Try.ntmps31
      go_wp2_with fail
      go_quiet (fail)
      go_wp2_with fail
      go_ret
      exact ⟨rfl, _, rfl⟩
    · have e1 : doneOf (unread S a) 0 = 0 := by unfold doneOf; rw [if_neg (by omega)]
      have hd : decide ((a : Int) < (S.size : Int)) = false := by simp; omega
      rw [e1]
      clear hc hus e1
      go_enter Try.func31, Try.ntmps31
      go_wp2_with fail
      go_quiet (fail)
      go_wp2_with fail
      go_ret
      exact ⟨rfl, _, rfl⟩
  · have e1 : doneOf (unread S a) fell = fell := by unfold doneOf; rw [if_neg (by simp [hf])]
    have hd : (fell == 0) = false := by simpa using hf
    rw [e1]
    clear hc hus e1
    go_enter Try.func31, Try.ntmps31
    go_wp2_with fail
    go_quiet (fail)
    go_wp2_with fail
    go_ret
    exact ⟨rfl, _, rfl⟩
end Go.Proofs.Ytmkngolkflihlaa.Oct
