/- The walk of InetTells. -/
import Derived.Test.YtjfmdfmfefjhnaaInet5
import Derived.Deep.Strs
import Derived.ChangeOld
namespace Go.Proofs.Ytjfmdfmfefjhnaa.Inet
open Go.ChangeShapes Go.WideShapes Go.ChangeAt Go.RowKit Go.Deep
set_option linter.unusedVariables false

/-- what is known of a slice of texts that came in -/
def IsStrs (W : World) (a : Option Addr) (len : Nat) : Prop := ∃ f : Nat → ByteArray, StrsAt W a len f ∧ len ≤ maxLen ∧ ∀ i, i < len → (f i).size ≤ maxLen

theorem cell_lt {w : World} {b o : Nat} {v : Value} (h : w.cell? ⟨b, o, none⟩ = some v) : b < w.heap.size := by
  rcases Nat.lt_or_ge b w.heap.size with h' | h'
  · exact h'
  · unfold World.cell? at h
    rw [Array.getElem?_eq_none h'] at h
    simp at h

theorem InetTells_open0 {H : Type} {enc : TypeId × Value → H} {W : World} {a : Option Addr} {len cap : Nat} {d : DataW H} {p : List MemPlace}
    (h : DataW.Trod enc Try.prog W 0 (fun _ => true) true 22 (.slice a len cap) d p) : IsStrs W a len := by
  obtain ⟨fuel, hf⟩ := h
  rcases open_strs Try.underlying22 Try.underlying9 (by kernel_rfl) hf with ⟨hcs, _⟩ | ⟨x, l, c, m, S, hcs, _, hl, hm, hmm, _, hcell⟩
  · simp [Value.cells] at hcs
    exact ⟨fun _ => ⟨#[]⟩, .inl hcs.2.1, by rw [hcs.2.1]; decide, fun i hi => by omega⟩
  · simp [Value.cells] at hcs
    obtain ⟨rfl, rfl, rfl⟩ := hcs
    have hlm : len ≤ m := by rw [hmm]; split <;> omega
    refine ⟨S, ?_, by omega, fun i hi => (hcell i (by omega)).2⟩
    by_cases hz : len = 0
    · exact .inl hz
    · have h0 := hcell 0 (by omega)
      obtain ⟨b, off, spot⟩ := x
      have hspot : spot = none := by simpa [Addr.add] using World.cell?_spot h0.1
      subst hspot
      have ea : ∀ j, (⟨b, off, none⟩ : Addr).add j = ⟨b, off + j, none⟩ := fun j => by unfold Addr.add; split <;> simp_all
      refine .inr ⟨b, off, rfl, ?_, fun i hi => ?_⟩
      · have h1 := h0.1
        rw [ea] at h1
        exact cell_lt h1
      · rw [← ea]; exact (hcell i (by omega)).1

theorem covered_is (h d x : ByteArray) (b : Bool) (c : Int) (hx : covc h d c = (x, b)) (w : World) (hh : h.size ≤ 4000) (hd : d.size ≤ 4000) :
    Calls Try.prog 8 #[.string h, .string d, .int .i64 c] w fun e w' => e = .returned (.tuple #[.string x, .bool b]) ∧ w = w' := by
  have := covered_any h d c w hh hd
  unfold covVal at this
  rwa [hx] at this
theorem refCovered_is (h d x : ByteArray) (b : Bool) (c : Int) (hx : covc h d c = (x, b)) (w : World) (hh : h.size ≤ 4000) (hd : d.size ≤ 4000) :
    Calls Try.prog 9 #[.string h, .string d, .int .i64 c] w fun e w' => e = .returned (.tuple #[.string x, .bool b]) ∧ w = w' := by
  have := refCovered_any h d c w hh hd
  unfold covVal at this
  rwa [hx] at this

set_option maxRecDepth 100000 in
set_option maxHeartbeats 800000 in
theorem tells_walk (a : Option Addr) (len cap : Nat) (n1 n2 n3 : Int) (w : World) (h : IsStrs w a len) :
    Calls Try.prog 3 #[.slice a len cap, .int .i64 n1, .int .i64 n2, .int .i64 n3] w fun e w' => e = .returned (.bool true) ∧ Below w.heap.size w w' := by
  obtain ⟨f, hat, hl, hs⟩ := h
  have Hs := Lib.hid hs
  have Hat := Lib.hid hat
  have Hl := Lib.hid hl
  clear hs hat
  unfold maxLen at hl
  go_enter Try.func3, Try.ntmps3
  go_wp2_with fail
  refine (works_any _).mono ?_
  rintro e w1 ⟨rfl, h1⟩
  have h0 := Lib.hid h1
  have Hat := Lib.hid (Hat.out.below (Nat.le_refl _) h1)
  clear h1
  go_wp2_with fail
  refine (great_any a len cap f _ Hl.out Hs.out Hat.out).mono ?_
  rintro e w1 ⟨rfl, b, rfl, hb⟩
  cases b
  case true =>
    clear hb
    go_wp2_with fail
    go_ret
    exact ⟨rfl, h0.out⟩
  case false =>
    obtain ⟨hl5, hs4⟩ := hb rfl
    have Hs4 := Lib.hid hs4
    clear hb hs4
    by_cases h2 : 1 < len
    · obtain ⟨b0, off, rfl, hc0⟩ := Hat.out.cell (Below.refl _ _) 0 (by omega)
      obtain ⟨b1, off1, hrr, hc1⟩ := Hat.out.cell (Below.refl _ _) 1 (by omega)
      obtain ⟨rfl, rfl⟩ : b0 = b1 ∧ off = off1 := by simpa using hrr
      clear hrr
      have z0 := Hs4.out 0 (by omega)
      have z1 := Hs4.out 1 (by omega)
      rw [Nat.add_zero] at hc0
      obtain ⟨x, hx⟩ : ∃ x, f 0 = x := ⟨_, rfl⟩
      obtain ⟨y, hy⟩ : ∃ y, f 1 = y := ⟨_, rfl⟩
      rw [hx] at hc0 z0
      rw [hy] at hc1 z1
      clear hx hy
      obtain ⟨p, hp⟩ : ∃ p, covc x y n3 = p := ⟨_, rfl⟩
      obtain ⟨cs, cb⟩ := p
      have Hp := Lib.hid hp
      clear hp
      go_wp2_with fail
      refine (covered_is _ _ _ _ _ Hp.out _ z0 z1).mono ?_
      rintro e w2 ⟨rfl, rfl⟩
      go_wp2_with fail
      refine (refCovered_is _ _ _ _ _ Hp.out _ z0 z1).mono ?_
      rintro e w2 ⟨rfl, rfl⟩
      go_wp2_with fail
      refine (sum_any _ _ _ f _ (by omega) (fun i hi => Nat.le_trans (Hs4.out i hi) (by omega)) Hat.out).mono ?_
      rintro e w2 ⟨rfl, h1⟩
      have h0 := Lib.hid (h0.out.trans (h1.mono h0.out.size))
      have Hat := Lib.hid (Hat.out.below (Nat.le_refl _) h1)
      clear h1
      go_wp2_with fail
      refine (refSum_any _ _ _ f _ (by omega) (fun i hi => Nat.le_trans (Hs4.out i hi) (by omega)) Hat.out).mono ?_
      rintro e w2 ⟨rfl, rfl⟩
      go_wp2_with fail
      refine (pseudo_any _ _ _ _).mono ?_
      rintro e w2 ⟨rfl, h1⟩
      have h0 := Lib.hid (h0.out.trans (h1.mono h0.out.size))
      clear h1
      go_wp2_with fail
      refine (refPseudo_any _ _ _ _).mono ?_
      rintro e w2 ⟨rfl, h1⟩
      have h0 := Lib.hid (h0.out.trans (h1.mono h0.out.size))
      clear h1
      go_wp2_with fail
      refine (patch_any _ _ _ _).mono ?_
      rintro e w2 ⟨rfl, rfl⟩
      go_wp2_with fail
      refine (refPatch_any _ _ _ _).mono ?_
      rintro e w2 ⟨rfl, rfl⟩
      go_wp2_with fail
      go_ret
      exact ⟨rfl, h0.out⟩
    · obtain ⟨p, hp⟩ : ∃ p, covc ⟨#[]⟩ ⟨#[]⟩ n3 = p := ⟨_, rfl⟩
      obtain ⟨cs, cb⟩ := p
      have Hp := Lib.hid hp
      clear hp
      go_wp2_with fail
      refine (covered_is _ _ _ _ _ Hp.out _ (by decide) (by decide)).mono ?_
      rintro e w2 ⟨rfl, rfl⟩
      go_wp2_with fail
      refine (refCovered_is _ _ _ _ _ Hp.out _ (by decide) (by decide)).mono ?_
      rintro e w2 ⟨rfl, rfl⟩
      go_wp2_with fail
      refine (sum_any _ _ _ f _ (by omega) (fun i hi => Nat.le_trans (Hs4.out i hi) (by omega)) Hat.out).mono ?_
      rintro e w2 ⟨rfl, h1⟩
      have h0 := Lib.hid (h0.out.trans (h1.mono h0.out.size))
      have Hat := Lib.hid (Hat.out.below (Nat.le_refl _) h1)
      clear h1
      go_wp2_with fail
      refine (refSum_any _ _ _ f _ (by omega) (fun i hi => Nat.le_trans (Hs4.out i hi) (by omega)) Hat.out).mono ?_
      rintro e w2 ⟨rfl, rfl⟩
      go_wp2_with fail
      refine (pseudo_any _ _ _ _).mono ?_
      rintro e w2 ⟨rfl, h1⟩
      have h0 := Lib.hid (h0.out.trans (h1.mono h0.out.size))
      clear h1
      go_wp2_with fail
      refine (refPseudo_any _ _ _ _).mono ?_
      rintro e w2 ⟨rfl, h1⟩
      have h0 := Lib.hid (h0.out.trans (h1.mono h0.out.size))
      clear h1
      go_wp2_with fail
      refine (patch_any _ _ _ _).mono ?_
      rintro e w2 ⟨rfl, rfl⟩
      go_wp2_with fail
      refine (refPatch_any _ _ _ _).mono ?_
      rintro e w2 ⟨rfl, rfl⟩
      go_wp2_with fail
      go_ret
      exact ⟨rfl, h0.out⟩

theorem InetTells_walk (a : Option Addr) (len cap : Nat) (a1 a2 a3 : Int) (W : World) (h : IsStrs W a len) (w1 : (Lit.int .i64 a1).wf = true) (w2 : (Lit.int .i64 a2).wf = true) (w3 : (Lit.int .i64 a3).wf = true) :
    Calls Try.prog 3 #[.slice a len cap, .int .i64 a1, .int .i64 a2, .int .i64 a3] W fun e w' => e = .returned (.bool true) ∧ Below W.heap.size W w' :=
  tells_walk a len cap a1 a2 a3 W h
end Go.Proofs.Ytjfmdfmfefjhnaa.Inet
