/- The walk of AvecEach. -/
import Derived.Test.YtdnddhnnpplgjaaAvecH
import Derived.Deep.RegionHeld3
namespace Go.Proofs.Ytdnddhnnpplgjaa.Avec
open Go.ChangeShapes Go.WideShapes Go.ChangeAt Go.RowKit
open Go.Proofs.Ytdnddhnnpplgjaa.LInt
set_option linter.unusedVariables false

theorem AvecEach_open1 {H : Type} {enc : TypeId × Value → H} {W : World} {a : Option Addr} {len cap : Nat} {d : DataW H} {p : List MemPlace}
    (h : DataW.Trod enc Try.prog W 0 (fun _ => true) true 22 (.slice a len cap) d p) : IsRuns W a len := isRuns_open h

theorem ints_in2 {w : World} {base : Nat} {v : Value} {xs : List Int} (h : Ints w base v xs) : ∃ a cap, v = .slice a xs.length cap ∧ IntsIn w a xs ∧ ∀ b off, a = some ⟨b, off, none⟩ → b < w.heap.size := by
  rcases h.at with ⟨rfl, rfl⟩ | ⟨g, cap, rfl, h1, h2, h3⟩
  · exact ⟨none, 0, rfl, .inl rfl, fun b off e => by cases e⟩
  · refine ⟨_, cap, rfl, .inr ⟨g, 0, rfl, h2, fun i x hi => ?_⟩, fun b off e => by cases e; exact h2⟩
    have hlt : i < xs.length := (List.getElem?_eq_some_iff.1 hi).1
    rw [Nat.zero_add, h3 i hlt, List.getD_eq_getElem?_getD, hi]
    rfl

/-- the five variables, as they lie at the end -/
def Vars (A B Bw Bf Bm : Nat) (N : Nat) (vw : Value) (from' most : Int) (X : World) : Prop :=
  X.cell? ⟨A, 0, none⟩ = some (.bool true) ∧ X.cell? ⟨B, 0, none⟩ = some (.int .i64 N) ∧ X.cell? ⟨Bw, 0, none⟩ = some vw ∧ X.cell? ⟨Bf, 0, none⟩ = some (.int .i64 from') ∧ X.cell? ⟨Bm, 0, none⟩ = some (.int .i64 most)
structure Last (W : World) (A B Bw Bf Bm : Nat) (N : Nat) (vw : Value) (from' most : Int) (X : World) : Prop where
  lA : A < X.heap.size
  lB : B < X.heap.size
  lw : Bw < X.heap.size
  lf : Bf < X.heap.size
  lm : Bm < X.heap.size
  vars : Vars A B Bw Bf Bm N vw from' most X
  below : Below W.heap.size W X
theorem Last.on {W : World} {A B Bw Bf Bm : Nat} {N : Nat} {vw : Value} {from' most : Int} {X Y : World} (h : Last W A B Bw Bf Bm N vw from' most X) (k : Below X.heap.size X Y) : Last W A B Bw Bf Bm N vw from' most Y := by
  obtain ⟨c1, c2, c3, c4, c5⟩ := h.vars
  exact ⟨Nat.lt_of_lt_of_le h.lA k.size, Nat.lt_of_lt_of_le h.lB k.size, Nat.lt_of_lt_of_le h.lw k.size, Nat.lt_of_lt_of_le h.lf k.size, Nat.lt_of_lt_of_le h.lm k.size,
    ⟨(k.cell (p := ⟨A, 0, none⟩) h.lA).trans c1, (k.cell (p := ⟨B, 0, none⟩) h.lB).trans c2, (k.cell (p := ⟨Bw, 0, none⟩) h.lw).trans c3, (k.cell (p := ⟨Bf, 0, none⟩) h.lf).trans c4, (k.cell (p := ⟨Bm, 0, none⟩) h.lm).trans c5⟩,
    h.below.trans (k.mono h.below.size)⟩
theorem Last.of_heap {W : World} {A B Bw Bf Bm : Nat} {N : Nat} {vw : Value} {from' most : Int} {X Y : World} (h : Last W A B Bw Bf Bm N vw from' most X) (e : Y.heap = X.heap) (e1 : Y.os = X.os) (e2 : Y.tape = X.tape) (e3 : Y.output = X.output) : Last W A B Bw Bf Bm N vw from' most Y :=
  h.on ⟨e1, e2, e3, by rw [e]; exact Nat.le_refl _, fun k _ => by rw [e]⟩

set_option maxRecDepth 100000 in
set_option maxHeartbeats 2000000 in
theorem AvecEach_walk (from' : Int) (a1 : Option Addr) (len cap : Nat) (seq most : Int) (W : World) (u0 : (Lit.int .i64 from').wf = true) (h : IsRuns W a1 len) (u2 : (Lit.int .i64 seq).wf = true) (u3 : (Lit.int .i64 most).wf = true) :
    Calls Try.prog 5 #[.int .i64 from', .slice a1 len cap, .int .i64 seq, .int .i64 most] W fun e w' => e = .returned (.bool true) ∧ Below W.heap.size W w' := by
  obtain ⟨l, rfl, hat, hlm⟩ := h
  clear u0 u2 u3
  have hb2 : Below W.heap.size W ((W.alloc (.cells #[.int .i64 from'] 3)).alloc (.cells #[.int .i64 most] 3)) := ((Below.refl _ W).alloc (Nat.le_refl _) _).alloc (by simp) _
  have bF := (Boxed.new W 3 (.int .i64 from')).alloc (.cells #[.int .i64 most] 3)
  have bM := Boxed.new (W.alloc (.cells #[.int .i64 from'] 3)) 3 (.int .i64 most)
  rw [World.size_alloc] at bM
  have hsz : ((W.alloc (.cells #[.int .i64 from'] 3)).alloc (.cells #[.int .i64 most] 3)).heap.size = W.heap.size + 1 + 1 := by simp
  go_enter Try.func5, Try.ntmps5
  go_wp2_with fail
  refine (works_any _).mono ?_
  rintro e w1 ⟨rfl, h1⟩
  rw [hsz] at h1
  have hs1 := h1.size
  rw [hsz] at hs1
  have bF1 := boxed_below bF h1 (by omega)
  have bM1 := boxed_below bM h1 (by omega)
  have hb1 := hb2.trans (h1.mono (by omega))
  clear bF bM hb2 hsz h1
  by_cases hlen : 50 < l.length
  · go_wp2_with fail
    go_returns
    exact ⟨rfl, hb1⟩
  · have Hst := Lib.hid (fun w h => refStates_any l (by omega) a1 cap w h)
    have Hat := Lib.hid (fun (X : World) (h : Below W.heap.size W X) => hat.below h)
    clear hat
    have hml := many_le l
    have hsl : (states l).length ≤ 3200 := by rw [states_length]; omega
    go_wp2_with fail
    refine (Hst.out _ (Hat.out _ hb1)).mono ?_
    rintro e w2 ⟨v, rfl, hi, h2⟩
    obtain ⟨aw, capw, rfl, hin, hap⟩ := ints_in2 hi
    have hs2 := h2.size
    have hb2 := hb1.trans (h2.mono (by omega))
    have bF2 := boxed_below bF1 h2 (by omega)
    have bM2 := boxed_below bM1 h2 (by omega)
    clear bF1 bM1 h2 hi Hst hb1
    have bW := ((Boxed.new w2 33 (.slice aw (states l).length capw)).alloc (.cells #[.int .i64 0] 3)).alloc (.cells #[.bool true] 4)
    have bB := (Boxed.new (w2.alloc (.cells #[.slice aw (states l).length capw] 33)) 3 (.int .i64 0)).alloc (.cells #[.bool true] 4)
    have bA := Boxed.new ((w2.alloc (.cells #[.slice aw (states l).length capw] 33)).alloc (.cells #[.int .i64 0] 3)) 4 (.bool true)
    have bF3 := ((bF2.alloc (.cells #[.slice aw (states l).length capw] 33)).alloc (.cells #[.int .i64 0] 3)).alloc (.cells #[.bool true] 4)
    have bM3 := ((bM2.alloc (.cells #[.slice aw (states l).length capw] 33)).alloc (.cells #[.int .i64 0] 3)).alloc (.cells #[.bool true] 4)
    have hb3 : Below w2.heap.size w2 (((w2.alloc (.cells #[.slice aw (states l).length capw] 33)).alloc (.cells #[.int .i64 0] 3)).alloc (.cells #[.bool true] 4)) := (((Below.refl _ w2).alloc (Nat.le_refl _) _).alloc (by simp) _).alloc (by simp; omega) _
    simp only [World.size_alloc] at bB bA
    have hsz3 : (((w2.alloc (.cells #[.slice aw (states l).length capw] 33)).alloc (.cells #[.int .i64 0] 3)).alloc (.cells #[.bool true] 4)).heap.size = w2.heap.size + 1 + 1 + 1 := by simp
    have hin3 := hin.below hb3
    have hb4 := hb2.trans (hb3.mono (by omega))
    have cF3 := bF3.cell
    have Hea := Lib.hid (fun w h => Each_any from' l (by omega) a1 cap w h)
    clear bF2 bM2 hin hb2
    go_wp2_with fail
    generalize ((w2.alloc (.cells #[.slice aw (states l).length capw] 33)).alloc (.cells #[.int .i64 0] 3)).alloc (.cells #[.bool true] 4) = w3 at *
    refine (Hea.out _ (Hat.out _ hb4)).mono ?_
    rintro e w4 ⟨Cf, Cl, al, capl, rfl, hCf, hCl, lCf, lCl, cCf, cCl, hT, h4⟩
    rw [hsz3] at h4 hCf hCl
    have hs4 := h4.size
    have bW4 := boxed_below bW h4 (by omega)
    have bB4 := boxed_below bB h4 (by omega)
    have bA4 := boxed_below bA h4 (by omega)
    have bF4 := boxed_below bF3 h4 (by omega)
    have bM4 := boxed_below bM3 h4 (by omega)
    have hin4 := hin3.below (by rw [hsz3]; exact h4)
    have hb5 := hb4.trans (h4.mono (by omega))
    have hr4 : Reads (w2.heap.size + 1 + 1) (w2.heap.size + 1) w2.heap.size W.heap.size (W.heap.size + 1) from' most aw (states l) capw w4 :=
      ⟨bW4.lt, bF4.lt, bM4.lt, bW4.cell, bF4.cell, bM4.cell, hin4, fun b off e => by have := hap b off e; omega⟩
    have Hlaw := Lib.hid (Each1_law (w2.heap.size + 1 + 1) (w2.heap.size + 1) w2.heap.size W.heap.size (W.heap.size + 1) Cf Cl from' most l (by omega) aw capw (by omega) (by omega) (by omega) (by omega) w4 hr4 bA4 bB4 al capl cCf cCl hT)
    have hfn := fun X => each_not_nil (.func 29) #[] #[.pointer (some ⟨Cf, 0, none⟩), .pointer (some ⟨Cl, 0, none⟩)] X
    clear bW bB bA bF3 bM3 hb4 hin3 cF3 h4 hCf hCl lCf lCl cCf cCl hT Hea hin4
    go_wp2_with fail
    refine Hlaw.out.mono ?_
    rintro e w5 ⟨rfl, N, hN, hA5, hB5, hk5⟩
    have hW : W.heap.size ≤ w2.heap.size := by omega
    have HL := Lib.hid (show Last W (w2.heap.size + 1 + 1) (w2.heap.size + 1) w2.heap.size W.heap.size (W.heap.size + 1) N (.slice aw (states l).length capw) from' most w5 from
      ⟨hA5.lt, hB5.lt, by have := hk5.size; omega, by have := hk5.size; omega, by have := hk5.size; omega,
        ⟨hA5.cell, hB5.cell, hk5.cell hr4.lw (by omega) (by omega) hr4.cw, hk5.cell hr4.lf (by omega) (by omega) hr4.cf, hk5.cell hr4.lm (by omega) (by omega) hr4.cm⟩,
        ⟨hk5.os.trans hb5.os, hk5.tape.trans hb5.tape, hk5.output.trans hb5.output, Nat.le_trans hb5.size hk5.size, fun k hk => (hk5.block k (by omega) (by omega) (by omega)).trans (hb5.block k hk)⟩⟩)
    have HAt := Lib.hid (fun (X : World) (h : Last W (w2.heap.size + 1 + 1) (w2.heap.size + 1) w2.heap.size W.heap.size (W.heap.size + 1) N (.slice aw (states l).length capw) from' most X) => At_any from' seq l (by omega) a1 cap X (Hat.out X h.below))
    have HRt := Lib.hid (fun (X : World) (h : Last W (w2.heap.size + 1 + 1) (w2.heap.size + 1) w2.heap.size W.heap.size (W.heap.size + 1) N (.slice aw (states l).length capw) from' most X) => refAt_any from' seq l (by omega) a1 cap X (Hat.out X h.below))
    have Hon := Lib.hid (fun (X Y : World) (h : Last W (w2.heap.size + 1 + 1) (w2.heap.size + 1) w2.heap.size W.heap.size (W.heap.size + 1) N (.slice aw (states l).length capw) from' most X) (k : Below X.heap.size X Y) => h.on k)
    clear bW4 bB4 bA4 bF4 bM4 hb5 hr4 Hlaw hA5 hB5 hk5 hs4 hfn hsz3 hs1 hs2 hap hml Hat hW
    generalize atOf (seqOf seq) (told (seqOf from') (states l)) = V at *
    generalize (states l).length = n at *
    generalize w2.heap.size + 1 + 1 = A at *
    generalize w2.heap.size + 1 = B at *
    generalize w2.heap.size = Bw at *
    generalize W.heap.size + 1 = Bm at *
    obtain ⟨Bf, hBf⟩ : ∃ Bf, W.heap.size = Bf := ⟨_, rfl⟩
    rw [hBf] at HL HAt HRt Hon ⊢
    obtain ⟨cA, cB, cw, cf, cm⟩ := HL.out.vars
    obtain ⟨M, hM⟩ : ∃ M : Int, (if most < 1 then (1 : Int) else most) = M := ⟨_, rfl⟩
    have hMn : (if M < (n : Int) then M else (n : Int)) = (N : Int) := by
      split at hM <;> split <;> omega
    have hNN : ((N : Int) == (N : Int)) = true := by simp
    have hV : (V == V) = true := by simp
    clear hN
    go_wp2_with fail
    go_region_held3 (fun w' => w'.cell? ⟨A, 0, none⟩ = some (.bool true) ∧ w'.cell? ⟨B, 0, none⟩ = some (.int .i64 N) ∧ w'.cell? ⟨Bw, 0, none⟩ = some (.slice aw n capw) ∧ w'.cell? ⟨Bf, 0, none⟩ = some (.int .i64 from') ∧ w'.cell? ⟨Bm, 0, none⟩ = some (.int .i64 most)) (first | go_keep | exact v6 | exact v7) (first
      | (go_at_call 22; refine (HAt.out _ (HL.out.of_heap (by rfl) (by rfl) (by rfl) (by rfl))).mono ?_; rintro e w6 ⟨rfl, h6⟩; have hL6 := Hon.out _ _ (HL.out.of_heap (by rfl) (by rfl) (by rfl) (by rfl)) h6; have v6 := hL6.vars)
      | (go_at_call 23; refine (HRt.out _ (hL6.of_heap (by rfl) (by rfl) (by rfl) (by rfl))).mono ?_; rintro e w7 ⟨rfl, h7⟩; have hL7 := Hon.out _ _ (hL6.of_heap (by rfl) (by rfl) (by rfl) (by rfl)) h7; have v7 := hL7.vars))
    all_goals (
      go_wp2_with fail
      go_returns
      exact ⟨rfl, hL7.below⟩)
end Go.Proofs.Ytdnddhnnpplgjaa.Avec
