/- The program's Check: its contract. -/
import Derived.Test.YtmkngolkflihlaaMpF4
import Derived.Test.YtmkngolkflihlaaMp2
import Derived.Lib.SliceRun
namespace Go.Proofs.Ytmkngolkflihlaa.Mp
open Go.ChangeShapes Go.WideShapes Go.ChangeAt Go.RowKit
set_option linter.unusedVariables false

theorem wrongN (b j z : Nat) (m : M) (hf : (Fld.num j z).real) (w : World) (h : RowM w b m) : Calls Try.prog 65 #[nv b j z] w
    fun e w' => e = .returned (.int .i64 (wrongF m (.num j z))) ∧ Below w.heap.size w w' :=
  nwrong_any b j z (m.get j) hf.2 w h.lt (h.num j hf.1.2).2
theorem wrongX (b s q : Nat) (m : M) (hs : m.bytes.size ≤ 4000) (hf : (Fld.txt s q).real) (w : World) (h : RowM w b m) : Calls Try.prog 69 #[xv b s q] w
    fun e w' => e = .returned (.int .i64 (wrongF m (.txt s q))) ∧ Below w.heap.size w w' :=
  twrong_any b s q m.bytes w (by unfold Fld.real at hf; omega) (by unfold Fld.real at hf; omega) hs h.txt

theorem emptyF_size (m : M) (f : Fld) (h : m.bytes.size ≤ 4000) : (emptyF m f).bytes.size ≤ 4000 := by
  cases f with
  | num j z => 
    show (m.set j 0).bytes.size ≤ 4000
    unfold M.set
    split <;> exact h
  | txt s l => exact Nat.zero_le _
theorem empties_size (m : M) : ∀ (l : List Fld), m.bytes.size ≤ 4000 → (empties m l).bytes.size ≤ 4000 := by
  intro l
  induction l generalizing m with
  | nil => exact id
  | cons f r ih => exact fun h => ih (emptyF m f) (emptyF_size m f h)
theorem every_in : ∀ f ∈ everyF, f.in := by simp [everyF, Fld.in]
theorem zeros_next (m : M) (l : List Fld) (k : Nat) (f : Fld) (hk : l[k]? = some f) (h : zeros m (l.take k) = true) (hf : zeroF m f = true) : zeros m (l.take (k + 1)) = true := by
  rw [List.take_add_one, hk]
  unfold zeros at *
  rw [List.all_append, h]
  simp [hf]
theorem zeros_not (m : M) (l : List Fld) (k : Nat) (f : Fld) (hk : l[k]? = some f) (hf : zeroF m f = false) : zeros m l = false := by
  unfold zeros
  rw [List.all_eq_false]
  exact ⟨f, List.mem_of_getElem? hk, by simp [hf]⟩

theorem eqNil (w : World) (a : Option Addr) (n c n' c' : Nat) : (binOp .eql 47 (.slice a n c) (.slice none n' c')).run Try.prog w = .ok (.bool a.isNone) w :=
  Lib.run_eql_slice_nil w _ _ a n c n' c' Try.underlying47

set_option maxRecDepth 100000 in
set_option maxHeartbeats 4000000 in
theorem Check_any (m : M) (hs : m.bytes.size ≤ 4000) (w : World) : Calls Try.prog 9 #[vOf m] w
    fun e w' => e = .returned (.int .i64 (pcheck m)) ∧ Below w.heap.size w w' := by
  have R0 := Lib.hid (RowM.new w m)
  have B0 := Lib.hid ((Below.refl w.heap.size w).alloc (Nat.le_refl _) (.cells (rowOf m) 23))
  have q0 := eqNil
  cases hk : known m.kind
  · have hp := Lib.hid (show pcheck m = 7 by simp [pcheck, hk])
    rw [hp.out]
    have hf := fields_none hk
    unfold vOf
    unfold rowOf at R0 B0
    go_enter Try.func9, Try.ntmps9
    go_wp2_with fail
    refine (fieldsOf_any w.heap.size m _ R0.out).mono ?_
    rintro e w1 ⟨v, rfl, hF, hb⟩
    rcases hF with ⟨-, rfl⟩ | ⟨hne, -⟩
    · have HB := Lib.hid hb
      clear hb hf hk
      go_wp2_with fail
      go_ret
      exact ⟨rfl, B0.out.trans (HB.out.mono (by simp))⟩
    · exact absurd hf hne
  · have hf := fields_some hk
    have hp := Lib.hid (show pcheck m = if wrongs m (fields m.kind) ≠ 0 then wrongs m (fields m.kind) else if zeros (empties m (fields m.kind)) everyF = true then 0 else 4 by simp [pcheck, hk])
    have hr := Lib.hid (fields_real m.kind)
    have hn := fields_le m.kind
    generalize pcheck m = C at *
    unfold vOf
    go_enter Try.func9, Try.ntmps9
    go_wp2_with fail
    refine (fieldsOf_any w.heap.size m _ R0.out).mono ?_
    rintro e w1 ⟨v, rfl, hF, hb⟩
    rcases hF with ⟨hne, -⟩ | ⟨-, g, cap, rfl, hg1, hg2, hg⟩
    · exact absurd hne hf
    have R1 := Lib.hid (R0.out.below hb (by simp))
    have B1 := Lib.hid (B0.out.trans (hb.mono (by simp)))
    have HG := Lib.hid hg
    have hg1 : w.heap.size + 1 ≤ g := by simpa using hg1
    generalize fields m.kind = l at *
    clear hb hg R0 B0 hk hf
    go_wp2_with fail
    have LL := Lib.hid R1.out.lt
    go_loopw [16] (fun i wr => ∃ k : Nat, k ≤ l.length ∧ i = .int .i64 k ∧ wrongs m (l.take k) = 0 ∧ Below w1.heap.size w1 wr) (fun i _ => l.length - (intOf i).toNat)
    case atStart => exact ⟨0, Nat.zero_le _, rfl, rfl, Below.refl _ _⟩
    case round =>
      obtain ⟨k, hk, rfl, hw, hB⟩ := hrel
      have HW := Lib.hid hw
      have HB := Lib.hid hB
      clear hw hB
      by_cases hlt : k < l.length
      · obtain ⟨f, hf⟩ : ∃ f, l[k]? = some f := ⟨_, List.getElem?_eq_getElem hlt⟩
        have HF := Lib.hid hf
        have hfr := hr.out f (List.mem_of_getElem? hf)
        have hc : wr.cell? ⟨g, k, none⟩ = some (fv w.heap.size f) := (HB.out.cell (p := ⟨g, k, none⟩) hg2).trans (HG.out k f hf)
        have RR := Lib.hid (R1.out.below HB.out LL.out)
        clear hf
        cases f with
        | num j z =>
          change wr.cell? ⟨g, k, none⟩ = some (.iface 75 (nv w.heap.size j z)) at hc
          go_wp2_with fail
          refine (wrongN _ j z m hfr _ RR.out).mono ?_
          rintro e w2 ⟨rfl, h2⟩
          by_cases hx : wrongF m (.num j z) = 0
          · have HN := Lib.hid (wrongs_next m l k _ HF.out HW.out hx)
            rw [hx]
            clear hx
            go_wp2_with fail
            go_roundw
            case rel => exact ⟨k + 1, by omega, by go_num, HN.out, HB.out.trans (h2.mono HB.out.size)⟩
            case measure => simp [intOf]; omega
          · have HN := Lib.hid (wrongs_at m l k _ HF.out HW.out hx)
            have hx' : (wrongF m (.num j z) != 0) = true := by simpa using hx
            have hC := Lib.hid (show C = wrongF m (.num j z) by rw [hp.out, HN.out, if_pos hx])
            generalize wrongF m (.num j z) = x at *
            clear hx
            go_wp2_with fail
            go_ret
            exact ⟨by rw [hC.out]; rfl, B1.out.trans ((HB.out.trans (h2.mono HB.out.size)).mono (by have := LL.out; omega))⟩
        | txt s q =>
          change wr.cell? ⟨g, k, none⟩ = some (.iface 78 (xv w.heap.size s q)) at hc
          go_wp2_with fail
          refine (wrongX _ s q m hs hfr _ RR.out).mono ?_
          rintro e w2 ⟨rfl, h2⟩
          by_cases hx : wrongF m (.txt s q) = 0
          · have HN := Lib.hid (wrongs_next m l k _ HF.out HW.out hx)
            rw [hx]
            clear hx
            go_wp2_with fail
            go_roundw
            case rel => exact ⟨k + 1, by omega, by go_num, HN.out, HB.out.trans (h2.mono HB.out.size)⟩
            case measure => simp [intOf]; omega
          · have HN := Lib.hid (wrongs_at m l k _ HF.out HW.out hx)
            have hx' : (wrongF m (.txt s q) != 0) = true := by simpa using hx
            have hC := Lib.hid (show C = wrongF m (.txt s q) by rw [hp.out, HN.out, if_pos hx])
            generalize wrongF m (.txt s q) = x at *
            clear hx
            go_wp2_with fail
            go_ret
            exact ⟨by rw [hC.out]; rfl, B1.out.trans ((HB.out.trans (h2.mono HB.out.size)).mono (by have := LL.out; omega))⟩
      · obtain rfl : k = l.length := by omega
        have HW1 := Lib.hid (show wrongs m l = 0 by have := HW.out; rwa [List.take_length] at this)
        clear hlt HW
        go_wp2_with fail
        have HG1 := Lib.hid (fun (i : Nat) f (hi : l[i]? = some f) => (HB.out.cell (p := ⟨g, i, none⟩) hg2).trans (HG.out i f hi))
        have g2 : g < wr.heap.size := Nat.lt_of_lt_of_le hg2 HB.out.size
        have R2 := Lib.hid (R1.out.below HB.out LL.out)
        have B2 := Lib.hid (B1.out.trans (HB.out.mono (by have := LL.out; omega)))
        clear HB HG R1 B1 LL hg2
        obtain ⟨wl, hwl⟩ : ∃ wl, wl = wr := ⟨_, rfl⟩
        subst hwl
        go_loopw [28] (fun i wx => ∃ k : Nat, k ≤ l.length ∧ i = .int .i64 k ∧ RowM wx w.heap.size (empties m (l.take k)) ∧ Oct.Touch w.heap.size wl wx) (fun i _ => l.length - (intOf i).toNat)
        case atStart => exact ⟨0, Nat.zero_le _, rfl, R2.out, Oct.Touch.refl _ _⟩
        case round =>
          obtain ⟨k, hk, rfl, hR, hT⟩ := hrel
          have HR := Lib.hid hR
          have HT := Lib.hid hT
          clear hR hT
          by_cases hlt : k < l.length
          · obtain ⟨f, hf⟩ : ∃ f, l[k]? = some f := ⟨_, List.getElem?_eq_getElem hlt⟩
            have hfr := hr.out f (List.mem_of_getElem? hf)
            have HE := Lib.hid (empties_next m l k f hf)
            have hc : wr.cell? ⟨g, k, none⟩ = some (fv w.heap.size f) := (World.cell?_of_block (w := wl) (HT.out.block g g2 (by omega))).trans (HG1.out k f hf)
            clear hf
            cases f with
            | num j z =>
              change wr.cell? ⟨g, k, none⟩ = some (.iface 75 (nv w.heap.size j z)) at hc
              go_wp2_with fail
              refine (nempty_any w.heap.size j z _ hfr.1.2 _ HR.out).mono ?_
              rintro e w2 ⟨rfl, h2, t2⟩
              have H2 := Lib.hid h2
              have T2 := Lib.hid t2
              clear h2 t2
              go_wp2_with fail
              go_roundw
              case rel => exact ⟨k + 1, by omega, by go_num, by rw [HE.out]; exact H2.out, HT.out.trans T2.out⟩
              case measure => simp [intOf]; omega
            | txt s q =>
              change wr.cell? ⟨g, k, none⟩ = some (.iface 78 (xv w.heap.size s q)) at hc
              go_wp2_with fail
              refine (tempty_any w.heap.size s q _ _ HR.out).mono ?_
              rintro e w2 ⟨rfl, h2, t2⟩
              have H2 := Lib.hid h2
              have T2 := Lib.hid t2
              clear h2 t2
              go_wp2_with fail
              go_roundw
              case rel => exact ⟨k + 1, by omega, by go_num, by rw [HE.out]; exact H2.out, HT.out.trans T2.out⟩
              case measure => simp [intOf]; omega
          · obtain rfl : k = l.length := by omega
            have HR2 := Lib.hid (show RowM wr w.heap.size (empties m l) by have := HR.out; rwa [List.take_length] at this)
            have hs2 : (empties m l).bytes.size ≤ 4000 := empties_size m l hs
            have B3 := Lib.hid (B2.out.trans (HT.out.toBelow (Nat.le_refl _) (by omega)))
            have hC := Lib.hid (show C = if zeros (empties m l) everyF = true then 0 else 4 by rw [hp.out, HW1.out]; simp)
            generalize empties m l = m2 at *
            clear HR HT hlt hk HG1 R2 B2 HW1 hg1 g2 hs hp
            go_wp2_with fail
            refine (every_any w.heap.size _).mono ?_
            rintro e w3 ⟨v, rfl, hF, hb⟩
            rcases hF with ⟨hne, -⟩ | ⟨-, g3, cap3, rfl, hg1, hg2, hg⟩
            · exact absurd hne (by simp [everyF])
            have B4 := Lib.hid (B3.out.trans (hb.mono (by have := HR2.out.lt; omega)))
            have R3 := Lib.hid (HR2.out.below hb HR2.out.lt)
            have L3 := Lib.hid (Nat.lt_of_lt_of_le HR2.out.lt hb.size)
            have HG := Lib.hid hg
            have e6 : everyF.length = 6 := rfl
            rw [e6]
            clear hb hg e6 B3 HR2
            go_wp2_with fail
            go_loopw [37] (fun i wx => ∃ k : Nat, k ≤ 6 ∧ i = .int .i64 k ∧ zeros m2 (everyF.take k) = true ∧ Below w3.heap.size w3 wx) (fun i _ => 6 - (intOf i).toNat)
            case atStart => exact ⟨0, Nat.zero_le _, rfl, rfl, Below.refl _ _⟩
            case round =>
              obtain ⟨k, hk, rfl, hz, hB⟩ := hrel
              have HZ := Lib.hid hz
              have HB := Lib.hid hB
              clear hz hB
              by_cases hlt : k < 6
              · obtain ⟨f, hf⟩ : ∃ f, everyF[k]? = some f := ⟨_, List.getElem?_eq_getElem hlt⟩
                have hfi := every_in f (List.mem_of_getElem? hf)
                have HE := Lib.hid (zeros_next m2 everyF k f hf HZ.out)
                have HA := Lib.hid (zeros_not m2 everyF k f hf)
                have hc : wr.cell? ⟨g3, k, none⟩ = some (fv w.heap.size f) := (HB.out.cell (p := ⟨g3, k, none⟩) hg2).trans (HG.out k f hf)
                have RR := Lib.hid (R3.out.below HB.out L3.out)
                have CZ := Lib.hid (isZero_any w.heap.size m2 f hfi hs2 wr RR.out)
                clear hf hfi
                have hl6 : (k : Int) < 6 := by omega
                cases hz : zeroF m2 f
                · have HC := Lib.hid (show C = 4 by rw [hC.out, HA.out hz]; rfl)
                  rw [hz] at CZ
                  clear hz
                  generalize fv w.heap.size f = fval at *
                  go_wp2_with fail
                  refine CZ.out.mono ?_
                  rintro e w4 ⟨rfl, h4⟩
                  go_wp2_with fail
                  go_ret
                  exact ⟨by rw [HC.out]; rfl, B4.out.trans ((HB.out.trans (h4.mono HB.out.size)).mono (by have := L3.out; omega))⟩
                · have HE' := Lib.hid (HE.out hz)
                  rw [hz] at CZ
                  clear hz
                  generalize fv w.heap.size f = fval at *
                  go_wp2_with fail
                  refine CZ.out.mono ?_
                  rintro e w4 ⟨rfl, h4⟩
                  go_wp2_with fail
                  go_roundw
                  case rel => exact ⟨k + 1, by omega, by go_num, HE'.out, HB.out.trans (h4.mono HB.out.size)⟩
                  case measure => simp [intOf]; omega
              · obtain rfl : k = 6 := by omega
                have HC := Lib.hid (show C = 0 by rw [hC.out, if_pos (by have := HZ.out; exact this)])
                go_wp2_with fail
                go_ret
                exact ⟨by rw [HC.out]; rfl, B4.out.trans (HB.out.mono (by have := L3.out; omega))⟩
end Go.Proofs.Ytmkngolkflihlaa.Mp
