/- The document's Get: its contract. -/
import Derived.Test.YtmkngolkflihlaaMpR4
import Derived.Test.YtmkngolkflihlaaMpGet
namespace Go.Proofs.Ytmkngolkflihlaa.Mp
open Go.ChangeShapes Go.WideShapes Go.ChangeAt Go.RowKit
set_option linter.unusedVariables false

theorem ref_new (w : World) (s : ByteArray) (h : 1 ≤ s.size) (t : TypeId) : Oct.RefAt (w.alloc (.cells #[.string s, .int .i64 1, .int .i64 0] t)) w.heap.size s 1 0 := by
  have hz : ∀ j, (w.alloc (.cells #[.string s, .int .i64 1, .int .i64 0] t)).frozen? ⟨w.heap.size, j, none⟩ = false := fun j => by
    have := World.frozen?_alloc_mark w #[.string s, .int .i64 1, .int .i64 0] t 0 0 j
    rw [this]; simp
  have hc : ∀ j, (w.alloc (.cells #[.string s, .int .i64 1, .int .i64 0] t)).cell? ⟨w.heap.size, j, none⟩ = #[Value.string s, .int .i64 1, .int .i64 0][j]? := fun j => World.cell?_alloc_mark w _ t (0, 0) j
  exact ⟨h, hc 0, hc 1, hc 2, hz 1, hz 2⟩
/-- the first byte, as the index gives it -/
theorem first_byte (s : ByteArray) (h : 0 < s.size) : ((s[0]'h).toNat : Int) = kindOf s := by
  unfold kindOf
  have e : s.data.toList.headD 0 = s[0]'h := by
    rw [show s[0]'h = s.data[0]'h from rfl]
    rw [List.headD_eq_head?_getD, List.head?_eq_getElem?]
    simp
    rw [Array.getElem?_eq_getElem (show 0 < s.data.size from h)]
    rfl
  rw [e]

/-- where a reading stands -/
def AtRd (w : World) (bl bc : Nat) (s : ByteArray) (y : Rd) : Prop :=
  w.heap[bl]? = some (.cells (lrow y.m) 55 (0, 0)) ∧ ∃ a, Oct.RefAt w bc s a y.fail ∧ Oct.unread s a = y.left

set_option maxRecDepth 100000 in
set_option maxHeartbeats 8000000 in
theorem RefGet_any (o : Opt.O) (hs : o.value.size ≤ 3000) (w : World) : Calls Try.prog 12 #[.agg #[.int .i64 o.kind, .string o.value]] w
    fun e w' => e = .returned (getV o) ∧ Below w.heap.size w w' := by
  have b0 := (Below.refl w.heap.size w).alloc (Nat.le_refl _) (.cells #[.int .i64 o.kind, .string o.value] 26)
  have B1 := Lib.hid (b0.alloc b0.size (.cells (rowOf M.zero) 23))
  have N1 := Lib.hid (show ((w.alloc (.cells #[.int .i64 o.kind, .string o.value] 26)).alloc (.cells (rowOf M.zero) 23)).heap[w.heap.size + 1]? = some (.cells (rowOf M.zero) 23 (0, 0)) by
    have := heap_alloc_new (w.alloc (.cells #[.int .i64 o.kind, .string o.value] 26)) (.cells (rowOf M.zero) 23)
    rwa [show (w.alloc (.cells #[.int .i64 o.kind, .string o.value] 26)).heap.size = w.heap.size + 1 by simp] at this)
  clear b0
  by_cases hk : o.kind = 46
  · by_cases h0 : o.value.size = 0
    · have hg := Lib.hid (get_empty hk h0)
      have he := Oct.is_empty _ h0
      have he2 : o.value.toList = [] := by simpa using he
      rw [hk] at N1 B1 ⊢
      clear hk
      unfold rowOf M.zero at N1 B1
      dsimp only at N1 B1
      go_enter Try.func12, Try.ntmps12
      go_wp2_with (refine wpList_store_row rfl 23 _ _ rfl (w.heap.size + 1) _ rfl rfl 23 _ N1.out (hi7m _ _ _ _ _ _ _) rfl (hone7m _ _ _ _ _ _ _) ?_)
      refine bodyPost_ret (results_row1 Try.results12 _ _ (w.heap.size + 1) 23 _ (0, 0) _ rfl (setRow_heap _ _ _ _ _ _ N1.out) Try.underlying23 rfl (hi7m _ _ _ _ _ _ _)) rfl ?_
      exact get_end hg.out B1.out (by omega)
    · have he := Oct.not_empty _ h0
      have hpos : 0 < o.value.size := by omega
      have hfb := Lib.hid (first_byte o.value hpos)
      have hkk := kindOf_lt o.value
      have HS := Lib.hid (show get o = if known (kindOf o.value) = false then (M.zero, 7)
        else if Oct.doneOf (said o.value).left (said o.value).fail ≠ 0 then (M.zero, Oct.doneOf (said o.value).left (said o.value).fail) else ((said o.value).m, 0) by unfold get; rw [if_neg (by simp [hk]), if_neg h0])
      have HR := Lib.hid (rsaid o.value)
      have HB := Lib.hid (show begun o.value = ⟨{ M.zero with kind := kindOf o.value }, Oct.unread o.value 1, 0⟩ from rfl)
      have CK := Lib.hid (fun w => RefKnown_any (kindOf o.value) w)
      have CS := Lib.hid (fun w => RefSizes_any (kindOf o.value) w)
      generalize kindOf o.value = kd at *
      rw [hk] at B1 N1 ⊢
      clear hk
      have N1' := Lib.hid N1.out
      clear N1
      unfold rowOf M.zero at N1' B1
      dsimp only at N1' B1
      go_enter Try.func12, Try.ntmps12
      go_wp2_with fail
      rw [show wrap64 ((o.value[0]'hpos).toNat : Int) = kd by rw [hfb.out]; unfold wrap64; omega]
      clear hfb
      refine (CK.out _).mono ?_
      rintro e w1 ⟨rfl, rfl⟩
      cases hkn : known kd
      · have hg := Lib.hid (show get o = (M.zero, 7) by rw [HS.out, if_pos hkn])
        clear hkn HS HR
        go_wp2_with (refine wpList_store_row rfl 23 _ _ rfl (w.heap.size + 1) _ rfl rfl 23 _ N1'.out (hi7m _ _ _ _ _ _ _) rfl (hone7m _ _ _ _ _ _ _) ?_)
        refine bodyPost_ret (results_row1 Try.results12 _ _ (w.heap.size + 1) 23 _ (0, 0) _ rfl (setRow_heap _ _ _ _ _ _ N1'.out) Try.underlying23 rfl (hi7m _ _ _ _ _ _ _)) rfl ?_
        exact get_end hg.out B1.out (by omega)
      · have HR' := Lib.hid (HR.out hkn)
        have HS' := Lib.hid (show get o = if Oct.doneOf (said o.value).left (said o.value).fail ≠ 0 then (M.zero, Oct.doneOf (said o.value).left (said o.value).fail) else ((said o.value).m, 0) by rw [HS.out, if_neg (by simp [hkn])])
        rw [show zv kd = .agg (zrow kd) from rfl] at CS
        unfold zrow at CS
        clear hkn HS HR CK
        have O1 := Lib.hid (show ((w.alloc (.cells #[.int .i64 46, .string o.value] 26)).alloc (.cells #[.int .i64 0, .int .i64 0, .int .i64 0, .int .i64 0, .int .i64 0, .int .i64 0, .string ⟨#[]⟩] 23)).cell? ⟨w.heap.size, 1, none⟩ = some (.string o.value) from
          Opt.cell_alloc _ (by simp) ((cell_of_row _ _ _ _ _ _ (heap_alloc_new w _)).trans rfl))
        go_wp2_with fail
        refine (CS.out _).mono ?_
        rintro e w2 ⟨rfl, h2⟩
        have z2 : w.heap.size + 2 ≤ w2.heap.size := by have := h2.size; simp at this; omega
        have B2 := Lib.hid (B1.out.trans (h2.mono (by simp; omega)))
        have N2 := Lib.hid ((h2.block (w.heap.size + 1) (by simp)).trans N1'.out)
        have o2 : w2.cell? ⟨w.heap.size, 1, none⟩ = some (.string o.value) := (h2.cell (p := ⟨w.heap.size, 1, none⟩) (by simp; omega)).trans O1.out
        have NZ := Lib.hid (heap_alloc_new w2 (.cells #[.int .i64 0, .int .i64 0, .int .i64 0, .int .i64 0, .int .i64 0, .int .i64 0, .int .i64 0] 53))
        clear h2 B1 N1' CS O1 he
        go_wp2_with (first
          | (refine wpList_store_row rfl 53 _ _ rfl w2.heap.size _ rfl rfl 53 _ NZ.out (hi7 _ _ _ _ _ _ _) rfl (hone7 _ _ _ _ _ _ _) ?_
             refine meet_row _ _ _ _ (fun w3 hb3 hs3 hz3 => ?_)
             have o3 : w3.cell? ⟨w.heap.size, 1, none⟩ = some (.string o.value) := (hb3.cell (p := ⟨w.heap.size, 1, none⟩) (by simp; omega)).trans o2)
          | fail)
        obtain ⟨x0, hx0⟩ : ∃ x0 : Rd, x0 = ⟨{ M.zero with kind := kd }, Oct.unread o.value 1, 0⟩ := ⟨_, rfl⟩
        obtain ⟨Wl, hWl⟩ : ∃ Wl, Wl = (w3.alloc (.cells #[.string o.value, .int .i64 1, .int .i64 0] 67)).alloc (.cells #[.int .i64 0, .int .i64 0, .int .i64 0, .int .i64 0, .int .i64 0] 55) := ⟨_, rfl⟩
        have A0 := Lib.hid (show AtRd Wl (w2.heap.size + 1 + 1) (w2.heap.size + 1) o.value x0 by
          subst hWl
          subst hx0
          have r1 := ref_new w3 o.value (by omega) 67
          rw [hs3] at r1
          have l1 := heap_alloc_new (w3.alloc (.cells #[.string o.value, .int .i64 1, .int .i64 0] 67)) (.cells #[.int .i64 0, .int .i64 0, .int .i64 0, .int .i64 0, .int .i64 0] 55)
          rw [show (w3.alloc (.cells #[.string o.value, .int .i64 1, .int .i64 0] 67)).heap.size = w2.heap.size + 1 + 1 by simp [hs3]] at l1
          exact ⟨l1, 1, r1.of_block (Below.heap_alloc _ _ _ (by simp [hs3])), rfl⟩)
        have NW := Lib.hid (show Wl.heap[w.heap.size + 1]? = some (.cells #[.int .i64 0, .int .i64 0, .int .i64 0, .int .i64 0, .int .i64 0, .int .i64 0, .string ⟨#[]⟩] 23 (0, 0)) by
          subst hWl
          exact (Below.heap_alloc _ _ _ (by simp; omega)).trans ((Below.heap_alloc _ _ _ (by omega)).trans ((hb3.block _ (by omega)).trans N2.out)))
        have ZW := Lib.hid (show Wl.heap[w2.heap.size]? = some (.cells (zrow kd) 53 (0, 0)) by
          subst hWl
          exact (Below.heap_alloc _ _ _ (by simp; omega)).trans ((Below.heap_alloc _ _ _ (by omega)).trans hz3))
        have BW := Lib.hid (show Below w.heap.size w Wl by
          subst hWl
          exact ((B2.out.trans (hb3.mono (by omega))).alloc (by omega) _).alloc (by simp; omega) _)
        have sW : Wl.heap.size = w2.heap.size + 3 := by subst hWl; simp; omega
        rw [← hWl]
        have HX := Lib.hid hx0
        clear hx0 hWl B2 N2 NZ hb3 hs3 hz3 o2 o3
        generalize w2.heap.size = bz at *
        clear w2 w3
        have hrs := Lib.hid (rnums_size kd x0)
        have hrk := Lib.hid (rnums_kind kd x0)
        have hxl : x0.left.size ≤ 3000 := by rw [HX.out]; show (Oct.unread o.value 1).size ≤ 3000; rw [Oct.unread_size]; omega
        go_loopw [8] (fun i wr => ∃ k : Nat, k ≤ 5 ∧ i = .int .i64 k ∧ AtRd wr (bz + 1 + 1) (bz + 1) o.value (rnums kd x0 k) ∧ Touch2 (bz + 1 + 1) (bz + 1) Wl wr) (fun i _ => 5 - (intOf i).toNat)
        case atStart => exact ⟨0, by omega, rfl, A0.out, Touch2.refl _ _ _⟩
        case round =>
          obtain ⟨k, hk5, rfl, hA, hT⟩ := hrel
          obtain ⟨hl, a, hra, hua⟩ := hA
          have HL := Lib.hid hl
          have RA := Lib.hid hra
          have UA := Lib.hid hua
          have HT := Lib.hid hT
          clear hl hra hua hT
          by_cases hlt : k < 5
          · have hl5 : (k : Int) < 5 := by omega
            have hl7 : (k : Int) < 7 := by omega
            have zc : wr.cell? ⟨bz, k, none⟩ = some (.int .i64 (zs kd k : Nat)) := zcell ((HT.out.block bz (by omega) (by omega) (by omega)).trans ZW.out) k hlt
            have HN := Lib.hid (show rnums kd x0 (k + 1) = if zs kd k = 0 then rnums kd x0 k else readF (rnums kd x0 k) (.num (placeOf k) (zs kd k)) from rfl)
            have hz7 := zs_le kd k
            generalize rnums kd x0 k = y at *
            generalize zs kd k = z at *
            by_cases hz : z = 0
            · subst hz
              have hd : decide ((0 : Int) < 0) = false := rfl
              have HN' := Lib.hid (show rnums kd x0 (k + 1) = y by rw [HN.out, if_pos rfl])
              go_wp2_with fail
              go_roundw
              case rel => exact ⟨k + 1, by omega, by go_num, by rw [HN'.out]; exact ⟨HL.out, a, RA.out, UA.out⟩, HT.out⟩
              case measure => simp [intOf]; omega
            · have hd : decide ((0 : Int) < (z : Int)) = true := by simp; omega
              have hd2 : decide (0 < z) = true := by simp; omega
              have HN' := Lib.hid (show rnums kd x0 (k + 1) = readF y (.num (placeOf k) z) by rw [HN.out, if_neg hz])
              clear HN
              go_wp2_with fail
              refine (Oct.rn_any (bz + 1) o.value a y.fail z _ (by omega) (by exact RA.out)).mono ?_
              rintro e w4 ⟨rfl, h4, u4, t4⟩
              rw [UA.out] at u4 ⊢
              rw [UA.out] at h4
              have H4 := Lib.hid h4
              have U4 := Lib.hid u4
              have T4 := Lib.hid t4
              have L4 := Lib.hid ((t4.block (bz + 1 + 1) (Array.getElem?_eq_some_iff.1 HL.out).1 (by omega)).trans HL.out)
              clear h4 u4 t4
              have f4 : w4.frozen? ⟨bz + 1 + 1, k, none⟩ = false := frozen_of_row _ _ _ _ _ L4.out
              have c4 : w4.cell? ⟨bz + 1 + 1, k, none⟩ = some (.int .i64 (fieldAt y.m k)) := lcell L4.out k hlt
              generalize hv : wrap64 (Oct.whole (Oct.gotOf y.left (Oct.fell1 y.fail z) z)) = v at *
              have HV := Lib.hid hv
              clear hv
              go_wp2_with fail
              go_roundw
              case rel =>
                refine ⟨k + 1, by omega, by go_num, ?_, HT.out.trans ((Touch2.right T4.out).trans (Touch2.left (Oct.Touch.set _ _ _ _)))⟩
                rw [HN'.out]
                refine ⟨?_, _, H4.out.of_block (Below.heap_setCell _ _ _ _ (by show bz + 1 ≠ bz + 1 + 1; omega)), U4.out⟩
                have := lrow_cell L4.out k hlt v
                rw [← HV.out] at this ⊢
                exact this
              case measure => simp [intOf]; omega
          · obtain rfl : k = 5 := by omega
            have HK := Lib.hid (hrk.out 5)
            have HSZ := hrs.out 5
            have HY := Lib.hid (show rtxt kd (rnums kd x0 5) = said o.value by rw [← HR'.out, HB.out, ← HX.out])
            generalize rnums kd x0 5 = y at *
            have hyk : y.m.kind = kd ∧ y.m.bytes = ⟨#[]⟩ := by rw [HK.out.1, HK.out.2, HX.out]; exact ⟨rfl, rfl⟩
            obtain ⟨⟨yk, ya, yp, yt, yn, yq, yb⟩, yl, yf⟩ := y
            dsimp only at hyk HL RA UA HSZ
            obtain ⟨rfl, rfl⟩ := hyk
            obtain ⟨l0, l1, l2, l3, l4⟩ := cellsL HL.out
            simp only [fieldAt] at l0 l1 l2 l3 l4
            have ZR := Lib.hid ((HT.out.block bz (by omega) (by omega) (by omega)).trans ZW.out)
            have NR := Lib.hid ((HT.out.block (w.heap.size + 1) (by omega) (by omega) (by omega)).trans NW.out)
            have BR := Lib.hid (BW.out.trans (HT.out.toBelow (by omega) (by omega) (by omega)))
            have sR : bz + 3 ≤ wr.heap.size := by have := HT.out.size; omega
            have hus := Oct.unread_size o.value a
            rw [UA.out] at hus
            have hal := RA.out.le
            obtain ⟨V, hV⟩ : ∃ V, V = wr.alloc (.cells #[.int .i64 yk, .int .i64 ya, .int .i64 yp, .int .i64 yq, .int .i64 yt, .int .i64 yn, .string ⟨#[]⟩] 23) := ⟨_, rfl⟩
            have RV := Lib.hid (show RowM V wr.heap.size ⟨yk, ya, yp, yt, yn, yq, ⟨#[]⟩⟩ by subst hV; exact heap_alloc_new wr _)
            have ZV := Lib.hid (show V.heap[bz]? = some (.cells (zrow yk) 53 (0, 0)) by subst hV; exact (Below.heap_alloc _ _ _ (by omega)).trans ZR.out)
            have NV := Lib.hid (show V.heap[w.heap.size + 1]? = some (.cells #[.int .i64 0, .int .i64 0, .int .i64 0, .int .i64 0, .int .i64 0, .int .i64 0, .string ⟨#[]⟩] 23 (0, 0)) by subst hV; exact (Below.heap_alloc _ _ _ (by omega)).trans NR.out)
            have CV := Lib.hid (show Oct.RefAt V (bz + 1) o.value a yf by subst hV; exact RA.out.of_block (Below.heap_alloc _ _ _ (by omega)))
            have BV := Lib.hid (show Below w.heap.size w V by subst hV; exact BR.out.alloc (by omega) _)
            have sV : V.heap.size = wr.heap.size + 1 := by subst hV; simp
            obtain ⟨-, -, -, -, -, z5, z6⟩ := cellsZ ZV.out
            have s0 := CV.out.c0
            have s1 := CV.out.c1
            have HY' := Lib.hid HY.out
            unfold rtxt at HY'
            have hlh := lo_hi yk
            have hh := hi_le yk
            generalize lo yk = LO at *
            generalize hi yk = HI at *
            have hw1 : IntKind.i64.wrap ((o.value.size : Int) - a) = (o.value.size : Int) - a := IntWalk.i64_in _ (by omega)
            clear HY HL RA HT ZR NR BR ZW NW BW A0 HR' HB HX HK hrs hrk hxl
            generalize hbm : wr.heap.size = bm at *
            have HVe := Lib.hid hV
            clear hV
            by_cases hI : HI = 0
            · have HY := Lib.hid (show (⟨⟨yk, ya, yp, yt, yn, yq, ⟨#[]⟩⟩, yl, yf⟩ : Rd) = said o.value by rw [← HY'.out, if_pos hI])
              have hd : decide ((HI : Int) ≤ (o.value.size : Int) - a) = true := decide_eq_true (by omega)
              have hd2 : decide ((0 : Int) < (HI : Int)) = false := decide_eq_false (by omega)
              have hd3 : decide (0 < HI) = false := decide_eq_false (by omega)
              clear HY' hI
              go_upto_region 17 with fail
              rw [← HVe.out]
              go_wp2_with fail
              go_quiet (fail)
              obtain ⟨w7, hw7⟩ : ∃ w7, w7 = V.drewN nq := ⟨_, rfl⟩
              have R7 := Lib.hid (show RowM w7 bm ⟨yk, ya, yp, yt, yn, yq, ⟨#[]⟩⟩ by rw [hw7]; exact RV.out)
              have N7 := Lib.hid (show w7.heap[w.heap.size + 1]? = some (.cells #[.int .i64 0, .int .i64 0, .int .i64 0, .int .i64 0, .int .i64 0, .int .i64 0, .string ⟨#[]⟩] 23 (0, 0)) by rw [hw7]; exact NV.out)
              have RA7 := Lib.hid (show Oct.RefAt w7 (bz + 1) o.value a yf by rw [hw7]; exact CV.out.drewN nq)
              have B7 := Lib.hid (show Below w.heap.size w w7 by rw [hw7]; exact belowN BV.out nq)
              have z6' : w7.cell? ⟨bz, 6, none⟩ = some (.int .i64 (HI : Nat)) := by rw [hw7]; exact z6
              have U7 := Lib.hid UA.out
              rw [← hw7]
              clear hw7 z5 z6 s0 s1 RV NV CV BV ZV l0 l1 l2 l3 l4
              have CD := Lib.hid (fun w b (h : Oct.RefAt w b o.value a yf) => Oct.rd_any b o.value a yf w (by omega) h)
              rw [U7.out] at CD
              by_cases hd : Oct.doneOf yl yf = 0
              · rw [hd] at CD
                have hg := Lib.hid (show get o = (_, 0) from HS'.out.trans (by rw [← HY.out]; exact if_neg (by simp [hd])))
                clear hd HS' HY
                go_wp2_with fail
                refine (CD.out _ _ (by exact RA7.out)).mono ?_
                rintro e w8 ⟨rfl, kd8, rfl⟩
                have R8 := Lib.hid (R7.out.of_block rfl : RowM (w7.drewN kd8) _ _)
                have N8 := Lib.hid (show (w7.drewN kd8).heap[w.heap.size + 1]? = some (.cells #[.int .i64 0, .int .i64 0, .int .i64 0, .int .i64 0, .int .i64 0, .int .i64 0, .string ⟨#[]⟩] 23 (0, 0)) from N7.out)
                have B8 := Lib.hid (belowN B7.out kd8)
                go_wp2_with (first
                  | refine wpList_load_row rfl 23 _ rfl bm rfl _ _ _ _ R8.out Try.underlying23 rfl (hi7m _ _ _ _ _ _ _) ?_
                  | refine wpList_store_row rfl 23 _ _ rfl (w.heap.size + 1) _ rfl rfl 23 _ N8.out (hi7m _ _ _ _ _ _ _) rfl (hone7m _ _ _ _ _ _ _) ?_)
                refine bodyPost_ret (results_row1 Try.results12 _ _ (w.heap.size + 1) 23 _ (0, 0) _ rfl (setRow_heap _ _ _ _ _ _ N8.out) Try.underlying23 rfl (hi7m _ _ _ _ _ _ _)) rfl ?_
                exact get_end hg.out B8.out (by omega)
              · have hg := Lib.hid (show get o = (M.zero, Oct.doneOf yl yf) from HS'.out.trans (by rw [← HY.out]; exact if_pos hd))
                generalize Oct.doneOf yl yf = er at *
                have hne : (er != 0) = true := by simpa using hd
                clear hd HS' HY
                go_wp2_with fail
                refine (CD.out _ _ (by exact RA7.out)).mono ?_
                rintro e w8 ⟨rfl, kd8, rfl⟩
                have N8 := Lib.hid (show (w7.drewN kd8).heap[w.heap.size + 1]? = some (.cells #[.int .i64 0, .int .i64 0, .int .i64 0, .int .i64 0, .int .i64 0, .int .i64 0, .string ⟨#[]⟩] 23 (0, 0)) from N7.out)
                have B8 := Lib.hid (belowN B7.out kd8)
                go_wp2_with (refine wpList_store_row rfl 23 _ _ rfl (w.heap.size + 1) _ rfl rfl 23 _ N8.out (hi7m _ _ _ _ _ _ _) rfl (hone7m _ _ _ _ _ _ _) ?_)
                refine bodyPost_ret (results_row1 Try.results12 _ _ (w.heap.size + 1) 23 _ (0, 0) _ rfl (setRow_heap _ _ _ _ _ _ N8.out) Try.underlying23 rfl (hi7m _ _ _ _ _ _ _)) rfl ?_
                exact get_end hg.out B8.out (by omega)
            · by_cases hge : HI ≤ yl.size
              · have HY0 := Lib.hid (show readF (⟨⟨yk, ya, yp, yt, yn, yq, ⟨#[]⟩⟩, yl, yf⟩ : Rd) (.txt LO HI) = said o.value by rw [← HY'.out, if_neg hI])
                have hn : size1 LO HI yl.size = HI := if_neg (by omega)
                have HY := Lib.hid (show (⟨⟨yk, ya, yp, yt, yn, yq, Oct.gotOf yl yf (HI : Nat)⟩, Oct.stayOf yl yf (HI : Nat), Oct.fellOf yl yf (HI : Nat)⟩ : Rd) = said o.value by have e := HY0.out; simp only [readF, M.setB, hn] at e; exact e)
                have hd : decide ((HI : Int) ≤ (o.value.size : Int) - a) = true := decide_eq_true (by omega)
                have hd2 : decide ((0 : Int) < (HI : Int)) = true := decide_eq_true (by omega)
                have hd3 : decide (0 < HI) = true := decide_eq_true (by omega)
                clear HY' HY0 hI hn
                go_upto_region 17 with fail
                rw [← HVe.out]
                go_wp2_with fail
                go_quiet (fail)
                obtain ⟨w5, hw5⟩ : ∃ w5, w5 = V.drewN nq := ⟨_, rfl⟩
                have R5 := Lib.hid (show RowM w5 bm ⟨yk, ya, yp, yt, yn, yq, ⟨#[]⟩⟩ by rw [hw5]; exact RV.out)
                have N5 := Lib.hid (show w5.heap[w.heap.size + 1]? = some (.cells #[.int .i64 0, .int .i64 0, .int .i64 0, .int .i64 0, .int .i64 0, .int .i64 0, .string ⟨#[]⟩] 23 (0, 0)) by rw [hw5]; exact NV.out)
                have RA5 := Lib.hid (show Oct.RefAt w5 (bz + 1) o.value a yf by rw [hw5]; exact CV.out.drewN nq)
                have B5 := Lib.hid (show Below w.heap.size w w5 by rw [hw5]; exact belowN BV.out nq)
                have z6' : w5.cell? ⟨bz, 6, none⟩ = some (.int .i64 (HI : Nat)) := by rw [hw5]; exact z6
                have sW5 : w5.heap.size = V.heap.size := by rw [hw5]; rfl
                rw [← hw5]
                clear hw5 z5 z6 s0 s1 RV NV CV BV ZV l0 l1 l2 l3 l4
                go_wp2_with fail
                refine (Oct.rb_any (bz + 1) o.value a yf (HI : Nat) _ (by omega) (by exact RA5.out)).mono ?_
                rintro e w6 ⟨rfl, h6, u6, t6⟩
                rw [UA.out] at u6 h6 ⊢
                have R6 := Lib.hid (R5.out.of_block (t6.block bm (by omega) (by omega)))
                have N6 := Lib.hid ((t6.block (w.heap.size + 1) (by omega) (by omega)).trans N5.out)
                have B6 := Lib.hid (B5.out.trans (t6.toBelow (by omega) (by omega)))
                have H6 := Lib.hid h6
                have U7 := Lib.hid u6
                generalize Oct.atOf o.value a yf (HI : Nat) = a7 at *
                generalize Oct.gotOf yl yf (HI : Nat) = SB at *
                generalize Oct.stayOf yl yf (HI : Nat) = SL at *
                generalize Oct.fellOf yl yf (HI : Nat) = SF at *
                have f6 := R6.out.free 6
                have c6 := R6.out.txt.2
                obtain ⟨w7, hw7⟩ : ∃ w7, w7 = w6.setCell ⟨bm, 6, none⟩ (.string SB) := ⟨_, rfl⟩
                have R7 := Lib.hid (show RowM w7 bm ⟨yk, ya, yp, yt, yn, yq, SB⟩ by rw [hw7]; exact R6.out.setB SB)
                have N7 := Lib.hid (show w7.heap[w.heap.size + 1]? = some (.cells #[.int .i64 0, .int .i64 0, .int .i64 0, .int .i64 0, .int .i64 0, .int .i64 0, .string ⟨#[]⟩] 23 (0, 0)) by rw [hw7]; exact (Below.heap_setCell _ _ _ _ (by show w.heap.size + 1 ≠ bm; omega)).trans N6.out)
                have RA7 := Lib.hid (show Oct.RefAt w7 (bz + 1) o.value a7 SF by rw [hw7]; exact H6.out.of_block (Below.heap_setCell _ _ _ _ (by show bz + 1 ≠ bm; omega)))
                have B7 := Lib.hid (show Below w.heap.size w w7 by rw [hw7]; exact B6.out.trans ((Oct.Touch.set bm 6 w6 (.string SB)).toBelow (by omega) B6.out.size))
                have HW7 := Lib.hid hw7
                clear h6 u6 t6 R5 N5 RA5 B5 R6 N6 B6 H6 hw7 z6' UA
                go_upto_region 22 with fail
                rw [← HW7.out]
                clear HW7 f6 c6
                have CD := Lib.hid (fun w b (h : Oct.RefAt w b o.value a7 SF) => Oct.rd_any b o.value a7 SF w (by omega) h)
                rw [U7.out] at CD
                by_cases hd : Oct.doneOf SL SF = 0
                · rw [hd] at CD
                  have hg := Lib.hid (show get o = (_, 0) from HS'.out.trans (by rw [← HY.out]; exact if_neg (by simp [hd])))
                  clear hd HS' HY
                  go_wp2_with fail
                  refine (CD.out _ _ (by exact RA7.out)).mono ?_
                  rintro e w8 ⟨rfl, kd8, rfl⟩
                  have R8 := Lib.hid (R7.out.of_block rfl : RowM (w7.drewN kd8) _ _)
                  have N8 := Lib.hid (show (w7.drewN kd8).heap[w.heap.size + 1]? = some (.cells #[.int .i64 0, .int .i64 0, .int .i64 0, .int .i64 0, .int .i64 0, .int .i64 0, .string ⟨#[]⟩] 23 (0, 0)) from N7.out)
                  have B8 := Lib.hid (belowN B7.out kd8)
                  go_wp2_with (first
                    | refine wpList_load_row rfl 23 _ rfl bm rfl _ _ _ _ R8.out Try.underlying23 rfl (hi7m _ _ _ _ _ _ _) ?_
                    | refine wpList_store_row rfl 23 _ _ rfl (w.heap.size + 1) _ rfl rfl 23 _ N8.out (hi7m _ _ _ _ _ _ _) rfl (hone7m _ _ _ _ _ _ _) ?_)
                  refine bodyPost_ret (results_row1 Try.results12 _ _ (w.heap.size + 1) 23 _ (0, 0) _ rfl (setRow_heap _ _ _ _ _ _ N8.out) Try.underlying23 rfl (hi7m _ _ _ _ _ _ _)) rfl ?_
                  exact get_end hg.out B8.out (by omega)
                · have hg := Lib.hid (show get o = (M.zero, Oct.doneOf SL SF) from HS'.out.trans (by rw [← HY.out]; exact if_pos hd))
                  generalize Oct.doneOf SL SF = er at *
                  have hne : (er != 0) = true := by simpa using hd
                  clear hd HS' HY
                  go_wp2_with fail
                  refine (CD.out _ _ (by exact RA7.out)).mono ?_
                  rintro e w8 ⟨rfl, kd8, rfl⟩
                  have N8 := Lib.hid (show (w7.drewN kd8).heap[w.heap.size + 1]? = some (.cells #[.int .i64 0, .int .i64 0, .int .i64 0, .int .i64 0, .int .i64 0, .int .i64 0, .string ⟨#[]⟩] 23 (0, 0)) from N7.out)
                  have B8 := Lib.hid (belowN B7.out kd8)
                  go_wp2_with (refine wpList_store_row rfl 23 _ _ rfl (w.heap.size + 1) _ rfl rfl 23 _ N8.out (hi7m _ _ _ _ _ _ _) rfl (hone7m _ _ _ _ _ _ _) ?_)
                  refine bodyPost_ret (results_row1 Try.results12 _ _ (w.heap.size + 1) 23 _ (0, 0) _ rfl (setRow_heap _ _ _ _ _ _ N8.out) Try.underlying23 rfl (hi7m _ _ _ _ _ _ _)) rfl ?_
                  exact get_end hg.out B8.out (by omega)
              · have HY0 := Lib.hid (show readF (⟨⟨yk, ya, yp, yt, yn, yq, ⟨#[]⟩⟩, yl, yf⟩ : Rd) (.txt LO HI) = said o.value by rw [← HY'.out, if_neg hI])
                have hn : size1 LO HI yl.size = LO := if_pos (by omega)
                have HY := Lib.hid (show (⟨⟨yk, ya, yp, yt, yn, yq, Oct.gotOf yl yf (LO : Nat)⟩, Oct.stayOf yl yf (LO : Nat), Oct.fellOf yl yf (LO : Nat)⟩ : Rd) = said o.value by have e := HY0.out; simp only [readF, M.setB, hn] at e; exact e)
                have hd : decide ((HI : Int) ≤ (o.value.size : Int) - a) = false := decide_eq_false (by omega)
                have hd2 : decide ((0 : Int) < (HI : Int)) = true := decide_eq_true (by omega)
                have hd3 : decide (0 < HI) = true := decide_eq_true (by omega)
                clear HY' HY0 hI hn
                go_upto_region 17 with fail
                rw [← HVe.out]
                go_wp2_with fail
                go_quiet (fail)
                obtain ⟨w5, hw5⟩ : ∃ w5, w5 = V.drewN nq := ⟨_, rfl⟩
                have R5 := Lib.hid (show RowM w5 bm ⟨yk, ya, yp, yt, yn, yq, ⟨#[]⟩⟩ by rw [hw5]; exact RV.out)
                have N5 := Lib.hid (show w5.heap[w.heap.size + 1]? = some (.cells #[.int .i64 0, .int .i64 0, .int .i64 0, .int .i64 0, .int .i64 0, .int .i64 0, .string ⟨#[]⟩] 23 (0, 0)) by rw [hw5]; exact NV.out)
                have RA5 := Lib.hid (show Oct.RefAt w5 (bz + 1) o.value a yf by rw [hw5]; exact CV.out.drewN nq)
                have B5 := Lib.hid (show Below w.heap.size w w5 by rw [hw5]; exact belowN BV.out nq)
                have z6' : w5.cell? ⟨bz, 6, none⟩ = some (.int .i64 (HI : Nat)) := by rw [hw5]; exact z6
                have sW5 : w5.heap.size = V.heap.size := by rw [hw5]; rfl
                rw [← hw5]
                clear hw5 z5 z6 s0 s1 RV NV CV BV ZV l0 l1 l2 l3 l4
                go_wp2_with fail
                refine (Oct.rb_any (bz + 1) o.value a yf (LO : Nat) _ (by omega) (by exact RA5.out)).mono ?_
                rintro e w6 ⟨rfl, h6, u6, t6⟩
                rw [UA.out] at u6 h6 ⊢
                have R6 := Lib.hid (R5.out.of_block (t6.block bm (by omega) (by omega)))
                have N6 := Lib.hid ((t6.block (w.heap.size + 1) (by omega) (by omega)).trans N5.out)
                have B6 := Lib.hid (B5.out.trans (t6.toBelow (by omega) (by omega)))
                have H6 := Lib.hid h6
                have U7 := Lib.hid u6
                generalize Oct.atOf o.value a yf (LO : Nat) = a7 at *
                generalize Oct.gotOf yl yf (LO : Nat) = SB at *
                generalize Oct.stayOf yl yf (LO : Nat) = SL at *
                generalize Oct.fellOf yl yf (LO : Nat) = SF at *
                have f6 := R6.out.free 6
                have c6 := R6.out.txt.2
                obtain ⟨w7, hw7⟩ : ∃ w7, w7 = w6.setCell ⟨bm, 6, none⟩ (.string SB) := ⟨_, rfl⟩
                have R7 := Lib.hid (show RowM w7 bm ⟨yk, ya, yp, yt, yn, yq, SB⟩ by rw [hw7]; exact R6.out.setB SB)
                have N7 := Lib.hid (show w7.heap[w.heap.size + 1]? = some (.cells #[.int .i64 0, .int .i64 0, .int .i64 0, .int .i64 0, .int .i64 0, .int .i64 0, .string ⟨#[]⟩] 23 (0, 0)) by rw [hw7]; exact (Below.heap_setCell _ _ _ _ (by show w.heap.size + 1 ≠ bm; omega)).trans N6.out)
                have RA7 := Lib.hid (show Oct.RefAt w7 (bz + 1) o.value a7 SF by rw [hw7]; exact H6.out.of_block (Below.heap_setCell _ _ _ _ (by show bz + 1 ≠ bm; omega)))
                have B7 := Lib.hid (show Below w.heap.size w w7 by rw [hw7]; exact B6.out.trans ((Oct.Touch.set bm 6 w6 (.string SB)).toBelow (by omega) B6.out.size))
                have HW7 := Lib.hid hw7
                clear h6 u6 t6 R5 N5 RA5 B5 R6 N6 B6 H6 hw7 z6' UA
                go_upto_region 22 with fail
                rw [← HW7.out]
                clear HW7 f6 c6
                have CD := Lib.hid (fun w b (h : Oct.RefAt w b o.value a7 SF) => Oct.rd_any b o.value a7 SF w (by omega) h)
                rw [U7.out] at CD
                by_cases hd : Oct.doneOf SL SF = 0
                · rw [hd] at CD
                  have hg := Lib.hid (show get o = (_, 0) from HS'.out.trans (by rw [← HY.out]; exact if_neg (by simp [hd])))
                  clear hd HS' HY
                  go_wp2_with fail
                  refine (CD.out _ _ (by exact RA7.out)).mono ?_
                  rintro e w8 ⟨rfl, kd8, rfl⟩
                  have R8 := Lib.hid (R7.out.of_block rfl : RowM (w7.drewN kd8) _ _)
                  have N8 := Lib.hid (show (w7.drewN kd8).heap[w.heap.size + 1]? = some (.cells #[.int .i64 0, .int .i64 0, .int .i64 0, .int .i64 0, .int .i64 0, .int .i64 0, .string ⟨#[]⟩] 23 (0, 0)) from N7.out)
                  have B8 := Lib.hid (belowN B7.out kd8)
                  go_wp2_with (first
                    | refine wpList_load_row rfl 23 _ rfl bm rfl _ _ _ _ R8.out Try.underlying23 rfl (hi7m _ _ _ _ _ _ _) ?_
                    | refine wpList_store_row rfl 23 _ _ rfl (w.heap.size + 1) _ rfl rfl 23 _ N8.out (hi7m _ _ _ _ _ _ _) rfl (hone7m _ _ _ _ _ _ _) ?_)
                  refine bodyPost_ret (results_row1 Try.results12 _ _ (w.heap.size + 1) 23 _ (0, 0) _ rfl (setRow_heap _ _ _ _ _ _ N8.out) Try.underlying23 rfl (hi7m _ _ _ _ _ _ _)) rfl ?_
                  exact get_end hg.out B8.out (by omega)
                · have hg := Lib.hid (show get o = (M.zero, Oct.doneOf SL SF) from HS'.out.trans (by rw [← HY.out]; exact if_pos hd))
                  generalize Oct.doneOf SL SF = er at *
                  have hne : (er != 0) = true := by simpa using hd
                  clear hd HS' HY
                  go_wp2_with fail
                  refine (CD.out _ _ (by exact RA7.out)).mono ?_
                  rintro e w8 ⟨rfl, kd8, rfl⟩
                  have N8 := Lib.hid (show (w7.drewN kd8).heap[w.heap.size + 1]? = some (.cells #[.int .i64 0, .int .i64 0, .int .i64 0, .int .i64 0, .int .i64 0, .int .i64 0, .string ⟨#[]⟩] 23 (0, 0)) from N7.out)
                  have B8 := Lib.hid (belowN B7.out kd8)
                  go_wp2_with (refine wpList_store_row rfl 23 _ _ rfl (w.heap.size + 1) _ rfl rfl 23 _ N8.out (hi7m _ _ _ _ _ _ _) rfl (hone7m _ _ _ _ _ _ _) ?_)
                  refine bodyPost_ret (results_row1 Try.results12 _ _ (w.heap.size + 1) 23 _ (0, 0) _ rfl (setRow_heap _ _ _ _ _ _ N8.out) Try.underlying23 rfl (hi7m _ _ _ _ _ _ _)) rfl ?_
                  exact get_end hg.out B8.out (by omega)
  · have hg := Lib.hid (get_off hk)
    have hn : (o.kind != 46) = true := by simpa using hk
    unfold rowOf M.zero at N1 B1
    dsimp only at N1 B1
    go_enter Try.func12, Try.ntmps12
    go_wp2_with (refine wpList_store_row rfl 23 _ _ rfl (w.heap.size + 1) _ rfl rfl 23 _ N1.out (hi7m _ _ _ _ _ _ _) rfl (hone7m _ _ _ _ _ _ _) ?_)
    refine bodyPost_ret (results_row1 Try.results12 _ _ (w.heap.size + 1) 23 _ (0, 0) _ rfl (setRow_heap _ _ _ _ _ _ N1.out) Try.underlying23 rfl (hi7m _ _ _ _ _ _ _)) rfl ?_
    exact get_end hg.out B1.out (by omega)
end Go.Proofs.Ytmkngolkflihlaa.Mp
