/- Options with such behind: the contract of the program's Say. -/
import Derived.Test.YtmkngolkflihlaaMpFind
import Derived.Test.YtmkngolkflihlaaOpt2
import Derived.Test.YtmkngolkflihlaaOptR1
import Derived.Test.YtmkngolkflihlaaAvec6s
import Derived.Deep.RegionLaw
namespace Go.Proofs.Ytmkngolkflihlaa.Mp
open Go.ChangeShapes Go.WideShapes Go.ChangeAt Go.RowKit
open Go.Proofs.Ytmkngolkflihlaa.Opt (O OptsAt Opts opts_push cell_two_new cellsOf infoOpt)
set_option linter.unusedVariables false

/-- what Put gives of one, as an option -/
def optOf (m : M) : O := ⟨46, putOf m⟩
/-- the first error of some -/
def wrongM : List M → Int
  | [] => 0
  | m :: r => if check m ≠ 0 then check m else wrongM r
/-- none that is looked at is too great -/
def okM : List M → Prop
  | [] => True
  | m :: r => m.bytes.size ≤ 2000 ∧ (check m = 0 → okM r)
theorem okM_at {l : List M} {k : Nat} {m : M} (h : l[k]? = some m) : okM (l.drop k) ↔ (m.bytes.size ≤ 2000 ∧ (check m = 0 → okM (l.drop (k + 1)))) := by
  obtain ⟨hl, rfl⟩ := List.getElem?_eq_some_iff.1 h
  rw [List.drop_eq_getElem_cons hl]; rfl
theorem okM_all : ∀ {l : List M}, okM l → wrongM l = 0 → ∀ m ∈ l, m.bytes.size ≤ 2000
  | [], _, _, m, hm => by simp at hm
  | p :: r, h, hw, m, hm => by
    have h0 : check p = 0 := by
      by_cases e : check p = 0
      · exact e
      · simp [wrongM, e] at hw
    have h1 : wrongM r = 0 := by simpa [wrongM, h0] using hw
    rcases List.mem_cons.1 hm with rfl | h'
    · exact h.1
    · exact okM_all (h.2 h0) h1 m h'
/-- what Say tells -/
def sayErr (l : List O) (more : List M) : Int := if wrongM more ≠ 0 then wrongM more else Opt.check (l ++ more.map optOf)
def sayOpts (l : List O) (more : List M) : List O := if sayErr l more = 0 then l ++ more.map optOf else []
/-- behind a call of it -/
def SayEnd (l : List O) (more : List M) (w : World) (e : Ending) (w' : World) : Prop :=
  ∃ a cap, e = .returned (.tuple #[.slice a (sayOpts l more).length cap, .int .i64 (sayErr l more)]) ∧ OptsAt w' a (sayOpts l more) ∧ Below w.heap.size w w'
theorem wrongM_at (l : List M) (k : Nat) (m : M) (h : l[k]? = some m) : wrongM (l.drop k) = if check m ≠ 0 then check m else wrongM (l.drop (k + 1)) := by
  obtain ⟨hl, rfl⟩ := List.getElem?_eq_some_iff.1 h
  rw [List.drop_eq_getElem_cons hl]; rfl
theorem putOf_size (m : M) : (putOf m).size ≤ 31 + m.bytes.size := by
  have h1 : (pre m 5).length ≤ 1 + 6 * 5 := pre_length m 5
  have h2 : (putOf m).size = (pre m 5).length + m.bytes.size := by unfold putOf; rw [ByteArray.size_append]; rfl
  omega

set_option maxRecDepth 100000 in
set_option maxHeartbeats 8000000 in
theorem Say_any (l : List O) (hl : Few l) (more : List M) (hn : more.length ≤ 100) (hm : okM more) (a b : Option Addr) (cap cap2 : Nat) (w : World) (h : OptsAt w a l) (h2 : MsAt w b more) :
    Calls Try.prog 17 #[.slice a l.length cap, .slice b more.length cap2] w (SayEnd l more w) := by
  obtain ⟨i0, hi, hz0, hz1, hz2⟩ := info_parts infoOpt
  have H := Lib.hid h
  have H2 := Lib.hid h2
  have HL := Lib.hid hl.2
  have HM := Lib.hid hm
  have hl1 := hl.1
  clear h h2 hl hm
  go_enter Try.func17, Try.ntmps17
  go_wp2_with fail
  go_loopw [6, 16] (fun v i wr => ∃ k : Nat, k ≤ l.length ∧ i = .int .i64 k ∧ Opts wr w.heap.size v (l.take k) ∧ Below w.heap.size w wr) (fun _ i _ => l.length - (intOf i).toNat)
  case atStart => exact ⟨0, Nat.zero_le _, rfl, World.ownsRow_nil _ _ _ _, Below.refl _ _⟩
  case round =>
    obtain ⟨k, hk, rfl, hown, hb⟩ := hrel
    have Hown := Lib.hid hown
    have HB := Lib.hid hb
    have hbs := hb.size
    clear hown hb
    by_cases hlt : k < l.length
    · obtain ⟨⟨q, s⟩, hi2⟩ := Opt.some_at hlt
      obtain ⟨b1, off, rfl, hb0, hc0, hc1⟩ := H.out.cell HB.out hi2
      dsimp only at hc0 hc1
      have HN := Lib.hid (Opt.take_at hi2)
      have hss : s.size ≤ 3000 := HL.out _ (List.mem_of_getElem? hi2)
      have hxl : (l.take k).length ≤ 1000 := by rw [List.length_take]; omega
      generalize l.take k = xs at *
      clear hi2
      have BA := Lib.hid (HB.out.alloc hbs (.cells #[.int .i64 q, .string s] 26))
      have OA := Lib.hid (Opts.below Hown.out (Nat.le_refl _) ((Below.refl wr.heap.size wr).alloc (Nat.le_refl _) (.cells #[.int .i64 q, .string s] 26)))
      have NA := Lib.hid (heap_alloc_new wr (.cells #[.int .i64 q, .string s] 26))
      have LA := Lib.hid (World.ownsRow.lt Hown.out)
      have k0 : (wr.alloc (.cells #[.int .i64 q, .string s] 26)).cell? ⟨wr.heap.size, 0, none⟩ = some (.int .i64 q) := (cell_of_row _ _ _ _ _ _ NA.out).trans rfl
      have k1 : (wr.alloc (.cells #[.int .i64 q, .string s] 26)).cell? ⟨wr.heap.size, 1, none⟩ = some (.string s) := (cell_of_row _ _ _ _ _ _ NA.out).trans rfl
      have CC := Lib.hid (fun w => Opt.clone_any s w (by omega))
      go_wp2_with fail
      go_region_held3 (fun w' => w'.cell? ⟨wr.heap.size, 0, none⟩ = some (.int .i64 q) ∧ w'.cell? ⟨wr.heap.size, 1, none⟩ = some (.string s)) (first | go_keep | exact k5 | exact k6) (first | (go_at_call 33; refine (CC.out _).mono ?_; rintro e w5 ⟨rfl, h5⟩; have k5 : w5.cell? ⟨wr.heap.size, 0, none⟩ = some (.int .i64 q) ∧ w5.cell? ⟨wr.heap.size, 1, none⟩ = some (.string s) := ⟨(h5.cell (p := ⟨wr.heap.size, 0, none⟩) (by simp)).trans k0, (h5.cell (p := ⟨wr.heap.size, 1, none⟩) (by simp)).trans k1⟩; have O5 : Opts w5 w.heap.size _ xs := Opts.below (w := World.drew _) (own_heap OA.out (by rfl)) (Nat.le_refl _) h5; have z5 : wr.heap.size + 1 ≤ w5.heap.size := (by have := h5.size; simpa using this)) | (refine step_append_own (by rfl) _ _ _ (by rfl) w.heap.size 26 i0 (.agg #[.int .i64 0, .string ⟨#[]⟩]) 2 24 Try.underlying34 hi hz0 hz1 hz2 rfl (by decide) _ _ _ (by rfl) (World.ownsRow.alloc O5 _) ⟨w5.heap.size, 0, none⟩ 1 1 [.int .i64 q, .string s] (by rfl) (by rfl) (cell_two_new _ _ _ _) (by simp [Value.oneCell']) (by unfold maxLen; omega) (by omega) (by simp; omega) ?_; intro v' w6 hown6 hgrow6; have k6 : w6.cell? ⟨wr.heap.size, 0, none⟩ = some (.int .i64 q) ∧ w6.cell? ⟨wr.heap.size, 1, none⟩ = some (.string s) := (by have g6 := hgrow6.block wr.heap.size (by simp; omega) (fun e => by have := (LA.out _ e.symm).2; omega); exact ⟨(World.cell?_of_block (w := w5.alloc _) g6).trans (Opt.cell_alloc _ (by omega) k5.1), (World.cell?_of_block (w := w5.alloc _) g6).trans (Opt.cell_alloc _ (by omega) k5.2)⟩)))
      all_goals (
        have hp := Lib.hid (opts_push (by omega) O5 (BA.out.trans ((at_drew h5).mono (by simp; omega))) hown6 hgrow6)
        clear hown6 hgrow6 O5 h5
        go_wp2_with fail
        exact ⟨⟨k + 1, by omega, by go_num, by rw [HN.out]; exact hp.out.1, hp.out.2⟩, by simp [intOf]; omega⟩)
    · obtain rfl : k = l.length := by omega
      rw [List.take_length] at Hown
      have HW := Lib.hid (show sayErr l more = if wrongM more ≠ 0 then wrongM more else Opt.check (l ++ more.map optOf) from rfl)
      have HO := Lib.hid (show sayOpts l more = if sayErr l more = 0 then l ++ more.map optOf else [] from rfl)
      have H3 := Lib.hid (H2.out.below HB.out)
      clear hlt hk
      go_wp2_with fail
      obtain ⟨wl, hwl⟩ : ∃ wl, wl = wr := ⟨_, rfl⟩
      subst hwl
      go_loopw [6, 32] (fun v i wr => ∃ k : Nat, k ≤ more.length ∧ i = .int .i64 k ∧ Opts wr w.heap.size v (l ++ (more.take k).map optOf) ∧ (wrongM (more.drop k) = wrongM more ∧ okM (more.drop k)) ∧ Below w.heap.size w wr) (fun _ i _ => more.length - (intOf i).toNat)
      case atStart => exact ⟨0, Nat.zero_le _, rfl, by simpa using Hown.out, ⟨rfl, HM.out⟩, HB.out⟩
      case round =>
        clear HB Hown hbs
        obtain ⟨k, hk, rfl, hown, ⟨hwr, hok⟩, hb⟩ := hrel
        have Hown := Lib.hid hown
        have HB := Lib.hid hb
        have HR := Lib.hid hwr
        have HK := Lib.hid hok
        have hbs := hb.size
        clear hown hb hwr hok
        by_cases hlt : k < more.length
        · obtain ⟨m, hi2⟩ := Opt.some_at hlt
          obtain ⟨b1, off, hg, hb0, h7⟩ := H2.out.get HB.out hi2
          subst hg
          have HN := Lib.hid (show l ++ (more.take (k + 1)).map optOf = (l ++ (more.take k).map optOf) ++ [optOf m] by rw [Opt.take_at hi2]; simp)
          have HQ := Lib.hid ((wrongM_at more k m hi2).symm.trans HR.out)
          obtain ⟨hms, hnk⟩ := (okM_at hi2).1 HK.out
          have HNK := Lib.hid hnk
          have CP := Lib.hid (fun w => Put_any m (by omega) w)
          have HPS := Lib.hid (putOf_size m)
          have hV : putV m = if check m = 0 then .tuple #[.agg #[.int .i64 46, .string (putOf m)], .int .i64 0] else .tuple #[.agg #[.int .i64 0, .string ⟨#[]⟩], .int .i64 (check m)] := rfl
          have HV := Lib.hid hV
          have ho : optOf m = ⟨46, putOf m⟩ := rfl
          have HOO := Lib.hid ho
          have hxl : (l ++ (more.take k).map optOf).length ≤ 1100 := by rw [List.length_append, List.length_map, List.length_take]; omega
          generalize l ++ (more.take k).map optOf = xs at *
          generalize putV m = pv at *
          generalize check m = cm at *
          generalize putOf m = po at *
          generalize optOf m = oo at *
          obtain ⟨mk, ma, mp, mt, mn, mq, mb⟩ := m
          obtain ⟨c0, c1, c2, c3, c4, c5, c6⟩ := h7
          dsimp only at c0 c1 c2 c3 c4 c5 c6
          unfold vOf at CP
          dsimp only at CP
          clear hi2 hms hV ho hnk
          have NA := Lib.hid (heap_alloc_new wr (.cells #[.int .i64 mk, .int .i64 ma, .int .i64 mp, .int .i64 mq, .int .i64 mt, .int .i64 mn, .string mb] 23))
          have BA := Lib.hid (HB.out.alloc hbs (.cells #[.int .i64 mk, .int .i64 ma, .int .i64 mp, .int .i64 mq, .int .i64 mt, .int .i64 mn, .string mb] 23))
          have OA := Lib.hid (Opts.below Hown.out (Nat.le_refl _) ((Below.refl wr.heap.size wr).alloc (Nat.le_refl _) (.cells #[.int .i64 mk, .int .i64 ma, .int .i64 mp, .int .i64 mq, .int .i64 mt, .int .i64 mn, .string mb] 23)))
          by_cases hc : cm = 0
          · obtain rfl : pv = _ := HV.out.trans (if_pos hc)
            obtain rfl := HOO.out
            have HQ' := Lib.hid (HQ.out.symm.trans (if_neg (by simp [hc])))
            have HK' := Lib.hid (HNK.out hc)
            clear hc HV HOO HQ HR
            go_wp2_with (first
              | refine wpList_load_row rfl 23 _ rfl wr.heap.size rfl _ _ _ _ NA.out Try.underlying23 rfl (hi7m _ _ _ _ _ _ _) ?_
              | fail)
            refine (CP.out _).mono ?_
            rintro e w5 ⟨rfl, h5⟩
            have B5 := Lib.hid (BA.out.trans (h5.mono (by simp; omega)))
            have O5 := Lib.hid (Opts.below OA.out (Nat.le_refl _) h5)
            have z5 : wr.heap.size + 1 ≤ w5.heap.size := by have := h5.size; simpa using this
            clear h5 OA BA CP NA
            go_wp2_with (at_builtin; refine wpList_append_own _ rfl _ _ 34 rfl w.heap.size 26 i0 (.agg #[.int .i64 0, .string ⟨#[]⟩]) 2 24 Try.underlying34 hi hz0 hz1 hz2 rfl (by decide) _ _ _ rfl (World.ownsRow.alloc (World.ownsRow.alloc O5.out _) _) ⟨w5.heap.size + 1, 0, none⟩ 1 1 [.int .i64 46, .string po] rfl rfl ?c1 ?c2 ?c3 ?c4 ?c5 ?_)
            case c1 =>
              have := cell_two_new (w5.alloc (.cells #[.int .i64 46, .string po] 26)) (.int .i64 46) (.string po) 26
              rwa [World.size_alloc] at this
            case c2 => simp [Value.oneCell']
            case c3 => unfold maxLen; omega
            case c4 => omega
            case c5 => simp; omega
            intro v' w6 hown' hgr _
            have hp := Lib.hid (opts_push (by simp; omega) (World.ownsRow.alloc O5.out _) (B5.out.alloc (by omega) _) hown' hgr)
            clear hown' hgr
            go_wp2_with fail
            exact ⟨⟨k + 1, by omega, by go_num, by rw [HN.out]; exact hp.out.1, ⟨HQ'.out.symm, HK'.out⟩, hp.out.2⟩, by simp [intOf]; omega⟩
          · obtain rfl : pv = _ := HV.out.trans (if_neg hc)
            have hcb : (cm != 0) = true := by simpa using hc
            have HE := Lib.hid (show sayErr l more = cm by rw [HW.out, ← HQ.out, if_pos hc, if_pos hc])
            have HE2 := Lib.hid (show sayOpts l more = [] by rw [HO.out, HE.out, if_neg hc])
            clear hc HV HQ HR
            go_wp2_with (first
              | refine wpList_load_row rfl 23 _ rfl wr.heap.size rfl _ _ _ _ NA.out Try.underlying23 rfl (hi7m _ _ _ _ _ _ _) ?_
              | fail)
            refine (CP.out _).mono ?_
            rintro e w5 ⟨rfl, h5⟩
            have B5 := Lib.hid (BA.out.trans (h5.mono (by simp; omega)))
            have z5 : wr.heap.size + 1 ≤ w5.heap.size := by have := h5.size; simpa using this
            clear h5 OA BA CP NA
            go_wp2_with fail
            go_returns
            exact ⟨none, 0, by rw [HE.out, HE2.out]; rfl, .inl HE2.out, B5.out.alloc (by omega) _⟩
        · obtain rfl : k = more.length := by omega
          have hw0 : wrongM more = 0 := by rw [← HR.out, List.drop_length]; rfl
          have HE := Lib.hid (show sayErr l more = Opt.check (l ++ more.map optOf) by rw [HW.out, if_neg (by simp [hw0])])
          rw [List.take_length] at Hown
          have FT := Lib.hid (show Opt.Fit (l ++ more.map optOf) from ⟨by rw [List.length_append, List.length_map]; omega, fun o ho => by
            rcases List.mem_append.1 ho with h | h
            · exact HL.out o h
            · obtain ⟨m, hm, rfl⟩ := List.mem_map.1 h
              have h1 := okM_all HM.out hw0 m hm
              have h2 := putOf_size m
              show (putOf m).size ≤ 3000
              omega⟩)
          have hL1 : (l ++ more.map optOf).length ≤ 1100 := by rw [List.length_append, List.length_map]; omega
          obtain ⟨L, hL⟩ : ∃ L, L = l ++ more.map optOf := ⟨_, rfl⟩
          rw [← hL] at Hown FT HE HO hL1
          have HLL := Lib.hid hL
          clear hL
          obtain ⟨a3, cap3, rfl, hat⟩ := Opts.at Hown.out
          have HAT := Lib.hid hat
          have CK := Lib.hid (Opt.Check_any L FT.out a3 cap3 wr hat)
          generalize hcc : Opt.check L = cc at *
          have HE0 := Lib.hid HE.out
          clear hw0 HR HW hat Hown hcc HE FT
          go_wp2_with fail
          refine CK.out.mono ?_
          rintro e w5 ⟨rfl, h5⟩
          have B5 := Lib.hid (HB.out.trans (h5.mono hbs))
          have A5 := Lib.hid (HAT.out.below h5)
          clear h5
          by_cases hc : cc = 0
          · have HE1 := Lib.hid (show sayErr l more = 0 by rw [HE0.out, hc])
            have HE2 := Lib.hid (show sayOpts l more = L by rw [HO.out, if_pos HE1.out])
            subst hc
            go_wp2_with fail
            go_returns
            exact ⟨a3, cap3, by rw [HE1.out, HE2.out]; rfl, by rw [HE2.out]; exact A5.out, B5.out⟩
          · have hcb : (cc != 0) = true := by simpa using hc
            have HE1 := Lib.hid (show sayErr l more = cc from HE0.out)
            have HE2 := Lib.hid (show sayOpts l more = [] by rw [HO.out, HE1.out, if_neg hc])
            clear hc
            go_wp2_with fail
            go_returns
            exact ⟨none, 0, by rw [HE1.out, HE2.out]; rfl, .inl HE2.out, B5.out⟩
end Go.Proofs.Ytmkngolkflihlaa.Mp
