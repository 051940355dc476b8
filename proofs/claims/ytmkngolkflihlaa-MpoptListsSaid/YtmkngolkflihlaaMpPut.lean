/- The program's Put: its contract. -/
import Derived.Test.YtmkngolkflihlaaMpC1
namespace Go.Proofs.Ytmkngolkflihlaa.Mp
open Go.ChangeShapes Go.WideShapes Go.ChangeAt Go.RowKit
set_option linter.unusedVariables false

theorem wrongs_all (m : M) : ∀ (l : List Fld), wrongs m l = 0 → ∀ f ∈ l, wrongF m f = 0
  | [], _, f, h => by simp at h
  | g :: r, h, f, hf => by
    have hg : wrongF m g = 0 := by
      by_cases e : wrongF m g = 0
      · exact e
      · simp [wrongs, e] at h
    have hr : wrongs m r = 0 := by simpa [wrongs, hg] using h
    rcases List.mem_cons.1 hf with rfl | h'
    · exact hg
    · exact wrongs_all m r hr f h'
theorem check_wrongs {m : M} (h : check m = 0) : ∀ f ∈ fields m.kind, wrongF m f = 0 := by
  have hk := check_known h
  rw [← pcheck_eq] at h
  unfold pcheck at h
  rw [if_neg (by simp [hk])] at h
  apply wrongs_all
  by_cases e : wrongs m (fields m.kind) = 0
  · exact e
  · rw [if_pos e] at h
    exact absurd h e
theorem putF_le (m : M) (f : Fld) (hr : f.real) (h : wrongF m f = 0) : (putF m f).length ≤ 32 := by
  cases f with
  | num j z => simp [putF]; unfold Fld.real at hr; omega
  | txt s l =>
    have h1 : m.bytes.size = size1 s l m.bytes.size := by
      by_cases e : m.bytes.size = size1 s l m.bytes.size
      · exact e
      · simp [wrongF, e] at h
    have h2 : m.bytes.size ≤ 32 := by
      unfold Fld.real at hr
      unfold size1 at h1
      split at h1 <;> omega
    simp [putF]; exact h2
theorem puts_le (m : M) : ∀ (l : List Fld), (∀ f ∈ l, f.real ∧ wrongF m f = 0) → (puts m l).length ≤ 32 * l.length
  | [], _ => by simp [puts]
  | f :: r, h => by
    have h1 := putF_le m f (h f (by simp)).1 (h f (by simp)).2
    have h2 := puts_le m r (fun g hg => h g (by simp [hg]))
    have e : puts m (f :: r) = putF m f ++ puts m r := by simp [puts]
    rw [e, List.length_append, List.length_cons]
    omega
theorem get_in {m : M} {j z : Nat} (hr : (Fld.num j z).real) (h : wrongF m (.num j z) = 0) : 0 ≤ m.get j ∧ m.get j < 281474976710656 := by
  have h1 : ¬ (m.get j < 0 ∨ (2 : Int) ^ (8 * z) ≤ m.get j) := by
    intro e
    simp [wrongF, e] at h
  rcases hr.2 with rfl | rfl | rfl | rfl <;> simp at h1 <;> omega
theorem bytes_in {m : M} {s q : Nat} (hr : (Fld.txt s q).real) (h : wrongF m (.txt s q) = 0) : m.bytes.size ≤ 32 := by
  have := putF_le m _ hr h
  simpa [putF] using this

theorem putN (b j z : Nat) (m : M) (L : List UInt8) (hL : L.length ≤ 4000) (hf : (Fld.num j z).real) (h0 : wrongF m (.num j z) = 0) (w : World) (h : RowM w b m) : Calls Try.prog 63 #[nv b j z, .string ⟨L.toArray⟩] w
    fun e w' => e = .returned (.string ⟨(L ++ putF m (.num j z)).toArray⟩) ∧ Below w.heap.size w w' := by
  obtain ⟨g0, g1⟩ := get_in hf h0
  refine (nput_any b j z m ⟨L.toArray⟩ hf.1.2 (by have := hf.2; omega) w h (by show L.toArray.size ≤ 4000; simpa using hL)).mono ?_
  rintro e w' ⟨rfl, h1⟩
  refine ⟨?_, h1⟩
  rw [Oct.bs_append]
  have : Oct.nat64 (m.get j) = (m.get j).toNat := by unfold Oct.nat64; omega
  rw [this]; rfl
theorem putX (b s q : Nat) (m : M) (L : List UInt8) (hL : L.length ≤ 4000) (hf : (Fld.txt s q).real) (h0 : wrongF m (.txt s q) = 0) (w : World) (h : RowM w b m) : Calls Try.prog 67 #[xv b s q, .string ⟨L.toArray⟩] w
    fun e w' => e = .returned (.string ⟨(L ++ putF m (.txt s q)).toArray⟩) ∧ Below w.heap.size w w' := by
  refine (tput_any b s q m ⟨L.toArray⟩ w h (Nat.le_trans (bytes_in hf h0) (by omega)) (by show L.toArray.size ≤ 4000; simpa using hL)).mono ?_
  rintro e w' ⟨rfl, h1⟩
  refine ⟨?_, h1⟩
  have e : m.bytes = ⟨m.bytes.data.toList.toArray⟩ := rfl
  rw [e, Oct.bs_append]; rfl
/-- the kind as a byte -/
theorem putKind (k : Int) (h0 : 0 ≤ k) (h1 : k ≤ 11) (w : World) : Calls Try.prog 19 #[.string ⟨#[]⟩, .int .i64 k, .int .i64 1] w
    fun e w' => e = .returned (.string ⟨(Oct.be k.toNat 1).toArray⟩) ∧ Below w.heap.size w w' := by
  refine (Oct.putInt_any ⟨#[]⟩ k 1 w (by decide)).mono ?_
  rintro e w' ⟨rfl, h⟩
  refine ⟨?_, h⟩
  rw [show (⟨#[]⟩ : ByteArray) = ⟨([] : List UInt8).toArray⟩ from rfl, Oct.bs_append, List.nil_append, show Oct.held 1 = 1 from rfl, show Oct.nat64 k = k.toNat by unfold Oct.nat64; omega]

set_option maxRecDepth 100000 in
set_option maxHeartbeats 4000000 in
theorem Put_any (m : M) (hs : m.bytes.size ≤ 4000) (w : World) : Calls Try.prog 6 #[vOf m] w
    fun e w' => e = .returned (putV m) ∧ Below w.heap.size w w' := by
  have b0 := (Below.refl w.heap.size w).alloc (Nat.le_refl _) (.cells (rowOf m) 23)
  have b1 := Lib.hid (b0.alloc b0.size (.cells #[.int .i64 0, .string ⟨#[]⟩] 26))
  have CC := Lib.hid (fun w => Check_any m hs w)
  rw [pcheck_eq] at CC
  have n0 := heap_alloc_new w (.cells (rowOf m) 23)
  have n1 : ((w.alloc (.cells (rowOf m) 23)).alloc (.cells #[.int .i64 0, .string ⟨#[]⟩] 26)).heap[w.heap.size]? = some (.cells (rowOf m) 23 (0, 0)) := (Below.heap_alloc _ _ _ (by simp)).trans n0
  have n2 : ((w.alloc (.cells (rowOf m) 23)).alloc (.cells #[.int .i64 0, .string ⟨#[]⟩] 26)).heap[w.heap.size + 1]? = some (.cells #[.int .i64 0, .string ⟨#[]⟩] 26 (0, 0)) := by
    have := heap_alloc_new (w.alloc (.cells (rowOf m) 23)) (.cells #[.int .i64 0, .string ⟨#[]⟩] 26)
    rwa [show (w.alloc (.cells (rowOf m) 23)).heap.size = w.heap.size + 1 by simp] at this
  have N1 := Lib.hid n1
  have N2 := Lib.hid n2
  have R0 := Lib.hid (show RowM _ w.heap.size m from n1)
  clear n0 n1 n2 b0
  unfold vOf at *
  unfold rowOf at N1 b1 N2 R0
  by_cases he : check m = 0
  · have HV := Lib.hid (show putV m = .tuple #[.agg #[.int .i64 46, .string (putOf m)], .int .i64 0] from if_pos he)
    have HP := Lib.hid (putOf_eq m he)
    have hK := kind_ok m he
    have CK := Lib.hid (fun w => putKind m.kind hK.1 hK.2 w)
    have hwr := Lib.hid (check_wrongs he)
    have hr := Lib.hid (fields_real m.kind)
    have hf := fields_some (check_known he)
    have hn := fields_le m.kind
    have c0' := Lib.hid ((R0.out.num 0 (by omega)).2)
    rw [he] at CC
    clear he hK
    generalize putOf m = PO at *
    go_enter Try.func6, Try.ntmps6
    go_wp2_with (first
      | refine wpList_load_row rfl 23 _ rfl w.heap.size rfl _ _ _ _ N1.out Try.underlying23 rfl (hi7m _ _ _ _ _ _ _) ?_
      | (go_at_call 9; refine (CC.out _).mono ?_; rintro e w1 ⟨rfl, hb1⟩; have r1 := R0.out.below hb1 (by simp; omega); have r2 := (hb1.block (w.heap.size + 1) (by simp)).trans N2.out; have B1 := Lib.hid (b1.out.trans (hb1.mono (by simp; omega))); have s1 : w.heap.size + 2 ≤ w1.heap.size := (by have := hb1.size; simp at this; omega); have c0 : w1.cell? ⟨w.heap.size, 0, none⟩ = some (.int .i64 m.kind) := (r1.num 0 (by omega)).2))
    refine (CK.out _).mono ?_
    rintro e w2 ⟨rfl, hb2⟩
    have R2 := Lib.hid (r1.below hb2 (by omega))
    have r2' := (hb2.block (w.heap.size + 1) (by omega)).trans r2
    have B2 := Lib.hid (B1.out.trans (hb2.mono (by omega)))
    have s2 : w.heap.size + 2 ≤ w2.heap.size := Nat.le_trans s1 hb2.size
    clear hb2 r1 r2 B1 s1 c0 b1 N1 N2 CC CK R0 c0'
    go_wp2_with fail
    refine (fieldsOf_any w.heap.size m _ R2.out).mono ?_
    rintro e w3 ⟨v, rfl, hF, hb3⟩
    rcases hF with ⟨hne, -⟩ | ⟨-, g, cap, rfl, hg1, hg2, hg⟩
    · exact absurd hne hf
    have R3 := Lib.hid (R2.out.below hb3 (by omega))
    have N3 := Lib.hid ((hb3.block (w.heap.size + 1) (by omega)).trans r2')
    have B3 := Lib.hid (B2.out.trans (hb3.mono (by omega)))
    have s3 : w.heap.size + 2 ≤ w3.heap.size := Nat.le_trans s2 hb3.size
    have HG := Lib.hid hg
    have PL := Lib.hid (puts_le m)
    generalize fields m.kind = l at *
    clear hb3 hg r2' R2 B2 s2 hf
    go_wp2_with fail
    go_loopw [5, 19] (fun t i wr => ∃ k : Nat, k ≤ l.length ∧ i = .int .i64 k ∧ t = .string ⟨(Oct.be m.kind.toNat 1 ++ puts m (l.take k)).toArray⟩ ∧ Below w3.heap.size w3 wr) (fun _ i _ => l.length - (intOf i).toNat)
    case atStart => exact ⟨0, Nat.zero_le _, rfl, by simp [puts], Below.refl _ _⟩
    case round =>
      obtain ⟨k, hk, rfl, rfl, hB⟩ := hrel
      have HB := Lib.hid hB
      clear hB
      by_cases hlt : k < l.length
      · obtain ⟨f, hf⟩ : ∃ f, l[k]? = some f := ⟨_, List.getElem?_eq_getElem hlt⟩
        have hfr := hr.out f (List.mem_of_getElem? hf)
        have hfw := hwr.out f (List.mem_of_getElem? hf)
        have hc : wr.cell? ⟨g, k, none⟩ = some (fv w.heap.size f) := (HB.out.cell (p := ⟨g, k, none⟩) hg2).trans (HG.out k f hf)
        have RR := Lib.hid (R3.out.below HB.out (by omega))
        have HN := Lib.hid (puts_next m l k f hf)
        have hLL : (Oct.be m.kind.toNat 1 ++ puts m (l.take k)).length ≤ 4000 := by
          have h1 := PL.out (l.take k) (fun f h => ⟨hr.out f (List.mem_of_mem_take h), hwr.out f (List.mem_of_mem_take h)⟩)
          rw [List.length_take] at h1
          simp
          omega
        have hLN := Lib.hid (show (Oct.be m.kind.toNat 1 ++ puts m (l.take k)) ++ putF m f = Oct.be m.kind.toNat 1 ++ puts m (l.take (k + 1)) by rw [HN.out, List.append_assoc])
        generalize Oct.be m.kind.toNat 1 ++ puts m (l.take k) = L at *
        have Hfw := Lib.hid hfw
        clear hf hfw
        cases f with
        | num j z =>
          change wr.cell? ⟨g, k, none⟩ = some (.iface 75 (nv w.heap.size j z)) at hc
          go_wp2_with fail
          refine (putN _ j z m L hLL hfr Hfw.out _ RR.out).mono ?_
          rintro e w4 ⟨rfl, h4⟩
          rw [hLN.out]
          go_wp2_with fail
          go_roundw
          case rel => exact ⟨k + 1, by omega, by go_num, rfl, HB.out.trans (h4.mono HB.out.size)⟩
          case measure => simp [intOf]; omega
        | txt s q =>
          change wr.cell? ⟨g, k, none⟩ = some (.iface 78 (xv w.heap.size s q)) at hc
          go_wp2_with fail
          refine (putX _ s q m L hLL hfr Hfw.out _ RR.out).mono ?_
          rintro e w4 ⟨rfl, h4⟩
          rw [hLN.out]
          go_wp2_with fail
          go_roundw
          case rel => exact ⟨k + 1, by omega, by go_num, rfl, HB.out.trans (h4.mono HB.out.size)⟩
          case measure => simp [intOf]; omega
      · obtain rfl : k = l.length := by omega
        have hPO : (⟨(Oct.be m.kind.toNat 1 ++ puts m (l.take l.length)).toArray⟩ : ByteArray) = PO := by rw [List.take_length]; exact HP.out.symm
        rw [hPO]
        clear hPO HP
        have r5 := (HB.out.block (w.heap.size + 1) (by omega)).trans N3.out
        have B6 := Lib.hid (B3.out.trans (HB.out.mono (by omega)))
        go_wp2_with (refine wpList_store_row rfl 26 _ _ rfl (w.heap.size + 1) _ rfl rfl 26 _ r5 (hi2 _ _) rfl (hone2 _ _) ?_)
        refine bodyPost_ret (results_row1 Try.results6 _ _ (w.heap.size + 1) 26 _ (0, 0) _ rfl (setRow_heap _ _ _ _ _ _ r5) Try.underlying26 rfl (hi2 _ _)) rfl ?_
        exact ⟨by rw [HV.out]; rfl, below_setRow B6.out (Nat.le_succ _) _⟩
  · have HV := Lib.hid (show putV m = .tuple #[.agg #[.int .i64 0, .string ⟨#[]⟩], .int .i64 (check m)] from if_neg he)
    generalize check m = er at *
    have hne : (er != 0) = true := by simpa using he
    clear R0
    go_enter Try.func6, Try.ntmps6
    go_wp2_with (first
      | refine wpList_load_row rfl 23 _ rfl w.heap.size rfl _ _ _ _ N1.out Try.underlying23 rfl (hi7m _ _ _ _ _ _ _) ?_
      | (go_at_call 9; refine (CC.out _).mono ?_; rintro e w1 ⟨rfl, hb1⟩; have r2 := (hb1.block (w.heap.size + 1) (by simp)).trans N2.out; have B1 := Lib.hid (b1.out.trans (hb1.mono (by simp; omega))))
      | refine wpList_store_row rfl 26 _ _ rfl (w.heap.size + 1) _ rfl rfl 26 _ r2 (hi2 _ _) rfl (hone2 _ _) ?_)
    all_goals (
      refine bodyPost_ret (results_row1 Try.results6 _ _ (w.heap.size + 1) 26 _ (0, 0) _ rfl (setRow_heap _ _ _ _ _ _ r2) Try.underlying26 rfl (hi2 _ _)) rfl ?_
      exact ⟨by rw [HV.out]; rfl, below_setRow B1.out (Nat.le_succ _) _⟩)
end Go.Proofs.Ytmkngolkflihlaa.Mp
