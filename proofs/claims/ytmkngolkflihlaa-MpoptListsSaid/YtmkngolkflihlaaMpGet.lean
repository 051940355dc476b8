/- The program's Get: its contract. -/
import Derived.Test.YtmkngolkflihlaaMpG0
namespace Go.Proofs.Ytmkngolkflihlaa.Mp
open Go.ChangeShapes Go.WideShapes Go.ChangeAt Go.RowKit
set_option linter.unusedVariables false

theorem hone7m (a b c d f g : Int) (s : ByteArray) : (#[.int .i64 a, .int .i64 b, .int .i64 c, .int .i64 d, .int .i64 f, .int .i64 g, .string s] : Array Value).all (·.oneCell') = true := by
  simp [Value.oneCell']
theorem cut_new (w : World) (s : ByteArray) (t : TypeId) : Oct.CutAt (w.alloc (.cells #[.string s, .int .i64 0] t)) w.heap.size s 0 := by
  have hz : ∀ j, (w.alloc (.cells #[.string s, .int .i64 0] t)).frozen? ⟨w.heap.size, j, none⟩ = false := fun j => by
    have := World.frozen?_alloc_mark w #[.string s, .int .i64 0] t 0 0 j
    rw [this]; simp
  have hc : ∀ j, (w.alloc (.cells #[.string s, .int .i64 0] t)).cell? ⟨w.heap.size, j, none⟩ = #[Value.string s, .int .i64 0][j]? := fun j => World.cell?_alloc_mark w _ t (0, 0) j
  exact ⟨hc 0, hc 1, hz 0, hz 1⟩
theorem wrap_kind (s : ByteArray) : wrap64 (kindOf s) = kindOf s := by
  have := kindOf_lt s
  unfold wrap64; omega
/-- the end of a walk: what lies in the block of the result -/
theorem get_end {o : Opt.O} {w wx : World} {m : M} {e : Int} {b : Nat} (hg : get o = (m, e)) (hB : Below w.heap.size w wx) (hb : w.heap.size ≤ b) :
    (Ending.returned (.tuple #[.agg (rowOf m), .int .i64 e]) = .returned (getV o)) ∧ Below w.heap.size w (wx.setRow b (rowOf m)) := by
  refine ⟨?_, below_setRow hB hb _⟩
  unfold getV
  rw [hg]; rfl

set_option maxRecDepth 100000 in
set_option maxHeartbeats 4000000 in
theorem Get_any (o : Opt.O) (hs : o.value.size ≤ 3000) (w : World) : Calls Try.prog 8 #[.agg #[.int .i64 o.kind, .string o.value]] w
    fun e w' => e = .returned (getV o) ∧ Below w.heap.size w w' := by
  have b0 := (Below.refl w.heap.size w).alloc (Nat.le_refl _) (.cells #[.int .i64 o.kind, .string o.value] 26)
  have B1 := Lib.hid (b0.alloc b0.size (.cells (rowOf M.zero) 23))
  have N1 := Lib.hid (show ((w.alloc (.cells #[.int .i64 o.kind, .string o.value] 26)).alloc (.cells (rowOf M.zero) 23)).heap[w.heap.size + 1]? = some (.cells (rowOf M.zero) 23 (0, 0)) by
    have := heap_alloc_new (w.alloc (.cells #[.int .i64 o.kind, .string o.value] 26)) (.cells (rowOf M.zero) 23)
    rwa [show (w.alloc (.cells #[.int .i64 o.kind, .string o.value] 26)).heap.size = w.heap.size + 1 by simp] at this)
  clear b0
  have q0 := eqNil
  by_cases hk : o.kind = 46
  · by_cases h0 : o.value.size = 0
    · have hg := Lib.hid (get_empty hk h0)
      have he := Oct.is_empty _ h0
      have he2 : o.value.toList = [] := by simpa using he
      rw [hk] at N1 B1 ⊢
      clear hk
      unfold rowOf M.zero at N1 B1
      dsimp only at N1 B1
      go_enter Try.func8, Try.ntmps8
      go_wp2_with (refine wpList_store_row rfl 23 _ _ rfl (w.heap.size + 1) _ rfl rfl 23 _ N1.out (hi7m _ _ _ _ _ _ _) rfl (hone7m _ _ _ _ _ _ _) ?_)
      refine bodyPost_ret (results_row1 Try.results8 _ _ (w.heap.size + 1) 23 _ (0, 0) _ rfl (setRow_heap _ _ _ _ _ _ N1.out) Try.underlying23 rfl (hi7m _ _ _ _ _ _ _)) rfl ?_
      exact get_end hg.out B1.out (by omega)
    · have he := Oct.not_empty _ h0
      obtain ⟨kf1, kf2, kf3⟩ := kind_first o.value h0
      have hkk := kindOf_lt o.value
      have HI : (46 : Int) = 46 := rfl
      have HS := Lib.hid (show get o = if known (kindOf o.value) = false then (M.zero, 7)
        else if Oct.doneOf (said o.value).left (said o.value).fail ≠ 0 then (M.zero, Oct.doneOf (said o.value).left (said o.value).fail) else ((said o.value).m, 0) by unfold get; rw [if_neg (by simp [hk]), if_neg h0])
      have CN := Lib.hid (fun w b (h : Oct.CutAt w b o.value 0) => Oct.num_any b o.value 0 1 w (by omega) h)
      unfold Oct.NumEnd at CN
      rw [kf1, kf2, kf3] at CN
      clear kf1 kf2 kf3 HI
      have hlb : (o.value.extract 1 o.value.size).size ≤ 3000 := by simp; omega
      obtain ⟨s1, hs1⟩ : ∃ s1, s1 = o.value.extract 1 o.value.size := ⟨_, rfl⟩
      rw [← hs1] at CN hlb
      obtain ⟨kd, hkd⟩ : ∃ kd, kd = kindOf o.value := ⟨_, rfl⟩
      rw [← hkd] at CN HS hkk
      have HKD := Lib.hid hkd
      have HS1 := Lib.hid hs1
      clear hkd hs1
      have N1' := Lib.hid N1.out
      rw [hk] at N1' B1 ⊢
      clear hk N1
      unfold rowOf M.zero at N1' B1
      dsimp only at N1' B1
      go_enter Try.func8, Try.ntmps8
      go_wp2_with fail
      refine (Oct.new_any _ _).mono ?_
      rintro e w1 ⟨rfl, rfl⟩
      go_wp2_with fail
      refine (CN.out _ _ (by have := cut_new ((w.alloc (.cells #[.int .i64 46, .string o.value] 26)).alloc (.cells #[.int .i64 0, .int .i64 0, .int .i64 0, .int .i64 0, .int .i64 0, .int .i64 0, .string ⟨#[]⟩] 23)) o.value 80; simpa using this)).mono ?_
      rintro e w2 ⟨rfl, hC2, hT2⟩
      go_wp2_with fail
      have R2 := Lib.hid (RowM.new w2 { M.zero with kind := kd })
      have L2 : w.heap.size + 3 ≤ w2.heap.size := by have := hT2.size; simp at this; omega
      have BW2 := Lib.hid (show Below w.heap.size w w2 from (B1.out.alloc (by simp; omega) _).trans (hT2.toBelow (by omega) (by simp; omega)))
      have N2 := Lib.hid ((hT2.block (w.heap.size + 1) (by first | (simp; done) | (simp; omega)) (by omega)).trans ((Below.heap_alloc _ _ _ (by simp)).trans N1'.out))
      have C2 := Lib.hid hC2
      clear CN hC2 hT2 B1 N1' he
      refine (fieldsOf_any w2.heap.size _ _ R2.out).mono ?_
      rintro e w3 ⟨v, rfl, hF, hb3⟩
      have C3 := Lib.hid ((C2.out.below ((Below.refl w2.heap.size w2).alloc (Nat.le_refl _) (.cells (rowOf { M.zero with kind := kd }) 23)) C2.out.lt).below hb3 (by have := C2.out.lt; simp; omega))
      have R3 := Lib.hid (R2.out.below hb3 (by simp))
      have N3 := Lib.hid ((hb3.block (w.heap.size + 1) (by first | (simp; done) | (simp; omega))).trans ((Below.heap_alloc _ _ _ (by omega)).trans N2.out))
      have B3 := Lib.hid ((BW2.out.alloc (by omega) (.cells (rowOf { M.zero with kind := kd }) 23)).trans (hb3.mono (by simp; omega)))
      have L3 : w2.heap.size + 1 ≤ w3.heap.size := by have := hb3.size; simpa using this
      clear R2 C2 N2 BW2
      rw [show ({ M.zero with kind := kd } : M).kind = kd from rfl] at hF
      cases hkn : known kd
      · have hg := Lib.hid (show get o = (M.zero, 7) by rw [HS.out, if_pos hkn])
        rcases hF with ⟨-, rfl⟩ | ⟨hne, -⟩
        · clear hb3 hkn HS HKD
          go_wp2_with (refine wpList_store_row rfl 23 _ _ rfl (w.heap.size + 1) _ rfl rfl 23 _ N3.out (hi7m _ _ _ _ _ _ _) rfl (hone7m _ _ _ _ _ _ _) ?_)
          refine bodyPost_ret (results_row1 Try.results8 _ _ (w.heap.size + 1) 23 _ (0, 0) _ rfl (setRow_heap _ _ _ _ _ _ N3.out) Try.underlying23 rfl (hi7m _ _ _ _ _ _ _)) rfl ?_
          exact get_end hg.out B3.out (by omega)
        · exact absurd (fields_none hkn) hne
      · rcases hF with ⟨hne, -⟩ | ⟨-, g, cap, rfl, hg1, hg2, hgc⟩
        · exact absurd hne (fields_some hkn)
        have hr := Lib.hid (fields_real kd)
        have hn := fields_le kd
        have HG := Lib.hid hgc
        have hg1' : w2.heap.size + 1 ≤ g := by simpa using hg1
        have HD := Lib.hid (show said o.value = reads ⟨{ M.zero with kind := kd }, s1, 0⟩ (fields kd) by unfold said begun; rw [HKD.out, HS1.out])
        have HS' := Lib.hid (show get o = if Oct.doneOf (said o.value).left (said o.value).fail ≠ 0 then (M.zero, Oct.doneOf (said o.value).left (said o.value).fail) else ((said o.value).m, 0) by rw [HS.out, if_neg (by simp [hkn])])
        obtain ⟨x0, hx0⟩ : ∃ x0 : Rd, x0 = ⟨{ M.zero with kind := kd }, s1, 0⟩ := ⟨_, rfl⟩
        have R3' := Lib.hid (show RowM w3 w2.heap.size x0.m by rw [hx0]; exact R3.out)
        have C3' := Lib.hid (show Oct.CutAt w3 (w.heap.size + 1 + 1) x0.left x0.fail by rw [hx0]; have := C3.out; simpa using this)
        have hx3 : x0.left.size ≤ 3000 := by rw [hx0]; exact hlb
        rw [← hx0] at HD
        have hrs := Lib.hid (reads_size x0)
        clear hx0 R3 C3 HS hgc hb3 HKD HS1 hkn hlb hg1
        generalize fields kd = l at *
        generalize said o.value = SD at *
        go_wp2_with fail
        go_loopw [30] (fun i wr => ∃ k : Nat, k ≤ l.length ∧ i = .int .i64 k ∧ RowM wr w2.heap.size (reads x0 (l.take k)).m ∧ Oct.CutAt wr (w.heap.size + 1 + 1) (reads x0 (l.take k)).left (reads x0 (l.take k)).fail ∧ Touch2 w2.heap.size (w.heap.size + 1 + 1) w3 wr) (fun i _ => l.length - (intOf i).toNat)
        case atStart => exact ⟨0, Nat.zero_le _, rfl, R3'.out, C3'.out, Touch2.refl _ _ _⟩
        case round =>
          obtain ⟨k, hk, rfl, hR, hC, hT⟩ := hrel
          have HR := Lib.hid hR
          have HC := Lib.hid hC
          have HT := Lib.hid hT
          clear hR hC hT
          by_cases hlt : k < l.length
          · obtain ⟨f, hf⟩ : ∃ f, l[k]? = some f := ⟨_, List.getElem?_eq_getElem hlt⟩
            have hfr := hr.out f (List.mem_of_getElem? hf)
            have hc : wr.cell? ⟨g, k, none⟩ = some (fv w2.heap.size f) := (World.cell?_of_block (w := w3) (HT.out.block g hg2 (by omega) (by omega))).trans (HG.out k f hf)
            have HN := Lib.hid (reads_next x0 l k f hf)
            have hls : (reads x0 (l.take k)).left.size ≤ 4000 := Nat.le_trans (hrs.out _) (by omega)
            have hne : w2.heap.size ≠ w.heap.size + 1 + 1 := by omega
            clear hf
            generalize reads x0 (l.take k) = y at *
            cases f with
            | num j z =>
              change wr.cell? ⟨g, k, none⟩ = some (.iface 75 (nv w2.heap.size j z)) at hc
              go_wp2_with fail
              refine (readN _ j z _ y hfr _ HR.out hls HC.out hne).mono ?_
              rintro e w4 ⟨rfl, h4, c4, t4⟩
              have H4 := Lib.hid h4
              have C4 := Lib.hid c4
              have T4 := Lib.hid t4
              clear h4 c4 t4
              go_wp2_with fail
              go_roundw
              case rel => exact ⟨k + 1, by omega, by go_num, by rw [HN.out]; exact H4.out, by rw [HN.out]; exact C4.out, HT.out.trans T4.out⟩
              case measure => simp [intOf]; omega
            | txt s q =>
              change wr.cell? ⟨g, k, none⟩ = some (.iface 78 (xv w2.heap.size s q)) at hc
              go_wp2_with fail
              refine (readX _ s q _ y hfr _ HR.out hls HC.out hne).mono ?_
              rintro e w4 ⟨rfl, h4, c4, t4⟩
              have H4 := Lib.hid h4
              have C4 := Lib.hid c4
              have T4 := Lib.hid t4
              clear h4 c4 t4
              go_wp2_with fail
              go_roundw
              case rel => exact ⟨k + 1, by omega, by go_num, by rw [HN.out]; exact H4.out, by rw [HN.out]; exact C4.out, HT.out.trans T4.out⟩
              case measure => simp [intOf]; omega
          · obtain rfl : k = l.length := by omega
            have HD' := Lib.hid (show reads x0 (l.take l.length) = SD by rw [HD.out, List.take_length])
            have R5 := Lib.hid (show RowM wr w2.heap.size SD.m by rw [← HD'.out]; exact HR.out)
            have C5 := Lib.hid (show Oct.CutAt wr (w.heap.size + 1 + 1) SD.left SD.fail by rw [← HD'.out]; exact HC.out)
            have N5 := Lib.hid ((HT.out.block (w.heap.size + 1) (by omega) (by omega) (by omega)).trans N3.out)
            have B5 := Lib.hid (B3.out.trans (HT.out.toBelow (by omega) (by omega) (by omega)))
            clear HR HC HT HD HD' N3 B3 hlt hk HG R3' C3'
            have CD := Lib.hid (fun w b h => Oct.done_any b SD.left SD.fail w h)
            obtain ⟨⟨mk, ma, mp, mn, mt, mq, mb⟩, hSm⟩ : ∃ M : M, SD.m = M := ⟨_, rfl⟩
            rw [hSm] at R5 HS'
            clear hSm
            by_cases hd : Oct.doneOf SD.left SD.fail = 0
            · rw [hd] at CD
              have hg := Lib.hid (show get o = (_, 0) from HS'.out.trans (if_neg (by simp [hd])))
              clear hd HS'
              go_wp2_with fail
              refine (CD.out _ _ (by exact C5.out)).mono ?_
              rintro e w6 ⟨rfl, rfl⟩
              go_wp2_with (first
                | refine wpList_load_row rfl 23 _ rfl w2.heap.size rfl _ _ _ _ R5.out Try.underlying23 rfl (hi7m _ _ _ _ _ _ _) ?_
                | refine wpList_store_row rfl 23 _ _ rfl (w.heap.size + 1) _ rfl rfl 23 _ N5.out (hi7m _ _ _ _ _ _ _) rfl (hone7m _ _ _ _ _ _ _) ?_)
              refine bodyPost_ret (results_row1 Try.results8 _ _ (w.heap.size + 1) 23 _ (0, 0) _ rfl (setRow_heap _ _ _ _ _ _ N5.out) Try.underlying23 rfl (hi7m _ _ _ _ _ _ _)) rfl ?_
              exact get_end hg.out B5.out (by omega)
            · have hg := Lib.hid (show get o = (M.zero, Oct.doneOf SD.left SD.fail) from HS'.out.trans (if_pos hd))
              generalize Oct.doneOf SD.left SD.fail = er at *
              have hne : (er != 0) = true := by simpa using hd
              clear hd HS'
              go_wp2_with fail
              refine (CD.out _ _ (by exact C5.out)).mono ?_
              rintro e w6 ⟨rfl, rfl⟩
              go_wp2_with (refine wpList_store_row rfl 23 _ _ rfl (w.heap.size + 1) _ rfl rfl 23 _ N5.out (hi7m _ _ _ _ _ _ _) rfl (hone7m _ _ _ _ _ _ _) ?_)
              refine bodyPost_ret (results_row1 Try.results8 _ _ (w.heap.size + 1) 23 _ (0, 0) _ rfl (setRow_heap _ _ _ _ _ _ N5.out) Try.underlying23 rfl (hi7m _ _ _ _ _ _ _)) rfl ?_
              exact get_end hg.out B5.out (by omega)
  · have hg := Lib.hid (get_off hk)
    have hn : (o.kind != 46) = true := by simpa using hk
    unfold rowOf M.zero at N1 B1
    dsimp only at N1 B1
    go_enter Try.func8, Try.ntmps8
    go_wp2_with (refine wpList_store_row rfl 23 _ _ rfl (w.heap.size + 1) _ rfl rfl 23 _ N1.out (hi7m _ _ _ _ _ _ _) rfl (hone7m _ _ _ _ _ _ _) ?_)
    refine bodyPost_ret (results_row1 Try.results8 _ _ (w.heap.size + 1) 23 _ (0, 0) _ rfl (setRow_heap _ _ _ _ _ _ N1.out) Try.underlying23 rfl (hi7m _ _ _ _ _ _ _)) rfl ?_
    exact get_end hg.out B1.out (by omega)
end Go.Proofs.Ytmkngolkflihlaa.Mp
