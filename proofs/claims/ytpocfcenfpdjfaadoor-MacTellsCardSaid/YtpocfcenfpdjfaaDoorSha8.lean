/- The document's sum: the contract. -/
import Derived.Test.YtpocfcenfpdjfaaDoorSha7
import Derived.Test.YtpocfcenfpdjfaaDoorSha5
import Derived.Test.YtpocfcenfpdjfaaDoorLU32
import Derived.Test.YtpocfcenfpdjfaaDoorKeepAp
import Derived.Deep.RegionHeld3
import Derived.Deep.DeepCutAuto
import Derived.BigFrame
namespace Go.Proofs.YtpocfcenfpdjfaaDoor.Sha
open Go.ChangeShapes Go.WideShapes Go.ChangeAt Go.RowKit
open Go.Proofs.YtpocfcenfpdjfaaDoor.LU32
set_option linter.unusedVariables false

/-- all bytes that are summed -/
def padded (s : ByteArray) : ByteArray := ⟨(s.data.toList ++ tail s.size).toArray⟩
def many (s : ByteArray) : Nat := (s.data.toList.length + (tail s.data.toList.length).length) / 64
theorem padded_size (s : ByteArray) : (padded s).size = 64 * many s := by
  have h := tail_length s.data.toList.length
  have hz : (padded s).size = s.data.toList.length + (tail s.data.toList.length).length := by
    show (s.data.toList ++ tail s.size).toArray.size = _
    rw [List.size_toArray, List.length_append]; rfl
  unfold many
  omega
theorem padded_le (s : ByteArray) (hs : s.size ≤ 20000) : (padded s).size ≤ 20200 := by
  show (s.data.toList ++ tail s.size).toArray.size ≤ 20200
  have : s.data.toList.length = s.size := rfl
  rw [List.size_toArray, List.length_append]
  simp [tail]
  omega
theorem sum_padded (s : ByteArray) : (blocks (many s) hs (padded s).data.toList).bytes = sum s.data.toList := by
  unfold padded
  rfl

theorem ints_push {w wr w1 : World} {base : Nat} {v v' : Value} {o : Obj} {xs : List Int} {x : Int} (hB : base ≤ wr.heap.size) (hown : Ints wr base v xs) (hb : Below base w wr)
    (hown' : w1.ownsRow base 47 1 v' (xs.length + 1) (xs.map (Value.int .u32) ++ [.int .u32 x])) (hg : (wr.alloc o).grownBy w1 v.ownBlock) :
    Ints w1 base v' (xs ++ [x]) ∧ Below base w w1 := by
  refine ⟨?_, (hb.alloc hB o).grown hg (by simp; omega) (fun j hj => (World.ownsRow.lt hown j hj).1)⟩
  unfold Ints
  rw [List.length_append, List.map_append]
  exact hown'

theorem ints_push2 {w wr W w1 : World} {base g n : Nat} {v' : Value} {o : Obj} {xs : List Int} {x : Int} (hW : Below wr.heap.size wr W) (hB : base ≤ wr.heap.size) (hb : Below base w wr) (hg : base ≤ g) (hl : xs.length = n)
    (hown' : w1.ownsRow base 47 1 v' (n + 1) (xs.map (Value.int .u32) ++ [.int .u32 x])) (hgr : (W.alloc o).grownBy w1 (some g)) :
    Ints w1 base v' (xs ++ [x]) ∧ Below base w w1 := by
  have hbW := hb.trans (hW.mono hB)
  have hs := hW.size
  refine ⟨?_, (hbW.alloc (by omega) o).grown hgr (by simp; omega) (fun j hj => by cases hj; exact hg)⟩
  unfold Ints
  rw [List.length_append, List.map_append, hl]
  exact hown'

theorem high_eq (x16 x15 x7 x2 : Int) : IntKind.u32.wrap (IntKind.u32.wrap (IntKind.u32.wrap (x16 + bits BinOp.xor IntKind.u32 (bits BinOp.xor IntKind.u32 (rr x15 7) (rr x15 18)) (x15 / 8)) + x7) +
    bits BinOp.xor IntKind.u32 (bits BinOp.xor IntKind.u32 (rr x2 17) (rr x2 19)) (x2 / 1024)) = (x16 + sig0 x15 + x7 + sig1 x2) % 4294967296 := by
  show IntKind.u32.wrap (IntKind.u32.wrap (IntKind.u32.wrap (x16 + sig0 x15) + x7) + sig1 x2) = _
  rw [IntKind.wrap_u32', IntKind.wrap_u32', IntKind.wrap_u32']
  omega

theorem Row.news {w : World} {B : Nat} {t : TypeId} {xs : List Int} (h : Row w B t xs) (j : Nat) (u : Value) (hj : (xs.map (Value.int .u32))[j]? = some u) : w.cell? ((⟨B, 0, none⟩ : Addr).add j) = some u := by
  have ha : (⟨B, 0, none⟩ : Addr).add j = ⟨B, j, none⟩ := by unfold Addr.add; split <;> simp_all
  rw [ha, cell_of_row _ _ _ _ _ _ h]
  simpa using hj
theorem ints_oneCell (xs : List Int) : ∀ u ∈ xs.map (Value.int .u32), u.oneCell' = true := by
  intro v hv
  simp at hv
  obtain ⟨x, _, rfl⟩ := hv
  rfl
/-- a slice of the call's own that was copied out of eight numbers -/
theorem ints_copied {wr W w2 : World} {v' : Value} {xs : List Int} (hl : xs.length = 8) (hW : Below wr.heap.size wr W) (hs : wr.heap.size < W.heap.size)
    (hown : w2.ownsRow wr.heap.size 47 1 v' (0 + 8) ([] ++ xs.map (Value.int .u32))) (hg : W.grownBy w2 (some wr.heap.size)) :
    (∃ g cap, v' = .slice (some ⟨g, 0, none⟩) 8 cap ∧ wr.heap.size ≤ g ∧ g < w2.heap.size ∧ ∀ j, j < 8 → w2.cell? ⟨g, j, none⟩ = some (.int .u32 (xs.getD j 0))) ∧ Below wr.heap.size wr w2 := by
  have h1 : Ints w2 wr.heap.size v' xs := by unfold Ints; rw [hl]; simpa using hown
  refine ⟨?_, hW.grown hg (by omega) (fun k hk => by cases hk; exact Nat.le_refl _)⟩
  rcases h1.at with ⟨h0, _⟩ | ⟨g, cap, h2, h3, h4, h5⟩
  · rw [h0] at hl; simp at hl
  · rw [hl] at h2 h5
    exact ⟨g, cap, h2, h3, h4, h5⟩

/-- eight cells -/
def Eight (w : World) (g : Nat) (st : St) : Prop := ∀ j, j < 8 → w.cell? ⟨g, j, none⟩ = some (.int .u32 (st.list.getD j 0))
theorem Eight.all {w : World} {g : Nat} {st : St} (h : Eight w g st) :
    w.cell? ⟨g, 0, none⟩ = some (.int .u32 st.a) ∧ w.cell? ⟨g, 1, none⟩ = some (.int .u32 st.b) ∧ w.cell? ⟨g, 2, none⟩ = some (.int .u32 st.c) ∧ w.cell? ⟨g, 3, none⟩ = some (.int .u32 st.d) ∧
    w.cell? ⟨g, 4, none⟩ = some (.int .u32 st.e) ∧ w.cell? ⟨g, 5, none⟩ = some (.int .u32 st.f) ∧ w.cell? ⟨g, 6, none⟩ = some (.int .u32 st.g) ∧ w.cell? ⟨g, 7, none⟩ = some (.int .u32 st.h) :=
  ⟨h 0 (by omega), h 1 (by omega), h 2 (by omega), h 3 (by omega), h 4 (by omega), h 5 (by omega), h 6 (by omega), h 7 (by omega)⟩
theorem Eight.below {w w' : World} {g n : Nat} {st : St} (h : Eight w g st) (hb : Below n w w') (hg : g < n) : Eight w' g st := fun j hj => (hb.cell (p := ⟨g, j, none⟩) hg).trans (h j hj)

theorem t1_eq2 (a b c d e f g h K W : Int) : IntKind.u32.wrap (IntKind.u32.wrap (IntKind.u32.wrap (IntKind.u32.wrap (h + bits BinOp.xor IntKind.u32 (bits BinOp.xor IntKind.u32 (rr e 6) (rr e 11)) (rr e 25)) +
    bits BinOp.xor IntKind.u32 (bits BinOp.and IntKind.u32 e f) (bits BinOp.and IntKind.u32 (bits BinOp.xor IntKind.u32 IntKind.u32.max e) g)) + K) + W) = t1Of ⟨a, b, c, d, e, f, g, h⟩ K W := by
  show IntKind.u32.wrap (IntKind.u32.wrap (IntKind.u32.wrap (IntKind.u32.wrap (h + bigE e) + pick e f g) + K) + W) = (h + bigE e + pick e f g + K + W) % 4294967296
  rw [IntKind.wrap_u32', IntKind.wrap_u32', IntKind.wrap_u32', IntKind.wrap_u32']
  omega
theorem Eight.of_row {w : World} {B : Nat} {t : TypeId} {st : St} (h : Row w B t st.list) : Eight w B st := fun j hj => h.cell j hj

theorem t2_eq (a b c d e f g h : Int) : (bits BinOp.xor IntKind.u32 (bits BinOp.xor IntKind.u32 (rr a 2) (rr a 13)) (rr a 22) +
    bits BinOp.xor IntKind.u32 (bits BinOp.xor IntKind.u32 (bits BinOp.and IntKind.u32 a b) (bits BinOp.and IntKind.u32 a c)) (bits BinOp.and IntKind.u32 b c)) % 4294967296 = t2Of ⟨a, b, c, d, e, f, g, h⟩ := rfl

/-- the sums, of which i have been added to -/
def mix (s t : St) (i : Nat) : List Int := (sumSt s t).list.take i ++ s.list.drop i
theorem mix_length (s t : St) (i : Nat) (h : i ≤ 8) : (mix s t i).length = 8 := by
  unfold mix
  rw [List.length_append, List.length_take, List.length_drop, St.list_length, St.list_length]; omega
theorem mix_get (s t : St) (i : Nat) (h : i < 8) : (mix s t i).getD i 0 = s.list.getD i 0 := by
  match i, h with
  | 0, _ => rfl
  | 1, _ => rfl
  | 2, _ => rfl
  | 3, _ => rfl
  | 4, _ => rfl
  | 5, _ => rfl
  | 6, _ => rfl
  | 7, _ => rfl
theorem mix_set (s t : St) (i : Nat) (h : i < 8) : (mix s t i).set i ((s.list.getD i 0 + t.list.getD i 0) % 4294967296) = mix s t (i + 1) := by
  match i, h with
  | 0, _ => rfl
  | 1, _ => rfl
  | 2, _ => rfl
  | 3, _ => rfl
  | 4, _ => rfl
  | 5, _ => rfl
  | 6, _ => rfl
  | 7, _ => rfl

theorem word_at (P : ByteArray) (j k : Nat) (hk : k < 16) (hs : 64 * j + 64 ≤ P.size) :
    ∃ n : Nat, (n : Int) = word ((P.data.toList.drop (64 * j)).take 64) k ∧ Oct.whole (P.extract (64 * j + 4 * k) (64 * j + 4 * k + 4)) = n ∧ n ≤ 4294967295 := by
  refine ⟨_, rfl, ?_⟩
  have h1 : (P.extract (64 * j + 4 * k) (64 * j + 4 * k + 4)).data.toList = ((((P.data.toList.drop (64 * j)).take 64).drop (4 * k)).take 4) := by
    rw [ByteArray.data_extract, Array.toList_extract, List.extract_eq_take_drop, show 64 * j + 4 * k + 4 - (64 * j + 4 * k) = 4 by omega, List.drop_take, List.drop_drop, List.take_take]
    congr 1
    omega
  unfold Oct.whole
  rw [h1]
  have h2 := Oct.num_lt ((((P.data.toList.drop (64 * j)).take 64).drop (4 * k)).take 4)
  have h3 : ((((P.data.toList.drop (64 * j)).take 64).drop (4 * k)).take 4).length ≤ 4 := by simp; omega
  have h4 : 256 ^ ((((P.data.toList.drop (64 * j)).take 64).drop (4 * k)).take 4).length ≤ 256 ^ 4 := Nat.pow_le_pow_right (by omega) h3
  omega

theorem words_low (l : List UInt8) (k : Nat) (h : k < 16) : words l (k + 1) = words l k ++ [word l k] := by
  rw [← next_low l k h]; rfl
theorem words_high (l : List UInt8) (k : Nat) (h : ¬ k < 16) :
    words l (k + 1) = words l k ++ [((words l k).getD (k - 16) 0 + sig0 ((words l k).getD (k - 15) 0) + (words l k).getD (k - 7) 0 + sig1 ((words l k).getD (k - 2) 0)) % 4294967296] := by
  have : next l (words l k) = ((words l k).getD (k - 16) 0 + sig0 ((words l k).getD (k - 15) 0) + (words l k).getD (k - 7) 0 + sig1 ((words l k).getD (k - 2) 0)) % 4294967296 := by
    unfold next
    rw [if_neg (by simp; omega), words_length]
  rw [← this]; rfl

theorem refPadded_any (s : ByteArray) (hs : s.size ≤ 30000) (w : World) :
    Calls Tryd.prog 33 #[.string s] w fun e w' => e = .returned (.string (padded s)) ∧ Below w.heap.size w w' := refPad_any s hs w

set_option maxRecDepth 100000 in
set_option maxHeartbeats 40000000 in
theorem refOf_any (s : ByteArray) (hs' : s.size ≤ 20000) (w : World) :
    Calls Tryd.prog 21 #[.string s] w fun e w' => e = .returned (.string ⟨(sum s.data.toList).toArray⟩) ∧ Below w.heap.size w w' := by
  have Hp := Lib.hid (padded_size s)
  have hp := padded_le s hs'
  have Hs := Lib.hid (sum_padded s)
  go_enter Tryd.func21, Tryd.ntmps21
  go_wp2_with fail
  refine (refPadded_any s (by omega) _).mono ?_
  rintro e w1 ⟨rfl, h1⟩
  have r0 : Row w1 w.heap.size 47 hs.list := Row.below (heap_alloc_new w _) h1 (by simp)
  have hb : Below w.heap.size w w1 := ((Below.refl _ _).alloc (Nat.le_refl _) _).trans (h1.mono (by simp))
  clear h1
  generalize padded s = P at *
  generalize many s = nb at *
  go_wp2_with fail
  go_loopw [5] (fun v wr => ∃ j : Nat, j ≤ nb ∧ v = .int .i64 (64 * (j : Int)) ∧ Row wr w.heap.size 47 (blocks j hs P.data.toList).list ∧ Below w.heap.size w wr) (fun v _ => 40000 - (intOf v).toNat)
  case atStart => exact ⟨0, by omega, rfl, r0, hb⟩
  case round =>
    clear r0 hb
    obtain ⟨j, hj, rfl, r0, hb⟩ := hrel
    by_cases hlt : j < nb
    · have hc : 64 * (j : Int) < (P.size : Int) := by have := Hp.out; omega
      have hq : 64 * j + 64 ≤ P.size := by have := Hp.out; omega
      go_wp2_with fail
      generalize wr = wo at *
      obtain ⟨i0, hi, hz0, hz1, hz2⟩ := info_parts infoU32
      go_loopw [6, 7] (fun v i w2 => ∃ k : Nat, k ≤ 64 ∧ i = .int .i64 k ∧ Ints w2 wo.heap.size v (words ((P.data.toList.drop (64 * j)).take 64) k) ∧ Below wo.heap.size wo w2) (fun _ i _ => 64 - (intOf i).toNat)
      case atStart => exact ⟨0, by omega, rfl, Ints.nil _ _, Below.refl _ _⟩
      case round =>
        obtain ⟨k, hk, rfl, hown, hb2⟩ := hrel
        have hsz := hb2.size
        have Hl := Lib.hid (words_length ((P.data.toList.drop (64 * j)).take 64) k)
        by_cases hk64 : k < 64
        · by_cases h16 : k < 16
          · have hup : 64 * (j : Int) + 4 * (k : Int) + 4 ≤ (P.size : Int) := by omega
            obtain ⟨n, hn1, hn2, hn3⟩ := word_at P j k h16 hq
            have Hn := Lib.hid (words_low ((P.data.toList.drop (64 * j)).take 64) k h16)
            rw [← hn1] at Hn
            clear hn1
            generalize words ((P.data.toList.drop (64 * j)).take 64) k = xs at *
            go_wp2_with fail
            refine (Oct.refOf_any _ _ (by simp; omega)).mono ?_
            rintro e w' ⟨rfl, rfl⟩
            rw [hn2]
            clear hn2
            go_wp2_with (at_builtin; refine wpList_append_own _ rfl _ _ 54 rfl wo.heap.size 47 i0 (.int .u32 0) 1 4 Tryd.underlying54 hi hz0 hz1 hz2 rfl (by decide) _ _ _ rfl (World.ownsRow.alloc hown _) ⟨wr.heap.size, 0, none⟩ 1 1 [.int .u32 (n : Int)] rfl rfl ?c1 ?c2 ?c3 ?c4 ?c5 ?_)
            case c1 =>
              intro j u hj
              match j, hj with
              | 0, hj => simp at hj; subst hj; simp [Addr.add]
            case c2 => intro u hu; simp at hu; subst hu; rfl
            case c3 => have := Hl.out; unfold maxLen; omega
            case c4 => have := Hl.out; omega
            case c5 => simp; omega
            intro v' w1 hown' hg _
            have hp := Lib.hid (ints_push hsz hown hb2 hown' hg)
            clear hown' hg hown hb2
            go_wp2_with fail
            exact ⟨⟨k + 1, by omega, rfl, by rw [Hn.out]; exact hp.out.1, hp.out.2⟩, by simp [intOf]; omega⟩
          · have Hn := Lib.hid (words_high ((P.data.toList.drop (64 * j)).take 64) k h16)
            have hat := hown.at
            have hl := Hl.out
            generalize words ((P.data.toList.drop (64 * j)).take 64) k = xs at *
            rcases hat with ⟨rfl, rfl⟩ | ⟨g, cap, rfl, hg1, hg2, hcell⟩
            · simp at hl; omega
            · have c16 := hcell (k - 16) (by omega)
              have c15 := hcell (k - 15) (by omega)
              have c7 := hcell (k - 7) (by omega)
              have c2 := hcell (k - 2) (by omega)
              rw [hl] at hown ⊢
              generalize xs.getD (k - 16) 0 = x16 at *
              generalize xs.getD (k - 15) 0 = x15 at *
              generalize xs.getD (k - 7) 0 = x7 at *
              generalize xs.getD (k - 2) 0 = x2 at *
              have b16 : (0 : Int) ≤ (k : Int) - 16 ∧ (k : Int) - 16 < (k : Int) := by omega
              have b15 : (0 : Int) ≤ (k : Int) - 15 ∧ (k : Int) - 15 < (k : Int) := by omega
              have b7 : (0 : Int) ≤ (k : Int) - 7 ∧ (k : Int) - 7 < (k : Int) := by omega
              have b2 : (0 : Int) ≤ (k : Int) - 2 ∧ (k : Int) - 2 < (k : Int) := by omega
              have n16 : ((k : Int) - 16).toNat = k - 16 := by omega
              have n15 : ((k : Int) - 15).toNat = k - 15 := by omega
              have n7 : ((k : Int) - 7).toNat = k - 7 := by omega
              have n2 : ((k : Int) - 2).toNat = k - 2 := by omega
              have g16 : (16 : Int) ≤ (k : Int) := by omega
              have g15 : (15 : Int) ≤ (k : Int) := by omega
              have g7 : (7 : Int) ≤ (k : Int) := by omega
              have g2 : (2 : Int) ≤ (k : Int) := by omega
              have i16 : IntKind.i64.wrap ((k : Int) - 16) = (k : Int) - 16 := IntWalk.i64_in _ (by omega)
              have i15 : IntKind.i64.wrap ((k : Int) - 15) = (k : Int) - 15 := IntWalk.i64_in _ (by omega)
              have i7 : IntKind.i64.wrap ((k : Int) - 7) = (k : Int) - 7 := IntWalk.i64_in _ (by omega)
              have i2 : IntKind.i64.wrap ((k : Int) - 2) = (k : Int) - 2 := IntWalk.i64_in _ (by omega)
              go_wp2_with fail
              go_quiet (fail)
              go_wp2_with fail
              have hne : g ≠ wr.heap.size := by omega
              have hml : k + 1 ≤ maxLen := by unfold maxLen; omega
              have hown : wr.ownsRow wo.heap.size 47 1 (.slice (some ⟨g, 0, none⟩) k cap) k (xs.map (Value.int .u32)) := by unfold Ints at hown; rw [hl] at hown; exact hown
              go_region_held3 (fun w' => w'.cell? ⟨g, k - 16, none⟩ = some (.int .u32 x16) ∧ w'.cell? ⟨g, k - 7, none⟩ = some (.int .u32 x7)) (first | go_keep | (rw [hkeep _ (by omega), hkeep _ (by omega)]; go_keep)) (first
                | (go_at_call 34; refine (refRor_any _ _ (by omega) (by omega) _).mono ?_; rintro e w' ⟨rfl, m, rfl⟩)
                | (refine step_append_keep (by rfl) _ _ _ (by rfl) wo.heap.size 47 i0 (.int .u32 0) 4 Tryd.underlying54 hi hz0 hz1 hz2 rfl g k cap (xs.map (Value.int .u32)) (by rfl) (own_after hown _ rfl) ⟨wr.heap.size, 0, none⟩ 1 _ (by rfl) (new_after _ _ rfl) rfl hml (by omega) (by simp; omega) ?_; intro v' w1 hown1 hgrow hkeep))
              rw [high_eq] at hown1
              have hp := Lib.hid (ints_push2 (drawn_below wr _) hsz hb2 hg1 hl hown1 hgrow)
              clear hown1 hgrow hkeep hown hcell c16 c15 c7 c2 hb2 b16 b15 b7 b2 n16 n15 n7 n2 g16 g15 g7 g2 i16 i15 i7 i2
              go_wp2_with fail
              exact ⟨⟨k + 1, by omega, rfl, by rw [Hn.out]; exact hp.out.1, hp.out.2⟩, by simp [intOf]; omega⟩
        · obtain rfl : k = 64 := by omega
          have hn : ¬ ((64 : Nat) : Int) < 64 := by omega
          have hat := hown.at
          clear hown Hl
          rcases hat with ⟨h0, -⟩ | ⟨g, cap, rfl, hg1, hg2, hcell⟩
          · have := words_length ((P.data.toList.drop (64 * j)).take 64) 64
            rw [h0] at this; simp at this
          · rw [words_length] at hcell ⊢
            have r2 := r0.below hb2 r0.lt
            have hlt0 := r0.lt
            have r3 : Row (wr.alloc (.cells #[] 47)) w.heap.size 47 (blocks j hs P.data.toList).list := r2.below (n := wr.heap.size) ((Below.refl _ _).alloc (Nat.le_refl _) _) (by omega)
            have hs8 := St.list_length (blocks j hs P.data.toList)
            obtain ⟨L, hL⟩ : ∃ L, L = (blocks j hs P.data.toList).list := ⟨_, rfl⟩
            rw [← hL] at r3 hs8
            have HL := Lib.hid hL
            clear hL
            go_wp2_with (at_builtin; refine wpList_append_own _ rfl _ _ 54 rfl wr.heap.size 47 i0 (.int .u32 0) 1 4 Tryd.underlying54 hi hz0 hz1 hz2 rfl (by decide) _ 0 [] rfl (World.ownsRow_made wr #[] 0 (Nat.le_refl _) (by unfold maxLen; omega) rfl) ⟨w.heap.size, 0, none⟩ 8 8 (L.map (Value.int .u32)) rfl (by simp [hs8]) (Row.news r3) (ints_oneCell _) (by unfold maxLen; omega) (by omega) (by simp) ?_)
            intro v' w3 hown' hgr _
            obtain ⟨⟨g2, cap2, rfl, hg3, hg4, hcell2⟩, hb3⟩ := ints_copied hs8 ((Below.refl _ _).alloc (Nat.le_refl _) _) (by simp) hown' hgr
            clear hown' hgr r3
            have hcw : ∀ k, k < 64 → w3.cell? ⟨g, k, none⟩ = some (.int .u32 ((words ((P.data.toList.drop (64 * j)).take 64) 64).getD k 0)) := fun k hk => by rw [hb3.cell (p := ⟨g, k, none⟩) hg2]; exact hcell k hk
            have hb4 := hb2.trans (hb3.mono hsz)
            have hg5 : g < w3.heap.size := by have := hb3.size; omega
            have hg6 : w.heap.size < g2 := by omega
            clear hcell hb2 hb3 r2 hg2 hsz hg3
            rw [HL.out] at hcell2
            have hE : Eight w3 g2 (blocks j hs P.data.toList) := hcell2
            clear hcell2
            go_wp2_with fail
            go_loopw [10, 11] (fun v i w4 => ∃ k g' cap' : Nat, k ≤ 64 ∧ i = .int .i64 k ∧ v = .slice (some ⟨g', 0, none⟩) 8 cap' ∧ w.heap.size < g' ∧ g' < w4.heap.size ∧
                Eight w4 g' (rounds (words ((P.data.toList.drop (64 * j)).take 64) 64) (blocks j hs P.data.toList) k) ∧ Below w3.heap.size w3 w4) (fun _ i _ => 64 - (intOf i).toNat)
            case atStart => exact ⟨0, g2, cap2, by omega, rfl, rfl, hg6, hg4, hE, Below.refl _ _⟩
            case round =>
              clear hE hg4 hg6
              obtain ⟨k, g', cap', hk, rfl, rfl, hg6, hg7, hE, hb6⟩ := hrel
              by_cases hk64 : k < 64
              · have cw : wr.cell? ⟨g, k, none⟩ = _ := (hb6.cell (p := ⟨g, k, none⟩) hg5).trans (hcw k hk64)
                obtain ⟨c0, c1, c2, c3, c4, c5, c6, c7⟩ := hE.all
                have Hn : Hid (rounds (words ((P.data.toList.drop (64 * j)).take 64) 64) (blocks j hs P.data.toList) (k + 1) = step (rounds (words ((P.data.toList.drop (64 * j)).take 64) 64) (blocks j hs P.data.toList) k) (ks.getD k 0) ((words ((P.data.toList.drop (64 * j)).take 64) 64).getD k 0)) := Lib.hid rfl
                have bk : (0 : Int) ≤ (k : Int) ∧ (k : Int) < 64 := by omega
                have bk1 : (k : Int) < 64 := by omega
                have bk2 : ((k : Int)).toNat = k := by omega
                have hgw : g < wr.heap.size := by have := hb6.size; omega
                have HK := Lib.hid (fun w' => refK_any k hk64 w')
                generalize ks.getD k 0 = K at *
                generalize (words ((P.data.toList.drop (64 * j)).take 64) 64).getD k 0 = W at *
                generalize rounds (words ((P.data.toList.drop (64 * j)).take 64) 64) (blocks j hs P.data.toList) k = st at *
                obtain ⟨a, b, c, d, e, f, gg, hh⟩ := st
                have HE := Lib.hid hE
                clear hE hcw
                go_wp2_with fail
                go_quiet (fail)
                go_wp2_with fail
                go_region_held3 (fun w' => w'.cell? ⟨g', 7, none⟩ = some (.int .u32 hh) ∧ w'.cell? ⟨g', 5, none⟩ = some (.int .u32 f) ∧ w'.cell? ⟨g', 6, none⟩ = some (.int .u32 gg) ∧ w'.cell? ⟨g, k, none⟩ = some (.int .u32 W))
                  (first | go_keep | exact ⟨(hK.cell hg7).trans c7, (hK.cell hg7).trans c5, (hK.cell hg7).trans c6, (hK.cell hgw).trans cw⟩) (first
                  | (go_at_call 34; refine (refRor_any _ _ (by omega) (by omega) _).mono ?_; rintro e w' ⟨rfl, m, rfl⟩)
                  | (go_at_call 35; refine (HK.out _).mono ?_; rintro e w5 ⟨rfl, hK⟩))
                rw [t1_eq2 a b c d e f gg hh K W]
                generalize hT1 : t1Of ⟨a, b, c, d, e, f, gg, hh⟩ K W = T1
                have HT1 := Lib.hid hT1
                have hW := drawn_below wr
                have hb7 := (hb6.trans ((hW _).mono hb6.size)).trans (hK.mono hb6.size)
                have hE5 : Eight w5 g' _ := (HE.out.below (hW _) hg7).below hK hg7
                have hg8 : g' < w5.heap.size := Nat.lt_of_lt_of_le hg7 hK.size
                clear hT1 hW hK hb6 c0 c1 c2 c3 c4 c5 c6 c7 cw HE hgw hg7 HK
                obtain ⟨c0, c1, c2, c3, c4, c5, c6, c7⟩ := hE5.all
                go_wp2_with fail
                go_quiet ((go_at_call 34; exact Calls.quiet_of (refRor_any _ _ (by omega) (by omega) _)))
                go_wp2_with fail
                rw [t2_eq a b c d e f gg hh]
                generalize hT2 : t2Of ⟨a, b, c, d, e, f, gg, hh⟩ = T2
                have HT2 := Lib.hid hT2
                have hW := drawn_below w5 nq
                have hz5 : (w5.drewN nq).heap.size = w5.heap.size := by simp
                clear hT2
                refine still_tail 22 (by kernel_rfl) (by kernel_rfl) (fun w6 hD => ?_)
                have hD := hW.trans (hD.mono (by omega))
                have hb8 := hb7.trans (hD.mono hb7.size)
                have hE6 := hE5.below hD hg8
                have hg9 : w.heap.size < w6.heap.size := by have := hD.size; omega
                clear hW hD hb7 hE5 hg8 hz5 c0 c1 c2 c3 c4 c5 c6 c7
                obtain ⟨c0, c1, c2, c3, c4, c5, c6, c7⟩ := hE6.all
                simp only [List.take_succ_cons, List.take_zero, List.drop_succ_cons, List.drop_zero]
                repeat still_step
                try refine wpStill_nil ?_
                go_wp2_with fail
                have hst : step ⟨a, b, c, d, e, f, gg, hh⟩ K W = ⟨(T1 + T2) % 4294967296, a, b, c, (d + T1) % 4294967296, e, f, gg⟩ := by rw [← HT1.out, ← HT2.out]; rfl
                exact ⟨⟨k + 1, w6.heap.size, 8, by omega, rfl, rfl, by omega, by simp, by rw [Hn.out, hst]; exact Eight.of_row (heap_alloc_new w6 _), hb8.alloc hb8.size _⟩, by simp [intOf]; omega⟩
              · obtain rfl : k = 64 := by omega
                have hn : ¬ ((64 : Nat) : Int) < 64 := by omega
                have hb7 := hb4.trans (hb6.mono (by have := hb4.size; omega))
                have r4 := r0.below hb7 r0.lt
                have hB := hb.trans (hb7.mono hb.size)
                have hBlt := r0.lt
                have hBs := hb.size
                obtain ⟨s0, hs0⟩ : ∃ s0, s0 = blocks j hs P.data.toList := ⟨_, rfl⟩
                obtain ⟨t0, ht0⟩ : ∃ t0, t0 = rounds (words ((P.data.toList.drop (64 * j)).take 64) 64) (blocks j hs P.data.toList) 64 := ⟨_, rfl⟩
                have hnx : Hid (blocks (j + 1) hs P.data.toList = sumSt s0 t0) := by
                  refine Lib.hid ?_
                  rw [blocks_succ, ht0, hs0]; rfl
                rw [← ht0] at hE
                rw [← hs0] at r4
                have hg8 : w.heap.size ≠ g' := by omega
                clear hcw hb4 hb6 hb7 r0 hb hs0 ht0 hg5 hg6
                go_wp2_with fail
                generalize wr = w7 at *
                go_loopw [16] (fun v w8 => ∃ i : Nat, i ≤ 8 ∧ v = .int .i64 i ∧ Row w8 w.heap.size 47 (mix s0 t0 i) ∧ Turned w.heap.size w7 w8) (fun v _ => 8 - (intOf v).toNat)
                case atStart => exact ⟨0, by omega, rfl, r4, Turned.refl _ _⟩
                case round =>
                  clear r4
                  obtain ⟨i, hi8, rfl, r4, ht8⟩ := hrel
                  by_cases hlt8 : i < 8
                  · have hml := mix_length s0 t0 i hi8
                    have hmg := mix_get s0 t0 i hlt8
                    have Hms := Lib.hid (mix_set s0 t0 i hlt8)
                    have ch := r4.cell i (by omega)
                    rw [hmg] at ch
                    have cv := (World.cell?_of_block (a := ⟨g', i, none⟩) (ht8.2 g' hg7 (Ne.symm hg8))).trans (hE i hlt8)
                    generalize s0.list.getD i 0 = x at *
                    generalize t0.list.getD i 0 = y at *
                    have b8 : (0 : Int) ≤ (i : Int) ∧ (i : Int) < 8 := by omega
                    have b8' : (i : Int) < 8 := by omega
                    have n8 : ((i : Int)).toNat = i := by omega
                    go_wp2_with fail
                    refine still_tail 12 (by kernel_rfl) (by kernel_rfl) (fun w9 hD => ?_)
                    have ht9 := ht8.trans (Turned.of_below hD)
                    have cv := (hD.cell (p := ⟨g', i, none⟩) (Nat.lt_of_lt_of_le hg7 ht8.1.size)).trans cv
                    have ch := (hD.cell (p := ⟨w.heap.size, i, none⟩) r4.lt).trans ch
                    have r9 := r4.below hD r4.lt
                    have f9 := r9.froz i
                    clear hD ht8 r4
                    simp only [List.take_succ_cons, List.take_zero, List.drop_succ_cons, List.drop_zero]
                    repeat still_step
                    try refine wpStill_nil ?_
                    go_wp2_with fail
                    exact ⟨⟨i + 1, by omega, rfl, by have := r9.set i ((x + y) % 4294967296); rwa [Hms.out] at this, ht9.setCell i _⟩, by simp [intOf]; omega⟩
                  · obtain rfl : i = 8 := by omega
                    have hn8 : ¬ ((8 : Nat) : Int) < 8 := by omega
                    have rn : Row wr w.heap.size 47 (blocks (j + 1) hs P.data.toList).list := by rw [hnx.out]; exact r4
                    have hBn := hB.trans ((ht8.below (Nat.le_refl _) hB.size))
                    clear r4 ht8 hnx
                    go_wp2_with fail
                    exact ⟨⟨j + 1, by omega, by go_num, rn, hBn⟩, by simp [intOf]; omega⟩
    · obtain rfl : j = nb := by omega
      have hc : ¬ 64 * (j : Int) < (P.size : Int) := by have := Hp.out; omega
      have hok := blocks_ok j hs P.data.toList hs_ok
      have Hy : Hid ((blocks j hs P.data.toList).upto 8 = sum s.data.toList) := Hs
      generalize blocks j hs P.data.toList = s4 at *
      go_wp2_with fail
      generalize wr = wo at *
      go_loopw [17, 18] (fun v i w2 => ∃ k : Nat, k ≤ 8 ∧ i = .int .i64 k ∧ v = .string ⟨(s4.upto k).toArray⟩ ∧ Row w2 w.heap.size 47 s4.list ∧ Below w.heap.size w w2) (fun _ i _ => 8 - (intOf i).toNat)
      case atStart => exact ⟨0, by omega, rfl, rfl, r0, hb⟩
      case round =>
        clear r0 hb
        obtain ⟨k, hk, rfl, rfl, r0, hb⟩ := hrel
        have hul := s4.upto_length k hk
        by_cases hlt : k < 8
        · have ck := r0.cell k (by rw [St.list_length]; exact hlt)
          have hsu := s4.upto_succ k hlt
          have hrg := hok k
          obtain ⟨n, hn⟩ : ∃ n : Nat, (n : Int) = s4.list.getD k 0 := ⟨(s4.list.getD k 0).toNat, by omega⟩
          rw [← hn] at ck hrg
          have hnn : (s4.list.getD k 0).toNat = n := by omega
          rw [hnn] at hsu
          have Hn := Lib.hid hsu
          have hn2 : n ≤ 4294967295 := by omega
          have hsz : (ByteArray.mk (s4.upto k).toArray).size ≤ 32 := by show (s4.upto k).toArray.size ≤ 32; rw [List.size_toArray, hul]; omega
          have b8 : (0 : Int) ≤ (k : Int) ∧ (k : Int) < 8 := by omega
          clear hn hnn hsu hrg hul
          go_wp2_with fail
          refine (Oct.refPut_any _ _ _ _ (by omega) (by omega)).mono ?_
          rintro e w5 ⟨rfl, h5⟩
          have r5 := r0.below h5 r0.lt
          have hb := hb.trans (h5.mono hb.size)
          have h4 : Oct.held 4 = 4 := by rw [Oct.held_mid] <;> omega
          rw [h4, Oct.bs_append, ← Hn.out]
          clear h5 h4 r0
          go_wp2_with fail
          exact ⟨⟨k + 1, by omega, rfl, rfl, r5, hb⟩, by simp [intOf]; omega⟩
        · obtain rfl : k = 8 := by omega
          have hn : ¬ ((8 : Nat) : Int) < 8 := by omega
          clear hul
          go_wp2_with fail
          go_ret
          exact ⟨by rw [← Hy.out]; rfl, hb⟩
end Go.Proofs.YtpocfcenfpdjfaaDoor.Sha
