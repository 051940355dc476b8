/- A text of which the number at a place is another one: the contract of put. -/
import Derived.Test.YtjfmdfmfefjhnaaInet5
import Derived.Deep.QuietTactic
import Derived.BigQuiet
import Derived.IntWalk
namespace Go.Proofs.Ytjfmdfmfefjhnaa.Inet
open Go.ChangeShapes Go.WideShapes Go.ChangeAt Go.RowKit
open Go.Proofs.Ytjfmdfmfefjhnaa.Oct (newCap newRow1 run_bytes_new newRow1_cell bs_append)
set_option linter.unusedVariables false

/-- a block that holds bytes at its front, and lets them be written -/
def BytesAt (w : World) (B : Nat) (l : List UInt8) : Prop :=
  (∀ j (hj : j < l.length), w.cell? ⟨B, j, none⟩ = some (.int .u8 (l[j].toNat : Int))) ∧ ∀ j, j < l.length → w.frozen? ⟨B, j, none⟩ = false

theorem BytesAt.set {w : World} {B : Nat} {l : List UInt8} (h : BytesAt w B l) (k : Nat) (b : UInt8) (hk : k < l.length) : BytesAt (w.setCell ⟨B, k, none⟩ (.int .u8 (b.toNat : Int))) B (l.set k b) := by
  refine ⟨fun j hj => ?_, fun j hj => by rw [World.frozen?_setCell]; exact h.2 j (by simpa using hj)⟩
  have hj' : j < l.length := by simpa using hj
  by_cases e : j = k
  · subst e
    rw [World.cell?_setCell_same _ _ _ (h.1 j hj')]; simp
  · rw [World.cell?_setCell_other _ _ _ _ (fun e' => e (by simpa using (congrArg Addr.off e').symm)), h.1 j hj', List.getElem_set_ne (by omega)]

theorem BytesAt.new (s : ByteArray) (w : World) : BytesAt (w.alloc (newRow1 w s)).drew w.heap.size s.data.toList := by
  have hl : s.data.toList.length = s.size := size_list s
  refine ⟨fun j hj => newRow1_cell s w j (by omega), fun j hj => ?_⟩
  rw [hl] at hj
  have := World.frozen?_alloc_mark w (bytesRow s (newCap w s)) 5 (bytesRow s (newCap w s)).size ((bytesRow s (newCap w s)).size + 1) j
  show (w.alloc (newRow1 w s)).frozen? _ = false
  unfold newRow1
  rw [this]
  have : s.size ≤ (bytesRow s (newCap w s)).size := by
    have h0 := bytesRow_at s (newCap w s)
    by_cases hz : s.size = 0
    · omega
    · have h1 := h0 (s.size - 1) (by show s.size - 1 < s.size; omega)
      have := (Array.getElem?_eq_some_iff.1 h1).1
      omega
  simp; omega

theorem BytesAt.drewN {w : World} {B : Nat} {l : List UInt8} (h : BytesAt w B l) (n : Nat) : BytesAt (w.drewN n) B l :=
  ⟨fun j hj => by rw [World.cell?_drewN]; exact h.1 j hj, fun j hj => by rw [World.frozen?_drewN]; exact h.2 j hj⟩
theorem BytesAt.back {w : World} {B : Nat} {l : List UInt8} (h : BytesAt w B l) (n c : Nat) (hn : l.length = n) :
    (convert 38 9 (.slice (some ⟨B, 0, none⟩) n c)).run Try.prog w = .ok (.string ⟨l.toArray⟩) w := by
  subst hn
  exact run_convert_bytes_back (P := Try.prog) w 38 9 5 ⟨B, 0, none⟩ c l Try.underlying38 Try.underlying5 Try.underlying9 (fun j hj => by
    have ha : (⟨B, 0, none⟩ : Addr).add j = ⟨B, j, none⟩ := by unfold Addr.add; split <;> simp_all
    rw [ha]; exact h.1 j hj)

/-- the text with a number at a place -/
def putted (s : ByteArray) (k : Nat) (u v : UInt8) : ByteArray := ⟨((s.data.toList.set k u).set (k + 1) v).toArray⟩
theorem putted_size (s : ByteArray) (k : Nat) (u v : UInt8) : (putted s k u v).size = s.size := by
  unfold putted; show (((s.data.toList.set k u).set (k + 1) v).toArray).size = _
  rw [List.size_toArray, List.length_set, List.length_set, size_list]
theorem putted_byte (s : ByteArray) (k j : Nat) (u v : UInt8) (h : k + 1 < s.size) : byteAt (putted s k u v) j = if j = k then u.toNat else if j = k + 1 then v.toNat else byteAt s j := by
  unfold byteAt putted
  have hl : s.data.toList.length = s.size := size_list s
  simp only [List.getD, List.getElem?_set, List.length_set]
  by_cases e1 : j = k
  · subst e1
    rw [if_neg (by omega), if_pos rfl, if_pos (by omega), if_pos rfl]; rfl
  · by_cases e2 : j = k + 1
    · subst e2; rw [if_pos rfl, if_pos (by omega), if_neg (by omega), if_pos rfl]; rfl
    · rw [if_neg (fun e => e2 e.symm), if_neg (fun e => e1 e.symm), if_neg e1, if_neg e2]

theorem wsum_putted (s : ByteArray) (k : Nat) (u v : UInt8) (h : k + 1 < s.size) (hk : k % 2 = 0) (j : Nat) :
    (j ≤ k → wsum (putted s k u v) j = wsum s j) ∧ (k + 2 ≤ j → wsum (putted s k u v) j + (256 * byteAt s k + byteAt s (k + 1)) = wsum s j + (256 * u.toNat + v.toNat)) := by
  have hlow : ∀ j, j ≤ k → wsum (putted s k u v) j = wsum s j := fun j hj => wsum_congr _ _ _ (fun i hi => by
    rw [putted_byte _ _ _ _ _ h, if_neg (by omega), if_neg (by omega)])
  refine ⟨hlow j, fun hj => ?_⟩
  obtain ⟨d, rfl⟩ := Nat.exists_eq_add_of_le hj
  induction d with
  | zero =>
    rw [Nat.add_zero]
    show wsum (putted s k u v) (k + 1 + 1) + _ = wsum s (k + 1 + 1) + _
    simp only [wsum]
    rw [hlow k (Nat.le_refl _), putted_byte _ _ _ _ _ h, putted_byte _ _ _ _ _ h, if_pos rfl, if_neg (by omega), if_pos rfl]
    unfold worth
    rw [if_pos hk, if_neg (by omega), if_pos hk, if_neg (by omega)]
    omega
  | succ d ih =>
    have := ih (by omega)
    have e1 : ∀ x, wsum x (k + 2 + (d + 1)) = wsum x (k + 2 + d) + worth (k + 2 + d) (byteAt x (k + 2 + d)) := fun x => rfl
    rw [e1, e1, putted_byte _ _ _ _ _ h, if_neg (by omega), if_neg (by omega)]
    omega
theorem ws_putted (s : ByteArray) (k : Nat) (u v : UInt8) (h : k + 1 < s.size) (hk : k % 2 = 0) : ws (putted s k u v) + (256 * byteAt s k + byteAt s (k + 1)) = ws s + (256 * u.toNat + v.toNat) := by
  unfold ws; rw [putted_size]; exact (wsum_putted s k u v h hk s.size).2 (by omega)

set_option maxHeartbeats 400000 in
theorem put_any (s : ByteArray) (k : Nat) (n : Nat) (w : World) (hs : s.size ≤ 3000) (hk : k + 1 < s.size) (hn : n ≤ 65535) :
    Calls Try.prog 16 #[.string s, .int .i64 k, .int .u16 n] w fun e w' =>
      e = .returned (.tuple #[.string (putted s k (UInt8.ofNat (n / 256)) (UInt8.ofNat n)), .int .i64 (256 * byteAt s k + byteAt s (k + 1) : Nat)]) ∧ Below w.heap.size w w' := by
  have hnew := run_bytes_new s w
  have hlen := Lib.hid (size_list s)
  go_enter Try.func16, Try.ntmps16
  go_wp2_with fail
  clear hnew
  have HB := Lib.hid (BytesAt.new s w)
  have h0 := Lib.hid (((Below.refl w.heap.size w).alloc (Nat.le_refl _) (newRow1 w s)).drew)
  generalize (w.alloc (newRow1 w s)).drew = w2 at *
  generalize hB : w.heap.size = B at *
  have HBz := Lib.hid hB
  clear hB
  have hc0 := HB.out.1 k (by rw [hlen.out]; omega)
  have hc1 := HB.out.1 (k + 1) (by rw [hlen.out]; omega)
  have hf0 := HB.out.2 k (by rw [hlen.out]; omega)
  have hf1 := HB.out.2 (k + 1) (by rw [hlen.out]; omega)
  have hb0 := (s.data.toList[k]'(by rw [hlen.out]; omega)).toNat_lt
  have hb1 := (s.data.toList[k + 1]'(by rw [hlen.out]; omega)).toNat_lt
  have q0 : byteAt s k = (s.data.toList[k]'(by rw [hlen.out]; omega)).toNat := byteAt_get s k (by omega)
  have q1 : byteAt s (k + 1) = (s.data.toList[k + 1]'(by rw [hlen.out]; omega)).toNat := byteAt_get s (k + 1) (by omega)
  rw [← q0] at hc0 hb0
  rw [← q1] at hc1 hb1
  clear q0 q1
  generalize g0 : byteAt s k = v0 at *
  generalize g1 : byteAt s (k + 1) = v1 at *
  have G0 := Lib.hid g0
  have G1 := Lib.hid g1
  clear g0 g1
  have i1 : (0 : Int) ≤ (k : Int) := by omega
  have i2 : (k : Int) < (s.size : Int) := by omega
  have i3 : (k : Int) + 1 < (s.size : Int) := by omega
  have i4 : (0 : Int) ≤ (k : Int) + 1 := by omega
  have i5 : IntKind.i64.wrap ((k : Int) + 1) = (k : Int) + 1 := IntWalk.i64_in _ (by omega)
  have i6 : ((k : Int) + 1).toNat = k + 1 := by omega
  have i7 : IntKind.i64.wrap (v0 : Int) = (v0 : Int) := IntWalk.i64_in _ (by omega)
  have i8 : IntKind.i64.wrap (v1 : Int) = (v1 : Int) := IntWalk.i64_in _ (by omega)
  have i9 : IntKind.i64.wrap (256 * (v0 : Int)) = 256 * (v0 : Int) := IntWalk.i64_in _ (by omega)
  have i10 : IntKind.i64.wrap (256 * (v0 : Int) + (v1 : Int)) = 256 * (v0 : Int) + (v1 : Int) := IntWalk.i64_in _ (by omega)
  go_quiet (fail)
  have hu : ((UInt8.ofNat (n / 256)).toNat : Int) = (n : Int) / 256 := by simp; omega
  have hv : ((UInt8.ofNat n).toNat : Int) = (n : Int) % 256 := by simp
  have HB2 := ((HB.out.drewN nq).set k (UInt8.ofNat (n / 256)) (by rw [hlen.out]; omega)).set (k + 1) (UInt8.ofNat n) (by rw [List.length_set, hlen.out]; omega)
  rw [hu, hv] at HB2
  have hconv := HB2.back s.size (newCap w s) (by rw [List.length_set, List.length_set, hlen.out])
  clear i5 i7 i8 i9 i10 hu hv HB2
  go_wp2_with fail
  go_ret2
  rw [G0.out, G1.out, HBz.out]
  have hd : Below B w (w2.drewN nq) := h0.out.trans ⟨rfl, rfl, rfl, Nat.le_refl _, fun _ _ => rfl⟩
  exact ⟨rfl, (hd.setCell (p := ⟨B, k, none⟩) (Nat.le_refl _) _).setCell (p := ⟨B, k + 1, none⟩) (Nat.le_refl _) _⟩
end Go.Proofs.Ytjfmdfmfefjhnaa.Inet
