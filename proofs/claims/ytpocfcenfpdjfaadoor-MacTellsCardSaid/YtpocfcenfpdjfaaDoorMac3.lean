/- The number by which a key is named, and numbers that it gives: the contracts of the program's. -/
import Derived.Test.YtpocfcenfpdjfaaDoorMac2
import Derived.Test.YtpocfcenfpdjfaaDoorOfInt
namespace Go.Proofs.YtpocfcenfpdjfaaDoor.Mac
open Go.ChangeShapes Go.WideShapes Go.ChangeAt Go.RowKit
open Go.Proofs.YtpocfcenfpdjfaaDoor.Sha Go.Proofs.YtpocfcenfpdjfaaDoor.StrArg
set_option linter.unusedVariables false

/-- a slice of one text that was just made -/
theorem strsAt_one (w : World) (x : ByteArray) (t : TypeId) : StrsAt (w.alloc (.cells #[.string x] t)) (some ⟨w.heap.size, 0, none⟩) 1 (fun _ => x) :=
  .inr ⟨w.heap.size, 0, rfl, by simp, fun i hi => by
    obtain rfl : i = 0 := by omega
    rw [World.cell?_alloc_mark]; rfl⟩
theorem joined_one (x : ByteArray) : joined (fun _ => x) 1 = x.data.toList := by simp [joined]

theorem same_any (a b : ByteArray) (w : World) : Calls Tryd.prog 9 #[.string a, .string b] w fun e w' => e = .returned (.bool (a.toList == b.toList)) ∧ w' = w := by
  go_enter Tryd.func9, Tryd.ntmps9
  go_wp2_with fail
  go_ret
  exact ⟨rfl, rfl⟩

/-- the number that names a key -/
def token (k : List UInt8) : Int := wrap64 (Oct.whole ((ByteArray.mk (sum k).toArray).extract 0 4))
theorem token_any (k : ByteArray) (w : World) (hT : Tabs w) (hk : k.size ≤ 30000) :
    Calls Tryd.prog 10 #[.string k] w fun e w' => e = .returned (.int .i64 (token k.data.toList)) ∧ Below w.heap.size w w' := by
  have hz := size_mk (sum k.data.toList)
  rw [sum_length] at hz
  have HE := Lib.hid (show token k.data.toList = wrap64 (Oct.whole ((ByteArray.mk (sum k.data.toList).toArray).extract 0 4)) from rfl)
  go_enter Tryd.func10, Tryd.ntmps10
  go_wp2_with fail
  refine (of_any k w hT hk).mono ?_
  rintro e w1 ⟨rfl, hb⟩
  generalize ByteArray.mk (sum k.data.toList).toArray = z at *
  go_wp2_with fail
  have hx : (z.extract 0 4).size ≤ 100000 := by simp; omega
  refine (Oct.ofInt_any _ _ hx).mono ?_
  rintro e w2 ⟨rfl, h2⟩
  have hb := hb.trans (h2.mono hb.size)
  go_wp2_with fail
  go_ret
  exact ⟨by rw [HE.out]; rfl, hb⟩

def held7 (n : Int) : Nat := (min (max n 1) 7).toNat
/-- a number that a key and a place give -/
def draw (k : List UInt8) (place size : Int) : Int := wrap64 (Oct.whole ((ByteArray.mk (mac k (Oct.be (Oct.nat64 place) 8)).toArray).extract 0 (held7 size)))
theorem held7_le (n : Int) : 1 ≤ held7 n ∧ held7 n ≤ 7 := by unfold held7; omega

set_option maxHeartbeats 400000 in
theorem draw_any (k : ByteArray) (place size : Int) (w : World) (hT : Tabs w) (hk : k.size ≤ 30000) :
    Calls Tryd.prog 12 #[.string k, .int .i64 place, .int .i64 size] w fun e w' => e = .returned (.int .i64 (draw k.data.toList place size)) ∧ Below w.heap.size w w' := by
  have h8 : Oct.held 8 = 8 := by rw [Oct.held_mid] <;> omega
  have hl7 := held7_le size
  have HE := Lib.hid (show draw k.data.toList place size = wrap64 (Oct.whole ((ByteArray.mk (mac k.data.toList (Oct.be (Oct.nat64 place) 8)).toArray).extract 0 (held7 size))) from rfl)
  have Hh := Lib.hid (show held7 size = (min (max size 1) 7).toNat from rfl)
  generalize held7 size = h at *
  go_enter Tryd.func12, Tryd.ntmps12
  go_wp2_with fail
  refine (Oct.putInt_any _ _ _ _ (by decide)).mono ?_
  rintro e w1 ⟨rfl, hb⟩
  have hT := hT.below hb hT.size
  have hx : ByteArray.mk #[] ++ ByteArray.mk (Oct.be (Oct.nat64 place) (Oct.held 8)).toArray = ByteArray.mk (Oct.be (Oct.nat64 place) 8).toArray := by rw [h8]; exact Oct.bs_append [] _
  rw [hx]
  have hxl := list_mk (Oct.be (Oct.nat64 place) 8)
  have hxs := size_mk (Oct.be (Oct.nat64 place) 8)
  rw [Oct.be_length] at hxs
  rw [← hxl] at HE
  clear hx hxl h8
  generalize ByteArray.mk (Oct.be (Oct.nat64 place) 8).toArray = X at *
  rw [← joined_one X] at HE
  go_wp2_with fail
  have h1 := (Below.refl w1.heap.size w1).alloc (Nat.le_refl _) (.cells #[.string X] 9)
  have hat := strsAt_one w1 X 9
  have hT := hT.below h1 hT.size
  have hb := hb.trans (h1.mono hb.size)
  generalize w1.alloc (.cells #[.string X] 9) = w2 at *
  clear h1
  refine (macOf_any k (some ⟨w1.heap.size, 0, none⟩) 1 1 (fun _ => X) w2 hT hat (by decide) hk (by rw [joined_one, Oct.size_list]; omega)).mono ?_
  rintro e w3 ⟨rfl, h3⟩
  have hb := hb.trans (h3.mono hb.size)
  have hz := size_mk (mac k.data.toList (joined (fun _ => X) 1))
  rw [mac_length] at hz
  generalize ByteArray.mk (mac k.data.toList (joined (fun _ => X) 1)).toArray = z at *
  clear h3 hat hT
  go_wp2_with fail
  rw [← Hh.out]
  have hx : (z.extract 0 h).size ≤ 100000 := by simp; omega
  refine (Oct.ofInt_any _ _ hx).mono ?_
  rintro e w4 ⟨rfl, h4⟩
  have hb := hb.trans (h4.mono hb.size)
  rw [← HE.out]
  clear h4
  go_wp2_with fail
  go_ret
  exact ⟨rfl, hb⟩
end Go.Proofs.YtpocfcenfpdjfaaDoor.Mac
