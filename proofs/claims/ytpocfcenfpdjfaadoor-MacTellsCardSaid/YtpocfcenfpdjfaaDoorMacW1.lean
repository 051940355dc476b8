/- Does it work at all: the contract of the laws' own question. -/
import Derived.Test.YtpocfcenfpdjfaaDoorMac3
import Derived.Test.YtpocfcenfpdjfaaDoorMacW0
namespace Go.Proofs.YtpocfcenfpdjfaaDoor.Mac
open Go.ChangeShapes Go.WideShapes Go.ChangeAt Go.RowKit
open Go.Proofs.YtpocfcenfpdjfaaDoor.Sha Go.Proofs.YtpocfcenfpdjfaaDoor.StrArg
set_option linter.unusedVariables false

def jefe : ByteArray := ⟨#[0x5b, 0xdc, 0xc1, 0x46, 0xbf, 0x60, 0x75, 0x4e, 0x6a, 0x04, 0x24, 0x26, 0x08, 0x95, 0x75, 0xc7, 0x5a, 0x00, 0x3f, 0x08, 0x9d, 0x27, 0x39, 0x83, 0x9d, 0xec, 0x58, 0xb9, 0x64, 0xec, 0x38, 0x43]⟩
def jefeKey : ByteArray := ⟨#[74, 101, 102, 101]⟩
def jefeA : ByteArray := ⟨#[119, 104, 97, 116, 32, 100, 111, 32, 121, 97, 32, 119, 97, 110, 116, 32]⟩
def jefeB : ByteArray := ⟨#[102, 111, 114, 32, 110, 111, 116, 104, 105, 110, 103, 63]⟩
def jefeF (k : Nat) : ByteArray := if k = 0 then jefeA else jefeB
theorem jefe_joined : joined jefeF 2 = [119, 104, 97, 116, 32, 100, 111, 32, 121, 97, 32, 119, 97, 110, 116, 32, 102, 111, 114, 32, 110, 111, 116, 104, 105, 110, 103, 63] := by decide +kernel
theorem jefe_sum : ByteArray.mk (mac jefeKey.data.toList (joined jefeF 2)).toArray = jefe := by
  rw [jefe_joined, show jefeKey.data.toList = [74, 101, 102, 101] from rfl, mac_jefe]; rfl
theorem jefe_head : jefe.extract 0 4 = ⟨#[91, 220, 193, 70]⟩ := by decide +kernel
theorem strsAt_two (w : World) (x y : ByteArray) (t : TypeId) (f : Nat → ByteArray) (h0 : f 0 = x) (h1 : f 1 = y) : StrsAt (w.alloc (.cells #[.string x, .string y] t)) (some ⟨w.heap.size, 0, none⟩) 2 f :=
  .inr ⟨w.heap.size, 0, rfl, by simp, fun i hi => by
    rw [World.cell?_alloc_mark]
    match i, hi with
    | 0, _ => rw [h0]; rfl
    | 1, _ => rw [h1]; rfl⟩

theorem jefe_any (w : World) (hT : Tabs w) :
    Calls Tryd.prog 7 #[.string ⟨#[74, 101, 102, 101]⟩, .slice (some ⟨w.heap.size, 0, none⟩) 2 2]
      (w.alloc (.cells #[.string ⟨#[119, 104, 97, 116, 32, 100, 111, 32, 121, 97, 32, 119, 97, 110, 116, 32]⟩, .string ⟨#[102, 111, 114, 32, 110, 111, 116, 104, 105, 110, 103, 63]⟩] 9))
      fun e w' => e = .returned (.string jefe) ∧ Below w.heap.size w w' := by
  have h1 := (Below.refl w.heap.size w).alloc (Nat.le_refl _) (.cells #[.string jefeA, .string jefeB] 9)
  refine (macOf_any jefeKey (some ⟨w.heap.size, 0, none⟩) 2 2 jefeF (w.alloc (.cells #[.string jefeA, .string jefeB] 9)) (hT.below h1 hT.size)
    (strsAt_two w jefeA jefeB 9 jefeF rfl rfl) (by omega) (by decide) (by rw [jefe_joined]; decide)).mono ?_
  rintro e w' ⟨rfl, hb⟩
  exact ⟨by rw [jefe_sum], h1.trans (hb.mono h1.size)⟩

theorem same_is (a b : ByteArray) (r : Bool) (h : (a.toList == b.toList) = r) (w : World) : Calls Tryd.prog 9 #[.string a, .string b] w fun e w' => e = .returned (.bool r) ∧ w' = w := by
  subst h; exact same_any a b w

theorem works_any (w : World) (hT : Tabs w) :
    Calls Tryd.prog 6 #[] w fun e w' => e = .returned (.bool true) ∧ Below w.heap.size w w' := by
  go_enter Tryd.func6, Tryd.ntmps6
  go_wp2_with fail
  refine (jefe_any w hT).mono ?_
  rintro e w1 ⟨rfl, hb⟩
  have hz : jefe.size = 32 := rfl
  have hh := jefe_head
  generalize jefe = z at *
  go_wp2_with fail
  refine (same_is _ _ true (by decide +kernel) w1).mono ?_
  rintro e w1 ⟨rfl, rfl⟩
  go_wp2_with fail
  refine (same_is _ _ false (by decide +kernel) w1).mono ?_
  rintro e w1 ⟨rfl, rfl⟩
  go_wp2_with fail
  go_ret
  exact ⟨rfl, hb⟩
end Go.Proofs.YtpocfcenfpdjfaaDoor.Mac
