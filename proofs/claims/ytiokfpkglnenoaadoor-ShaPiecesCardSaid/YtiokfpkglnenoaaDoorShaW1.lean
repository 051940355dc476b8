/- Does it work at all: the contract of the law's own question. -/
import Derived.Test.YtiokfpkglnenoaaDoorSha6
import Derived.Test.YtiokfpkglnenoaaDoorShaW0
namespace Go.Proofs.YtiokfpkglnenoaaDoor.Sha
open Go.ChangeShapes Go.WideShapes Go.ChangeAt Go.RowKit
set_option linter.unusedVariables false

def abcSum : ByteArray := ⟨#[0xba, 0x78, 0x16, 0xbf, 0x8f, 0x01, 0xcf, 0xea, 0x41, 0x41, 0x40, 0xde, 0x5d, 0xae, 0x22, 0x23, 0xb0, 0x03, 0x61, 0xa3, 0x96, 0x17, 0x7a, 0x9c, 0xb4, 0x10, 0xff, 0x61, 0xf2, 0x00, 0x15, 0xad]⟩
theorem abc_any (w : World) (hT : Tabs w) :
    Calls Tryd.prog 7 #[.string ⟨#[97, 98, 99]⟩] w fun e w' => e = .returned (.string abcSum) ∧ Below w.heap.size w w' := by
  have h := of_any ⟨#[97, 98, 99]⟩ w hT (by decide)
  have e : ByteArray.mk (sum (ByteArray.mk #[97, 98, 99]).data.toList).toArray = abcSum := by
    rw [show (ByteArray.mk #[97, 98, 99]).data.toList = [97, 98, 99] from rfl, sum_abc]; rfl
  rwa [e] at h
theorem abc_head : abcSum.extract 0 4 = ⟨#[186, 120, 22, 191]⟩ := by decide +kernel
theorem abc_rest : abcSum.extract 28 32 = ⟨#[242, 0, 21, 173]⟩ := by decide +kernel

theorem works_any (w : World) (hT : Tabs w) :
    Calls Tryd.prog 6 #[] w fun e w' => e = .returned (.bool true) ∧ Below w.heap.size w w' := by
  go_enter Tryd.func6, Tryd.ntmps6
  go_wp2_with fail
  refine (abc_any _ hT).mono ?_
  rintro e w1 ⟨rfl, h1⟩
  have hz : abcSum.size = 32 := rfl
  have ha := abc_head
  have hr := abc_rest
  generalize abcSum = z at *
  go_wp2_with fail
  go_ret
  exact ⟨rfl, h1⟩
end Go.Proofs.YtiokfpkglnenoaaDoor.Sha
