/-
  No cell of these rows narrows 'for every input' (looked for: loops, veiled, ifaces, maps, wideKeys, modest, calm, conditions, laid).
  DERIVED. THE GIVEN ROWS OF THIS SEAT. 4 by the template 'for every input the law returns true; each argument reads behind the call as it read before'; 0 by the template 'total and deterministic' (their statements: YtgfpobahcmifeaaTotals.lean).
  GIVEN WITH THE SEED: the statements are not yours to turn. If you find one false, say at which input.
  Laid BY PROGRAM, IN A SANDBOX (cutbox-rows.mjs): the forced cells as the released guide's own fill.sh prints them over the translation f9eb57b24e2877b6… (all of the seat's roots in one cut). By AI agents, Wed Nov 11 2026. No macro, syntax, notation, axiom, sorry.
-/
import Derived.Test.YtgfpobahcmifeaaChecked
import GoSem.Claim
import GoSem.ClaimJoined
import GoSem.ClaimMapViews
import Derived.JoinedTies
import Derived.KernelRfl
namespace Go.Proofs.Ytgfpobahcmifeaa
/- THE CELL 'sum', in the pinned program and in every row, IS THE sha256 OF THE DUMP (.gsa) THAT YtgfpobahcmifeaaProg.lean LOADS. Nothing in Lean hashes anything: it is a label: what it is worth is what the hold of that sum in a sandbox is worth. -/
noncomputable def Try.pinned : Pinned := { name := "ytgfpobahcmifeaa", sum := "f9eb57b24e2877b6d99047bbf224aa1593ed33953704021773683fa3a66bdc33", checked := Try.checked }
namespace Rows
def none {H : Type} : Left H := { results := [], args := [] }

/-- 'anabranchlaw02.CircTells': WHATEVER THE INPUT: true; the input reads as it did. -/
def circTellsSpec : ChangeSpec := { name := "circTells", fn := fun _ => fun
  | [d1, d2, d3] => { results := [.lit (.bool true)], args := [d1, d2, d3] }
  | _ => none }
def circTellsRow : OpenClaim := { program := "ytgfpobahcmifeaa", sum := "f9eb57b24e2877b6d99047bbf224aa1593ed33953704021773683fa3a66bdc33", func := "anabranch/anabranchlaw02.CircTells", spec := "circTells", apart := false }
def CircTellsSaid : Prop := circTellsRow.holds Try.pinned (OpenSpec.ofChange circTellsSpec)

/-- ITS FALSE NEIGHBOUR: 'it returns false'. Refute it at one input. -/
def circTellsWrong : ChangeSpec := { name := "circTells", fn := fun _ => fun
  | [d1, d2, d3] => { results := [.lit (.bool false)], args := [d1, d2, d3] }
  | _ => none }
def CircTellsWrongFalsely : Prop := circTellsRow.holds Try.pinned (OpenSpec.ofChange circTellsWrong)

/-- 'anabranchlaw02.CircOrder': WHATEVER THE INPUT: true; the input reads as it did. -/
def circOrderSpec : ChangeSpec := { name := "circOrder", fn := fun _ => fun
  | [d1, d2, d3] => { results := [.lit (.bool true)], args := [d1, d2, d3] }
  | _ => none }
def circOrderRow : OpenClaim := { program := "ytgfpobahcmifeaa", sum := "f9eb57b24e2877b6d99047bbf224aa1593ed33953704021773683fa3a66bdc33", func := "anabranch/anabranchlaw02.CircOrder", spec := "circOrder", apart := false }
def CircOrderSaid : Prop := circOrderRow.holds Try.pinned (OpenSpec.ofChange circOrderSpec)

/-- ITS FALSE NEIGHBOUR: 'it returns false'. Refute it at one input. -/
def circOrderWrong : ChangeSpec := { name := "circOrder", fn := fun _ => fun
  | [d1, d2, d3] => { results := [.lit (.bool false)], args := [d1, d2, d3] }
  | _ => none }
def CircOrderWrongFalsely : Prop := circOrderRow.holds Try.pinned (OpenSpec.ofChange circOrderWrong)

/-- 'anabranchlaw02.CircWithin': WHATEVER THE INPUT: true; the input reads as it did. -/
def circWithinSpec : ChangeSpec := { name := "circWithin", fn := fun _ => fun
  | [d1, d2, d3] => { results := [.lit (.bool true)], args := [d1, d2, d3] }
  | _ => none }
def circWithinRow : OpenClaim := { program := "ytgfpobahcmifeaa", sum := "f9eb57b24e2877b6d99047bbf224aa1593ed33953704021773683fa3a66bdc33", func := "anabranch/anabranchlaw02.CircWithin", spec := "circWithin", apart := false }
def CircWithinSaid : Prop := circWithinRow.holds Try.pinned (OpenSpec.ofChange circWithinSpec)

/-- ITS FALSE NEIGHBOUR: 'it returns false'. Refute it at one input. -/
def circWithinWrong : ChangeSpec := { name := "circWithin", fn := fun _ => fun
  | [d1, d2, d3] => { results := [.lit (.bool false)], args := [d1, d2, d3] }
  | _ => none }
def CircWithinWrongFalsely : Prop := circWithinRow.holds Try.pinned (OpenSpec.ofChange circWithinWrong)

/-- 'anabranchlaw02.CircSteps': WHATEVER THE INPUT: true; the input reads as it did. -/
def circStepsSpec : ChangeSpec := { name := "circSteps", fn := fun _ => fun
  | [d1, d2, d3] => { results := [.lit (.bool true)], args := [d1, d2, d3] }
  | _ => none }
def circStepsRow : OpenClaim := { program := "ytgfpobahcmifeaa", sum := "f9eb57b24e2877b6d99047bbf224aa1593ed33953704021773683fa3a66bdc33", func := "anabranch/anabranchlaw02.CircSteps", spec := "circSteps", apart := false }
def CircStepsSaid : Prop := circStepsRow.holds Try.pinned (OpenSpec.ofChange circStepsSpec)

/-- ITS FALSE NEIGHBOUR: 'it returns false'. Refute it at one input. -/
def circStepsWrong : ChangeSpec := { name := "circSteps", fn := fun _ => fun
  | [d1, d2, d3] => { results := [.lit (.bool false)], args := [d1, d2, d3] }
  | _ => none }
def CircStepsWrongFalsely : Prop := circStepsRow.holds Try.pinned (OpenSpec.ofChange circStepsWrong)

/- THE SECOND FORM. 'bulk': how many values and letters a reading holds, each counted each time it is reached (what is shared counts as often as it is met; a slice's spare places count too). A statement '..UptoSaid' is the law's where the arguments, and the package variables that the reading takes, are together of bulk at most 1048576: NARROWER than '..Said'. Prove '..Said' where nothing that the law and all that it calls make is longer than what came in: it says more and counts as full. Else prove '..UptoSaid'. A law counts once. -/
mutual
def uptoBulk {H : Type} : DataW H → Nat
  | .lit (.string bytes) => bytes.length + 1
  | .lit _ => 1
  | .nil => 1
  | .ptr d => uptoBulk d + 1
  | .slice elems spare => uptoBulkAll elems + uptoBulkAll spare + 1
  | .agg parts => uptoBulkAll parts + 1
  | .iface _ d => uptoBulk d + 1
  | .map entries => uptoBulkEntries entries + 1
  | .held _ => 1
def uptoBulkAll {H : Type} : List (DataW H) → Nat
  | [] => 0
  | d :: r => uptoBulk d + uptoBulkAll r
def uptoBulkEntries {H : Type} : List (Lit × DataW H) → Nat
  | [] => 0
  | x :: r => uptoBulkEntry x + uptoBulkEntries r
def uptoBulkEntry {H : Type} : Lit × DataW H → Nat
  | (.string bytes, d) => bytes.length + uptoBulk d + 1
  | (_, d) => uptoBulk d + 1
 end
def uptoSmall : (H : Type) → List (DataW H) → Bool := fun _ ds => decide (uptoBulkAll ds ≤ 1048576)
def OpenSpec.upto (s : _root_.Go.ChangeSpec) : _root_.Go.OpenSpec := { _root_.Go.OpenSpec.ofChange s with cond := some uptoSmall }

/-- 'anabranchlaw02.CircTells', WHERE WHAT IT READS IS OF BULK AT MOST 1048576: true; the input reads as it did. -/
def circTellsUptoRow : OpenClaim := { program := "ytgfpobahcmifeaa", sum := "f9eb57b24e2877b6d99047bbf224aa1593ed33953704021773683fa3a66bdc33", func := "anabranch/anabranchlaw02.CircTells", spec := "circTells", apart := false, narrowed := true }
def CircTellsUptoSaid : Prop := circTellsUptoRow.holds Try.pinned (OpenSpec.upto circTellsSpec)

/-- 'anabranchlaw02.CircOrder', WHERE WHAT IT READS IS OF BULK AT MOST 1048576: true; the input reads as it did. -/
def circOrderUptoRow : OpenClaim := { program := "ytgfpobahcmifeaa", sum := "f9eb57b24e2877b6d99047bbf224aa1593ed33953704021773683fa3a66bdc33", func := "anabranch/anabranchlaw02.CircOrder", spec := "circOrder", apart := false, narrowed := true }
def CircOrderUptoSaid : Prop := circOrderUptoRow.holds Try.pinned (OpenSpec.upto circOrderSpec)

/-- 'anabranchlaw02.CircWithin', WHERE WHAT IT READS IS OF BULK AT MOST 1048576: true; the input reads as it did. -/
def circWithinUptoRow : OpenClaim := { program := "ytgfpobahcmifeaa", sum := "f9eb57b24e2877b6d99047bbf224aa1593ed33953704021773683fa3a66bdc33", func := "anabranch/anabranchlaw02.CircWithin", spec := "circWithin", apart := false, narrowed := true }
def CircWithinUptoSaid : Prop := circWithinUptoRow.holds Try.pinned (OpenSpec.upto circWithinSpec)

/-- 'anabranchlaw02.CircSteps', WHERE WHAT IT READS IS OF BULK AT MOST 1048576: true; the input reads as it did. -/
def circStepsUptoRow : OpenClaim := { program := "ytgfpobahcmifeaa", sum := "f9eb57b24e2877b6d99047bbf224aa1593ed33953704021773683fa3a66bdc33", func := "anabranch/anabranchlaw02.CircSteps", spec := "circSteps", apart := false, narrowed := true }
def CircStepsUptoSaid : Prop := circStepsUptoRow.holds Try.pinned (OpenSpec.upto circStepsSpec)

end Rows
end Go.Proofs.Ytgfpobahcmifeaa
