/-
  No cell of these rows narrows 'for every input' (looked for: loops, veiled, ifaces, maps, wideKeys, modest, calm, conditions, laid).
  DERIVED. THE GIVEN ROWS OF THIS SEAT. 3 by the template 'for every input the law returns true; each argument reads behind the call as it read before'; 0 by the template 'total and deterministic' (their statements: YtjfmdfmfefjhnaaTotals.lean).
  GIVEN WITH THE SEED: the statements are not yours to turn. If you find one false, say at which input.
  Laid BY PROGRAM, IN A SANDBOX (cutbox-rows.mjs): the forced cells as the released guide's own fill.sh prints them over the translation 509b919ade7ee106… (all of the seat's roots in one cut). By AI agents, Wed Nov 11 2026. No macro, syntax, notation, axiom, sorry.
-/
import Derived.Test.YtjfmdfmfefjhnaaChecked
import GoSem.Claim
import GoSem.ClaimJoined
import GoSem.ClaimMapViews
import Derived.JoinedTies
import Derived.KernelRfl
namespace Go.Proofs.Ytjfmdfmfefjhnaa
/- THE CELL 'sum', in the pinned program and in every row, IS THE sha256 OF THE DUMP (.gsa) THAT YtjfmdfmfefjhnaaProg.lean LOADS. Nothing in Lean hashes anything: it is a label: what it is worth is what the hold of that sum in a sandbox is worth. -/
noncomputable def Try.pinned : Pinned := { name := "ytjfmdfmfefjhnaa", sum := "509b919ade7ee106327abdecc5fc1953feefa6bba562cbd2972b3e1db02cfb29", checked := Try.checked }
namespace Rows
def none {H : Type} : Left H := { results := [], args := [] }

/-- 'anabranchlaw04.InetTells': WHATEVER THE INPUT: true; the input reads as it did. -/
def inetTellsSpec : ChangeSpec := { name := "inetTells", fn := fun _ => fun
  | [d1, d2, d3, d4] => { results := [.lit (.bool true)], args := [d1, d2, d3, d4] }
  | _ => none }
def inetTellsRow : OpenClaim := { program := "ytjfmdfmfefjhnaa", sum := "509b919ade7ee106327abdecc5fc1953feefa6bba562cbd2972b3e1db02cfb29", func := "anabranch/anabranchlaw04.InetTells", spec := "inetTells", apart := false }
def InetTellsSaid : Prop := inetTellsRow.holds Try.pinned (OpenSpec.ofChange inetTellsSpec)

/-- ITS FALSE NEIGHBOUR: 'it returns false'. Refute it at one input. -/
def inetTellsWrong : ChangeSpec := { name := "inetTells", fn := fun _ => fun
  | [d1, d2, d3, d4] => { results := [.lit (.bool false)], args := [d1, d2, d3, d4] }
  | _ => none }
def InetTellsWrongFalsely : Prop := inetTellsRow.holds Try.pinned (OpenSpec.ofChange inetTellsWrong)

/-- 'anabranchlaw04.InetPatched': WHATEVER THE INPUT: true; the input reads as it did. -/
def inetPatchedSpec : ChangeSpec := { name := "inetPatched", fn := fun _ => fun
  | [d1, d2, d3] => { results := [.lit (.bool true)], args := [d1, d2, d3] }
  | _ => none }
def inetPatchedRow : OpenClaim := { program := "ytjfmdfmfefjhnaa", sum := "509b919ade7ee106327abdecc5fc1953feefa6bba562cbd2972b3e1db02cfb29", func := "anabranch/anabranchlaw04.InetPatched", spec := "inetPatched", apart := false }
def InetPatchedSaid : Prop := inetPatchedRow.holds Try.pinned (OpenSpec.ofChange inetPatchedSpec)

/-- ITS FALSE NEIGHBOUR: 'it returns false'. Refute it at one input. -/
def inetPatchedWrong : ChangeSpec := { name := "inetPatched", fn := fun _ => fun
  | [d1, d2, d3] => { results := [.lit (.bool false)], args := [d1, d2, d3] }
  | _ => none }
def InetPatchedWrongFalsely : Prop := inetPatchedRow.holds Try.pinned (OpenSpec.ofChange inetPatchedWrong)

/-- 'anabranchlaw04.InetOrder': WHATEVER THE INPUT: true; the input reads as it did. -/
def inetOrderSpec : ChangeSpec := { name := "inetOrder", fn := fun _ => fun
  | [d1, d2, d3] => { results := [.lit (.bool true)], args := [d1, d2, d3] }
  | _ => none }
def inetOrderRow : OpenClaim := { program := "ytjfmdfmfefjhnaa", sum := "509b919ade7ee106327abdecc5fc1953feefa6bba562cbd2972b3e1db02cfb29", func := "anabranch/anabranchlaw04.InetOrder", spec := "inetOrder", apart := false }
def InetOrderSaid : Prop := inetOrderRow.holds Try.pinned (OpenSpec.ofChange inetOrderSpec)

/-- ITS FALSE NEIGHBOUR: 'it returns false'. Refute it at one input. -/
def inetOrderWrong : ChangeSpec := { name := "inetOrder", fn := fun _ => fun
  | [d1, d2, d3] => { results := [.lit (.bool false)], args := [d1, d2, d3] }
  | _ => none }
def InetOrderWrongFalsely : Prop := inetOrderRow.holds Try.pinned (OpenSpec.ofChange inetOrderWrong)

/- THE SECOND FORM. 'bulk': how many values and letters a reading holds, each counted each time it is reached (what is shared counts as often as it is met; a slice's spare places count too). A statement '..UptoSaid' is the law's where the arguments, and the package variables that the reading takes, are together of bulk at most 1048576: NARROWER than '..Said'. Prove '..Said' where nothing that the law and all that it calls make is longer than what came in: it says more and counts as full. Else prove '..UptoSaid'. A law counts once. -/
mutual
def uptoBulk {H : Type} : DataW H → Nat
  | .lit (.string bytes) => bytes.length + 1
  | .lit _ => 1
  | .nil => 1
  | .ptr d => uptoBulk d + 1
  | .slice elems spare => uptoBulkAll elems + uptoBulkAll spare + 1
  | .agg parts => uptoBulkAll parts + 1
  | .iface _ d => uptoBulk d + 1
  | .map entries => uptoBulkEntries entries + 1
  | .held _ => 1
def uptoBulkAll {H : Type} : List (DataW H) → Nat
  | [] => 0
  | d :: r => uptoBulk d + uptoBulkAll r
def uptoBulkEntries {H : Type} : List (Lit × DataW H) → Nat
  | [] => 0
  | x :: r => uptoBulkEntry x + uptoBulkEntries r
def uptoBulkEntry {H : Type} : Lit × DataW H → Nat
  | (.string bytes, d) => bytes.length + uptoBulk d + 1
  | (_, d) => uptoBulk d + 1
 end
def uptoSmall : (H : Type) → List (DataW H) → Bool := fun _ ds => decide (uptoBulkAll ds ≤ 1048576)
def OpenSpec.upto (s : _root_.Go.ChangeSpec) : _root_.Go.OpenSpec := { _root_.Go.OpenSpec.ofChange s with cond := some uptoSmall }

/-- 'anabranchlaw04.InetTells', WHERE WHAT IT READS IS OF BULK AT MOST 1048576: true; the input reads as it did. -/
def inetTellsUptoRow : OpenClaim := { program := "ytjfmdfmfefjhnaa", sum := "509b919ade7ee106327abdecc5fc1953feefa6bba562cbd2972b3e1db02cfb29", func := "anabranch/anabranchlaw04.InetTells", spec := "inetTells", apart := false, narrowed := true }
def InetTellsUptoSaid : Prop := inetTellsUptoRow.holds Try.pinned (OpenSpec.upto inetTellsSpec)

/-- 'anabranchlaw04.InetPatched', WHERE WHAT IT READS IS OF BULK AT MOST 1048576: true; the input reads as it did. -/
def inetPatchedUptoRow : OpenClaim := { program := "ytjfmdfmfefjhnaa", sum := "509b919ade7ee106327abdecc5fc1953feefa6bba562cbd2972b3e1db02cfb29", func := "anabranch/anabranchlaw04.InetPatched", spec := "inetPatched", apart := false, narrowed := true }
def InetPatchedUptoSaid : Prop := inetPatchedUptoRow.holds Try.pinned (OpenSpec.upto inetPatchedSpec)

/-- 'anabranchlaw04.InetOrder', WHERE WHAT IT READS IS OF BULK AT MOST 1048576: true; the input reads as it did. -/
def inetOrderUptoRow : OpenClaim := { program := "ytjfmdfmfefjhnaa", sum := "509b919ade7ee106327abdecc5fc1953feefa6bba562cbd2972b3e1db02cfb29", func := "anabranch/anabranchlaw04.InetOrder", spec := "inetOrder", apart := false, narrowed := true }
def InetOrderUptoSaid : Prop := inetOrderUptoRow.holds Try.pinned (OpenSpec.upto inetOrderSpec)

end Rows
end Go.Proofs.Ytjfmdfmfefjhnaa
