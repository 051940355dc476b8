/-
  No cell of these rows narrows 'for every input' (looked for: loops, veiled, ifaces, maps, wideKeys, modest, calm, conditions, laid).
  DERIVED. THE GIVEN ROWS OF THIS SEAT. 3 by the template 'for every input the law returns true; each argument reads behind the call as it read before'; 0 by the template 'total and deterministic' (their statements: YtdnddhnnpplgjaaTotals.lean).
  GIVEN WITH THE SEED: the statements are not yours to turn. If you find one false, say at which input.
  Laid BY PROGRAM, IN A SANDBOX (cutbox-rows.mjs): the forced cells as the released guide's own fill.sh prints them over the translation 04ceaca29938712c… (all of the seat's roots in one cut). By AI agents, Wed Nov 11 2026. No macro, syntax, notation, axiom, sorry.
-/
import Derived.Test.YtdnddhnnpplgjaaChecked
import GoSem.Claim
import GoSem.ClaimJoined
import GoSem.ClaimMapViews
import Derived.JoinedTies
import Derived.KernelRfl
namespace Go.Proofs.Ytdnddhnnpplgjaa
/- THE CELL 'sum', in the pinned program and in every row, IS THE sha256 OF THE DUMP (.gsa) THAT YtdnddhnnpplgjaaProg.lean LOADS. Nothing in Lean hashes anything: it is a label: what it is worth is what the hold of that sum in a sandbox is worth. -/
noncomputable def Try.pinned : Pinned := { name := "ytdnddhnnpplgjaa", sum := "04ceaca29938712ce798316ac48fc33a44fb1eb6c56f04e36d0166dd3df33135", checked := Try.checked }
namespace Rows
def none {H : Type} : Left H := { results := [], args := [] }

/-- 'anabranchlaw08.AvecCodes': WHATEVER THE INPUT: true; the input reads as it did. -/
def avecCodesSpec : ChangeSpec := { name := "avecCodes", fn := fun _ => fun
  | [d1, d2] => { results := [.lit (.bool true)], args := [d1, d2] }
  | _ => none }
def avecCodesRow : OpenClaim := { program := "ytdnddhnnpplgjaa", sum := "04ceaca29938712ce798316ac48fc33a44fb1eb6c56f04e36d0166dd3df33135", func := "anabranch/anabranchlaw08.AvecCodes", spec := "avecCodes", unfollowed := true, recurses := true, apart := false }
def AvecCodesSaid : Prop := avecCodesRow.holds Try.pinned (OpenSpec.ofChange avecCodesSpec)

/-- ITS FALSE NEIGHBOUR: 'it returns false'. Refute it at one input. -/
def avecCodesWrong : ChangeSpec := { name := "avecCodes", fn := fun _ => fun
  | [d1, d2] => { results := [.lit (.bool false)], args := [d1, d2] }
  | _ => none }
def AvecCodesWrongFalsely : Prop := avecCodesRow.holds Try.pinned (OpenSpec.ofChange avecCodesWrong)

/-- 'anabranchlaw08.AvecOf': WHATEVER THE INPUT: true; the input reads as it did. -/
def avecOfSpec : ChangeSpec := { name := "avecOf", fn := fun _ => fun
  | [d] => { results := [.lit (.bool true)], args := [d] }
  | _ => none }
def avecOfRow : OpenClaim := { program := "ytdnddhnnpplgjaa", sum := "04ceaca29938712ce798316ac48fc33a44fb1eb6c56f04e36d0166dd3df33135", func := "anabranch/anabranchlaw08.AvecOf", spec := "avecOf", unfollowed := true, recurses := true, apart := false }
def AvecOfSaid : Prop := avecOfRow.holds Try.pinned (OpenSpec.ofChange avecOfSpec)

/-- ITS FALSE NEIGHBOUR: 'it returns false'. Refute it at one input. -/
def avecOfWrong : ChangeSpec := { name := "avecOf", fn := fun _ => fun
  | [d] => { results := [.lit (.bool false)], args := [d] }
  | _ => none }
def AvecOfWrongFalsely : Prop := avecOfRow.holds Try.pinned (OpenSpec.ofChange avecOfWrong)

/-- 'anabranchlaw08.AvecEach': WHATEVER THE INPUT: true; the input reads as it did. -/
def avecEachSpec : ChangeSpec := { name := "avecEach", fn := fun _ => fun
  | [d1, d2, d3, d4] => { results := [.lit (.bool true)], args := [d1, d2, d3, d4] }
  | _ => none }
def avecEachRow : OpenClaim := { program := "ytdnddhnnpplgjaa", sum := "04ceaca29938712ce798316ac48fc33a44fb1eb6c56f04e36d0166dd3df33135", func := "anabranch/anabranchlaw08.AvecEach", spec := "avecEach", unfollowed := true, recurses := true, apart := false }
def AvecEachSaid : Prop := avecEachRow.holds Try.pinned (OpenSpec.ofChange avecEachSpec)

/-- ITS FALSE NEIGHBOUR: 'it returns false'. Refute it at one input. -/
def avecEachWrong : ChangeSpec := { name := "avecEach", fn := fun _ => fun
  | [d1, d2, d3, d4] => { results := [.lit (.bool false)], args := [d1, d2, d3, d4] }
  | _ => none }
def AvecEachWrongFalsely : Prop := avecEachRow.holds Try.pinned (OpenSpec.ofChange avecEachWrong)

/- THE SECOND FORM. 'bulk': how many values and letters a reading holds, each counted each time it is reached (what is shared counts as often as it is met; a slice's spare places count too). A statement '..UptoSaid' is the law's where the arguments, and the package variables that the reading takes, are together of bulk at most 1048576: NARROWER than '..Said'. Prove '..Said' where nothing that the law and all that it calls make is longer than what came in: it says more and counts as full. Else prove '..UptoSaid'. A law counts once. -/
mutual
def uptoBulk {H : Type} : DataW H → Nat
  | .lit (.string bytes) => bytes.length + 1
  | .lit _ => 1
  | .nil => 1
  | .ptr d => uptoBulk d + 1
  | .slice elems spare => uptoBulkAll elems + uptoBulkAll spare + 1
  | .agg parts => uptoBulkAll parts + 1
  | .iface _ d => uptoBulk d + 1
  | .map entries => uptoBulkEntries entries + 1
  | .held _ => 1
def uptoBulkAll {H : Type} : List (DataW H) → Nat
  | [] => 0
  | d :: r => uptoBulk d + uptoBulkAll r
def uptoBulkEntries {H : Type} : List (Lit × DataW H) → Nat
  | [] => 0
  | x :: r => uptoBulkEntry x + uptoBulkEntries r
def uptoBulkEntry {H : Type} : Lit × DataW H → Nat
  | (.string bytes, d) => bytes.length + uptoBulk d + 1
  | (_, d) => uptoBulk d + 1
 end
def uptoSmall : (H : Type) → List (DataW H) → Bool := fun _ ds => decide (uptoBulkAll ds ≤ 1048576)
def OpenSpec.upto (s : _root_.Go.ChangeSpec) : _root_.Go.OpenSpec := { _root_.Go.OpenSpec.ofChange s with cond := some uptoSmall }

/-- 'anabranchlaw08.AvecCodes', WHERE WHAT IT READS IS OF BULK AT MOST 1048576: true; the input reads as it did. -/
def avecCodesUptoRow : OpenClaim := { program := "ytdnddhnnpplgjaa", sum := "04ceaca29938712ce798316ac48fc33a44fb1eb6c56f04e36d0166dd3df33135", func := "anabranch/anabranchlaw08.AvecCodes", spec := "avecCodes", unfollowed := true, recurses := true, apart := false, narrowed := true }
def AvecCodesUptoSaid : Prop := avecCodesUptoRow.holds Try.pinned (OpenSpec.upto avecCodesSpec)

/-- 'anabranchlaw08.AvecOf', WHERE WHAT IT READS IS OF BULK AT MOST 1048576: true; the input reads as it did. -/
def avecOfUptoRow : OpenClaim := { program := "ytdnddhnnpplgjaa", sum := "04ceaca29938712ce798316ac48fc33a44fb1eb6c56f04e36d0166dd3df33135", func := "anabranch/anabranchlaw08.AvecOf", spec := "avecOf", unfollowed := true, recurses := true, apart := false, narrowed := true }
def AvecOfUptoSaid : Prop := avecOfUptoRow.holds Try.pinned (OpenSpec.upto avecOfSpec)

/-- 'anabranchlaw08.AvecEach', WHERE WHAT IT READS IS OF BULK AT MOST 1048576: true; the input reads as it did. -/
def avecEachUptoRow : OpenClaim := { program := "ytdnddhnnpplgjaa", sum := "04ceaca29938712ce798316ac48fc33a44fb1eb6c56f04e36d0166dd3df33135", func := "anabranch/anabranchlaw08.AvecEach", spec := "avecEach", unfollowed := true, recurses := true, apart := false, narrowed := true }
def AvecEachUptoSaid : Prop := avecEachUptoRow.holds Try.pinned (OpenSpec.upto avecEachSpec)

end Rows
end Go.Proofs.Ytdnddhnnpplgjaa
