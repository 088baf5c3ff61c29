/-
  No cell of these rows narrows 'for every input' (looked for: loops, veiled, ifaces, maps, wideKeys, modest, calm, conditions, laid).
  DERIVED. THE GIVEN ROWS OF THIS SEAT. 7 by the template 'for every input the law returns true; each argument reads behind the call as it read before'; 0 by the template 'total and deterministic' (their statements: YtagaiamjmdjenaaTotals.lean).
  GIVEN WITH THE SEED: the statements are not yours to turn. If you find one false, say at which input.
  Laid BY PROGRAM, IN A SANDBOX (cutbox-rows.mjs): the forced cells as the released guide's own fill.sh prints them over the translation daa8933312c9c208… (all of the seat's roots in one cut). By AI agents, Wed Nov 11 2026. No macro, syntax, notation, axiom, sorry.
-/
import Derived.Test.YtagaiamjmdjenaaChecked
import GoSem.Claim
import GoSem.ClaimJoined
import GoSem.ClaimMapViews
import Derived.JoinedTies
import Derived.KernelRfl
namespace Go.Proofs.Ytagaiamjmdjenaa
/- THE CELL 'sum', in the pinned program and in every row, IS THE sha256 OF THE DUMP (.gsa) THAT YtagaiamjmdjenaaProg.lean LOADS. Nothing in Lean hashes anything: it is a label: what it is worth is what the hold of that sum in a sandbox is worth. -/
noncomputable def Try.pinned : Pinned := { name := "ytagaiamjmdjenaa", sum := "daa8933312c9c208579ae265dc4cfe58bd5e04738164618b62f768b6819a629e", checked := Try.checked }
namespace Rows
def none {H : Type} : Left H := { results := [], args := [] }

/-- 'narcissuslaw03.RunSteps': WHATEVER THE INPUT: true; the input reads as it did. -/
def runStepsSpec : ChangeSpec := { name := "runSteps", fn := fun _ => fun
  | [d1, d2, d3] => { results := [.lit (.bool true)], args := [d1, d2, d3] }
  | _ => none }
def runStepsRow : OpenClaim := { program := "ytagaiamjmdjenaa", sum := "daa8933312c9c208579ae265dc4cfe58bd5e04738164618b62f768b6819a629e", func := "narcissus/narcissuslaw03.RunSteps", spec := "runSteps", inPlace := ["internal/abi.NoEscape", "internal/bytealg.MakeNoZero"], unfollowed := true, recurses := true, apart := false }
def RunStepsSaid : Prop := runStepsRow.holds Try.pinned (OpenSpec.ofChange runStepsSpec)

/-- ITS FALSE NEIGHBOUR: 'it returns false'. Refute it at one input. -/
def runStepsWrong : ChangeSpec := { name := "runSteps", fn := fun _ => fun
  | [d1, d2, d3] => { results := [.lit (.bool false)], args := [d1, d2, d3] }
  | _ => none }
def RunStepsWrongFalsely : Prop := runStepsRow.holds Try.pinned (OpenSpec.ofChange runStepsWrong)

/-- 'narcissuslaw03.RunRuns': WHATEVER THE INPUT: true; the input reads as it did. -/
def runRunsSpec : ChangeSpec := { name := "runRuns", fn := fun _ => fun
  | [d1, d2, d3] => { results := [.lit (.bool true)], args := [d1, d2, d3] }
  | _ => none }
def runRunsRow : OpenClaim := { program := "ytagaiamjmdjenaa", sum := "daa8933312c9c208579ae265dc4cfe58bd5e04738164618b62f768b6819a629e", func := "narcissus/narcissuslaw03.RunRuns", spec := "runRuns", inPlace := ["internal/abi.NoEscape", "internal/bytealg.MakeNoZero"], unfollowed := true, recurses := true, apart := false }
def RunRunsSaid : Prop := runRunsRow.holds Try.pinned (OpenSpec.ofChange runRunsSpec)

/-- ITS FALSE NEIGHBOUR: 'it returns false'. Refute it at one input. -/
def runRunsWrong : ChangeSpec := { name := "runRuns", fn := fun _ => fun
  | [d1, d2, d3] => { results := [.lit (.bool false)], args := [d1, d2, d3] }
  | _ => none }
def RunRunsWrongFalsely : Prop := runRunsRow.holds Try.pinned (OpenSpec.ofChange runRunsWrong)

/-- 'narcissuslaw03.RunAfters': WHATEVER THE INPUT: true; the input reads as it did. -/
def runAftersSpec : ChangeSpec := { name := "runAfters", fn := fun _ => fun
  | [d1, d2, d3] => { results := [.lit (.bool true)], args := [d1, d2, d3] }
  | _ => none }
def runAftersRow : OpenClaim := { program := "ytagaiamjmdjenaa", sum := "daa8933312c9c208579ae265dc4cfe58bd5e04738164618b62f768b6819a629e", func := "narcissus/narcissuslaw03.RunAfters", spec := "runAfters", inPlace := ["internal/abi.NoEscape", "internal/bytealg.MakeNoZero"], unfollowed := true, recurses := true, apart := false }
def RunAftersSaid : Prop := runAftersRow.holds Try.pinned (OpenSpec.ofChange runAftersSpec)

/-- ITS FALSE NEIGHBOUR: 'it returns false'. Refute it at one input. -/
def runAftersWrong : ChangeSpec := { name := "runAfters", fn := fun _ => fun
  | [d1, d2, d3] => { results := [.lit (.bool false)], args := [d1, d2, d3] }
  | _ => none }
def RunAftersWrongFalsely : Prop := runAftersRow.holds Try.pinned (OpenSpec.ofChange runAftersWrong)

/-- 'narcissuslaw03.RunParts': WHATEVER THE INPUT: true; the input reads as it did. -/
def runPartsSpec : ChangeSpec := { name := "runParts", fn := fun _ => fun
  | [d1, d2, d3] => { results := [.lit (.bool true)], args := [d1, d2, d3] }
  | _ => none }
def runPartsRow : OpenClaim := { program := "ytagaiamjmdjenaa", sum := "daa8933312c9c208579ae265dc4cfe58bd5e04738164618b62f768b6819a629e", func := "narcissus/narcissuslaw03.RunParts", spec := "runParts", inPlace := ["internal/abi.NoEscape", "internal/bytealg.MakeNoZero"], unfollowed := true, recurses := true, apart := false }
def RunPartsSaid : Prop := runPartsRow.holds Try.pinned (OpenSpec.ofChange runPartsSpec)

/-- ITS FALSE NEIGHBOUR: 'it returns false'. Refute it at one input. -/
def runPartsWrong : ChangeSpec := { name := "runParts", fn := fun _ => fun
  | [d1, d2, d3] => { results := [.lit (.bool false)], args := [d1, d2, d3] }
  | _ => none }
def RunPartsWrongFalsely : Prop := runPartsRow.holds Try.pinned (OpenSpec.ofChange runPartsWrong)

/-- 'narcissuslaw03.RunMore': WHATEVER THE INPUT: true; the input reads as it did. -/
def runMoreSpec : ChangeSpec := { name := "runMore", fn := fun _ => fun
  | [d1, d2, d3, d4] => { results := [.lit (.bool true)], args := [d1, d2, d3, d4] }
  | _ => none }
def runMoreRow : OpenClaim := { program := "ytagaiamjmdjenaa", sum := "daa8933312c9c208579ae265dc4cfe58bd5e04738164618b62f768b6819a629e", func := "narcissus/narcissuslaw03.RunMore", spec := "runMore", inPlace := ["internal/abi.NoEscape", "internal/bytealg.MakeNoZero"], unfollowed := true, recurses := true, apart := false }
def RunMoreSaid : Prop := runMoreRow.holds Try.pinned (OpenSpec.ofChange runMoreSpec)

/-- ITS FALSE NEIGHBOUR: 'it returns false'. Refute it at one input. -/
def runMoreWrong : ChangeSpec := { name := "runMore", fn := fun _ => fun
  | [d1, d2, d3, d4] => { results := [.lit (.bool false)], args := [d1, d2, d3, d4] }
  | _ => none }
def RunMoreWrongFalsely : Prop := runMoreRow.holds Try.pinned (OpenSpec.ofChange runMoreWrong)

/-- 'narcissuslaw03.RunTouches': WHATEVER THE INPUT: true; the input reads as it did. -/
def runTouchesSpec : ChangeSpec := { name := "runTouches", fn := fun _ => fun
  | [d1, d2] => { results := [.lit (.bool true)], args := [d1, d2] }
  | _ => none }
def runTouchesRow : OpenClaim := { program := "ytagaiamjmdjenaa", sum := "daa8933312c9c208579ae265dc4cfe58bd5e04738164618b62f768b6819a629e", func := "narcissus/narcissuslaw03.RunTouches", spec := "runTouches", inPlace := ["internal/abi.NoEscape", "internal/bytealg.MakeNoZero"], unfollowed := true, recurses := true, apart := false }
def RunTouchesSaid : Prop := runTouchesRow.holds Try.pinned (OpenSpec.ofChange runTouchesSpec)

/-- ITS FALSE NEIGHBOUR: 'it returns false'. Refute it at one input. -/
def runTouchesWrong : ChangeSpec := { name := "runTouches", fn := fun _ => fun
  | [d1, d2] => { results := [.lit (.bool false)], args := [d1, d2] }
  | _ => none }
def RunTouchesWrongFalsely : Prop := runTouchesRow.holds Try.pinned (OpenSpec.ofChange runTouchesWrong)

/-- 'narcissuslaw03.RunShared': WHATEVER THE INPUT: true; the input reads as it did. -/
def runSharedSpec : ChangeSpec := { name := "runShared", fn := fun _ => fun
  | [d1, d2] => { results := [.lit (.bool true)], args := [d1, d2] }
  | _ => none }
def runSharedRow : OpenClaim := { program := "ytagaiamjmdjenaa", sum := "daa8933312c9c208579ae265dc4cfe58bd5e04738164618b62f768b6819a629e", func := "narcissus/narcissuslaw03.RunShared", spec := "runShared", inPlace := ["internal/abi.NoEscape", "internal/bytealg.MakeNoZero"], unfollowed := true, recurses := true, apart := false }
def RunSharedSaid : Prop := runSharedRow.holds Try.pinned (OpenSpec.ofChange runSharedSpec)

/-- ITS FALSE NEIGHBOUR: 'it returns false'. Refute it at one input. -/
def runSharedWrong : ChangeSpec := { name := "runShared", fn := fun _ => fun
  | [d1, d2] => { results := [.lit (.bool false)], args := [d1, d2] }
  | _ => none }
def RunSharedWrongFalsely : Prop := runSharedRow.holds Try.pinned (OpenSpec.ofChange runSharedWrong)

/- THE SECOND FORM. 'bulk': how many values and letters a reading holds, each counted each time it is reached (what is shared counts as often as it is met; a slice's spare places count too). A statement '..UptoSaid' is the law's where the arguments, and the package variables that the reading takes, are together of bulk at most 1048576: NARROWER than '..Said'. Prove '..Said' where nothing that the law and all that it calls make is longer than what came in: it says more and counts as full. Else prove '..UptoSaid'. A law counts once. -/
mutual
def uptoBulk {H : Type} : DataW H → Nat
  | .lit (.string bytes) => bytes.length + 1
  | .lit _ => 1
  | .nil => 1
  | .ptr d => uptoBulk d + 1
  | .slice elems spare => uptoBulkAll elems + uptoBulkAll spare + 1
  | .agg parts => uptoBulkAll parts + 1
  | .iface _ d => uptoBulk d + 1
  | .map entries => uptoBulkEntries entries + 1
  | .held _ => 1
def uptoBulkAll {H : Type} : List (DataW H) → Nat
  | [] => 0
  | d :: r => uptoBulk d + uptoBulkAll r
def uptoBulkEntries {H : Type} : List (Lit × DataW H) → Nat
  | [] => 0
  | x :: r => uptoBulkEntry x + uptoBulkEntries r
def uptoBulkEntry {H : Type} : Lit × DataW H → Nat
  | (.string bytes, d) => bytes.length + uptoBulk d + 1
  | (_, d) => uptoBulk d + 1
 end
def uptoSmall : (H : Type) → List (DataW H) → Bool := fun _ ds => decide (uptoBulkAll ds ≤ 1048576)
def OpenSpec.upto (s : _root_.Go.ChangeSpec) : _root_.Go.OpenSpec := { _root_.Go.OpenSpec.ofChange s with cond := some uptoSmall }

/-- 'narcissuslaw03.RunSteps', WHERE WHAT IT READS IS OF BULK AT MOST 1048576: true; the input reads as it did. -/
def runStepsUptoRow : OpenClaim := { program := "ytagaiamjmdjenaa", sum := "daa8933312c9c208579ae265dc4cfe58bd5e04738164618b62f768b6819a629e", func := "narcissus/narcissuslaw03.RunSteps", spec := "runSteps", inPlace := ["internal/abi.NoEscape", "internal/bytealg.MakeNoZero"], unfollowed := true, recurses := true, apart := false, narrowed := true }
def RunStepsUptoSaid : Prop := runStepsUptoRow.holds Try.pinned (OpenSpec.upto runStepsSpec)

/-- 'narcissuslaw03.RunRuns', WHERE WHAT IT READS IS OF BULK AT MOST 1048576: true; the input reads as it did. -/
def runRunsUptoRow : OpenClaim := { program := "ytagaiamjmdjenaa", sum := "daa8933312c9c208579ae265dc4cfe58bd5e04738164618b62f768b6819a629e", func := "narcissus/narcissuslaw03.RunRuns", spec := "runRuns", inPlace := ["internal/abi.NoEscape", "internal/bytealg.MakeNoZero"], unfollowed := true, recurses := true, apart := false, narrowed := true }
def RunRunsUptoSaid : Prop := runRunsUptoRow.holds Try.pinned (OpenSpec.upto runRunsSpec)

/-- 'narcissuslaw03.RunAfters', WHERE WHAT IT READS IS OF BULK AT MOST 1048576: true; the input reads as it did. -/
def runAftersUptoRow : OpenClaim := { program := "ytagaiamjmdjenaa", sum := "daa8933312c9c208579ae265dc4cfe58bd5e04738164618b62f768b6819a629e", func := "narcissus/narcissuslaw03.RunAfters", spec := "runAfters", inPlace := ["internal/abi.NoEscape", "internal/bytealg.MakeNoZero"], unfollowed := true, recurses := true, apart := false, narrowed := true }
def RunAftersUptoSaid : Prop := runAftersUptoRow.holds Try.pinned (OpenSpec.upto runAftersSpec)

/-- 'narcissuslaw03.RunParts', WHERE WHAT IT READS IS OF BULK AT MOST 1048576: true; the input reads as it did. -/
def runPartsUptoRow : OpenClaim := { program := "ytagaiamjmdjenaa", sum := "daa8933312c9c208579ae265dc4cfe58bd5e04738164618b62f768b6819a629e", func := "narcissus/narcissuslaw03.RunParts", spec := "runParts", inPlace := ["internal/abi.NoEscape", "internal/bytealg.MakeNoZero"], unfollowed := true, recurses := true, apart := false, narrowed := true }
def RunPartsUptoSaid : Prop := runPartsUptoRow.holds Try.pinned (OpenSpec.upto runPartsSpec)

/-- 'narcissuslaw03.RunMore', WHERE WHAT IT READS IS OF BULK AT MOST 1048576: true; the input reads as it did. -/
def runMoreUptoRow : OpenClaim := { program := "ytagaiamjmdjenaa", sum := "daa8933312c9c208579ae265dc4cfe58bd5e04738164618b62f768b6819a629e", func := "narcissus/narcissuslaw03.RunMore", spec := "runMore", inPlace := ["internal/abi.NoEscape", "internal/bytealg.MakeNoZero"], unfollowed := true, recurses := true, apart := false, narrowed := true }
def RunMoreUptoSaid : Prop := runMoreUptoRow.holds Try.pinned (OpenSpec.upto runMoreSpec)

/-- 'narcissuslaw03.RunTouches', WHERE WHAT IT READS IS OF BULK AT MOST 1048576: true; the input reads as it did. -/
def runTouchesUptoRow : OpenClaim := { program := "ytagaiamjmdjenaa", sum := "daa8933312c9c208579ae265dc4cfe58bd5e04738164618b62f768b6819a629e", func := "narcissus/narcissuslaw03.RunTouches", spec := "runTouches", inPlace := ["internal/abi.NoEscape", "internal/bytealg.MakeNoZero"], unfollowed := true, recurses := true, apart := false, narrowed := true }
def RunTouchesUptoSaid : Prop := runTouchesUptoRow.holds Try.pinned (OpenSpec.upto runTouchesSpec)

/-- 'narcissuslaw03.RunShared', WHERE WHAT IT READS IS OF BULK AT MOST 1048576: true; the input reads as it did. -/
def runSharedUptoRow : OpenClaim := { program := "ytagaiamjmdjenaa", sum := "daa8933312c9c208579ae265dc4cfe58bd5e04738164618b62f768b6819a629e", func := "narcissus/narcissuslaw03.RunShared", spec := "runShared", inPlace := ["internal/abi.NoEscape", "internal/bytealg.MakeNoZero"], unfollowed := true, recurses := true, apart := false, narrowed := true }
def RunSharedUptoSaid : Prop := runSharedUptoRow.holds Try.pinned (OpenSpec.upto runSharedSpec)

end Rows
end Go.Proofs.Ytagaiamjmdjenaa
