/-
  No cell of these rows narrows 'for every input' (looked for: loops, veiled, ifaces, maps, wideKeys, modest, calm, conditions, laid).
  DERIVED. THE GIVEN ROWS OF THIS SEAT. 9 by the template 'for every input the law returns true; each argument reads behind the call as it read before'; 0 by the template 'total and deterministic' (their statements: YtmhoacnbmbhcjabTotals.lean).
  GIVEN WITH THE SEED: the statements are not yours to turn. If you find one false, say at which input.
  Laid BY PROGRAM, IN A SANDBOX (cutbox-rows.mjs): the forced cells as the released guide's own fill.sh prints them over the translation 958bb4a07a4f23cd… (all of the seat's roots in one cut). By AI agents, Wed Nov 11 2026. No macro, syntax, notation, axiom, sorry.
-/
import Derived.Test.YtmhoacnbmbhcjabChecked
import GoSem.Claim
import GoSem.ClaimJoined
import GoSem.ClaimMapViews
import Derived.JoinedTies
import Derived.KernelRfl
namespace Go.Proofs.Ytmhoacnbmbhcjab
/- THE CELL 'sum', in the pinned program and in every row, IS THE sha256 OF THE DUMP (.gsa) THAT YtmhoacnbmbhcjabProg.lean LOADS. Nothing in Lean hashes anything: it is a label: what it is worth is what the hold of that sum in a sandbox is worth. -/
noncomputable def Try.pinned : Pinned := { name := "ytmhoacnbmbhcjab", sum := "958bb4a07a4f23cd1d24be9f20ded7f2aa1df5cbb11f93065afd682a295997a2", checked := Try.checked }
namespace Rows
def none {H : Type} : Left H := { results := [], args := [] }

/-- 'narcissuslaw04.BuildLaws': WHATEVER THE INPUT: true; the input reads as it did. -/
def buildLawsSpec : ChangeSpec := { name := "buildLaws", fn := fun _ => fun
  | [d1, d2, d3, d4, d5] => { results := [.lit (.bool true)], args := [d1, d2, d3, d4, d5] }
  | _ => none }
def buildLawsRow : OpenClaim := { program := "ytmhoacnbmbhcjab", sum := "958bb4a07a4f23cd1d24be9f20ded7f2aa1df5cbb11f93065afd682a295997a2", func := "narcissus/narcissuslaw04.BuildLaws", spec := "buildLaws", inPlace := ["internal/abi.NoEscape", "internal/bytealg.MakeNoZero"], unfollowed := true, recurses := true, apart := false }
def BuildLawsSaid : Prop := buildLawsRow.holds Try.pinned (OpenSpec.ofChange buildLawsSpec)

/-- ITS FALSE NEIGHBOUR: 'it returns false'. Refute it at one input. -/
def buildLawsWrong : ChangeSpec := { name := "buildLaws", fn := fun _ => fun
  | [d1, d2, d3, d4, d5] => { results := [.lit (.bool false)], args := [d1, d2, d3, d4, d5] }
  | _ => none }
def BuildLawsWrongFalsely : Prop := buildLawsRow.holds Try.pinned (OpenSpec.ofChange buildLawsWrong)

/-- 'narcissuslaw04.BuildMakes': WHATEVER THE INPUT: true; the input reads as it did. -/
def buildMakesSpec : ChangeSpec := { name := "buildMakes", fn := fun _ => fun
  | [d1, d2, d3, d4] => { results := [.lit (.bool true)], args := [d1, d2, d3, d4] }
  | _ => none }
def buildMakesRow : OpenClaim := { program := "ytmhoacnbmbhcjab", sum := "958bb4a07a4f23cd1d24be9f20ded7f2aa1df5cbb11f93065afd682a295997a2", func := "narcissus/narcissuslaw04.BuildMakes", spec := "buildMakes", inPlace := ["internal/abi.NoEscape", "internal/bytealg.MakeNoZero"], unfollowed := true, recurses := true, apart := false }
def BuildMakesSaid : Prop := buildMakesRow.holds Try.pinned (OpenSpec.ofChange buildMakesSpec)

/-- ITS FALSE NEIGHBOUR: 'it returns false'. Refute it at one input. -/
def buildMakesWrong : ChangeSpec := { name := "buildMakes", fn := fun _ => fun
  | [d1, d2, d3, d4] => { results := [.lit (.bool false)], args := [d1, d2, d3, d4] }
  | _ => none }
def BuildMakesWrongFalsely : Prop := buildMakesRow.holds Try.pinned (OpenSpec.ofChange buildMakesWrong)

/-- 'narcissuslaw04.BuildThens': WHATEVER THE INPUT: true; the input reads as it did. -/
def buildThensSpec : ChangeSpec := { name := "buildThens", fn := fun _ => fun
  | [d] => { results := [.lit (.bool true)], args := [d] }
  | _ => none }
def buildThensRow : OpenClaim := { program := "ytmhoacnbmbhcjab", sum := "958bb4a07a4f23cd1d24be9f20ded7f2aa1df5cbb11f93065afd682a295997a2", func := "narcissus/narcissuslaw04.BuildThens", spec := "buildThens", inPlace := ["internal/abi.NoEscape", "internal/bytealg.MakeNoZero"], unfollowed := true, recurses := true, apart := false }
def BuildThensSaid : Prop := buildThensRow.holds Try.pinned (OpenSpec.ofChange buildThensSpec)

/-- ITS FALSE NEIGHBOUR: 'it returns false'. Refute it at one input. -/
def buildThensWrong : ChangeSpec := { name := "buildThens", fn := fun _ => fun
  | [d] => { results := [.lit (.bool false)], args := [d] }
  | _ => none }
def BuildThensWrongFalsely : Prop := buildThensRow.holds Try.pinned (OpenSpec.ofChange buildThensWrong)

/-- 'narcissuslaw04.BuildRuns': WHATEVER THE INPUT: true; the input reads as it did. -/
def buildRunsSpec : ChangeSpec := { name := "buildRuns", fn := fun _ => fun
  | [d1, d2, d3, d4] => { results := [.lit (.bool true)], args := [d1, d2, d3, d4] }
  | _ => none }
def buildRunsRow : OpenClaim := { program := "ytmhoacnbmbhcjab", sum := "958bb4a07a4f23cd1d24be9f20ded7f2aa1df5cbb11f93065afd682a295997a2", func := "narcissus/narcissuslaw04.BuildRuns", spec := "buildRuns", inPlace := ["internal/abi.NoEscape", "internal/bytealg.MakeNoZero"], unfollowed := true, recurses := true, apart := false }
def BuildRunsSaid : Prop := buildRunsRow.holds Try.pinned (OpenSpec.ofChange buildRunsSpec)

/-- ITS FALSE NEIGHBOUR: 'it returns false'. Refute it at one input. -/
def buildRunsWrong : ChangeSpec := { name := "buildRuns", fn := fun _ => fun
  | [d1, d2, d3, d4] => { results := [.lit (.bool false)], args := [d1, d2, d3, d4] }
  | _ => none }
def BuildRunsWrongFalsely : Prop := buildRunsRow.holds Try.pinned (OpenSpec.ofChange buildRunsWrong)

/-- 'narcissuslaw04.BuildLoops': WHATEVER THE INPUT: true; the input reads as it did. -/
def buildLoopsSpec : ChangeSpec := { name := "buildLoops", fn := fun _ => fun
  | [d1, d2, d3] => { results := [.lit (.bool true)], args := [d1, d2, d3] }
  | _ => none }
def buildLoopsRow : OpenClaim := { program := "ytmhoacnbmbhcjab", sum := "958bb4a07a4f23cd1d24be9f20ded7f2aa1df5cbb11f93065afd682a295997a2", func := "narcissus/narcissuslaw04.BuildLoops", spec := "buildLoops", inPlace := ["internal/abi.NoEscape", "internal/bytealg.MakeNoZero"], unfollowed := true, recurses := true, apart := false }
def BuildLoopsSaid : Prop := buildLoopsRow.holds Try.pinned (OpenSpec.ofChange buildLoopsSpec)

/-- ITS FALSE NEIGHBOUR: 'it returns false'. Refute it at one input. -/
def buildLoopsWrong : ChangeSpec := { name := "buildLoops", fn := fun _ => fun
  | [d1, d2, d3] => { results := [.lit (.bool false)], args := [d1, d2, d3] }
  | _ => none }
def BuildLoopsWrongFalsely : Prop := buildLoopsRow.holds Try.pinned (OpenSpec.ofChange buildLoopsWrong)

/-- 'narcissuslaw05.SpecMakes': WHATEVER THE INPUT: true; the input reads as it did. -/
def specMakesSpec : ChangeSpec := { name := "specMakes", fn := fun _ => fun
  | [d1, d2] => { results := [.lit (.bool true)], args := [d1, d2] }
  | _ => none }
def specMakesRow : OpenClaim := { program := "ytmhoacnbmbhcjab", sum := "958bb4a07a4f23cd1d24be9f20ded7f2aa1df5cbb11f93065afd682a295997a2", func := "narcissus/narcissuslaw05.SpecMakes", spec := "specMakes", inPlace := ["internal/abi.NoEscape", "internal/bytealg.MakeNoZero"], unfollowed := true, recurses := true, apart := false }
def SpecMakesSaid : Prop := specMakesRow.holds Try.pinned (OpenSpec.ofChange specMakesSpec)

/-- ITS FALSE NEIGHBOUR: 'it returns false'. Refute it at one input. -/
def specMakesWrong : ChangeSpec := { name := "specMakes", fn := fun _ => fun
  | [d1, d2] => { results := [.lit (.bool false)], args := [d1, d2] }
  | _ => none }
def SpecMakesWrongFalsely : Prop := specMakesRow.holds Try.pinned (OpenSpec.ofChange specMakesWrong)

/-- 'narcissuslaw05.SpecSupplies': WHATEVER THE INPUT: true; the input reads as it did. -/
def specSuppliesSpec : ChangeSpec := { name := "specSupplies", fn := fun _ => fun
  | [d1, d2, d3, d4] => { results := [.lit (.bool true)], args := [d1, d2, d3, d4] }
  | _ => none }
def specSuppliesRow : OpenClaim := { program := "ytmhoacnbmbhcjab", sum := "958bb4a07a4f23cd1d24be9f20ded7f2aa1df5cbb11f93065afd682a295997a2", func := "narcissus/narcissuslaw05.SpecSupplies", spec := "specSupplies", inPlace := ["internal/abi.NoEscape", "internal/bytealg.MakeNoZero"], unfollowed := true, recurses := true, apart := false }
def SpecSuppliesSaid : Prop := specSuppliesRow.holds Try.pinned (OpenSpec.ofChange specSuppliesSpec)

/-- ITS FALSE NEIGHBOUR: 'it returns false'. Refute it at one input. -/
def specSuppliesWrong : ChangeSpec := { name := "specSupplies", fn := fun _ => fun
  | [d1, d2, d3, d4] => { results := [.lit (.bool false)], args := [d1, d2, d3, d4] }
  | _ => none }
def SpecSuppliesWrongFalsely : Prop := specSuppliesRow.holds Try.pinned (OpenSpec.ofChange specSuppliesWrong)

/-- 'narcissustop.TopComposed': WHATEVER THE INPUT: true; the input reads as it did. -/
def topComposedSpec : ChangeSpec := { name := "topComposed", fn := fun _ => fun
  | [d1, d2, d3] => { results := [.lit (.bool true)], args := [d1, d2, d3] }
  | _ => none }
def topComposedRow : OpenClaim := { program := "ytmhoacnbmbhcjab", sum := "958bb4a07a4f23cd1d24be9f20ded7f2aa1df5cbb11f93065afd682a295997a2", func := "narcissus/narcissustop.TopComposed", spec := "topComposed", apart := false }
def TopComposedSaid : Prop := topComposedRow.holds Try.pinned (OpenSpec.ofChange topComposedSpec)

/-- ITS FALSE NEIGHBOUR: 'it returns false'. Refute it at one input. -/
def topComposedWrong : ChangeSpec := { name := "topComposed", fn := fun _ => fun
  | [d1, d2, d3] => { results := [.lit (.bool false)], args := [d1, d2, d3] }
  | _ => none }
def TopComposedWrongFalsely : Prop := topComposedRow.holds Try.pinned (OpenSpec.ofChange topComposedWrong)

/-- 'narcissustop.TopLooped': WHATEVER THE INPUT: true; the input reads as it did. -/
def topLoopedSpec : ChangeSpec := { name := "topLooped", fn := fun _ => fun
  | [d1, d2, d3] => { results := [.lit (.bool true)], args := [d1, d2, d3] }
  | _ => none }
def topLoopedRow : OpenClaim := { program := "ytmhoacnbmbhcjab", sum := "958bb4a07a4f23cd1d24be9f20ded7f2aa1df5cbb11f93065afd682a295997a2", func := "narcissus/narcissustop.TopLooped", spec := "topLooped", apart := false }
def TopLoopedSaid : Prop := topLoopedRow.holds Try.pinned (OpenSpec.ofChange topLoopedSpec)

/-- ITS FALSE NEIGHBOUR: 'it returns false'. Refute it at one input. -/
def topLoopedWrong : ChangeSpec := { name := "topLooped", fn := fun _ => fun
  | [d1, d2, d3] => { results := [.lit (.bool false)], args := [d1, d2, d3] }
  | _ => none }
def TopLoopedWrongFalsely : Prop := topLoopedRow.holds Try.pinned (OpenSpec.ofChange topLoopedWrong)

/- THE SECOND FORM. 'bulk': how many values and letters a reading holds, each counted each time it is reached (what is shared counts as often as it is met; a slice's spare places count too). A statement '..UptoSaid' is the law's where the arguments, and the package variables that the reading takes, are together of bulk at most 1048576: NARROWER than '..Said'. Prove '..Said' where nothing that the law and all that it calls make is longer than what came in: it says more and counts as full. Else prove '..UptoSaid'. A law counts once. -/
mutual
def uptoBulk {H : Type} : DataW H → Nat
  | .lit (.string bytes) => bytes.length + 1
  | .lit _ => 1
  | .nil => 1
  | .ptr d => uptoBulk d + 1
  | .slice elems spare => uptoBulkAll elems + uptoBulkAll spare + 1
  | .agg parts => uptoBulkAll parts + 1
  | .iface _ d => uptoBulk d + 1
  | .map entries => uptoBulkEntries entries + 1
  | .held _ => 1
def uptoBulkAll {H : Type} : List (DataW H) → Nat
  | [] => 0
  | d :: r => uptoBulk d + uptoBulkAll r
def uptoBulkEntries {H : Type} : List (Lit × DataW H) → Nat
  | [] => 0
  | x :: r => uptoBulkEntry x + uptoBulkEntries r
def uptoBulkEntry {H : Type} : Lit × DataW H → Nat
  | (.string bytes, d) => bytes.length + uptoBulk d + 1
  | (_, d) => uptoBulk d + 1
 end
def uptoSmall : (H : Type) → List (DataW H) → Bool := fun _ ds => decide (uptoBulkAll ds ≤ 1048576)
def OpenSpec.upto (s : _root_.Go.ChangeSpec) : _root_.Go.OpenSpec := { _root_.Go.OpenSpec.ofChange s with cond := some uptoSmall }

/-- 'narcissuslaw04.BuildLaws', WHERE WHAT IT READS IS OF BULK AT MOST 1048576: true; the input reads as it did. -/
def buildLawsUptoRow : OpenClaim := { program := "ytmhoacnbmbhcjab", sum := "958bb4a07a4f23cd1d24be9f20ded7f2aa1df5cbb11f93065afd682a295997a2", func := "narcissus/narcissuslaw04.BuildLaws", spec := "buildLaws", inPlace := ["internal/abi.NoEscape", "internal/bytealg.MakeNoZero"], unfollowed := true, recurses := true, apart := false, narrowed := true }
def BuildLawsUptoSaid : Prop := buildLawsUptoRow.holds Try.pinned (OpenSpec.upto buildLawsSpec)

/-- 'narcissuslaw04.BuildMakes', WHERE WHAT IT READS IS OF BULK AT MOST 1048576: true; the input reads as it did. -/
def buildMakesUptoRow : OpenClaim := { program := "ytmhoacnbmbhcjab", sum := "958bb4a07a4f23cd1d24be9f20ded7f2aa1df5cbb11f93065afd682a295997a2", func := "narcissus/narcissuslaw04.BuildMakes", spec := "buildMakes", inPlace := ["internal/abi.NoEscape", "internal/bytealg.MakeNoZero"], unfollowed := true, recurses := true, apart := false, narrowed := true }
def BuildMakesUptoSaid : Prop := buildMakesUptoRow.holds Try.pinned (OpenSpec.upto buildMakesSpec)

/-- 'narcissuslaw04.BuildThens', WHERE WHAT IT READS IS OF BULK AT MOST 1048576: true; the input reads as it did. -/
def buildThensUptoRow : OpenClaim := { program := "ytmhoacnbmbhcjab", sum := "958bb4a07a4f23cd1d24be9f20ded7f2aa1df5cbb11f93065afd682a295997a2", func := "narcissus/narcissuslaw04.BuildThens", spec := "buildThens", inPlace := ["internal/abi.NoEscape", "internal/bytealg.MakeNoZero"], unfollowed := true, recurses := true, apart := false, narrowed := true }
def BuildThensUptoSaid : Prop := buildThensUptoRow.holds Try.pinned (OpenSpec.upto buildThensSpec)

/-- 'narcissuslaw04.BuildRuns', WHERE WHAT IT READS IS OF BULK AT MOST 1048576: true; the input reads as it did. -/
def buildRunsUptoRow : OpenClaim := { program := "ytmhoacnbmbhcjab", sum := "958bb4a07a4f23cd1d24be9f20ded7f2aa1df5cbb11f93065afd682a295997a2", func := "narcissus/narcissuslaw04.BuildRuns", spec := "buildRuns", inPlace := ["internal/abi.NoEscape", "internal/bytealg.MakeNoZero"], unfollowed := true, recurses := true, apart := false, narrowed := true }
def BuildRunsUptoSaid : Prop := buildRunsUptoRow.holds Try.pinned (OpenSpec.upto buildRunsSpec)

/-- 'narcissuslaw04.BuildLoops', WHERE WHAT IT READS IS OF BULK AT MOST 1048576: true; the input reads as it did. -/
def buildLoopsUptoRow : OpenClaim := { program := "ytmhoacnbmbhcjab", sum := "958bb4a07a4f23cd1d24be9f20ded7f2aa1df5cbb11f93065afd682a295997a2", func := "narcissus/narcissuslaw04.BuildLoops", spec := "buildLoops", inPlace := ["internal/abi.NoEscape", "internal/bytealg.MakeNoZero"], unfollowed := true, recurses := true, apart := false, narrowed := true }
def BuildLoopsUptoSaid : Prop := buildLoopsUptoRow.holds Try.pinned (OpenSpec.upto buildLoopsSpec)

/-- 'narcissuslaw05.SpecMakes', WHERE WHAT IT READS IS OF BULK AT MOST 1048576: true; the input reads as it did. -/
def specMakesUptoRow : OpenClaim := { program := "ytmhoacnbmbhcjab", sum := "958bb4a07a4f23cd1d24be9f20ded7f2aa1df5cbb11f93065afd682a295997a2", func := "narcissus/narcissuslaw05.SpecMakes", spec := "specMakes", inPlace := ["internal/abi.NoEscape", "internal/bytealg.MakeNoZero"], unfollowed := true, recurses := true, apart := false, narrowed := true }
def SpecMakesUptoSaid : Prop := specMakesUptoRow.holds Try.pinned (OpenSpec.upto specMakesSpec)

/-- 'narcissuslaw05.SpecSupplies', WHERE WHAT IT READS IS OF BULK AT MOST 1048576: true; the input reads as it did. -/
def specSuppliesUptoRow : OpenClaim := { program := "ytmhoacnbmbhcjab", sum := "958bb4a07a4f23cd1d24be9f20ded7f2aa1df5cbb11f93065afd682a295997a2", func := "narcissus/narcissuslaw05.SpecSupplies", spec := "specSupplies", inPlace := ["internal/abi.NoEscape", "internal/bytealg.MakeNoZero"], unfollowed := true, recurses := true, apart := false, narrowed := true }
def SpecSuppliesUptoSaid : Prop := specSuppliesUptoRow.holds Try.pinned (OpenSpec.upto specSuppliesSpec)

/-- 'narcissustop.TopComposed', WHERE WHAT IT READS IS OF BULK AT MOST 1048576: true; the input reads as it did. -/
def topComposedUptoRow : OpenClaim := { program := "ytmhoacnbmbhcjab", sum := "958bb4a07a4f23cd1d24be9f20ded7f2aa1df5cbb11f93065afd682a295997a2", func := "narcissus/narcissustop.TopComposed", spec := "topComposed", apart := false, narrowed := true }
def TopComposedUptoSaid : Prop := topComposedUptoRow.holds Try.pinned (OpenSpec.upto topComposedSpec)

/-- 'narcissustop.TopLooped', WHERE WHAT IT READS IS OF BULK AT MOST 1048576: true; the input reads as it did. -/
def topLoopedUptoRow : OpenClaim := { program := "ytmhoacnbmbhcjab", sum := "958bb4a07a4f23cd1d24be9f20ded7f2aa1df5cbb11f93065afd682a295997a2", func := "narcissus/narcissustop.TopLooped", spec := "topLooped", apart := false, narrowed := true }
def TopLoopedUptoSaid : Prop := topLoopedUptoRow.holds Try.pinned (OpenSpec.upto topLoopedSpec)

end Rows
end Go.Proofs.Ytmhoacnbmbhcjab
