/-
  DERIVED. GIVEN WITH THE SEED: THE CARDS: each row of YtmhoacnbmbhcjaaGreatDoorRows.lean that lists a variable, with what it lists TIED to the program's text (the seventh form; the later family's looks); each row that meets fmt, with fmt's text TOLD by the authors' own Lean function (tested against real Go, not proved from fmt's source: count such statements apart). THE CARD IS WHAT COUNTS. Prove the row's statement (the work); the ties are given (YtmhoacnbmbhcjaaGreatDoorTie.lean); close each card by the builder's one call (the guide's Derived/Test/ToyasCard.lean, 'card_holds'). Laid BY PROGRAM, IN A SANDBOX (cutbox-door.mjs). By AI agents, Wed Nov 11 2026. No macro, syntax, notation, axiom, sorry.
-/
import Derived.Test.YtmhoacnbmbhcjaaGreatDoorRows
import GoSem.ClaimSeven
namespace Go.Proofs.YtmhoacnbmbhcjaaGreatDoor
namespace Rows

/-- THE TIED CARD OF 'narcissuslaw07.KnowMakes'. -/
def knowMakesCard : Claim7 := { stood := { row := knowMakesRow, standIns := [], harness := (true, "ea5dc38c21a5d0fc0a49b89d51c86b49f85c8eeb067b62c161dc828dbf906c84"), looks := true }, kinds := [], alts := [], laidByText := true, laidKinds := [.data, .data, .data, .sentinel, .sentinel], laidTests := true, laidLooks := .later }
def KnowMakesCardSaid : Prop := Claim7.holds Tryz.pinned (.plain (OpenSpec.ofChange knowMakesSpec)) knowMakesCard

/-- THE TIED CARD OF 'narcissuslaw07.KnowFixes'. -/
def knowFixesCard : Claim7 := { stood := { row := knowFixesRow, standIns := [], harness := (true, "ea5dc38c21a5d0fc0a49b89d51c86b49f85c8eeb067b62c161dc828dbf906c84"), looks := true }, kinds := [], alts := [], laidByText := true, laidKinds := [.data, .data, .data, .sentinel, .sentinel], laidTests := true, laidLooks := .later }
def KnowFixesCardSaid : Prop := Claim7.holds Tryz.pinned (.plain (OpenSpec.ofChange knowFixesSpec)) knowFixesCard

/-- THE TIED CARD OF 'narcissuslaw07.KnowSelf'. -/
def knowSelfCard : Claim7 := { stood := { row := knowSelfRow, standIns := [], harness := (true, "ea5dc38c21a5d0fc0a49b89d51c86b49f85c8eeb067b62c161dc828dbf906c84"), looks := true }, kinds := [], alts := [], laidByText := true, laidKinds := [.data, .data, .data, .sentinel, .sentinel], laidTests := true, laidLooks := .later }
def KnowSelfCardSaid : Prop := Claim7.holds Tryz.pinned (.plain (OpenSpec.ofChange knowSelfSpec)) knowSelfCard

/-- THE TIED CARD OF 'narcissuslaw07.KnowRuns'. -/
def knowRunsCard : Claim7 := { stood := { row := knowRunsRow, standIns := [], harness := (true, "ea5dc38c21a5d0fc0a49b89d51c86b49f85c8eeb067b62c161dc828dbf906c84"), looks := true }, kinds := [], alts := [], laidByText := true, laidKinds := [.data, .data, .data, .sentinel, .sentinel], laidTests := true, laidLooks := .later }
def KnowRunsCardSaid : Prop := Claim7.holds Tryz.pinned (.plain (OpenSpec.ofChange knowRunsSpec)) knowRunsCard

/-- THE TIED CARD OF 'narcissuslaw07.KnowFixed'. -/
def knowFixedCard : Claim7 := { stood := { row := knowFixedRow, standIns := [], harness := (true, "ea5dc38c21a5d0fc0a49b89d51c86b49f85c8eeb067b62c161dc828dbf906c84"), looks := true }, kinds := [], alts := [], laidByText := true, laidKinds := [.data, .data, .data, .sentinel, .sentinel], laidTests := true, laidLooks := .later }
def KnowFixedCardSaid : Prop := Claim7.holds Tryz.pinned (.plain (OpenSpec.ofChange knowFixedSpec)) knowFixedCard

/-- THE TIED CARD OF 'narcissuslaw07.KnowItself'. -/
def knowItselfCard : Claim7 := { stood := { row := knowItselfRow, standIns := [], harness := (true, "ea5dc38c21a5d0fc0a49b89d51c86b49f85c8eeb067b62c161dc828dbf906c84"), looks := true }, kinds := [], alts := [], laidByText := true, laidKinds := [.data, .data, .data, .sentinel, .sentinel], laidTests := true, laidLooks := .later }
def KnowItselfCardSaid : Prop := Claim7.holds Tryz.pinned (.plain (OpenSpec.ofChange knowItselfSpec)) knowItselfCard

/-- THE TIED CARD OF 'narcissuslaw07.KnowDifferent'. -/
def knowDifferentCard : Claim7 := { stood := { row := knowDifferentRow, standIns := [], harness := (true, "ea5dc38c21a5d0fc0a49b89d51c86b49f85c8eeb067b62c161dc828dbf906c84"), looks := true }, kinds := [], alts := [], laidByText := true, laidKinds := [.data, .data, .data, .sentinel, .sentinel], laidTests := true, laidLooks := .later }
def KnowDifferentCardSaid : Prop := Claim7.holds Tryz.pinned (.plain (OpenSpec.ofChange knowDifferentSpec)) knowDifferentCard

/-- THE TIED CARD OF 'narcissuslaw05.SpecMeta'. -/
def specMetaCard : Claim7 := { stood := { row := specMetaRow, standIns := [], harness := (true, "ea5dc38c21a5d0fc0a49b89d51c86b49f85c8eeb067b62c161dc828dbf906c84"), looks := true }, kinds := [], alts := [], laidByText := true, laidKinds := [.data, .data, .data, .sentinel, .sentinel], laidTests := true, laidLooks := .later }
def SpecMetaCardSaid : Prop := Claim7.holds Tryz.pinned (.plain (OpenSpec.ofChange specMetaSpec)) specMetaCard

/-- THE TIED CARD OF 'narcissuslaw05.SpecFound'. -/
def specFoundCard : Claim7 := { stood := { row := specFoundRow, standIns := [], harness := (true, "ea5dc38c21a5d0fc0a49b89d51c86b49f85c8eeb067b62c161dc828dbf906c84"), looks := true }, kinds := [], alts := [], laidByText := true, laidKinds := [.data, .data, .data, .sentinel, .sentinel], laidTests := true, laidLooks := .later }
def SpecFoundCardSaid : Prop := Claim7.holds Tryz.pinned (.plain (OpenSpec.ofChange specFoundSpec)) specFoundCard

/-- THE TIED CARD OF 'narcissuslaw05.SpecAgain'. -/
def specAgainCard : Claim7 := { stood := { row := specAgainRow, standIns := [], harness := (true, "ea5dc38c21a5d0fc0a49b89d51c86b49f85c8eeb067b62c161dc828dbf906c84"), looks := true }, kinds := [], alts := [], laidByText := true, laidKinds := [.data, .data, .data, .sentinel, .sentinel], laidTests := true, laidLooks := .later }
def SpecAgainCardSaid : Prop := Claim7.holds Tryz.pinned (.plain (OpenSpec.ofChange specAgainSpec)) specAgainCard

/-- THE TIED CARD OF 'narcissuslaw06.UnivTowers'. -/
def univTowersCard : Claim7 := { stood := { row := univTowersRow, standIns := [], harness := (true, "ea5dc38c21a5d0fc0a49b89d51c86b49f85c8eeb067b62c161dc828dbf906c84"), looks := true }, kinds := [], alts := [], laidByText := true, laidKinds := [.data, .data, .data, .sentinel, .sentinel], laidTests := true, laidLooks := .later }
def UnivTowersCardSaid : Prop := Claim7.holds Tryz.pinned (.plain (OpenSpec.ofChange univTowersSpec)) univTowersCard

/-- THE TIED CARD OF 'narcissuslaw02.CodeParses'. -/
def codeParsesCard : Claim7 := { stood := { row := codeParsesRow, standIns := [], harness := (true, "ea5dc38c21a5d0fc0a49b89d51c86b49f85c8eeb067b62c161dc828dbf906c84"), looks := true }, kinds := [], alts := [], laidByText := true, laidKinds := [.data, .data, .data, .data, .sentinel, .sentinel, .pinned], laidTests := true, laidLooks := .later }
def CodeParsesCardSaid : Prop := Claim7.holds Tryz.pinned (.plain (OpenSpec.ofChange codeParsesSpec)) codeParsesCard

/-- THE SECOND FORM's CARD OF 'narcissuslaw07.KnowMakes'. -/
def knowMakesUptoCard : Claim7 := { stood := { row := knowMakesUptoRow, standIns := [], harness := (true, "ea5dc38c21a5d0fc0a49b89d51c86b49f85c8eeb067b62c161dc828dbf906c84"), looks := true }, kinds := [], alts := [], laidByText := true, laidKinds := [.data, .data, .data, .sentinel, .sentinel], laidTests := true, laidLooks := .later }
def KnowMakesUptoCardSaid : Prop := Claim7.holds Tryz.pinned (.plain (OpenSpec.upto knowMakesSpec)) knowMakesUptoCard

/-- THE SECOND FORM's CARD OF 'narcissuslaw07.KnowFixes'. -/
def knowFixesUptoCard : Claim7 := { stood := { row := knowFixesUptoRow, standIns := [], harness := (true, "ea5dc38c21a5d0fc0a49b89d51c86b49f85c8eeb067b62c161dc828dbf906c84"), looks := true }, kinds := [], alts := [], laidByText := true, laidKinds := [.data, .data, .data, .sentinel, .sentinel], laidTests := true, laidLooks := .later }
def KnowFixesUptoCardSaid : Prop := Claim7.holds Tryz.pinned (.plain (OpenSpec.upto knowFixesSpec)) knowFixesUptoCard

/-- THE SECOND FORM's CARD OF 'narcissuslaw07.KnowSelf'. -/
def knowSelfUptoCard : Claim7 := { stood := { row := knowSelfUptoRow, standIns := [], harness := (true, "ea5dc38c21a5d0fc0a49b89d51c86b49f85c8eeb067b62c161dc828dbf906c84"), looks := true }, kinds := [], alts := [], laidByText := true, laidKinds := [.data, .data, .data, .sentinel, .sentinel], laidTests := true, laidLooks := .later }
def KnowSelfUptoCardSaid : Prop := Claim7.holds Tryz.pinned (.plain (OpenSpec.upto knowSelfSpec)) knowSelfUptoCard

/-- THE SECOND FORM's CARD OF 'narcissuslaw07.KnowRuns'. -/
def knowRunsUptoCard : Claim7 := { stood := { row := knowRunsUptoRow, standIns := [], harness := (true, "ea5dc38c21a5d0fc0a49b89d51c86b49f85c8eeb067b62c161dc828dbf906c84"), looks := true }, kinds := [], alts := [], laidByText := true, laidKinds := [.data, .data, .data, .sentinel, .sentinel], laidTests := true, laidLooks := .later }
def KnowRunsUptoCardSaid : Prop := Claim7.holds Tryz.pinned (.plain (OpenSpec.upto knowRunsSpec)) knowRunsUptoCard

/-- THE SECOND FORM's CARD OF 'narcissuslaw07.KnowFixed'. -/
def knowFixedUptoCard : Claim7 := { stood := { row := knowFixedUptoRow, standIns := [], harness := (true, "ea5dc38c21a5d0fc0a49b89d51c86b49f85c8eeb067b62c161dc828dbf906c84"), looks := true }, kinds := [], alts := [], laidByText := true, laidKinds := [.data, .data, .data, .sentinel, .sentinel], laidTests := true, laidLooks := .later }
def KnowFixedUptoCardSaid : Prop := Claim7.holds Tryz.pinned (.plain (OpenSpec.upto knowFixedSpec)) knowFixedUptoCard

/-- THE SECOND FORM's CARD OF 'narcissuslaw07.KnowItself'. -/
def knowItselfUptoCard : Claim7 := { stood := { row := knowItselfUptoRow, standIns := [], harness := (true, "ea5dc38c21a5d0fc0a49b89d51c86b49f85c8eeb067b62c161dc828dbf906c84"), looks := true }, kinds := [], alts := [], laidByText := true, laidKinds := [.data, .data, .data, .sentinel, .sentinel], laidTests := true, laidLooks := .later }
def KnowItselfUptoCardSaid : Prop := Claim7.holds Tryz.pinned (.plain (OpenSpec.upto knowItselfSpec)) knowItselfUptoCard

/-- THE SECOND FORM's CARD OF 'narcissuslaw07.KnowDifferent'. -/
def knowDifferentUptoCard : Claim7 := { stood := { row := knowDifferentUptoRow, standIns := [], harness := (true, "ea5dc38c21a5d0fc0a49b89d51c86b49f85c8eeb067b62c161dc828dbf906c84"), looks := true }, kinds := [], alts := [], laidByText := true, laidKinds := [.data, .data, .data, .sentinel, .sentinel], laidTests := true, laidLooks := .later }
def KnowDifferentUptoCardSaid : Prop := Claim7.holds Tryz.pinned (.plain (OpenSpec.upto knowDifferentSpec)) knowDifferentUptoCard

/-- THE SECOND FORM's CARD OF 'narcissuslaw05.SpecMeta'. -/
def specMetaUptoCard : Claim7 := { stood := { row := specMetaUptoRow, standIns := [], harness := (true, "ea5dc38c21a5d0fc0a49b89d51c86b49f85c8eeb067b62c161dc828dbf906c84"), looks := true }, kinds := [], alts := [], laidByText := true, laidKinds := [.data, .data, .data, .sentinel, .sentinel], laidTests := true, laidLooks := .later }
def SpecMetaUptoCardSaid : Prop := Claim7.holds Tryz.pinned (.plain (OpenSpec.upto specMetaSpec)) specMetaUptoCard

/-- THE SECOND FORM's CARD OF 'narcissuslaw05.SpecFound'. -/
def specFoundUptoCard : Claim7 := { stood := { row := specFoundUptoRow, standIns := [], harness := (true, "ea5dc38c21a5d0fc0a49b89d51c86b49f85c8eeb067b62c161dc828dbf906c84"), looks := true }, kinds := [], alts := [], laidByText := true, laidKinds := [.data, .data, .data, .sentinel, .sentinel], laidTests := true, laidLooks := .later }
def SpecFoundUptoCardSaid : Prop := Claim7.holds Tryz.pinned (.plain (OpenSpec.upto specFoundSpec)) specFoundUptoCard

/-- THE SECOND FORM's CARD OF 'narcissuslaw05.SpecAgain'. -/
def specAgainUptoCard : Claim7 := { stood := { row := specAgainUptoRow, standIns := [], harness := (true, "ea5dc38c21a5d0fc0a49b89d51c86b49f85c8eeb067b62c161dc828dbf906c84"), looks := true }, kinds := [], alts := [], laidByText := true, laidKinds := [.data, .data, .data, .sentinel, .sentinel], laidTests := true, laidLooks := .later }
def SpecAgainUptoCardSaid : Prop := Claim7.holds Tryz.pinned (.plain (OpenSpec.upto specAgainSpec)) specAgainUptoCard

/-- THE SECOND FORM's CARD OF 'narcissuslaw06.UnivTowers'. -/
def univTowersUptoCard : Claim7 := { stood := { row := univTowersUptoRow, standIns := [], harness := (true, "ea5dc38c21a5d0fc0a49b89d51c86b49f85c8eeb067b62c161dc828dbf906c84"), looks := true }, kinds := [], alts := [], laidByText := true, laidKinds := [.data, .data, .data, .sentinel, .sentinel], laidTests := true, laidLooks := .later }
def UnivTowersUptoCardSaid : Prop := Claim7.holds Tryz.pinned (.plain (OpenSpec.upto univTowersSpec)) univTowersUptoCard

/-- THE SECOND FORM's CARD OF 'narcissuslaw02.CodeParses'. -/
def codeParsesUptoCard : Claim7 := { stood := { row := codeParsesUptoRow, standIns := [], harness := (true, "ea5dc38c21a5d0fc0a49b89d51c86b49f85c8eeb067b62c161dc828dbf906c84"), looks := true }, kinds := [], alts := [], laidByText := true, laidKinds := [.data, .data, .data, .data, .sentinel, .sentinel, .pinned], laidTests := true, laidLooks := .later }
def CodeParsesUptoCardSaid : Prop := Claim7.holds Tryz.pinned (.plain (OpenSpec.upto codeParsesSpec)) codeParsesUptoCard
end Rows
end Go.Proofs.YtmhoacnbmbhcjaaGreatDoor
