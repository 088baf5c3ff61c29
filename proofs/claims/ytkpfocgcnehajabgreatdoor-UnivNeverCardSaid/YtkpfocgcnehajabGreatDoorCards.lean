/-
  DERIVED. GIVEN WITH THE SEED: THE CARDS: each row of YtkpfocgcnehajabGreatDoorRows.lean that lists a variable, with what it lists TIED to the program's text (the seventh form; the later family's looks); each row that meets fmt, with fmt's text TOLD by the authors' own Lean function (tested against real Go, not proved from fmt's source: count such statements apart). THE CARD IS WHAT COUNTS. Prove the row's statement (the work); the ties are given (YtkpfocgcnehajabGreatDoorTie.lean); close each card by the builder's one call (the guide's Derived/Test/ToyasCard.lean, 'card_holds'). Laid BY PROGRAM, IN A SANDBOX (cutbox-door.mjs). By AI agents, Wed Nov 11 2026. No macro, syntax, notation, axiom, sorry.
-/
import Derived.Test.YtkpfocgcnehajabGreatDoorRows
import GoSem.ClaimSeven
namespace Go.Proofs.YtkpfocgcnehajabGreatDoor
namespace Rows

/-- THE TIED CARD OF 'narcissuslaw05.SpecFound'. -/
def specFoundCard : Claim7 := { stood := { row := specFoundRow, standIns := [], harness := (true, "80dae621360e169178125373483de153c9912782ed27dcaa17776799aeebb446"), looks := true }, kinds := [], alts := [], laidByText := true, laidKinds := [.data, .data, .data, .sentinel, .sentinel], laidTests := true, laidLooks := .later }
def SpecFoundCardSaid : Prop := Claim7.holds Tryz.pinned (.plain (OpenSpec.ofChange specFoundSpec)) specFoundCard

/-- THE TIED CARD OF 'narcissuslaw05.SpecAgain'. -/
def specAgainCard : Claim7 := { stood := { row := specAgainRow, standIns := [], harness := (true, "80dae621360e169178125373483de153c9912782ed27dcaa17776799aeebb446"), looks := true }, kinds := [], alts := [], laidByText := true, laidKinds := [.data, .data, .data, .sentinel, .sentinel], laidTests := true, laidLooks := .later }
def SpecAgainCardSaid : Prop := Claim7.holds Tryz.pinned (.plain (OpenSpec.ofChange specAgainSpec)) specAgainCard

/-- THE TIED CARD OF 'narcissustop.TopSpec'. -/
def topSpecCard : Claim7 := { stood := { row := topSpecRow, standIns := [], harness := (true, "80dae621360e169178125373483de153c9912782ed27dcaa17776799aeebb446"), looks := true }, kinds := [], alts := [], laidByText := true, laidKinds := [.data, .data, .data, .sentinel, .sentinel], laidTests := true, laidLooks := .later }
def TopSpecCardSaid : Prop := Claim7.holds Tryz.pinned (.plain (OpenSpec.ofChange topSpecSpec)) topSpecCard

/-- THE TIED CARD OF 'narcissuslaw06.UnivTowers'. -/
def univTowersCard : Claim7 := { stood := { row := univTowersRow, standIns := [], harness := (true, "80dae621360e169178125373483de153c9912782ed27dcaa17776799aeebb446"), looks := true }, kinds := [], alts := [], laidByText := true, laidKinds := [.data, .data, .data, .sentinel, .sentinel], laidTests := true, laidLooks := .later }
def UnivTowersCardSaid : Prop := Claim7.holds Tryz.pinned (.plain (OpenSpec.ofChange univTowersSpec)) univTowersCard

/-- THE TIED CARD OF 'narcissuslaw06.UnivRuns'. -/
def univRunsCard : Claim7 := { stood := { row := univRunsRow, standIns := [], harness := (true, "80dae621360e169178125373483de153c9912782ed27dcaa17776799aeebb446"), looks := true }, kinds := [], alts := [], laidByText := true, laidKinds := [.data, .data, .data], laidTests := true, laidLooks := .later }
def UnivRunsCardSaid : Prop := Claim7.holds Tryz.pinned (.plain (OpenSpec.ofChange univRunsSpec)) univRunsCard

/-- THE TIED CARD OF 'narcissuslaw06.UnivNever'. -/
def univNeverCard : Claim7 := { stood := { row := univNeverRow, standIns := [], harness := (true, "80dae621360e169178125373483de153c9912782ed27dcaa17776799aeebb446"), looks := true }, kinds := [], alts := [], laidByText := true, laidKinds := [.data, .data, .data], laidTests := true, laidLooks := .later }
def UnivNeverCardSaid : Prop := Claim7.holds Tryz.pinned (.plain (OpenSpec.ofChange univNeverSpec)) univNeverCard

/-- THE TIED CARD OF 'narcissuslaw06.UnivItself'. -/
def univItselfCard : Claim7 := { stood := { row := univItselfRow, standIns := [], harness := (true, "80dae621360e169178125373483de153c9912782ed27dcaa17776799aeebb446"), looks := true }, kinds := [], alts := [], laidByText := true, laidKinds := [.data, .data, .data], laidTests := true, laidLooks := .later }
def UnivItselfCardSaid : Prop := Claim7.holds Tryz.pinned (.plain (OpenSpec.ofChange univItselfSpec)) univItselfCard

/-- THE TIED CARD OF 'narcissuslaw06.UnivHeads'. -/
def univHeadsCard : Claim7 := { stood := { row := univHeadsRow, standIns := [], harness := (true, "80dae621360e169178125373483de153c9912782ed27dcaa17776799aeebb446"), looks := true }, kinds := [], alts := [], laidByText := true, laidKinds := [.data, .data, .data], laidTests := true, laidLooks := .later }
def UnivHeadsCardSaid : Prop := Claim7.holds Tryz.pinned (.plain (OpenSpec.ofChange univHeadsSpec)) univHeadsCard

/-- THE SECOND FORM's CARD OF 'narcissuslaw05.SpecFound'. -/
def specFoundUptoCard : Claim7 := { stood := { row := specFoundUptoRow, standIns := [], harness := (true, "80dae621360e169178125373483de153c9912782ed27dcaa17776799aeebb446"), looks := true }, kinds := [], alts := [], laidByText := true, laidKinds := [.data, .data, .data, .sentinel, .sentinel], laidTests := true, laidLooks := .later }
def SpecFoundUptoCardSaid : Prop := Claim7.holds Tryz.pinned (.plain (OpenSpec.upto specFoundSpec)) specFoundUptoCard

/-- THE SECOND FORM's CARD OF 'narcissuslaw05.SpecAgain'. -/
def specAgainUptoCard : Claim7 := { stood := { row := specAgainUptoRow, standIns := [], harness := (true, "80dae621360e169178125373483de153c9912782ed27dcaa17776799aeebb446"), looks := true }, kinds := [], alts := [], laidByText := true, laidKinds := [.data, .data, .data, .sentinel, .sentinel], laidTests := true, laidLooks := .later }
def SpecAgainUptoCardSaid : Prop := Claim7.holds Tryz.pinned (.plain (OpenSpec.upto specAgainSpec)) specAgainUptoCard

/-- THE SECOND FORM's CARD OF 'narcissustop.TopSpec'. -/
def topSpecUptoCard : Claim7 := { stood := { row := topSpecUptoRow, standIns := [], harness := (true, "80dae621360e169178125373483de153c9912782ed27dcaa17776799aeebb446"), looks := true }, kinds := [], alts := [], laidByText := true, laidKinds := [.data, .data, .data, .sentinel, .sentinel], laidTests := true, laidLooks := .later }
def TopSpecUptoCardSaid : Prop := Claim7.holds Tryz.pinned (.plain (OpenSpec.upto topSpecSpec)) topSpecUptoCard

/-- THE SECOND FORM's CARD OF 'narcissuslaw06.UnivTowers'. -/
def univTowersUptoCard : Claim7 := { stood := { row := univTowersUptoRow, standIns := [], harness := (true, "80dae621360e169178125373483de153c9912782ed27dcaa17776799aeebb446"), looks := true }, kinds := [], alts := [], laidByText := true, laidKinds := [.data, .data, .data, .sentinel, .sentinel], laidTests := true, laidLooks := .later }
def UnivTowersUptoCardSaid : Prop := Claim7.holds Tryz.pinned (.plain (OpenSpec.upto univTowersSpec)) univTowersUptoCard

/-- THE SECOND FORM's CARD OF 'narcissuslaw06.UnivRuns'. -/
def univRunsUptoCard : Claim7 := { stood := { row := univRunsUptoRow, standIns := [], harness := (true, "80dae621360e169178125373483de153c9912782ed27dcaa17776799aeebb446"), looks := true }, kinds := [], alts := [], laidByText := true, laidKinds := [.data, .data, .data], laidTests := true, laidLooks := .later }
def UnivRunsUptoCardSaid : Prop := Claim7.holds Tryz.pinned (.plain (OpenSpec.upto univRunsSpec)) univRunsUptoCard

/-- THE SECOND FORM's CARD OF 'narcissuslaw06.UnivNever'. -/
def univNeverUptoCard : Claim7 := { stood := { row := univNeverUptoRow, standIns := [], harness := (true, "80dae621360e169178125373483de153c9912782ed27dcaa17776799aeebb446"), looks := true }, kinds := [], alts := [], laidByText := true, laidKinds := [.data, .data, .data], laidTests := true, laidLooks := .later }
def UnivNeverUptoCardSaid : Prop := Claim7.holds Tryz.pinned (.plain (OpenSpec.upto univNeverSpec)) univNeverUptoCard

/-- THE SECOND FORM's CARD OF 'narcissuslaw06.UnivItself'. -/
def univItselfUptoCard : Claim7 := { stood := { row := univItselfUptoRow, standIns := [], harness := (true, "80dae621360e169178125373483de153c9912782ed27dcaa17776799aeebb446"), looks := true }, kinds := [], alts := [], laidByText := true, laidKinds := [.data, .data, .data], laidTests := true, laidLooks := .later }
def UnivItselfUptoCardSaid : Prop := Claim7.holds Tryz.pinned (.plain (OpenSpec.upto univItselfSpec)) univItselfUptoCard

/-- THE SECOND FORM's CARD OF 'narcissuslaw06.UnivHeads'. -/
def univHeadsUptoCard : Claim7 := { stood := { row := univHeadsUptoRow, standIns := [], harness := (true, "80dae621360e169178125373483de153c9912782ed27dcaa17776799aeebb446"), looks := true }, kinds := [], alts := [], laidByText := true, laidKinds := [.data, .data, .data], laidTests := true, laidLooks := .later }
def UnivHeadsUptoCardSaid : Prop := Claim7.holds Tryz.pinned (.plain (OpenSpec.upto univHeadsSpec)) univHeadsUptoCard
end Rows
end Go.Proofs.YtkpfocgcnehajabGreatDoor
